import Derived.Test.YtldbmdgpdolaaaaGreatDoorPGroupP
import Derived.Test.YtldbmdgpdolaaaaGreatDoorPXSettleMath
import Derived.Test.YtldbmdgpdolaaaaGreatDoorPGroupB
namespace Go.Proofs.YtldbmdgpdolaaaaGreatDoor
open Go Go.RowKit

def Fit2 (z : Int) : Prop := -1 ≤ z ∧ z ≤ 2000
theorem Fit2.wf {z : Int} (h : Fit2 z) : (Lit.int .i64 z).wf = true := WalkArith.wf_i64 (by unfold Fit2 at h; omega)
def FitG (g : List (Int × Int)) : Prop := ∀ q ∈ g, Fit2 q.1 ∧ Fit2 q.2
structure GoneMap (g : List (Int × Int)) (D : Dat) : Prop where
  has : ∀ z : Int, Maps.has D (.int .i64 z) = (lookG g z).isSome
  key : ∀ (z b : Int) (zd : Dat), lookG g z = some b → D.atKey (.int .i64 z) zd = .lit (.int .i64 b)
  size : Maps.size D = g.length
theorem GoneMap.nil : GoneMap [] (.map [] : Dat) := ⟨fun z => by simp [lookG, Maps.has], fun z b zd h => (by cases h), rfl⟩
theorem GoneMap.add {g : List (Int × Int)} {D : Dat} (h : GoneMap g D) (hT : Maps.Tidy D) {a b : Int} (ha : ∀ p ∈ g, p.1 ≠ a) : GoneMap (g ++ [(a, b)]) (D.put (.int .i64 a) (.lit (.int .i64 b))) := by
  have hn := lookG_none.2 ha
  refine ⟨fun z => ?_, fun z c zd hz => ?_, ?_⟩
  · rw [has_put hT.isMap, h.has, lookG_append]
    by_cases e : z = a
    · subst e; rw [hn]; simp [lookG]
    · simp [lookG, e]
  · rw [lookG_append] at hz
    by_cases e : z = a
    · subst e
      rw [hn] at hz
      have : b = c := by simpa [lookG] using hz
      subst this
      exact Maps.atKey_put_same hT.isMap (show WideAt.IsKeyLit (.int .i64 z) from trivial) _ _
    · rw [Maps.atKey_put_other (by simpa using e)]
      refine h.key z c zd ?_
      simpa [lookG, e] using hz
  · rw [Maps.size_put hT, h.has, hn, h.size]; simp
structure GoneAt (w : World) (R B m : Nat) (g : List (Int × Int)) : Prop where
  cell : w.cell? ⟨R, 0, none⟩ = some (.map (some B))
  map : ∃ D, MapAt w B m D ∧ GoneMap g D
  ok : GoneOk g
  fit : FitG g
theorem lookG_mem {g : List (Int × Int)} {z b : Int} (h : lookG g z = some b) : (z, b) ∈ g := by
  induction g with
  | nil => cases h
  | cons p g ih =>
    rw [lookG] at h
    by_cases e : z = p.1
    · rw [if_pos e] at h
      have : p.2 = b := by simpa using h
      rw [e, ← this]; exact List.mem_cons_self
    · rw [if_neg e] at h; exact List.mem_cons_of_mem _ (ih h)
theorem stG_fit {g : List (Int × Int)} (h : FitG g) : ∀ {v : Int}, Fit2 v → Fit2 (stG g v) := by
  induction g with
  | nil => intro v hv; exact hv
  | cons p g ih =>
    intro v hv
    rw [stG]
    refine ih (fun q hq => h q (List.mem_cons_of_mem _ hq)) ?_
    split
    · exact (h p List.mem_cons_self).2
    · exact hv
set_option maxRecDepth 100000 in
theorem stands_any2 {g : List (Int × Int)} {R B m : Nat} (w : World) (h : GoneAt w R B m g) (v : Int) (hv : Fit2 v) :
    Calls Tryz.prog 75 #[.int .i64 v, .pointer (some ⟨R, 0, none⟩)] w fun e w' => e = .returned (.int .i64 (stG g v)) ∧ w' = w := by
  obtain ⟨D, hM, hD⟩ := h.map
  have hc := h.cell
  have HD : Hid (GoneMap g D) := hD
  have HOK : Hid (GoneOk g) := h.ok
  have HFT : Hid (FitG g) := h.fit
  have HV : Hid (Fit2 v) := hv
  have wfv := hv.wf
  clear hD h hv
  go_enter Tryz.func75, Tryz.ntmps75
  go_upto_region 2 with (at_lookup; refine wpList_lookup_own_ok_int _ rfl _ _ 117 rfl 3 3 .i64 mlaw Tryz.underlying117 Tryz.underlying3 (zero_int _) B m D rfl hM _ _ rfl (Maps.keyOf_int_mk Tryz.underlying3 wfv) ?_; intro c hatc hwc)
  have HC : Hid (lookG g v = if Maps.has D (.int .i64 v) = true then some c else none) := by
    show _ = _
    rw [HD.out.has]
    rcases hl : lookG g v with _ | b
    · rfl
    · rw [HD.out.key v b _ hl] at hatc
      have : b = c := by simpa using hatc
      rw [this]; rfl
  clear hatc hwc wfv
  go_loopw [0, 4, 5] (fun a o k wr => ∃ (v' o' : Int) (b : Bool), a = .int .i64 v' ∧ o = .int .i64 o' ∧ k = .bool b ∧ Fit2 v' ∧ stG g v' = stG g v ∧ lookG g v' = (if b = true then some o' else none) ∧ wr = w) (fun a _ _ _ => g.length - posG g (intOf a))
  case atStart => exact ⟨v, c, _, rfl, rfl, rfl, HV.out, rfl, HC.out, rfl⟩
  case round =>
    obtain ⟨v', o', b, rfl, rfl, rfl, hf, hst, hlk, hwr⟩ := hrel
    have hwr := hwr.symm
    subst hwr
    have HST : Hid (stG g v' = stG g v) := hst
    cases b
    · have HL : Hid (lookG g v' = none) := hlk
      clear hst hlk
      go_wp2
      go_ret
      exact ⟨by rw [← HST.out, HOK.out.done HL.out]; rfl, by trivial⟩
    · have HL : Hid (lookG g v' = some o') := hlk
      have HS := HOK.out.step HL.out
      have HS1 : Hid (stG g o' = stG g v') := HS.1
      have HS2 : Hid (posG g v' < posG g o') := HS.2
      have HFO : Hid (Fit2 o') := (HFT.out _ (lookG_mem HL.out)).2
      have wfo := HFO.out.wf
      clear hst hlk HS hf
      go_wp2_with (at_lookup; refine wpList_lookup_own_ok_int _ rfl _ _ 117 rfl 3 3 .i64 mlaw Tryz.underlying117 Tryz.underlying3 (zero_int _) B m D rfl hM _ _ rfl (Maps.keyOf_int_mk Tryz.underlying3 wfo) ?_; intro c2 hatc2 hwc2)
      go_roundw
      case rel =>
        refine ⟨o', c2, _, rfl, rfl, rfl, HFO.out, by rw [HS1.out, HST.out], ?_, by trivial⟩
        rw [HD.out.has]
        rcases hl : lookG g o' with _ | b
        · rfl
        · rw [HD.out.key o' b _ hl] at hatc2
          have : b = c2 := by simpa using hatc2
          rw [this]; rfl
      case measure =>
        have h1 := HS2.out
        have h2 := posG_lt.2 ⟨o', HL.out⟩
        simp only [intOf]; omega
theorem GoneAt.below {w w' : World} {R B m : Nat} {g : List (Int × Int)} (h : GoneAt w R B m g) (hb : Below w.heap.size w w') : GoneAt w' R B m g := by
  obtain ⟨D, hM, hD⟩ := h.map
  exact ⟨keeps_below hb _ _ h.cell, ⟨D, hM.kept (gb_below none hb) (by simp), hD⟩, h.ok, h.fit⟩
abbrev standsV (R : Nat) : Value := .func (.func 75) #[] #[.pointer (some ⟨R, 0, none⟩)]
set_option maxRecDepth 100000 in
set_option maxHeartbeats 1000000 in
theorem lone_any {g : List (Int × Int)} {R B m : Nat} (w : World) (h : GoneAt w R B m g) (reg id : Int) (args : List Int) (va : Value) (hva : IntsVal w va args) (hf : ∀ a ∈ args, Fit2 a) :
    Calls Tryz.prog 77 #[.agg #[.int .i64 reg, .int .i64 id, va], standsV R] w fun e w' => e = .returned (.int .i64 (loneG g id (-1) args)) ∧ Below w.heap.size w w' := by
  obtain ⟨ao, pb, po, n, cap, rfl, hl, ha, hc, hcp, hm⟩ := ints_get hva
  have HB : Hid (Below w.heap.size w (w.alloc (.cells #[.int .i64 reg, .int .i64 id, .slice ao n cap] 72))) := (Below.refl _ _).alloc (Nat.le_refl _) _
  have k1 : (w.alloc (.cells #[.int .i64 reg, .int .i64 id, .slice ao n cap] 72)).cell? ⟨w.heap.size, 1, none⟩ = some (.int .i64 id) := by rw [cell_of_row _ _ _ _ _ _ (heap_alloc_last w _)]; rfl
  have k2 : (w.alloc (.cells #[.int .i64 reg, .int .i64 id, .slice ao n cap] 72)).cell? ⟨w.heap.size, 2, none⟩ = some (.slice ao n cap) := by rw [cell_of_row _ _ _ _ _ _ (heap_alloc_last w _)]; rfl
  have HG : Hid (∀ v, Fit2 v → Calls Tryz.prog 75 #[.int .i64 v, .pointer (some ⟨R, 0, none⟩)] (w.alloc (.cells #[.int .i64 reg, .int .i64 id, .slice ao n cap] 72)) fun e w' => e = .returned (.int .i64 (stG g v)) ∧ w' = (w.alloc (.cells #[.int .i64 reg, .int .i64 id, .slice ao n cap] 72))) := fun v hv => stands_any2 _ (h.below HB.out) v hv
  have HF : Hid (∀ q, q < n → Fit2 (args.getD q 0)) := fun q hq => hf _ (by rw [List.getD, List.getElem?_eq_getElem (by omega)]; exact List.getElem_mem _)
  have HC : Hid (∀ q, q < n → (w.alloc (.cells #[.int .i64 reg, .int .i64 id, .slice ao n cap] 72)).cell? ⟨pb, po + q, none⟩ = some (.int .i64 (args.getD q 0))) := fun q hq => keeps_below HB.out _ _ (hc q hq)
  have HDR : Hid (∀ q, q < n → ∀ o, loneG g id o (args.drop q) = if stG g (args.getD q 0) = id ∨ stG g (args.getD q 0) = o then loneG g id o (args.drop (q + 1)) else if o ≠ -1 then -1 else loneG g id (stG g (args.getD q 0)) (args.drop (q + 1))) := fun q hq o => by
    have hq' : q < args.length := by omega
    rw [List.drop_eq_getElem_cons hq', loneG, List.getD, List.getElem?_eq_getElem hq']; rfl
  have HE : Hid (∀ o, loneG g id o (args.drop n) = o) := fun o => by rw [List.drop_of_length_le (by omega)]; rfl
  have HS : Hid (loneG g id (-1) args = loneG g id (-1) (args.drop 0)) := rfl
  obtain ⟨Z, hZ⟩ : ∃ Z, Z = loneG g id (-1) args := ⟨_, rfl⟩
  have HZ : Hid (Z = loneG g id (-1) args) := hZ
  rw [← hZ]
  have HA : Hid (0 < n → ao = some ⟨pb, po, none⟩) := ha
  have hn63 : n ≤ 9223372036854775807 := by omega
  clear hva hf hc hZ ha hl h hm
  go_enter Tryz.func77, Tryz.ntmps77
  go_upto_region 2 with fail
  generalize (w.alloc (.cells #[.int .i64 reg, .int .i64 id, .slice ao n cap] 72)) = V at *
  go_upto_region 3 with fail
  clear k2
  go_loopw [5, 12] (fun oo i wr => ∃ (q : Nat) (o : Int), q ≤ n ∧ i = .int .i64 q ∧ oo = .int .i64 o ∧ Z = loneG g id o (args.drop q) ∧ wr = V) (fun _ i _ => n - (intOf i).toNat)
  case atStart => exact ⟨0, -1, Nat.zero_le _, rfl, rfl, by rw [HZ.out, HS.out], rfl⟩
  case round =>
    obtain ⟨q, o, hq, rfl, rfl, hz, hwr⟩ := hrel
    have hwr := hwr.symm
    subst hwr
    by_cases hlt : q < n
    · obtain rfl := HA.out (by omega)
      have cq := HC.out q hlt
      have hqI : (q : Int) < n := by omega
      have HZ2 : Hid (Z = _) := hz.trans (HDR.out q hlt o)
      have hcall := HG.out _ (HF.out q hlt)
      clear hz
      generalize args.getD q 0 = aq at *
      generalize hsv : stG g aq = sv at *
      by_cases h1 : sv = id
      · have e1 : (sv == id) = true := by simpa using h1
        have HN : Hid (Z = loneG g id o (args.drop (q + 1))) := by show _ = _; rw [HZ2.out, if_pos (Or.inl h1)]
        clear h1 hsv HZ2
        go_wp2_with (go_at_call 75; refine hcall.mono ?_; rintro e w1 ⟨rfl, hw1⟩; replace hw1 := hw1.symm; subst hw1)
        go_roundw
        case rel => exact ⟨q + 1, o, by omega, by go_num, rfl, HN.out, by trivial⟩
        case measure => simp [intOf]; omega
      · have e1 : (sv == id) = false := by simpa using h1
        by_cases h2 : sv = o
        · have e2 : (sv == o) = true := by simpa using h2
          have HN : Hid (Z = loneG g id o (args.drop (q + 1))) := by show _ = _; rw [HZ2.out, if_pos (Or.inr h2)]
          clear h1 h2 hsv HZ2
          go_wp2_with (go_at_call 75; refine hcall.mono ?_; rintro e w1 ⟨rfl, hw1⟩; replace hw1 := hw1.symm; subst hw1)
          go_roundw
          case rel => exact ⟨q + 1, o, by omega, by go_num, rfl, HN.out, by trivial⟩
          case measure => simp [intOf]; omega
        · have e2 : (sv == o) = false := by simpa using h2
          by_cases h3 : o = -1
          · have e3 : (o != -1) = false := by simpa using h3
            have HN : Hid (Z = loneG g id sv (args.drop (q + 1))) := by show _ = _; rw [HZ2.out, if_neg (by rintro (h | h); exact h1 h; exact h2 h), if_neg (fun hh => hh h3)]
            clear h1 h2 h3 hsv HZ2
            go_wp2_with (go_at_call 75; refine hcall.mono ?_; rintro e w1 ⟨rfl, hw1⟩; replace hw1 := hw1.symm; subst hw1)
            go_roundw
            case rel => exact ⟨q + 1, sv, by omega, by go_num, rfl, HN.out, by trivial⟩
            case measure => simp [intOf]; omega
          · have e3 : (o != -1) = true := by simpa using h3
            have HN : Hid (Z = -1) := by show _ = _; rw [HZ2.out, if_neg (by rintro (h | h); exact h1 h; exact h2 h), if_pos h3]
            clear h1 h2 h3 hsv HZ2
            go_wp2_with (go_at_call 75; refine hcall.mono ?_; rintro e w1 ⟨rfl, hw1⟩; replace hw1 := hw1.symm; subst hw1)
            go_ret
            exact ⟨by rw [HN.out]; rfl, HB.out⟩
    · obtain rfl : q = n := by omega
      have HN : Hid (Z = o) := by show _ = _; rw [hz, HE.out]
      clear hz
      go_wp2
      go_ret
      exact ⟨by rw [HN.out]; rfl, HB.out⟩
end Go.Proofs.YtldbmdgpdolaaaaGreatDoor
