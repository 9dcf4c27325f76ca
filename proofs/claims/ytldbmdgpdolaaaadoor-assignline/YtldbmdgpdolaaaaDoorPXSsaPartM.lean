import Derived.Test.YtldbmdgpdolaaaaDoorPXSsaIns
import Derived.Test.YtldbmdgpdolaaaaDoorPXSsaPhis
import Derived.Test.YtldbmdgpdolaaaaDoorPGroupP
import Derived.Test.YtldbmdgpdolaaaaDoorPXSettleMath
import Derived.Test.YtldbmdgpdolaaaaDoorPGroupB
namespace Go.Proofs.YtldbmdgpdolaaaaDoor
open Go Go.RowKit

theorem gb_setCell (w : World) (g j : Nat) (v : Value) : w.grownBy (w.setCell ⟨g, j, none⟩ v) (some g) :=
  ⟨rfl, rfl, rfl, by simp, fun k _ hne => heap_setCell_other _ _ _ _ (by show k ≠ g; exact fun e => hne (by rw [e]))⟩
theorem gb_setCells (g : Nat) : ∀ (vs : List Value) (o : Nat) (w : World), w.grownBy (w.setCells g o vs) (some g)
  | [], _, _ => gb_refl _ _
  | v :: vs, o, w => gb_trans (gb_setCell w g o v) (gb_setCells g vs (o + 1) _)
theorem own_setCells {base t s g n c : Nat} : ∀ (vs : List Value) (o : Nat) (w : World) (xs : List Value), w.ownsRow base t s (.slice (some ⟨g, 0, none⟩) n c) n xs → o + vs.length ≤ xs.length → (w.setCells g o vs).ownsRow base t s (.slice (some ⟨g, 0, none⟩) n c) n (xs.take o ++ vs ++ xs.drop (o + vs.length))
  | [], o, w, xs, h, _ => by simpa [World.setCells] using h
  | v :: vs, o, w, xs, h, hl => by
    rw [List.length_cons] at hl
    have h1 := (h.stored o v).1
    have h2 := own_setCells vs (o + 1) _ _ h1 (by rw [List.length_set]; omega)
    have e : (xs.set o v).take (o + 1) ++ vs ++ (xs.set o v).drop (o + 1 + vs.length) = xs.take o ++ (v :: vs) ++ xs.drop (o + (v :: vs).length) := by
      have ho : o < xs.length := by omega
      rw [List.take_succ_eq_append_getElem (by rw [List.length_set]; exact ho), List.getElem_set_self, List.take_set_of_le (Nat.le_refl _), List.drop_set_of_lt (by omega), List.length_cons, List.append_assoc, List.append_assoc, List.append_assoc]
      rw [show o + 1 + vs.length = o + (vs.length + 1) by omega]; rfl
    rw [e] at h2
    exact h2
def inBk (b s : Nat) : Prop := 12 * b ≤ s ∧ s < 12 * b + 12
instance (b s : Nat) : Decidable (inBk b s) := by unfold inBk; infer_instance
def putK {α : Type} (g : Nat → α) (b : Nat) (h : Nat → α) : Nat → α := fun s => if inBk b s then h (s - 12 * b) else g s
theorem putK_in {α : Type} (g : Nat → α) (b : Nat) (h : Nat → α) {r : Nat} (hr : r < 12) : putK g b h (12 * b + r) = h r := by
  unfold putK
  rw [if_pos ⟨by omega, by omega⟩]
  congr 1; omega
theorem putK_out {α : Type} (g : Nat → α) (b : Nat) (h : Nat → α) {i r : Nat} (hi : i ≠ b) (hr : r < 12) : putK g b h (12 * i + r) = g (12 * i + r) := by
  unfold putK
  rw [if_neg (fun hh => by obtain ⟨h1, h2⟩ := hh; omega)]
theorem PartsAt.putPart {w : World} {base g n : Nat} {D : PDat} {L : PLay} (h : PartsAt w base g n D L) {b : Nat} (hb : b < n) {v : Value} {VA : Nat → Value} {AR : Nat → List Int} {ps : List PhiD} (hph : PhisAt w base v VA AR ps)
    (ha1 : ∀ q, v.ownBlock = some q → ∀ j, j < n → (L.vp j).ownBlock ≠ some q) (ha2 : ∀ r, r < 12 → ∀ q, (VA r).ownBlock = some q → ∀ s, s < 12 * n → (L.va s).ownBlock ≠ some q) (z : Int) {rg : List Int} (hr : rg.length = 12) :
    PartsAt (w.setCells g (b * 15) (partC z v (.slice none 0 0) rg)) base g n ⟨upd D.bk b z, upd D.ph b ps, upd D.ins b [], upd D.rg b rg, putK D.ar b AR⟩ ⟨upd L.vp b v, upd L.vi b (.slice none 0 0), putK L.va b VA⟩ ∧ w.grownBy (w.setCells g (b * 15) (partC z v (.slice none 0 0) rg)) (some g) := by
  have hpl : (partC z v (.slice none 0 0) rg).length = 15 := partC_len _ _ _ _ hr
  have hgl : (gC (pC D L) n).length = n * 15 := gC_len (pC_len h)
  have hrow := own_setCells (partC z v (.slice none 0 0) rg) (b * 15) w _ h.row (by rw [hpl, hgl]; have := at_lt (s := 15) hb (c := 14) (by omega); omega)
  rw [hpl, gC_put (pC_len h) hb hpl] at hrow
  rw [updC (D' := ⟨upd D.bk b z, upd D.ph b ps, upd D.ins b [], upd D.rg b rg, putK D.ar b AR⟩) (L' := ⟨upd L.vp b v, upd L.vi b (.slice none 0 0), putK L.va b VA⟩) (by show partC _ _ _ _ = _; simp only [upd_same]) (fun i hi => by show partC _ _ _ _ = partC _ _ _ _; simp only [upd_other _ hi])] at hrow
  have hgb := gb_setCells g (partC z v (.slice none 0 0) rg) (b * 15) w
  have hbad : ∀ (q : Nat) (cs : Array Value) (t : Nat), some g = some q → w.heap[q]? = some (.cells cs t (0, 0)) → t = 74 := fun q cs t e hh => h.typeP e hh
  refine ⟨⟨hrow, fun i hi => ?_, ?_, ?_, ?_, ?_⟩, hgb⟩
  · show (upd D.rg b rg i).length = 12
    by_cases e : i = b
    · rw [e, upd_same]; exact hr
    · rw [upd_other _ e]; exact h.rlen i hi
  · refine ((h.phis.put hb hph.row (fun q hq j hj _ => ha1 q hq j hj)).keptT hgb (fun q cs e hh => absurd (hbad q cs _ e hh) (by decide))).congr (fun i hi => ⟨rfl, ?_, ?_⟩)
    · by_cases e : i = b
      · subst e; simp [upd_same]
      · simp [upd_other _ e]
    · by_cases e : i = b
      · subst e
        simp only [upd_same]
        refine flat_congr fun p hp => ?_
        unfold phC0 phC
        rw [putK_in _ _ _ (hph.fit p hp).1]
      · simp only [upd_other _ e]
        refine flat_congr fun p hp => ?_
        unfold phC
        rw [putK_out _ _ _ e (h.fit i hi p hp).1]
  · refine ((h.ins.put hb (World.ownsRow_nil w base _ _) (fun q hq => by cases hq)).keptT hgb (fun q cs e hh => absurd (hbad q cs _ e hh) (by decide))).congr (fun i hi => ⟨rfl, ?_, ?_⟩)
    · by_cases e : i = b
      · subst e; simp [upd_same]
      · simp [upd_other _ e]
    · by_cases e : i = b
      · subst e; simp [upd_same]
      · simp [upd_other _ e]
  · have hs : SlotsT w base 3 1 (12 * n) (putK L.va b VA) (fun s => (putK D.ar b AR s).length) (fun s => i64s (putK D.ar b AR s)) := by
      refine ⟨fun i hi => ?_, fun i j hi hj hne q hq => ?_⟩
      · by_cases e : inBk b i
        · unfold putK; simp only [if_pos e]; exact hph.args.own _ (by obtain ⟨e1, e2⟩ := e; omega)
        · unfold putK; simp only [if_neg e]; exact h.args.own i hi
      · unfold putK at hq ⊢
        by_cases e : inBk b i
        · rw [if_pos e] at hq
          by_cases e2 : inBk b j
          · rw [if_pos e2]; exact hph.args.apart _ _ (by obtain ⟨e1, e3⟩ := e; omega) (by obtain ⟨e1, e3⟩ := e2; omega) (by obtain ⟨e1, e3⟩ := e; obtain ⟨e4, e5⟩ := e2; omega) q hq
          · rw [if_neg e2]; exact ha2 _ (by obtain ⟨e1, e3⟩ := e; omega) q hq j hj
        · rw [if_neg e] at hq
          by_cases e2 : inBk b j
          · rw [if_pos e2]; exact fun e3 => ha2 _ (by obtain ⟨e1, e4⟩ := e2; omega) q e3 i hi hq
          · rw [if_neg e2]; exact h.args.apart i j hi hj hne q hq
    exact hs.keptT hgb (fun q cs e hh => absurd (hbad q cs _ e hh) (by decide))
  · intro i hi p hp
    have hp : p ∈ upd D.ph b ps i := hp
    show p.reg < 12 ∧ putK D.ar b AR (12 * i + p.reg) = p.args
    by_cases e : i = b
    · subst e
      rw [upd_same] at hp
      obtain ⟨h1, h2⟩ := hph.fit p hp
      exact ⟨h1, by rw [putK_in _ _ _ h1]; exact h2⟩
    · rw [upd_other _ e] at hp
      obtain ⟨h1, h2⟩ := h.fit i hi p hp
      exact ⟨h1, by rw [putK_out _ _ _ e h1]; exact h2⟩
theorem infoPartB : (Tryd.prog.info? 74).map (fun i => (i.zero, i.size, i.bytes)) = some (some (.agg #[.int .i64 0, .slice none 0 0, .slice none 0 0, .int .i64 0, .int .i64 0, .int .i64 0, .int .i64 0, .int .i64 0, .int .i64 0, .int .i64 0, .int .i64 0, .int .i64 0, .int .i64 0, .int .i64 0, .int .i64 0]), 15, 152) := by kernel_rfl
def zD : PDat := ⟨fun _ => 0, fun _ => [], fun _ => [], fun _ => [0, 0, 0, 0, 0, 0, 0, 0, 0, 0, 0, 0], fun _ => []⟩
def zL : PLay := ⟨fun _ => .slice none 0 0, fun _ => .slice none 0 0, fun _ => .slice none 0 0⟩
theorem made_parts (k : Nat) : (madeCells (Value.agg #[.int .i64 0, .slice none 0 0, .slice none 0 0, .int .i64 0, .int .i64 0, .int .i64 0, .int .i64 0, .int .i64 0, .int .i64 0, .int .i64 0, .int .i64 0, .int .i64 0, .int .i64 0, .int .i64 0, .int .i64 0]).cells (k * 15)).toList = gC (pC zD zL) k := by
  refine gC_ext (s := 15) (fun _ _ => rfl) (by simp [madeCells]) fun i c hi hc => ?_
  simp only [madeCells, Value.cells]
  have h1 : i * 15 + c < k * 15 := at_lt hi hc
  have h2 : (i * 15 + c) % 15 = c := by rw [Nat.mul_comm, Nat.mul_add_mod]; exact Nat.mod_eq_of_lt hc
  simp [h1, h2]
  rcases (show c = 0 ∨ c = 1 ∨ c = 2 ∨ c = 3 ∨ c = 4 ∨ c = 5 ∨ c = 6 ∨ c = 7 ∨ c = 8 ∨ c = 9 ∨ c = 10 ∨ c = 11 ∨ c = 12 ∨ c = 13 ∨ c = 14 by omega) with rfl | rfl | rfl | rfl | rfl | rfl | rfl | rfl | rfl | rfl | rfl | rfl | rfl | rfl | rfl <;> rfl
theorem partsAt_zero {w : World} {base g n : Nat} (h : w.ownsRow base 74 15 (.slice (some ⟨g, 0, none⟩) n n) n (gC (pC zD zL) n)) : PartsAt w base g n zD zL :=
  ⟨h, fun _ _ => rfl, SlotsT.nils _ _ _ _ _, SlotsT.nils _ _ _ _ _, SlotsT.nils _ _ _ _ _, fun b _ p hp => by cases hp⟩
def insL (P : List Fn) (f : Fn) (fr n : Nat) (l : List Int) : List InsD := (List.range n).map fun k => insM P f (fr + k) (onR f fr k l)
theorem insL_succ (P : List Fn) (f : Fn) (fr n : Nat) (l : List Int) : insL P f fr (n + 1) l = insL P f fr n l ++ [insM P f (fr + n) (onR f fr n l)] := by
  unfold insL; rw [List.range_succ, List.map_append]; rfl
end Go.Proofs.YtldbmdgpdolaaaaDoor
namespace Go.Proofs.YtldbmdgpdolaaaaDoor
open Go Go.RowKit

def Fit2 (z : Int) : Prop := -1 ≤ z ∧ z ≤ 2000
theorem Fit2.wf {z : Int} (h : Fit2 z) : (Lit.int .i64 z).wf = true := WalkArith.wf_i64 (by unfold Fit2 at h; omega)
def FitG (g : List (Int × Int)) : Prop := ∀ q ∈ g, Fit2 q.1 ∧ Fit2 q.2
structure GoneMap (g : List (Int × Int)) (D : Dat) : Prop where
  has : ∀ z : Int, Maps.has D (.int .i64 z) = (lookG g z).isSome
  key : ∀ (z b : Int) (zd : Dat), lookG g z = some b → D.atKey (.int .i64 z) zd = .lit (.int .i64 b)
  size : Maps.size D = g.length
theorem GoneMap.nil : GoneMap [] (.map [] : Dat) := ⟨fun z => by simp [lookG, Maps.has], fun z b zd h => (by cases h), rfl⟩
theorem GoneMap.add {g : List (Int × Int)} {D : Dat} (h : GoneMap g D) (hT : Maps.Tidy D) {a b : Int} (ha : ∀ p ∈ g, p.1 ≠ a) : GoneMap (g ++ [(a, b)]) (D.put (.int .i64 a) (.lit (.int .i64 b))) := by
  have hn := lookG_none.2 ha
  refine ⟨fun z => ?_, fun z c zd hz => ?_, ?_⟩
  · rw [has_put hT.isMap, h.has, lookG_append]
    by_cases e : z = a
    · subst e; rw [hn]; simp [lookG]
    · simp [lookG, e]
  · rw [lookG_append] at hz
    by_cases e : z = a
    · subst e
      rw [hn] at hz
      have : b = c := by simpa [lookG] using hz
      subst this
      exact Maps.atKey_put_same hT.isMap (show WideAt.IsKeyLit (.int .i64 z) from trivial) _ _
    · rw [Maps.atKey_put_other (by simpa using e)]
      refine h.key z c zd ?_
      simpa [lookG, e] using hz
  · rw [Maps.size_put hT, h.has, hn, h.size]; simp
structure GoneAt (w : World) (R B m : Nat) (g : List (Int × Int)) : Prop where
  cell : w.cell? ⟨R, 0, none⟩ = some (.map (some B))
  map : ∃ D, MapAt w B m D ∧ GoneMap g D
  ok : GoneOk g
  fit : FitG g
theorem lookG_mem {g : List (Int × Int)} {z b : Int} (h : lookG g z = some b) : (z, b) ∈ g := by
  induction g with
  | nil => cases h
  | cons p g ih =>
    rw [lookG] at h
    by_cases e : z = p.1
    · rw [if_pos e] at h
      have : p.2 = b := by simpa using h
      rw [e, ← this]; exact List.mem_cons_self
    · rw [if_neg e] at h; exact List.mem_cons_of_mem _ (ih h)
theorem stG_fit {g : List (Int × Int)} (h : FitG g) : ∀ {v : Int}, Fit2 v → Fit2 (stG g v) := by
  induction g with
  | nil => intro v hv; exact hv
  | cons p g ih =>
    intro v hv
    rw [stG]
    refine ih (fun q hq => h q (List.mem_cons_of_mem _ hq)) ?_
    split
    · exact (h p List.mem_cons_self).2
    · exact hv
set_option maxRecDepth 100000 in
theorem stands_any2 {g : List (Int × Int)} {R B m : Nat} (w : World) (h : GoneAt w R B m g) (v : Int) (hv : Fit2 v) :
    Calls Tryd.prog 50 #[.int .i64 v, .pointer (some ⟨R, 0, none⟩)] w fun e w' => e = .returned (.int .i64 (stG g v)) ∧ w' = w := by
  obtain ⟨D, hM, hD⟩ := h.map
  have hc := h.cell
  have HD : Hid (GoneMap g D) := hD
  have HOK : Hid (GoneOk g) := h.ok
  have HFT : Hid (FitG g) := h.fit
  have HV : Hid (Fit2 v) := hv
  have wfv := hv.wf
  clear hD h hv
  go_enter Tryd.func50, Tryd.ntmps50
  go_upto_region 2 with (at_lookup; refine wpList_lookup_own_ok_int _ rfl _ _ 82 rfl 3 3 .i64 mlaw Tryd.underlying82 Tryd.underlying3 (zero_int _) B m D rfl hM _ _ rfl (Maps.keyOf_int_mk Tryd.underlying3 wfv) ?_; intro c hatc hwc)
  have HC : Hid (lookG g v = if Maps.has D (.int .i64 v) = true then some c else none) := by
    show _ = _
    rw [HD.out.has]
    rcases hl : lookG g v with _ | b
    · rfl
    · rw [HD.out.key v b _ hl] at hatc
      have : b = c := by simpa using hatc
      rw [this]; rfl
  clear hatc hwc wfv
  go_loopw [0, 4, 5] (fun a o k wr => ∃ (v' o' : Int) (b : Bool), a = .int .i64 v' ∧ o = .int .i64 o' ∧ k = .bool b ∧ Fit2 v' ∧ stG g v' = stG g v ∧ lookG g v' = (if b = true then some o' else none) ∧ wr = w) (fun a _ _ _ => g.length - posG g (intOf a))
  case atStart => exact ⟨v, c, _, rfl, rfl, rfl, HV.out, rfl, HC.out, rfl⟩
  case round =>
    obtain ⟨v', o', b, rfl, rfl, rfl, hf, hst, hlk, hwr⟩ := hrel
    have hwr := hwr.symm
    subst hwr
    have HST : Hid (stG g v' = stG g v) := hst
    cases b
    · have HL : Hid (lookG g v' = none) := hlk
      clear hst hlk
      go_wp2
      go_ret
      exact ⟨by rw [← HST.out, HOK.out.done HL.out]; rfl, by trivial⟩
    · have HL : Hid (lookG g v' = some o') := hlk
      have HS := HOK.out.step HL.out
      have HS1 : Hid (stG g o' = stG g v') := HS.1
      have HS2 : Hid (posG g v' < posG g o') := HS.2
      have HFO : Hid (Fit2 o') := (HFT.out _ (lookG_mem HL.out)).2
      have wfo := HFO.out.wf
      clear hst hlk HS hf
      go_wp2_with (at_lookup; refine wpList_lookup_own_ok_int _ rfl _ _ 82 rfl 3 3 .i64 mlaw Tryd.underlying82 Tryd.underlying3 (zero_int _) B m D rfl hM _ _ rfl (Maps.keyOf_int_mk Tryd.underlying3 wfo) ?_; intro c2 hatc2 hwc2)
      go_roundw
      case rel =>
        refine ⟨o', c2, _, rfl, rfl, rfl, HFO.out, by rw [HS1.out, HST.out], ?_, by trivial⟩
        rw [HD.out.has]
        rcases hl : lookG g o' with _ | b
        · rfl
        · rw [HD.out.key o' b _ hl] at hatc2
          have : b = c2 := by simpa using hatc2
          rw [this]; rfl
      case measure =>
        have h1 := HS2.out
        have h2 := posG_lt.2 ⟨o', HL.out⟩
        simp only [intOf]; omega
theorem GoneAt.below {w w' : World} {R B m : Nat} {g : List (Int × Int)} (h : GoneAt w R B m g) (hb : Below w.heap.size w w') : GoneAt w' R B m g := by
  obtain ⟨D, hM, hD⟩ := h.map
  exact ⟨keeps_below hb _ _ h.cell, ⟨D, hM.kept (gb_below none hb) (by simp), hD⟩, h.ok, h.fit⟩
abbrev standsV (R : Nat) : Value := .func (.func 50) #[] #[.pointer (some ⟨R, 0, none⟩)]
set_option maxRecDepth 100000 in
set_option maxHeartbeats 1000000 in
theorem lone_any {g : List (Int × Int)} {R B m : Nat} (w : World) (h : GoneAt w R B m g) (reg id : Int) (args : List Int) (va : Value) (hva : IntsVal w va args) (hf : ∀ a ∈ args, Fit2 a) :
    Calls Tryd.prog 52 #[.agg #[.int .i64 reg, .int .i64 id, va], standsV R] w fun e w' => e = .returned (.int .i64 (loneG g id (-1) args)) ∧ Below w.heap.size w w' := by
  obtain ⟨ao, pb, po, n, cap, rfl, hl, ha, hc, hcp, hm⟩ := ints_get hva
  have HB : Hid (Below w.heap.size w (w.alloc (.cells #[.int .i64 reg, .int .i64 id, .slice ao n cap] 86))) := (Below.refl _ _).alloc (Nat.le_refl _) _
  have k1 : (w.alloc (.cells #[.int .i64 reg, .int .i64 id, .slice ao n cap] 86)).cell? ⟨w.heap.size, 1, none⟩ = some (.int .i64 id) := by rw [cell_of_row _ _ _ _ _ _ (heap_alloc_last w _)]; rfl
  have k2 : (w.alloc (.cells #[.int .i64 reg, .int .i64 id, .slice ao n cap] 86)).cell? ⟨w.heap.size, 2, none⟩ = some (.slice ao n cap) := by rw [cell_of_row _ _ _ _ _ _ (heap_alloc_last w _)]; rfl
  have HG : Hid (∀ v, Fit2 v → Calls Tryd.prog 50 #[.int .i64 v, .pointer (some ⟨R, 0, none⟩)] (w.alloc (.cells #[.int .i64 reg, .int .i64 id, .slice ao n cap] 86)) fun e w' => e = .returned (.int .i64 (stG g v)) ∧ w' = (w.alloc (.cells #[.int .i64 reg, .int .i64 id, .slice ao n cap] 86))) := fun v hv => stands_any2 _ (h.below HB.out) v hv
  have HF : Hid (∀ q, q < n → Fit2 (args.getD q 0)) := fun q hq => hf _ (by rw [List.getD, List.getElem?_eq_getElem (by omega)]; exact List.getElem_mem _)
  have HC : Hid (∀ q, q < n → (w.alloc (.cells #[.int .i64 reg, .int .i64 id, .slice ao n cap] 86)).cell? ⟨pb, po + q, none⟩ = some (.int .i64 (args.getD q 0))) := fun q hq => keeps_below HB.out _ _ (hc q hq)
  have HDR : Hid (∀ q, q < n → ∀ o, loneG g id o (args.drop q) = if stG g (args.getD q 0) = id ∨ stG g (args.getD q 0) = o then loneG g id o (args.drop (q + 1)) else if o ≠ -1 then -1 else loneG g id (stG g (args.getD q 0)) (args.drop (q + 1))) := fun q hq o => by
    have hq' : q < args.length := by omega
    rw [List.drop_eq_getElem_cons hq', loneG, List.getD, List.getElem?_eq_getElem hq']; rfl
  have HE : Hid (∀ o, loneG g id o (args.drop n) = o) := fun o => by rw [List.drop_of_length_le (by omega)]; rfl
  have HS : Hid (loneG g id (-1) args = loneG g id (-1) (args.drop 0)) := rfl
  obtain ⟨Z, hZ⟩ : ∃ Z, Z = loneG g id (-1) args := ⟨_, rfl⟩
  have HZ : Hid (Z = loneG g id (-1) args) := hZ
  rw [← hZ]
  have HA : Hid (0 < n → ao = some ⟨pb, po, none⟩) := ha
  have hn63 : n ≤ 9223372036854775807 := by omega
  clear hva hf hc hZ ha hl h hm
  go_enter Tryd.func52, Tryd.ntmps52
  go_upto_region 2 with fail
  generalize (w.alloc (.cells #[.int .i64 reg, .int .i64 id, .slice ao n cap] 86)) = V at *
  go_upto_region 3 with fail
  clear k2
  go_loopw [5, 12] (fun oo i wr => ∃ (q : Nat) (o : Int), q ≤ n ∧ i = .int .i64 q ∧ oo = .int .i64 o ∧ Z = loneG g id o (args.drop q) ∧ wr = V) (fun _ i _ => n - (intOf i).toNat)
  case atStart => exact ⟨0, -1, Nat.zero_le _, rfl, rfl, by rw [HZ.out, HS.out], rfl⟩
  case round =>
    obtain ⟨q, o, hq, rfl, rfl, hz, hwr⟩ := hrel
    have hwr := hwr.symm
    subst hwr
    by_cases hlt : q < n
    · obtain rfl := HA.out (by omega)
      have cq := HC.out q hlt
      have hqI : (q : Int) < n := by omega
      have HZ2 : Hid (Z = _) := hz.trans (HDR.out q hlt o)
      have hcall := HG.out _ (HF.out q hlt)
      clear hz
      generalize args.getD q 0 = aq at *
      generalize hsv : stG g aq = sv at *
      by_cases h1 : sv = id
      · have e1 : (sv == id) = true := by simpa using h1
        have HN : Hid (Z = loneG g id o (args.drop (q + 1))) := by show _ = _; rw [HZ2.out, if_pos (Or.inl h1)]
        clear h1 hsv HZ2
        go_wp2_with (go_at_call 50; refine hcall.mono ?_; rintro e w1 ⟨rfl, hw1⟩; replace hw1 := hw1.symm; subst hw1)
        go_roundw
        case rel => exact ⟨q + 1, o, by omega, by go_num, rfl, HN.out, by trivial⟩
        case measure => simp [intOf]; omega
      · have e1 : (sv == id) = false := by simpa using h1
        by_cases h2 : sv = o
        · have e2 : (sv == o) = true := by simpa using h2
          have HN : Hid (Z = loneG g id o (args.drop (q + 1))) := by show _ = _; rw [HZ2.out, if_pos (Or.inr h2)]
          clear h1 h2 hsv HZ2
          go_wp2_with (go_at_call 50; refine hcall.mono ?_; rintro e w1 ⟨rfl, hw1⟩; replace hw1 := hw1.symm; subst hw1)
          go_roundw
          case rel => exact ⟨q + 1, o, by omega, by go_num, rfl, HN.out, by trivial⟩
          case measure => simp [intOf]; omega
        · have e2 : (sv == o) = false := by simpa using h2
          by_cases h3 : o = -1
          · have e3 : (o != -1) = false := by simpa using h3
            have HN : Hid (Z = loneG g id sv (args.drop (q + 1))) := by show _ = _; rw [HZ2.out, if_neg (by rintro (h | h); exact h1 h; exact h2 h), if_neg (fun hh => hh h3)]
            clear h1 h2 h3 hsv HZ2
            go_wp2_with (go_at_call 50; refine hcall.mono ?_; rintro e w1 ⟨rfl, hw1⟩; replace hw1 := hw1.symm; subst hw1)
            go_roundw
            case rel => exact ⟨q + 1, sv, by omega, by go_num, rfl, HN.out, by trivial⟩
            case measure => simp [intOf]; omega
          · have e3 : (o != -1) = true := by simpa using h3
            have HN : Hid (Z = -1) := by show _ = _; rw [HZ2.out, if_neg (by rintro (h | h); exact h1 h; exact h2 h), if_pos h3]
            clear h1 h2 h3 hsv HZ2
            go_wp2_with (go_at_call 50; refine hcall.mono ?_; rintro e w1 ⟨rfl, hw1⟩; replace hw1 := hw1.symm; subst hw1)
            go_ret
            exact ⟨by rw [HN.out]; rfl, HB.out⟩
    · obtain rfl : q = n := by omega
      have HN : Hid (Z = o) := by show _ = _; rw [hz, HE.out]
      clear hz
      go_wp2
      go_ret
      exact ⟨by rw [HN.out]; rfl, HB.out⟩
end Go.Proofs.YtldbmdgpdolaaaaDoor
