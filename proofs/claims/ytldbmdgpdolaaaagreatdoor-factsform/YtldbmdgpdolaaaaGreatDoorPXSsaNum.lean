import Derived.Test.YtldbmdgpdolaaaaGreatDoorPXSsaCount
namespace Go.Proofs.YtldbmdgpdolaaaaGreatDoor
open Go Go.RowKit

def newI (g : List (Int × Int)) (ids : List Int) (v : Int) : Int := if v = -1 then -1 else if stG g v ∈ ids then ((ids.idxOf (stG g v) : Nat) : Int) else 0
structure NumSt (w : World) (R2 B2 Rs R B : Nat) (g : List (Int × Int)) (ids : List Int) : Prop where
  num : NumAt w R2 B2 ids
  st : w.cell? ⟨Rs, 0, none⟩ = some (standsV R)
  gone : GoneAt w R B g.length g
abbrev numberV (R2 Rs : Nat) : Value := .func (.func 46) #[] #[.pointer (some ⟨R2, 0, none⟩), .pointer (some ⟨Rs, 0, none⟩)]
structure Own4 (base : Nat) (w w' : World) : Prop where
  os : w'.os = w.os
  tape : w'.tape = w.tape
  output : w'.output = w.output
  size : w'.heap.size = w.heap.size
  block : ∀ k, k < base ∨ (∀ cs t f, w.heap[k]? = some (.cells cs t f) → t ≠ 63 ∧ t ≠ 72 ∧ t ≠ 67 ∧ t ≠ 3) → w'.heap[k]? = w.heap[k]?
theorem Own4.refl (base : Nat) (w : World) : Own4 base w w := ⟨rfl, rfl, rfl, rfl, fun _ _ => rfl⟩
theorem Own4.trans {base : Nat} {a b c : World} (h : Own4 base a b) (k : Own4 base b c) : Own4 base a c := by
  refine ⟨k.os.trans h.os, k.tape.trans h.tape, k.output.trans h.output, k.size.trans h.size, fun q hq => ?_⟩
  have e := h.block q hq
  refine (k.block q ?_).trans e
  rcases hq with hq | hq
  · exact Or.inl hq
  · exact Or.inr fun cs t f hh => hq cs t f (by rw [← e]; exact hh)
theorem Own4.drewN (base : Nat) (w : World) (d : Nat) : Own4 base w (w.drewN d) := ⟨rfl, rfl, rfl, rfl, fun _ _ => rfl⟩
theorem Own4.of_gb {base : Nat} {w w' : World} {q t : Nat} {cs : Array Value} {f : Nat × Nat} (hg : w.grownBy w' (some q)) (hs : w'.heap.size = w.heap.size) (hq : base ≤ q) (hh : w.heap[q]? = some (.cells cs t f)) (ht : t = 63 ∨ t = 72 ∨ t = 67 ∨ t = 3) : Own4 base w w' := by
  refine ⟨hg.os, hg.tape, hg.output, hs, fun k hk => ?_⟩
  by_cases e : k = q
  · subst e
    rcases hk with hk | hk
    · omega
    · obtain ⟨h1, h2, h3, h4⟩ := hk _ _ _ hh
      rcases ht with e | e | e | e
      · exact absurd e h1
      · exact absurd e h2
      · exact absurd e h3
      · exact absurd e h4
  · rcases Nat.lt_or_ge k w.heap.size with hlt | hge
    · exact hg.block k hlt (by simpa using e)
    · rw [Array.getElem?_eq_none (by omega), Array.getElem?_eq_none (by omega)]
theorem Own4.cell {base : Nat} {w w' : World} (h : Own4 base w w') {a : Addr} {v : Value} {cs : Array Value} {t : Nat} {f : Nat × Nat} (hh : w.heap[a.block]? = some (.cells cs t f)) (ht : t ≠ 63 ∧ t ≠ 72 ∧ t ≠ 67 ∧ t ≠ 3) (hc : w.cell? a = some v) : w'.cell? a = some v :=
  (World.cell?_of_block (h.block a.block (Or.inr fun cs' t' f' e => by rw [hh] at e; simp at e; rw [← e.2.1]; exact ht))).trans hc
theorem Own4.map {base B m : Nat} {w w' : World} {D : Dat} (h : Own4 base w w') (hm : MapAt w B m D) : MapAt w' B m D := by
  obtain ⟨es, cl, hh, r⟩ := hm
  exact ⟨es, cl, (h.block B (Or.inr fun cs t f e => by rw [hh] at e; cases e)).trans hh, r⟩
theorem Own4.below {base : Nat} {w w' : World} (h : Own4 base w w') : Below base w w' := ⟨h.os, h.tape, h.output, by rw [h.size]; exact Nat.le_refl _, fun k hk => h.block k (Or.inl hk)⟩
structure NumBox (w : World) (R2 Rs R : Nat) : Prop where
  r2 : ∃ cs f, w.heap[R2]? = some (.cells cs 117 f)
  rs : ∃ cs f, w.heap[Rs]? = some (.cells cs 92 f)
  r : ∃ cs f, w.heap[R]? = some (.cells cs 117 f)
theorem NumSt.own4 {base : Nat} {w w' : World} {R2 B2 Rs R B : Nat} {g : List (Int × Int)} {ids : List Int} (h : NumSt w R2 B2 Rs R B g ids) (hb : NumBox w R2 Rs R) (k : Own4 base w w') : NumSt w' R2 B2 Rs R B g ids := by
  obtain ⟨cs2, f2, h2⟩ := hb.r2
  obtain ⟨css, fs, hs⟩ := hb.rs
  obtain ⟨cs, f, hr⟩ := hb.r
  obtain ⟨D, hM, hD⟩ := h.num.map
  obtain ⟨D', hM', hD'⟩ := h.gone.map
  exact ⟨⟨k.cell (a := ⟨R2, 0, none⟩) h2 (by decide) h.num.cell, D, k.map hM, hD⟩, k.cell (a := ⟨Rs, 0, none⟩) hs (by decide) h.st, ⟨k.cell (a := ⟨R, 0, none⟩) hr (by decide) h.gone.cell, ⟨D', k.map hM', hD'⟩, h.gone.ok, h.gone.fit⟩⟩
set_option maxRecDepth 100000 in
theorem number_any {R2 B2 Rs R B : Nat} {g : List (Int × Int)} {ids : List Int} (w : World) (h : NumSt w R2 B2 Rs R B g ids) (v : Int) (hv : Fit2 v) :
    Calls Tryz.prog 46 #[.int .i64 v, .pointer (some ⟨R2, 0, none⟩), .pointer (some ⟨Rs, 0, none⟩)] w fun e w' => e = .returned (.int .i64 (newI g ids v)) ∧ ∃ d, w' = w.drewN d := by
  by_cases hn : v = -1
  · have e : newI g ids v = -1 := by unfold newI; rw [if_pos hn]
    have ev : (v == -1) = true := by simpa using hn
    rw [e]
    clear hn e h
    go_enter Tryz.func46, Tryz.ntmps46
    go_wp2
    go_ret
    exact ⟨rfl, 0, rfl⟩
  · have ev : (v == -1) = false := by simpa using hn
    have HCS := fun m => stands_any2 (w.drewN m) (h.gone.below ⟨rfl, rfl, rfl, Nat.le_refl _, fun _ _ => rfl⟩) v hv
    have hfs := stG_fit h.gone.fit hv
    have e : newI g ids v = if stG g v ∈ ids then ((ids.idxOf (stG g v) : Nat) : Int) else 0 := by unfold newI; rw [if_neg hn]
    have wfs := hfs.wf
    have c2 := h.num.cell
    have cs := h.st
    obtain ⟨D, hM, hD⟩ := h.num.map
    have hlk : ∀ m, (Instr.lookup 117 (.map (some B2)) (.int .i64 (stG g v)) false).run Tryz.prog (w.drewN m) = .ok (.int .i64 (newI g ids v)) (w.drewN m) := fun m => by
      have hM' : MapAt (w.drewN m) B2 ids.length D := hM
      obtain ⟨c, h1, h2, -⟩ := hM'.lookup_int mlaw Tryz.underlying117 Tryz.underlying3 (zero_int _) (Maps.keyOf_int_mk Tryz.underlying3 wfs)
      rw [h1, e]
      by_cases hm : stG g v ∈ ids
      · rw [hD.key _ hm] at h2
        rw [if_pos hm]
        have : ((ids.idxOf (stG g v) : Nat) : Int) = c := by simpa using h2
        rw [this]
      · rw [if_neg hm]
        have hh := hD.has (stG g v)
        rw [decide_eq_false hm] at hh
        rw [Maps.atKey_of_not_has hh] at h2
        have : (0 : Int) = c := by simpa using h2
        rw [this]
    clear hn e hM hD h hfs wfs
    generalize newI g ids v = NV at *
    generalize stG g v = SV at *
    go_enter Tryz.func46, Tryz.ntmps46
    go_wp2
    go_quiet ((go_at_call 75; exact (HCS _).mono fun _ _ h => ⟨h.1, _, h.2⟩))
    go_wp2
    go_ret
    exact ⟨rfl, _, rfl⟩
theorem drewN_two (w : World) (a b : Nat) : (w.drewN a).drewN b = w.drewN (a + b) := by
  simp only [World.drewN, Nat.add_assoc]
theorem setCell_drewN (w : World) (d : Nat) (a : Addr) (v : Value) : (w.drewN d).setCell a v = (w.setCell a v).drewN d := by
  rfl
def setInts (w : World) (q : Nat) : Nat → List Int → World
  | _, [] => w
  | off, z :: zs => setInts (w.setCell ⟨q, off, none⟩ (.int .i64 z)) q (off + 1) zs
theorem setInts_snoc (q : Nat) (z : Int) : ∀ (zs : List Int) (off : Nat) (w : World), setInts w q off (zs ++ [z]) = (setInts w q off zs).setCell ⟨q, off + zs.length, none⟩ (.int .i64 z)
  | [], off, w => rfl
  | y :: zs, off, w => by
    rw [List.cons_append, setInts, setInts_snoc q z zs (off + 1), setInts, List.length_cons, Nat.add_assoc, Nat.add_comm 1 zs.length]
def RenPost (w : World) (base q off : Nat) (l : List Int) (N : Int → Int) (e : Ending) (w' : World) : Prop := e = .returned (.tuple #[]) ∧ (∃ d, w' = (setInts w q off (l.map N)).drewN d) ∧ Own4 base w w'
set_option maxRecDepth 100000 in
set_option maxHeartbeats 1000000 in
theorem renumber_any {base q off n cap t R2 Rs : Nat} (w : World) (l : List Int) (N : Int → Int) (ao : Option Addr) (cs : Array Value) (hq : base ≤ q) (ht : t = 63 ∨ t = 72 ∨ t = 67 ∨ t = 3) (hl : l.length = n) (hn : n ≤ 100000) (ha : 0 < n → ao = some ⟨q, off, none⟩) (hrow : 0 < n → w.heap[q]? = some (.cells cs t (0, 0))) (hc : ∀ j, j < n → cs[off + j]? = some (.int .i64 (l.getD j 0)))
    (hf : ∀ z ∈ l, Fit2 z)
    (HN : ∀ W, Own4 base w W → ∀ v, Fit2 v → Calls Tryz.prog 46 #[.int .i64 v, .pointer (some ⟨R2, 0, none⟩), .pointer (some ⟨Rs, 0, none⟩)] W fun e w' => e = .returned (.int .i64 (N v)) ∧ ∃ d, w' = W.drewN d) :
    Calls Tryz.prog 29 #[.slice ao n cap, numberV R2 Rs] w (RenPost w base q off l N) := by
  have HP : Hid (∀ e w', (e = .returned (.tuple #[]) ∧ (∃ d, w' = (setInts w q off (l.map N)).drewN d) ∧ Own4 base w w') → RenPost w base q off l N e w') := fun e w' h => h
  have HA : Hid (0 < n → ao = some ⟨q, off, none⟩) := ha
  have HQ : Hid (base ≤ q) := hq
  have HT : Hid (t = 63 ∨ t = 72 ∨ t = 67 ∨ t = 3) := ht
  have HL : Hid (l.length = n) := hl
  have HF : Hid (∀ j, j < n → Fit2 (l.getD j 0)) := fun j hj => hf _ (by rw [List.getD, List.getElem?_eq_getElem (by omega)]; exact List.getElem_mem _)
  have HR : Hid (0 < n → w.heap[q]? = some (.cells cs t (0, 0))) := hrow
  have HC : Hid (∀ j, j < n → cs[off + j]? = some (.int .i64 (l.getD j 0))) := hc
  have HNN : Hid (∀ W, Own4 base w W → ∀ v, Fit2 v → Calls Tryz.prog 46 #[.int .i64 v, .pointer (some ⟨R2, 0, none⟩), .pointer (some ⟨Rs, 0, none⟩)] W fun e w' => e = .returned (.int .i64 (N v)) ∧ ∃ d, w' = W.drewN d) := HN
  have hnI : (n : Int) ≤ 100000 := by omega
  clear ha hq ht hl hf hrow hc HN
  go_enter Tryz.func29, Tryz.ntmps29
  go_upto_region 1 with fail
  go_loopw [8] (fun i wr => ∃ (k d : Nat) (cs' : Array Value), k ≤ n ∧ i = .int .i64 k ∧ wr = (setInts w q off ((l.take k).map N)).drewN d ∧ (0 < n → wr.heap[q]? = some (.cells cs' t (0, 0))) ∧ (∀ j, k ≤ j → j < n → cs'[off + j]? = some (.int .i64 (l.getD j 0))) ∧ Own4 base w wr) (fun i _ => n - (intOf i).toNat)
  case atStart => exact ⟨0, 0, cs, Nat.zero_le _, rfl, rfl, HR.out, fun j _ hj => HC.out j hj, Own4.refl _ _⟩
  case round =>
    obtain ⟨k, d, cs', hk, rfl, hw, hrow, hcs, ho⟩ := hrel
    have HW : Hid (wr = (setInts w q off ((l.take k).map N)).drewN d) := hw
    have HCS : Hid (∀ j, k ≤ j → j < n → cs'[off + j]? = some (.int .i64 (l.getD j 0))) := hcs
    have HO : Hid (Own4 base w wr) := ho
    clear hw hcs ho
    by_cases hlt : k < n
    · have hkI : (k : Int) < (n : Int) := by omega
      obtain rfl := HA.out (by omega)
      have hrk := hrow (by omega)
      have cq : wr.cell? ⟨q, off + k, none⟩ = some (.int .i64 (l.getD k 0)) := by rw [cell_of_row _ _ _ _ _ _ hrk]; exact HCS.out k (Nat.le_refl _) hlt
      have fq : wr.frozen? ⟨q, off + k, none⟩ = false := frozen_of_row _ _ _ _ _ hrk
      have hcall := HNN.out wr HO.out _ (HF.out k hlt)
      have HRK : Hid (wr.heap[q]? = some (.cells cs' t (0, 0))) := hrk
      have HV : Hid (N (l.getD k 0) = N (l.getD k 0)) := rfl
      obtain ⟨v, hv⟩ : ∃ v, v = l.getD k 0 := ⟨_, rfl⟩
      have HVE : Hid (v = l.getD k 0) := hv
      rw [← hv] at hcall cq
      clear hrow hrk hv HV
      go_wp2_with (go_at_call 46; refine hcall.mono ?_; rintro e w2 ⟨rfl, d2, hw2⟩; have cq2 : w2.cell? ⟨q, off + k, none⟩ = some (.int .i64 v) := (by rw [hw2]; exact cq); have fq2 : w2.frozen? ⟨q, off + k, none⟩ = false := (by rw [hw2]; exact fq); have HW2 : Hid (w2 = wr.drewN d2) := hw2; clear hw2)
      go_roundw
      case rel =>
        have hrow2 : w2.heap[q]? = some (.cells cs' t (0, 0)) := by rw [HW2.out]; exact HRK.out
        have hsame := heap_setCell_same w2 q (off + k) _ _ (.int .i64 (N v)) hrow2
        have hO2 : Own4 base w2 (w2.setCell ⟨q, off + k, none⟩ (.int .i64 (N v))) := by
          refine Own4.of_gb (q := q) ⟨rfl, rfl, rfl, by simp, fun i hi hne => heap_setCell_other _ _ _ _ (by show i ≠ q; simpa using hne)⟩ (by simp) HQ.out hrow2 HT.out
        refine ⟨k + 1, d + d2, cs'.setIfInBounds (off + k) (.int .i64 (N v)), by omega, by go_num, ?_, fun _ => hsame, fun j hj hjn => ?_, HO.out.trans ((by rw [HW2.out]; exact Own4.drewN _ _ _ : Own4 base wr w2).trans hO2)⟩
        · have hkl : k < l.length := by rw [HL.out]; exact hlt
          have e1 : (l.take (k + 1)).map N = (l.take k).map N ++ [N v] := by
            rw [List.take_succ_eq_append_getElem hkl, List.map_append, HVE.out, List.getD, List.getElem?_eq_getElem hkl]; rfl
          rw [e1, setInts_snoc, HW2.out, HW.out, List.length_map, List.length_take, Nat.min_eq_left (by omega), drewN_two]
          exact setCell_drewN _ _ _ _
        · rw [Array.getElem?_setIfInBounds_ne (by omega)]
          exact HCS.out j (by omega) hjn
      case measure => simp [intOf]; omega
    · obtain rfl : k = n := by omega
      have HE : Hid (wr = (setInts w q off (l.map N)).drewN d) := by
        show _ = _
        have := HW.out
        rw [List.take_of_length_le (by rw [HL.out]; exact Nat.le_refl _)] at this
        exact this
      go_wp2
      go_end0
      exact HP.out _ _ ⟨rfl, ⟨d, HE.out⟩, HO.out⟩
end Go.Proofs.YtldbmdgpdolaaaaGreatDoor
