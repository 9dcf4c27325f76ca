/- Contracts of emit.leaves, emit.steps and emit.begun. -/
import Derived.Test.YtgdmdlkhnokieaaDoorXFarMore
import Derived.Test.YtgdmdlkhnokieaaDoorXEmitRun
import Derived.Test.YtgdmdlkhnokieaaDoorXEmitData
import Derived.Test.YtgdmdlkhnokieaaDoorXLeftKit
import Derived.Test.YtgdmdlkhnokieaaDoorXOutNew
namespace Go.Proofs.YtgdmdlkhnokieaaDoor
open Go Go.RowKit

set_option maxRecDepth 100000 in
theorem leavesE_any (op : Int) (b : Bool) (hb : b = true ↔ op = 17 ∨ op = 18 ∨ op = 19) (w : World) :
    Calls Tryd.prog 49 #[.int .i64 op] w fun e w' => e = .returned (.bool b) ∧ w' = w := by
  by_cases h1 : op = 17
  · obtain rfl : b = true := hb.2 (Or.inl h1)
    have e1 : (op == 17) = true := by simpa using h1
    clear hb h1
    go_enter Tryd.func49, Tryd.ntmps49
    go_wp2
    go_ret
    exact ⟨rfl, rfl⟩
  by_cases h2 : op = 18
  · obtain rfl : b = true := hb.2 (Or.inr (Or.inl h2))
    have e1 : (op == 17) = false := by simpa using h1
    have e2 : (op == 18) = true := by simpa using h2
    clear hb h1 h2
    go_enter Tryd.func49, Tryd.ntmps49
    go_wp2
    go_ret
    exact ⟨rfl, rfl⟩
  have e1 : (op == 17) = false := by simpa using h1
  have e2 : (op == 18) = false := by simpa using h2
  have e3 : (op == 19) = b := by
    by_cases h3 : op = 19
    · rw [hb.2 (Or.inr (Or.inr h3))]; simpa using h3
    · have : b = false := by
        cases b with
        | false => rfl
        | true => rcases hb.1 rfl with h | h | h <;> contradiction
      rw [this]; simpa using h3
  clear hb h1 h2
  go_enter Tryd.func49, Tryd.ntmps49
  go_wp2
  go_ret
  exact ⟨rfl, rfl⟩

set_option maxRecDepth 100000 in
/-- How many steps of a block machine code does. -/
theorem stepsE_any (f : Fn) (fr t : Nat) (nx pv : Value) (b off cap : Nat) (w : World) (hl : fr < t) (ht : t ≤ f.code.length) (_h64 : f.code.length ≤ 1000) (hop : (insD f (t - 1)).op ≤ 19) (hc : w.cell? ⟨b, off + (t - 1) * 5, none⟩ = some (.int .i64 (insD f (t - 1)).op)) (hcap : f.code.length ≤ cap) (hcm : cap ≤ 9223372036854775807) :
    Calls Tryd.prog 31 #[.slice (some ⟨b, off, none⟩) f.code.length cap, .agg #[.int .i64 fr, .int .i64 t, nx, pv]] w fun e w' => e = .returned (.int .i64 ((manyB f fr t : Nat) : Int)) ∧ Below w.heap.size w w' := by
  have HB : Hid (Below w.heap.size w (w.alloc (.cells #[.int .i64 fr, .int .i64 t, nx, pv] 55))) := (Below.refl _ _).alloc (Nat.le_refl _) _
  obtain ⟨q, rfl⟩ : ∃ q, t = q + 1 := ⟨t - 1, by omega⟩
  have hq : q + 1 - 1 = q := rfl
  rw [hq] at hc hop
  have hc2 := keeps_below HB.out _ _ hc
  obtain ⟨bb, hbb2⟩ : ∃ bb : Bool, bb = decide (17 ≤ (insD f q).op) := ⟨_, rfl⟩
  have hLV := fun W => leavesE_any (insD f q).op bb (by rw [hbb2, decide_eq_true_eq]; omega) W
  have s1 : IntKind.i64.wrap (((q + 1 : Nat) : Int) - 1) = (q : Int) := by rw [show ((q + 1 : Nat) : Int) - 1 = q by omega]; exact wrap_fits _ (by omega) (by omega)
  have s2 : IntKind.i64.wrap (((q + 1 : Nat) : Int) - (fr : Int)) = ((q + 1 - fr : Nat) : Int) := by rw [show ((q + 1 : Nat) : Int) - (fr : Int) = ((q + 1 - fr : Nat) : Int) by omega]; exact wrap_fits _ (by omega) (by omega)
  have s3 : IntKind.i64.wrap (((q + 1 - fr : Nat) : Int) - 1) = ((q + 1 - fr - 1 : Nat) : Int) := by rw [show ((q + 1 - fr : Nat) : Int) - 1 = ((q + 1 - fr - 1 : Nat) : Int) by omega]; exact wrap_fits _ (by omega) (by omega)
  have hqn : (q : Int) < (f.code.length : Int) := by omega
  have HM : Hid (manyB f fr (q + 1) = if bb = true then q + 1 - fr - 1 else q + 1 - fr) := by
    show _ = _
    unfold manyB
    rw [hq, hbb2]
    by_cases h : 17 ≤ (insD f q).op
    · rw [if_pos h, if_pos (by simpa using h)]
    · rw [if_neg h, if_neg (by simpa using h)]
  generalize (insD f q).op = op at *
  generalize f.code.length = n at *
  generalize hT : q + 1 = tt at *
  generalize hX : tt - fr = xx at *
  generalize hY : xx - 1 = yy at *
  have k0 : (w.alloc (.cells #[.int .i64 fr, .int .i64 tt, nx, pv] 55)).cell? ⟨w.heap.size, 0, none⟩ = some (.int .i64 fr) := by rw [cell_of_row _ _ _ _ _ _ (heap_alloc_last w _)]; rfl
  have k1 : (w.alloc (.cells #[.int .i64 fr, .int .i64 tt, nx, pv] 55)).cell? ⟨w.heap.size, 1, none⟩ = some (.int .i64 tt) := by rw [cell_of_row _ _ _ _ _ _ (heap_alloc_last w _)]; rfl
  clear hl ht _h64 hop hc hq hbb2 hT hX hY
  go_enter Tryd.func31, Tryd.ntmps31
  go_upto_region 1 with fail
  generalize w.alloc (.cells #[.int .i64 fr, .int .i64 tt, nx, pv] 55) = W1 at *
  cases bb with
  | true =>
    go_wp2_with (go_at_call 49; refine (hLV _).mono ?_; rintro e w2 ⟨rfl, rfl⟩)
    go_ret
    exact ⟨by rw [HM.out]; rfl, HB.out⟩
  | false =>
    go_wp2_with (go_at_call 49; refine (hLV _).mono ?_; rintro e w2 ⟨rfl, rfl⟩)
    go_ret
    exact ⟨by rw [HM.out]; rfl, HB.out⟩

set_option maxRecDepth 100000 in
theorem begunC_any (fr t pc : Int) (nx pv : Value) (B : Nat) (w : World) (hc : w.cell? ⟨B, 0, none⟩ = some (.int .i64 pc)) :
    Calls Tryd.prog 48 #[.agg #[.int .i64 fr, .int .i64 t, nx, pv], .pointer (some ⟨B, 0, none⟩)] w fun e w' => e = .returned (.bool (fr == pc)) ∧ Below w.heap.size w w' := by
  have HB : Hid (Below w.heap.size w (w.alloc (.cells #[.int .i64 fr, .int .i64 t, nx, pv] 55))) := (Below.refl _ _).alloc (Nat.le_refl _) _
  have hc2 := keeps_below HB.out _ _ hc
  have k0 : (w.alloc (.cells #[.int .i64 fr, .int .i64 t, nx, pv] 55)).cell? ⟨w.heap.size, 0, none⟩ = some (.int .i64 fr) := by rw [cell_of_row _ _ _ _ _ _ (heap_alloc_last w _)]; rfl
  clear hc
  go_enter Tryd.func48, Tryd.ntmps48
  go_upto_region 1 with fail
  generalize w.alloc (.cells #[.int .i64 fr, .int .i64 t, nx, pv] 55) = W1 at *
  go_wp2
  go_ret
  exact ⟨rfl, HB.out⟩

/-- Which block begins at a place: its number, or -1. -/
def begI (S : List Nat) (pc : Int) (z : Int) : Prop := (∃ i, i < S.length ∧ z = (i : Int) ∧ ((S.getD i 0 : Nat) : Int) = pc) ∨ (z = -1 ∧ ∀ i, i < S.length → ((S.getD i 0 : Nat) : Int) ≠ pc)
theorem BlkRow.range {w : World} {g n : Nat} {F T : Nat → Int} {VV : Nat → Value} (h : BlkRow w g n F T VV) {i : Nat} (hi : i < n) : w.rangeAt g (i * 4) [.int .i64 (F i), .int .i64 (T i), VV (2 * i), VV (2 * i + 1)] := by
  intro j u hu
  have hj : j < 4 := (List.getElem?_eq_some_iff.1 hu).1
  match j, hj, hu with
  | 0, _, hu => cases hu; exact blk_from h i hi
  | 1, _, hu => cases hu; exact blk_to h i hi
  | 2, _, hu => cases hu; exact blk_next h i hi
  | 3, _, hu => cases hu; exact blk_prev h i hi
theorem infoBlkS : (Tryd.prog.info? 55).map (·.size) = some 4 := by kernel_rfl

set_option maxRecDepth 100000 in
theorem indexB_any (S : List Nat) (T : Nat → Int) (VV : Nat → Value) (g B : Nat) (pc : Int) (w : World) (hS : S.length ≤ 1000) (hr : BlkRow w g S.length (fun i => ((S.getD i 0 : Nat) : Int)) T VV) (hc : w.cell? ⟨B, 0, none⟩ = some (.int .i64 pc)) :
    Calls Tryd.prog 47 #[.slice (some ⟨g, 0, none⟩) S.length S.length, .func (.func 48) #[] #[.pointer (some ⟨B, 0, none⟩)]] w fun e w' => ∃ z, e = .returned (.int .i64 z) ∧ begI S pc z ∧ Below w.heap.size w w' := by
  have HR : Hid (∀ W, Below w.heap.size w W → ∀ i, i < S.length → W.rangeAt g (i * 4) [.int .i64 ((S.getD i 0 : Nat) : Int), .int .i64 (T i), VV (2 * i), VV (2 * i + 1)]) := fun W hb i hi j u hu => keeps_below hb _ _ (hr.range hi j u hu)
  have HC : Hid (∀ W, Below w.heap.size w W → W.cell? ⟨B, 0, none⟩ = some (.int .i64 pc)) := fun W hb => keeps_below hb _ _ hc
  obtain ⟨n, hn⟩ : ∃ n, S.length = n := ⟨_, rfl⟩
  rw [hn] at hS ⊢
  have HN : Hid (S.length = n) := hn
  clear hr hc hn
  go_enter Tryd.func47, Tryd.ntmps47
  go_wp2
  go_loopw [5, 8] (fun _ i wr => ∃ q : Nat, q ≤ n ∧ i = .int .i64 q ∧ (∀ j, j < q → ((S.getD j 0 : Nat) : Int) ≠ pc) ∧ Below w.heap.size w wr) (fun _ i _ => n - (intOf i).toNat)
  case atStart => exact ⟨0, Nat.zero_le _, rfl, fun j h => by omega, Below.refl _ _⟩
  case round =>
    obtain ⟨q, hq, rfl, hno, hwr⟩ := hrel
    have HNO : Hid (∀ j, j < q → ((S.getD j 0 : Nat) : Int) ≠ pc) := hno
    have HW : Hid (Below w.heap.size w wr) := hwr
    clear hno hwr
    by_cases hlt : q < n
    · have hqI : (q : Int) < n := by omega
      have HRG := HR.out wr HW.out q (by rw [HN.out]; exact hlt)
      have hcl := HC.out wr HW.out
      by_cases he : ((S.getD q 0 : Nat) : Int) = pc
      · have hee : (((S.getD q 0 : Nat) : Int) == pc) = true := by simpa using he
        have HE : Hid (((S.getD q 0 : Nat) : Int) = pc) := he
        clear he
        generalize ((S.getD q 0 : Nat) : Int) = y at HRG hee
        have hB := begunC_any y (T q) pc (VV (2 * q)) (VV (2 * q + 1)) B wr hcl
        rw [hee] at hB
        clear hee
        go_wp2_with (first
          | (refine wpList_load_mid rfl 55 _ rfl g (q * 4) rfl [.int .i64 y, .int .i64 (T q), VV (2 * q), VV (2 * q + 1)] _ HRG Tryd.underlying55 rfl infoBlkS ?_)
          | (go_at_call 48; refine hB.mono ?_; rintro e w2 ⟨rfl, hb2⟩))
        go_ret
        exact ⟨_, rfl, Or.inl ⟨q, by rw [HN.out]; exact hlt, rfl, HE.out⟩, HW.out.trans (hb2.mono HW.out.size)⟩
      · have hee : (((S.getD q 0 : Nat) : Int) == pc) = false := by simpa using he
        have HNN : Hid (∀ j, j < q + 1 → ((S.getD j 0 : Nat) : Int) ≠ pc) := fun j hj => by
          by_cases hjq : j = q
          · rw [hjq]; exact he
          · exact HNO.out j (by omega)
        clear he
        generalize ((S.getD q 0 : Nat) : Int) = y at HRG hee
        have hB := begunC_any y (T q) pc (VV (2 * q)) (VV (2 * q + 1)) B wr hcl
        rw [hee] at hB
        clear hee
        go_wp2_with (first
          | (refine wpList_load_mid rfl 55 _ rfl g (q * 4) rfl [.int .i64 y, .int .i64 (T q), VV (2 * q), VV (2 * q + 1)] _ HRG Tryd.underlying55 rfl infoBlkS ?_)
          | (go_at_call 48; refine hB.mono ?_; rintro e w2 ⟨rfl, hb2⟩))
        go_roundw
        case rel => exact ⟨q + 1, by omega, by go_num, HNN.out, HW.out.trans (hb2.mono HW.out.size)⟩
        case measure => simp [intOf]; omega
    · go_wp2
      go_ret
      exact ⟨_, rfl, Or.inr ⟨rfl, fun i hi => HNO.out i (by rw [HN.out] at hi; omega)⟩, HW.out⟩

set_option maxRecDepth 100000 in
theorem begunB_any (S : List Nat) (T : Nat → Int) (VV : Nat → Value) (g : Nat) (pc : Int) (w : World) (hS : S.length ≤ 1000) (hr : BlkRow w g S.length (fun i => ((S.getD i 0 : Nat) : Int)) T VV) :
    Calls Tryd.prog 30 #[.slice (some ⟨g, 0, none⟩) S.length S.length, .int .i64 pc] w fun e w' => ∃ z, e = .returned (.int .i64 z) ∧ begI S pc z ∧ Below w.heap.size w w' := by
  have HB : Hid (Below w.heap.size w (w.alloc (.cells #[.int .i64 pc] 3))) := (Below.refl _ _).alloc (Nat.le_refl _) _
  have HI : Hid (Calls Tryd.prog 47 #[.slice (some ⟨g, 0, none⟩) S.length S.length, .func (.func 48) #[] #[.pointer (some ⟨w.heap.size, 0, none⟩)]] (w.alloc (.cells #[.int .i64 pc] 3)) _) := indexB_any S T VV g w.heap.size pc _ hS (ownsRow_below hr HB.out) (by rw [cell_of_row _ _ _ _ _ _ (heap_alloc_last w _)]; rfl)
  generalize S.length = n at *
  have hmf : ∀ (fn : Go.Fn) (first cap : Array Value) (w : World), (Instr.makeFunc fn first cap).run Tryd.prog w = .ok (.func fn first cap) w := fun _ _ _ _ => rfl
  clear hr hS
  go_enter Tryd.func30, Tryd.ntmps30
  go_upto_region 1 with fail
  go_wp2_with (go_at_call 47; refine HI.out.mono ?_; rintro e w2 ⟨z, rfl, hz, hb2⟩)
  go_ret
  exact ⟨z, rfl, hz, HB.out.trans (hb2.mono HB.out.size)⟩
end Go.Proofs.YtgdmdlkhnokieaaDoor
