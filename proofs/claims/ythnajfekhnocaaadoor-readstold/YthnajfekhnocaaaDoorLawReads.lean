/- The walk of tierlinelaw.ProofReads: at every program and all numbers it says true, and nothing that was there has turned. -/
import Derived.Test.YthnajfekhnocaaaDoorRefRS
import Derived.Test.YthnajfekhnocaaaDoorProgs
namespace Go.Proofs.YthnajfekhnocaaaDoor
open Go Go.RowKit

/-- What P3.4 answers. -/
def rsAns (P : List Fn) (fn pc : Int) : Nat × Nat × Int :=
  if codeProg P ≠ 0 then (0, 0, codeProg P) else if ¬ (0 ≤ fn ∧ fn < P.length) then (0, 0, 2) else if ¬ (0 ≤ pc ∧ pc < (codeAt P fn.toNat).length) then (0, 0, 2)
  else (rdMask P (insAtP P fn.toNat pc.toNat), setMask (insAtP P fn.toNat pc.toNat), 0)

theorem reads_all (P : List Fn) (v : Value) (fn pc : Int) (w : World) (ht : TabOk w) (hc : CallOk w) (hv : ProgVal w v P) :
    Calls Tryd.prog 16 #[.agg #[v], .int .i64 fn, .int .i64 pc] w fun e w' => e = .returned (.tuple #[.int .i64 ((rsAns P fn pc).1 : Int), .int .i64 ((rsAns P fn pc).2.1 : Int), .int .i64 (rsAns P fn pc).2.2]) ∧ Below w.heap.size w w' := by
  unfold rsAns
  by_cases h0 : codeProg P ≠ 0
  · have e : fnErr P fn = codeProg P := by unfold fnErr; rw [if_neg h0]
    have := reads_bad P v fn pc w ht hv (by rw [e]; exact h0)
    rw [e] at this
    rw [if_pos h0]; exact this
  rw [if_neg h0]
  have h0' : codeProg P = 0 := by simpa using h0
  by_cases h1 : ¬ (0 ≤ fn ∧ fn < P.length)
  · have e : fnErr P fn = 2 := by unfold fnErr; rw [if_pos h0', if_neg h1]
    have := reads_bad P v fn pc w ht hv (by rw [e]; decide)
    rw [e] at this
    rw [if_pos h1]; exact this
  rw [if_neg h1]
  have h1' : 0 ≤ fn ∧ fn < P.length := Decidable.not_not.1 h1
  have e : fnErr P fn = 0 := by unfold fnErr; rw [if_pos h0', if_pos h1']
  by_cases h2 : ¬ (0 ≤ pc ∧ pc < (codeAt P fn.toNat).length)
  · rw [if_pos h2]
    exact reads_range P v fn pc w ht hv e (by omega)
  · rw [if_neg h2]
    have h2' := Decidable.not_not.1 h2
    obtain ⟨k, rfl⟩ := Int.eq_ofNat_of_zero_le h1'.1
    obtain ⟨j, rfl⟩ := Int.eq_ofNat_of_zero_le h2'.1
    exact reads_ok P v k j w ht hc hv e (by have := h2'.2; simp at this; omega)

theorem rs_all (P : List Fn) (v : Value) (fn pc : Int) (w : World) (hv : ProgVal w v P) :
    Calls Tryd.prog 17 #[.agg #[v], .int .i64 fn, .int .i64 pc] w fun e w' => e = .returned (.tuple #[.int .i64 ((rsAns P fn pc).1 : Int), .int .i64 ((rsAns P fn pc).2.1 : Int), .int .i64 (rsAns P fn pc).2.2]) ∧ Below w.heap.size w w' := by
  unfold rsAns
  by_cases h0 : codeProg P ≠ 0
  · have := rs_bad P v fn pc w hv (by rw [← prog_same]; exact h0)
    rw [← prog_same] at this
    rw [if_pos h0]; exact this
  rw [if_neg h0]
  have h0' : refProg P = 0 := by rw [← prog_same]; simpa using h0
  by_cases h1 : ¬ (0 ≤ fn ∧ fn < P.length)
  · rw [if_pos h1]
    exact rs_range P v fn pc w hv h0' (Or.inl h1)
  rw [if_neg h1]
  have h1' : 0 ≤ fn ∧ fn < P.length := Decidable.not_not.1 h1
  by_cases h2 : ¬ (0 ≤ pc ∧ pc < (codeAt P fn.toNat).length)
  · rw [if_pos h2]
    exact rs_range P v fn pc w hv h0' (Or.inr ⟨h1', h2⟩)
  · rw [if_neg h2]
    have h2' := Decidable.not_not.1 h2
    obtain ⟨k, rfl⟩ := Int.eq_ofNat_of_zero_le h1'.1
    obtain ⟨j, rfl⟩ := Int.eq_ofNat_of_zero_le h2'.1
    exact rs_ok P v k j w hv h0' (by omega) (by have := h2'.2; simp at this; omega)

set_option maxHeartbeats 1000000 in
theorem proofReads_walk (p : List Fn) (v : Value) (fn pc : Int) (w : World) (ht : TabOk w) (hc : CallOk w) (hv : ProgVal w v p) (hs : p.length * 40 ≤ 140737488355328) (hs' : ∀ f ∈ p, f.code.length * 40 ≤ 140737488355328) :
    Calls Tryd.prog 5 #[.agg #[v], .int .i64 fn, .int .i64 pc] w fun e w' => e = .returned (.bool true) ∧ Below w.heap.size w w' := by
  obtain ⟨ao, n, cap, rfl⟩ := hv.shape
  have hbx : Below w.heap.size w (w.alloc (.cells #[.slice ao n cap] 24)) := (Below.refl _ _).alloc (Nat.le_refl _) _
  have hva := hv.keeps (keeps_below hbx)
  have hT := ht.below hbx
  have hC := hc.below hbx
  have hR := fun V W a b c => reads_all p V fn pc W a b c
  have hS := fun V W a => rs_all p V fn pc W a
  generalize rsAns p fn pc = ans at hR hS
  obtain ⟨A, B, E⟩ := ans
  dsimp only at hR hS
  clear hv ht hc hbx
  go_enter Tryd.func5, Tryd.ntmps5
  go_wp2_with (first
    | (go_at_call 10; refine (programs_any p _ _ hva hs hs').mono ?_; rintro e w1 ⟨v1, rfl, hp1, hb1⟩; have hT1 := hT.below hb1; have hC1 := hC.below hb1; have hV1 := hva.keeps (keeps_below hb1); have k1 := keeps_below hb1 ⟨w.heap.size, 0, none⟩ (.slice ao n cap) (by simp))
    | (go_at_call 16; refine (hR _ _ hT1 hC1 hp1).mono ?_; rintro e w2 ⟨rfl, hb2⟩; have k2 := keeps_below hb2 _ _ k1; have hV2 := hV1.keeps (keeps_below hb2))
    | (go_at_call 17; refine (hS _ _ hV2).mono ?_; rintro e w3 ⟨rfl, hb3⟩))
  go_ret
  refine ⟨rfl, ?_⟩
  have z1 := hb1.size
  have z2 := hb2.size
  simp at z1
  exact ((((Below.refl _ w).alloc (Nat.le_refl _) _).trans (hb1.mono (by simp))).trans (hb2.mono (by omega))).trans (hb3.mono (by omega))

end Go.Proofs.YthnajfekhnocaaaDoor
