/- The walk of tierlinekeep.RvFixed: at every number it says true, and nothing that was there has turned. -/
import Derived.Test.YthlljbifijodeaaDoorRvKeep
namespace Go.Proofs.YthlljbifijodeaaDoor
open Go Go.RowKit

set_option maxRecDepth 100000 in
set_option maxHeartbeats 2000000 in
theorem rvFixed_walk (wd : Int) (w : World) (ht : RvTab w) :
    Calls Tryd.prog 7 #[.int .i64 wd] w fun e w' => e = .returned (.bool true) ∧ Below w.heap.size w w' := by
  have hD := rdecode_any wd w ht
  by_cases h0 : decE wd = 0
  · obtain ⟨hok, hw⟩ := word_dec wd h0
    have hE := fun W (h : Below w.heap.size w W) => rencode_any (decX wd) W (ht.below h)
    have e1 : rvE (decX wd) = 0 := hok.e
    have e2 : encI (decX wd) = wd := by unfold encI; rw [if_pos e1, hw]
    rw [e1, e2] at hE
    rw [h0] at hD
    clear h0 hok hw e1 e2 ht
    generalize decX wd = X at *
    obtain ⟨op, rd, rs1, rs2, imm⟩ := X
    unfold Mi.val at *
    dsimp only at *
    have HE : Hid _ := hE
    clear hE
    go_enter Tryd.func7, Tryd.ntmps7
    go_wp2_with (first
      | (go_at_call 16; refine hD.mono ?_; rintro e w1 ⟨rfl, hb1⟩; have HB1 : Hid (Below w.heap.size w w1) := hb1; clear hb1)
      | (go_at_call 14; refine (HE.out _ (HB1.out.alloc HB1.out.size _)).mono ?_; rintro e w2 ⟨rfl, hb2⟩; have HB2 : Hid (Below w.heap.size w w2) := (HB1.out.alloc HB1.out.size _).trans (hb2.mono (by have := HB1.out.size; simp; omega)); clear hb2))
    go_ret
    exact ⟨by simp, HB2.out⟩
  · obtain ⟨e1, e2⟩ := dec_bad wd h0
    rw [e1] at hD
    have hne : (decE wd != 0) = true := by simpa using h0
    clear e1 ht
    unfold Mi.val zeroMi at hD
    dsimp only at hD
    by_cases h1 : wd < 0 ∨ 4294967295 < wd
    · have e3 := e2.2 h1
      rw [e3] at hD
      clear e2 e3 h0 hne
      rcases h1 with h1 | h1
      all_goals
        go_enter Tryd.func7, Tryd.ntmps7
        go_wp2_with (first
          | (go_at_call 16; refine hD.mono ?_; rintro e w1 ⟨rfl, hb1⟩; have HB1 : Hid (Below w.heap.size w w1) := hb1; clear hb1))
        go_ret
        exact ⟨by first | (simp; done) | (simp; omega), HB1.out.alloc HB1.out.size _⟩
    · have e3 : decE wd ≠ 2 := fun h => h1 (e2.1 h)
      have hn2 : (decE wd == 2) = false := by simpa using e3
      have w0 : 0 ≤ wd := by omega
      have w1 : wd < 4294967296 := by omega
      generalize decE wd = E at *
      clear e2 e3 h0 h1
      go_enter Tryd.func7, Tryd.ntmps7
      go_wp2_with (first
        | (go_at_call 16; refine hD.mono ?_; rintro e w1 ⟨rfl, hb1⟩; have HB1 : Hid (Below w.heap.size w w1) := hb1; clear hb1))
      go_ret
      exact ⟨by first | (simp; done) | (simp; omega), HB1.out.alloc HB1.out.size _⟩
end Go.Proofs.YthlljbifijodeaaDoor
