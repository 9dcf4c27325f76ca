/- The document's wayTo, whatever the register. -/
import Derived.Test.YtepnhemlhogmgaaDoorWayTo
namespace Go.Proofs.YtepnhemlhogmgaaDoor
open Go Go.RowKit

set_option maxRecDepth 100000 in
theorem wayTo_early (f : Fn) (hf : FnOk f) (cv : Value) (rn : Nat) (w : World) (hcv : CodeVal w cv f.code) (hpr : (rn : Int) < f.params) :
    Calls Tryd.prog 30 #[.agg #[.int .i64 f.params, .int .i64 f.regs, cv], .int .i64 (rn : Int)] w
      fun e w' => ∃ s, e = .returned (.slice (some ⟨w.heap.size + 1, 0, none⟩) (f.code.length + 1) (f.code.length + 1)) ∧ SeenSpec f rn s ∧ BoolRow w' (w.heap.size + 1) (f.code.length + 1) s ∧ Below w.heap.size w w' := by
  obtain ⟨iB, hiB, hzB0, hzB1, hzB2⟩ := info_parts infoBool
  have hl2 := hf.len2
  obtain ⟨ao, b, off, n, cap, rfl, ⟨hlen, haddr, hat⟩, hcap, hmax⟩ := hcv
  clear hat haddr
  subst hlen
  have HS : Hid (SeenSpec f rn (List.replicate (f.code.length + 1) false)) := seen_none hpr
  have hm0 := made_false (f.code.length + 1)
  generalize hN : f.code.length = n at *
  clear hN
  obtain ⟨fp, hfp⟩ : ∃ z, z = f.params := ⟨_, rfl⟩
  obtain ⟨fr, hfr⟩ : ∃ z, z = f.regs := ⟨_, rfl⟩
  rw [← hfp] at hpr ⊢
  rw [← hfr]
  clear hfp hfr
  unfold maxLen at hmax
  go_enter Tryd.func30, Tryd.ntmps30
  go_wp2_with (at_make; refine wpList_make_full _ rfl (.tmp 14) (.tmp 14) 32 rfl 0 4 iB _ 1 Tryd.underlying32 hiB hzB0 hzB1 .i64 .i64 _ _ (n + 1) rfl rfl (by simp) (by simp) (by rw [hzB2]; omega) (by unfold maxLen; omega) (Nat.zero_le _) ?_; intro w1 hown1 hg1; rw [hm0] at hown1; simp only [World.size_alloc] at hown1; have hb1 := below_grown hg1; have k0 := keeps_below hb1 _ _ (way_box w _ _ 0 (.int .i64 fp) rfl))
  go_ret
  exact ⟨_, rfl, HS.out, hown1, ((Below.refl _ _).alloc (Nat.le_refl _) _).trans (hb1.mono (by simp))⟩

theorem wayTo_any (P : List Fn) (f : Fn) (hf : FnOk f) (hins : ∀ x ∈ f.code, InsOk P x ∧ (x.op = 15 ∨ x.op = 16 → 0 ≤ x.imm)) (cv : Value) (r : Int) (rn : Nat) (w : World) (hcv : CodeVal w cv f.code)
    (hr : (r = -1 ∧ rn = 63) ∨ (r = (rn : Int) ∧ rn < 12)) :
    Calls Tryd.prog 30 #[.agg #[.int .i64 f.params, .int .i64 f.regs, cv], .int .i64 r] w
      fun e w' => ∃ s, e = .returned (.slice (some ⟨w.heap.size + 1, 0, none⟩) (f.code.length + 1) (f.code.length + 1)) ∧ SeenSpec f rn s ∧ BoolRow w' (w.heap.size + 1) (f.code.length + 1) s ∧ Below w.heap.size w w' := by
  by_cases hp : f.params ≤ (rn : Int)
  · exact wayTo_main P f hf hins cv r rn w hcv hr hp
  · have hp2 := hf.p2
    rcases hr with ⟨rfl, rfl⟩ | ⟨rfl, _⟩
    · omega
    · exact wayTo_early f hf cv rn w hcv (by omega)

end Go.Proofs.YtepnhemlhogmgaaDoor
