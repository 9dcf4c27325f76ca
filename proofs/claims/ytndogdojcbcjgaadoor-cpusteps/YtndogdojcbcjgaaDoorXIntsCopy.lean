/- Contract of tierlinelaw.ints. -/
import Derived.Test.YtndogdojcbcjgaaDoorXOwnInts
import Derived.Test.YtndogdojcbcjgaaDoorGroupA
namespace Go.Proofs.YtndogdojcbcjgaaDoor
open Go Go.RowKit

theorem ints_cellsC {w : World} {v : Value} {l : List Int} (h : IntsVal w v l) : ∃ ao c, v = .slice ao l.length c ∧ (ao = none → l.length = 0 ∧ c = 0) ∧ ∀ ad, ao = some ad → ∀ j u, (i64s l)[j]? = some u → w.cell? (ad.add j) = some u := by
  rcases ints_some h with ⟨rfl, rfl⟩ | ⟨a, cap, rfl, hc⟩
  · exact ⟨none, 0, rfl, fun _ => ⟨rfl, rfl⟩, fun ad h => by cases h⟩
  · refine ⟨some a, cap, rfl, fun h => (by cases h), fun ad h => ?_⟩
    obtain rfl : a = ad := by simpa using h
    exact hc

set_option maxRecDepth 100000 in
theorem ints_copy (v : Value) (l : List Int) (w : World) (hv : IntsVal w v l) (hs : l.length * 8 ≤ 140737488355328) :
    Calls Tryd.prog 29 #[v] w fun e w' => ∃ v', e = .returned v' ∧ w'.ownsRow w.heap.size 3 1 v' l.length (i64s l) ∧ Below w.heap.size w w' := by
  obtain ⟨i64i, hi64, hz0, hz1, hz2⟩ := info_parts info64
  obtain ⟨ao, c, rfl, hn, hc⟩ := ints_cellsC hv
  have hm : l.length ≤ maxLen := by unfold maxLen; omega
  have HN : Hid (ao = none → l.length = 0 ∧ c = 0) := hn
  have HC : Hid (∀ ad, ao = some ad → ∀ j u, (i64s l)[j]? = some u → w.cell? (ad.add j) = some u) := hc
  clear hn hc hv
  go_enter Tryd.func29, Tryd.ntmps29
  go_wp2_with (at_builtin; refine wpList_append_slice rfl (.const (.slice none 0 0)) (.tmp 3) 27 rfl w.heap.size 3 i64i _ 1 8 Tryd.underlying27 hi64 hz0 hz1 hz2 rfl (by decide) (.slice none 0 0) 0 [] rfl (World.ownsRow_nil _ _ _ _) ao l.length c (i64s l) rfl HN.out (by rw [i64s_length]; omega) HC.out (i64s_one _) (by omega) (by omega) (Nat.le_refl _) ?_; intro u1 w1 hown1 hg1)
  go_ret
  exact ⟨_, rfl, by simpa using hown1, below_grown hg1⟩
end Go.Proofs.YtndogdojcbcjgaaDoor
