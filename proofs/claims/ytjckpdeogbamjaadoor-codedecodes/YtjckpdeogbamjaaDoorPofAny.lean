/- Contract of tierlineref.ProgramOf, whatever the bytes. -/
import Derived.Test.YtjckpdeogbamjaaDoorPof
namespace Go.Proofs.YtjckpdeogbamjaaDoor
open Go Go.RowKit

set_option maxRecDepth 100000 in
set_option maxHeartbeats 1000000 in
theorem pof_long (l : List Int) (v : Value) (w : World) (hv : BytesVal w v l) (hl : 4000 < l.length) :
    Calls Tryd.prog 10 #[v] w fun e w' => ∃ u us, e = .returned (.tuple #[.agg #[u], .int .i64 (decErr l)]) ∧ Built w' w.heap.size 42 44 u (decProg l) us ∧ Below w.heap.size w w' := by
  have he : decErr l = 1 := by simp [decErr, hl]
  have hp : decProg l = [] := by simp [decProg, he]
  rw [hp, he]
  obtain ⟨ao, n, cap, rfl, hlen, _⟩ := hv
  have hn : 4000 < n := by omega
  clear hp he hlen hl
  have hb : Below w.heap.size w (w.alloc (.cells #[.slice none 0 0] 26)) := (Below.refl _ _).alloc (Nat.le_refl _) _
  go_enter Tryd.func10, Tryd.ntmps10
  go_wp2_with fail
  exact bodyPost_ret (v := .tuple #[.agg #[.slice none 0 0], .int .i64 1]) (by simp [results, Tryd.results10, go_sem]) rfl ⟨.slice none 0 0, [], rfl, built_nil _ _ _ _, hb⟩

set_option maxRecDepth 100000 in
set_option maxHeartbeats 1000000 in
theorem pof_none (v : Value) (w : World) (hv : BytesVal w v []) :
    Calls Tryd.prog 10 #[v] w fun e w' => ∃ u us, e = .returned (.tuple #[.agg #[u], .int .i64 (decErr [])]) ∧ Built w' w.heap.size 42 44 u (decProg []) us ∧ Below w.heap.size w w' := by
  have he : decErr [] = 4 := rfl
  have hp : decProg [] = [] := by simp [decProg, he]
  rw [hp, he]
  have HV : Hid (∀ W, Below w.heap.size w W → BytesVal W v []) := fun W hb => hv.keeps (keeps_below hb)
  obtain ⟨ao, cap, rfl⟩ := hv.shape
  have HB : Hid (Below w.heap.size w ((w.alloc (.cells #[.slice none 0 0] 26)).alloc (.cells #[.slice none 0 0] 26))) := ((Below.refl _ _).alloc (Nat.le_refl _) _).alloc (by simp) _
  have hv0 : Hid (BytesVal ((w.alloc (.cells #[.slice none 0 0] 26)).alloc (.cells #[.slice none 0 0] 26)) (.slice ao 0 cap) []) := HV.out _ HB.out
  have HB0 : Hid (byteAtZ [] 0 = -1) := rfl
  clear hp he hv
  go_enter Tryd.func10, Tryd.ntmps10
  go_wp2_with fail
  go_loopg [6] 0 (fun _ i wr => i = .int .i64 0 ∧ wr = (w.alloc (.cells #[.slice none 0 0] 26)).alloc (.cells #[.slice none 0 0] 26))
  case atStart => exact ⟨rfl, rfl⟩
  case round =>
    obtain ⟨rfl, rfl⟩ := hrel
    go_wp2_with (go_at_call 20; refine (byteAt_z [] _ 0 cap _ _ hv0.out (fun i => by simp) (by omega) (by omega) (by omega)).mono ?_; rintro e w' ⟨rfl, hw'⟩; rw [hw']; clear hw' w'; rw [HB0.out])
    exact bodyPost_ret (v := .tuple #[.agg #[.slice none 0 0], .int .i64 4]) (by simp [results, Tryd.results10, go_sem]) rfl ⟨.slice none 0 0, [], rfl, built_nil _ _ _ _, by first | exact HB.out | exact HB.out.setCell (Nat.le_refl _) _⟩

/-- The document's answer, whatever the bytes. -/
theorem pof_any (l : List Int) (v : Value) (w : World) (hv : BytesVal w v l) (hby : ∀ i, 0 ≤ l.getD i 0 ∧ l.getD i 0 ≤ 255) :
    Calls Tryd.prog 10 #[v] w fun e w' => ∃ u us, e = .returned (.tuple #[.agg #[u], .int .i64 (decErr l)]) ∧ Built w' w.heap.size 42 44 u (decProg l) us ∧ Below w.heap.size w w' := by
  by_cases h1 : 4000 < l.length
  · exact pof_long l v w hv h1
  by_cases h2 : 1 ≤ l.length
  · exact pof_some l v w hv hby h2 (by omega)
  · obtain rfl : l = [] := List.length_eq_zero_iff.1 (by omega)
    exact pof_none v w hv

end Go.Proofs.YtjckpdeogbamjaaDoor
