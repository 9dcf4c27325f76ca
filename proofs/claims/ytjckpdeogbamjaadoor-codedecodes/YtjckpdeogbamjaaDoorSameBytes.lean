/- Contract of tierlinelaw.sameBytes: of two slices with the same bytes it says true. -/
import Derived.Test.YtjckpdeogbamjaaDoorBytes
import Derived.Test.YtjckpdeogbamjaaDoorProg
import Derived.Laws.BytesArg
import Derived.WalkLawsBesides
namespace Go.Proofs.YtjckpdeogbamjaaDoor
open Go Go.RowKit

/-- A slice of bytes lies in memory. -/
def BytesVal (w : World) (v : Value) (l : List Int) : Prop :=
  ∃ ao n cap, v = .slice ao n cap ∧ l.length = n ∧ (ao = none → n = 0 ∧ cap = 0) ∧ (0 < n → ∃ b off, ao = some ⟨b, off, none⟩ ∧ ∀ i, i < n → w.cell? ⟨b, off + i, none⟩ = some (.int .u8 (l.getD i 0)))
theorem BytesVal.keeps {w w' : World} {v : Value} {l : List Int} (h : BytesVal w v l) (k : Keeps w w') : BytesVal w' v l := by
  obtain ⟨ao, n, cap, rfl, h1, h2, h3⟩ := h
  refine ⟨ao, n, cap, rfl, h1, h2, fun hp => ?_⟩
  obtain ⟨b, off, e, hc⟩ := h3 hp
  exact ⟨b, off, e, fun i hi => k _ _ (hc i hi)⟩
theorem bytes_nil (w : World) : BytesVal w (.slice none 0 0) [] := ⟨none, 0, 0, rfl, rfl, fun _ => ⟨rfl, rfl⟩, fun h => by omega⟩
theorem bytes_of_own {w : World} {base : Nat} {v : Value} {l : List Int} (h : w.ownsRow base 5 1 v l.length (u8s l)) : BytesVal w v l := by
  have hc := @World.ownsRow.cells _ _ _ _ _ _ _ h
  rcases h.2 with ⟨rfl, h0⟩ | ⟨g, cap, cur, rfl, _⟩
  · obtain rfl : l = [] := List.length_eq_zero_iff.1 h0
    exact bytes_nil w
  · refine ⟨_, _, _, rfl, rfl, (fun e => by cases e), fun _ => ⟨g, 0, rfl, fun i hi => ?_⟩⟩
    have := hc (g := g) rfl i (.int .u8 (l.getD i 0)) (by simp [u8s, hi])
    have hadd : (⟨g, 0, none⟩ : Addr).add i = ⟨g, 0 + i, none⟩ := by unfold Addr.add; split <;> simp_all
    rwa [hadd] at this
theorem BytesVal.shape {w : World} {v : Value} {l : List Int} (h : BytesVal w v l) : ∃ ao cap, v = .slice ao l.length cap := by
  obtain ⟨ao, n, cap, rfl, rfl, _⟩ := h
  exact ⟨ao, cap, rfl⟩

theorem conv_bytes {w : World} {v : Value} {l : List Int} (h : BytesVal w v l) : (convert 22 9 v).run Tryd.prog w = .ok (.string (strOfNums l)) w := by
  obtain ⟨ao, n, cap, rfl, hl, h0, h1⟩ := h
  rcases Nat.eq_zero_or_pos n with hz | hp
  · subst hz
    obtain rfl : l = [] := List.length_eq_zero_iff.1 hl
    cases ao with
    | none => exact run_convert_bytes_nil w _ _ Tryd.underlying22 Tryd.underlying5 0 cap _ Tryd.underlying9
    | some a =>
      rw [run_convert_bytes_string w _ _ _ _ 0 cap Tryd.underlying22 Tryd.underlying5 Tryd.underlying9]
      exact run_bytesToString w a 0 cap [] (run_loadCells_list (P := Tryd.prog) w a [] (fun j v hj => by simp at hj))
  · obtain ⟨b, off, rfl, hc⟩ := h1 hp
    exact run_convert_bytes_arg w _ _ Tryd.underlying22 Tryd.underlying5 b off n cap l hl hc _ Tryd.underlying9

theorem sameBytes_true (l : List Int) (v1 v2 : Value) (w : World) (h1 : BytesVal w v1 l) (h2 : BytesVal w v2 l) :
    Calls Tryd.prog 12 #[v1, v2] w fun e w' => e = .returned (.bool true) ∧ w' = w := by
  have c1 := conv_bytes h1
  have c2 := conv_bytes h2
  obtain ⟨ao1, cap1, rfl⟩ := h1.shape
  obtain ⟨ao2, cap2, rfl⟩ := h2.shape
  clear h1 h2
  go_enter Tryd.func12, Tryd.ntmps12
  go_wp2
  go_ret
  exact ⟨rfl, rfl⟩

end Go.Proofs.YtjckpdeogbamjaaDoor
