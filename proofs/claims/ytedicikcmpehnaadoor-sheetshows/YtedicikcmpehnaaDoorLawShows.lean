/- The walk of tierlinelaw.SheetShows: at every program that lies in memory it says true, and nothing that was there has turned. -/
import Derived.Test.YtedicikcmpehnaaDoorShown
import Derived.Test.YtedicikcmpehnaaDoorShow
import Derived.Test.YtedicikcmpehnaaDoorSame
import Derived.Test.YtedicikcmpehnaaDoorProgs
namespace Go.Proofs.YtedicikcmpehnaaDoor
open Go Go.RowKit

theorem Std.later {w w' : World} (h : Std w.heap.size w) (hb : Below w.heap.size w w') : Std w'.heap.size w' :=
  ⟨fun w2 h2 => h.pow w2 (hb.trans (h2.mono hb.size)), fun w2 h2 => h.tabs w2 (hb.trans (h2.mono hb.size))⟩

/-- What the two answer. -/
def showAns (p : List Fn) : List UInt8 := if codeProg p = 0 then showOf p else []
theorem shown_any (p : List Fn) (v : Value) (w : World) (hv : ProgVal w v p) (hwf : ∀ f ∈ p, f.wf) :
    Calls Tryd.prog 6 #[.agg #[v]] w fun e w' => e = .returned (.tuple #[.string ⟨(showAns p).toArray⟩, .int .i64 (codeProg p)]) ∧ Below w.heap.size w w' := by
  by_cases hc : codeProg p = 0
  · rw [showAns, if_pos hc, hc]
    exact shown_ok p v w hv hwf hc
  · rw [showAns, if_neg hc, prog_same]
    exact shown_bad p v w hv (by rw [← prog_same]; exact hc)
theorem show_any (p : List Fn) (v : Value) (w : World) (hs : Std w.heap.size w) (hv : ProgVal w v p) (hwf : ∀ f ∈ p, f.wf) :
    Calls Tryd.prog 5 #[.agg #[v]] w fun e w' => e = .returned (.tuple #[.string ⟨(showAns p).toArray⟩, .int .i64 (codeProg p)]) ∧ Below w.heap.size w w' := by
  by_cases hc : codeProg p = 0
  · rw [showAns, if_pos hc, hc]
    exact show_ok p v w hs hv hwf hc
  · rw [showAns, if_neg hc]
    exact show_bad p v w (hs.tabs w (Below.refl _ _)).2 hv hc

set_option maxHeartbeats 1000000 in
theorem sheetShows_walk (p : List Fn) (v : Value) (w : World) (ht : Std w.heap.size w) (hv : ProgVal w v p) (hwf : ∀ f ∈ p, f.wf) (hs : p.length * 40 ≤ 140737488355328) (hs' : ∀ f ∈ p, f.code.length * 40 ≤ 140737488355328) :
    Calls Tryd.prog 3 #[.agg #[v]] w fun e w' => e = .returned (.bool true) ∧ Below w.heap.size w w' := by
  obtain ⟨ao, n, cap, rfl⟩ := hv.shape
  have hva : ∀ o, ProgVal (w.alloc o) (.slice ao n cap) p := fun o => hv.keeps (keeps_below ((Below.refl _ _).alloc (Nat.le_refl _) _))
  have HT : Hid (Std (w.alloc (.cells #[.slice ao n cap] 24)).heap.size (w.alloc (.cells #[.slice ao n cap] 24))) := ht.later ((Below.refl _ _).alloc (Nat.le_refl _) _)
  have HW : Hid (∀ f ∈ p, f.wf) := hwf
  have HSH : Hid (∀ v w, Std w.heap.size w → ProgVal w v p → Calls Tryd.prog 5 #[.agg #[v]] w fun e w' => e = .returned (.tuple #[.string ⟨(showAns p).toArray⟩, .int .i64 (codeProg p)]) ∧ Below w.heap.size w w') := fun v w h1 h2 => show_any p v w h1 h2 hwf
  have HSN : Hid (∀ v w, ProgVal w v p → Calls Tryd.prog 6 #[.agg #[v]] w fun e w' => e = .returned (.tuple #[.string ⟨(showAns p).toArray⟩, .int .i64 (codeProg p)]) ∧ Below w.heap.size w w') := fun v w h2 => shown_any p v w h2 hwf
  generalize showAns p = A at HSH HSN
  generalize codeProg p = C at HSH HSN
  clear hv ht hwf
  go_enter Tryd.func3, Tryd.ntmps3
  go_wp2_with (first
    | (go_at_call 4; refine (programs_any p _ _ (hva _) hs hs').mono ?_; rintro e w1 ⟨v1, rfl, hp1, hb1⟩; obtain ⟨ao1, n1, cap1, rfl⟩ := hp1.shape; have hz1 : w.heap.size < w1.heap.size := (by have := hb1.size; simp at this; omega); have hB1 : Below w1.heap.size w1 (w1.alloc (.cells #[.slice ao1 n1 cap1] 24)) := (Below.refl _ _).alloc (Nat.le_refl _) _; have HT1 : Hid (Std (w1.alloc (.cells #[.slice ao1 n1 cap1] 24)).heap.size (w1.alloc (.cells #[.slice ao1 n1 cap1] 24))) := (show Std _ _ from (HT.out.later hb1).later hB1); have hP1 := hp1.keeps (keeps_below hB1); have hV1 := ((hva _).keeps (keeps_below hb1)).keeps (keeps_below hB1); have k1 := keeps_below hB1 _ _ (keeps_below hb1 ⟨w.heap.size, 0, none⟩ (.slice ao n cap) (by simp)))
    | (go_at_call 5; refine (HSH.out _ _ HT1.out hP1).mono ?_; rintro e w2 ⟨rfl, hb2⟩; have k2 := keeps_below hb2 _ _ k1; have k3 := keeps_below hb2 ⟨w1.heap.size, 0, none⟩ (.slice ao1 n1 cap1) (by simp); have hP2 := hP1.keeps (keeps_below hb2); have hV2 := hV1.keeps (keeps_below hb2))
    | (go_at_call 6; refine (HSN.out _ _ hV2).mono ?_; rintro e w3 ⟨rfl, hb3⟩; have k4 := keeps_below hb3 _ _ k2; have k5 := keeps_below hb3 _ _ k3; have hP3 := hP2.keeps (keeps_below hb3); have hV3 := hV2.keeps (keeps_below hb3))
    | (go_at_call 7; refine (same_true p _ _ _ hP3 hV3).mono ?_; rintro e w4 ⟨rfl, hb4⟩))
  go_ret
  refine ⟨rfl, ?_⟩
  have z1 := hb1.size
  have z2 := hb2.size
  have z3 := hb3.size
  simp at z1 z2
  exact ((((((Below.refl _ w).alloc (Nat.le_refl _) _).trans (hb1.mono (by simp))).alloc (by omega) _).trans (hb2.mono (by simp; omega))).trans (hb3.mono (by omega))).trans (hb4.mono (by omega))

end Go.Proofs.YtedicikcmpehnaaDoor
