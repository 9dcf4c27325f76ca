/- The walk of tierlinelaw.StepRuns: at every program, arguments, answers and fuel it says true, and nothing that was there has turned. -/
import Derived.Test.YtndogdojcbcjgaaDoorXRunAll
import Derived.Test.YtndogdojcbcjgaaDoorXLawBegins
namespace Go.Proofs.YtndogdojcbcjgaaDoor
open Go Go.RowKit

set_option maxRecDepth 100000 in
set_option maxHeartbeats 2000000 in
theorem stepRuns_walk (P : List Fn) (v va vn : Value) (args answers : List Int) (fuel : Int) (w : World) (ht : TabOk w) (hc : CallOk w) (hv : ProgVal w v P) (hva : IntsVal w va args) (hvn : IntsVal w vn answers)
    (hs : P.length * 40 ≤ 140737488355328) (hs' : ∀ f ∈ P, f.code.length * 40 ≤ 140737488355328) (h1 : args.length * 8 ≤ 140737488355328) (h2 : answers.length * 8 ≤ 140737488355328) (hP : FitP P) (hfa : ∀ z ∈ args, Fits z) (hfn : ∀ z ∈ answers, Fits z) :
    Calls Tryd.prog 8 #[.agg #[v], va, vn, .int .i64 fuel] w fun e w' => e = .returned (.bool true) ∧ Below w.heap.size w w' := by
  obtain ⟨c, hE, hc0⟩ := begin_num P args answers fuel
  obtain ⟨ao, n, cap, rfl⟩ := hv.shape
  obtain ⟨aa, ca, rfl⟩ := hva.shape
  obtain ⟨an, cn, rfl⟩ := hvn.shape
  have HT : Hid (∀ W, Below w.heap.size w W → TabOk W ∧ CallOk W ∧ ProgVal W (.slice ao n cap) P ∧ IntsVal W (.slice aa args.length ca) args ∧ IntsVal W (.slice an answers.length cn) answers) := fun W hW => ⟨ht.below hW, hc.below hW, hv.keeps (keeps_below hW), hva.keeps (keeps_below hW), hvn.keeps (keeps_below hW)⟩
  have HRN : Hid (∀ W vp v1 v2, Below w.heap.size w W → ProgVal W vp P → IntsVal W v1 args → IntsVal W v2 answers → Calls Tryd.prog 28 #[.agg #[vp], v1, v2, .int .i64 fuel] W (RunPost P args answers fuel c W)) := fun W vp v1 v2 hW hp q1 q2 => run_all P vp v1 v2 args answers fuel c W (HT.out W hW).1 (HT.out W hW).2.1 hp q1 q2 hE hc0
  have HRO : Hid (∀ W, Below w.heap.size w W → Calls Tryd.prog 30 #[.agg #[.slice ao n cap], .slice aa args.length ca, .slice an answers.length cn, .int .i64 fuel] W (RunPost P args answers fuel c W)) := fun W hW => runOf_all P _ _ _ args answers fuel c W (HT.out W hW).2.2.1 (HT.out W hW).2.2.2.1 (HT.out W hW).2.2.2.2 hE hc0 hP hfa hfn
  have B0 : ∀ o, Below w.heap.size w (w.alloc o) := fun o => (Below.refl _ _).alloc (Nat.le_refl _) _
  clear hv hva hvn ht hc hE hc0 hP hfa hfn
  go_enter Tryd.func8, Tryd.ntmps8
  go_wp2_with (first
    | (go_at_call 14; refine (programs_any P _ _ (HT.out _ (B0 _)).2.2.1 hs hs').mono ?_; rintro e w1 ⟨v1, rfl, hp1, hb1⟩; have B1 : Below w.heap.size w w1 := (B0 _).trans (hb1.mono (by simp)); have k1 := keeps_below hb1 ⟨w.heap.size, 0, none⟩ (.slice ao n cap) (by simp); have z1 : w.heap.size < w1.heap.size := (by have := hb1.size; simp at this; omega); clear hs hb1 B0)
    | (go_at_call 29; refine (ints_any _ args _ (HT.out _ B1).2.2.2.1 h1).mono ?_; rintro e w2 ⟨v2, rfl, ho2, hb2⟩; have B2 : Below w.heap.size w w2 := B1.trans (hb2.mono (by omega)); have k2 := keeps_below hb2 _ _ k1; have hp2 := hp1.keeps (keeps_below hb2); have hi2 := ints_of_own ho2; have z2 : w.heap.size < w2.heap.size := (by have := hb2.size; omega); clear h1 ho2 hb2 hp1 k1)
    | (go_at_call 29; refine (ints_any _ answers _ (HT.out _ B2).2.2.2.2 h2).mono ?_; rintro e w3 ⟨v3, rfl, ho3, hb3⟩; have B3 : Below w.heap.size w w3 := B2.trans (hb3.mono (by omega)); have k3 := keeps_below hb3 _ _ k2; have hp3 := hp2.keeps (keeps_below hb3); have hi2' := hi2.keeps (keeps_below hb3); have hi3 := ints_of_own ho3; have z3 : w.heap.size < w3.heap.size := (by have := hb3.size; omega); clear ho3 hb3 hp2 k2 hi2)
    | (go_at_call 28; refine (HRN.out _ _ _ _ B3 hp3 hi2' hi3).mono ?_; rintro e w4 hP4; obtain ⟨cs4, rfl, q4, r4, s4, hst, hb4⟩ := hP4; have B4 : Below w.heap.size w w4 := B3.trans (hb4.mono (by omega)); have k4 := keeps_below hb4 _ _ k3; have HS4 : Hid (StVal w4 (.agg cs4) (runS P args answers fuel c)) := hst; have z4 : w.heap.size < w4.heap.size := (by have := hb4.size; omega); clear hb4 hp3 hi2' hi3 k3 hst)
    | (refine wpList_store_row rfl _ _ _ rfl _ _ rfl rfl _ _ (heap_alloc_last w4 _) q4 (by rw [← r4]; rfl) s4 ?_; rw [World.setRow_alloc_new]; have B5 : Below w.heap.size w (w4.alloc (.cells cs4 29)) := B4.alloc (by omega) _; have h5 : (w4.alloc (.cells cs4 29)).heap[w4.heap.size]? = some (.cells cs4 29 (0, 0)) := heap_alloc_last _ _; have HS5 : Hid (StVal (w4.alloc (.cells cs4 29)) (.agg cs4) (runS P args answers fuel c)) := HS4.out.keeps (keeps_below ((Below.refl _ _).alloc (Nat.le_refl _) _)); clear s4 HS4)
    | (go_at_call 30; refine (HRO.out _ B5).mono ?_; rintro e w6 hP6; obtain ⟨cs6, rfl, q6, r6, s6, hst, hb6⟩ := hP6; have B6 : Below w.heap.size w w6 := B5.trans (hb6.mono (by simp; omega)); have h6 : w6.heap[w4.heap.size]? = some (.cells cs4 29 (0, 0)) := (hb6.block _ (by simp)).trans h5; have HS6 : Hid (StVal w6 (.agg cs4) (runS P args answers fuel c)) := HS5.out.keeps (keeps_below hb6); have HT6 : Hid (StVal w6 (.agg cs6) (runS P args answers fuel c)) := hst; have z6 : w4.heap.size < w6.heap.size := (by have := hb6.size; simp at this; omega); clear hb6 hst h5 HS5)
    | (refine wpList_store_row rfl _ _ _ rfl _ _ rfl rfl _ _ (heap_alloc_last w6 _) q6 (by rw [← r6]; rfl) s6 ?_; rw [World.setRow_alloc_new]; have B7 : Below w.heap.size w (w6.alloc (.cells cs6 29)) := B6.alloc (by omega) _; have h7 : (w6.alloc (.cells cs6 29)).heap[w4.heap.size]? = some (.cells cs4 29 (0, 0)) := (heap_alloc_old _ _ z6).trans h6; have h7' : (w6.alloc (.cells cs6 29)).heap[w6.heap.size]? = some (.cells cs6 29 (0, 0)) := heap_alloc_last _ _; have HS7 : Hid (StVal (w6.alloc (.cells cs6 29)) (.agg cs4) (runS P args answers fuel c)) := HS6.out.keeps (keeps_below ((Below.refl _ _).alloc (Nat.le_refl _) _)); have HT7 : Hid (StVal (w6.alloc (.cells cs6 29)) (.agg cs6) (runS P args answers fuel c)) := HT6.out.keeps (keeps_below ((Below.refl _ _).alloc (Nat.le_refl _) _)); clear s6 HS6 HT6)
    | (refine wpList_load_wanted rfl _ _ rfl w4.heap.size rfl _ _ _ _ h7 Tryd.underlying29 rfl q4 ?_)
    | (refine wpList_load_wanted rfl _ _ rfl w6.heap.size rfl _ _ _ _ h7' Tryd.underlying29 rfl q6 ?_)
    | (go_at_call 19; refine (sameState_law _ _ _ _ HS7.out HT7.out).mono ?_; rintro e w8 ⟨rfl, hb8⟩))
  go_ret
  exact ⟨rfl, B7.trans (hb8.mono (by have := B7.size; omega))⟩
end Go.Proofs.YtndogdojcbcjgaaDoor
