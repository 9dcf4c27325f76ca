/- The walk of tierlinelaw.ProfileHots: at every program, arguments, answers and fuel it says true, and nothing that was there has turned. -/
import Derived.Test.YtndogdojcbcjgaaDoorXHotRef
import Derived.Test.YtndogdojcbcjgaaDoorXLawBegins
namespace Go.Proofs.YtndogdojcbcjgaaDoor
open Go Go.RowKit

set_option maxRecDepth 100000 in
set_option maxHeartbeats 2000000 in
theorem profileHots_walk (P : List Fn) (v va vn : Value) (args answers : List Int) (fuel : Int) (w : World) (ht : TabOk w) (hc : CallOk w) (hv : ProgVal w v P) (hva : IntsVal w va args) (hvn : IntsVal w vn answers)
    (hs : P.length * 40 ≤ 140737488355328) (hs' : ∀ f ∈ P, f.code.length * 40 ≤ 140737488355328) (h1 : args.length * 8 ≤ 140737488355328) (h2 : answers.length * 8 ≤ 140737488355328) (hP : FitP P) (hfa : ∀ z ∈ args, Fits z) (hfn : ∀ z ∈ answers, Fits z) :
    Calls Tryd.prog 10 #[.agg #[v], va, vn, .int .i64 fuel] w fun e w' => e = .returned (.bool true) ∧ Below w.heap.size w w' := by
  obtain ⟨c, hE, hc0⟩ := begin_num P args answers fuel
  obtain ⟨ao, n, cap, rfl⟩ := hv.shape
  obtain ⟨aa, ca, rfl⟩ := hva.shape
  obtain ⟨an, cn, rfl⟩ := hvn.shape
  have HT : Hid (∀ W, Below w.heap.size w W → TabOk W ∧ CallOk W ∧ ProgVal W (.slice ao n cap) P ∧ IntsVal W (.slice aa args.length ca) args ∧ IntsVal W (.slice an answers.length cn) answers) := fun W hW => ⟨ht.below hW, hc.below hW, hv.keeps (keeps_below hW), hva.keeps (keeps_below hW), hvn.keeps (keeps_below hW)⟩
  have HRN : Hid (∀ W vp v1 v2, Below w.heap.size w W → ProgVal W vp P → IntsVal W v1 args → IntsVal W v2 answers → Calls Tryd.prog 34 #[.agg #[vp], v1, v2, .int .i64 fuel] W (HotPost P args answers fuel c W)) := fun W vp v1 v2 hW hp q1 q2 => hot_all P vp v1 v2 args answers fuel c W (HT.out W hW).1 (HT.out W hW).2.1 hp q1 q2 hE hc0
  have HRO : Hid (∀ W, Below w.heap.size w W → Calls Tryd.prog 35 #[.agg #[.slice ao n cap], .slice aa args.length ca, .slice an answers.length cn, .int .i64 fuel] W (HotPost P args answers fuel c W)) := fun W hW => hotOf_all P _ _ _ args answers fuel c W (HT.out W hW).2.2.1 (HT.out W hW).2.2.2.1 (HT.out W hW).2.2.2.2 hE hc0 hP hfa hfn
  have HP0 : Hid (c = 0 → 0 < P.length) := fun h => by have := (codeProg_zero (right_code (hc0 h).1)).1; omega
  have B0 : ∀ o, Below w.heap.size w (w.alloc o) := fun o => (Below.refl _ _).alloc (Nat.le_refl _) _
  clear hv hva hvn ht hc hE hc0 hP hfa hfn
  go_enter Tryd.func10, Tryd.ntmps10
  go_wp2_with (first
    | (go_at_call 14; refine (programs_any P _ _ (HT.out _ (B0 _)).2.2.1 hs hs').mono ?_; rintro e w1 ⟨v1, rfl, hp1, hb1⟩; have B1 : Below w.heap.size w w1 := (B0 _).trans (hb1.mono (by simp)); have k1 := keeps_below hb1 ⟨w.heap.size, 0, none⟩ (.slice ao n cap) (by simp); have z1 : w.heap.size < w1.heap.size := (by have := hb1.size; simp at this; omega); clear hs hb1 B0)
    | (go_at_call 29; refine (ints_any _ args _ (HT.out _ B1).2.2.2.1 h1).mono ?_; rintro e w2 ⟨v2, rfl, ho2, hb2⟩; have B2 : Below w.heap.size w w2 := B1.trans (hb2.mono (by omega)); have k2 := keeps_below hb2 _ _ k1; have hp2 := hp1.keeps (keeps_below hb2); have hi2 := ints_of_own ho2; have z2 : w.heap.size < w2.heap.size := (by have := hb2.size; omega); clear h1 ho2 hb2 hp1 k1)
    | (go_at_call 29; refine (ints_any _ answers _ (HT.out _ B2).2.2.2.2 h2).mono ?_; rintro e w3 ⟨v3, rfl, ho3, hb3⟩; have B3 : Below w.heap.size w w3 := B2.trans (hb3.mono (by omega)); have k3 := keeps_below hb3 _ _ k2; have hp3 := hp2.keeps (keeps_below hb3); have hi2' := hi2.keeps (keeps_below hb3); have hi3 := ints_of_own ho3; have z3 : w.heap.size < w3.heap.size := (by have := hb3.size; omega); clear ho3 hb3 hp2 k2 hi2)
    | (go_at_call 34; refine (HRN.out _ _ _ _ B3 hp3 hi2' hi3).mono ?_; rintro e w4 hP4; obtain ⟨h4, m4, rfl, x4, y4, hb4⟩ := hP4; have HX4 : Hid _ := x4; have HY4 : Hid _ := y4; have B4 : Below w.heap.size w w4 := B3.trans (hb4.mono (by omega)); have k4 := keeps_below hb4 _ _ k3; clear hb4 hp3 hi2' hi3 k3 x4 y4)
    | (go_at_call 35; refine (HRO.out _ B4).mono ?_; rintro e w6 hP6; obtain ⟨h6, m6, rfl, x6, y6, hb6⟩ := hP6; obtain ⟨rfl, rfl⟩ := HotPost.same HP0.out HX4.out HY4.out x6 y6; have B6 : Below w.heap.size w w6 := B4.trans (hb6.mono B4.size); clear hb6 x6 y6 HX4 HY4))
  go_ret
  exact ⟨rfl, B6⟩
end Go.Proofs.YtndogdojcbcjgaaDoor
