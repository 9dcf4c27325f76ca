/- PROVED: tierlinelaw.ProfileCounts: at every program, all arguments, answers and fuel that can be handed in, profile.Counts answers what P6.1 says (the document's answer); conditions: those of the given row (ops.parts and ops.callReads as the program's text lays them). -/
import Derived.Test.YtndogdojcbcjgaaDoorGroupR
import Derived.Test.YtndogdojcbcjgaaDoorXRowN
import Derived.Test.YtndogdojcbcjgaaDoorTie
import Derived.Test.YtndogdojcbcjgaaDoorCards
import Derived.Test.YtndogdojcbcjgaaDoorXLawPCounts
import Derived.SevenTiedAt
namespace Go.Proofs.YtndogdojcbcjgaaDoor
open Go Go.ChangeShapes Go.WideShapes Go.ChangeAt Go.RowKit

set_option maxRecDepth 100000 in
theorem profileCounts_lifted (os : Os) (started : os.Started) (H : Type) (enc : TypeId × Value → H) :
    ReturnsInHanded {} Tryd.checked os 9 .any (fun w args => (Rows.profileCountsSpec.pre enc Tryd.prog Tryd.f9 [] false w args ∧ laidMetH Tryd.prog laidL2 w) ∧ sizedMet enc Tryd.prog Tryd.f9 (OpenSpec.ofChange Rows.profileCountsSpec) false w args)
      (Rows.profileCountsSpec.post enc Tryd.prog Tryd.f9 false true false false) := by
  refine returnsInHanded_of_change_and (C := Tryd.checked) (X := fun w _ => laidMetH Tryd.prog laidL2 w) (fun _ _ _ hh h => h.of_heap hh) own started (by kernel_rfl) Tryd.func9
    (ChangeSpec.witness_shaped (enc := enc) (C := Tryd.checked) (os := os) (X := fun w _ => laidMetH Tryd.prog laidL2 w) false (World.doorLaid Tryd.prog 400 os) #[.agg #[.slice none 0 0], .slice none 0 0, .slice none 0 0, .int .i64 0] 8 rfl (World.shaped_of_RefB (by kernel_rfl) (by kernel_rfl)) (by kernel_rfl) (by kernel_rfl) (by kernel_rfl) (door_met2 os _)) ?_
  intro W base args ds gs before hval0 hW _ hsz0 hL _
  have hval : ∀ (j : Nat) t v, Tryd.f9.params[j]? = some t → args[j]? = some v → Value.okWide Tryd.prog W .any base t v := hval0
  have hW' := hW
  obtain ⟨p, q, hA0, hV, rfl, hfz, hnd⟩ := hW
  have hA : DataW.TrodAll enc Tryd.prog W 0 (fun _ => true) true Tryd.f9.params.toList args.toList ds p := hA0
  have hsz : (DataW.weightsEach Tryd.prog (Tryd.f9.params.toList ++ Rows.profileCountsSpec.plain.varTypes Tryd.prog) (ds ++ gs)).all (· ≤ reachBytes) = true := hsz0
  rw [Tryd.params9] at hA hval hsz
  obtain ⟨v0, v1, v2, v3, d0, d1, d2, d3, p0, p1, p2, p3, rfl, rfl, hps, h0, h1, h2, h3⟩ := trodAll_four hA
  obtain ⟨rfl, rfl⟩ := trodVars_none hV
  have h0k := h0
  obtain ⟨c, P, rfl, hp, hwf, hs1, hs2⟩ := open_program (hval 0 24 v0 rfl rfl) h0 (fun n hn => by
    have := List.all_eq_true.1 hsz n (DataW.weights_mem_each (j := 0) (t := 24) (d := d0) rfl rfl n hn)
    simpa using this)
  have h1k := h1
  obtain ⟨l1, nn1, ns1, nf1⟩ := open_numbersF (hval 1 27 v1 rfl rfl) h1 (fun n hn => by
    have := List.all_eq_true.1 hsz n (DataW.weights_mem_each (j := 1) (t := 27) (d := d1) rfl rfl n hn)
    simpa using this)
  have h2k := h2
  obtain ⟨l2, nn2, ns2, nf2⟩ := open_numbersF (hval 2 27 v2 rfl rfl) h2 (fun n hn => by
    have := List.all_eq_true.1 hsz n (DataW.weights_mem_each (j := 2) (t := 27) (d := d2) rfl rfl n hn)
    simpa using this)
  have h3k := h3
  obtain ⟨z3, rfl, _, _, hz3⟩ := open_int Tryd.underlying3 (hval 3 3 v3 rfl rfl) h3
  have hi3 : I64 z3 := by simpa [I64] using bounds_i64 hz3
  clear hA0 hval0
  have hlt : ∀ x ∈ p, x.block < W.heap.size := fun x hx => by simpa using hW'.lt x (by simpa using hx)
  refine (profileCounts_walk P c v1 v2 l1 l2 z3 W (tabs_of_laid hL).1 (tabs_of_laid hL).2 hp nn1 nn2 (by omega) (fun f hf => by have := hs2 f hf; omega) (by omega) (by omega) (fun f hf x hx => by have := ((hwf f hf).2.2 x hx).2.2.2.2; unfold I64 at this; unfold Fits; omega) (fun z hz => by have := nf1 z hz; unfold I64 at this; unfold Fits; omega) (fun z hz => by have := nf2 z hz; unfold I64 at this; unfold Fits; omega)).mono fun e W' ⟨he, hb⟩ => ?_
  subst he
  exact ⟨_, rfl, _, _, _, [], p, [], hW', trodAll_mk1 (shut_bool Tryd.underlying4 true), by rw [hps, List.append_assoc, List.append_assoc]; exact trodAll_mk4 (Below.trod laidOut (by kernel_rfl) (of_decide_eq_true (by kernel_rfl)) h0k hb (fun x hx => hlt x (by rw [hps]; simp [hx]))) (Below.trod laidOut (by kernel_rfl) (of_decide_eq_true (by kernel_rfl)) h1k hb (fun x hx => hlt x (by rw [hps]; simp [hx]))) (Below.trod laidOut (by kernel_rfl) (of_decide_eq_true (by kernel_rfl)) h2k hb (fun x hx => hlt x (by rw [hps]; simp [hx]))) (Below.trod laidOut (by kernel_rfl) (of_decide_eq_true (by kernel_rfl)) h3k hb (fun x hx => hlt x (by rw [hps]; simp [hx]))), rfl, hb.frame _, fun h => by cases h⟩

theorem profileCounts_holds : Rows.ProfileCountsSaid :=
  OpenClaim.holds_of_wide 9 Tryd.f9 rfl rfl rfl rfl rfl rfl rfl ⟨rfl, rfl, rfl, rfl, rfl⟩ rfl rfl rfl rfl rfl (by kernel_rfl) Tryd.func9 (by kernel_rfl)
    (of_decide_eq_true (by kernel_rfl)) (by unfold Func.isWrapper; rw [if_neg (of_decide_eq_false (by kernel_rfl))]; exact ⟨rfl, rfl⟩)
    (fun os started H enc _ => profileCounts_lifted os started H enc)

theorem profileCounts_card : Rows.ProfileCountsCardSaid :=
  Claim7.holds_tied_plain_at .later [] [.data, .data] true Rows.profileCountsCard.stood.harness Rows.profileCountsCard.stood.looks
    profileCounts_holds (fun _ h => by cases h) (by kernel_rfl) (fun _ h => by cases h) profileCounts_row_tie rfl ⟨rfl, rfl⟩ (by kernel_rfl) rfl
    (fun f fn hf hfn => by
      obtain rfl : f = 9 := Option.some.inj ((show Tryd.prog.funcNamed "tierline/tierlinelaw.ProfileCounts" = some 9 by kernel_rfl).symm.trans hf) |>.symm
      obtain rfl : fn = Tryd.f9 := (Option.some.inj (Tryd.func9.symm.trans hfn)).symm
      exact ⟨by kernel_rfl, fun j t ht => by
        rw [Tryd.params9] at ht
        have hm : t ∈ [24, 27, 27, 3] := by simpa using Array.mem_of_getElem? ht
        have hall : ([24, 27, 27, 3].all fun u => !Tryd.prog.wantsStandIn u) = true := by kernel_rfl
        exact (show Tryd.prog.wantsStandIn t = false by simpa using List.all_eq_true.1 hall t hm)⟩)
    (by kernel_rfl)
#print axioms profileCounts_card
end Go.Proofs.YtndogdojcbcjgaaDoor
