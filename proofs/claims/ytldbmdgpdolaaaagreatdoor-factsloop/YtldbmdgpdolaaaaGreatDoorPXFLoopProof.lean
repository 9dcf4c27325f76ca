/- PROVED: tierlinekeep.FactsLoop: at all numbers, at a loop's head a register that only comes to itself stays known, what the loop changes may be anything, and what it never sets is what it was; conditions: those of the given row (ops.parts, ops.callReads, fold.never and fold.many as the program's text lays them). -/
import Derived.SevenTiedAt
import Derived.Test.YtldbmdgpdolaaaaGreatDoorCards
import Derived.Test.YtldbmdgpdolaaaaGreatDoorTie
import Derived.Test.YtldbmdgpdolaaaaGreatDoorPXLawFLoop
import Derived.Test.YtldbmdgpdolaaaaGreatDoorPXOpen
import Derived.Test.YtldbmdgpdolaaaaGreatDoorPXSsaMath
namespace Go.Proofs.YtldbmdgpdolaaaaGreatDoor
open Go Go.ChangeShapes Go.WideShapes Go.ChangeAt Go.RowKit

set_option maxRecDepth 100000 in
theorem factsLoop_lifted (os : Os) (started : os.Started) (H : Type) (enc : TypeId × Value → H) :
    ReturnsInHanded {} Tryz.checked os 8 .any (fun w args => (Rows.factsLoopSpec.pre enc Tryz.prog Tryz.f8 [] false w args ∧ laidMetH Tryz.prog laidL4 w) ∧ sizedMet enc Tryz.prog Tryz.f8 (OpenSpec.ofChange Rows.factsLoopSpec) false w args)
      (Rows.factsLoopSpec.post enc Tryz.prog Tryz.f8 false true false false) := by
  refine returnsInHanded_of_change_and (C := Tryz.checked) (X := fun w _ => laidMetH Tryz.prog laidL4 w) (fun _ _ _ hh h => h.of_heap hh) own started (by kernel_rfl) Tryz.func8
    (ChangeSpec.witness_shaped (enc := enc) (C := Tryz.checked) (os := os) (X := fun w _ => laidMetH Tryz.prog laidL4 w) false (World.doorLaid Tryz.prog 400 os) #[.int .i64 0, .int .i64 0] 8 rfl (World.shaped_of_RefB (by kernel_rfl) (by kernel_rfl)) (by kernel_rfl) (by kernel_rfl) (by kernel_rfl) (door_met4 os _)) ?_
  intro W base args ds gs before hval0 hW _ _ hL _
  have hval : ∀ (j : Nat) t v, Tryz.f8.params[j]? = some t → args[j]? = some v → Value.okWide Tryz.prog W .any base t v := hval0
  have hW' := hW
  obtain ⟨p, q, hA0, hV, rfl, hfz, hnd⟩ := hW
  have hA : DataW.TrodAll enc Tryz.prog W 0 (fun _ => true) true Tryz.f8.params.toList args.toList ds p := hA0
  rw [Tryz.params8] at hA hval
  obtain ⟨v0, v1, d0, d1, p0, p1, rfl, rfl, hps, h0, h1⟩ := trodAll_two hA
  obtain ⟨rfl, rfl⟩ := trodVars_none hV
  have h0k := h0
  obtain ⟨z0, rfl, _, _, hz0⟩ := open_int Tryz.underlying3 (hval 0 3 v0 rfl rfl) h0
  have hi0 : I64 z0 := by simpa [I64] using bounds_i64 hz0
  have h1k := h1
  obtain ⟨z1, rfl, _, _, hz1⟩ := open_int Tryz.underlying3 (hval 1 3 v1 rfl rfl) h1
  have hi1 : I64 z1 := by simpa [I64] using bounds_i64 hz1
  clear hA0 hval0
  have hlt : ∀ x ∈ p, x.block < W.heap.size := fun x hx => by simpa using hW'.lt x (by simpa using hx)
  refine (factsLoop_walk z0 z1 hi0 hi1 W (tabs4_of_laid hL).1 (tabs4_of_laid hL).2.1 (tabs4_of_laid hL).2.2).mono fun e W' ⟨he, hb⟩ => ?_
  subst he
  exact ⟨_, rfl, _, _, _, [], p, [], hW', trodAll_mk1 (shut_bool Tryz.underlying4 true), by rw [hps]; exact trodAll_mk2 (Below.trod laidOut (by kernel_rfl) (of_decide_eq_true (by kernel_rfl)) h0k hb (fun x hx => hlt x (by rw [hps]; simp [hx]))) (Below.trod laidOut (by kernel_rfl) (of_decide_eq_true (by kernel_rfl)) h1k hb (fun x hx => hlt x (by rw [hps]; simp [hx]))), rfl, hb.frame _, fun h => by cases h⟩
theorem factsLoop_holds : Rows.FactsLoopSaid :=
  OpenClaim.holds_of_wide 8 Tryz.f8 rfl rfl rfl rfl rfl rfl rfl ⟨rfl, rfl, rfl, rfl, rfl⟩ rfl rfl rfl rfl rfl (by kernel_rfl) Tryz.func8 (by kernel_rfl)
    (of_decide_eq_true (by kernel_rfl)) (by unfold Func.isWrapper; rw [if_neg (of_decide_eq_false (by kernel_rfl))]; exact ⟨rfl, rfl⟩)
    (fun os started H enc _ => factsLoop_lifted os started H enc)
theorem factsLoop_card : Rows.FactsLoopCardSaid :=
  Claim7.holds_tied_plain_at .later [] [.data, .data, .data, .data] true Rows.factsLoopCard.stood.harness Rows.factsLoopCard.stood.looks
    factsLoop_holds (fun _ h => by cases h) (by kernel_rfl) (fun _ h => by cases h) factsLoop_row_tie rfl ⟨rfl, rfl⟩ (by kernel_rfl) rfl
    (fun f fn hf hfn => by
      obtain rfl : f = 8 := Option.some.inj ((show Tryz.prog.funcNamed "tierline/tierlinekeep.FactsLoop" = some 8 by kernel_rfl).symm.trans hf) |>.symm
      obtain rfl : fn = Tryz.f8 := (Option.some.inj (Tryz.func8.symm.trans hfn)).symm
      exact ⟨by kernel_rfl, fun j t ht => by
        rw [Tryz.params8] at ht
        have hm : t ∈ [3, 3] := by simpa using Array.mem_of_getElem? ht
        have hall : ([3, 3].all fun u => !Tryz.prog.wantsStandIn u) = true := by kernel_rfl
        exact (show Tryz.prog.wantsStandIn t = false by simpa using List.all_eq_true.1 hall t hm)⟩)
    (by kernel_rfl)
#print axioms factsLoop_card
end Go.Proofs.YtldbmdgpdolaaaaGreatDoor
