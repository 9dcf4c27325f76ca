/- PROVED: tierlinekeep.SheetBad: at all raw numbers that can be handed in, a text with a bad line in it is refused at that very line; conditions: those of the given row (ops.parts, sheet.words, strconv's and bits' tables, strconv's two errors and utf8's two tables as the program's text lays them). -/
import Derived.SevenTiedAt
import Derived.Test.YtfacdhkadnmnlaaDoorCards
import Derived.Test.YtfacdhkadnmnlaaDoorTie
import Derived.Test.YtfacdhkadnmnlaaDoorPXLawSBad
import Derived.Test.YtfacdhkadnmnlaaDoorPXOpen
import Derived.Test.YtfacdhkadnmnlaaDoorPXRowS9
import Derived.Deep.DeepCutAuto
import Derived.Deep.LoopGhost
import Derived.Laws.CopyOwn
import Derived.Laws.OwnMore
import Derived.Laws.ResultCell
import Derived.OwnWalk
import Derived.WalkLawsBesides
import Derived.Test.YtfacdhkadnmnlaaDoorPGroupA
import Derived.Test.YtfacdhkadnmnlaaDoorPGroupB
namespace Go.Proofs.YtfacdhkadnmnlaaDoor
open Go Go.ChangeShapes Go.WideShapes Go.ChangeAt Go.RowKit

set_option maxRecDepth 100000 in
theorem sheetBad_lifted (os : Os) (started : os.Started) (H : Type) (enc : TypeId × Value → H) :
  ReturnsInHanded {} Tryd.checked os 7 .any (fun w args => (Rows.sheetBadSpec.pre enc Tryd.prog Tryd.f7 [] false w args ∧ laidMetH Tryd.prog laidL9 w) ∧ sizedMet enc Tryd.prog Tryd.f7 (OpenSpec.ofChange Rows.sheetBadSpec) false w args)
   (Rows.sheetBadSpec.post enc Tryd.prog Tryd.f7 false true false false) := by
 refine returnsInHanded_shaped (C := Tryd.checked) (X := fun w _ => laidMetH Tryd.prog laidL9 w) (fun _ _ _ hh h => h.of_heap hh) own started (by kernel_rfl) Tryd.func7
  (ChangeSpec.witness_shaped (enc := enc) (C := Tryd.checked) (os := os) (X := fun w _ => laidMetH Tryd.prog laidL9 w) false (World.laidAll Tryd.prog os laidL9) #[.slice none 0 0, .int .i64 0, .int .i64 0] 8 (World.laidAll_os _ _ _) (World.shaped_of_ZipB (by kernel_rfl) (by kernel_rfl)) (by kernel_rfl) (by kernel_rfl) (by kernel_rfl) (lay_met9 os _)) ?_
 intro W base args ds gs before hval0 hW _ _ hL hsh
 have hval : ∀ (j : Nat) t v, Tryd.f7.params[j]? = some t → args[j]? = some v → Value.okWide Tryd.prog W .any base t v := hval0
 have hW' := hW
 obtain ⟨p, q, hA0, hV, rfl, hfz, hnd⟩ := hW
 have hA : DataW.TrodAll enc Tryd.prog W 0 (fun _ => true) true Tryd.f7.params.toList args.toList ds p := hA0
 rw [Tryd.params7] at hA hval
 obtain ⟨v0, v1, v2, d0, d1, d2, p0, p1, p2, rfl, rfl, hps, h0, h1, h2⟩ := trodAll_three hA
 obtain ⟨rfl, rfl⟩ := trodVars_none hV
 have h0k := h0
 obtain ⟨P, hp, hwf⟩ := open_bodies (hval 0 30 v0 rfl rfl) h0
 have h1k := h1
 obtain ⟨z1, rfl, _, _, hz1⟩ := open_int Tryd.underlying3 (hval 1 3 v1 rfl rfl) h1
 have hi1 : I64 z1 := by simpa [I64] using bounds_i64 hz1
 have h2k := h2
 obtain ⟨z2, rfl, _, _, hz2⟩ := open_int Tryd.underlying3 (hval 2 3 v2 rfl rfl) h2
 have hi2 : I64 z2 := by simpa [I64] using bounds_i64 hz2
 clear hA0 hval0
 have hlt : ∀ x ∈ p, x.block < W.heap.size := fun x hx => by simpa using hW'.lt x (by simpa using hx)
 refine (sheetBad_walk P v0 z1 z2 W (stdR_of_laid hL hsh) hp hwf hi1 hi2).mono fun e W' ⟨he, hb⟩ => ?_
 subst he
 exact ⟨_, rfl, _, _, _, [], p, [], hW', trodAll_mk1 (shut_bool Tryd.underlying4 true), by rw [hps, List.append_assoc]; exact trodAll_mk3 (Below.trod laidOut (by kernel_rfl) (of_decide_eq_true (by kernel_rfl)) h0k hb (fun x hx => hlt x (by rw [hps]; simp [hx]))) (Below.trod laidOut (by kernel_rfl) (of_decide_eq_true (by kernel_rfl)) h1k hb (fun x hx => hlt x (by rw [hps]; simp [hx]))) (Below.trod laidOut (by kernel_rfl) (of_decide_eq_true (by kernel_rfl)) h2k hb (fun x hx => hlt x (by rw [hps]; simp [hx]))), rfl, hb.frame _, fun h => by cases h⟩
theorem sheetBad_holds : Rows.SheetBadSaid :=
 OpenClaim.holds_of_wide 7 Tryd.f7 rfl rfl rfl rfl rfl rfl rfl ⟨rfl, rfl, rfl, rfl, rfl⟩ rfl rfl rfl rfl rfl (by kernel_rfl) Tryd.func7 (by kernel_rfl)
  (of_decide_eq_true (by kernel_rfl)) (by unfold Func.isWrapper; rw [if_neg (of_decide_eq_false (by kernel_rfl))]; exact ⟨rfl, rfl⟩)
  (fun os started H enc _ => sheetBad_lifted os started H enc)
theorem sheetBad_card : Rows.SheetBadCardSaid :=
 Claim7.holds_tied_plain_at .later [] [.data, .data, .data, .data, .sentinel, .sentinel, .data, .data, .pinned] true Rows.sheetBadCard.stood.harness Rows.sheetBadCard.stood.looks
  sheetBad_holds (fun _ h => by cases h) (by kernel_rfl) (fun _ h => by cases h) sheetBad_row_tie rfl ⟨rfl, rfl⟩ (by kernel_rfl) rfl
  (fun f fn hf hfn => by
   obtain rfl : f = 7 := Option.some.inj ((show Tryd.prog.funcNamed "tierline/tierlinekeep.SheetBad" = some 7 by kernel_rfl).symm.trans hf) |>.symm
   obtain rfl : fn = Tryd.f7 := (Option.some.inj (Tryd.func7.symm.trans hfn)).symm
   exact ⟨by kernel_rfl, fun j t ht => by
    rw [Tryd.params7] at ht
    have hm : t ∈ [30, 3, 3] := by simpa using Array.mem_of_getElem? ht
    have hall : ([30, 3, 3].all fun u => !Tryd.prog.wantsStandIn u) = true := by kernel_rfl
    exact (show Tryd.prog.wantsStandIn t = false by simpa using List.all_eq_true.1 hall t hm)⟩)
  (by kernel_rfl)
#print axioms sheetBad_card
end Go.Proofs.YtfacdhkadnmnlaaDoor
namespace Go.Proofs.YtfacdhkadnmnlaaDoor
open Go Go.RowKit

structure St where
 status : Int
 value : Int
 frames : List Fr
 mem : List Int
 fuel : Int
 events : List Int
 answers : List Int
def stCells (s : St) (fv ev av : Value) : List Value := [.int .i64 s.status, .int .i64 s.value, fv] ++ i64s s.mem ++ [.int .i64 s.fuel, ev, av]
def StVal (w : World) (v : Value) (s : St) : Prop := ∃ fv ev av, v = .agg (stCells s fv ev av).toArray ∧ s.mem.length = 16 ∧ FramesVal w fv s.frames ∧ IntsVal w ev s.events ∧ IntsVal w av s.answers
theorem StVal.keeps {w w' : World} {v : Value} {s : St} (h : StVal w v s) (k : Keeps w w') : StVal w' v s := by
 obtain ⟨fv, ev, av, rfl, hm, h1, h2, h3⟩ := h
 exact ⟨fv, ev, av, rfl, hm, h1.keeps k, h2.keeps k, h3.keeps k⟩
end Go.Proofs.YtfacdhkadnmnlaaDoor
