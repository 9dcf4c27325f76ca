/- PROVED: tierlinekeep.SheetFixed: at every text that can be handed in, what sheet.Read reads is shown as it was, by sheet.Show, and what it refuses is no program; conditions: those of the given row (ops.parts, sheet.words, strconv's and bits' tables, strconv's two errors and utf8's two tables as the program's text lays them). -/
import Derived.ChangeMaps5
import Derived.Lay
import Derived.Stop.LaidErr
import Derived.Test.YtfacdhkadnmnlaaDoorPXOpen
import Derived.Test.YtfacdhkadnmnlaaDoorPXShow
import Derived.Test.YtfacdhkadnmnlaaDoorPXSRead7
import Derived.SevenTiedAt
import Derived.Test.YtfacdhkadnmnlaaDoorCards
import Derived.Test.YtfacdhkadnmnlaaDoorTie
import Derived.Deep.DeepCutAuto
import Derived.Deep.LoopGhost
import Derived.Laws.CopyOwn
import Derived.Laws.OwnMore
import Derived.Laws.ResultCell
import Derived.OwnWalk
import Derived.WalkLawsBesides
import Derived.Test.YtfacdhkadnmnlaaDoorPGroupA
import Derived.Test.YtfacdhkadnmnlaaDoorPGroupB
namespace Go.Proofs.YtfacdhkadnmnlaaDoor
open Go Go.ChangeShapes Go.WideShapes Go.ChangeAt Go.RowKit

abbrev laidL9 : List (String × DataW Unit) := [("math/bits.deBruijn32tab", Rows.laid_math_bits_deBruijn32tab), ("math/bits.deBruijn64tab", Rows.laid_math_bits_deBruijn64tab), ("internal/strconv.uint64pow10", Rows.laid_internal_strconv_uint64pow10), ("unicode/utf8.acceptRanges", Rows.laid_unicode_utf8_acceptRanges), ("strconv.ErrRange", Rows.laid_strconv_ErrRange), ("strconv.ErrSyntax", Rows.laid_strconv_ErrSyntax), ("tierline/ops.parts", Rows.laid_tierline_ops_parts), ("tierline/sheet.words", Rows.laid_tierline_sheet_words), ("unicode/utf8.first", Rows.laid_unicode_utf8_first)]
theorem lay_met9 (os : Os) (args : Array Value) : laidMetH Tryd.prog laidL9 ((World.laidAll Tryd.prog os laidL9).forCall (fun _ _ => 0) ⟨#[], args, []⟩).memory := by
 rw [MakeChecks.laidMetH_plain _ _ _ (by kernel_rfl)]
 exact laidMet_laidAll _ (by kernel_rfl) (by kernel_rfl)
theorem gSyn : Tryd.prog.globalNamed "strconv.ErrSyntax" = some 6 := by kernel_rfl
theorem tSyn : (Tryd.prog.globals[6]?).map (·.type) = some 102 := by kernel_rfl
theorem gRng : Tryd.prog.globalNamed "strconv.ErrRange" = some 7 := by kernel_rfl
theorem tRng : (Tryd.prog.globals[7]?).map (·.type) = some 102 := by kernel_rfl
theorem rowES (u : TypeId) (h : Tryd.prog.typeName? 3 u = some "*errors.errorString") : u = 139 :=
 typeName_ptr_named (nm := "errors.errorString") (by rw [show "*" ++ "errors.errorString" = "*errors.errorString" from by decide]; kernel_rfl) (by kernel_rfl) (by decide) u (by rw [show "*" ++ "errors.errorString" = "*errors.errorString" from by decide]; exact h)
theorem cellsES : Tryd.prog.cellsOf 141 = 1 := by kernel_rfl
theorem cell_int {P : Program} {w : World} {r : Reach} {base : Nat} {t : TypeId} {v : Value} (ht : P.underlying t = some (.int .i64)) (h : Cell.ok P w r base t v) : ∃ n, v = .int .i64 n := by
 unfold Cell.ok at h
 rw [ht] at h
 cases v <;> simp at h
 rename_i k n
 obtain ⟨rfl, _⟩ := h
 exact ⟨n, rfl⟩
theorem open_str {P : Program} {H : Type} {enc : TypeId × Value → H} {w : World} {base b0 : Nat} {sp : Nat → Bool} {held : Bool} {r : Reach} {t : TypeId} {v : Value} {d : DataW H} {ps : List MemPlace} (ht : P.underlying t = some .string) (hval : Value.okWide P w r b0 t v) (hd : DataW.Trod enc P w base sp held t v d ps) : ∃ l : Pc, v = .string ⟨l.toArray⟩ := by
 obtain ⟨s, rfl, _⟩ := Go.ChangeMaps.open_string ht hval hd
 exact ⟨s.data.toList, rfl⟩
set_option maxRecDepth 100000 in
theorem most_of_shaped {W : World} (h : W.ShapedOpen Tryd.prog) : ∃ m : Int, W.cell? ⟨2, 0, none⟩ = some (.int .i64 m) := by
 obtain ⟨cs, hw, hsz, hok⟩ := h.1 2 #[.int .i64 0] 3 (of_decide_eq_true (by kernel_rfl)) (by kernel_rfl)
 obtain ⟨ts, h1, _, h3⟩ := hok (by kernel_rfl)
 have hts : ts = [3] := Option.some.inj (h1.symm.trans (show Tryd.prog.cellTypes Tryd.prog.depth 3 = some [3] by kernel_rfl))
 subst hts
 have hs : cs.size = 1 := hsz
 obtain ⟨v, hv⟩ : ∃ v, cs[0]? = some v := ⟨cs[0]'(by omega), Array.getElem?_eq_getElem (by omega)⟩
 obtain ⟨u, hu, hc⟩ := h3 0 v hv
 obtain rfl : u = 3 := (Option.some.inj (show some 3 = some u from hu)).symm
 obtain ⟨n, rfl⟩ := cell_int Tryd.underlying3 hc
 exact ⟨n, by simp [World.cell?, hw, hv]⟩
theorem stdR_of_laid {W : World} (h : laidMetH Tryd.prog laidL9 W) (hs : W.ShapedOpen Tryd.prog) : StdR W.heap.size W := by
 rw [MakeChecks.laidMetH_plain _ _ _ (by kernel_rfl)] at h
 have h' : laidMet Tryd.prog (("math/bits.deBruijn32tab", Rows.laid_math_bits_deBruijn32tab) :: ("math/bits.deBruijn64tab", Rows.laid_math_bits_deBruijn64tab) :: ("internal/strconv.uint64pow10", Lib.tabData .u64 Lib.pow10Tab) :: ("unicode/utf8.acceptRanges", Rows.laid_unicode_utf8_acceptRanges) :: ("strconv.ErrRange", .iface "*errors.errorString" (.ptr (.agg [.lit (.string [118, 97, 108, 117, 101, 32, 111, 117, 116, 32, 111, 102, 32, 114, 97, 110, 103, 101])]))) :: ("strconv.ErrSyntax", .iface "*errors.errorString" (.ptr (.agg [.lit (.string [105, 110, 118, 97, 108, 105, 100, 32, 115, 121, 110, 116, 97, 120])]))) :: ("tierline/ops.parts", Lib.tabData .i64 hasL) :: ("tierline/sheet.words", strData wordL) :: ("unicode/utf8.first", Rows.laid_unicode_utf8_first) :: []) W := h
 have hp := Lib.tabIs_of_head (P := Tryd.prog) gPow tPow Tryd.underlying129 Tryd.underlying106 cells64 cellsPow h'.tail.tail
 have ht := Lib.tabIs_of_head (P := Tryd.prog) gParts tParts Tryd.underlying92 Tryd.underlying3 cells3 cellsParts h'.tail.tail.tail.tail.tail.tail
 have hT : TabOk W := fun i hi => ht.cell gParts i hi
 have hW : WordOk W := fun i hi => strs_of_head (P := Tryd.prog) gWords tWords Tryd.underlying83 Tryd.underlying9 cellsStr cellsWords h'.tail.tail.tail.tail.tail.tail.tail i hi
 have hpos : 0 < W.heap.size := World.block_lt_of_cell? _ _ (hW 0 (by omega))
 obtain ⟨a1, _, hv1, _⟩ := laid_sentinel h'.tail.tail.tail.tail gRng tRng Tryd.underlying102 rowES Tryd.underlying139 Tryd.underlying141 rfl rfl Tryd.underlying9 cellsES cellsStr
 obtain ⟨a2, _, hv2, _⟩ := laid_sentinel h'.tail.tail.tail.tail.tail gSyn tSyn Tryd.underlying102 rowES Tryd.underlying139 Tryd.underlying141 rfl rfl Tryd.underlying9 cellsES cellsStr
 have c1 : W.cell? ⟨7, 0, none⟩ = some (.iface 139 (.pointer (some a1))) := (World.var?_cell gRng hv1 0).trans rfl
 have c2 : W.cell? ⟨6, 0, none⟩ = some (.iface 139 (.pointer (some a2))) := (World.var?_cell gSyn hv2 0).trans rfl
 obtain ⟨m, cm⟩ := most_of_shaped hs
 exact ⟨⟨Lib.tabBelow_of_tabIs hp, fun w' hb => ⟨fun i hi => (hb.cell (p := ⟨0, i, none⟩) hpos).trans (hW i hi), hT.below hb⟩⟩,
  fun w' hb => ⟨_, (hb.cell (World.block_lt_of_cell? _ _ c2)).trans c2, Or.inr ⟨_, _, rfl⟩⟩, fun w' hb => ⟨_, (hb.cell (World.block_lt_of_cell? _ _ c1)).trans c1, Or.inr ⟨_, _, rfl⟩⟩, fun w' hb => ⟨m, (hb.cell (World.block_lt_of_cell? _ _ cm)).trans cm⟩⟩
theorem returnsInHanded_shaped {H : Type} {enc : TypeId × Value → H} {a : Assume} {C : Checked} {os : Os} {f : FuncId} {fn : Func} {s : ChangeSpec} {conds : List PathCond} {apart fresh handsOn again : Bool} {X : World → Array Value → Prop}
  (hX : ∀ (w w' : World) (args : Array Value), w.heap = w'.heap → X w args → X w' args)
  (own : ownKnob C.prog.godebug = none) (started : os.Started) (noInit : C.prog.inits.idxOf? f = none) (hfn : C.prog.funcs[f]? = some fn)
  (witness : ∃ (w : World) (tape : Tape) (i : Input), w.os = os ∧ (w.forCall tape i).Shaped C.prog ∧ i.vars = [] ∧ Input.okWide C.prog (w.forCall tape i) .any w.heap.size f i ∧
   ((s.pre enc C.prog fn conds apart (w.forCall tape i).memory i.args ∧ X (w.forCall tape i).memory i.args) ∧ sizedMet enc C.prog fn (OpenSpec.ofChange s) apart (w.forCall tape i).memory i.args) ∧ a.holds C.prog (lone (Frame.enter C.prog f i.args .normal) [] (w.forCall tape i)))
  (contract : ∀ (W : World) (base : Nat) (args : Array Value) (ds gs : List (DataW H)) (before : List MemPlace),
   (∀ (j : Nat) t v, fn.params[j]? = some t → args[j]? = some v → Value.okWide C.prog W .any base t v) →
   DataW.Whole enc C.prog fn.params.toList s.vars apart W args.toList ds gs before →
   conds.all (PathCond.test C.prog ⟨fn.params.toList, ds, s.plain.varTypes C.prog, gs⟩) = true →
   (DataW.weightsEach C.prog (fn.params.toList ++ s.plain.varTypes C.prog) (ds ++ gs)).all (· ≤ reachBytes) = true → X W args → W.ShapedOpen C.prog →
   Calls C.prog f args W fun e W' => ∃ v, e = .returned v ∧ s.post enc C.prog fn apart fresh handsOn again W args v W') :
  ReturnsInHanded a C os f .any (fun w args => (s.pre enc C.prog fn conds apart w args ∧ X w args) ∧ sizedMet enc C.prog fn (OpenSpec.ofChange s) apart w args) (s.post enc C.prog fn apart fresh handsOn again) := by
 refine returnsInHanded_of_calls own started noInit witness ?_
 intro w tape i _ hsh _ hok hpre hholds
 obtain ⟨_, _, _, fn', hfn', _, _, _, _, hval⟩ := hok
 have e : fn' = fn := Option.some.inj (hfn'.symm.trans hfn)
 subst e
 obtain ⟨⟨⟨ds, gs, before, hw, hc⟩, hx⟩, hz⟩ := hpre
 have hw' := DataW.Whole.of_heap (w' := w.forCall tape i) (by rfl) hw
 refine (contract (w.forCall tape i) w.heap.size i.args ds gs before hval hw' hc (hz.weights hw) (hX _ _ _ (by rfl) hx) hsh).mono fun e W' ⟨v, he, hp⟩ => ?_
 subst he
 exact ChangeSpec.post_blind hp
end Go.Proofs.YtfacdhkadnmnlaaDoor
namespace Go.Proofs.YtfacdhkadnmnlaaDoor
open Go Go.RowKit

theorem StdR.later {w w' : World} (h : StdR w.heap.size w) (hb : Below w.heap.size w w') : StdR w'.heap.size w' := (h.on hb).up hb.size
theorem readPlace_nat (s : Pc) : ∃ k : Nat, readPlace s = k := by
 unfold readPlace
 split
 ·exact ⟨0, rfl⟩
 ·split
  ·exact ⟨_, rfl⟩
  ·exact ⟨0, rfl⟩
theorem read_right {s : Pc} (h : readErr s = 0) : ∃ P, readOn [] (linesB s) = some P ∧ codeProg P = 0 ∧ readProg s = P ∧ readPlace s = 0 ∧ showOf P = s ∧ ∀ f ∈ P, f.wf := by
 have h' := h
 unfold readErr at h'
 split at h'
 ·omega
 ·rename_i hl
  cases hr : readOn [] (linesB s) with
  | none => rw [hr] at h'; simp at h'
  | some P =>
   rw [hr] at h'
   obtain ⟨a, b⟩ := read_shown hr
   exact ⟨P, rfl, h', by unfold readProg; rw [if_pos h, hr]; rfl, by unfold readPlace; rw [if_neg hl, hr], a, b⟩
set_option maxRecDepth 100000 in
set_option maxHeartbeats 1000000 in
theorem sheetFixed_walk (s : Pc) (w : World) (hS : StdR w.heap.size w) :
  Calls Tryd.prog 6 #[.string ⟨s.toArray⟩] w fun e w' => e = .returned (.bool true) ∧ Below w.heap.size w w' := by
 have HS : Hid (StdR w.heap.size w) := hS
 by_cases he : readErr s = 0
 ·obtain ⟨P, _, hc, hp, hpl, hsh, hwf⟩ := read_right he
  have HR : Hid (Calls Tryd.prog 8 #[.string ⟨s.toArray⟩] w fun e w' => ∃ u us, e = .returned (.tuple #[.agg #[u], .int .i64 0, .int .i64 0]) ∧ Built w' w.heap.size 37 51 u P us ∧ Below w.heap.size w w') := (read_all s w hS).mono fun e w' ⟨u, us, h1, h2, h3⟩ => by
   rw [hpl, he] at h1
   rw [hp] at h2
   exact ⟨u, us, h1, h2, h3⟩
  have HSH : Hid (∀ v W, Std W.heap.size W → ProgVal W v P → Calls Tryd.prog 12 #[.agg #[v]] W fun e w' => e = .returned (.tuple #[.string ⟨s.toArray⟩, .int .i64 0]) ∧ Below W.heap.size W w') := fun v W h1 h2 => by
   have := show_ok P v W h1 h2 hwf hc
   rw [hsh] at this
   exact this
  clear hS he hp hpl hsh hwf hc
  go_enter Tryd.func6, Tryd.ntmps6
  go_wp2_with (first
   | (go_at_call 8; refine HR.out.mono ?_; rintro e w1 ⟨u, us, rfl, hbt, hb1⟩; obtain ⟨ao1, cap1, rfl⟩ := own_shape hbt.row; have B0 : Hid (Below w.heap.size w w1) := hb1; have B1 : Hid (Below w1.heap.size w1 (w1.alloc (.cells #[.slice ao1 P.length cap1] 24))) := (Below.refl _ _).alloc (Nat.le_refl _) _; have HP : Hid (ProgVal (w1.alloc (.cells #[.slice ao1 P.length cap1] 24)) (.slice ao1 P.length cap1) P) := (hbt.alloc _).prog; have HT : Hid (Std (w1.alloc (.cells #[.slice ao1 P.length cap1] 24)).heap.size (w1.alloc (.cells #[.slice ao1 P.length cap1] 24))) := ((HS.out.later B0.out).later B1.out).std; clear hbt hb1)
   | (go_at_call 12; refine (HSH.out _ _ HT.out HP.out).mono ?_; rintro e w2 ⟨rfl, hb2⟩; have B2 : Hid (Below (w1.alloc (.cells #[.slice ao1 P.length cap1] 24)).heap.size (w1.alloc (.cells #[.slice ao1 P.length cap1] 24)) w2) := hb2; clear hb2))
  go_ret
  exact ⟨rfl, B0.out.trans ((B1.out.trans (B2.out.mono B1.out.size)).mono B0.out.size)⟩
 ·have hp : readProg s = [] := by unfold readProg; rw [if_neg he]
  obtain ⟨k, hk⟩ := readPlace_nat s
  have HR : Hid (Calls Tryd.prog 8 #[.string ⟨s.toArray⟩] w fun e w' => ∃ ao cap, e = .returned (.tuple #[.agg #[.slice ao 0 cap], .int .i64 k, .int .i64 (readErr s)]) ∧ Below w.heap.size w w') := (read_all s w hS).mono fun e w' ⟨u, us, h1, h2, h3⟩ => by
   rw [hk] at h1
   rw [hp] at h2
   obtain ⟨ao, cap, rfl⟩ := own_shape h2.row
   exact ⟨ao, cap, h1, h3⟩
  have hq : (readErr s != 0) = true := by simpa using he
  have hk0 : decide (0 ≤ (k : Int)) = true := by simp
  generalize readErr s = er at HR hq
  clear hS he hp hk
  go_enter Tryd.func6, Tryd.ntmps6
  go_wp2_with (go_at_call 8; refine HR.out.mono ?_; rintro e w1 ⟨ao, cap, rfl, hb1⟩; have B0 : Hid (Below w.heap.size w w1) := hb1; clear hb1)
  go_ret
  exact ⟨rfl, B0.out.alloc B0.out.size _⟩
end Go.Proofs.YtfacdhkadnmnlaaDoor
namespace Go.Proofs.YtfacdhkadnmnlaaDoor
open Go Go.ChangeShapes Go.WideShapes Go.ChangeAt Go.RowKit

set_option maxRecDepth 100000 in
theorem sheetFixed_lifted (os : Os) (started : os.Started) (H : Type) (enc : TypeId × Value → H) :
  ReturnsInHanded {} Tryd.checked os 6 .any (fun w args => (Rows.sheetFixedSpec.pre enc Tryd.prog Tryd.f6 [] false w args ∧ laidMetH Tryd.prog laidL9 w) ∧ sizedMet enc Tryd.prog Tryd.f6 (OpenSpec.ofChange Rows.sheetFixedSpec) false w args)
   (Rows.sheetFixedSpec.post enc Tryd.prog Tryd.f6 false true false false) := by
 refine returnsInHanded_shaped (C := Tryd.checked) (X := fun w _ => laidMetH Tryd.prog laidL9 w) (fun _ _ _ hh h => h.of_heap hh) own started (by kernel_rfl) Tryd.func6
  (ChangeSpec.witness_shaped (enc := enc) (C := Tryd.checked) (os := os) (X := fun w _ => laidMetH Tryd.prog laidL9 w) false (World.laidAll Tryd.prog os laidL9) #[.string ⟨#[]⟩] 8 (World.laidAll_os _ _ _) (World.shaped_of_ZipB (by kernel_rfl) (by kernel_rfl)) (by kernel_rfl) (by kernel_rfl) (by kernel_rfl) (lay_met9 os _)) ?_
 intro W base args ds gs before hval0 hW _ _ hL hsh
 have hval : ∀ (j : Nat) t v, Tryd.f6.params[j]? = some t → args[j]? = some v → Value.okWide Tryd.prog W .any base t v := hval0
 have hW' := hW
 obtain ⟨p, q, hA0, hV, rfl, hfz, hnd⟩ := hW
 have hA : DataW.TrodAll enc Tryd.prog W 0 (fun _ => true) true Tryd.f6.params.toList args.toList ds p := hA0
 rw [Tryd.params6] at hA hval
 obtain ⟨v0, d0, rfl, rfl, h0⟩ := trodAll_one hA
 obtain ⟨rfl, rfl⟩ := trodVars_none hV
 have h0k := h0
 obtain ⟨s0, rfl⟩ := open_str Tryd.underlying9 (hval 0 9 v0 rfl rfl) h0
 clear hA0 hval0
 have hlt : ∀ x ∈ p, x.block < W.heap.size := fun x hx => by simpa using hW'.lt x (by simpa using hx)
 refine (sheetFixed_walk s0 W (stdR_of_laid hL hsh)).mono fun e W' ⟨he, hb⟩ => ?_
 subst he
 exact ⟨_, rfl, _, _, _, [], p, [], hW', trodAll_mk1 (shut_bool Tryd.underlying4 true), trodAll_mk1 (Below.trod laidOut (by kernel_rfl) (of_decide_eq_true (by kernel_rfl)) h0k hb hlt), rfl, hb.frame _, fun h => by cases h⟩
theorem sheetFixed_holds : Rows.SheetFixedSaid :=
 OpenClaim.holds_of_wide 6 Tryd.f6 rfl rfl rfl rfl rfl rfl rfl ⟨rfl, rfl, rfl, rfl, rfl⟩ rfl rfl rfl rfl rfl (by kernel_rfl) Tryd.func6 (by kernel_rfl)
  (of_decide_eq_true (by kernel_rfl)) (by unfold Func.isWrapper; rw [if_neg (of_decide_eq_false (by kernel_rfl))]; exact ⟨rfl, rfl⟩)
  (fun os started H enc _ => sheetFixed_lifted os started H enc)
theorem sheetFixed_card : Rows.SheetFixedCardSaid :=
 Claim7.holds_tied_plain_at .later [] [.data, .data, .data, .data, .sentinel, .sentinel, .data, .data, .pinned] true Rows.sheetFixedCard.stood.harness Rows.sheetFixedCard.stood.looks
  sheetFixed_holds (fun _ h => by cases h) (by kernel_rfl) (fun _ h => by cases h) sheetFixed_row_tie rfl ⟨rfl, rfl⟩ (by kernel_rfl) rfl
  (fun f fn hf hfn => by
   obtain rfl : f = 6 := Option.some.inj ((show Tryd.prog.funcNamed "tierline/tierlinekeep.SheetFixed" = some 6 by kernel_rfl).symm.trans hf) |>.symm
   obtain rfl : fn = Tryd.f6 := (Option.some.inj (Tryd.func6.symm.trans hfn)).symm
   exact ⟨by kernel_rfl, fun j t ht => by
    rw [Tryd.params6] at ht
    have hm : t ∈ [9] := by simpa using Array.mem_of_getElem? ht
    have hall : ([9].all fun u => !Tryd.prog.wantsStandIn u) = true := by kernel_rfl
    exact (show Tryd.prog.wantsStandIn t = false by simpa using List.all_eq_true.1 hall t hm)⟩)
  (by kernel_rfl)
#print axioms sheetFixed_card
end Go.Proofs.YtfacdhkadnmnlaaDoor
namespace Go.Proofs.YtfacdhkadnmnlaaDoor
open Go Go.RowKit

structure St where
 status : Int
 value : Int
 frames : List Fr
 mem : List Int
 fuel : Int
 events : List Int
 answers : List Int
def stCells (s : St) (fv ev av : Value) : List Value := [.int .i64 s.status, .int .i64 s.value, fv] ++ i64s s.mem ++ [.int .i64 s.fuel, ev, av]
def StVal (w : World) (v : Value) (s : St) : Prop := ∃ fv ev av, v = .agg (stCells s fv ev av).toArray ∧ s.mem.length = 16 ∧ FramesVal w fv s.frames ∧ IntsVal w ev s.events ∧ IntsVal w av s.answers
theorem StVal.keeps {w w' : World} {v : Value} {s : St} (h : StVal w v s) (k : Keeps w w') : StVal w' v s := by
 obtain ⟨fv, ev, av, rfl, hm, h1, h2, h3⟩ := h
 exact ⟨fv, ev, av, rfl, hm, h1.keeps k, h2.keeps k, h3.keeps k⟩
end Go.Proofs.YtfacdhkadnmnlaaDoor
