/- PROVED: tierlinekeep.SheetTorn: at all raw numbers that can be handed in, a program's text without its last line feed is refused at its last line, and the empty text is refused; conditions: those of the given row (ops.parts, sheet.words, strconv's and bits' tables, strconv's two errors and utf8's two tables as the program's text lays them). -/
import Derived.ChangeMaps5
import Derived.Lay
import Derived.Stop.LaidErr
import Derived.Test.YtfacdhkadnmnlaaDoorPXOpen
import Derived.Test.YtfacdhkadnmnlaaDoorPXShow
import Derived.Test.YtfacdhkadnmnlaaDoorPXSRead7
import Derived.Laws.BytesArg
import Derived.Test.YtfacdhkadnmnlaaDoorProg
import Derived.WalkLawsBesides
import Derived.Test.YtfacdhkadnmnlaaDoorPGroupA
import Derived.Test.YtfacdhkadnmnlaaDoorPXAppLay
import Derived.BigQuiet
import Derived.BigRegion
import Derived.Deep.AppendLies
import Derived.Deep.DeepCutAuto
import Derived.Deep.LoopGhost
import Derived.Deep.QuietTactic
import Derived.Deep.RegionHeld3
import Derived.Deep.RegionLaw
import Derived.Deep.RegionWith
import Derived.Defers
import Derived.Recover
import Derived.RegionDies
import Derived.RegionTactic
import Derived.WalkKit
import Derived.WalkSpells
import Derived.Test.YtfacdhkadnmnlaaDoorPGroupF
import Derived.Test.YtfacdhkadnmnlaaDoorPXSheetShown
import Derived.SevenTiedAt
import Derived.Test.YtfacdhkadnmnlaaDoorCards
import Derived.Test.YtfacdhkadnmnlaaDoorTie
import Derived.Laws.CopyOwn
import Derived.Laws.OwnMore
import Derived.Laws.ResultCell
import Derived.OwnWalk
import Derived.Test.YtfacdhkadnmnlaaDoorPGroupB
namespace Go.Proofs.YtfacdhkadnmnlaaDoor
open Go Go.ChangeShapes Go.WideShapes Go.ChangeAt Go.RowKit

abbrev laidL9 : List (String × DataW Unit) := [("math/bits.deBruijn32tab", Rows.laid_math_bits_deBruijn32tab), ("math/bits.deBruijn64tab", Rows.laid_math_bits_deBruijn64tab), ("internal/strconv.uint64pow10", Rows.laid_internal_strconv_uint64pow10), ("unicode/utf8.acceptRanges", Rows.laid_unicode_utf8_acceptRanges), ("strconv.ErrRange", Rows.laid_strconv_ErrRange), ("strconv.ErrSyntax", Rows.laid_strconv_ErrSyntax), ("tierline/ops.parts", Rows.laid_tierline_ops_parts), ("tierline/sheet.words", Rows.laid_tierline_sheet_words), ("unicode/utf8.first", Rows.laid_unicode_utf8_first)]
theorem lay_met9 (os : Os) (args : Array Value) : laidMetH Tryd.prog laidL9 ((World.laidAll Tryd.prog os laidL9).forCall (fun _ _ => 0) ⟨#[], args, []⟩).memory := by
 rw [MakeChecks.laidMetH_plain _ _ _ (by kernel_rfl)]
 exact laidMet_laidAll _ (by kernel_rfl) (by kernel_rfl)
theorem gSyn : Tryd.prog.globalNamed "strconv.ErrSyntax" = some 6 := by kernel_rfl
theorem tSyn : (Tryd.prog.globals[6]?).map (·.type) = some 102 := by kernel_rfl
theorem gRng : Tryd.prog.globalNamed "strconv.ErrRange" = some 7 := by kernel_rfl
theorem tRng : (Tryd.prog.globals[7]?).map (·.type) = some 102 := by kernel_rfl
theorem rowES (u : TypeId) (h : Tryd.prog.typeName? 3 u = some "*errors.errorString") : u = 139 :=
 typeName_ptr_named (nm := "errors.errorString") (by rw [show "*" ++ "errors.errorString" = "*errors.errorString" from by decide]; kernel_rfl) (by kernel_rfl) (by decide) u (by rw [show "*" ++ "errors.errorString" = "*errors.errorString" from by decide]; exact h)
theorem cellsES : Tryd.prog.cellsOf 141 = 1 := by kernel_rfl
theorem cell_int {P : Program} {w : World} {r : Reach} {base : Nat} {t : TypeId} {v : Value} (ht : P.underlying t = some (.int .i64)) (h : Cell.ok P w r base t v) : ∃ n, v = .int .i64 n := by
 unfold Cell.ok at h
 rw [ht] at h
 cases v <;> simp at h
 rename_i k n
 obtain ⟨rfl, _⟩ := h
 exact ⟨n, rfl⟩
set_option maxRecDepth 100000 in
theorem most_of_shaped {W : World} (h : W.ShapedOpen Tryd.prog) : ∃ m : Int, W.cell? ⟨2, 0, none⟩ = some (.int .i64 m) := by
 obtain ⟨cs, hw, hsz, hok⟩ := h.1 2 #[.int .i64 0] 3 (of_decide_eq_true (by kernel_rfl)) (by kernel_rfl)
 obtain ⟨ts, h1, _, h3⟩ := hok (by kernel_rfl)
 have hts : ts = [3] := Option.some.inj (h1.symm.trans (show Tryd.prog.cellTypes Tryd.prog.depth 3 = some [3] by kernel_rfl))
 subst hts
 have hs : cs.size = 1 := hsz
 obtain ⟨v, hv⟩ : ∃ v, cs[0]? = some v := ⟨cs[0]'(by omega), Array.getElem?_eq_getElem (by omega)⟩
 obtain ⟨u, hu, hc⟩ := h3 0 v hv
 obtain rfl : u = 3 := (Option.some.inj (show some 3 = some u from hu)).symm
 obtain ⟨n, rfl⟩ := cell_int Tryd.underlying3 hc
 exact ⟨n, by simp [World.cell?, hw, hv]⟩
theorem stdR_of_laid {W : World} (h : laidMetH Tryd.prog laidL9 W) (hs : W.ShapedOpen Tryd.prog) : StdR W.heap.size W := by
 rw [MakeChecks.laidMetH_plain _ _ _ (by kernel_rfl)] at h
 have h' : laidMet Tryd.prog (("math/bits.deBruijn32tab", Rows.laid_math_bits_deBruijn32tab) :: ("math/bits.deBruijn64tab", Rows.laid_math_bits_deBruijn64tab) :: ("internal/strconv.uint64pow10", Lib.tabData .u64 Lib.pow10Tab) :: ("unicode/utf8.acceptRanges", Rows.laid_unicode_utf8_acceptRanges) :: ("strconv.ErrRange", .iface "*errors.errorString" (.ptr (.agg [.lit (.string [118, 97, 108, 117, 101, 32, 111, 117, 116, 32, 111, 102, 32, 114, 97, 110, 103, 101])]))) :: ("strconv.ErrSyntax", .iface "*errors.errorString" (.ptr (.agg [.lit (.string [105, 110, 118, 97, 108, 105, 100, 32, 115, 121, 110, 116, 97, 120])]))) :: ("tierline/ops.parts", Lib.tabData .i64 hasL) :: ("tierline/sheet.words", strData wordL) :: ("unicode/utf8.first", Rows.laid_unicode_utf8_first) :: []) W := h
 have hp := Lib.tabIs_of_head (P := Tryd.prog) gPow tPow Tryd.underlying129 Tryd.underlying106 cells64 cellsPow h'.tail.tail
 have ht := Lib.tabIs_of_head (P := Tryd.prog) gParts tParts Tryd.underlying92 Tryd.underlying3 cells3 cellsParts h'.tail.tail.tail.tail.tail.tail
 have hT : TabOk W := fun i hi => ht.cell gParts i hi
 have hW : WordOk W := fun i hi => strs_of_head (P := Tryd.prog) gWords tWords Tryd.underlying83 Tryd.underlying9 cellsStr cellsWords h'.tail.tail.tail.tail.tail.tail.tail i hi
 have hpos : 0 < W.heap.size := World.block_lt_of_cell? _ _ (hW 0 (by omega))
 obtain ⟨a1, _, hv1, _⟩ := laid_sentinel h'.tail.tail.tail.tail gRng tRng Tryd.underlying102 rowES Tryd.underlying139 Tryd.underlying141 rfl rfl Tryd.underlying9 cellsES cellsStr
 obtain ⟨a2, _, hv2, _⟩ := laid_sentinel h'.tail.tail.tail.tail.tail gSyn tSyn Tryd.underlying102 rowES Tryd.underlying139 Tryd.underlying141 rfl rfl Tryd.underlying9 cellsES cellsStr
 have c1 : W.cell? ⟨7, 0, none⟩ = some (.iface 139 (.pointer (some a1))) := (World.var?_cell gRng hv1 0).trans rfl
 have c2 : W.cell? ⟨6, 0, none⟩ = some (.iface 139 (.pointer (some a2))) := (World.var?_cell gSyn hv2 0).trans rfl
 obtain ⟨m, cm⟩ := most_of_shaped hs
 exact ⟨⟨Lib.tabBelow_of_tabIs hp, fun w' hb => ⟨fun i hi => (hb.cell (p := ⟨0, i, none⟩) hpos).trans (hW i hi), hT.below hb⟩⟩,
  fun w' hb => ⟨_, (hb.cell (World.block_lt_of_cell? _ _ c2)).trans c2, Or.inr ⟨_, _, rfl⟩⟩, fun w' hb => ⟨_, (hb.cell (World.block_lt_of_cell? _ _ c1)).trans c1, Or.inr ⟨_, _, rfl⟩⟩, fun w' hb => ⟨m, (hb.cell (World.block_lt_of_cell? _ _ cm)).trans cm⟩⟩
theorem returnsInHanded_shaped {H : Type} {enc : TypeId × Value → H} {a : Assume} {C : Checked} {os : Os} {f : FuncId} {fn : Func} {s : ChangeSpec} {conds : List PathCond} {apart fresh handsOn again : Bool} {X : World → Array Value → Prop}
  (hX : ∀ (w w' : World) (args : Array Value), w.heap = w'.heap → X w args → X w' args)
  (own : ownKnob C.prog.godebug = none) (started : os.Started) (noInit : C.prog.inits.idxOf? f = none) (hfn : C.prog.funcs[f]? = some fn)
  (witness : ∃ (w : World) (tape : Tape) (i : Input), w.os = os ∧ (w.forCall tape i).Shaped C.prog ∧ i.vars = [] ∧ Input.okWide C.prog (w.forCall tape i) .any w.heap.size f i ∧
   ((s.pre enc C.prog fn conds apart (w.forCall tape i).memory i.args ∧ X (w.forCall tape i).memory i.args) ∧ sizedMet enc C.prog fn (OpenSpec.ofChange s) apart (w.forCall tape i).memory i.args) ∧ a.holds C.prog (lone (Frame.enter C.prog f i.args .normal) [] (w.forCall tape i)))
  (contract : ∀ (W : World) (base : Nat) (args : Array Value) (ds gs : List (DataW H)) (before : List MemPlace),
   (∀ (j : Nat) t v, fn.params[j]? = some t → args[j]? = some v → Value.okWide C.prog W .any base t v) →
   DataW.Whole enc C.prog fn.params.toList s.vars apart W args.toList ds gs before →
   conds.all (PathCond.test C.prog ⟨fn.params.toList, ds, s.plain.varTypes C.prog, gs⟩) = true →
   (DataW.weightsEach C.prog (fn.params.toList ++ s.plain.varTypes C.prog) (ds ++ gs)).all (· ≤ reachBytes) = true → X W args → W.ShapedOpen C.prog →
   Calls C.prog f args W fun e W' => ∃ v, e = .returned v ∧ s.post enc C.prog fn apart fresh handsOn again W args v W') :
  ReturnsInHanded a C os f .any (fun w args => (s.pre enc C.prog fn conds apart w args ∧ X w args) ∧ sizedMet enc C.prog fn (OpenSpec.ofChange s) apart w args) (s.post enc C.prog fn apart fresh handsOn again) := by
 refine returnsInHanded_of_calls own started noInit witness ?_
 intro w tape i _ hsh _ hok hpre hholds
 obtain ⟨_, _, _, fn', hfn', _, _, _, _, hval⟩ := hok
 have e : fn' = fn := Option.some.inj (hfn'.symm.trans hfn)
 subst e
 obtain ⟨⟨⟨ds, gs, before, hw, hc⟩, hx⟩, hz⟩ := hpre
 have hw' := DataW.Whole.of_heap (w' := w.forCall tape i) (by rfl) hw
 refine (contract (w.forCall tape i) w.heap.size i.args ds gs before hval hw' hc (hz.weights hw) (hX _ _ _ (by rfl) hx) hsh).mono fun e W' ⟨v, he, hp⟩ => ?_
 subst he
 exact ChangeSpec.post_blind hp
end Go.Proofs.YtfacdhkadnmnlaaDoor
namespace Go.Proofs.YtfacdhkadnmnlaaDoor
open Go Go.RowKit

theorem StdR.later {w w' : World} (h : StdR w.heap.size w) (hb : Below w.heap.size w w') : StdR w'.heap.size w' := (h.on hb).up hb.size
end Go.Proofs.YtfacdhkadnmnlaaDoor
namespace Go.Proofs.YtfacdhkadnmnlaaDoor
open Go Go.RowKit

def BytesVal (w : World) (v : Value) (l : List Int) : Prop :=
 ∃ ao n cap, v = .slice ao n cap ∧ l.length = n ∧ (ao = none → n = 0 ∧ cap = 0) ∧ (0 < n → ∃ b off, ao = some ⟨b, off, none⟩ ∧ ∀ i, i < n → w.cell? ⟨b, off + i, none⟩ = some (.int .u8 (l.getD i 0)))
theorem BytesVal.keeps {w w' : World} {v : Value} {l : List Int} (h : BytesVal w v l) (k : Keeps w w') : BytesVal w' v l := by
 obtain ⟨ao, n, cap, rfl, h1, h2, h3⟩ := h
 refine ⟨ao, n, cap, rfl, h1, h2, fun hp => ?_⟩
 obtain ⟨b, off, e, hc⟩ := h3 hp
 exact ⟨b, off, e, fun i hi => k _ _ (hc i hi)⟩
theorem BytesVal.shape {w : World} {v : Value} {l : List Int} (h : BytesVal w v l) : ∃ ao cap, v = .slice ao l.length cap := by
 obtain ⟨ao, n, cap, rfl, rfl, _⟩ := h
 exact ⟨ao, cap, rfl⟩
end Go.Proofs.YtfacdhkadnmnlaaDoor
namespace Go.Proofs.YtfacdhkadnmnlaaDoor
open Go Go.RowKit

end Go.Proofs.YtfacdhkadnmnlaaDoor
namespace Go.Proofs.YtfacdhkadnmnlaaDoor
open Go Go.RowKit

def Ins.small (x : Ins) : Prop := (0 ≤ x.op ∧ x.op ≤ 255) ∧ (0 ≤ x.dst ∧ x.dst ≤ 255) ∧ (0 ≤ x.a ∧ x.a ≤ 255) ∧ (0 ≤ x.b ∧ x.b ≤ 255) ∧ I64 x.imm
def Fn.small (f : Fn) : Prop := (0 ≤ f.params ∧ f.params ≤ 255) ∧ (0 ≤ f.regs ∧ f.regs ≤ 255) ∧ f.code.length ≤ 255 ∧ ∀ x ∈ f.code, x.small
end Go.Proofs.YtfacdhkadnmnlaaDoor
namespace Go.Proofs.YtfacdhkadnmnlaaDoor
open Go Go.RowKit

theorem mkIns_imm (x : Ins) (regs places funcs : Int) (hx : I64 x.imm) (hp : 1 ≤ places) (hp2 : places ≤ 1000) (hf : 1 ≤ funcs) (hf2 : funcs ≤ 1000) : I64 (mkIns x regs places funcs).imm := by
 have b1 := pickI_bounds x.imm places (by omega)
 have b2 := pickI_bounds x.imm funcs (by omega)
 unfold I64 at *
 unfold mkIns
 repeat' split
 all_goals (dsimp only; omega)
theorem shaped_imm (l : List Fn) (hwf : ∀ f ∈ l, f.wf) : ∀ f ∈ shapedP l, ∀ x ∈ f.code, I64 x.imm := by
 intro f hf x hx
 obtain ⟨i, _, rfl⟩ := List.mem_map.1 hf
 have hN : 1 ≤ shapedN l ∧ shapedN l ≤ 4 := by unfold shapedN; omega
 have hb : (bodyAt l i).wf := by
  unfold bodyAt
  rw [List.getD_eq_getElem?_getD]
  rcases Nat.lt_or_ge i l.length with h | h
  ·rw [List.getElem?_eq_getElem h]; exact hwf _ (List.getElem_mem h)
  ·rw [List.getElem?_eq_none h]; exact ⟨by simp [I64], by simp [I64], by simp⟩
 rcases List.mem_append.1 hx with hx | hx
 ·obtain ⟨y, hy, rfl⟩ := List.mem_map.1 hx
  exact mkIns_imm y _ _ _ (hb.2.2 y (List.mem_of_mem_take hy)).2.2.2.2 (by omega) (by omega) (by omega) (by omega)
 ·simp at hx
  rcases hx with rfl | rfl <;> simp [I64]
end Go.Proofs.YtfacdhkadnmnlaaDoor
namespace Go.Proofs.YtfacdhkadnmnlaaDoor
open Go Go.RowKit

theorem regMay_cases {n regs : Int} {is : Bool} (h : regMayB n is regs = true) (hr : regs ≤ 12) : I64 n ∧ (is = false → n = 0) := by
 unfold regMayB at h
 cases is with
 | true =>
  simp [inB] at h
  exact ⟨⟨by omega, by omega⟩, fun e => by cases e⟩
 | false =>
  simp at h
  subst h
  exact ⟨i64_zero, fun _ => rfl⟩
theorem told_of_zero {x : Ins} {regs places funcs : Int} (h : codeInstr x regs places funcs = 0) (hr : regs ≤ 12) (hi : I64 x.imm) : x.told := by
 obtain ⟨h1, h2⟩ := op_of_zero h
 rw [instr_same] at h
 unfold refInstr at h
 split at h
 ·omega
 ·split at h
  ·omega
  ·rename_i k1
   split at h
   ·omega
   ·rename_i k2
    have k1' : refOk1 x regs = true := by simpa using k1
    have k2' : refOk2 x places funcs = true := by simpa using k2
    unfold refOk1 at k1'
    simp only [Bool.and_eq_true] at k1'
    obtain ⟨⟨m1, m2⟩, m3⟩ := k1'
    obtain ⟨a1, b1⟩ := regMay_cases m1 hr
    obtain ⟨a2, b2⟩ := regMay_cases m2 hr
    obtain ⟨a3, b3⟩ := regMay_cases m3 hr
    refine ⟨⟨⟨by omega, by omega⟩, a1, a2, a3, hi⟩, ⟨b1, b2, b3, fun c1 c2 => ?_⟩, h1, h2⟩
    unfold refOk2 at k2'
    rw [if_neg c2, if_neg (fun e => c1 (Or.inl e)), if_neg (fun e => c1 (Or.inr e))] at k2'
    simpa using k2'
theorem told_all {P : List Fn} (h : codeProg P = 0) (hi : ∀ f ∈ P, ∀ x ∈ f.code, I64 x.imm) : (∀ f ∈ P, f.told) ∧ ∀ f ∈ P, f.wf := by
 have key : ∀ f ∈ P, f.told := fun f hf => by
  obtain ⟨a1, a2, a3, a4, _, _, _, a8⟩ := codeFunc_zero ((codeProg_zero h).2.2 f hf)
  exact ⟨⟨by omega, by omega⟩, ⟨by omega, by omega⟩, a3, by omega, fun x hx => told_of_zero (a8 x hx) a2 (hi f hf x hx)⟩
 exact ⟨key, fun f hf => ⟨(key f hf).1, (key f hf).2.1, fun x hx => ((key f hf).2.2.2.2 x hx).1⟩⟩
/-! A program that is right fits into MaxText. -/
theorem itoa_short {n : Int} (h0 : 0 ≤ n) (h1 : n ≤ 99) : (Lib.itoa n).length ≤ 2 := by
 unfold Lib.itoa
 rw [if_neg (by omega), Lib.decDigits]
 split
 ·simp
 ·rw [Lib.decDigits, dif_pos (by omega)]; simp
theorem regPart_short {is : Bool} {n regs : Int} (h0 : regMayB n is regs = true) (hr : regs ≤ 12) : (regPart is n).length ≤ 4 := by
 cases is with
 | false => simp [regPart]
 | true =>
  simp [regMayB, inB] at h0
  have := itoa_short (n := n) (by omega) (by omega)
  simp [regPart]; omega
theorem lineOf_short {x : Ins} {regs places funcs : Int} (h : codeInstr x regs places funcs = 0) (hr : regs ≤ 12) (hi : I64 x.imm) : (lineOf x).length ≤ 40 := by
 rw [instr_same] at h
 unfold refInstr at h
 split at h
 ·omega
 ·split at h
  ·omega
  ·rename_i k1
   have k1' : refOk1 x regs = true := by simpa using k1
   unfold refOk1 at k1'
   simp only [Bool.and_eq_true] at k1'
   obtain ⟨⟨m1, m2⟩, m3⟩ := k1'
   have a0 := word_len x.op.toNat
   have a1 := regPart_short m1 hr
   have a2 := regPart_short m2 hr
   have a3 := regPart_short m3 hr
   have a4 : (numPart (decide (x.op = 17 ∨ x.op = 1)) x.imm).length + (numPart (decide (x.op = 15 ∨ x.op = 16)) x.imm).length ≤ 23 := by
    by_cases c : x.op = 17 ∨ x.op = 1
    ·have c2 : ¬(x.op = 15 ∨ x.op = 16) := by omega
     have := numPart_len (decide (x.op = 17 ∨ x.op = 1)) x.imm hi.1 hi.2
     simp only [c2, decide_false]
     simp [numPart] at this ⊢
     omega
    ·have := numPart_len (decide (x.op = 15 ∨ x.op = 16)) x.imm hi.1 hi.2
     simp only [c, decide_false]
     simp [numPart] at this ⊢
     omega
   unfold lineOf line4 line3 line2 line1
   simp only [List.length_append]
   omega
theorem show_len' {P : List Fn} (h : codeProg P = 0) (hi : ∀ f ∈ P, ∀ x ∈ f.code, I64 x.imm) : (showOf P).length ≤ 6900 := by
 obtain ⟨_, h4, hf⟩ := codeProg_zero h
 have key : ∀ f ∈ P, (fnLines f).length ≤ 1700 := fun f hm => by
  obtain ⟨a1, a2, a3, a4, _, a6, a7, a8⟩ := codeFunc_zero (hf f hm)
  have h1 : (fnLine f).length ≤ 49 := fnLine_len f ⟨⟨by omega, by omega⟩, ⟨by omega, by omega⟩, fun x hx => (told_of_zero (a8 x hx) a2 (hi f hm x hx)).1⟩
  have h2 : ∀ ys : List Ins, (∀ y ∈ ys, y ∈ f.code) → (ys.flatMap insLine).length ≤ ys.length * 41 := by
   intro ys
   induction ys with
   | nil => simp
   | cons y r ih =>
    intro hy
    have := lineOf_short (a8 y (hy y (by simp))) a2 (hi f hm y (hy y (by simp)))
    have := ih fun z hz => hy z (by simp [hz])
    rw [List.flatMap_cons, List.length_append, insLine, List.length_append]
    simp only [List.length_cons, List.length_nil]
    omega
  have h3 := h2 f.code fun _ h => h
  rw [fnLines, List.length_append]
  omega
 have all : ∀ q : List Fn, (∀ f ∈ q, f ∈ P) → (q.flatMap fnLines).length ≤ q.length * 1700 := by
  intro q
  induction q with
  | nil => simp
  | cons f r ih =>
   intro hq
   have := key f (hq f (by simp))
   have := ih fun g hg => hq g (by simp [hg])
   rw [List.flatMap_cons, List.length_append, List.length_cons]
   omega
 have := all P fun _ h => h
 show (P.flatMap fnLines).length ≤ 6900
 omega
theorem show_len {P : List Fn} (h : codeProg P = 0) (hi : ∀ f ∈ P, ∀ x ∈ f.code, I64 x.imm) : (showOf P).length ≤ 10000 := by have := show_len' h hi; omega
end Go.Proofs.YtfacdhkadnmnlaaDoor
namespace Go.Proofs.YtfacdhkadnmnlaaDoor
open Go Go.RowKit

theorem read_torn {P : List Fn} (h : codeProg P = 0) (hi : ∀ f ∈ P, ∀ x ∈ f.code, I64 x.imm) : readErr ((showOf P).take ((showOf P).length - 1)) = 5 ∧ readPlace ((showOf P).take ((showOf P).length - 1)) = (((progRows P).length : Int) - 1) := by
 have hl := show_len h hi
 have hne : P ≠ [] := by intro e; subst e; have := (codeProg_zero h).1; simp at this
 obtain ⟨a, b⟩ := torn_read P (told_all h hi).1 hne
 have hl2 : ¬ 10000 < ((showOf P).take ((showOf P).length - 1)).length := by rw [List.length_take]; omega
 have hp : 1 ≤ (progRows P).length := by
  cases P with
  | nil => exact absurd rfl hne
  | cons f r => simp [progRows, fnRows]
 exact ⟨by unfold readErr; rw [if_neg hl2, a], by unfold readPlace; rw [if_neg hl2, a]; dsimp only; rw [b]; omega⟩
theorem read_empty : readErr [] = 1 := by unfold readErr; rw [if_neg (by simp)]; rfl
theorem rows_succ (P : List Fn) (k : Nat) (h : k < P.length) : (progRows (P.take (k + 1))).length = (progRows (P.take k)).length + (1 + P[k].code.length) := by
 unfold progRows
 rw [List.take_succ_eq_append_getElem h, List.flatMap_append, List.length_append]
 simp [fnRows]
 omega
theorem rows_le (P : List Fn) (h : ∀ f ∈ P, f.code.length ≤ 40) : ∀ k, (progRows (P.take k)).length ≤ k * 41 := by
 intro k
 induction k with
 | zero => simp [progRows]
 | succ k ih =>
  by_cases hk : k < P.length
  ·have := h P[k] (List.getElem_mem hk)
   rw [rows_succ P k hk]
   omega
  ·rw [List.take_of_length_le (by omega)]
   rw [List.take_of_length_le (by omega)] at ih
   omega
set_option maxRecDepth 100000 in
set_option maxHeartbeats 1000000 in
theorem sheetTorn_walk (l : List Fn) (v : Value) (w : World) (hS : StdR w.heap.size w) (hv : ProgVal w v l) (hwf : ∀ f ∈ l, f.wf) :
  Calls Tryd.prog 5 #[v] w fun e w' => e = .returned (.bool true) ∧ Below w.heap.size w w' := by
 have hok := shaped_ok l
 have himm := shaped_imm l hwf
 have HSH : Hid (Calls Tryd.prog 11 #[v] w fun e w' => ∃ v' us, e = .returned (.agg #[v']) ∧ Built w' w.heap.size 37 51 v' (shapedP l) us ∧ Below w.heap.size w w') := shaped_mk l v w hv hwf
 obtain ⟨hb1, hb2⟩ := read_torn hok himm
 obtain ⟨_, hPwf⟩ := told_all hok himm
 obtain ⟨ao, n, cap, rfl⟩ := hv.shape
 have HS : Hid (StdR w.heap.size w) := hS
 obtain ⟨hp1, hp4, hpf⟩ := codeProg_zero hok
 have hpos : 0 < (showOf (shapedP l)).length := showOf_pos _ hp1
 have hlen := show_len hok himm
 obtain ⟨L, hL⟩ : ∃ L, (showOf (shapedP l)).length = L + 1 := ⟨(showOf (shapedP l)).length - 1, by omega⟩
 have HSW : Hid (∀ v W, Std W.heap.size W → ProgVal W v (shapedP l) → Calls Tryd.prog 12 #[.agg #[v]] W fun e w' => e = .returned (.tuple #[.string ⟨(showOf (shapedP l)).toArray⟩, .int .i64 0]) ∧ Below W.heap.size W w') := fun v W h1 h2 => show_ok _ v W h1 h2 hPwf hok
 have HRD : Hid (∀ W, StdR W.heap.size W → Calls Tryd.prog 8 #[.string ((⟨(showOf (shapedP l)).toArray⟩ : ByteArray).extract 0 L)] W fun e w' => ∃ ao n cap, e = .returned (.tuple #[.agg #[.slice ao n cap], .int .i64 (((progRows (shapedP l)).length : Int) - 1), .int .i64 5]) ∧ Below W.heap.size W w') := fun W hW => by
  rw [ext_take]
  have h := read_all ((showOf (shapedP l)).take L) W hW
  refine h.mono fun e w' ⟨u, us, h1, h2, h3⟩ => ?_
  rw [show L = (showOf (shapedP l)).length - 1 by omega, hb2, hb1] at h1
  obtain ⟨a, c, rfl⟩ := own_shape h2.row
  exact ⟨_, _, _, h1, h3⟩
 have HRE : Hid (∀ W, StdR W.heap.size W → Calls Tryd.prog 8 #[.string ⟨#[]⟩] W fun e w' => ∃ ao n cap pl, e = .returned (.tuple #[.agg #[.slice ao n cap], .int .i64 pl, .int .i64 1]) ∧ Below W.heap.size W w') := fun W hW => (read_all [] W hW).mono fun e w' ⟨u, us, h1, h2, h3⟩ => by
  rw [read_empty] at h1
  obtain ⟨a, c, rfl⟩ := own_shape h2.row
  exact ⟨_, _, _, _, h1, h3⟩
 generalize showOf (shapedP l) = t at HSW HRD hpos hb1 hb2 hL hlen
 generalize shapedP l = P at hok himm HSH HSW HRD hPwf hp1 hp4 hpf hb2
 have HC40 : Hid (∀ f ∈ P, f.code.length ≤ 40) := fun f hf => (codeFunc_zero (hpf f hf)).2.2.2.2.2.2.1
 have hLx : IntKind.i64.wrap ((t.length : Int) - 1) = (L : Int) := by rw [IntKind.wrap_i64]; omega
 have hLy : wrap64 ((t.length : Int) - 1) = (L : Int) := by simp only [wrap64]; omega
 have hLt : L ≤ t.length := by omega
 clear hS hv hwf hok himm hPwf hb1 hb2 hpf hL
 go_enter Tryd.func5, Tryd.ntmps5
 go_upto_region 5 with (first
  | (go_at_call 11; refine HSH.out.mono ?_; rintro e w1 ⟨v1, us1, rfl, hbt1, hb1⟩; obtain ⟨ao1, cap1, rfl⟩ := own_shape hbt1.row; have B0 : Hid (Below w.heap.size w w1) := hb1; have B1 : Hid (Below w1.heap.size w1 (w1.alloc (.cells #[.slice ao1 P.length cap1] 24))) := (Below.refl _ _).alloc (Nat.le_refl _) _; have HT : Hid (StdR (w1.alloc (.cells #[.slice ao1 P.length cap1] 24)).heap.size (w1.alloc (.cells #[.slice ao1 P.length cap1] 24))) := ((HS.out.later B0.out).later B1.out); have HP : Hid (ProgVal w1 (.slice ao1 P.length cap1) P) := hbt1.prog; clear hbt1 hb1)
  | (go_at_call 12; refine (HSW.out _ _ HT.out.std (HP.out.keeps (keeps_below B1.out))).mono ?_; rintro e w2 ⟨rfl, hb2⟩; have B2 : Hid (Below w1.heap.size w1 w2) := B1.out.trans (hb2.mono B1.out.size); have HT2 : Hid (StdR w2.heap.size w2) := HT.out.later hb2; have kp := keeps_below hb2 ⟨w1.heap.size, 0, none⟩ (.slice ao1 P.length cap1) (by simp); clear hb2))
 obtain ⟨ao', b, off, n', cap', hve, ⟨hlenP, haddr, hat⟩, hcap, hmax⟩ := HP.out.keeps (keeps_below B2.out)
 simp only [Value.slice.injEq] at hve
 obtain ⟨rfl, rfl, rfl⟩ := hve
 obtain rfl := haddr (by omega)
 have HAT : Hid (∀ (k : Nat) (h : k < P.length), ∃ v, FnAt w2 b (off + k * 3) P[k] v) := hat
 have HM0 : Hid ((-1 : Int) = ((progRows (P.take 0)).length : Int) - 1) := by show _ = _; simp [progRows]
 have HME : Hid (progRows (P.take P.length) = progRows P) := by show _ = _; rw [List.take_length]
 have HMS : Hid (∀ k, (h : k < P.length) → (progRows (P.take (k + 1))).length = (progRows (P.take k)).length + (1 + P[k].code.length)) := rows_succ P
 have HML : Hid (∀ k, (progRows (P.take k)).length ≤ k * 41) := rows_le P HC40.out
 clear hat haddr hlenP hcap
 go_wp2
 go_loopw [6, 7] (fun nn i wr => ∃ k : Nat, k ≤ P.length ∧ i = .int .i64 k ∧ nn = .int .i64 (((progRows (P.take k)).length : Int) - 1) ∧ wr = w2) (fun _ i _ => P.length - (intOf i).toNat)
 case atStart => exact ⟨0, Nat.zero_le _, rfl, by rw [← HM0.out], rfl⟩
 case round =>
  obtain ⟨k, hk, rfl, rfl, rfl⟩ := hrel
  by_cases hlt : k < P.length
  ·obtain ⟨u, hfn⟩ := HAT.out k hlt
   obtain ⟨_, _, d2, hu⟩ := hfn
   have hck := HC40.out P[k] (List.getElem_mem hlt)
   have hms := HMS.out k hlt
   have hml := HML.out k
   generalize P[k].code = xs at hu hck hms
   obtain ⟨ao2, b2, off2, n2, cap2, rfl, ⟨hlen2, _, _⟩, _, _⟩ := hu
   subst hlen2
   have HMN : Hid (((progRows (P.take (k + 1))).length : Int) - 1 = ((progRows (P.take k)).length : Int) - 1 + (1 + (xs.length : Int))) := by show _ = _; omega
   generalize hm : (progRows (P.take k)).length = m at hml HMN hms
   clear hms hm
   go_wp2
   go_roundw
   case rel => exact ⟨k + 1, by omega, by go_num, by rw [HMN.out], trivial⟩
   case measure => simp [intOf]; omega
  ·have hkn : k = P.length := by omega
   subst hkn
   rw [HME.out]
   have hml := HML.out P.length
   rw [HME.out] at hml
   generalize (progRows P).length = m at hml HRD
   have h5 : ((m : Int) - 1 == (m : Int) - 1) = true := by simp
   go_wp2_with (first
    | (go_at_call 8; refine (HRD.out _ HT2.out).mono ?_; rintro e w3 ⟨a3, n3, c3, rfl, hb3⟩; clear HRD; have B3 : Hid (Below w1.heap.size w1 (w3.alloc (.cells #[.slice a3 n3 c3] 24))) := (B2.out.trans (hb3.mono B2.out.size)).alloc (by have := B2.out.size; have := hb3.size; omega) _; have HT3 : Hid (StdR (w3.alloc (.cells #[.slice a3 n3 c3] 24)).heap.size (w3.alloc (.cells #[.slice a3 n3 c3] 24))) := (HT2.out.later hb3).later ((Below.refl _ _).alloc (Nat.le_refl _) _); clear hb3)
    | (go_at_call 8; refine (HRE.out _ HT3.out).mono ?_; rintro e w4 ⟨a4, n4, c4, p4, rfl, hb4⟩; have B4 : Hid (Below w1.heap.size w1 (w4.alloc (.cells #[.slice a4 n4 c4] 24))) := (B3.out.trans (hb4.mono B3.out.size)).alloc (by have := B3.out.size; have := hb4.size; omega) _; clear hb4))
   go_ret
   exact ⟨rfl, B0.out.trans (B4.out.mono B0.out.size)⟩
end Go.Proofs.YtfacdhkadnmnlaaDoor
namespace Go.Proofs.YtfacdhkadnmnlaaDoor
open Go Go.ChangeShapes Go.WideShapes Go.ChangeAt Go.RowKit

set_option maxRecDepth 100000 in
theorem sheetTorn_lifted (os : Os) (started : os.Started) (H : Type) (enc : TypeId × Value → H) :
  ReturnsInHanded {} Tryd.checked os 5 .any (fun w args => (Rows.sheetTornSpec.pre enc Tryd.prog Tryd.f5 [] false w args ∧ laidMetH Tryd.prog laidL9 w) ∧ sizedMet enc Tryd.prog Tryd.f5 (OpenSpec.ofChange Rows.sheetTornSpec) false w args)
   (Rows.sheetTornSpec.post enc Tryd.prog Tryd.f5 false true false false) := by
 refine returnsInHanded_shaped (C := Tryd.checked) (X := fun w _ => laidMetH Tryd.prog laidL9 w) (fun _ _ _ hh h => h.of_heap hh) own started (by kernel_rfl) Tryd.func5
  (ChangeSpec.witness_shaped (enc := enc) (C := Tryd.checked) (os := os) (X := fun w _ => laidMetH Tryd.prog laidL9 w) false (World.laidAll Tryd.prog os laidL9) #[.slice none 0 0] 8 (World.laidAll_os _ _ _) (World.shaped_of_ZipB (by kernel_rfl) (by kernel_rfl)) (by kernel_rfl) (by kernel_rfl) (by kernel_rfl) (lay_met9 os _)) ?_
 intro W base args ds gs before hval0 hW _ _ hL hsh
 have hval : ∀ (j : Nat) t v, Tryd.f5.params[j]? = some t → args[j]? = some v → Value.okWide Tryd.prog W .any base t v := hval0
 have hW' := hW
 obtain ⟨p, q, hA0, hV, rfl, hfz, hnd⟩ := hW
 have hA : DataW.TrodAll enc Tryd.prog W 0 (fun _ => true) true Tryd.f5.params.toList args.toList ds p := hA0
 rw [Tryd.params5] at hA hval
 obtain ⟨v0, d0, rfl, rfl, h0⟩ := trodAll_one hA
 obtain ⟨rfl, rfl⟩ := trodVars_none hV
 have h0k := h0
 obtain ⟨P, hp, hwf⟩ := open_bodies (hval 0 30 v0 rfl rfl) h0
 clear hA0 hval0
 have hlt : ∀ x ∈ p, x.block < W.heap.size := fun x hx => by simpa using hW'.lt x (by simpa using hx)
 refine (sheetTorn_walk P v0 W (stdR_of_laid hL hsh) hp hwf).mono fun e W' ⟨he, hb⟩ => ?_
 subst he
 exact ⟨_, rfl, _, _, _, [], p, [], hW', trodAll_mk1 (shut_bool Tryd.underlying4 true), trodAll_mk1 (Below.trod laidOut (by kernel_rfl) (of_decide_eq_true (by kernel_rfl)) h0k hb hlt), rfl, hb.frame _, fun h => by cases h⟩
theorem sheetTorn_holds : Rows.SheetTornSaid :=
 OpenClaim.holds_of_wide 5 Tryd.f5 rfl rfl rfl rfl rfl rfl rfl ⟨rfl, rfl, rfl, rfl, rfl⟩ rfl rfl rfl rfl rfl (by kernel_rfl) Tryd.func5 (by kernel_rfl)
  (of_decide_eq_true (by kernel_rfl)) (by unfold Func.isWrapper; rw [if_neg (of_decide_eq_false (by kernel_rfl))]; exact ⟨rfl, rfl⟩)
  (fun os started H enc _ => sheetTorn_lifted os started H enc)
theorem sheetTorn_card : Rows.SheetTornCardSaid :=
 Claim7.holds_tied_plain_at .later [] [.data, .data, .data, .data, .sentinel, .sentinel, .data, .data, .pinned] true Rows.sheetTornCard.stood.harness Rows.sheetTornCard.stood.looks
  sheetTorn_holds (fun _ h => by cases h) (by kernel_rfl) (fun _ h => by cases h) sheetTorn_row_tie rfl ⟨rfl, rfl⟩ (by kernel_rfl) rfl
  (fun f fn hf hfn => by
   obtain rfl : f = 5 := Option.some.inj ((show Tryd.prog.funcNamed "tierline/tierlinekeep.SheetTorn" = some 5 by kernel_rfl).symm.trans hf) |>.symm
   obtain rfl : fn = Tryd.f5 := (Option.some.inj (Tryd.func5.symm.trans hfn)).symm
   exact ⟨by kernel_rfl, fun j t ht => by
    rw [Tryd.params5] at ht
    have hm : t ∈ [30] := by simpa using Array.mem_of_getElem? ht
    have hall : ([30].all fun u => !Tryd.prog.wantsStandIn u) = true := by kernel_rfl
    exact (show Tryd.prog.wantsStandIn t = false by simpa using List.all_eq_true.1 hall t hm)⟩)
  (by kernel_rfl)
#print axioms sheetTorn_card
end Go.Proofs.YtfacdhkadnmnlaaDoor
namespace Go.Proofs.YtfacdhkadnmnlaaDoor
open Go Go.RowKit

structure St where
 status : Int
 value : Int
 frames : List Fr
 mem : List Int
 fuel : Int
 events : List Int
 answers : List Int
def stCells (s : St) (fv ev av : Value) : List Value := [.int .i64 s.status, .int .i64 s.value, fv] ++ i64s s.mem ++ [.int .i64 s.fuel, ev, av]
def StVal (w : World) (v : Value) (s : St) : Prop := ∃ fv ev av, v = .agg (stCells s fv ev av).toArray ∧ s.mem.length = 16 ∧ FramesVal w fv s.frames ∧ IntsVal w ev s.events ∧ IntsVal w av s.answers
theorem StVal.keeps {w w' : World} {v : Value} {s : St} (h : StVal w v s) (k : Keeps w w') : StVal w' v s := by
 obtain ⟨fv, ev, av, rfl, hm, h1, h2, h3⟩ := h
 exact ⟨fv, ev, av, rfl, hm, h1.keeps k, h2.keeps k, h3.keeps k⟩
end Go.Proofs.YtfacdhkadnmnlaaDoor
