import Derived.ChangeMaps5
import Derived.Lay
import Derived.Stop.LaidErr
import Derived.Test.YtfacdhkadnmnlaaDoorPXOpen
import Derived.Test.YtfacdhkadnmnlaaDoorPXShow
import Derived.Test.YtfacdhkadnmnlaaDoorPXSRead7
import Derived.Laws.BytesArg
import Derived.Test.YtfacdhkadnmnlaaDoorProg
import Derived.WalkLawsBesides
import Derived.Test.YtfacdhkadnmnlaaDoorPGroupA
import Derived.Test.YtfacdhkadnmnlaaDoorPXAppLay
import Derived.BigQuiet
import Derived.BigRegion
import Derived.Deep.AppendLies
import Derived.Deep.DeepCutAuto
import Derived.Deep.LoopGhost
import Derived.Deep.QuietTactic
import Derived.Deep.RegionHeld3
import Derived.Deep.RegionLaw
import Derived.Deep.RegionWith
import Derived.Defers
import Derived.Recover
import Derived.RegionDies
import Derived.RegionTactic
import Derived.WalkKit
import Derived.WalkSpells
import Derived.Test.YtfacdhkadnmnlaaDoorPGroupF
import Derived.Test.YtfacdhkadnmnlaaDoorPXSheetShown
namespace Go.Proofs.YtfacdhkadnmnlaaDoor
open Go Go.ChangeShapes Go.WideShapes Go.ChangeAt Go.RowKit

abbrev laidL9 : List (String × DataW Unit) := [("math/bits.deBruijn32tab", Rows.laid_math_bits_deBruijn32tab), ("math/bits.deBruijn64tab", Rows.laid_math_bits_deBruijn64tab), ("internal/strconv.uint64pow10", Rows.laid_internal_strconv_uint64pow10), ("unicode/utf8.acceptRanges", Rows.laid_unicode_utf8_acceptRanges), ("strconv.ErrRange", Rows.laid_strconv_ErrRange), ("strconv.ErrSyntax", Rows.laid_strconv_ErrSyntax), ("tierline/ops.parts", Rows.laid_tierline_ops_parts), ("tierline/sheet.words", Rows.laid_tierline_sheet_words), ("unicode/utf8.first", Rows.laid_unicode_utf8_first)]
theorem lay_met9 (os : Os) (args : Array Value) : laidMetH Tryd.prog laidL9 ((World.laidAll Tryd.prog os laidL9).forCall (fun _ _ => 0) ⟨#[], args, []⟩).memory := by
 rw [MakeChecks.laidMetH_plain _ _ _ (by kernel_rfl)]
 exact laidMet_laidAll _ (by kernel_rfl) (by kernel_rfl)
theorem gSyn : Tryd.prog.globalNamed "strconv.ErrSyntax" = some 6 := by kernel_rfl
theorem tSyn : (Tryd.prog.globals[6]?).map (·.type) = some 102 := by kernel_rfl
theorem gRng : Tryd.prog.globalNamed "strconv.ErrRange" = some 7 := by kernel_rfl
theorem tRng : (Tryd.prog.globals[7]?).map (·.type) = some 102 := by kernel_rfl
theorem rowES (u : TypeId) (h : Tryd.prog.typeName? 3 u = some "*errors.errorString") : u = 139 :=
 typeName_ptr_named (nm := "errors.errorString") (by rw [show "*" ++ "errors.errorString" = "*errors.errorString" from by decide]; kernel_rfl) (by kernel_rfl) (by decide) u (by rw [show "*" ++ "errors.errorString" = "*errors.errorString" from by decide]; exact h)
theorem cellsES : Tryd.prog.cellsOf 141 = 1 := by kernel_rfl
theorem cell_int {P : Program} {w : World} {r : Reach} {base : Nat} {t : TypeId} {v : Value} (ht : P.underlying t = some (.int .i64)) (h : Cell.ok P w r base t v) : ∃ n, v = .int .i64 n := by
 unfold Cell.ok at h
 rw [ht] at h
 cases v <;> simp at h
 rename_i k n
 obtain ⟨rfl, _⟩ := h
 exact ⟨n, rfl⟩
set_option maxRecDepth 100000 in
theorem most_of_shaped {W : World} (h : W.ShapedOpen Tryd.prog) : ∃ m : Int, W.cell? ⟨2, 0, none⟩ = some (.int .i64 m) := by
 obtain ⟨cs, hw, hsz, hok⟩ := h.1 2 #[.int .i64 0] 3 (of_decide_eq_true (by kernel_rfl)) (by kernel_rfl)
 obtain ⟨ts, h1, _, h3⟩ := hok (by kernel_rfl)
 have hts : ts = [3] := Option.some.inj (h1.symm.trans (show Tryd.prog.cellTypes Tryd.prog.depth 3 = some [3] by kernel_rfl))
 subst hts
 have hs : cs.size = 1 := hsz
 obtain ⟨v, hv⟩ : ∃ v, cs[0]? = some v := ⟨cs[0]'(by omega), Array.getElem?_eq_getElem (by omega)⟩
 obtain ⟨u, hu, hc⟩ := h3 0 v hv
 obtain rfl : u = 3 := (Option.some.inj (show some 3 = some u from hu)).symm
 obtain ⟨n, rfl⟩ := cell_int Tryd.underlying3 hc
 exact ⟨n, by simp [World.cell?, hw, hv]⟩
theorem stdR_of_laid {W : World} (h : laidMetH Tryd.prog laidL9 W) (hs : W.ShapedOpen Tryd.prog) : StdR W.heap.size W := by
 rw [MakeChecks.laidMetH_plain _ _ _ (by kernel_rfl)] at h
 have h' : laidMet Tryd.prog (("math/bits.deBruijn32tab", Rows.laid_math_bits_deBruijn32tab) :: ("math/bits.deBruijn64tab", Rows.laid_math_bits_deBruijn64tab) :: ("internal/strconv.uint64pow10", Lib.tabData .u64 Lib.pow10Tab) :: ("unicode/utf8.acceptRanges", Rows.laid_unicode_utf8_acceptRanges) :: ("strconv.ErrRange", .iface "*errors.errorString" (.ptr (.agg [.lit (.string [118, 97, 108, 117, 101, 32, 111, 117, 116, 32, 111, 102, 32, 114, 97, 110, 103, 101])]))) :: ("strconv.ErrSyntax", .iface "*errors.errorString" (.ptr (.agg [.lit (.string [105, 110, 118, 97, 108, 105, 100, 32, 115, 121, 110, 116, 97, 120])]))) :: ("tierline/ops.parts", Lib.tabData .i64 hasL) :: ("tierline/sheet.words", strData wordL) :: ("unicode/utf8.first", Rows.laid_unicode_utf8_first) :: []) W := h
 have hp := Lib.tabIs_of_head (P := Tryd.prog) gPow tPow Tryd.underlying129 Tryd.underlying106 cells64 cellsPow h'.tail.tail
 have ht := Lib.tabIs_of_head (P := Tryd.prog) gParts tParts Tryd.underlying92 Tryd.underlying3 cells3 cellsParts h'.tail.tail.tail.tail.tail.tail
 have hT : TabOk W := fun i hi => ht.cell gParts i hi
 have hW : WordOk W := fun i hi => strs_of_head (P := Tryd.prog) gWords tWords Tryd.underlying83 Tryd.underlying9 cellsStr cellsWords h'.tail.tail.tail.tail.tail.tail.tail i hi
 have hpos : 0 < W.heap.size := World.block_lt_of_cell? _ _ (hW 0 (by omega))
 obtain ⟨a1, _, hv1, _⟩ := laid_sentinel h'.tail.tail.tail.tail gRng tRng Tryd.underlying102 rowES Tryd.underlying139 Tryd.underlying141 rfl rfl Tryd.underlying9 cellsES cellsStr
 obtain ⟨a2, _, hv2, _⟩ := laid_sentinel h'.tail.tail.tail.tail.tail gSyn tSyn Tryd.underlying102 rowES Tryd.underlying139 Tryd.underlying141 rfl rfl Tryd.underlying9 cellsES cellsStr
 have c1 : W.cell? ⟨7, 0, none⟩ = some (.iface 139 (.pointer (some a1))) := (World.var?_cell gRng hv1 0).trans rfl
 have c2 : W.cell? ⟨6, 0, none⟩ = some (.iface 139 (.pointer (some a2))) := (World.var?_cell gSyn hv2 0).trans rfl
 obtain ⟨m, cm⟩ := most_of_shaped hs
 exact ⟨⟨Lib.tabBelow_of_tabIs hp, fun w' hb => ⟨fun i hi => (hb.cell (p := ⟨0, i, none⟩) hpos).trans (hW i hi), hT.below hb⟩⟩,
  fun w' hb => ⟨_, (hb.cell (World.block_lt_of_cell? _ _ c2)).trans c2, Or.inr ⟨_, _, rfl⟩⟩, fun w' hb => ⟨_, (hb.cell (World.block_lt_of_cell? _ _ c1)).trans c1, Or.inr ⟨_, _, rfl⟩⟩, fun w' hb => ⟨m, (hb.cell (World.block_lt_of_cell? _ _ cm)).trans cm⟩⟩
theorem returnsInHanded_shaped {H : Type} {enc : TypeId × Value → H} {a : Assume} {C : Checked} {os : Os} {f : FuncId} {fn : Func} {s : ChangeSpec} {conds : List PathCond} {apart fresh handsOn again : Bool} {X : World → Array Value → Prop}
  (hX : ∀ (w w' : World) (args : Array Value), w.heap = w'.heap → X w args → X w' args)
  (own : ownKnob C.prog.godebug = none) (started : os.Started) (noInit : C.prog.inits.idxOf? f = none) (hfn : C.prog.funcs[f]? = some fn)
  (witness : ∃ (w : World) (tape : Tape) (i : Input), w.os = os ∧ (w.forCall tape i).Shaped C.prog ∧ i.vars = [] ∧ Input.okWide C.prog (w.forCall tape i) .any w.heap.size f i ∧
   ((s.pre enc C.prog fn conds apart (w.forCall tape i).memory i.args ∧ X (w.forCall tape i).memory i.args) ∧ sizedMet enc C.prog fn (OpenSpec.ofChange s) apart (w.forCall tape i).memory i.args) ∧ a.holds C.prog (lone (Frame.enter C.prog f i.args .normal) [] (w.forCall tape i)))
  (contract : ∀ (W : World) (base : Nat) (args : Array Value) (ds gs : List (DataW H)) (before : List MemPlace),
   (∀ (j : Nat) t v, fn.params[j]? = some t → args[j]? = some v → Value.okWide C.prog W .any base t v) →
   DataW.Whole enc C.prog fn.params.toList s.vars apart W args.toList ds gs before →
   conds.all (PathCond.test C.prog ⟨fn.params.toList, ds, s.plain.varTypes C.prog, gs⟩) = true →
   (DataW.weightsEach C.prog (fn.params.toList ++ s.plain.varTypes C.prog) (ds ++ gs)).all (· ≤ reachBytes) = true → X W args → W.ShapedOpen C.prog →
   Calls C.prog f args W fun e W' => ∃ v, e = .returned v ∧ s.post enc C.prog fn apart fresh handsOn again W args v W') :
  ReturnsInHanded a C os f .any (fun w args => (s.pre enc C.prog fn conds apart w args ∧ X w args) ∧ sizedMet enc C.prog fn (OpenSpec.ofChange s) apart w args) (s.post enc C.prog fn apart fresh handsOn again) := by
 refine returnsInHanded_of_calls own started noInit witness ?_
 intro w tape i _ hsh _ hok hpre hholds
 obtain ⟨_, _, _, fn', hfn', _, _, _, _, hval⟩ := hok
 have e : fn' = fn := Option.some.inj (hfn'.symm.trans hfn)
 subst e
 obtain ⟨⟨⟨ds, gs, before, hw, hc⟩, hx⟩, hz⟩ := hpre
 have hw' := DataW.Whole.of_heap (w' := w.forCall tape i) (by rfl) hw
 refine (contract (w.forCall tape i) w.heap.size i.args ds gs before hval hw' hc (hz.weights hw) (hX _ _ _ (by rfl) hx) hsh).mono fun e W' ⟨v, he, hp⟩ => ?_
 subst he
 exact ChangeSpec.post_blind hp
end Go.Proofs.YtfacdhkadnmnlaaDoor
namespace Go.Proofs.YtfacdhkadnmnlaaDoor
open Go Go.RowKit

theorem StdR.later {w w' : World} (h : StdR w.heap.size w) (hb : Below w.heap.size w w') : StdR w'.heap.size w' := (h.on hb).up hb.size
end Go.Proofs.YtfacdhkadnmnlaaDoor
namespace Go.Proofs.YtfacdhkadnmnlaaDoor
open Go Go.RowKit

def BytesVal (w : World) (v : Value) (l : List Int) : Prop :=
 ∃ ao n cap, v = .slice ao n cap ∧ l.length = n ∧ (ao = none → n = 0 ∧ cap = 0) ∧ (0 < n → ∃ b off, ao = some ⟨b, off, none⟩ ∧ ∀ i, i < n → w.cell? ⟨b, off + i, none⟩ = some (.int .u8 (l.getD i 0)))
theorem BytesVal.keeps {w w' : World} {v : Value} {l : List Int} (h : BytesVal w v l) (k : Keeps w w') : BytesVal w' v l := by
 obtain ⟨ao, n, cap, rfl, h1, h2, h3⟩ := h
 refine ⟨ao, n, cap, rfl, h1, h2, fun hp => ?_⟩
 obtain ⟨b, off, e, hc⟩ := h3 hp
 exact ⟨b, off, e, fun i hi => k _ _ (hc i hi)⟩
theorem BytesVal.shape {w : World} {v : Value} {l : List Int} (h : BytesVal w v l) : ∃ ao cap, v = .slice ao l.length cap := by
 obtain ⟨ao, n, cap, rfl, rfl, _⟩ := h
 exact ⟨ao, cap, rfl⟩
end Go.Proofs.YtfacdhkadnmnlaaDoor
namespace Go.Proofs.YtfacdhkadnmnlaaDoor
open Go Go.RowKit

end Go.Proofs.YtfacdhkadnmnlaaDoor
namespace Go.Proofs.YtfacdhkadnmnlaaDoor
open Go Go.RowKit

def Ins.small (x : Ins) : Prop := (0 ≤ x.op ∧ x.op ≤ 255) ∧ (0 ≤ x.dst ∧ x.dst ≤ 255) ∧ (0 ≤ x.a ∧ x.a ≤ 255) ∧ (0 ≤ x.b ∧ x.b ≤ 255) ∧ I64 x.imm
def Fn.small (f : Fn) : Prop := (0 ≤ f.params ∧ f.params ≤ 255) ∧ (0 ≤ f.regs ∧ f.regs ≤ 255) ∧ f.code.length ≤ 255 ∧ ∀ x ∈ f.code, x.small
end Go.Proofs.YtfacdhkadnmnlaaDoor
namespace Go.Proofs.YtfacdhkadnmnlaaDoor
open Go Go.RowKit

theorem mkIns_imm (x : Ins) (regs places funcs : Int) (hx : I64 x.imm) (hp : 1 ≤ places) (hp2 : places ≤ 1000) (hf : 1 ≤ funcs) (hf2 : funcs ≤ 1000) : I64 (mkIns x regs places funcs).imm := by
 have b1 := pickI_bounds x.imm places (by omega)
 have b2 := pickI_bounds x.imm funcs (by omega)
 unfold I64 at *
 unfold mkIns
 repeat' split
 all_goals (dsimp only; omega)
theorem shaped_imm (l : List Fn) (hwf : ∀ f ∈ l, f.wf) : ∀ f ∈ shapedP l, ∀ x ∈ f.code, I64 x.imm := by
 intro f hf x hx
 obtain ⟨i, _, rfl⟩ := List.mem_map.1 hf
 have hN : 1 ≤ shapedN l ∧ shapedN l ≤ 4 := by unfold shapedN; omega
 have hb : (bodyAt l i).wf := by
  unfold bodyAt
  rw [List.getD_eq_getElem?_getD]
  rcases Nat.lt_or_ge i l.length with h | h
  ·rw [List.getElem?_eq_getElem h]; exact hwf _ (List.getElem_mem h)
  ·rw [List.getElem?_eq_none h]; exact ⟨by simp [I64], by simp [I64], by simp⟩
 rcases List.mem_append.1 hx with hx | hx
 ·obtain ⟨y, hy, rfl⟩ := List.mem_map.1 hx
  exact mkIns_imm y _ _ _ (hb.2.2 y (List.mem_of_mem_take hy)).2.2.2.2 (by omega) (by omega) (by omega) (by omega)
 ·simp at hx
  rcases hx with rfl | rfl <;> simp [I64]
end Go.Proofs.YtfacdhkadnmnlaaDoor
namespace Go.Proofs.YtfacdhkadnmnlaaDoor
open Go Go.RowKit

theorem regMay_cases {n regs : Int} {is : Bool} (h : regMayB n is regs = true) (hr : regs ≤ 12) : I64 n ∧ (is = false → n = 0) := by
 unfold regMayB at h
 cases is with
 | true =>
  simp [inB] at h
  exact ⟨⟨by omega, by omega⟩, fun e => by cases e⟩
 | false =>
  simp at h
  subst h
  exact ⟨i64_zero, fun _ => rfl⟩
theorem told_of_zero {x : Ins} {regs places funcs : Int} (h : codeInstr x regs places funcs = 0) (hr : regs ≤ 12) (hi : I64 x.imm) : x.told := by
 obtain ⟨h1, h2⟩ := op_of_zero h
 rw [instr_same] at h
 unfold refInstr at h
 split at h
 ·omega
 ·split at h
  ·omega
  ·rename_i k1
   split at h
   ·omega
   ·rename_i k2
    have k1' : refOk1 x regs = true := by simpa using k1
    have k2' : refOk2 x places funcs = true := by simpa using k2
    unfold refOk1 at k1'
    simp only [Bool.and_eq_true] at k1'
    obtain ⟨⟨m1, m2⟩, m3⟩ := k1'
    obtain ⟨a1, b1⟩ := regMay_cases m1 hr
    obtain ⟨a2, b2⟩ := regMay_cases m2 hr
    obtain ⟨a3, b3⟩ := regMay_cases m3 hr
    refine ⟨⟨⟨by omega, by omega⟩, a1, a2, a3, hi⟩, ⟨b1, b2, b3, fun c1 c2 => ?_⟩, h1, h2⟩
    unfold refOk2 at k2'
    rw [if_neg c2, if_neg (fun e => c1 (Or.inl e)), if_neg (fun e => c1 (Or.inr e))] at k2'
    simpa using k2'
theorem told_all {P : List Fn} (h : codeProg P = 0) (hi : ∀ f ∈ P, ∀ x ∈ f.code, I64 x.imm) : (∀ f ∈ P, f.told) ∧ ∀ f ∈ P, f.wf := by
 have key : ∀ f ∈ P, f.told := fun f hf => by
  obtain ⟨a1, a2, a3, a4, _, _, _, a8⟩ := codeFunc_zero ((codeProg_zero h).2.2 f hf)
  exact ⟨⟨by omega, by omega⟩, ⟨by omega, by omega⟩, a3, by omega, fun x hx => told_of_zero (a8 x hx) a2 (hi f hf x hx)⟩
 exact ⟨key, fun f hf => ⟨(key f hf).1, (key f hf).2.1, fun x hx => ((key f hf).2.2.2.2 x hx).1⟩⟩
/-! A program that is right fits into MaxText. -/
theorem itoa_short {n : Int} (h0 : 0 ≤ n) (h1 : n ≤ 99) : (Lib.itoa n).length ≤ 2 := by
 unfold Lib.itoa
 rw [if_neg (by omega), Lib.decDigits]
 split
 ·simp
 ·rw [Lib.decDigits, dif_pos (by omega)]; simp
theorem regPart_short {is : Bool} {n regs : Int} (h0 : regMayB n is regs = true) (hr : regs ≤ 12) : (regPart is n).length ≤ 4 := by
 cases is with
 | false => simp [regPart]
 | true =>
  simp [regMayB, inB] at h0
  have := itoa_short (n := n) (by omega) (by omega)
  simp [regPart]; omega
theorem lineOf_short {x : Ins} {regs places funcs : Int} (h : codeInstr x regs places funcs = 0) (hr : regs ≤ 12) (hi : I64 x.imm) : (lineOf x).length ≤ 40 := by
 rw [instr_same] at h
 unfold refInstr at h
 split at h
 ·omega
 ·split at h
  ·omega
  ·rename_i k1
   have k1' : refOk1 x regs = true := by simpa using k1
   unfold refOk1 at k1'
   simp only [Bool.and_eq_true] at k1'
   obtain ⟨⟨m1, m2⟩, m3⟩ := k1'
   have a0 := word_len x.op.toNat
   have a1 := regPart_short m1 hr
   have a2 := regPart_short m2 hr
   have a3 := regPart_short m3 hr
   have a4 : (numPart (decide (x.op = 17 ∨ x.op = 1)) x.imm).length + (numPart (decide (x.op = 15 ∨ x.op = 16)) x.imm).length ≤ 23 := by
    by_cases c : x.op = 17 ∨ x.op = 1
    ·have c2 : ¬(x.op = 15 ∨ x.op = 16) := by omega
     have := numPart_len (decide (x.op = 17 ∨ x.op = 1)) x.imm hi.1 hi.2
     simp only [c2, decide_false]
     simp [numPart] at this ⊢
     omega
    ·have := numPart_len (decide (x.op = 15 ∨ x.op = 16)) x.imm hi.1 hi.2
     simp only [c, decide_false]
     simp [numPart] at this ⊢
     omega
   unfold lineOf line4 line3 line2 line1
   simp only [List.length_append]
   omega
theorem show_len' {P : List Fn} (h : codeProg P = 0) (hi : ∀ f ∈ P, ∀ x ∈ f.code, I64 x.imm) : (showOf P).length ≤ 6900 := by
 obtain ⟨_, h4, hf⟩ := codeProg_zero h
 have key : ∀ f ∈ P, (fnLines f).length ≤ 1700 := fun f hm => by
  obtain ⟨a1, a2, a3, a4, _, a6, a7, a8⟩ := codeFunc_zero (hf f hm)
  have h1 : (fnLine f).length ≤ 49 := fnLine_len f ⟨⟨by omega, by omega⟩, ⟨by omega, by omega⟩, fun x hx => (told_of_zero (a8 x hx) a2 (hi f hm x hx)).1⟩
  have h2 : ∀ ys : List Ins, (∀ y ∈ ys, y ∈ f.code) → (ys.flatMap insLine).length ≤ ys.length * 41 := by
   intro ys
   induction ys with
   | nil => simp
   | cons y r ih =>
    intro hy
    have := lineOf_short (a8 y (hy y (by simp))) a2 (hi f hm y (hy y (by simp)))
    have := ih fun z hz => hy z (by simp [hz])
    rw [List.flatMap_cons, List.length_append, insLine, List.length_append]
    simp only [List.length_cons, List.length_nil]
    omega
  have h3 := h2 f.code fun _ h => h
  rw [fnLines, List.length_append]
  omega
 have all : ∀ q : List Fn, (∀ f ∈ q, f ∈ P) → (q.flatMap fnLines).length ≤ q.length * 1700 := by
  intro q
  induction q with
  | nil => simp
  | cons f r ih =>
   intro hq
   have := key f (hq f (by simp))
   have := ih fun g hg => hq g (by simp [hg])
   rw [List.flatMap_cons, List.length_append, List.length_cons]
   omega
 have := all P fun _ h => h
 show (P.flatMap fnLines).length ≤ 6900
 omega
end Go.Proofs.YtfacdhkadnmnlaaDoor
namespace Go.Proofs.YtfacdhkadnmnlaaDoor
open Go

/-! Lines that are none. -/
theorem itoa_zero : Lib.itoa 0 = [48] := by simp [Lib.itoa, Lib.decDigits]
theorem itoa_one : Lib.itoa 1 = [49] := by simp [Lib.itoa, Lib.decDigits]
theorem numOk_zero : numOk [48] = some 0 := by rw [← itoa_zero]; exact numOk_itoa ⟨by decide, by decide⟩
theorem regOk_zero : regOk [114, 48] = some 0 := by rw [regOk]; simp [numOk_zero]
theorem numOk_01 : numOk [48, 49] = none := by
 have h : Lib.parseIntB 64 [48, 49] = .ok 1 := by decide
 unfold numOk; rw [h]; simp [itoa_one]
theorem numOk_p1 : numOk [43, 49] = none := by
 have h : Lib.parseIntB 64 [43, 49] = .ok 1 := by decide
 unfold numOk; rw [h]; simp [itoa_one]
theorem numOk_m0 : numOk [45, 48] = none := by
 have h : Lib.parseIntB 64 [45, 48] = .ok 0 := by decide
 unfold numOk; rw [h]; simp [itoa_zero]
theorem numOk_r0 : numOk [114, 48] = none := by
 have h : Lib.parseIntB 64 [114, 48] = .«syntax» := by decide
 unfold numOk; rw [h]
def badWs : List (List Pc) := [[[115, 101, 116], [114, 48]], [[115, 101, 116], [48], [49]], [[97, 100, 100], [114, 48], [114, 48]], [[]], [[106, 117, 109, 112], [114, 48]], [[114, 101, 116], [114, 48], []], [[82, 101, 116], [114, 48]], [[115, 101, 116], [114, 48], [48, 49]], [[115, 101, 116], [114, 48], [43, 49]], [funcW, [49]], [[99, 97, 108, 108], [114, 48], [48], [114, 48]], [[108, 111, 97, 100], [114, 45, 48], [114, 48]]]
theorem addIns_bad (P : List Fn) (op : Int) (s : RS) (h : (insR op s).2.right = false) : addIns P op s = none := by
 unfold addIns
 split
 ·rfl
 ·split
  ·rfl
  ·rw [if_neg (by simp [h])]
theorem bad_words : ∀ ws ∈ badWs, ∀ P, addWords P ws = none := by
 intro ws hws P
 simp only [badWs, List.mem_cons, List.not_mem_nil, or_false] at hws
 rcases hws with rfl | rfl | rfl | rfl | rfl | rfl | rfl | rfl | rfl | rfl | rfl | rfl
 ·rw [addWords_cons, if_neg (by decide)]; exact addIns_bad _ _ _ (by simp [opIx, wordL, List.idxOf, List.findIdx_cons, insR, insR1, insR2, insR3, insR4, insR5, RS.opt, RS.take, RS.word, RS.right, setsB, readsAB, readsBB, regOk_zero, numOk_nil])
 ·rw [addWords_cons, if_neg (by decide)]; exact addIns_bad _ _ _ (by simp [opIx, wordL, List.idxOf, List.findIdx_cons, insR, insR1, insR2, insR3, insR4, insR5, RS.opt, RS.take, RS.word, RS.right, setsB, readsAB, readsBB, regOk])
 ·rw [addWords_cons, if_neg (by decide)]; exact addIns_bad _ _ _ (by simp [opIx, wordL, List.idxOf, List.findIdx_cons, insR, insR1, insR2, insR3, insR4, insR5, RS.opt, RS.take, RS.word, RS.right, setsB, readsAB, readsBB, regOk])
 ·rfl
 ·rw [addWords_cons, if_neg (by decide)]; exact addIns_bad _ _ _ (by simp [opIx, wordL, List.idxOf, List.findIdx_cons, insR, insR1, insR2, insR3, insR4, insR5, RS.opt, RS.take, RS.word, RS.right, setsB, readsAB, readsBB, numOk_r0])
 ·rw [addWords_cons, if_neg (by decide)]; exact addIns_bad _ _ _ (by simp [opIx, wordL, List.idxOf, List.findIdx_cons, insR, insR1, insR2, insR3, insR4, insR5, RS.opt, RS.take, RS.word, RS.right, setsB, readsAB, readsBB, regOk_zero])
 ·rfl
 ·rw [addWords_cons, if_neg (by decide)]; exact addIns_bad _ _ _ (by simp [opIx, wordL, List.idxOf, List.findIdx_cons, insR, insR1, insR2, insR3, insR4, insR5, RS.opt, RS.take, RS.word, RS.right, setsB, readsAB, readsBB, numOk_01])
 ·rw [addWords_cons, if_neg (by decide)]; exact addIns_bad _ _ _ (by simp [opIx, wordL, List.idxOf, List.findIdx_cons, insR, insR1, insR2, insR3, insR4, insR5, RS.opt, RS.take, RS.word, RS.right, setsB, readsAB, readsBB, numOk_p1])
 ·rw [addWords_cons, if_pos rfl]; unfold addFn; rw [if_neg]; simp [RS.take, RS.word, RS.right, numOk_nil]
 ·rw [addWords_cons, if_neg (by decide)]; exact addIns_bad _ _ _ (by simp [opIx, wordL, List.idxOf, List.findIdx_cons, insR, insR1, insR2, insR3, insR4, insR5, RS.opt, RS.take, RS.word, RS.right, setsB, readsAB, readsBB, regOk])
 ·rw [addWords_cons, if_neg (by decide)]; exact addIns_bad _ _ _ (by simp [opIx, wordL, List.idxOf, List.findIdx_cons, insR, insR1, insR2, insR3, insR4, insR5, RS.opt, RS.take, RS.word, RS.right, setsB, readsAB, readsBB, regOk, numOk_m0])
def badLines : List Pc := badWs.map fun ws => (ws.headD [] ++ blanks ws.tail) ++ [10]
theorem badWs_noB : ∀ ws ∈ badWs, noB (ws.headD []) ∧ ∀ p ∈ ws.tail, noB p := by unfold noB; decide
theorem bad_line (b : Pc) (hb : b ∈ badLines) (P : List Fn) : addLine P b = none := by
 unfold badLines at hb
 rw [List.mem_map] at hb
 obtain ⟨ws, hw, rfl⟩ := hb
 obtain ⟨h1, h2⟩ := badWs_noB ws hw
 rw [addLine_eq, words_back _ _ h1 h2]
 have hne : ws ≠ [] := by intro e; subst e; revert hw; decide
 have : ws.headD [] :: ws.tail = ws := by cases ws with | nil => exact absurd rfl hne | cons a b => rfl
 rw [this]
 exact bad_words ws hw P
theorem bad_isLine (b : Pc) (hb : b ∈ badLines) : IsLine b := by
 unfold badLines at hb
 rw [List.mem_map] at hb
 obtain ⟨ws, hw, rfl⟩ := hb
 obtain ⟨h1, h2⟩ := badWs_noB ws hw
 exact ⟨_, rfl, noLf_of _ _ h1 h2⟩
theorem readOn_take (P Q : List Fn) (a b : List Pc) (h : readOn P (a ++ b) = some Q) : ∃ S, readOn P a = some S := by
 induction a generalizing P with
 | nil => exact ⟨P, rfl⟩
 | cons x t ih =>
  rw [List.cons_append, readOn] at h
  rw [readOn]
  cases hx : addLine P x with
  | none => rw [hx] at h; exact absurd h (by simp)
  | some S => rw [hx] at h; exact ih S h
theorem bad_read (p : List Fn) (h : ∀ f ∈ p, f.told) (k : Nat) (hk : k ≤ (progRows p).length) (b : Pc) (hb : b ∈ badLines) :
  readOn [] (linesB (((progRows p).take k).flatten ++ b ++ ((progRows p).drop k).flatten)) = none ∧ readAt [] (linesB (((progRows p).take k).flatten ++ b ++ ((progRows p).drop k).flatten)) = k := by
 have hl : linesB (((progRows p).take k).flatten ++ b ++ ((progRows p).drop k).flatten) = (progRows p).take k ++ b :: (progRows p).drop k := by
  have := linesB_join ((progRows p).take k ++ b :: (progRows p).drop k) [] (fun l hl => by
   rcases List.mem_append.1 hl with h | h
   ·exact rows_lines p l (List.mem_of_mem_take h)
   ·rcases List.mem_cons.1 h with rfl | h
    ·exact bad_isLine _ hb
    ·exact rows_lines p l (List.mem_of_mem_drop h))
  simpa [linesB] using this
 rw [hl]
 have hr := readOn_rows [] p h
 rw [← List.take_append_drop k (progRows p)] at hr
 obtain ⟨S, hS⟩ := readOn_take _ _ _ _ hr
 have := readOn_fail [] S _ b ((progRows p).drop k) hS (bad_line b hb S)
 exact ⟨this.1, by rw [this.2, List.length_take]; omega⟩
end Go.Proofs.YtfacdhkadnmnlaaDoor
