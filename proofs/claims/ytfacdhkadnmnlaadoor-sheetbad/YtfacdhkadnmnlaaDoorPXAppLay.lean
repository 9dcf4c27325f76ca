import Derived.Test.YtfacdhkadnmnlaaDoorPXReadLay
import Derived.Laws.BytesArg
import Derived.Lib.ItoaLen
import Derived.Test.YtfacdhkadnmnlaaDoorProg
import Derived.WalkKit
import Derived.WalkLawsBesides
import Derived.WalkSpells
import Derived.Test.YtfacdhkadnmnlaaDoorPGroupA
import Derived.Deep.DeepCutAuto
import Derived.Lib.AppendStr
import Derived.Test.YtfacdhkadnmnlaaDoorPXOpen
namespace Go.Proofs.YtfacdhkadnmnlaaDoor
open Go Go.Shelf Go.RowKit

abbrev PowB (B : Nat) (w : World) : Prop := Lib.TabBelow Tryd.prog B w "internal/strconv.uint64pow10" .u64 Lib.pow10Tab
theorem appInt_any (B n : Nat) (i : Int) (sv : Value) (xs : List Value) (w : World) (h0 : -9223372036854775808 ≤ i) (h1 : i ≤ 9223372036854775807) (hown : w.ownsRow B 5 1 sv n xs) (hBw : B ≤ w.heap.size) (hlim : n ≤ 1000000) (htab : PowB B w) :
  Calls Tryd.prog 56 #[sv, .int .i64 i, .int .i64 10] w fun e w' => ∃ v', e = .returned v' ∧ w'.ownsRow B 5 1 v' (n + (Lib.itoa i).length) (xs ++ Lib.byteCells (Lib.itoa i)) ∧ Below B w w' ∧ Lib.OthersKept 5 none w w' :=
 strconv_AppendInt_10 B n i h0 h1 sv xs w hown hBw (by omega) htab
end Go.Proofs.YtfacdhkadnmnlaaDoor
namespace Go.Proofs.YtfacdhkadnmnlaaDoor
open Go Go.RowKit

theorem str_add (a b : List UInt8) : ((⟨a.toArray⟩ : ByteArray) ++ (⟨b.toArray⟩ : ByteArray)) = ⟨(a ++ b).toArray⟩ := by
 apply ByteArray.ext
 simp
end Go.Proofs.YtfacdhkadnmnlaaDoor
namespace Go.Proofs.YtfacdhkadnmnlaaDoor
open Go Go.RowKit

def wordL : List (List UInt8) := [[], [115, 101, 116], [97, 100, 100], [115, 117, 98], [109, 117, 108], [100, 105, 118], [97, 110, 100], [111, 114], [120, 111, 114], [115, 104, 108], [115, 97, 114], [108, 116], [101, 113], [108, 111, 97, 100], [115, 116, 111, 114, 101], [106, 117, 109, 112], [105, 102], [99, 97, 108, 108], [104, 111, 115, 116], [114, 101, 116]]
end Go.Proofs.YtfacdhkadnmnlaaDoor
namespace Go.Proofs.YtfacdhkadnmnlaaDoor
open Go Go.RowKit

def regPart (is : Bool) (n : Int) : List UInt8 := if is = true then [32, 114] ++ Lib.itoa n else []
def numPart (is : Bool) (n : Int) : List UInt8 := if is = true then [32] ++ Lib.itoa n else []
theorem regPart_len (is : Bool) (n : Int) (h0 : -9223372036854775808 ≤ n) (h1 : n ≤ 9223372036854775807) : (regPart is n).length ≤ 23 := by
 have := Lib.itoa_length_le n h0 h1
 unfold regPart; split <;> simp; omega
theorem numPart_len (is : Bool) (n : Int) (h0 : -9223372036854775808 ≤ n) (h1 : n ≤ 9223372036854775807) : (numPart is n).length ≤ 23 := by
 have := Lib.itoa_length_le n h0 h1
 unfold numPart; split <;> simp; omega
def line1 (x : Ins) : List UInt8 := wordL.getD x.op.toNat [] ++ regPart (setsB x.op) x.dst
def line2 (x : Ins) : List UInt8 := line1 x ++ numPart (decide (x.op = 17 ∨ x.op = 1)) x.imm
def line3 (x : Ins) : List UInt8 := line2 x ++ regPart (readsAB x.op) x.a
def line4 (x : Ins) : List UInt8 := line3 x ++ regPart (readsBB x.op) x.b
def lineOf (x : Ins) : List UInt8 := line4 x ++ numPart (decide (x.op = 15 ∨ x.op = 16)) x.imm
end Go.Proofs.YtfacdhkadnmnlaaDoor
namespace Go.Proofs.YtfacdhkadnmnlaaDoor
open Go Go.RowKit

theorem infoB : (Tryd.prog.info? 5).map (fun i => (i.zero, i.size, i.bytes)) = some (some (.int .u8 0), 1, 1) := by kernel_rfl
abbrev Txt (w : World) (B : Nat) (v : Value) (bs : List UInt8) : Prop := w.ownsRow B 5 1 v bs.length (Lib.byteCells bs)
theorem cells_append (a b : List UInt8) : Lib.byteCells a ++ Lib.byteCells b = Lib.byteCells (a ++ b) := by simp [Lib.byteCells]
theorem cells_one (l : List UInt8) : ∀ u ∈ Lib.byteCells l, u.oneCell' = true := by
 intro u hu
 simp only [Lib.byteCells, List.mem_map] at hu
 obtain ⟨b, _, rfl⟩ := hu
 rfl
theorem txt_on {w : World} {B : Nat} {v : Value} {a b : List UInt8} {n : Nat} (hn : n = b.length) (h : w.ownsRow B 5 1 v (a.length + n) (Lib.byteCells a ++ Lib.byteCells b)) : Txt w B v (a ++ b) := by
 subst hn
 rw [cells_append, ← List.length_append] at h
 exact h
theorem txt_on3 {w : World} {B : Nat} {v : Value} {a b c : List UInt8} (h : w.ownsRow B 5 1 v ((a ++ b).length + c.length) (Lib.byteCells (a ++ b) ++ Lib.byteCells c)) : Txt w B v (a ++ (b ++ c)) := by
 rw [← List.append_assoc]
 exact txt_on rfl h
structure Grew (B : Nat) (w w' : World) : Prop where
 below : Below B w w'
 kept : Lib.OthersKept 5 none w w'
theorem Grew.trans {B : Nat} {a b c : World} (h : Grew B a b) (k : Grew B b c) : Grew B a c := ⟨h.below.trans k.below, h.kept.trans k.kept⟩
theorem Grew.of_own {B : Nat} {w w' : World} {v : Value} {n : Nat} {xs : List Value} (hown : w.ownsRow B 5 1 v n xs) (hB : B ≤ w.heap.size) (hg : w.grownBy w' v.ownBlock) : Grew B w w' := ⟨(Below.refl _ _).grown hg hB (fun k hk => (hown.lt k hk).1), fun k o hk _ ho => by
 refine (hg.block k (lt_of_block hk) fun e => ?_).trans hk
 obtain ⟨_, h0 | ⟨g, cap, cur, hv, hb, hh, r⟩⟩ := hown
 ·obtain ⟨rfl, _⟩ := h0
  simp [Value.ownBlock] at e
 ·subst hv
  simp [Value.ownBlock] at e
  subst e
  rw [hh] at hk
  cases hk
  exact ho _ _ rfl⟩
theorem Grew.alloc {B : Nat} {w : World} (hB : B ≤ w.heap.size) (o : Obj) : Grew B w (w.alloc o) := ⟨(Below.refl _ w).alloc hB o, fun _ _ hk _ _ => (heap_alloc_old w o (lt_of_block hk)).trans hk⟩
set_option maxRecDepth 100000 in
set_option maxHeartbeats 400000 in
theorem number_any (B : Nat) (i : Int) (v : Value) (bs : List UInt8) (w : World) (hi : I64 i) (hown : Txt w B v bs) (hB : B ≤ w.heap.size) (hn : bs.length ≤ 100000) (ht : PowB B w) :
  Calls Tryd.prog 44 #[v, .int .i64 i] w fun e w' => ∃ v', e = .returned v' ∧ Txt w' B v' (bs ++ ([32] ++ Lib.itoa i)) ∧ Grew B w w' := by
 obtain ⟨iB, hiB, hzB0, hzB1, hzB2⟩ := info_parts infoB
 have HT : Hid (PowB B w) := ht
 have HI : Hid (I64 i) := hi
 clear ht hi
 go_enter Tryd.func44, Tryd.ntmps44
 go_wp2_with (first
  | (at_builtin; refine wpList_append_own _ rfl (.tmp 5) (.tmp 6) 58 rfl B 5 iB _ 1 1 Tryd.underlying58 hiB hzB0 hzB1 hzB2 rfl (by decide) v bs.length (Lib.byteCells bs) rfl (hown.alloc _) ⟨w.heap.size, 0, none⟩ 1 1 (Lib.byteCells [32]) rfl rfl (news_list _ (Lib.byteCells [32]) _ _ rfl) (cells_one _) (by unfold maxLen; omega) (by omega) (by simp; omega) ?_; intro v1 w1 hown1 hg1 _; have G1 : Hid (Grew B w w1) := (Grew.alloc hB _).trans (Grew.of_own (hown.alloc _) (by simp; omega) hg1); have T1 : Hid (Txt w1 B v1 (bs ++ [32])) := txt_on rfl hown1; clear hg1 hown1)
  | (go_at_call 56; refine (appInt_any B _ i _ _ _ HI.out.1 HI.out.2 T1.out (Nat.le_trans hB G1.out.below.size) (by simp; omega) (HT.out.on G1.out.below)).mono ?_; rintro e w2 ⟨v2, rfl, hown2, hb2, hk2⟩; have G2 : Hid (Grew B w w2) := G1.out.trans ⟨hb2, hk2⟩; have T2 : Hid (Txt w2 B v2 (bs ++ ([32] ++ Lib.itoa i))) := txt_on3 hown2; clear hown2 hb2 hk2))
 go_ret
 exact ⟨_, rfl, T2.out, G2.out⟩
set_option maxRecDepth 100000 in
set_option maxHeartbeats 400000 in
theorem register_any (B : Nat) (i : Int) (v : Value) (bs : List UInt8) (w : World) (hi : I64 i) (hown : Txt w B v bs) (hB : B ≤ w.heap.size) (hn : bs.length ≤ 100000) (ht : PowB B w) :
  Calls Tryd.prog 46 #[v, .int .i64 i] w fun e w' => ∃ v', e = .returned v' ∧ Txt w' B v' (bs ++ ([32, 114] ++ Lib.itoa i)) ∧ Grew B w w' := by
 obtain ⟨iB, hiB, hzB0, hzB1, hzB2⟩ := info_parts infoB
 have HT : Hid (PowB B w) := ht
 have HI : Hid (I64 i) := hi
 clear ht hi
 go_enter Tryd.func46, Tryd.ntmps46
 go_wp2_with (first
  | (at_builtin; refine Lib.wpList_append_own_string _ rfl (.tmp 5) (.const (.string ⟨#[32, 114]⟩)) 58 9 rfl B 5 iB Tryd.underlying58 Tryd.underlying9 hiB hzB0 hzB1 hzB2 v bs.length (Lib.byteCells bs) rfl hown ⟨#[32, 114]⟩ rfl (by show bs.length + 2 ≤ maxLen; unfold maxLen; omega) (by show bs.length + 2 ≤ _; omega) hB ?_; intro v1 w1 hown1 hg1 _; have G1 : Hid (Grew B w w1) := Grew.of_own hown hB hg1; have T1 : Hid (Txt w1 B v1 (bs ++ [32, 114])) := txt_on rfl hown1; clear hg1 hown1)
  | (go_at_call 56; refine (appInt_any B _ i _ _ _ HI.out.1 HI.out.2 T1.out (Nat.le_trans hB G1.out.below.size) (by simp; omega) (HT.out.on G1.out.below)).mono ?_; rintro e w2 ⟨v2, rfl, hown2, hb2, hk2⟩; have G2 : Hid (Grew B w w2) := G1.out.trans ⟨hb2, hk2⟩; have T2 : Hid (Txt w2 B v2 (bs ++ ([32, 114] ++ Lib.itoa i))) := txt_on3 hown2; clear hown2 hb2 hk2))
 go_ret
 exact ⟨_, rfl, T2.out, G2.out⟩
end Go.Proofs.YtfacdhkadnmnlaaDoor
namespace Go.Proofs.YtfacdhkadnmnlaaDoor
open Go Go.RowKit

def fnLine (f : Fn) : List UInt8 := [102, 117, 110, 99, 32] ++ (Lib.itoa f.params ++ ([32] ++ (Lib.itoa f.regs ++ [10])))
def insLine (x : Ins) : List UInt8 := lineOf x ++ [10]
def fnLines (f : Fn) : List UInt8 := fnLine f ++ f.code.flatMap insLine
def showPart (p : List Fn) (k : Nat) : List UInt8 := (p.take k).flatMap fnLines
def showOf (p : List Fn) : List UInt8 := p.flatMap fnLines
theorem showPart_succ (p : List Fn) (k : Nat) (h : k < p.length) : showPart p (k + 1) = showPart p k ++ fnLines p[k] := by
 unfold showPart
 rw [List.take_succ_eq_append_getElem h, List.flatMap_append]
 simp
theorem linePart_succ (xs : List Ins) (k : Nat) (h : k < xs.length) : (xs.take (k + 1)).flatMap insLine = (xs.take k).flatMap insLine ++ insLine xs[k] := by
 rw [List.take_succ_eq_append_getElem h, List.flatMap_append]
 simp
theorem word_len (m : Nat) : (wordL.getD m []).length ≤ 5 := by
 by_cases h : m < 20
 ·have hall : ∀ k, k < 20 → (wordL.getD k []).length ≤ 5 := by decide
  exact hall m h
 ·have : wordL.getD m [] = [] := List.getElem?_eq_none (l := wordL) (i := m) (by show 20 ≤ m; omega) |> fun e => by simp [List.getD, e]
  rw [this]; simp
theorem lineOf_len (x : Ins) (h : x.wf) : (lineOf x).length ≤ 120 := by
 obtain ⟨_, h1, h2, h3, h4⟩ := h
 have a0 := word_len x.op.toNat
 have a1 := regPart_len (setsB x.op) x.dst h1.1 h1.2
 have a2 := numPart_len (decide (x.op = 17 ∨ x.op = 1)) x.imm h4.1 h4.2
 have a3 := regPart_len (readsAB x.op) x.a h2.1 h2.2
 have a4 := regPart_len (readsBB x.op) x.b h3.1 h3.2
 have a5 := numPart_len (decide (x.op = 15 ∨ x.op = 16)) x.imm h4.1 h4.2
 unfold lineOf line4 line3 line2 line1
 simp only [List.length_append]
 omega
theorem insLines_len (xs : List Ins) (h : ∀ x ∈ xs, x.wf) : (xs.flatMap insLine).length ≤ xs.length * 121 := by
 induction xs with
 | nil => simp
 | cons x r ih =>
  have := lineOf_len x (h x (by simp))
  have := ih fun y hy => h y (by simp [hy])
  rw [List.flatMap_cons, List.length_append, insLine, List.length_append]
  simp only [List.length_cons, List.length_nil]
  omega
theorem fnLine_len (f : Fn) (h : f.wf) : (fnLine f).length ≤ 49 := by
 have := Lib.itoa_length_le f.params h.1.1 h.1.2
 have := Lib.itoa_length_le f.regs h.2.1.1 h.2.1.2
 unfold fnLine
 simp only [List.length_append, List.length_cons, List.length_nil]
 omega
theorem fnLines_len (f : Fn) (h : f.wf) (hl : f.code.length ≤ 40) : (fnLines f).length ≤ 5000 := by
 have := fnLine_len f h
 have := insLines_len f.code h.2.2
 rw [fnLines, List.length_append]
 omega
theorem showPart_len (p : List Fn) (k : Nat) (h : ∀ f ∈ p, f.wf) (hl : ∀ f ∈ p, f.code.length ≤ 40) : (showPart p k).length ≤ p.length * 5000 := by
 have all : ∀ q : List Fn, (∀ f ∈ q, f ∈ p) → (q.flatMap fnLines).length ≤ q.length * 5000 := by
  intro q
  induction q with
  | nil => simp
  | cons f r ih =>
   intro hq
   have := fnLines_len f (h f (hq f (by simp))) (hl f (hq f (by simp)))
   have := ih fun g hg => hq g (by simp [hg])
   rw [List.flatMap_cons, List.length_append, List.length_cons]
   omega
 have := all (p.take k) fun f hf => List.mem_of_mem_take hf
 have hk : (p.take k).length ≤ p.length := by rw [List.length_take]; exact Nat.min_le_right _ _
 exact Nat.le_trans this (Nat.mul_le_mul_right _ hk)
theorem op_of_zero {x : Ins} {regs places funcs : Int} (h : codeInstr x regs places funcs = 0) : 1 ≤ x.op ∧ x.op < 20 := by
 unfold codeInstr at h
 split at h
 ·omega
 rename_i h0
 by_cases c : 0 ≤ x.op ∧ x.op < 20
 ·refine ⟨?_, c.2⟩
  by_cases z : x.op = 0
  ·rw [z] at h0
   exact absurd (by decide) h0
  ·omega
 ·simp [hasOf, c] at h0
end Go.Proofs.YtfacdhkadnmnlaaDoor
namespace Go.Proofs.YtfacdhkadnmnlaaDoor
open Go Go.RowKit

theorem Grew.box {B : Nat} {w w' : World} (h : Grew B w w') {k t : Nat} {cs : Array Value} {fr : Nat × Nat} (hk : w.heap[k]? = some (.cells cs t fr)) (ht : t ≠ 5) : w'.heap[k]? = some (.cells cs t fr) :=
 h.kept k _ hk (by simp) fun c fz e => by cases e; exact ht rfl
set_option maxRecDepth 100000 in
set_option maxHeartbeats 400000 in
theorem func_any (B : Nat) (params regs : Int) (u : Value) (xs : List Ins) (v : Value) (bs : List UInt8) (w : World) (h1 : I64 params) (h2 : I64 regs) (hown : Txt w B v bs) (hB : B ≤ w.heap.size) (hn : bs.length ≤ 90000) (ht : PowB B w) :
  Calls Tryd.prog 23 #[v, .agg #[.int .i64 params, .int .i64 regs, u]] w fun e w' => ∃ v', e = .returned v' ∧ Txt w' B v' (bs ++ fnLine ⟨params, regs, xs⟩) ∧ Grew B w w' := by
 obtain ⟨iB, hiB, hzB0, hzB1, hzB2⟩ := info_parts infoB
 have HT : Hid (PowB B w) := ht
 have HE : Hid (bs ++ fnLine ⟨params, regs, xs⟩ = bs ++ [102, 117, 110, 99] ++ ([32] ++ Lib.itoa params) ++ ([32] ++ Lib.itoa regs) ++ [10]) := by show _ = _; simp [fnLine]
 have hlp := Lib.itoa_length_le params h1.1 h1.2
 have hlr := Lib.itoa_length_le regs h2.1 h2.2
 have HP : Hid (I64 params) := h1
 have HR : Hid (I64 regs) := h2
 generalize bs ++ fnLine ⟨params, regs, xs⟩ = R at HE
 clear ht h1 h2
 go_enter Tryd.func23, Tryd.ntmps23
 go_upto_region 3 with (first
  | (at_builtin; refine Lib.wpList_append_own_string _ rfl (.tmp 5) (.const (.string ⟨#[102, 117, 110, 99]⟩)) 58 9 rfl B 5 iB Tryd.underlying58 Tryd.underlying9 hiB hzB0 hzB1 hzB2 v bs.length (Lib.byteCells bs) rfl (hown.alloc _) ⟨#[102, 117, 110, 99]⟩ rfl (by show bs.length + 4 ≤ maxLen; unfold maxLen; omega) (by show bs.length + 4 ≤ _; omega) (by simp; omega) ?_; intro v1 w1 hown1 hg1 _; have Q1 : Hid (Grew B (w.alloc (.cells #[.int .i64 params, .int .i64 regs, u] 37)) w1) := Grew.of_own (hown.alloc _) (by simp; omega) hg1; have G1 : Hid (Grew B w w1) := (Grew.alloc hB _).trans Q1.out; have T1 : Hid (Txt w1 B v1 (bs ++ [102, 117, 110, 99])) := txt_on rfl hown1; have X1 : w1.heap[w.heap.size]? = some (.cells #[.int .i64 params, .int .i64 regs, u] 37) := Q1.out.box (heap_alloc_new w _) (by decide); have c0 : w1.cell? ⟨w.heap.size, 0, none⟩ = some (.int .i64 params) := (by simp [World.cell?, X1]); have HX1 : Hid (w1.heap[w.heap.size]? = some (.cells #[.int .i64 params, .int .i64 regs, u] 37)) := X1; clear hg1 hown1 Q1 X1)
  | (go_at_call 44; refine (number_any B params _ _ _ HP.out T1.out (Nat.le_trans hB G1.out.below.size) (by simp; omega) (HT.out.on G1.out.below)).mono ?_; rintro e w2 ⟨v2, rfl, hown2, hg2⟩; have G2 : Hid (Grew B w w2) := G1.out.trans hg2; have X2 : w2.heap[w.heap.size]? = some (.cells #[.int .i64 params, .int .i64 regs, u] 37) := hg2.box HX1.out (by decide); have T2 : Hid (Txt w2 B v2 (bs ++ [102, 117, 110, 99] ++ ([32] ++ Lib.itoa params))) := hown2; have c1 : w2.cell? ⟨w.heap.size, 1, none⟩ = some (.int .i64 regs) := (by simp [World.cell?, X2]); clear hown2 hg2 X2 c0))
 clear hown
 go_wp2_with (first
  | (go_at_call 44; refine (number_any B regs _ _ _ HR.out T2.out (Nat.le_trans hB G2.out.below.size) (by simp; omega) (HT.out.on G2.out.below)).mono ?_; rintro e w3 ⟨v3, rfl, hown3, hg3⟩; have G3 : Hid (Grew B w w3) := G2.out.trans hg3; have hz3 : B ≤ w3.heap.size := Nat.le_trans hB G3.out.below.size; have T3 : Hid (Txt w3 B v3 (bs ++ [102, 117, 110, 99] ++ ([32] ++ Lib.itoa params) ++ ([32] ++ Lib.itoa regs))) := hown3; clear hown3 hg3 c1)
  | (at_builtin; refine wpList_append_own _ rfl (.tmp 15) (.tmp 16) 58 rfl B 5 iB _ 1 1 Tryd.underlying58 hiB hzB0 hzB1 hzB2 rfl (by decide) v3 _ _ rfl (T3.out.alloc _) ⟨w3.heap.size, 0, none⟩ 1 1 (Lib.byteCells [10]) rfl rfl (news_list _ (Lib.byteCells [10]) _ _ rfl) (cells_one _) (by unfold maxLen; simp; omega) (by simp; omega) (by simp; omega) ?_; intro v4 w4 hown4 hg4 _; have G4 : Hid (Grew B w w4) := G3.out.trans ((Grew.alloc hz3 _).trans (Grew.of_own (T3.out.alloc _) (by simp; omega) hg4)); have T4 : Hid (Txt w4 B v4 R) := (by rw [HE.out]; exact txt_on rfl hown4); clear hg4 hown4))
 go_ret
 exact ⟨_, rfl, T4.out, G4.out⟩
end Go.Proofs.YtfacdhkadnmnlaaDoor
