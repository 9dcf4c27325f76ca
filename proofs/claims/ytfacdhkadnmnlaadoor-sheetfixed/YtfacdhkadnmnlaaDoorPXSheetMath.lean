import Derived.Lib.Bytealg
import Derived.Lib.ItoaLen
import Derived.Lib.ParseIntBTie
import Derived.Lib.Strings
import Derived.Test.YtfacdhkadnmnlaaDoorPXAppLay
import Derived.Test.YtfacdhkadnmnlaaDoorPXShow
namespace Go.Proofs.YtfacdhkadnmnlaaDoor
open Go

abbrev Pc := List UInt8
def numOk (l : Pc) : Option Int := match Lib.parseIntB 64 l with | .ok v => if Lib.itoa v = l then some v else none | _ => none
def regOk (l : Pc) : Option Int := match l with | [] => none | c :: r => if c = 114 then numOk r else none
structure RS where
 rest : List Pc
 bad : Bool
def RS.word (s : RS) : Pc := s.rest.headD []
def RS.take (f : Pc → Option Int) (s : RS) : Int × RS := ((f s.word).getD 0, ⟨s.rest.tail, s.bad || (f s.word).isNone⟩)
def RS.opt (is : Bool) (f : Pc → Option Int) (s : RS) (n : Int) : Int × RS := if is = true then s.take f else (n, s)
def RS.right (s : RS) : Bool := !s.bad && s.rest.isEmpty
def insR1 (op : Int) (s : RS) : Int × RS := s.opt (setsB op) regOk 0
def insR2 (op : Int) (s : RS) : Int × RS := (insR1 op s).2.opt (decide (op = 17 ∨ op = 1)) numOk 0
def insR3 (op : Int) (s : RS) : Int × RS := (insR2 op s).2.opt (readsAB op) regOk 0
def insR4 (op : Int) (s : RS) : Int × RS := (insR3 op s).2.opt (readsBB op) regOk 0
def insR5 (op : Int) (s : RS) : Int × RS := (insR4 op s).2.opt (decide (op = 15 ∨ op = 16)) numOk (insR2 op s).1
def insR (op : Int) (s : RS) : Ins × RS := (⟨op, (insR1 op s).1, (insR3 op s).1, (insR4 op s).1, (insR5 op s).1⟩, (insR5 op s).2)
def funcW : Pc := [102, 117, 110, 99]
def opIx (w : Pc) : Nat := if wordL.idxOf w < 20 then wordL.idxOf w else 0
def addLast (P : List Fn) (x : Ins) : List Fn := match P.getLast? with | none => [] | some f => P.dropLast ++ [⟨f.params, f.regs, f.code ++ [x]⟩]
def addIns (P : List Fn) (op : Int) (s : RS) : Option (List Fn) := if op = 0 then none else if P.isEmpty = true then none else if (insR op s).2.right = true then some (addLast P (insR op s).1) else none
def addFn (P : List Fn) (s : RS) : Option (List Fn) := if ((s.take numOk).2.take numOk).2.right = true ∧ 0 ≤ (s.take numOk).1 ∧ 0 ≤ ((s.take numOk).2.take numOk).1 then some (P ++ [⟨(s.take numOk).1, ((s.take numOk).2.take numOk).1, []⟩]) else none
def addWords (P : List Fn) (ws : List Pc) : Option (List Fn) := if ws.headD [] = funcW then addFn P ⟨ws.tail, false⟩ else addIns P (opIx (ws.headD [])) ⟨ws.tail, false⟩
def addLine (P : List Fn) (l : Pc) : Option (List Fn) := if Lib.hasSuffix l [10] = true then addWords P (wordsB (l.take (l.length - 1))) else none
def linesB : List UInt8 → List Pc
 | [] => []
 | c :: r => if c = 10 then [10] :: linesB r else (c :: (linesB r).headD []) :: (linesB r).tail
def lineEnd (s : Pc) : Nat := if Lib.indexByte s 10 = -1 then s.length else (Lib.indexByte s 10).toNat + 1
def readOn : List Fn → List Pc → Option (List Fn)
 | P, [] => some P
 | P, l :: r => match addLine P l with | none => none | some Q => readOn Q r
def readAt : List Fn → List Pc → Nat
 | _, [] => 0
 | P, l :: r => match addLine P l with | none => 0 | some Q => readAt Q r + 1
theorem lineEnd_cons (c : UInt8) (r : Pc) : lineEnd (c :: r) = if c = 10 then 1 else lineEnd r + 1 := by
 unfold lineEnd
 have hge := Lib.indexByte_ge r 10
 by_cases h : c = 10
 ·subst h; simp [Lib.indexByte]
 ·rw [if_neg h]
  have hb : (c == 10) = false := by simpa using h
  have he : Lib.indexByte (c :: r) 10 = if Lib.indexByte r 10 == -1 then -1 else Lib.indexByte r 10 + 1 := by rw [Lib.indexByte, hb]; rfl
  rw [he]
  generalize Lib.indexByte r 10 = z at hge
  by_cases h2 : z = -1
  ·simp [h2]
  ·have hb2 : (z == -1) = false := by simpa using h2
   simp only [hb2, Bool.false_eq_true, if_false]
   rw [if_neg (by omega), if_neg h2]
   omega
theorem lineEnd_pos (c : UInt8) (r : Pc) : 1 ≤ lineEnd (c :: r) := by rw [lineEnd_cons]; split <;> omega
theorem lineEnd_le (s : Pc) : lineEnd s ≤ s.length := by
 induction s with
 | nil => simp [lineEnd, Lib.indexByte]
 | cons c r ih => rw [lineEnd_cons]; split <;> simp; omega
theorem linesB_eq (s : Pc) (h : s ≠ []) : linesB s = s.take (lineEnd s) :: linesB (s.drop (lineEnd s)) := by
 induction s with
 | nil => exact absurd rfl h
 | cons c r ih =>
  rw [lineEnd_cons, linesB]
  by_cases hc : c = 10
  ·subst hc; simp
  ·rw [if_neg hc, if_neg hc]
   cases r with
   | nil => simp [linesB, lineEnd, Lib.indexByte]
   | cons d q => rw [ih (by simp)]; simp
theorem linesB_flat (s : Pc) : (linesB s).flatten = s := by
 induction s with
 | nil => rfl
 | cons c r ih =>
  rw [linesB]
  split
  ·rename_i h; subst h; rw [List.flatten_cons, ih]; rfl
  ·cases hl : linesB r with
   | nil => rw [hl] at ih; simp at ih; subst ih; simp
   | cons a b => rw [hl] at ih; simp at ih ⊢; exact ih
theorem readOn_snoc (P : List Fn) (a : List Pc) (l : Pc) : readOn P (a ++ [l]) = (readOn P a).bind fun Q => addLine Q l := by
 induction a generalizing P with
 | nil => simp only [List.nil_append, readOn]; cases h : addLine P l <;> simp [h]
 | cons x r ih =>
  rw [List.cons_append, readOn, readOn]
  cases h : addLine P x with
  | none => rfl
  | some Q => exact ih Q
theorem readOn_fail (P Q : List Fn) (a : List Pc) (l : Pc) (r : List Pc) (h : readOn P a = some Q) (hl : addLine Q l = none) : readOn P (a ++ l :: r) = none ∧ readAt P (a ++ l :: r) = a.length := by
 induction a generalizing P with
 | nil => simp only [readOn] at h; injection h with h; subst h; simp [readOn, readAt, hl]
 | cons x t ih =>
  rw [readOn] at h
  rw [List.cons_append, readOn, readAt]
  cases hx : addLine P x with
  | none => rw [hx] at h; exact absurd h (by simp)
  | some S => rw [hx] at h; exact ⟨(ih S h).1, by rw [List.length_cons]; show readAt S (t ++ l :: r) + 1 = _; rw [(ih S h).2]⟩
/-! What is read is shown as it was. -/
def blanks (ps : List Pc) : Pc := ps.flatMap (32 :: ·)
theorem words_join (t : Pc) : t = (wordsB t).headD [] ++ blanks (wordsB t).tail := by
 induction t with
 | nil => rfl
 | cons c r ih =>
  rw [wordsB]
  split
  ·rename_i h
   subst h
   have hne := wordsB_ne r
   cases hw : wordsB r with
   | nil => exact absurd hw hne
   | cons a b => rw [hw] at ih; simp [blanks] at ih ⊢; exact ih
  ·simp only [List.headD_cons, List.tail_cons, List.cons_append]
   rw [← ih]
theorem numOk_nil : numOk [] = none := rfl
theorem numOk_eq {l : Pc} {v : Int} (h : numOk l = some v) : Lib.itoa v = l ∧ I64 v := by
 unfold numOk at h
 cases hp : Lib.parseIntB 64 l with
 | «syntax» => rw [hp] at h; exact absurd h (by simp)
 | range => rw [hp] at h; exact absurd h (by simp)
 | ok u =>
  rw [hp] at h
  dsimp only at h
  split at h
  ·rename_i he
   injection h with h
   subst h
   have hb := Lib.parseIntB_bounds hp
   have e : (2 : Nat) ^ (64 - 1) = 9223372036854775808 := by decide
   rw [e] at hb
   exact ⟨he, by have := hb.1; omega, by have := hb.2; omega⟩
  ·exact absurd h (by simp)
theorem regOk_eq {l : Pc} {v : Int} (h : regOk l = some v) : 114 :: Lib.itoa v = l ∧ I64 v := by
 unfold regOk at h
 cases l with
 | nil => exact absurd h (by simp)
 | cons c r =>
  dsimp only at h
  split at h
  ·rename_i hc; subst hc; obtain ⟨h1, h2⟩ := numOk_eq h; exact ⟨by rw [h1], h2⟩
  ·exact absurd h (by simp)
theorem take_num {s : RS} (h : (s.take numOk).2.bad = false) : s.bad = false ∧ blanks s.rest = [32] ++ Lib.itoa (s.take numOk).1 ++ blanks (s.take numOk).2.rest ∧ I64 (s.take numOk).1 ∧ s.rest = Lib.itoa (s.take numOk).1 :: (s.take numOk).2.rest := by
 unfold RS.take at h ⊢
 dsimp only at h ⊢
 simp only [Bool.or_eq_false_iff] at h
 obtain ⟨hb, hn⟩ := h
 cases hv : numOk s.word with
 | none => rw [hv] at hn; simp at hn
 | some v =>
  obtain ⟨e1, e2⟩ := numOk_eq hv
  unfold RS.word at hv e1
  cases hr : s.rest with
  | nil => rw [hr] at hv; exact absurd (numOk_nil.symm.trans hv) (by simp)
  | cons p q => rw [hr] at e1; simp at e1; subst e1; exact ⟨hb, by simp [blanks], e2, by simp⟩
theorem take_reg {s : RS} (h : (s.take regOk).2.bad = false) : s.bad = false ∧ blanks s.rest = [32, 114] ++ Lib.itoa (s.take regOk).1 ++ blanks (s.take regOk).2.rest ∧ I64 (s.take regOk).1 := by
 unfold RS.take at h ⊢
 dsimp only at h ⊢
 simp only [Bool.or_eq_false_iff] at h
 obtain ⟨hb, hn⟩ := h
 cases hv : regOk s.word with
 | none => rw [hv] at hn; simp at hn
 | some v =>
  obtain ⟨e1, e2⟩ := regOk_eq hv
  unfold RS.word at hv e1
  cases hr : s.rest with
  | nil => rw [hr] at hv; simp [regOk] at hv
  | cons p q => rw [hr] at e1; simp at e1; subst e1; exact ⟨hb, by simp [blanks], e2⟩
theorem opt_num {s : RS} {is : Bool} {n : Int} (hn : I64 n) (h : (s.opt is numOk n).2.bad = false) : s.bad = false ∧ blanks s.rest = numPart is (s.opt is numOk n).1 ++ blanks (s.opt is numOk n).2.rest ∧ I64 (s.opt is numOk n).1 := by
 cases is with
 | false => exact ⟨h, by simp [RS.opt, numPart], hn⟩
 | true => obtain ⟨a, b, c, _⟩ := take_num (s := s) (by simpa [RS.opt] using h); exact ⟨a, by simpa [RS.opt, numPart] using b, by simpa [RS.opt] using c⟩
theorem opt_reg {s : RS} {is : Bool} {n : Int} (hn : I64 n) (h : (s.opt is regOk n).2.bad = false) : s.bad = false ∧ blanks s.rest = regPart is (s.opt is regOk n).1 ++ blanks (s.opt is regOk n).2.rest ∧ I64 (s.opt is regOk n).1 := by
 cases is with
 | false => exact ⟨h, by simp [RS.opt, regPart], hn⟩
 | true => obtain ⟨a, b, c⟩ := take_reg (s := s) (by simpa [RS.opt] using h); exact ⟨a, by simpa [RS.opt, regPart] using b, by simpa [RS.opt] using c⟩
theorem i64_zero : I64 0 := ⟨by decide, by decide⟩
theorem insR_shown {op : Int} {s : RS} (h : (insR op s).2.bad = false) : s.bad = false ∧ wordL.getD op.toNat [] ++ blanks s.rest = lineOf (insR op s).1 ++ blanks (insR op s).2.rest ∧ (I64 op → (insR op s).1.wf) := by
 have h5 : (insR5 op s).2.bad = false := h
 have hi0 : I64 (insR2 op s).1 := by
  unfold insR2 RS.opt RS.take
  split
  ·dsimp only
   cases hv : numOk (insR1 op s).2.word with
   | none => exact i64_zero
   | some v => exact (numOk_eq hv).2
  ·exact i64_zero
 obtain ⟨h4, e5, i5⟩ := opt_num hi0 h5
 obtain ⟨h3, e4, i4⟩ := opt_reg i64_zero h4
 obtain ⟨h2, e3, i3⟩ := opt_reg i64_zero h3
 obtain ⟨h1, e2, i2⟩ := opt_num i64_zero h2
 obtain ⟨h0, e1, i1⟩ := opt_reg i64_zero h1
 refine ⟨h0, ?_, fun ho => ⟨ho, i1, i3, i4, i5⟩⟩
 have hm : numPart (decide (op = 17 ∨ op = 1)) (insR2 op s).1 = numPart (decide (op = 17 ∨ op = 1)) (insR5 op s).1 := by
  by_cases ho : op = 17 ∨ op = 1
  ·have : (insR5 op s).1 = (insR2 op s).1 := by
    unfold insR5 RS.opt
    rw [if_neg]
    rcases ho with rfl | rfl <;> decide
   rw [this]
  ·simp [ho, numPart]
 show _ = lineOf ⟨op, (insR1 op s).1, (insR3 op s).1, (insR4 op s).1, (insR5 op s).1⟩ ++ blanks (insR5 op s).2.rest
 unfold lineOf line4 line3 line2 line1
 dsimp only
 rw [← hm]
 have c1 : blanks s.rest = regPart (setsB op) (insR1 op s).1 ++ blanks (insR1 op s).2.rest := e1
 have c2 : blanks (insR1 op s).2.rest = numPart (decide (op = 17 ∨ op = 1)) (insR2 op s).1 ++ blanks (insR2 op s).2.rest := e2
 have c3 : blanks (insR2 op s).2.rest = regPart (readsAB op) (insR3 op s).1 ++ blanks (insR3 op s).2.rest := e3
 have c4 : blanks (insR3 op s).2.rest = regPart (readsBB op) (insR4 op s).1 ++ blanks (insR4 op s).2.rest := e4
 have c5 : blanks (insR4 op s).2.rest = numPart (decide (op = 15 ∨ op = 16)) (insR5 op s).1 ++ blanks (insR5 op s).2.rest := e5
 rw [c1, c2, c3, c4, c5]
 simp only [List.append_assoc]
theorem opIx_eq {w : Pc} (h : opIx w ≠ 0) : wordL.getD (opIx w) [] = w ∧ 1 ≤ opIx w ∧ opIx w < 20 := by
 unfold opIx at h ⊢
 split at h
 ·rename_i hl
  rw [if_pos hl]
  refine ⟨?_, by omega, hl⟩
  have hl' : wordL.idxOf w < wordL.length := hl
  have : wordL[wordL.idxOf w]? = some w := by
   rw [List.getElem?_eq_getElem hl']
   exact congrArg some (List.getElem_idxOf hl')
  simp [List.getD, this]
 ·exact absurd rfl h
theorem right_eq {s : RS} (h : s.right = true) : s.bad = false ∧ s.rest = [] := by
 unfold RS.right at h
 simp at h
 exact ⟨h.1, h.2⟩
theorem suffix_line {l : Pc} (h : Lib.hasSuffix l [10] = true) : l = l.take (l.length - 1) ++ [10] := by
 unfold Lib.hasSuffix at h
 obtain ⟨t, rfl⟩ := List.isSuffixOf_iff_suffix.1 h
 simp
theorem showOf_append (P Q : List Fn) : showOf (P ++ Q) = showOf P ++ showOf Q := by simp [showOf]
theorem last_cases {P : List Fn} (h : P.isEmpty = false) : ∃ Q f, P = Q ++ [f] := by
 have hne : P ≠ [] := by intro e; subst e; simp at h
 exact ⟨P.dropLast, P.getLast hne, (List.dropLast_concat_getLast hne).symm⟩
theorem addLast_eq (Q : List Fn) (f : Fn) (x : Ins) : addLast (Q ++ [f]) x = Q ++ [⟨f.params, f.regs, f.code ++ [x]⟩] := by simp [addLast]
theorem addWords_cons (P : List Fn) (w : Pc) (r : List Pc) : addWords P (w :: r) = if w = funcW then addFn P ⟨r, false⟩ else addIns P (opIx w) ⟨r, false⟩ := rfl
theorem addLine_shown {P Q : List Fn} {l : Pc} (h : addLine P l = some Q) : showOf Q = showOf P ++ l ∧ ((∀ f ∈ P, f.wf) → ∀ f ∈ Q, f.wf) := by
 unfold addLine at h
 split at h
 ·rename_i hs
  have hl := suffix_line hs
  generalize l.take (l.length - 1) = t at h hl
  subst hl
  have hw := words_join t
  have hne := wordsB_ne t
  cases hws : wordsB t with
  | nil => exact absurd hws hne
  | cons w r =>
  rw [hws] at h hw
  rw [addWords_cons] at h
  simp only [List.headD_cons, List.tail_cons] at hw
  by_cases hf : w = funcW
  ·rw [if_pos hf] at h
   unfold addFn at h
   split at h
   ·rename_i hc
    obtain ⟨hr, h0, h1⟩ := hc
    injection h with h
    subst h
    obtain ⟨hb, he⟩ := right_eq hr
    obtain ⟨k1, k2, k3, _⟩ := take_num hb
    obtain ⟨j1, j2, j3, _⟩ := take_num k1
    refine ⟨?_, fun hP f hm => ?_⟩
    ·rw [showOf_append, hw, hf]
     have j2' : blanks r = [32] ++ Lib.itoa ((⟨r, false⟩ : RS).take numOk).1 ++ blanks ((⟨r, false⟩ : RS).take numOk).2.rest := j2
     rw [j2', k2, he]
     simp [showOf, fnLines, fnLine, funcW, blanks]
    ·rcases List.mem_append.1 hm with h | h
     ·exact hP f h
     ·simp at h; subst h; exact ⟨j3, k3, by simp⟩
   ·exact absurd h (by simp)
  ·rw [if_neg hf] at h
   unfold addIns at h
   split at h
   ·exact absurd h (by simp)
   ·rename_i h0
    split at h
    ·exact absurd h (by simp)
    ·rename_i hE
     split at h
     ·rename_i hr
      injection h with h
      subst h
      obtain ⟨hb, he⟩ := right_eq hr
      obtain ⟨_, e1, e2⟩ := insR_shown hb
      obtain ⟨o1, o2, o3⟩ := opIx_eq (w := w) (fun e => h0 (by rw [e]; rfl))
      obtain ⟨P0, f, rfl⟩ := last_cases (by simpa using hE)
      rw [addLast_eq]
      rw [he] at e1
      generalize (insR (↑(opIx w)) { rest := r, bad := false }).1 = x at e1 e2 ⊢
      refine ⟨?_, fun hP g hm => ?_⟩
      ·rw [showOf_append, showOf_append]
       have e1' : w ++ blanks r = lineOf x := by
        have : wordL.getD ((opIx w : Int)).toNat [] ++ blanks r = lineOf x ++ blanks [] := e1
        rw [Int.toNat_natCast, o1] at this
        simpa [blanks] using this
       rw [hw, e1']
       simp [showOf, fnLines, fnLine, insLine]
      ·rcases List.mem_append.1 hm with h | h
       ·exact hP g (List.mem_append.2 (.inl h))
       ·simp at h
        subst h
        obtain ⟨a, b, c⟩ := hP f (by simp)
        refine ⟨a, b, fun y hy => ?_⟩
        rcases List.mem_append.1 hy with h | h
        ·exact c y h
        ·simp at h; subst h; exact e2 ⟨by omega, by omega⟩
     ·exact absurd h (by simp)
 ·exact absurd h (by simp)
theorem readOn_shown {P Q : List Fn} {ls : List Pc} (h : readOn P ls = some Q) : showOf Q = showOf P ++ ls.flatten ∧ ((∀ f ∈ P, f.wf) → ∀ f ∈ Q, f.wf) := by
 induction ls generalizing P with
 | nil => simp only [readOn] at h; injection h with h; subst h; exact ⟨by simp, fun h => h⟩
 | cons l r ih =>
  rw [readOn] at h
  cases hx : addLine P l with
  | none => rw [hx] at h; exact absurd h (by simp)
  | some S =>
   rw [hx] at h
   obtain ⟨a, b⟩ := addLine_shown hx
   obtain ⟨c, d⟩ := ih h
   exact ⟨by rw [c, a]; simp, fun hP => d (b hP)⟩
theorem read_shown {s : Pc} {Q : List Fn} (h : readOn [] (linesB s) = some Q) : showOf Q = s ∧ ∀ f ∈ Q, f.wf := by
 obtain ⟨a, b⟩ := readOn_shown h
 exact ⟨by rw [a, linesB_flat]; rfl, b (by simp)⟩
end Go.Proofs.YtfacdhkadnmnlaaDoor
