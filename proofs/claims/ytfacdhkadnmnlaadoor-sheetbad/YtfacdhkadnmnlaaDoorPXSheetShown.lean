import Derived.Test.YtfacdhkadnmnlaaDoorPXShow
namespace Go.Proofs.YtfacdhkadnmnlaaDoor
open Go

/-! What is shown is read as it was. -/
def noB (l : Pc) : Prop := ∀ c ∈ l, c ≠ 32 ∧ c ≠ 10
theorem noB_digits (u : Nat) : ∀ c ∈ Lib.decDigits u, 45 ≤ c.toNat := by
 induction u using Nat.strongRecOn with
 | _ u ih =>
  by_cases h10 : u < 10
  ·rw [Lib.decDigits, dif_pos h10]
   intro c hc
   rw [List.mem_singleton] at hc
   subst hc
   rw [UInt8.toNat_ofNat_of_lt' (by show _ < 256; omega)]
   omega
  ·rw [Lib.decDigits, dif_neg h10]
   intro c hc
   rcases List.mem_append.1 hc with h | h
   ·exact ih (u / 10) (by omega) c h
   ·rw [List.mem_singleton] at h
    subst h
    rw [UInt8.toNat_ofNat_of_lt' (by show _ < 256; omega)]
    omega
theorem noB_itoa (n : Int) : noB (Lib.itoa n) := by
 have key : ∀ c ∈ Lib.itoa n, 45 ≤ c.toNat := by
  unfold Lib.itoa
  split
  ·intro c hc
   rcases List.mem_cons.1 hc with rfl | h
   ·decide
   ·exact noB_digits _ c h
  ·exact noB_digits _
 intro c hc
 have := key c hc
 constructor <;> (rintro rfl; revert this; decide)
theorem noB_word (k : Nat) : noB (wordL.getD k []) := by
 by_cases hk : k < 20
 ·have hall : ∀ j, j < 20 → ∀ c ∈ wordL.getD j [], c ≠ 32 ∧ c ≠ 10 := by decide
  exact hall k hk
 ·have : wordL.getD k [] = [] := by
   have : wordL[k]? = none := List.getElem?_eq_none (by show 20 ≤ k; omega)
   simp [List.getD, this]
  rw [this]; intro c hc; simp at hc
theorem words_back (w : Pc) (ps : List Pc) (hw : noB w) (hp : ∀ p ∈ ps, noB p) : wordsB (w ++ blanks ps) = w :: ps := by
 induction ps generalizing w with
 | nil => simp [blanks]; exact wordsB_none _ fun c hc => (hw c hc).1
 | cons p r ih =>
  have e : w ++ blanks (p :: r) = w ++ 32 :: (p ++ blanks r) := by simp [blanks]
  rw [e, wordsB_some _ _ fun c hc => (hw c hc).1, ih p (hp p (by simp)) fun q hq => hp q (by simp [hq])]
theorem numOk_itoa {n : Int} (h : I64 n) : numOk (Lib.itoa n) = some n := by
 unfold numOk
 rw [parse_itoa n h.1 h.2]
 simp
theorem regOk_itoa {n : Int} (h : I64 n) : regOk (114 :: Lib.itoa n) = some n := by
 unfold regOk
 simp [numOk_itoa h]
def regPs (is : Bool) (n : Int) : List Pc := if is = true then [114 :: Lib.itoa n] else []
def numPs (is : Bool) (n : Int) : List Pc := if is = true then [Lib.itoa n] else []
theorem blanks_append (a b : List Pc) : blanks (a ++ b) = blanks a ++ blanks b := by simp [blanks]
theorem blanks_reg (is : Bool) (n : Int) : blanks (regPs is n) = regPart is n := by cases is <;> simp [regPs, regPart, blanks]
theorem blanks_num (is : Bool) (n : Int) : blanks (numPs is n) = numPart is n := by cases is <;> simp [numPs, numPart, blanks]
theorem noB_reg (is : Bool) (n : Int) : ∀ p ∈ regPs is n, noB p := by
 intro p hp
 cases is with
 | false => simp [regPs] at hp
 | true =>
  simp [regPs] at hp
  subst hp
  intro c hc
  rcases List.mem_cons.1 hc with rfl | h
  ·decide
  ·exact noB_itoa n c h
theorem noB_num (is : Bool) (n : Int) : ∀ p ∈ numPs is n, noB p := by
 intro p hp
 cases is with
 | false => simp [numPs] at hp
 | true => simp [numPs] at hp; subst hp; exact noB_itoa n
def Ins.bare (x : Ins) : Prop := (setsB x.op = false → x.dst = 0) ∧ (readsAB x.op = false → x.a = 0) ∧ (readsBB x.op = false → x.b = 0) ∧ (¬(x.op = 17 ∨ x.op = 1) → ¬(x.op = 15 ∨ x.op = 16) → x.imm = 0)
def partsOf (x : Ins) : List Pc := regPs (setsB x.op) x.dst ++ (numPs (decide (x.op = 17 ∨ x.op = 1)) x.imm ++ (regPs (readsAB x.op) x.a ++ (regPs (readsBB x.op) x.b ++ numPs (decide (x.op = 15 ∨ x.op = 16)) x.imm)))
theorem lineOf_parts (x : Ins) : lineOf x = wordL.getD x.op.toNat [] ++ blanks (partsOf x) := by
 unfold lineOf line4 line3 line2 line1 partsOf
 simp only [blanks_append, blanks_reg, blanks_num, List.append_assoc]
theorem noB_parts (x : Ins) : ∀ p ∈ partsOf x, noB p := by
 intro p hp
 unfold partsOf at hp
 simp only [List.mem_append] at hp
 rcases hp with h | h | h | h | h
 ·exact noB_reg _ _ p h
 ·exact noB_num _ _ p h
 ·exact noB_reg _ _ p h
 ·exact noB_reg _ _ p h
 ·exact noB_num _ _ p h
theorem opt_reg_back (is : Bool) (n d : Int) (r : List Pc) (h : I64 n) (hd : is = false → n = d) : (RS.mk (regPs is n ++ r) false).opt is regOk d = (n, ⟨r, false⟩) := by
 cases is with
 | false => rw [hd rfl]; rfl
 | true => simp [RS.opt, RS.take, RS.word, regPs, regOk_itoa h]
theorem opt_num_back (is : Bool) (n d : Int) (r : List Pc) (h : I64 n) (hd : is = false → n = d) : (RS.mk (numPs is n ++ r) false).opt is numOk d = (n, ⟨r, false⟩) := by
 cases is with
 | false => rw [hd rfl]; rfl
 | true => simp [RS.opt, RS.take, RS.word, numPs, numOk_itoa h]
theorem insR_back (x : Ins) (hx : x.wf) (hb : x.bare) : insR x.op ⟨partsOf x, false⟩ = (x, ⟨[], false⟩) := by
 obtain ⟨op, dst, a, b, imm⟩ := x
 obtain ⟨_, w1, w2, w3, w4⟩ := hx
 obtain ⟨b1, b2, b3, b4⟩ := hb
 dsimp only at w1 w2 w3 w4 b1 b2 b3 b4
 have e1 : insR1 op ⟨partsOf ⟨op, dst, a, b, imm⟩, false⟩ = (dst, ⟨numPs (decide (op = 17 ∨ op = 1)) imm ++ (regPs (readsAB op) a ++ (regPs (readsBB op) b ++ numPs (decide (op = 15 ∨ op = 16)) imm)), false⟩) := opt_reg_back _ _ _ _ w1 b1
 have e2 : (insR2 op ⟨partsOf ⟨op, dst, a, b, imm⟩, false⟩) = (if op = 17 ∨ op = 1 then imm else 0, ⟨regPs (readsAB op) a ++ (regPs (readsBB op) b ++ numPs (decide (op = 15 ∨ op = 16)) imm), false⟩) := by
  unfold insR2
  rw [e1]
  by_cases h : op = 17 ∨ op = 1
  ·rw [if_pos h]; simp only [h, decide_true]; exact opt_num_back true _ _ _ w4 (fun h => by cases h)
  ·rw [if_neg h]; simp only [h, decide_false]; rfl
 have e3 : (insR3 op ⟨partsOf ⟨op, dst, a, b, imm⟩, false⟩) = (a, ⟨regPs (readsBB op) b ++ numPs (decide (op = 15 ∨ op = 16)) imm, false⟩) := by
  unfold insR3; rw [e2]; exact opt_reg_back _ _ _ _ w2 b2
 have e4 : (insR4 op ⟨partsOf ⟨op, dst, a, b, imm⟩, false⟩) = (b, ⟨numPs (decide (op = 15 ∨ op = 16)) imm, false⟩) := by
  unfold insR4; rw [e3]; exact opt_reg_back _ _ _ _ w3 b3
 have e5 : (insR5 op ⟨partsOf ⟨op, dst, a, b, imm⟩, false⟩) = (imm, ⟨[], false⟩) := by
  unfold insR5
  rw [e4, e2]
  have := opt_num_back (decide (op = 15 ∨ op = 16)) imm (if op = 17 ∨ op = 1 then imm else 0) [] w4 (fun h => by
   have h' : ¬(op = 15 ∨ op = 16) := by simpa using h
   by_cases k : op = 17 ∨ op = 1
   ·rw [if_pos k]
   ·rw [if_neg k]; exact b4 k h')
  rwa [List.append_nil] at this
 unfold insR
 dsimp only
 rw [e1, e3, e4, e5]
theorem opIx_word (k : Nat) (h1 : 1 ≤ k) (h2 : k < 20) : opIx (wordL.getD k []) = k := by
 have hall : ∀ j, j < 20 → 1 ≤ j → opIx (wordL.getD j []) = j := by decide
 exact hall k h2 h1
theorem word_func (k : Nat) : wordL.getD k [] ≠ funcW := by
 by_cases hk : k < 20
 ·have hall : ∀ j, j < 20 → wordL.getD j [] ≠ funcW := by decide
  exact hall k hk
 ·have : wordL.getD k [] = [] := by
   have : wordL[k]? = none := List.getElem?_eq_none (by show 20 ≤ k; omega)
   simp [List.getD, this]
  rw [this]; decide
theorem hasSuffix_line (t : Pc) : Lib.hasSuffix (t ++ [10]) [10] = true := by
 unfold Lib.hasSuffix
 exact List.isSuffixOf_iff_suffix.2 ⟨t, rfl⟩
theorem addLine_eq (P : List Fn) (t : Pc) : addLine P (t ++ [10]) = addWords P (wordsB t) := by
 unfold addLine
 rw [if_pos (hasSuffix_line t)]
 congr 2
 simp
theorem addLine_ins (Q : List Fn) (f : Fn) (x : Ins) (hx : x.wf) (hb : x.bare) (h1 : 1 ≤ x.op) (h2 : x.op < 20) : addLine (Q ++ [f]) (insLine x) = some (Q ++ [⟨f.params, f.regs, f.code ++ [x]⟩]) := by
 unfold insLine
 rw [addLine_eq, lineOf_parts, words_back _ _ (noB_word _) (noB_parts x), addWords_cons, if_neg (word_func _), opIx_word _ (by omega) (by omega)]
 unfold addIns
 have e : ((x.op.toNat : Nat) : Int) = x.op := by omega
 rw [e, insR_back x hx hb, if_neg (by omega), if_neg (by simp)]
 show (if (RS.mk [] false).right = true then some (addLast (Q ++ [f]) x) else none) = _
 rw [if_pos (show (RS.mk [] false).right = true from rfl), addLast_eq]
theorem addLine_fn (P : List Fn) (f : Fn) (h1 : I64 f.params) (h2 : I64 f.regs) (h3 : 0 ≤ f.params) (h4 : 0 ≤ f.regs) : addLine P (fnLine f) = some (P ++ [⟨f.params, f.regs, []⟩]) := by
 have e : fnLine f = (funcW ++ blanks [Lib.itoa f.params, Lib.itoa f.regs]) ++ [10] := by simp [fnLine, funcW, blanks]
 rw [e, addLine_eq, words_back _ _ (by intro c hc; revert c; decide) (by intro p hp; simp at hp; rcases hp with rfl | rfl <;> exact noB_itoa _), addWords_cons, if_pos rfl]
 unfold addFn
 have e1 : (RS.mk [Lib.itoa f.params, Lib.itoa f.regs] false).take numOk = (f.params, ⟨[Lib.itoa f.regs], false⟩) := by simp [RS.take, RS.word, numOk_itoa h1]
 have e2 : (RS.mk [Lib.itoa f.regs] false).take numOk = (f.regs, ⟨[], false⟩) := by simp [RS.take, RS.word, numOk_itoa h2]
 rw [e1]
 dsimp only
 rw [e2, if_pos ⟨rfl, h3, h4⟩]
def fnRows (f : Fn) : List Pc := fnLine f :: f.code.map insLine
def progRows (p : List Fn) : List Pc := p.flatMap fnRows
def Ins.told (x : Ins) : Prop := x.wf ∧ x.bare ∧ 1 ≤ x.op ∧ x.op < 20
def Fn.told (f : Fn) : Prop := I64 f.params ∧ I64 f.regs ∧ 0 ≤ f.params ∧ 0 ≤ f.regs ∧ ∀ x ∈ f.code, x.told
theorem readOn_code (Q : List Fn) (f : Fn) (xs : List Ins) (h : ∀ x ∈ xs, x.told) : readOn (Q ++ [f]) (xs.map insLine) = some (Q ++ [⟨f.params, f.regs, f.code ++ xs⟩]) := by
 induction xs generalizing f with
 | nil => simp [readOn]
 | cons x r ih =>
  obtain ⟨a, b, c, d⟩ := h x (by simp)
  rw [List.map_cons, readOn, addLine_ins Q f x a b c d]
  have := ih ⟨f.params, f.regs, f.code ++ [x]⟩ fun y hy => h y (by simp [hy])
  simpa using this
theorem readOn_fn (P : List Fn) (f : Fn) (h : f.told) : readOn P (fnRows f) = some (P ++ [f]) := by
 obtain ⟨h1, h2, h3, h4, h5⟩ := h
 rw [fnRows, readOn, addLine_fn P f h1 h2 h3 h4]
 exact readOn_code P ⟨f.params, f.regs, []⟩ f.code h5
theorem readOn_rows (P p : List Fn) (h : ∀ f ∈ p, f.told) : readOn P (progRows p) = some (P ++ p) := by
 induction p generalizing P with
 | nil => simp [progRows, readOn]
 | cons f r ih =>
  rw [progRows, List.flatMap_cons, readOn_append P (P ++ [f]) _ _ (readOn_fn P f (h f (by simp)))]
  have := ih (P ++ [f]) fun g hg => h g (by simp [hg])
  rw [progRows] at this
  rw [this]; simp
theorem noLf_of (w : Pc) (ps : List Pc) (hw : noB w) (hp : ∀ p ∈ ps, noB p) : ∀ c ∈ w ++ blanks ps, c ≠ 10 := by
 intro c hc
 rcases List.mem_append.1 hc with h | h
 ·exact (hw c h).2
 ·unfold blanks at h
  rw [List.mem_flatMap] at h
  obtain ⟨p, h1, h2⟩ := h
  rcases List.mem_cons.1 h2 with rfl | h3
  ·decide
  ·exact (hp p h1 c h3).2
theorem fn_noLf (f : Fn) : ∃ t, fnLine f = t ++ [10] ∧ ∀ c ∈ t, c ≠ 10 := ⟨funcW ++ blanks [Lib.itoa f.params, Lib.itoa f.regs], by simp [fnLine, funcW, blanks], noLf_of _ _ (by intro c hc; revert c; decide) (by intro p hp; simp at hp; rcases hp with rfl | rfl <;> exact noB_itoa _)⟩
theorem ins_noLf (x : Ins) : ∀ c ∈ lineOf x, c ≠ 10 := by rw [lineOf_parts]; exact noLf_of _ _ (noB_word _) (noB_parts x)
def IsLine (l : Pc) : Prop := ∃ t, l = t ++ [10] ∧ ∀ c ∈ t, c ≠ 10
theorem linesB_join (ls : List Pc) (r : Pc) (h : ∀ l ∈ ls, IsLine l) : linesB (ls.flatten ++ r) = ls ++ linesB r := by
 induction ls with
 | nil => simp
 | cons l q ih =>
  obtain ⟨t, rfl, ht⟩ := h l (by simp)
  rw [List.flatten_cons, List.append_assoc, linesB_line t _ ht, ih fun m hm => h m (by simp [hm])]
  rfl
theorem rows_lines (p : List Fn) : ∀ l ∈ progRows p, IsLine l := by
 intro l hl
 unfold progRows at hl
 rw [List.mem_flatMap] at hl
 obtain ⟨f, _, hf⟩ := hl
 unfold fnRows at hf
 rcases List.mem_cons.1 hf with rfl | h
 ·exact fn_noLf f
 ·rw [List.mem_map] at h
  obtain ⟨x, _, rfl⟩ := h
  exact ⟨lineOf x, rfl, ins_noLf x⟩
theorem rows_flat (p : List Fn) : (progRows p).flatten = showOf p := by
 induction p with
 | nil => rfl
 | cons f r ih =>
  unfold progRows showOf at *
  rw [List.flatMap_cons, List.flatMap_cons, List.flatten_append, ih]
  congr 1
theorem linesB_show (p : List Fn) : linesB (showOf p) = progRows p := by
 have := linesB_join (progRows p) [] (rows_lines p)
 rw [rows_flat] at this
 simpa [linesB] using this
end Go.Proofs.YtfacdhkadnmnlaaDoor
