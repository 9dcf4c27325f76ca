/- A program's text (P2.2) as bytes, and how long it can be. -/
import Derived.Test.YtedicikcmpehnaaDoorLine
import Derived.Test.YtedicikcmpehnaaDoorZero
import Derived.Test.YtedicikcmpehnaaDoorOpen
namespace Go.Proofs.YtedicikcmpehnaaDoor
open Go Go.RowKit

def fnLine (f : Fn) : List UInt8 := [102, 117, 110, 99, 32] ++ (Lib.itoa f.params ++ ([32] ++ (Lib.itoa f.regs ++ [10])))
def insLine (x : Ins) : List UInt8 := lineOf x ++ [10]
def fnLines (f : Fn) : List UInt8 := fnLine f ++ f.code.flatMap insLine
def showPart (p : List Fn) (k : Nat) : List UInt8 := (p.take k).flatMap fnLines
def showOf (p : List Fn) : List UInt8 := p.flatMap fnLines

theorem showPart_succ (p : List Fn) (k : Nat) (h : k < p.length) : showPart p (k + 1) = showPart p k ++ fnLines p[k] := by
  unfold showPart
  rw [List.take_succ_eq_append_getElem h, List.flatMap_append]
  simp
theorem linePart_succ (xs : List Ins) (k : Nat) (h : k < xs.length) : (xs.take (k + 1)).flatMap insLine = (xs.take k).flatMap insLine ++ insLine xs[k] := by
  rw [List.take_succ_eq_append_getElem h, List.flatMap_append]
  simp
theorem word_len (m : Nat) : (wordL.getD m []).length ≤ 5 := by
  by_cases h : m < 20
  · have hall : ∀ k, k < 20 → (wordL.getD k []).length ≤ 5 := by decide
    exact hall m h
  · have : wordL.getD m [] = [] := List.getElem?_eq_none (l := wordL) (i := m) (by show 20 ≤ m; omega) |> fun e => by simp [List.getD, e]
    rw [this]; simp
theorem lineOf_len (x : Ins) (h : x.wf) : (lineOf x).length ≤ 120 := by
  obtain ⟨_, h1, h2, h3, h4⟩ := h
  have a0 := word_len x.op.toNat
  have a1 := regPart_len (setsB x.op) x.dst h1.1 h1.2
  have a2 := numPart_len (decide (x.op = 17 ∨ x.op = 1)) x.imm h4.1 h4.2
  have a3 := regPart_len (readsAB x.op) x.a h2.1 h2.2
  have a4 := regPart_len (readsBB x.op) x.b h3.1 h3.2
  have a5 := numPart_len (decide (x.op = 15 ∨ x.op = 16)) x.imm h4.1 h4.2
  unfold lineOf line4 line3 line2 line1
  simp only [List.length_append]
  omega
theorem insLines_len (xs : List Ins) (h : ∀ x ∈ xs, x.wf) : (xs.flatMap insLine).length ≤ xs.length * 121 := by
  induction xs with
  | nil => simp
  | cons x r ih =>
    have := lineOf_len x (h x (by simp))
    have := ih fun y hy => h y (by simp [hy])
    rw [List.flatMap_cons, List.length_append, insLine, List.length_append]
    simp only [List.length_cons, List.length_nil]
    omega
theorem fnLine_len (f : Fn) (h : f.wf) : (fnLine f).length ≤ 49 := by
  have := Lib.itoa_length_le f.params h.1.1 h.1.2
  have := Lib.itoa_length_le f.regs h.2.1.1 h.2.1.2
  unfold fnLine
  simp only [List.length_append, List.length_cons, List.length_nil]
  omega
theorem fnLines_len (f : Fn) (h : f.wf) (hl : f.code.length ≤ 40) : (fnLines f).length ≤ 5000 := by
  have := fnLine_len f h
  have := insLines_len f.code h.2.2
  rw [fnLines, List.length_append]
  omega
theorem showPart_len (p : List Fn) (k : Nat) (h : ∀ f ∈ p, f.wf) (hl : ∀ f ∈ p, f.code.length ≤ 40) : (showPart p k).length ≤ p.length * 5000 := by
  have all : ∀ q : List Fn, (∀ f ∈ q, f ∈ p) → (q.flatMap fnLines).length ≤ q.length * 5000 := by
    intro q
    induction q with
    | nil => simp
    | cons f r ih =>
      intro hq
      have := fnLines_len f (h f (hq f (by simp))) (hl f (hq f (by simp)))
      have := ih fun g hg => hq g (by simp [hg])
      rw [List.flatMap_cons, List.length_append, List.length_cons]
      omega
  have := all (p.take k) fun f hf => List.mem_of_mem_take hf
  have hk : (p.take k).length ≤ p.length := by rw [List.length_take]; exact Nat.min_le_right _ _
  exact Nat.le_trans this (Nat.mul_le_mul_right _ hk)
theorem op_of_zero {x : Ins} {regs places funcs : Int} (h : codeInstr x regs places funcs = 0) : 1 ≤ x.op ∧ x.op < 20 := by
  unfold codeInstr at h
  split at h
  · omega
  rename_i h0
  by_cases c : 0 ≤ x.op ∧ x.op < 20
  · refine ⟨?_, c.2⟩
    by_cases z : x.op = 0
    · rw [z] at h0
      exact absurd (by decide) h0
    · omega
  · simp [hasOf, c] at h0

end Go.Proofs.YtedicikcmpehnaaDoor
