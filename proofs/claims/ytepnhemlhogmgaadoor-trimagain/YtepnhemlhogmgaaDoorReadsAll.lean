/- Contracts of proof.checkFunction and proof.Reads. -/
import Derived.Test.YtepnhemlhogmgaaDoorReads
import Derived.Test.YtepnhemlhogmgaaDoorZero
import Derived.Test.YtepnhemlhogmgaaDoorRefProg
import Derived.Test.YtepnhemlhogmgaaDoorLater
import Derived.OwnWalk
namespace Go.Proofs.YtepnhemlhogmgaaDoor
open Go Go.RowKit

/-- What a well shaped program's instructions are. -/
theorem insOk_of {P : List Fn} (h : codeProg P = 0) {f : Fn} (hf : f ∈ P) {x : Ins} (hx : x ∈ f.code) : InsOk P x := by
  obtain ⟨h1, h4, hall⟩ := codeProg_zero h
  obtain ⟨r1, r2, _, _, _, _, l2, hi⟩ := codeFunc_zero (hall f hf)
  have hz := hi x hx
  rw [instr_same] at hz
  unfold refInstr at hz
  by_cases k1 : inB x.op 1 19 = false
  · rw [if_pos k1] at hz; cases hz
  rw [if_neg k1] at hz
  by_cases k2 : refOk1 x f.regs = false
  · rw [if_pos k2] at hz; cases hz
  rw [if_neg k2] at hz
  by_cases k3 : refOk2 x f.code.length P.length = false
  · rw [if_pos k3] at hz; cases hz
  replace k1 : inB x.op 1 19 = true := by simpa using k1
  replace k2 : refOk1 x f.regs = true := by simpa using k2
  replace k3 : refOk2 x f.code.length P.length = true := by simpa using k3
  obtain ⟨o1, o2⟩ : 1 ≤ x.op ∧ x.op ≤ 19 := by simpa [inB] using k1
  have may : ∀ (n : Int) (is : Bool), regMayB n is f.regs = true → 0 ≤ n ∧ n < 12 := by
    intro n is h
    cases is
    · have : n = 0 := by simpa [regMayB] using h
      omega
    · have : 0 ≤ n ∧ n ≤ f.regs - 1 := by simpa [regMayB, inB] using h
      omega
  simp only [refOk1, Bool.and_eq_true] at k2
  obtain ⟨⟨m1, m2⟩, m3⟩ := k2
  refine ⟨o1, o2, (may _ _ m1).1, (may _ _ m1).2, (may _ _ m2).1, (may _ _ m2).2, (may _ _ m3).1, (may _ _ m3).2, fun h17 => ?_⟩
  have : 0 ≤ x.imm ∧ x.imm ≤ (P.length : Int) - 1 := by simpa [refOk2, h17, inB] using k3
  have hk : x.imm.toNat < P.length := by omega
  obtain ⟨_, _, p0, p1, _⟩ := codeFunc_zero (hall P[x.imm.toNat] (List.getElem_mem hk))
  have e : paramsAt P x.imm = P[x.imm.toNat].params := by simp [paramsAt, List.getD, hk]
  rw [e]
  exact ⟨this.1, by omega, p0, p1⟩

/-- Is there such a function in a program that may be? -/
def fnErr (P : List Fn) (fn : Int) : Int := if codeProg P = 0 then (if 0 ≤ fn ∧ fn < P.length then 0 else 2) else codeProg P

set_option maxRecDepth 100000 in
theorem checkFunction_any (P : List Fn) (v : Value) (fn : Int) (w : World) (ht : TabOk w) (hv : ProgVal w v P) :
    Calls Tryd.prog 37 #[.agg #[v], .int .i64 fn] w fun e w' => e = .returned (.int .i64 (fnErr P fn)) ∧ Below w.heap.size w w' := by
  have hbx : ∀ o, Below w.heap.size w (w.alloc o) := fun o => (Below.refl _ _).alloc (Nat.le_refl _) _
  have hC := fun o => check_any P v (w.alloc o) (ht.below (hbx o)) (hv.keeps (keeps_below (hbx o)))
  obtain ⟨ao, b, off, n, cap, rfl, hin, hcap, hmax⟩ := hv
  obtain ⟨hlen, _, _⟩ := hin
  unfold maxLen at hmax
  unfold fnErr
  rw [hlen]
  clear ht hbx hlen
  by_cases h0 : codeProg P = 0
  · rw [if_pos h0]
    rw [h0] at hC
    clear h0
    by_cases h1 : 0 ≤ fn
    · by_cases h2 : fn < n
      · rw [if_pos ⟨h1, h2⟩]
        go_enter Tryd.func37, Tryd.ntmps37
        go_wp2_with (go_at_call 35; refine (hC _).mono ?_; rintro e w1 ⟨rfl, hb1⟩; have k0 := keeps_below hb1 ⟨w.heap.size, 0, none⟩ (.slice ao n cap) (by simp))
        go_ret
        exact ⟨rfl, ((Below.refl _ _).alloc (Nat.le_refl _) _).trans (hb1.mono (by simp))⟩
      · rw [if_neg (by omega)]
        go_enter Tryd.func37, Tryd.ntmps37
        go_wp2_with (go_at_call 35; refine (hC _).mono ?_; rintro e w1 ⟨rfl, hb1⟩; have k0 := keeps_below hb1 ⟨w.heap.size, 0, none⟩ (.slice ao n cap) (by simp))
        go_ret
        exact ⟨rfl, ((Below.refl _ _).alloc (Nat.le_refl _) _).trans (hb1.mono (by simp))⟩
    · rw [if_neg (by omega)]
      go_enter Tryd.func37, Tryd.ntmps37
      go_wp2_with (go_at_call 35; refine (hC _).mono ?_; rintro e w1 ⟨rfl, hb1⟩; have k0 := keeps_below hb1 ⟨w.heap.size, 0, none⟩ (.slice ao n cap) (by simp))
      go_ret
      exact ⟨rfl, ((Below.refl _ _).alloc (Nat.le_refl _) _).trans (hb1.mono (by simp))⟩
  · rw [if_neg h0]
    have h0' : (codeProg P != 0) = true := by simpa using h0
    clear h0
    go_enter Tryd.func37, Tryd.ntmps37
    go_wp2_with (go_at_call 35; refine (hC _).mono ?_; rintro e w1 ⟨rfl, hb1⟩; have k0 := keeps_below hb1 ⟨w.heap.size, 0, none⟩ (.slice ao n cap) (by simp))
    go_ret
    exact ⟨rfl, ((Below.refl _ _).alloc (Nat.le_refl _) _).trans (hb1.mono (by simp))⟩

def codeAt (P : List Fn) (fn : Nat) : List Ins := (P.getD fn ⟨0, 0, []⟩).code
def insAtP (P : List Fn) (fn pc : Nat) : Ins := (codeAt P fn).getD pc ⟨0, 0, 0, 0, 0⟩

theorem fnErr_zero {P : List Fn} {fn : Int} (h : fnErr P fn = 0) : codeProg P = 0 ∧ 0 ≤ fn ∧ fn < P.length := by
  unfold fnErr at h
  by_cases h0 : codeProg P = 0
  · rw [if_pos h0] at h
    by_cases h1 : 0 ≤ fn ∧ fn < P.length
    · exact ⟨h0, h1⟩
    · rw [if_neg h1] at h; cases h
  · rw [if_neg h0] at h; exact absurd h h0

end Go.Proofs.YtepnhemlhogmgaaDoor
