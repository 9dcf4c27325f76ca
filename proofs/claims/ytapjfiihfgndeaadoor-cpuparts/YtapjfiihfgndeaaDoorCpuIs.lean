/- What is known of a machine that runs known words: its place, its registers, its data. No program is walked. -/
import Derived.Test.YtapjfiihfgndeaaDoorCpuKit
namespace Go.Proofs.YtapjfiihfgndeaaDoor
open Go Go.RowKit

def upd (f : Int → Int) (r v : Int) : Int → Int := fun q => if r = q ∧ ¬ r = 0 then v else f q
/-- A machine that has not stopped is at a place, with these registers and data. -/
structure Is (c : Cp) (k : Nat) (f : Int → Int) (dt : List Int) : Prop where
  ok : c.Ok
  runs : c.halted = false
  pc : c.pc = k
  reg : ∀ q, 0 ≤ q → q < 32 → c.reg q = f q
  data : c.data = dt
theorem Is.begun {c : Cp} (h : c.Ok) (hh : c.halted = false) (hp : c.pc = 0) : Is c.begun 0 (fun q => if q = 0 then 0 else c.reg q) c.data := by
  refine ⟨h.begun, hh, hp, fun q q0 q1 => ?_, rfl⟩
  rw [begun_eq, reg_set h 0 (by decide) (by decide) q0]
  by_cases e : q = 0
  · subst e; simp
  · rw [if_neg (by omega)]; simp [e]
theorem Is.put {c : Cp} {k : Nat} {f : Int → Int} {dt : List Int} (h : Is c k f dt) (r v : Int) (r0 : 0 ≤ r) (r1 : r < 32) (k' : Nat) : Is ((c.put r v).go k') k' (upd f r v) dt := by
  refine ⟨(h.ok.put _ _).go _, h.runs, rfl, fun q q0 q1 => ?_, h.data⟩
  rw [reg_go, reg_put h.ok v r0 r1 q0, h.reg q q0 q1]; rfl
theorem Is.goes {c : Cp} {k : Nat} {f : Int → Int} {dt : List Int} (h : Is c k f dt) (k' : Nat) : Is (c.go k') k' f dt := ⟨h.ok.go _, h.runs, rfl, fun q q0 q1 => h.reg q q0 q1, h.data⟩
/-- One step on. -/
def Steps (ws : List Int) (c c' : Cp) : Prop := ∀ n j, runA ws (n + 1) j c = runA ws n (j + 1) c'
theorem is_mk {ws : List Int} {c : Cp} {k : Nat} {f : Int → Int} {dt : List Int} (h : Is c k f dt) (x : Mi) (hk : ws[k]? = some (wordI x)) (hx : MiOk x) (ho : x.op ≤ 19) :
    ∃ c', Steps ws c c' ∧ Is c' (k + 1) (upd f x.rd (mdC x.op (f x.rs1) (snd x (f x.rs2)))) dt := by
  obtain ⟨r0, r1, s0, s1, t0, t1, _, _⟩ := mi_bounds x hx
  refine ⟨_, fun n j => run_mk x n k j h.runs h.pc hk hx ho, ?_⟩
  rw [h.reg _ s0 s1, h.reg _ t0 t1]
  exact h.put _ _ r0 r1 (k + 1)
theorem is_any {ws : List Int} {c c' : Cp} {k : Nat} {f : Int → Int} {dt : List Int} (h : Is c k f dt) (x : Mi) (hk : ws[k]? = some (wordI x)) (hx : MiOk x) (he : doE x (f x.rs1) = 0) (hd : doC x (f x.rs1) (f x.rs2) c = c') : Steps ws c c' := by
  obtain ⟨_, _, s0, s1, t0, t1, _, _⟩ := mi_bounds x hx
  intro n j
  rw [run_step n k j h.runs h.pc hk hx (by rw [h.reg _ s0 s1]; exact he), h.reg _ s0 s1, h.reg _ t0 t1, hd]
theorem is_lui {ws : List Int} {c : Cp} {k : Nat} {f : Int → Int} {dt : List Int} (h : Is c k f dt) (rd imm : Int) (hk : ws[k]? = some (wordI ⟨28, rd, 0, 0, imm⟩)) (hx : MiOk ⟨28, rd, 0, 0, imm⟩) :
    ∃ c', Steps ws c c' ∧ Is c' (k + 1) (upd f rd (imm * 4096)) dt := by
  obtain ⟨r0, r1, _⟩ := mi_bounds _ hx
  refine ⟨_, is_any h _ hk hx rfl (show _ = (c.put rd (imm * 4096)).go ((k + 1 : Nat) : Int) by rw [show ((k + 1 : Nat) : Int) = c.pc + 1 by rw [h.pc]; rfl]; rfl), h.put _ _ r0 r1 (k + 1)⟩
theorem is_jal {ws : List Int} {c : Cp} {k : Nat} {f : Int → Int} {dt : List Int} (h : Is c k f dt) (rd imm : Int) (k' : Nat) (hk' : (k : Int) + imm.tdiv 4 = k') (hk : ws[k]? = some (wordI ⟨26, rd, 0, 0, imm⟩)) (hx : MiOk ⟨26, rd, 0, 0, imm⟩) :
    ∃ c', Steps ws c c' ∧ Is c' k' (upd f rd ((k + 1) * 4)) dt := by
  obtain ⟨r0, r1, _⟩ := mi_bounds _ hx
  refine ⟨_, is_any h _ hk hx rfl (show _ = (c.put rd (((k : Int) + 1) * 4)).go (k' : Int) by rw [← hk', ← h.pc]; rfl), h.put _ _ r0 r1 k'⟩
theorem is_jalr {ws : List Int} {c : Cp} {k : Nat} {f : Int → Int} {dt : List Int} (h : Is c k f dt) (rd rs imm : Int) (k' : Nat) (hk' : f rs + imm = 4 * k') (hb : (k' : Int) < 1000000) (hk : ws[k]? = some (wordI ⟨27, rd, rs, 0, imm⟩)) (hx : MiOk ⟨27, rd, rs, 0, imm⟩) :
    ∃ c', Steps ws c c' ∧ Is c' k' (upd f rd ((k + 1) * 4)) dt := by
  obtain ⟨r0, r1, _⟩ := mi_bounds _ hx
  have e1 : wrap64 (f rs + imm) = 4 * (k' : Int) := by rw [hk']; exact wrap64_small _ (by omega) (by omega)
  have e2 : adJ (wrap64 (f rs + imm)) = 4 * (k' : Int) := by rw [e1]; unfold adJ; omega
  have e3 : adJ (wrap64 (f rs + imm)) % 4 = 0 := by rw [e2]; omega
  have e4 : adJ (wrap64 (f rs + imm)) / 4 = (k' : Int) := by rw [e2]; omega
  refine ⟨_, is_any h _ hk hx (by simp [doE, e3]) (show _ = (c.put rd (((k : Int) + 1) * 4)).go (k' : Int) by simp [doC, e3, e4, h.pc]), h.put _ _ r0 r1 k'⟩
theorem is_br {ws : List Int} {c : Cp} {k : Nat} {f : Int → Int} {dt : List Int} (h : Is c k f dt) (op r s imm : Int) (o0 : 22 ≤ op) (o1 : op ≤ 25) (k' : Nat) (hk' : (if holdsB op (f r) (f s) = true then (k : Int) + imm.tdiv 4 else k + 1) = k') (hk : ws[k]? = some (wordI ⟨op, 0, r, s, imm⟩)) (hx : MiOk ⟨op, 0, r, s, imm⟩) :
    ∃ c', Steps ws c c' ∧ Is c' k' f dt := by
  have e1 : doE ⟨op, 0, r, s, imm⟩ (f r) = 0 := by unfold doE; dsimp only; rw [if_neg (by omega), if_neg (by omega)]
  refine ⟨_, is_any h _ hk hx e1 (show _ = c.go (k' : Int) from ?_), h.goes k'⟩
  unfold doC; dsimp only
  rw [if_neg (by omega), if_neg (by omega), if_neg (by omega), if_neg (by omega), if_neg (by omega), if_neg (by omega), if_pos ⟨o0, o1⟩, h.pc, hk']
theorem is_ld {ws : List Int} {c : Cp} {k : Nat} {f : Int → Int} {dt : List Int} (h : Is c k f dt) (rd rs imm : Int) (m : Nat) (hm : m < 64) (ha : f rs + imm = 8 * m) (hk : ws[k]? = some (wordI ⟨20, rd, rs, 0, imm⟩)) (hx : MiOk ⟨20, rd, rs, 0, imm⟩) :
    ∃ c', Steps ws c c' ∧ Is c' (k + 1) (upd f rd (dt.getD m 0)) dt := by
  obtain ⟨r0, r1, _⟩ := mi_bounds _ hx
  have e1 : wrap64 (f rs + imm) = 8 * (m : Int) := by rw [ha]; exact wrap64_small _ (by omega) (by omega)
  have e2 : isW (wrap64 (f rs + imm)) = true := by rw [e1]; simp [isW]; omega
  have e3 : c.word (wrap64 (f rs + imm)) = dt.getD m 0 := by unfold Cp.word; rw [e1, h.data, show (8 * (m : Int) / 8).toNat = m by omega]
  refine ⟨_, is_any h _ hk hx (by simp [doE, e2]) (show _ = (c.put rd (dt.getD m 0)).go ((k + 1 : Nat) : Int) by simp [doC, e2, e3, h.pc]), h.put _ _ r0 r1 (k + 1)⟩
theorem is_sd {ws : List Int} {c : Cp} {k : Nat} {f : Int → Int} {dt : List Int} (h : Is c k f dt) (rs s imm : Int) (m : Nat) (hm : m < 64) (ha : f rs + imm = 8 * m) (hk : ws[k]? = some (wordI ⟨21, 0, rs, s, imm⟩)) (hx : MiOk ⟨21, 0, rs, s, imm⟩) :
    ∃ c', Steps ws c c' ∧ Is c' (k + 1) f (dt.set m (f s)) := by
  have e1 : wrap64 (f rs + imm) = 8 * (m : Int) := by rw [ha]; exact wrap64_small _ (by omega) (by omega)
  have e2 : isW (wrap64 (f rs + imm)) = true := by rw [e1]; simp [isW]; omega
  refine ⟨(c.keep (8 * (m : Int)) (f s)).go ((k + 1 : Nat) : Int), is_any h _ hk hx (by simp [doE, e2]) (by simp [doC, e1, show isW (8 * (m : Int)) = true by rw [← e1]; exact e2, h.pc]), ⟨(h.ok.keep _ _).go _, h.runs, rfl, fun q q0 q1 => h.reg q q0 q1, ?_⟩⟩
  show c.data.set (8 * (m : Int) / 8).toNat (f s) = _
  rw [h.data, show (8 * (m : Int) / 8).toNat = m by omega]
/-- The machine has stopped. -/
theorem is_end {ws : List Int} {c : Cp} {k : Nat} {f : Int → Int} {dt : List Int} (h : Is c k f dt) (n j : Nat) (hk : ws[k]? = some (wordI ⟨29, 0, 0, 0, 0⟩)) :
    ∃ D : Cp, runA ws (n + 1) j c = (D, ((j + 1 : Nat) : Int), 0) ∧ D.Ok ∧ (∀ q, 0 ≤ q → q < 32 → D.reg q = f q) ∧ D.pc = k ∧ D.halted = true ∧ D.data = dt :=
  ⟨_, run_ecall n k j h.runs h.pc hk halt_ok, h.ok.stop, fun q q0 q1 => h.reg q q0 q1, h.pc, rfl, h.data⟩
/-- An instruction is refused. -/
theorem is_bad {ws : List Int} {c : Cp} {k : Nat} {f : Int → Int} {dt : List Int} (h : Is c k f dt) (x : Mi) (n j : Nat) (hk : ws[k]? = some (wordI x)) (hx : MiOk x) (he : ¬ doE x (f x.rs1) = 0) : runA ws (n + 1) j c = (zeroCp, 0, doE x (f x.rs1)) := by
  obtain ⟨_, _, s0, s1, _⟩ := mi_bounds x hx
  obtain ⟨h1, _⟩ := step_at k h.pc hk hx
  rw [h.reg _ s0 s1] at h1
  rw [runA_bad n j h.runs (by rw [h1]; exact he), h1]
end Go.Proofs.YtapjfiihfgndeaaDoor
