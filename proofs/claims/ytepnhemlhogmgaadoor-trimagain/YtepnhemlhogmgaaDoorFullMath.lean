/- Programs of raw numbers whose registers are all set first are right: plain mathematics. -/
import Derived.Test.YtepnhemlhogmgaaDoorFuncAll
import Derived.Test.YtepnhemlhogmgaaDoorShapeOk
import Derived.Test.YtepnhemlhogmgaaDoorProveMath
import Derived.Test.YtepnhemlhogmgaaDoorSeenMath
namespace Go.Proofs.YtepnhemlhogmgaaDoor
open Go Go.RowKit

theorem mkAll_code (b : Fn) (N : Int) : ∃ (K n : Nat) (R : Int) (xs : List Ins), (mkAll b N).params = pickI b.params 3 ∧ (mkAll b N).regs = R ∧ R = max (pickI b.params 3) 1 + pickI b.regs 11 ∧ (K : Int) = R - pickI b.params 3 ∧ n = min b.code.length 22 ∧ xs.length = n ∧
    (mkAll b N).code = preL (pickI b.params 3) K ++ xs.map (fun x => mkIns x R (K + n + 2 : Nat) N) ++ [⟨1, 0, 0, 0, 7⟩, ⟨19, 0, 0, 0, 0⟩] ∧ K ≤ 12 ∧ 1 ≤ R ∧ R ≤ 12 := by
  have bP := pickI_bounds b.params 3 (by decide)
  have bR := pickI_bounds b.regs 11 (by decide)
  refine ⟨(max (pickI b.params 3) 1 + pickI b.regs 11 - pickI b.params 3).toNat, min b.code.length 22, max (pickI b.params 3) 1 + pickI b.regs 11, b.code.take (min b.code.length 22), rfl, rfl, rfl, by omega, rfl, by simp, ?_, by omega, by omega, by omega⟩
  unfold mkAll
  dsimp only
  rw [List.append_assoc]
  rfl

theorem firstErr_all {α : Type} {g : α → Int} : ∀ {l : List α}, (∀ x ∈ l, g x = 0) → firstErr g l = 0
  | [], _ => rfl
  | y :: r, h => by
    unfold firstErr
    rw [if_pos (h y (by simp))]
    exact firstErr_all fun z hz => h z (by simp [hz])

theorem mkAll_ok (b : Fn) (funcs : Int) (h5 : 1 ≤ funcs) : codeFunc (mkAll b funcs) funcs = 0 := by
  have bP := pickI_bounds b.params 3 (by decide)
  have bR := pickI_bounds b.regs 11 (by decide)
  obtain ⟨K, n, R, xs, e1, e2, e3, e4, e5, e6, e7, _, r1, r2⟩ := mkAll_code b funcs
  have hlen : (mkAll b funcs).code.length = K + n + 2 := by rw [e7]; simp [preL_length, e6]; omega
  unfold codeFunc
  rw [hlen, e1, e2]
  rw [if_neg (by omega), if_neg (by omega), if_neg (by omega), if_neg (by omega), if_neg (by omega), if_neg (by omega), if_neg (by omega)]
  refine firstErr_all ?_
  rw [e7]
  intro y hy
  rw [instr_same]
  rcases List.mem_append.1 hy with hy | hy
  · rcases List.mem_append.1 hy with hy | hy
    · unfold preL at hy
      obtain ⟨i, hi, rfl⟩ := List.mem_map.1 hy
      have hi' : i < K := by simpa using hi
      simp [refInstr, refOk1, refOk2, regMayB, setsB, readsAB, readsBB, inB]
      omega
    · obtain ⟨x, _, rfl⟩ := List.mem_map.1 hy
      have := mkIns_ok x R ((K + n + 2 : Nat) : Int) funcs (by omega) (by omega) h5
      rw [instr_same] at this
      exact this
  · simp at hy
    rcases hy with rfl | rfl
    · simp [refInstr, refOk1, refOk2, regMayB, setsB, readsAB, readsBB, inB]; omega
    · simp [refInstr, refOk1, refOk2, regMayB, setsB, readsAB, readsBB, inB]; omega

def fullPart (l : List Fn) (N k : Nat) : List Fn := (List.range k).map fun i => mkAll (bodyAt l i) N
theorem fullPart_length (l : List Fn) (N k : Nat) : (fullPart l N k).length = k := by simp [fullPart]
theorem fullPart_succ (l : List Fn) (N k : Nat) : fullPart l N (k + 1) = fullPart l N k ++ [mkAll (bodyAt l k) N] := by simp [fullPart, List.range_succ]
def fullP (l : List Fn) : List Fn := fullPart l (shapedN l) (shapedN l)
theorem full_ok (l : List Fn) : codeProg (fullP l) = 0 := by
  have hl : (fullP l).length = shapedN l := by simp [fullP, fullPart]
  have h1 : 1 ≤ shapedN l := by unfold shapedN; omega
  have h4 : shapedN l ≤ 4 := by unfold shapedN; omega
  unfold codeProg
  rw [hl, if_neg (by omega), if_neg (by omega)]
  refine firstErr_all fun f hf => ?_
  obtain ⟨i, _, rfl⟩ := List.mem_map.1 hf
  exact mkAll_ok _ _ (by omega)

theorem setMask_set (p : Int) (i r : Nat) (_hp : 0 ≤ p) : (setMask ⟨1, p + i, 0, 0, p + i⟩).testBit r = decide ((p + i).toNat = r) := by
  simp [setMask, setsB, Nat.testBit_two_pow]

/-- On each way to a place behind the first ones all registers are set. -/
theorem way_full {f : Fn} {p R : Int} {K : Nat} {rest : List Ins} (hp0 : 0 ≤ p) (hp : f.params = p) (hK : (K : Int) = R - p) (hc : f.code = preL p K ++ rest) {r q : Nat} (hr : (r : Int) < R) (hw : Way f r q) : (q : Int) ≤ r - p := by
  induction hw with
  | start h => rw [hp] at h; simp; omega
  | @step pc t hpc hw hset ht ih =>
    have hpk : pc < K := by omega
    have hx : insD f pc = ⟨1, p + pc, 0, 0, p + pc⟩ := by
      rw [insD_eq hpc]
      simp [hc, preL, List.getElem_append_left, hpk]
    rw [hx] at hset ht
    rw [setMask_set p pc r hp0] at hset
    have hne : (p + pc).toNat ≠ r := by simpa using hset
    have : t = pc + 1 := by simpa [behind] using ht
    subst this
    omega

theorem way_end {f : Fn} (hf : FnOk f) (hlast : insD f (f.code.length - 1) = ⟨19, 0, 0, 0, 0⟩) (himm : ∀ pc, pc < f.code.length → (insD f pc).op = 15 ∨ (insD f pc).op = 16 → (insD f pc).imm.toNat < f.code.length) {r : Nat} : ¬ Way f r f.code.length := by
  intro hw
  have h1 := hf.len1
  generalize hq : f.code.length = q at hw
  cases hw with
  | start h => omega
  | @step pc _ hpc hw hset ht =>
    have hb : q = pc + 1 → False := fun e => by
      have : pc = f.code.length - 1 := by omega
      subst this
      rw [hlast] at ht
      simp [behind] at ht
    unfold behind at ht
    split at ht
    · rename_i h15
      have := himm pc hpc (Or.inl h15)
      simp at ht; omega
    · split at ht
      · rename_i h16
        have := himm pc hpc (Or.inr h16)
        simp at ht
        rcases ht with h | h
        · exact hb h
        · omega
      · split at ht
        · simp at ht
        · simp at ht; exact hb ht

theorem imm_lt {P : List Fn} (h : codeProg P = 0) {f : Fn} (hf : f ∈ P) (pc : Nat) (hpc : pc < f.code.length) (ho : (insD f pc).op = 15 ∨ (insD f pc).op = 16) : (insD f pc).imm.toNat < f.code.length := by
  obtain ⟨h1, h4, hall⟩ := codeProg_zero h
  obtain ⟨_, _, _, _, _, _, _, hi⟩ := codeFunc_zero (hall f hf)
  rw [insD_eq hpc] at ho ⊢
  have hz := hi _ (List.getElem_mem hpc)
  rw [instr_same] at hz
  unfold refInstr at hz
  by_cases k1 : inB f.code[pc].op 1 19 = false
  · rw [if_pos k1] at hz; cases hz
  rw [if_neg k1] at hz
  by_cases k2 : refOk1 f.code[pc] f.regs = false
  · rw [if_pos k2] at hz; cases hz
  rw [if_neg k2] at hz
  by_cases k3 : refOk2 f.code[pc] f.code.length P.length = false
  · rw [if_pos k3] at hz; cases hz
  have k3 : refOk2 f.code[pc] f.code.length P.length = true := by simpa using k3
  have : 0 ≤ f.code[pc].imm ∧ f.code[pc].imm ≤ (f.code.length : Int) - 1 := by simpa [refOk2, ho, inB] using k3
  omega

/-- Registers that are read are registers. -/
theorem reads_regs {P : List Fn} (h : codeProg P = 0) {f : Fn} (hf : f ∈ P) {x : Ins} (hx : x ∈ f.code) : ∀ r ∈ readsL P x, 0 ≤ r ∧ r < f.regs := by
  obtain ⟨h1, h4, hall⟩ := codeProg_zero h
  obtain ⟨_, _, _, _, _, _, _, hi⟩ := codeFunc_zero (hall f hf)
  have hz := hi x hx
  rw [instr_same] at hz
  unfold refInstr at hz
  by_cases k1 : inB x.op 1 19 = false
  · rw [if_pos k1] at hz; cases hz
  rw [if_neg k1] at hz
  by_cases k2 : refOk1 x f.regs = false
  · rw [if_pos k2] at hz; cases hz
  have k2 : refOk1 x f.regs = true := by simpa using k2
  simp only [refOk1, Bool.and_eq_true] at k2
  obtain ⟨⟨_, m2⟩, m3⟩ := k2
  have isA : rdA P x = true → readsAB x.op = true := fun h => by
    unfold rdA at h
    split at h
    · rename_i e; rw [e]; decide
    · exact h
  have isB : rdB P x = true → readsBB x.op = true := fun h => by
    unfold rdB at h
    split at h
    · rename_i e; rw [e]; decide
    · exact h
  intro r hr
  unfold readsL at hr
  rcases List.mem_append.1 hr with hr | hr
  · split at hr
    · rename_i ha
      simp at hr
      subst hr
      rw [isA ha] at m2
      have : 0 ≤ x.a ∧ x.a ≤ f.regs - 1 := by simpa [regMayB, inB] using m2
      omega
    · simp at hr
  · split at hr
    · rename_i ha
      simp at hr
      subst hr
      rw [isB ha] at m3
      have : 0 ≤ x.b ∧ x.b ≤ f.regs - 1 := by simpa [regMayB, inB] using m3
      omega
    · simp at hr

/-- A function is proved, if whatever is read on a way is set there, and its end is not come to. -/
theorem prove_zero {P : List Fn} (h : codeProg P = 0) {f : Fn} (hf : f ∈ P) {L : List Int} (hL : SureSpec f L) (hr : ∀ pc, pc < f.code.length → ∀ r ∈ readsL P (insD f pc), ¬ Way f r.toNat pc) (he : ¬ Way f 63 f.code.length) : proveE P f L = 0 := by
  have hfo := (fnOk_of h hf).1
  rw [prove_good, if_pos]
  · rcases hL.2 f.code.length (by omega) with ⟨_, e⟩ | ⟨hw, _⟩
    · exact e
    · exact absurd hw he
  · intro k hk
    rcases hL.2 k (by omega) with ⟨_, e⟩ | ⟨_, m, hm, e, hb⟩
    · rw [e]; rfl
    · rw [e]
      unfold badB
      have hd : decide (0 ≤ (m : Int)) = true := by simp
      rw [hd, Bool.true_and, List.any_eq_false]
      intro r hr2
      have hrr := reads_regs h hf (by rw [insD_eq hk] at hr2; exact List.getElem_mem hk) r (by rw [insD_eq hk] at hr2; exact hr2)
      have hregs : f.regs ≤ 12 := (codeFunc_zero ((codeProg_zero h).2.2 f hf)).2.1
      rw [hasB_bit]
      have := (hb r.toNat (by omega)).2 (hr k hk r hr2)
      simp [this]

theorem proves_full (l : List Fn) {f : Fn} (hf : f ∈ fullP l) {L : List Int} (hL : SureSpec f L) : proveE (fullP l) f L = 0 := by
  have hok := full_ok l
  have hfo := (fnOk_of hok hf).1
  refine prove_zero hok hf hL ?_ ?_
  · intro pc hpc r hr hw
    have hrr := reads_regs hok hf (by rw [insD_eq hpc] at hr; exact List.getElem_mem hpc) r (by rw [insD_eq hpc] at hr; exact hr)
    obtain ⟨i, _, rfl⟩ := List.mem_map.1 hf
    obtain ⟨K, n, R, xs, e1, e2, e3, e4, e5, e6, e7, _, r1, r2⟩ := mkAll_code (bodyAt l i) (shapedN l)
    have bP := pickI_bounds (bodyAt l i).params 3 (by decide)
    have e7' : (mkAll (bodyAt l i) (shapedN l)).code = preL (pickI (bodyAt l i).params 3) K ++ (xs.map (fun x => mkIns x R (K + n + 2 : Nat) (shapedN l)) ++ [⟨1, 0, 0, 0, 7⟩, ⟨19, 0, 0, 0, 0⟩]) := by rw [e7, List.append_assoc]
    rw [e2] at hrr
    have hq := way_full (R := R) bP.1 e1 e4 e7' (r := r.toNat) (by omega) hw
    have hpk : pc < K := by omega
    have hx : insD (mkAll (bodyAt l i) (shapedN l)) pc = ⟨1, pickI (bodyAt l i).params 3 + pc, 0, 0, pickI (bodyAt l i).params 3 + pc⟩ := by
      rw [insD_eq hpc]
      simp [e7', preL, List.getElem_append_left, hpk]
    rw [hx] at hr
    simp [readsL, rdA, rdB, readsAB, readsBB] at hr
  · refine way_end hfo ?_ (imm_lt hok hf)
    obtain ⟨i, _, rfl⟩ := List.mem_map.1 hf
    obtain ⟨K, n, R, xs, e1, e2, e3, e4, e5, e6, e7, _, r1, r2⟩ := mkAll_code (bodyAt l i) (shapedN l)
    have hl := hfo.len1
    rw [insD_eq (by omega)]
    simp [e7]

theorem checks_all {P : List Fn} : ∀ {fs : List Fn}, (∀ f ∈ fs, ProvesTo P f 0) → ChecksTo P fs 0
  | [], _ => rfl
  | f :: fs, h => ⟨0, h f (by simp), Or.inr ⟨rfl, checks_all fun g hg => h g (by simp [hg])⟩⟩

/-- The program that the raw numbers tell: one that is right. -/
def ProgIs (l : List Fn) (P : List Fn) : Prop := (ProofAns (shapedP l) 0 ∧ P = shapedP l) ∨ (¬ ProofAns (shapedP l) 0 ∧ P = fullP l)
theorem progIs_unique {l P P' : List Fn} (h : ProgIs l P) (h' : ProgIs l P') : P = P' := by
  rcases h with ⟨h1, rfl⟩ | ⟨h1, rfl⟩ <;> rcases h' with ⟨h2, rfl⟩ | ⟨h2, rfl⟩
  · rfl
  · exact absurd h1 h2
  · exact absurd h2 h1
  · rfl
theorem progIs_code {l P : List Fn} (h : ProgIs l P) : codeProg P = 0 := by
  rcases h with ⟨_, rfl⟩ | ⟨_, rfl⟩
  · exact shaped_ok l
  · exact full_ok l

end Go.Proofs.YtepnhemlhogmgaaDoor
