/- Two states that agree on what is live go side by side. -/
import Derived.Test.YtgoefojdggblpaaDoorXLiveMath
import Derived.Test.YtgoefojdggblpaaDoorGroupD
namespace Go.Proofs.YtgoefojdggblpaaDoor
open Go Go.RowKit

/-- Two frames at one place that agree on what is live there. -/
structure AgFr (P : List Fn) (f g : Fr) : Prop where
  fn : g.fn = f.fn
  pc : g.pc = f.pc
  len : g.regs.length = f.regs.length
  live : ∀ r, r < 12 → LiveW P (fnD P f.fn) r f.pc.toNat → g.regs.getD r 0 = f.regs.getD r 0
inductive AgFs (P : List Fn) : List Fr → List Fr → Prop
  | nil : AgFs P [] []
  | snoc {fs gs : List Fr} {f g : Fr} (h : AgFs P fs gs) (hf : AgFr P f g) : AgFs P (fs ++ [f]) (gs ++ [g])
theorem AgFr.refl (P : List Fn) (f : Fr) : AgFr P f f := ⟨rfl, rfl, rfl, fun _ _ _ => rfl⟩
theorem AgFs.inv {P : List Fn} {l m : List Fr} (h : AgFs P l m) : (l = [] ∧ m = []) ∨ ∃ fs gs f g, l = fs ++ [f] ∧ m = gs ++ [g] ∧ AgFs P fs gs ∧ AgFr P f g := by
  cases h with
  | nil => exact Or.inl ⟨rfl, rfl⟩
  | snoc h hf => exact Or.inr ⟨_, _, _, _, rfl, rfl, h, hf⟩
theorem AgFs.len {P : List Fn} {l m : List Fr} (h : AgFs P l m) : m.length = l.length := by
  induction h with
  | nil => rfl
  | snoc _ _ ih => simp [ih]
section
variable {P : List Fn}
theorem AgFr.ins {f g : Fr} (h : AgFr P f g) : insOfFr P g = insOfFr P f := by unfold insOfFr; rw [h.fn, h.pc]
theorem AgFr.a {f g : Fr} (h : AgFr P f g) (hc : codeProg P = 0) (hp : placeB P f = true) (hr : rdA P (insOfFr P f) = true) : regD g (insOfFr P f).a = regD f (insOfFr P f).a := by
  have hx := place_ins hc hp
  obtain ⟨k, j, hk, hj, e1, e2, e3, e4⟩ := place_nat hp
  refine h.live _ (by have := hx.a0; have := hx.a1; omega) (LiveW.read (by rw [e3, e2]; exact hj) ?_)
  show (rdMask P (insOfFr P f)).testBit _ = true
  unfold rdMask
  rw [if_pos hr, Nat.testBit_or, Nat.testBit_two_pow_self]; rfl
theorem AgFr.b {f g : Fr} (h : AgFr P f g) (hc : codeProg P = 0) (hp : placeB P f = true) (hr : rdB P (insOfFr P f) = true) : regD g (insOfFr P f).b = regD f (insOfFr P f).b := by
  have hx := place_ins hc hp
  obtain ⟨k, j, hk, hj, e1, e2, e3, e4⟩ := place_nat hp
  refine h.live _ (by have := hx.b0; have := hx.b1; omega) (LiveW.read (by rw [e3, e2]; exact hj) ?_)
  show (rdMask P (insOfFr P f)).testBit _ = true
  unfold rdMask
  rw [if_pos hr, Nat.testBit_or, Nat.testBit_two_pow_self, Bool.or_true]
/-- On to a place behind, with nothing set. -/
theorem AgFr.go {f g : Fr} (h : AgFr P f g) (hp : placeB P f = true) {z : Int} {q : Nat} (hz : z = q) (ht : q ∈ behind (insOfFr P f) f.pc.toNat) (hs : setsB (insOfFr P f).op = false) : AgFr P ⟨f.fn, z, f.regs⟩ ⟨g.fn, z, g.regs⟩ := by
  obtain ⟨k, j, hk, hj, e1, e2, e3, e4⟩ := place_nat hp
  subst hz
  refine ⟨h.fn, rfl, h.len, fun r hr hl => h.live r hr (LiveW.on (by rw [e3, e2]; exact hj) ?_ ht hl)⟩
  show (setMask (insOfFr P f)).testBit r = false
  unfold setMask
  rw [if_neg (by rw [hs]; decide)]; exact Nat.zero_testBit r
/-- On to the next place, with the register set. -/
theorem AgFr.put {f g : Fr} (h : AgFr P f g) (hc : codeProg P = 0) (hp : placeB P f = true) (hl : f.regs.length = 12) (ho : setsB (insOfFr P f).op = true) (v : Int) : AgFr P (putF f (insOfFr P f).dst v) (putF g (insOfFr P f).dst v) := by
  have hx := place_ins hc hp
  obtain ⟨k, j, hk, hj, e1, e2, e3, e4⟩ := place_nat hp
  have hd : (insOfFr P f).dst.toNat < 12 := by have := hx.dst0; have := hx.dst1; omega
  have hn : (insOfFr P f).op ≠ 15 ∧ (insOfFr P f).op ≠ 19 := by
    unfold setsB at ho; rw [decide_eq_true_eq] at ho; omega
  refine ⟨h.fn, by show g.pc + 1 = f.pc + 1; rw [h.pc], by rw [putF_len, putF_len]; exact h.len, fun r hr hlv => ?_⟩
  show (g.regs.set _ v).getD r 0 = (f.regs.set _ v).getD r 0
  by_cases hrd : (insOfFr P f).dst.toNat = r
  · subst hrd
    simp [List.getD, h.len, hl, hd]
  · simp only [List.getD_eq_getElem?_getD]
    rw [List.getElem?_set_ne hrd, List.getElem?_set_ne hrd]
    have hs : (setMask (insOfFr P f)).testBit r = false := by
      unfold setMask
      rw [if_pos ho, Nat.testBit_two_pow]; simp [hrd]
    have ht : (f.pc + 1).toNat ∈ behind (insOfFr P f) f.pc.toNat := by
      rw [show (f.pc + 1).toNat = f.pc.toNat + 1 by omega]
      exact behind_next _ _ hn.1 hn.2
    have hlt : f.pc.toNat < (fnD P f.fn).code.length := by rw [e3, e2]; exact hj
    have := h.live r hr (LiveW.on hlt hs ht hlv)
    simpa only [List.getD_eq_getElem?_getD] using this
/-- What may be of the one may be of the other. -/
theorem AgFr.place {f g : Fr} (h : AgFr P f g) (hp : placeB P f = true) : placeB P g = true := by
  obtain ⟨k, j, hk, hj, e1, e2, e3, e4⟩ := place_nat hp
  have := place_of hk hj g.regs
  rw [← e1, ← e2, ← h.fn, ← h.pc] at this
  exact this
theorem AgFs.fok {l m : List Fr} (h : AgFs P l m) : FOk P l → FOk P m := by
  induction h with
  | nil => exact fun h => h
  | @snoc fs gs f g h hf ih =>
    intro hk
    obtain ⟨h1, h2, h3⟩ := (fok_snoc P fs f).1 hk
    refine (fok_snoc P gs g).2 ⟨ih h1, hf.place h2, fun g' hg' => ?_⟩
    rcases h.inv with ⟨rfl, rfl⟩ | ⟨fs', gs', f', g'', rfl, rfl, _, k2⟩
    · simp at hg'
    · rw [List.getLast?_concat] at hg'
      cases hg'
      rw [k2.ins, hf.fn]
      exact h3 f' (by simp)
theorem AgFs.all {l m : List Fr} (h : AgFs P l m) : ∀ g ∈ m, ∃ f ∈ l, AgFr P f g := by
  induction h with
  | nil => intro g hg; cases hg
  | @snoc fs gs f g h hf ih =>
    intro g' hg'
    rw [List.mem_append, List.mem_singleton] at hg'
    rcases hg' with hg' | rfl
    · obtain ⟨f', h1, h2⟩ := ih g' hg'
      exact ⟨f', List.mem_append_left _ h1, h2⟩
    · exact ⟨f, by simp, hf⟩
theorem ag_inv {S : St} {gs : List Fr} (hI : RunInv P S) (h : AgFs P S.frames gs) : RunInv P { S with frames := gs } := by
  refine ⟨?_, h.fok hI.fok, fun g hg => ?_, fun g hg => ?_, hI.mem⟩
  · have := (mayB_iff S).1 hI.may
    refine (mayB_iff _).2 ?_
    dsimp only
    rw [h.len]
    exact this
  · obtain ⟨f, hf, ha⟩ := h.all g hg
    have := hI.reach f hf
    unfold ReachFr at this ⊢
    rw [ha.fn, ha.pc]; exact this
  · obtain ⟨f, hf, ha⟩ := h.all g hg
    rw [ha.len]; exact hI.wf f hf
theorem ag_step (hR : ProofAns P 0) {S : St} {gs : List Fr} (hI : RunInv P S) (h : AgFs P S.frames gs) :
    ∃ gs', stepS P { S with frames := gs } = { stepS P S with frames := gs' } ∧ AgFs P (stepS P S).frames gs' := by
  have hc := right_code hR
  obtain ⟨status, value, frames, mem, fuel, events, answers⟩ := S
  have hok := hI.fok
  have hwf := hI.wf
  clear hI
  dsimp only at h hok hwf ⊢
  unfold stepS
  dsimp only
  by_cases hf : fuel = 0
  · rw [if_pos hf, if_pos hf]; exact ⟨gs, rfl, h⟩
  rw [if_neg hf, if_neg hf]
  rcases h.inv with ⟨rfl, rfl⟩ | ⟨fs, gs', f, g, rfl, rfl, h1, h2⟩
  · exact ⟨[], rfl, .nil⟩
  simp only [List.getLast?_concat, List.dropLast_concat]
  obtain ⟨hok1, hp, hup⟩ := (fok_snoc P fs f).1 hok
  have h12 : f.regs.length = 12 := hwf f (by simp)
  have hx := place_ins hc hp
  rw [h2.ins]
  have hA : (insOfFr P f).op ≠ 1 → (insOfFr P f).op ≠ 15 → (insOfFr P f).op ≠ 17 → regD g (insOfFr P f).a = regD f (insOfFr P f).a := fun a b d => h2.a hc hp (by unfold rdA readsAB; rw [if_neg d, decide_eq_true_eq]; exact ⟨a, b⟩)
  have hB : ((2 ≤ (insOfFr P f).op ∧ (insOfFr P f).op ≤ 12) ∨ (insOfFr P f).op = 14) → regD g (insOfFr P f).b = regD f (insOfFr P f).b := fun a => h2.b hc hp (by unfold rdB readsBB; rw [if_neg (by omega), decide_eq_true_eq]; omega)
  have hput : ((1 ≤ (insOfFr P f).op ∧ (insOfFr P f).op ≤ 13) ∨ (insOfFr P f).op = 17 ∨ (insOfFr P f).op = 18) → ∀ v, AgFr P (putF f (insOfFr P f).dst v) (putF g (insOfFr P f).dst v) := fun a v => h2.put hc hp h12 (by unfold setsB; rw [decide_eq_true_eq]; exact a) v
  have hno : ((insOfFr P f).op = 14 ∨ (insOfFr P f).op = 15 ∨ (insOfFr P f).op = 16) → setsB (insOfFr P f).op = false := fun a => by unfold setsB; rw [decide_eq_false_iff_not]; omega
  have hpc : 0 ≤ f.pc := by obtain ⟨k, j, hk, hj, e1, e2, _⟩ := place_nat hp; omega
  have hgo : (insOfFr P f).op = 14 ∨ (insOfFr P f).op = 16 → AgFr P ⟨f.fn, f.pc + 1, f.regs⟩ ⟨g.fn, g.pc + 1, g.regs⟩ := fun a => by
    rw [h2.pc]
    exact h2.go hp (q := f.pc.toNat + 1) (by omega) (behind_next _ _ (by omega) (by omega)) (hno (by omega))
  have hju : (insOfFr P f).op = 15 ∨ (insOfFr P f).op = 16 → AgFr P ⟨f.fn, (insOfFr P f).imm, f.regs⟩ ⟨g.fn, (insOfFr P f).imm, g.regs⟩ := fun a => by
    have h0 : 0 ≤ (insOfFr P f).imm := by
      obtain ⟨k, j, hk, hj, e1, e2, e3, e4⟩ := place_nat hp
      have := ((flowOk_of hR (List.getElem_mem hk)).insD hj).2
      rw [insD_eq hj, ← e4] at this
      exact this a
    exact h2.go hp (q := (insOfFr P f).imm.toNat) (by omega) (behind_jump _ _ a) (hno (by omega))
  have hb : barredI (insOfFr P f) (regD g (insOfFr P f).a) (regD g (insOfFr P f).b) = barredI (insOfFr P f) (regD f (insOfFr P f).a) (regD f (insOfFr P f).b) := by
    unfold barredI
    by_cases o5 : (insOfFr P f).op = 5
    · rw [if_pos o5, if_pos o5, hB (by omega)]
    rw [if_neg o5, if_neg o5]
    by_cases o : (insOfFr P f).op = 13 ∨ (insOfFr P f).op = 14
    · rw [if_pos o, if_pos o, hA (by omega) (by omega) (by omega)]
    · rw [if_neg o, if_neg o]
  rw [hb]
  have hlen := h1.len
  by_cases hz : barredI (insOfFr P f) (regD f (insOfFr P f).a) (regD f (insOfFr P f).b) = 0
  · rw [if_pos hz, if_pos hz]
    unfold doS
    dsimp only
    by_cases o13 : (insOfFr P f).op = 13
    · rw [if_pos o13, if_pos o13, hA (by omega) (by omega) (by omega)]; exact ⟨_, rfl, h1.snoc (hput (by omega) _)⟩
    rw [if_neg o13, if_neg o13]
    by_cases o14 : (insOfFr P f).op = 14
    · rw [if_pos o14, if_pos o14, hA (by omega) (by omega) (by omega), hB (by omega)]; exact ⟨_, rfl, h1.snoc (hgo (by omega))⟩
    rw [if_neg o14, if_neg o14]
    by_cases o15 : (insOfFr P f).op = 15
    · rw [if_pos o15, if_pos o15]; exact ⟨_, rfl, h1.snoc (hju (by omega))⟩
    rw [if_neg o15, if_neg o15]
    by_cases o16 : (insOfFr P f).op = 16
    · rw [if_pos o16, if_pos o16, hA (by omega) (by omega) (by omega)]
      by_cases hr : regD f (insOfFr P f).a = 0
      · rw [if_pos hr, if_pos hr]; exact ⟨_, rfl, h1.snoc (hgo (by omega))⟩
      · rw [if_neg hr, if_neg hr]; exact ⟨_, rfl, h1.snoc (hju (by omega))⟩
    rw [if_neg o16, if_neg o16]
    by_cases o17 : (insOfFr P f).op = 17
    · rw [if_pos o17, if_pos o17, hlen]
      by_cases h8 : fs.length + 1 = 8
      · rw [if_pos h8, if_pos h8]; exact ⟨_, rfl, h1.snoc h2⟩
      · rw [if_neg h8, if_neg h8]
        have ht : [regD g (insOfFr P f).a, regD g (insOfFr P f).b].take (fnD P (insOfFr P f).imm).params.toNat = [regD f (insOfFr P f).a, regD f (insOfFr P f).b].take (fnD P (insOfFr P f).imm).params.toNat := by
          obtain ⟨_, _, p0, p2⟩ := hx.call o17
          have hpa : paramsAt P (insOfFr P f).imm = (fnD P (insOfFr P f).imm).params := rfl
          rw [hpa] at p0 p2
          have ea : 1 ≤ (fnD P (insOfFr P f).imm).params → regD g (insOfFr P f).a = regD f (insOfFr P f).a := fun h => h2.a hc hp (by unfold rdA; rw [if_pos o17, decide_eq_true_eq]; exact h)
          have eb : 2 ≤ (fnD P (insOfFr P f).imm).params → regD g (insOfFr P f).b = regD f (insOfFr P f).b := fun h => h2.b hc hp (by unfold rdB; rw [if_pos o17, decide_eq_true_eq]; exact h)
          rcases (show (fnD P (insOfFr P f).imm).params = 0 ∨ (fnD P (insOfFr P f).imm).params = 1 ∨ (fnD P (insOfFr P f).imm).params = 2 by omega) with e | e | e
          · rw [e]; rfl
          · rw [ea (by omega), e]; rfl
          · rw [ea (by omega), eb (by omega)]
        rw [ht]
        have := (h1.snoc h2).snoc (AgFr.refl P (begunFr (insOfFr P f).imm ([regD f (insOfFr P f).a, regD f (insOfFr P f).b].take (fnD P (insOfFr P f).imm).params.toNat)))
        rw [List.append_assoc, List.append_assoc] at this
        exact ⟨_, rfl, this⟩
    rw [if_neg o17, if_neg o17]
    by_cases o18 : (insOfFr P f).op = 18
    · rw [if_pos o18, if_pos o18, hA (by omega) (by omega) (by omega)]; exact ⟨_, rfl, h1.snoc (hput (by omega) _)⟩
    rw [if_neg o18, if_neg o18]
    by_cases o19 : (insOfFr P f).op = 19
    · rw [if_pos o19, if_pos o19, hA (by omega) (by omega) (by omega)]
      unfold retS
      rcases h1.inv with ⟨rfl, rfl⟩ | ⟨fs', gs'', f', g', rfl, rfl, k1, k2⟩
      · exact ⟨[], rfl, .nil⟩
      · simp only [List.getLast?_concat, List.dropLast_concat]
        have h17 := (hup f' (by simp)).1
        rw [k2.ins]
        exact ⟨_, rfl, k1.snoc (k2.put hc ((fok_snoc P fs' f').1 hok1).2.1 (hwf f' (by simp)) (by unfold setsB; rw [h17]; decide) _)⟩
    rw [if_neg o19, if_neg o19]
    have hr := hx.op1
    have hr2 := hx.op2
    have hmk : mk (insOfFr P f).op (regD g (insOfFr P f).a) (regD g (insOfFr P f).b) (insOfFr P f).imm = mk (insOfFr P f).op (regD f (insOfFr P f).a) (regD f (insOfFr P f).b) (insOfFr P f).imm := by
      by_cases o1 : (insOfFr P f).op = 1
      · unfold mk; rw [if_pos o1, if_pos o1]
      · rw [hA o1 (by omega) (by omega), hB (by omega)]
    rw [hmk]
    exact ⟨_, rfl, h1.snoc (hput (by omega) _)⟩
  · rw [if_neg hz, if_neg hz]
    exact ⟨_, rfl, h1.snoc h2⟩
/-- So many steps of the one are so many of the other. -/
theorem ag_walk (hR : ProofAns P 0) (n : Nat) : ∀ {S : St} {gs : List Fr}, RunInv P S → AgFs P S.frames gs →
    ∃ gs', walkS P n { S with frames := gs } = { walkS P n S with frames := gs' } ∧ AgFs P (walkS P n S).frames gs' := by
  induction n with
  | zero => intro S gs _ h; exact ⟨gs, rfl, h⟩
  | succ n ih =>
    intro S gs hI h
    rw [walkS, walkS]
    by_cases h0 : S.status = 0
    · rw [if_pos h0, if_pos (show ({ S with frames := gs } : St).status = 0 from h0)]
      obtain ⟨gs', e, h'⟩ := ag_step hR hI h
      rw [e]
      exact ih (runInv_step hR hI h0) h'
    · rw [if_neg h0, if_neg (show ¬ ({ S with frames := gs } : St).status = 0 from h0)]
      exact ⟨gs, rfl, h⟩
end
end Go.Proofs.YtgoefojdggblpaaDoor
