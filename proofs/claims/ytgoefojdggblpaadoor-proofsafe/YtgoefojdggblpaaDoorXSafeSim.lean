/- What is surely set, frame by frame, all along a run. -/
import Derived.Test.YtgoefojdggblpaaDoorXLiveMath
import Derived.Test.YtgoefojdggblpaaDoorGroupD
namespace Go.Proofs.YtgoefojdggblpaaDoor
open Go Go.RowKit

/-- A set that holds all that is surely set at a frame's place. -/
structure SafeFr (P : List Fn) (f : Fr) (m : Nat) : Prop where
  lt : m < 4096
  sure : ∀ r, r < 12 → m.testBit r = false → Way (fnD P f.fn) r f.pc.toNat
inductive SafeFs (P : List Fn) : List Fr → List Nat → Prop
  | nil : SafeFs P [] []
  | snoc {fs : List Fr} {ms : List Nat} {f : Fr} {m : Nat} (h : SafeFs P fs ms) (hf : SafeFr P f m) : SafeFs P (fs ++ [f]) (ms ++ [m])
theorem SafeFs.inv {P : List Fn} {l : List Fr} {m : List Nat} (h : SafeFs P l m) : (l = [] ∧ m = []) ∨ ∃ fs gs f g, l = fs ++ [f] ∧ m = gs ++ [g] ∧ SafeFs P fs gs ∧ SafeFr P f g := by
  cases h with
  | nil => exact Or.inl ⟨rfl, rfl⟩
  | snoc h hf => exact Or.inr ⟨_, _, _, _, rfl, rfl, h, hf⟩
theorem SafeFs.len {P : List Fn} {l : List Fr} {m : List Nat} (h : SafeFs P l m) : m.length = l.length := by
  induction h with
  | nil => rfl
  | snoc _ _ ih => simp [ih]
section
variable {P : List Fn}
/-- On to a place behind, with what the instruction sets. -/
theorem SafeFr.on {f : Fr} {m : Nat} (h : SafeFr P f m) (hc : codeProg P = 0) (hp : placeB P f = true) {q : Nat} (ht : q ∈ behind (insOfFr P f) f.pc.toNat) {z : Int} (hz : z = q) (l : List Int) : SafeFr P ⟨f.fn, z, l⟩ (m ||| setMask (insOfFr P f)) := by
  have hx := place_ins hc hp
  obtain ⟨k, j, hk, hj, e1, e2, e3, e4⟩ := place_nat hp
  subst hz
  have hsl : setMask (insOfFr P f) < 4096 := by
    unfold setMask
    have : 2 ^ (insOfFr P f).dst.toNat < 4096 := Nat.lt_of_le_of_lt (Nat.pow_le_pow_right (by decide) (show (insOfFr P f).dst.toNat ≤ 11 by have := hx.dst0; have := hx.dst1; omega)) (by decide)
    split <;> omega
  refine ⟨Nat.or_lt_two_pow (n := 12) h.lt hsl, fun r hr hb => ?_⟩
  rw [Nat.testBit_or, Bool.or_eq_false_iff] at hb
  have hlt : f.pc.toNat < (fnD P f.fn).code.length := by rw [e3, e2]; exact hj
  exact Way.step hlt (h.sure r hr hb.1) hb.2 ht
/-- A function that begins has its parameters set. -/
theorem safe_begun {k : Nat} (hc : codeProg P = 0) (hk : k < P.length) (l : List Int) : SafeFr P (begunFr k l) (2 ^ (fnD P (k : Int)).params.toNat - 1) ∧ 0 ≤ (fnD P (k : Int)).params ∧ (fnD P (k : Int)).params ≤ 2 := by
  have e : fnD P (k : Int) = P[k] := by unfold fnD; simp [List.getD, hk]
  have ok := (fnOk_of hc (List.getElem_mem hk)).1
  have h0 := ok.p0
  have h2 := ok.p2
  rw [e]
  refine ⟨⟨?_, fun r hr hb => ?_⟩, h0, h2⟩
  · have : 2 ^ P[k].params.toNat ≤ 2 ^ 2 := Nat.pow_le_pow_right (by decide) (by omega)
    omega
  · rw [Nat.testBit_two_pow_sub_one, decide_eq_false_iff_not] at hb
    show Way (fnD P (k : Int)) r 0
    rw [e]
    exact Way.start (by omega)
/-- What a step does to the sets, where the run goes on. -/
theorem safe_step (hR : ProofAns P 0) {S : St} {fs : List Fr} {f : Fr} {ms : List Nat} {m : Nat} (hI : RunInv P S) (hS : S.frames = fs ++ [f]) (h1 : SafeFs P fs ms) (h2 : SafeFr P f m) (hn : (stepS P S).status = 0) :
    ((stepS P S).frames.length = S.frames.length + 1 ∧ (insOfFr P f).op = 17 ∧ SafeFs P (stepS P S).frames (ms ++ [m] ++ [2 ^ (fnD P (insOfFr P f).imm).params.toNat - 1])) ∨
    ((stepS P S).frames.length + 1 = S.frames.length ∧ ∃ fs' up ms' m', fs = fs' ++ [up] ∧ ms = ms' ++ [m'] ∧ SafeFs P (stepS P S).frames (ms' ++ [m' ||| 2 ^ (insOfFr P up).dst.toNat])) ∨
    ((stepS P S).frames.length = S.frames.length ∧ (insOfFr P f).op ≠ 17 ∧ SafeFs P (stepS P S).frames (ms ++ [m ||| setMask (insOfFr P f)])) := by
  have hc := right_code hR
  obtain ⟨status, value, frames, mem, fuel, events, answers⟩ := S
  have hok := hI.fok
  clear hI
  dsimp only at hS hok
  subst hS
  obtain ⟨hok1, hp, hup⟩ := (fok_snoc P fs f).1 hok
  have hx := place_ins hc hp
  have hpc : 0 ≤ f.pc := by obtain ⟨k, j, hk, hj, e1, e2, _⟩ := place_nat hp; omega
  have hon : (insOfFr P f).op ≠ 15 → (insOfFr P f).op ≠ 19 → ∀ l, SafeFr P ⟨f.fn, f.pc + 1, l⟩ (m ||| setMask (insOfFr P f)) := fun a b l => h2.on hc hp (behind_next _ _ a b) (by omega) l
  have hju : (insOfFr P f).op = 15 ∨ (insOfFr P f).op = 16 → ∀ l, SafeFr P ⟨f.fn, (insOfFr P f).imm, l⟩ (m ||| setMask (insOfFr P f)) := fun a l => by
    have h0 : 0 ≤ (insOfFr P f).imm := by
      obtain ⟨k, j, hk, hj, e1, e2, e3, e4⟩ := place_nat hp
      have := ((flowOk_of hR (List.getElem_mem hk)).insD hj).2
      rw [insD_eq hj, ← e4] at this
      exact this a
    exact h2.on hc hp (behind_jump _ _ a) (by omega) l
  unfold stepS at hn ⊢
  dsimp only at hn ⊢
  by_cases hf : fuel = 0
  · rw [if_pos hf] at hn; cases hn
  rw [if_neg hf] at hn ⊢
  simp only [List.getLast?_concat, List.dropLast_concat] at hn ⊢
  by_cases hz : barredI (insOfFr P f) (regD f (insOfFr P f).a) (regD f (insOfFr P f).b) = 0
  · rw [if_pos hz] at hn ⊢
    unfold doS at hn ⊢
    dsimp only at hn ⊢
    by_cases o13 : (insOfFr P f).op = 13
    · rw [if_pos o13]; exact Or.inr (Or.inr ⟨by simp, by omega, h1.snoc (hon (by omega) (by omega) _)⟩)
    rw [if_neg o13] at hn ⊢
    by_cases o14 : (insOfFr P f).op = 14
    · rw [if_pos o14]; exact Or.inr (Or.inr ⟨by simp, by omega, h1.snoc (hon (by omega) (by omega) _)⟩)
    rw [if_neg o14] at hn ⊢
    by_cases o15 : (insOfFr P f).op = 15
    · rw [if_pos o15]; exact Or.inr (Or.inr ⟨by simp, by omega, h1.snoc (hju (by omega) _)⟩)
    rw [if_neg o15] at hn ⊢
    by_cases o16 : (insOfFr P f).op = 16
    · rw [if_pos o16]
      by_cases hr : regD f (insOfFr P f).a = 0
      · rw [if_pos hr]; exact Or.inr (Or.inr ⟨by simp, by omega, h1.snoc (hon (by omega) (by omega) _)⟩)
      · rw [if_neg hr]; exact Or.inr (Or.inr ⟨by simp, by omega, h1.snoc (hju (by omega) _)⟩)
    rw [if_neg o16] at hn ⊢
    by_cases o17 : (insOfFr P f).op = 17
    · rw [if_pos o17] at hn ⊢
      by_cases h8 : fs.length + 1 = 8
      · rw [if_pos h8] at hn; cases hn
      · rw [if_neg h8]
        obtain ⟨c0, c1, -, -⟩ := hx.call o17
        obtain ⟨t, ht⟩ := Int.eq_ofNat_of_zero_le c0
        refine Or.inl ⟨by simp, o17, ?_⟩
        have hb := (safe_begun hc (k := t) (by omega) ([regD f (insOfFr P f).a, regD f (insOfFr P f).b].take (fnD P (insOfFr P f).imm).params.toNat)).1
        rw [← ht] at hb
        have := (h1.snoc h2).snoc hb
        rw [List.append_assoc fs] at this
        exact this
    rw [if_neg o17] at hn ⊢
    by_cases o18 : (insOfFr P f).op = 18
    · rw [if_pos o18]; exact Or.inr (Or.inr ⟨by simp, by omega, h1.snoc (hon (by omega) (by omega) _)⟩)
    rw [if_neg o18] at hn ⊢
    by_cases o19 : (insOfFr P f).op = 19
    · rw [if_pos o19] at hn ⊢
      unfold retS at hn ⊢
      rcases h1.inv with ⟨rfl, rfl⟩ | ⟨fs', ms', up, m', rfl, rfl, k1, k2⟩
      · cases hn
      · simp only [List.getLast?_concat, List.dropLast_concat] at hn ⊢
        have h17 := (hup up (by simp)).1
        have hpu := ((fok_snoc P fs' up).1 hok1).2.1
        have hpc2 : 0 ≤ up.pc := by obtain ⟨k, j, hk, hj, e1, e2, _⟩ := place_nat hpu; omega
        have := k2.on hc hpu (behind_next _ _ (by omega) (by omega)) (z := up.pc + 1) (by omega) (up.regs.set (insOfFr P up).dst.toNat (regD f (insOfFr P f).a))
        rw [show setMask (insOfFr P up) = 2 ^ (insOfFr P up).dst.toNat by unfold setMask setsB; rw [h17]; rfl] at this
        exact Or.inr (Or.inl ⟨by simp, fs', up, ms', m', rfl, rfl, k1.snoc this⟩)
    rw [if_neg o19]
    exact Or.inr (Or.inr ⟨by simp, o17, h1.snoc (hon o15 o19 _)⟩)
  · rw [if_neg hz] at hn; exact absurd hn hz
/-- What is read was set; what is surely set was set. -/
theorem SafeFr.reads (hR : ProofAns P 0) {f : Fr} {m : Nat} (h : SafeFr P f m) (hp : placeB P f = true) (hw : ReachFr P f) {r : Nat} (hr : r < 12) (hb : (rdMask P (insOfFr P f)).testBit r = true) : m.testBit r = true := by
  obtain ⟨k, j, hk, hj, e1, e2, e3, e4⟩ := place_nat hp
  cases hm : m.testBit r with
  | true => rfl
  | false =>
    have hs := h.sure r hr hm
    unfold ReachFr at hw
    rw [e3, e2] at hs hw
    refine absurd hs (right_reads hR (List.getElem_mem hk) _ hj hw r hr ?_)
    rw [insD_eq hj]
    rw [e4] at hb
    exact hb
end
end Go.Proofs.YtgoefojdggblpaaDoor
