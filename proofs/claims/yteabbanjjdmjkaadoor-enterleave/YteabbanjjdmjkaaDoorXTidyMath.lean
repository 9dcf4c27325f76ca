/- What is tidied agrees on what is live, goes on as it would have, and is tidy. -/
import Derived.Test.YteabbanjjdmjkaaDoorXTidDef
import Derived.Test.YteabbanjjdmjkaaDoorGroupL
namespace Go.Proofs.YteabbanjjdmjkaaDoor
open Go Go.RowKit

theorem mask_exists (p : Nat → Prop) : ∀ n, ∃ m : Nat, m < 2 ^ n ∧ ∀ r, r < n → (m.testBit r = true ↔ p r)
  | 0 => ⟨0, by simp, fun r hr => by omega⟩
  | n + 1 => by
    classical
    obtain ⟨m, hm, h⟩ := mask_exists p n
    by_cases hp : p n
    · refine ⟨m ||| 2 ^ n, Nat.or_lt_two_pow (Nat.lt_of_lt_of_le hm (Nat.pow_le_pow_right (by omega) (by omega))) (Nat.pow_lt_pow_right (by omega) (by omega)), fun r hr => ?_⟩
      rw [Nat.testBit_or, Nat.testBit_two_pow]
      rcases Nat.lt_or_ge r n with hrn | hrn
      · rw [← h r hrn]; simp [show n ≠ r by omega]
      · obtain rfl : r = n := by omega
        simp [hp]
    · refine ⟨m, Nat.lt_of_lt_of_le hm (Nat.pow_le_pow_right (by omega) (by omega)), fun r hr => ?_⟩
      rcases Nat.lt_or_ge r n with hrn | hrn
      · exact h r hrn
      · obtain rfl : r = n := by omega
        rw [Nat.testBit_lt_two_pow hm]
        simp [hp]
theorem live_exists (P : List Fn) (f : Fn) : ∃ L, LiveSpec P f L := by
  classical
  refine ⟨(List.range f.code.length).map fun q => if Way f 63 q then (((mask_exists (fun r => LiveW P f r q) 12).choose : Nat) : Int) else -1, by simp, fun q hq => ?_⟩
  have e : ((List.range f.code.length).map fun q => if Way f 63 q then (((mask_exists (fun r => LiveW P f r q) 12).choose : Nat) : Int) else -1).getD q 0 = if Way f 63 q then (((mask_exists (fun r => LiveW P f r q) 12).choose : Nat) : Int) else -1 := by simp [List.getD, hq]
  rw [e]
  by_cases hw : Way f 63 q
  · rw [if_pos hw]
    obtain ⟨h1, h2⟩ := (mask_exists (fun r => LiveW P f r q) 12).choose_spec
    exact Or.inr ⟨hw, _, h1, rfl, h2⟩
  · rw [if_neg hw]; exact Or.inl ⟨hw, rfl⟩
theorem liveL_spec {P : List Fn} {k : Nat} (hk : k < P.length) : LiveSpec P P[k] (liveL P k) := by
  obtain ⟨L, hL⟩ := live_exists P P[k]
  have e := liveL_eq hk hL
  rw [← e]; exact hL
theorem tidR_get (regs : List Int) (m r : Nat) (hr : r < 12) : (tidR regs m).getD r 0 = if m.testBit r = true then regs.getD r 0 else 0 := by
  simp [tidR, List.getD, hr]
theorem tidR_idem (regs : List Int) (m : Nat) : tidR (tidR regs m) m = tidR regs m := by
  unfold tidR
  refine List.map_congr_left fun r hr => ?_
  have hr' : r < 12 := by simpa using hr
  by_cases hb : m.testBit r = true
  · rw [if_pos hb, if_pos hb]
    have := tidR_get regs m r hr'
    rw [if_pos hb] at this
    exact this
  · rw [if_neg hb, if_neg hb]
theorem tidF_idem (P : List Fn) (f : Fr) : tidF P (tidF P f) = tidF P f := by
  unfold tidF
  dsimp only
  rw [tidR_idem]
theorem tidS_idem (P : List Fn) (s : St) : tidS P (tidS P s) = tidS P s := by
  unfold tidS
  dsimp only
  rw [List.map_map]
  congr 1
  exact List.map_congr_left fun f _ => tidF_idem P f
/-- What is not live is nought, and the rest as it was. -/
theorem tidF_ag {P : List Fn} {f : Fr} (hp : placeB P f = true) (hr : ReachFr P f) (hl : f.regs.length = 12) : AgFr P f (tidF P f) := by
  obtain ⟨k, j, hk, hj, e1, e2, e3, e4⟩ := place_nat hp
  have hL := liveL_spec hk
  refine ⟨rfl, rfl, by show (tidR _ _).length = _; rw [tidR_len, hl], fun r hr12 hlv => ?_⟩
  show (tidR f.regs ((liveL P f.fn.toNat).getD f.pc.toNat 0).toNat).getD r 0 = _
  rw [tidR_get _ _ _ hr12, e1, e2, Int.toNat_natCast, Int.toNat_natCast]
  rw [e1] at hlv e3
  rw [e2] at hlv
  unfold ReachFr at hr
  rw [e1, e2] at hr
  rw [e3] at hr hlv
  rw [Int.toNat_natCast] at hr hlv
  rcases hL.2 j hj with ⟨h, _⟩ | ⟨_, m, hm, e, hb⟩
  · exact absurd hr h
  · rw [e, Int.toNat_natCast, if_pos ((hb r hr12).2 hlv)]
theorem tid_ags {P : List Fn} : ∀ (l : List Fr), (∀ f ∈ l, placeB P f = true ∧ ReachFr P f ∧ f.regs.length = 12) → AgFs P l (l.map (tidF P)) := by
  intro l
  rw [← List.reverse_reverse l]
  generalize l.reverse = r
  induction r with
  | nil => intro _; exact .nil
  | cons x r ih =>
    intro h
    rw [List.reverse_cons, List.map_append]
    obtain ⟨h1, h2, h3⟩ := h x (by simp)
    exact (ih (fun f hf => h f (by simp at hf ⊢; exact Or.inl hf))).snoc (tidF_ag h1 h2 h3)
theorem tid_ag {P : List Fn} {S : St} (h : RunInv P S) : AgFs P S.frames (S.frames.map (tidF P)) :=
  tid_ags _ fun f hf => ⟨fok_all _ h.fok f hf, h.reach f hf, h.wf f hf⟩
theorem tid_inv {P : List Fn} {S : St} (h : RunInv P S) : RunInv P (tidS P S) := ag_inv h (tid_ag h)
/-- A tidy state goes on as it would have. -/
theorem tid_walk {P : List Fn} (hR : ProofAns P 0) {S : St} (h : RunInv P S) (n : Nat) : (walkS P n (tidS P S)).status = (walkS P n S).status ∧ (walkS P n (tidS P S)).value = (walkS P n S).value ∧ (walkS P n (tidS P S)).mem = (walkS P n S).mem ∧ (walkS P n (tidS P S)).fuel = (walkS P n S).fuel := by
  obtain ⟨gs, e, -⟩ := ag_walk hR n h (tid_ag h)
  have e' : walkS P n (tidS P S) = { walkS P n S with frames := gs } := e
  rw [e']
  exact ⟨rfl, rfl, rfl, rfl⟩
end Go.Proofs.YteabbanjjdmjkaaDoor
