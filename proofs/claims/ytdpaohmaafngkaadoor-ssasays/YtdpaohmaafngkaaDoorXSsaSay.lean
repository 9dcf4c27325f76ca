/- What SsaSays wants of what Build answers: what comes to each phi, and those that are others, as they are gathered. -/
import Derived.Test.YtdpaohmaafngkaaDoorXSsaTwo
namespace Go.Proofs.YtdpaohmaafngkaaDoor
open Go Go.RowKit

theorem newI_inj {g : List (Int × Int)} {ids : List Int} {u v : Int} (hu : u ≠ -1) (hv : v ≠ -1) (hu2 : stG g u ∈ ids) (hv2 : stG g v ∈ ids) (e : newI g ids u = newI g ids v) : stG g u = stG g v := by
  unfold newI at e
  rw [if_neg hu, if_neg hv, if_pos hu2, if_pos hv2] at e
  have e2 : ids.idxOf (stG g u) = ids.idxOf (stG g v) := by omega
  have h1 := List.getElem_idxOf (List.idxOf_lt_length_of_mem hu2)
  have h2 := List.getElem_idxOf (List.idxOf_lt_length_of_mem hv2)
  rw [← h1, ← h2]
  simp only [e2]
/-- Others that come to a phi, each once, as they are gathered. -/
def oth1 (id a : Int) (o : List Int) : List Int := if a = id ∨ a ∈ o then o else o ++ [a]
def othT (id : Int) (A : List Int) : Nat → List Int
  | 0 => []
  | k + 1 => oth1 id (A.getD k 0) (othT id A k)
theorem othT_mem {id : Int} {A : List Int} {a : Int} : ∀ {k : Nat}, a ∈ othT id A k ↔ ∃ j, j < k ∧ A.getD j 0 = a ∧ a ≠ id
  | 0 => by simp [othT]
  | k + 1 => by
    rw [othT]
    unfold oth1
    have ih := @othT_mem id A a k
    split
    · rename_i h
      rw [ih]
      constructor
      · rintro ⟨j, h1, h2⟩; exact ⟨j, by omega, h2⟩
      · rintro ⟨j, h1, h2, h3⟩
        by_cases e : j = k
        · subst e
          rw [h2] at h
          rcases h with h | h
          · exact absurd h h3
          · exact ih.1 h
        · exact ⟨j, by omega, h2, h3⟩
    · rename_i h
      rw [List.mem_append, ih, List.mem_singleton]
      constructor
      · rintro (⟨j, h1, h2⟩ | rfl)
        · exact ⟨j, by omega, h2⟩
        · exact ⟨k, by omega, rfl, fun e => h (Or.inl e)⟩
      · rintro ⟨j, h1, h2, h3⟩
        by_cases e : j = k
        · subst e; exact Or.inr h2.symm
        · exact Or.inl ⟨j, by omega, h2, h3⟩
theorem othT_len (id : Int) (A : List Int) : ∀ k, (othT id A k).length ≤ k
  | 0 => Nat.le_refl _
  | k + 1 => by
    have := othT_len id A k
    rw [othT]; unfold oth1
    split
    · omega
    · rw [List.length_append, List.length_singleton]; omega
theorem two_len {l : List Int} {a b : Int} (ha : a ∈ l) (hb : b ∈ l) (h : a ≠ b) : 2 ≤ l.length := by
  match l, ha, hb with
  | [x], ha, hb => simp at ha hb; omega
  | x :: y :: t, _, _ => simp
theorem SsaIs.says {P : List Fn} {f : Fn} {S : List Nat} {T : Nat → Nat} {L : List Int} {pn : Nat} {g : List (Int × Int)} {D : PDat} (h : SsaIs P f S T L pn g D) (ok : FlowOk P f) (hU : ∀ q, q < f.code.length → Way f 63 q → ∀ r, r < 12 → (rdMask P (insD f q)).testBit r = true → ¬ Way f r q) {ar : Nat → List Int} {w : World} {base gp : Nat} {Ly : PLay} (hp : PartsAt w base gp S.length (finD pn S.length g D ar) Ly) :
    ∀ i, i < S.length → ∃ (ao : Option Addr) (q c np : Nat), np ≤ 12 ∧ np ≤ c ∧ (0 < np → ao = some ⟨q, 0, none⟩) ∧ (∀ W, Below w.heap.size w W → W.cell? ⟨gp, i * 15 + 1, none⟩ = some (.slice ao np c)) ∧
      ∀ j, j < np → ∃ (r : Nat) (id : Int) (aA : Option Addr) (qA oA nA cA : Nat) (A : List Int), A.length = nA ∧ nA ≤ 1000 ∧ nA ≤ cA ∧ (0 < nA → aA = some ⟨qA, oA, none⟩) ∧ (∀ k, k < nA → 0 ≤ A.getD k 0 ∧ A.getD k 0 < ((idsD pn S.length D).length : Int)) ∧ 2 ≤ (othT id A nA).length ∧ (∀ W, Below w.heap.size w W → W.rangeAt q (j * 3) [.int .i64 (r : Int), .int .i64 id, .slice aA nA cA]) ∧ ∀ W, Below w.heap.size w W → ∀ k, k < nA → W.cell? ⟨qA, oA + k, none⟩ = some (.int .i64 (A.getD k 0)) := fun i hi => by
  obtain ⟨ao, q, c, e, hc, h0, hj⟩ := hp.phs hi
  have hF : (finD pn S.length g D ar).ph i = (D.ph i).map (phN (newI g (idsD pn S.length D))) := finD_ph _ _ _ _ _ hi
  have hFl : ((finD pn S.length g D ar).ph i).length = (D.ph i).length := by rw [hF, List.length_map]
  have hl12 : (D.ph i).length ≤ 12 := Nat.le_trans (h.left.ph i hi).length_le (phi_len f S T L i)
  rw [hFl] at e hc h0
  refine ⟨ao, q, c, (D.ph i).length, hl12, hc, h0, fun W hW => by rw [(hp.below hW).cellP hi, e], fun j hjl => ?_⟩
  have hjF : j < ((finD pn S.length g D ar).ph i).length := by rw [hFl]; exact hjl
  have hx : ((finD pn S.length g D ar).ph i)[j] = phN (newI g (idsD pn S.length D)) (D.ph i)[j] := by simp only [hF, List.getElem_map]
  have hreg := (h.phi ok (ar := ar) hi (List.getElem_mem hjF)).2.1
  have hfit := (hp.fit i hi _ (List.getElem_mem hjF)).2
  have hI := ints_of_own (hp.args.own (12 * i + ((finD pn S.length g D ar).ph i)[j].reg) (by omega))
  have hrow := fun W hW => (hj W hW j hjF).2.2.2
  have hm : (D.ph i)[j] ∈ D.ph i := List.getElem_mem hjl
  obtain ⟨r0, hr0, -, e0, -, hid0, hlw⟩ := phi_form ok h.ok h.live hi ((h.left.ph i hi).subset hm)
  rw [hfit] at hI
  obtain ⟨aA, qA, oA, nA, cA, eV, hlA, haA, hcA, hnc, -⟩ := ints_get hI
  have hargs : ((finD pn S.length g D ar).ph i)[j].args = (D.ph i)[j].args.map (newI g (idsD pn S.length D)) := by rw [hx]; rfl
  have hids : ((finD pn S.length g D ar).ph i)[j].id = newI g (idsD pn S.length D) (D.ph i)[j].id := by rw [hx]; rfl
  have hpl : (D.ph i)[j].args.length = (prevs f S T i).length := by rw [e0]; show (List.map _ _).length = _; rw [List.length_map]
  have hnl : nA = (D.ph i)[j].args.length := by rw [← hlA, hargs, List.length_map]
  have h40 := blocks40 ok h.ok
  have hraw : ∀ a ∈ (D.ph i)[j].args, a ≠ -1 ∧ stG g a ∈ idsD pn S.length D := fun a ha => by
    rw [e0] at ha
    obtain ⟨z, hz, rfl⟩ := List.mem_map.1 ha
    have h1 := beh_there ok hU h.ok h.live hi hr0 hlw hz
    exact ⟨h1, h.counted ok hU ((raw_beh ok h.ok h.par hz r0 hr0).resolve_left h1)⟩
  have hget : ∀ k, k < nA → ∃ a ∈ (D.ph i)[j].args, (((finD pn S.length g D ar).ph i)[j].args).getD k 0 = newI g (idsD pn S.length D) a := fun k hk => by
    have hk2 : k < (D.ph i)[j].args.length := by omega
    refine ⟨(D.ph i)[j].args[k], List.getElem_mem hk2, ?_⟩
    rw [hargs, getD_map _ _ (0 : Int) 0 hk2]
    simp [List.getD, hk2]
  refine ⟨((finD pn S.length g D ar).ph i)[j].reg, ((finD pn S.length g D ar).ph i)[j].id, aA, qA, oA, nA, cA, ((finD pn S.length g D ar).ph i)[j].args, hlA, ?_, hnc, haA, fun k hk => ?_, ?_, fun W hW => ?_, fun W hW k hk => keeps_below hW _ _ (hcA k hk)⟩
  · rw [hnl, hpl]; exact prevs_len h40
  · obtain ⟨a, ha, e1⟩ := hget k hk
    obtain ⟨h1, h2⟩ := hraw a ha
    rw [e1]
    exact ⟨(newI_there _ _ _).2 h1, newI_lt (Or.inr h2)⟩
  · obtain ⟨a, ha, c2, hc2, n1, n2, n3, n4⟩ := h.two ok hU hi hm
    have hidm : (D.ph i)[j].id ≠ -1 := by rw [hid0]; unfold phiI; omega
    have hidc : stG g (D.ph i)[j].id ∈ idsD pn S.length D := by
      rw [n4]
      obtain ⟨rest, hrest⟩ := idsTo_phi (params := pn) (IN := D.ins) hi hjl
      unfold idsD; rw [hrest]; simp
    have hone : ∀ b ∈ (D.ph i)[j].args, stG g b ≠ (D.ph i)[j].id → newI g (idsD pn S.length D) b ∈ othT ((finD pn S.length g D ar).ph i)[j].id ((finD pn S.length g D ar).ph i)[j].args nA := fun b hb hne => by
      obtain ⟨k, hk, ek⟩ := List.getElem_of_mem hb
      refine othT_mem.2 ⟨k, by omega, ?_, fun e3 => ?_⟩
      · rw [hargs, getD_map _ _ (0 : Int) 0 hk]
        simp [List.getD, hk, ek]
      · rw [hids] at e3
        have := newI_inj (hraw b hb).1 hidm (hraw b hb).2 hidc e3
        rw [n4] at this
        exact hne this
    exact two_len (hone a ha n1) (hone c2 hc2 n2) (fun e3 => n3 (newI_inj (hraw a ha).1 (hraw c2 hc2).1 (hraw a ha).2 (hraw c2 hc2).2 e3))
  · have := hrow W hW
    unfold phC at this
    rw [eV] at this
    exact this
end Go.Proofs.YtdpaohmaafngkaaDoor
