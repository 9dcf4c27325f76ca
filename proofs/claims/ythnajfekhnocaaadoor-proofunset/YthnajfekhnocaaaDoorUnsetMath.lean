/- A program whose first function was changed: plain mathematics, and how it lies in memory. -/
import Derived.Test.YthnajfekhnocaaaDoorFullMath
import Derived.Test.YthnajfekhnocaaaDoorProgRaw
namespace Go.Proofs.YthnajfekhnocaaaDoor
open Go Go.RowKit

theorem checks_zero {P : List Fn} : ∀ {fs : List Fn} {E : Int}, (∀ f ∈ fs, ∀ L, SureSpec f L → proveE P f L = 0) → ChecksTo P fs E → E = 0
  | [], _, _, h => h
  | f :: fs, E, hz, ⟨e, ⟨L, hL, he⟩, h⟩ => by
    have e0 : e = 0 := by rw [he]; exact hz f (by simp) L hL
    rcases h with ⟨h1, _⟩ | ⟨_, h⟩
    · exact absurd e0 h1
    · exact checks_zero (fun g hg => hz g (by simp [hg])) h
theorem right_of {l P : List Fn} (h : ProgIs l P) {E : Int} (hE : ProofAns P E) : E = 0 := by
  rcases h with ⟨h1, rfl⟩ | ⟨_, rfl⟩
  · exact proofAns_unique hE h1
  · rcases hE with ⟨h2, _⟩ | ⟨_, h2⟩
    · exact absurd (full_ok l) h2
    · exact checks_zero (fun f hf L hL => proves_full l hf hL) h2

theorem codeProg_cons {f : Fn} {fs : List Fn} {g : Fn} (h : codeProg (f :: fs) = 0) (hg : codeFunc g ((g :: fs).length : Int) = 0) : codeProg (g :: fs) = 0 := by
  obtain ⟨h1, h4, hall⟩ := codeProg_zero h
  have hl : (g :: fs).length = (f :: fs).length := by simp
  unfold codeProg
  rw [if_neg (by omega), if_neg (by omega)]
  refine firstErr_all fun x hx => ?_
  rcases List.mem_cons.1 hx with rfl | hx
  · exact hg
  · rw [hl]; exact hall x (by simp [hx])

/-- A function that returns a register that was not set. -/
theorem unset_six {f : Fn} {fs : List Fn} (h : codeProg (f :: fs) = 0) {n : Int} (h1 : f.params ≤ n) (h2 : n < 12) {E : Int} (hE : ProofAns (⟨f.params, 12, [⟨19, 0, n, 0, 0⟩]⟩ :: fs) E) : E = 6 := by
  obtain ⟨hn1, hn4, hall⟩ := codeProg_zero h
  obtain ⟨r1, r2, p0, p2, pr, l1, l2, _⟩ := codeFunc_zero (hall f (by simp))
  have hQ : codeProg (⟨f.params, 12, [⟨19, 0, n, 0, 0⟩]⟩ :: fs) = 0 := by
    refine codeProg_cons h ?_
    unfold codeFunc
    dsimp only [List.length_singleton]
    rw [if_neg (by omega), if_neg (by omega), if_neg (by omega), if_neg (by omega), if_neg (by omega), if_neg (by simp), if_neg (by simp)]
    refine firstErr_all fun y hy => ?_
    simp at hy
    subst hy
    rw [instr_same]
    simp [refInstr, refOk1, refOk2, regMayB, setsB, readsAB, readsBB, inB]; omega
  rcases hE with ⟨h3, _⟩ | ⟨_, e, ⟨L, hL, he⟩, h3⟩
  · exact absurd hQ h3
  · have hb : e = 6 := by
      rw [he]
      refine prove_bad (k := 0) (by simp) ?_
      have hw : Way ⟨f.params, 12, [⟨19, 0, n, 0, 0⟩]⟩ n.toNat 0 := Way.start (by simp; omega)
      rcases hL.2 0 (by simp) with ⟨hn, _⟩ | ⟨_, m, hm, e0, hbit⟩
      · exact absurd (Way.start (f := ⟨f.params, 12, [⟨19, 0, n, 0, 0⟩]⟩) (r := 63) (by simp; omega)) hn
      · rw [e0]
        have hx : insD ⟨f.params, 12, [⟨19, 0, n, 0, 0⟩]⟩ 0 = ⟨19, 0, n, 0, 0⟩ := rfl
        rw [hx]
        have ht : m.testBit n.toNat = false := by
          cases hc : m.testBit n.toNat
          · rfl
          · exact absurd hw ((hbit n.toNat (by omega)).1 hc)
        unfold badB
        have hd : decide (0 ≤ (m : Int)) = true := by simp
        rw [hd, Bool.true_and, List.any_eq_true]
        exact ⟨n, by simp [readsL, rdA, rdB, readsAB, readsBB], by rw [hasB_bit]; simp [ht]⟩
    rcases h3 with ⟨_, rfl⟩ | ⟨h4, _⟩
    · exact hb
    · rw [hb] at h4; cases h4

/-- A function that runs out of itself. -/
theorem end_seven {f : Fn} {fs : List Fn} (h : codeProg (f :: fs) = 0) {E : Int} (hE : ProofAns (⟨f.params, f.regs, [⟨1, 0, 0, 0, 1⟩]⟩ :: fs) E) : E = 7 := by
  obtain ⟨hn1, hn4, hall⟩ := codeProg_zero h
  obtain ⟨r1, r2, p0, p2, pr, l1, l2, _⟩ := codeFunc_zero (hall f (by simp))
  have hQ : codeProg (⟨f.params, f.regs, [⟨1, 0, 0, 0, 1⟩]⟩ :: fs) = 0 := by
    refine codeProg_cons h ?_
    unfold codeFunc
    dsimp only [List.length_singleton]
    rw [if_neg (by omega), if_neg (by omega), if_neg (by omega), if_neg (by omega), if_neg (by omega), if_neg (by simp), if_neg (by simp)]
    refine firstErr_all fun y hy => ?_
    simp at hy
    subst hy
    rw [instr_same]
    simp [refInstr, refOk1, refOk2, regMayB, setsB, readsAB, readsBB, inB]; omega
  rcases hE with ⟨h3, _⟩ | ⟨_, e, ⟨L, hL, he⟩, h3⟩
  · exact absurd hQ h3
  · have hb : e = 7 := by
      rw [he, prove_good, if_neg]
      · have hw : Way ⟨f.params, f.regs, [⟨1, 0, 0, 0, 1⟩]⟩ 63 1 := Way.step (pc := 0) (by simp) (Way.start (by simp; omega)) (by show (setMask ⟨1, 0, 0, 0, 1⟩).testBit 63 = false; decide) (by show 1 ∈ behind ⟨1, 0, 0, 0, 1⟩ 0; decide)
        rcases hL.2 1 (by simp) with ⟨hn, _⟩ | ⟨_, m, hm, e0, _⟩
        · exact absurd hw hn
        · have : L.getD 1 0 = m := e0
          show ¬ L.getD 1 0 = -1
          omega
      · intro k hk
        have : k = 0 := by simpa using hk
        subst this
        have hx : insD ⟨f.params, f.regs, [⟨1, 0, 0, 0, 1⟩]⟩ 0 = ⟨1, 0, 0, 0, 1⟩ := rfl
        rw [hx]
        simp [badB, readsL, rdA, rdB, readsAB, readsBB]
    rcases h3 with ⟨_, rfl⟩ | ⟨h4, _⟩
    · exact hb
    · rw [hb] at h4; cases h4

theorem prog_of_row {w : World} {base tF : Nat} {v : Value} {p : List Fn} {us : List Value} (hlen : us.length = p.length) (h : w.ownsRow base tF 3 v p.length (fnsCells p us)) (hcodes : ∀ i (hi : i < p.length), CodeVal w (us[i]'(by omega)) p[i].code) : ProgVal w v p := by
  have hc := @World.ownsRow.cells _ _ _ _ _ _ _ h
  rcases h.2 with ⟨rfl, h0⟩ | ⟨g, cap, cur, rfl, _, hg, hn, hm, _, _⟩
  · have : p = [] := List.length_eq_zero_iff.1 h0
    subst this
    exact ⟨none, 0, 0, 0, 0, rfl, ⟨rfl, fun h => by omega, fun k h => by simp at h⟩, ⟨Nat.le_refl _, fun _ => rfl⟩, by simp [maxLen]⟩
  · refine ⟨some ⟨g, 0, none⟩, g, 0, p.length, cap, rfl, ⟨rfl, fun _ => rfl, fun k hk => ?_⟩, ⟨hn, fun h => by cases h⟩, hm⟩
    have cell : ∀ j u, (fnsCells p us)[j]? = some u → w.cell? ⟨g, j, none⟩ = some u := fun j u hu => by
      have := hc (g := g) rfl j u hu
      have hadd : (⟨g, 0, none⟩ : Addr).add j = ⟨g, j, none⟩ := by unfold Addr.add; split <;> simp_all
      rwa [hadd] at this
    refine ⟨us[k]'(by rw [hlen]; exact hk), ?_, ?_, ?_, hcodes k hk⟩
    · simpa using cell (k * 3 + 0) _ (fnsCells_get p us hlen k 0 hk (by omega))
    · rw [Nat.zero_add]; exact cell (k * 3 + 1) _ (fnsCells_get p us hlen k 1 hk (by omega))
    · rw [Nat.zero_add]; exact cell (k * 3 + 2) _ (fnsCells_get p us hlen k 2 hk (by omega))

end Go.Proofs.YthnajfekhnocaaaDoor
