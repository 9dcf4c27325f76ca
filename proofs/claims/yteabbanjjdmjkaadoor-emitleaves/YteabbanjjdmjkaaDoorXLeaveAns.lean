/- emit.Leave and the document's LeftBy answer the same at every program, state and machine. -/
import Derived.Test.YteabbanjjdmjkaaDoorXLeaveBad
import Derived.Test.YteabbanjjdmjkaaDoorXLeftRefOk
import Derived.Test.YteabbanjjdmjkaaDoorXTopFr
namespace Go.Proofs.YteabbanjjdmjkaaDoor
open Go Go.RowKit

/-- Where a machine that leaves has come to. -/
noncomputable def leM (P : List Fn) (s : St) (c : Cp) : Nat := ((liveL P (topF s).fn.toNat).getD (c.data.getD 29 0).toNat 0).toNat
noncomputable def leE (P : List Fn) (s : St) (d : Int) (c : Cp) : Int := by
  classical exact if runE d s = 0 then (if leaveOk c.data (liveL P (topF s).fn.toNat) s.fuel then 0 else 5) else runE d s
noncomputable def leA (P : List Fn) (s : St) (d : Int) (c : Cp) : St := by
  classical exact if leE P s d c = 0 then leftS s s.frames.dropLast (topF s) c.data (leM P s c) else zeroSt
theorem le_cases (P : List Fn) (s : St) (d : Int) (c : Cp) (h0 : d = 0 → ProofAns P 0 ∧ mayB s = true ∧ FOk P s.frames) :
    (¬ runE d s = 0 ∧ leE P s d c = runE d s ∧ leA P s d c = zeroSt) ∨
    (∃ fs f, d = 0 ∧ s.status = 0 ∧ s.frames = fs ++ [f] ∧ ¬ leaveOk c.data (liveL P f.fn.toNat) s.fuel ∧ leE P s d c = 5 ∧ leA P s d c = zeroSt) ∨
    (∃ fs f, ∃ m : Nat, d = 0 ∧ s.status = 0 ∧ s.frames = fs ++ [f] ∧ leaveOk c.data (liveL P f.fn.toNat) s.fuel ∧ (liveL P f.fn.toNat).getD (c.data.getD 29 0).toNat 0 = (m : Int) ∧ m < 4096 ∧ leE P s d c = 0 ∧ leA P s d c = leftS s fs f c.data m) := by
  by_cases hr : runE d s = 0
  · obtain ⟨rfl, hst⟩ := runE_zero hr
    obtain ⟨hR, hm, hf⟩ := h0 rfl
    obtain ⟨fs, f, hfr⟩ := may_last hm hst
    have ht := topF_snoc hfr
    by_cases hl : leaveOk c.data (liveL P f.fn.toNat) s.fuel
    · obtain ⟨k, hk, hfn⟩ : ∃ k : Nat, k < P.length ∧ f.fn = k := by
        have hp := ((fok_snoc P fs f).1 (by rw [← hfr]; exact hf)).2.1
        obtain ⟨k, j, hk, hj, e1, e2, e3, e4⟩ := place_nat hp
        exact ⟨k, hk, e1⟩
      have hkk : f.fn.toNat = k := by omega
      have hL := liveL_spec hk
      have hl' := hl
      unfold leaveOk at hl'
      rw [hkk] at hl'
      have e0 : leE P s 0 c = 0 := by unfold leE; rw [if_pos hr, ht, if_pos hl]
      rcases live_val hL (q := (c.data.getD 29 0).toNat) (by rw [← hL.1]; omega) with e | ⟨m, hm4, e⟩
      · exact absurd e hl'.2.2.1
      · refine Or.inr (Or.inr ⟨fs, f, m, rfl, hst, hfr, hl, by rw [hkk]; exact e, hm4, e0, ?_⟩)
        unfold leA
        rw [if_pos e0, ht]
        have e1 : leM P s c = m := by unfold leM; rw [ht, hkk, e]; simp
        rw [e1, hfr, List.dropLast_concat]
    · have e5 : leE P s 0 c = 5 := by unfold leE; rw [if_pos hr, ht, if_neg hl]
      refine Or.inr (Or.inl ⟨fs, f, rfl, hst, hfr, hl, e5, ?_⟩)
      unfold leA
      rw [if_neg (by rw [e5]; decide)]
  · have e0 : leE P s d c = runE d s := by unfold leE; rw [if_neg hr]
    refine Or.inl ⟨hr, e0, ?_⟩
    unfold leA
    rw [if_neg (by rw [e0]; exact hr)]
theorem leave_all (P : List Fn) (v sv : Value) (s : St) (d : Int) (c : Cp) (w : World) (ht : TabOk w) (hc : CallOk w) (hv : ProgVal w v P) (hs : StVal w sv s) (hE : ∀ E, ProofAns P E → checkE E P s = d) (h0 : d = 0 → ProofAns P 0 ∧ mayB s = true ∧ FOk P s.frames) (he : s.events.length * 8 ≤ 140737488351232) (hcp : c.Ok) :
    Calls Tryd.prog 10 #[.agg #[v], sv, c.val] w fun e w' => ∃ cs, e = .returned (.tuple #[.agg cs, .int .i64 (leE P s d c)]) ∧ (Tryd.prog.info? 29).map (·.size) = some cs.size ∧ zeroStCells.size = cs.size ∧ cs.all (·.oneCell') = true ∧ StAt w' w.heap.size (.agg cs) (leA P s d c) ∧ Below w.heap.size w w' := by
  rcases le_cases P s d c h0 with ⟨hr, e1, e2⟩ | ⟨fs, f, rfl, hst, hfr, hl, e1, e2⟩ | ⟨fs, f, m, rfl, hst, hfr, hl, hml, hm4, e1, e2⟩
  · rw [e1, e2]
    refine (leave_bad P v sv s d c w ht hc hv hs hE h0 he hr).mono ?_
    rintro e w' ⟨rfl, hb⟩
    exact ⟨zeroStCells, rfl, infoSt, rfl, zeroSt_one, zero_stAt _ _, hb⟩
  · rw [e1, e2]
    obtain ⟨hR, hm, hf⟩ := h0 rfl
    refine (leave_form P v sv s f fs c w ht hc hR hm hf hv hs he hst hfr hcp hl).mono ?_
    rintro e w' ⟨rfl, hb⟩
    exact ⟨zeroStCells, rfl, infoSt, rfl, zeroSt_one, zero_stAt _ _, hb⟩
  · rw [e1, e2]
    obtain ⟨hR, hm, hf⟩ := h0 rfl
    refine (leave_ok P v sv s f fs c m w ht hc hR hm hf hv hs he hst hfr hcp hl hml hm4).mono ?_
    rintro e w' ⟨cs, rfl, hsp, hb⟩
    obtain ⟨cs', hcs, c1, c2, c3⟩ := hsp.at.val.cells
    obtain rfl := Value.agg.inj hcs
    exact ⟨cs, rfl, c1, c2, c3, hsp.at, hb⟩
theorem left_all (P : List Fn) (v sv : Value) (s : St) (d : Int) (c : Cp) (w : World) (hv : ProgVal w v P) (hs : StVal w sv s) (hE : ∀ E, ProofAns P E → checkE E P s = d) (h0 : d = 0 → ProofAns P 0 ∧ mayB s = true ∧ FOk P s.frames) (h1 : s.frames.length * 112 ≤ 140737488351232) (h2 : s.events.length * 8 ≤ 140737488351232) (h3 : s.answers.length * 8 ≤ 140737488351232) (hcp : c.Ok) :
    Calls Tryd.prog 13 #[.agg #[v], sv, c.val] w fun e w' => ∃ cs, e = .returned (.tuple #[.agg cs, .int .i64 (leE P s d c)]) ∧ (Tryd.prog.info? 29).map (·.size) = some cs.size ∧ zeroStCells.size = cs.size ∧ cs.all (·.oneCell') = true ∧ StVal w' (.agg cs) (leA P s d c) ∧ Below w.heap.size w w' := by
  rcases le_cases P s d c h0 with ⟨hr, e1, e2⟩ | ⟨fs, f, rfl, hst, hfr, hl, e1, e2⟩ | ⟨fs, f, m, rfl, hst, hfr, hl, hml, hm4, e1, e2⟩
  · rw [e1, e2]
    refine (left_bad P v sv s d c w hv hs hE hr).mono ?_
    rintro e w' ⟨rfl, hb⟩
    exact ⟨zeroStCells, rfl, infoSt, rfl, zeroSt_one, zero_stVal _, hb⟩
  · rw [e1, e2]
    obtain ⟨hR, hm, hf⟩ := h0 rfl
    refine (left_form P v sv s f fs c w hR hf hE hv hs hst hfr hcp hl).mono ?_
    rintro e w' ⟨rfl, hb⟩
    exact ⟨zeroStCells, rfl, infoSt, rfl, zeroSt_one, zero_stVal _, hb⟩
  · rw [e1, e2]
    obtain ⟨hR, hm, hf⟩ := h0 rfl
    refine (left_ok P v sv s f fs c m w hR hf hE hv hs hst hfr hcp hl hml hm4 h1 (by omega) (by omega)).mono ?_
    rintro e w' ⟨cs, rfl, hsp, hb⟩
    obtain ⟨cs', hcs, c1, c2, c3⟩ := hsp.at.val.cells
    obtain rfl := Value.agg.inj hcs
    exact ⟨cs, rfl, c1, c2, c3, hsp.at.val, hb⟩
end Go.Proofs.YteabbanjjdmjkaaDoor
