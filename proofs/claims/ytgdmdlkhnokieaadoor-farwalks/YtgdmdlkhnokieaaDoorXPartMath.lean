/- Machine code that is left and entered again (P13.3): the states that emit.Far hands on. -/
import Derived.Test.YtgdmdlkhnokieaaDoorXFarLoop
namespace Go.Proofs.YtgdmdlkhnokieaaDoor
open Go Go.RowKit

theorem RunInv.fuelTo {P : List Fn} {s : St} (h : RunInv P s) {x : Int} (h0 : 0 ≤ x) (h1 : x ≤ 10000) : RunInv P { s with fuel := x } := by
  have hm := (mayB_iff _).1 h.may
  exact ⟨(mayB_iff _).2 ⟨hm.1, hm.2.1, h0, h1, hm.2.2.2.2⟩, h.fok, h.reach, h.wf, h.mem⟩
/-- What machine code leaves as it is. -/
theorem far_pure {P : List Fn} (hR : ProofAns P 0) {k : Nat} (hk : k < P.length) {S : List Nat} {T : Nat → Nat} (hB : BlkOk P[k] S T) {s u : St} {f : Fr} (ho : OneSt P k (oneS s f) f) (h : FarTo P P[k] S T (oneS s f) u) :
    u.value = 0 ∧ u.events = [] ∧ u.answers = [] ∧ u.status = 0 ∧ ∃ g', u.frames = [g'] ∧ OneSt P k u g' := by
  obtain ⟨h1, -⟩ := FarTo.lift hR hk hB h (oneS s f) [] f ho rfl
  have e := h.unique hB.starts.rises h1
  obtain ⟨g', o1, o2, -⟩ := FarTo.why hR hk (flowOk_of hR (List.getElem_mem hk)) hB h f ho rfl
  refine ⟨?_, ?_, ?_, o2, g', o1.one, o1⟩
  · rw [e]; rfl
  · rw [e]; rfl
  · rw [e]; rfl
/-- What is handed back is what a run comes to. -/
theorem far_run {P : List Fn} (hR : ProofAns P 0) {k : Nat} (hk : k < P.length) {S : List Nat} {T : Nat → Nat} (hB : BlkOk P[k] S T) {s u : St} {fs : List Fr} {f : Fr} (hI : RunInv P s) (hst : s.status = 0) (hfr : s.frames = fs ++ [f]) (ho : OneSt P k (oneS s f) f) (h : FarTo P P[k] S T (oneS s f) u) :
    ∃ n : Nat, lft s fs u = walkS P n s ∧ u.fuel = s.fuel - n := by
  obtain ⟨h1, -⟩ := FarTo.lift hR hk hB h s fs f ho rfl
  rw [lft_one hfr hst] at h1
  obtain ⟨n, e1, -, e3⟩ := h1.walk (fun n hn => run_frames (runInv_walk hR n hI) hn) hst ((mayB_iff _).1 hI.may).2.2.1
  exact ⟨n, e1, e3⟩
/-- The last frame of a state that runs stands at a place. -/
theorem run_lastP {P : List Fn} {S : St} (h : RunInv P S) (h0 : S.status = 0) : ∃ (fs : List Fr) (f : Fr) (k j : Nat) (hk : k < P.length) (_ : j < P[k].code.length), S.frames = fs ++ [f] ∧ f.fn = k ∧ f.pc = j ∧ insOfFr P f = P[k].code[j]'(by assumption) ∧ Way P[k] 63 j := by
  have hne := run_frames h h0
  rcases List.eq_nil_or_concat S.frames with e | ⟨fs, f, e⟩
  · exact absurd e hne
  · rw [List.concat_eq_append] at e
    have hm : f ∈ S.frames := by rw [e]; simp
    obtain ⟨k, j, hk, hj, h1, h2, h3, h4⟩ := place_nat (h.fok.place f hm)
    have hr := h.reach f hm
    unfold ReachFr at hr
    rw [h3, h2] at hr
    exact ⟨fs, f, k, j, hk, hj, e, h1, h2, h4, by simpa using hr⟩
theorem one_last {P : List Fn} (hR : ProofAns P 0) {s : St} (hI : RunInv P s) (hst : s.status = 0) : ∃ (fs : List Fr) (f : Fr) (k j : Nat) (hk : k < P.length), j < P[k].code.length ∧ s.frames = fs ++ [f] ∧ f.fn = (k : Int) ∧ f.pc = (j : Int) ∧ insOfFr P f = insD P[k] j ∧ Way P[k] 63 f.pc.toNat ∧ OneSt P k (oneS s f) f := by
  obtain ⟨fs, f, k, j, hk, hj, e, e1, e2, e3, hw⟩ := run_lastP hI hst
  have hw2 : Way P[k] 63 f.pc.toNat := by rw [e2, Int.toNat_natCast]; exact hw
  exact ⟨fs, f, k, j, hk, hj, e, e1, e2, e3.trans (insD_eq hj).symm, hw2, one_ok hR hI.may hI.fok e (hI.wf f (by rw [e]; simp)) hI.mem hk e1 hw2⟩
/-- Left with less fuel, and entered again with the rest. -/
theorem far_parts {P : List Fn} (hR : ProofAns P 0) {k : Nat} (hk : k < P.length) {S S1 S2 : List Nat} {T T1 T2 : Nat → Nat} (hB : BlkOk P[k] S T) (hB1 : BlkOk P[k] S1 T1) (hB2 : BlkOk P[k] S2 T2) {s u0 u1 u2 : St} {fs : List Fr} {f f1 : Fr} {x : Int} (hx : x ≤ s.fuel)
    (ho1 : OneSt P k (oneS { s with fuel := x } f) f) (h0 : FarTo P P[k] S T (oneS s f) u0) (h1 : FarTo P P[k] S1 T1 (oneS { s with fuel := x } f) u1) (hf1 : u1.frames = [f1]) (h2 : FarTo P P[k] S2 T2 (oneS (addF (s.fuel - x) (lft { s with fuel := x } fs u1)) f1) u2) : u2 = u0 := by
  have h1 := h1.same hB1 hB
  have h2 := h2.same hB2 hB
  obtain ⟨a1, a2, a3, a4, g', a5, a6⟩ := far_pure hR hk hB ho1 h1
  have e : oneS (addF (s.fuel - x) (lft { s with fuel := x } fs u1)) f1 = addF (s.fuel - x) u1 := by
    obtain ⟨st, va, fr, me, fu, ev, an⟩ := u1
    simp only at a1 a2 a3 a4 hf1
    subst a1 a2 a3 a4 hf1
    rfl
  rw [e] at h2
  have h3 := FarTo.parts hR hk hB (s.fuel - x) (by omega) h1 f ho1 rfl u2 h2
  have e2 : addF (s.fuel - x) (oneS { s with fuel := x } f) = oneS s f := by
    unfold addF oneS
    simp only [St.mk.injEq, true_and, and_true]
    omega
  rw [e2] at h3
  exact h3.unique hB.starts.rises h0
end Go.Proofs.YtgdmdlkhnokieaaDoor
