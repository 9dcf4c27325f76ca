/- How much is left of a program: plain mathematics; what Where and Program answer of right programs. -/
import Derived.Test.YtpkgibdbmmhgdaaDoorXTrimAll
import Derived.Test.YtpkgibdbmmhgdaaDoorGroupF
namespace Go.Proofs.YtpkgibdbmmhgdaaDoor
open Go Go.RowKit

theorem whereI_gone (s : List Bool) (i : Nat) : whereI s i = -1 ↔ s.getD i false = false := by
  cases h : s.getD i false
  · simp [whereI_no h]
  · rw [whereI_yes h]; simp
theorem moved_count {f : Fn} {s : List Bool} {F : List Int} {k : Nat} (hk : k ≤ s.length) : (movedTo f (whereL s) F k).length = ctT s k := by
  induction k with
  | zero => simp [movedTo, ctT_zero]
  | succ k ih =>
    have h1 := ih (by omega)
    have e := whereL_getD s k (by omega)
    cases hs : s.getD k false
    · rw [movedTo_gone (by rw [e, whereI_no hs]), h1, ctT_no (by omega) hs]
    · rw [movedTo_kept (by rw [e, whereI_yes hs]; omega), List.length_append, h1, ctT_yes (by omega) hs]; rfl
theorem kept_first {P : List Fn} {c : List Bool} {k : Nat} {Q : List Fn} (h : KeptTo P c k Q) (hk : 1 ≤ k) (h0 : c.getD 0 false = true) (hp : 0 < P.length) {s : List Bool} (hs : Reach P[0] s) : ∃ Q', Q = keptF P[0] s c :: Q' := by
  induction h with
  | zero => omega
  | @gone k Q h hg ih =>
    cases k with
    | zero => rw [h0] at hg; cases hg
    | succ k => exact ih (by omega)
  | @kept k Q s' h hp' hg hs' ih =>
    cases k with
    | zero => cases h; rw [reach_unique hs hs']; exact ⟨[], rfl⟩
    | succ k => obtain ⟨Q', rfl⟩ := ih (by omega); exact ⟨_, rfl⟩

def Right (P : List Fn) : Prop := codeProg P = 0 ∧ ∀ E, ProofAns P E → E = 0
theorem Where_right (P : List Fn) (hR : Right P) (k : Nat) (hk : k < P.length) (v : Value) (w : World) (ht : TabOk w) (hc : CallOk w) (hv : ProgVal w v P) :
    Calls Tryd.prog 27 #[.agg #[v], .int .i64 k] w fun e w' => ∃ v' s, e = .returned (.tuple #[v', .int .i64 0]) ∧ ProofAns P 0 ∧ Reach P[k] s ∧ IntsVal w' v' (whereL s) ∧ Below w.heap.size w w' :=
  (Where_any P v k w ht hc hv).mono fun _ _ ⟨v', E, A, he, hA, hI, hb⟩ => by
    rcases hA with ⟨a, b, _⟩ | ⟨_, b, _⟩ | ⟨h0, rfl, k', e, hk', s, hs, rfl⟩
    · exact absurd (hR.2 E b) a
    · exact absurd (by omega) b
    · obtain rfl : k = k' := by omega
      exact ⟨v', s, he, h0, hs, hI, hb⟩
theorem Trim_right (P : List Fn) (hR : Right P) (v : Value) (w : World) (ht : TabOk w) (hc : CallOk w) (hv : ProgVal w v P) :
    Calls Tryd.prog 25 #[.agg #[v]] w fun e w' => ∃ v' c Q us, e = .returned (.tuple #[.agg #[v'], .int .i64 0]) ∧ CalledSpec P c ∧ KeptTo P c P.length Q ∧ Built w' w.heap.size 41 46 v' Q us ∧ Below w.heap.size w w' :=
  (Trim_any P v w ht hc hv).mono fun _ _ ⟨v', E, Q, us, he, hA, hb, hbl⟩ => by
    rcases hA with ⟨a, b, _⟩ | ⟨_, rfl, c, hc, hk⟩
    · rw [hR.2 E b] at a; cases a
    · exact ⟨v', c, Q, us, he, hc, hk, hb, hbl⟩
/-- What is said of the first function of what is left. -/
theorem small_first {P : List Fn} (hN : 1 ≤ P.length) {c : List Bool} (hc : CalledSpec P c) {Q : List Fn} (hk : KeptTo P c P.length Q) {k : Nat} (hkl : k < P.length) {s : List Bool} (hs : Reach P[k] s) (h0 : k = 0) :
    ∃ h : 0 < Q.length, Q[0].code.length = ctT s s.length := by
  subst h0
  obtain ⟨Q', rfl⟩ := kept_first hk hN ((hc.2 0 hkl).2 Called.zero) hkl hs
  refine ⟨by simp, ?_⟩
  show (movedTo P[0] (whereL s) (whereL c) P[0].code.length).length = _
  rw [← hs.1]
  exact moved_count (Nat.le_refl _)
theorem checks_nought {P : List Fn} : ∀ {fs : List Fn} {E : Int}, (∀ f ∈ fs, ∀ L, SureSpec f L → proveE P f L = 0) → ChecksTo P fs E → E = 0
  | [], _, _, h => h
  | f :: fs, E, hz, ⟨e, ⟨L, hL, he⟩, h⟩ => by
    have e0 : e = 0 := he.trans (hz f (by simp) L hL)
    rcases h with ⟨h1, _⟩ | ⟨_, h⟩
    · exact absurd e0 h1
    · exact checks_nought (fun g hg => hz g (by simp [hg])) h
theorem progIs_right {l P : List Fn} (h : ProgIs l P) : Right P := by
  refine ⟨progIs_code h, fun E hE => ?_⟩
  rcases h with ⟨h1, rfl⟩ | ⟨_, rfl⟩
  · exact proofAns_unique hE h1
  · rcases hE with ⟨h2, _⟩ | ⟨_, h2⟩
    · exact absurd (full_ok l) h2
    · exact checks_nought (fun f hf L hL => proves_full l hf hL) h2
theorem pickI_nat (n : Int) (N : Nat) (h : 1 ≤ N) : ∃ k : Nat, k < N ∧ pickI n N = k := by
  have b := pickI_bounds n N (by omega)
  obtain ⟨k, hk⟩ := Int.eq_ofNat_of_zero_le b.1
  exact ⟨k, by omega, hk⟩
end Go.Proofs.YtpkgibdbmmhgdaaDoor
