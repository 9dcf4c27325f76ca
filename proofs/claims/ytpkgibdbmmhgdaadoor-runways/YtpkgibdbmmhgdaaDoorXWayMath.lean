/- How a run goes from block to block: plain mathematics. -/
import Derived.Test.YtpkgibdbmmhgdaaDoorXCountFlow
import Derived.Test.YtpkgibdbmmhgdaaDoorXLoopFacts
namespace Go.Proofs.YtpkgibdbmmhgdaaDoor
open Go Go.RowKit

/-- Where a step leads that neither calls nor returns. -/
theorem step_other {P : List Fn} (hR : ProofAns P 0) {S : St} (h : RunInv P S) {fs : List Fr} {f : Fr} (hS : S.frames = fs ++ [f]) (h1 : (stepS P S).status = 0) (h17 : (insOfFr P f).op ≠ 17) (h19 : (insOfFr P f).op ≠ 19) :
    ∃ f' : Fr, (stepS P S).frames = fs ++ [f'] ∧ f'.fn = f.fn ∧ ∃ q : Nat, f'.pc = (q : Int) ∧ q ∈ behind (insOfFr P f) f.pc.toNat := by
  have hpl := h.fok.place f (by rw [hS]; simp)
  obtain ⟨k, j, hk, hj, e1, e2, -, e4⟩ := place_nat hpl
  obtain ⟨_, hi⟩ := fnOk_of (right_code hR) (List.getElem_mem hk)
  have him := (hi _ (List.getElem_mem hj)).2
  rw [← e4] at him
  rw [stepS_snoc hS] at h1 ⊢
  by_cases hf : S.fuel = 0
  · rw [if_pos hf] at h1; exact absurd h1 (by show ¬ (2 : Int) = 0; decide)
  rw [if_neg hf] at h1 ⊢
  by_cases hb : barredI (insOfFr P f) (regD f (insOfFr P f).a) (regD f (insOfFr P f).b) = 0
  · rw [if_pos hb] at h1 ⊢
    have hpc : f.pc + 1 = ((f.pc.toNat + 1 : Nat) : Int) := by rw [e2]; simp
    by_cases h15 : (insOfFr P f).op = 15
    · have h0 := him (Or.inl h15)
      unfold doS
      rw [if_neg (by omega), if_neg (by omega), if_pos h15]
      exact ⟨_, rfl, rfl, (insOfFr P f).imm.toNat, by show (insOfFr P f).imm = _; omega, behind_jump _ _ (Or.inl h15)⟩
    by_cases h16 : (insOfFr P f).op = 16
    · have h0 := him (Or.inr h16)
      unfold doS
      rw [if_neg (by omega), if_neg (by omega), if_neg h15, if_pos h16]
      by_cases hz : regD f (insOfFr P f).a = 0
      · exact ⟨_, rfl, rfl, f.pc.toNat + 1, by show (if regD f (insOfFr P f).a = 0 then f.pc + 1 else (insOfFr P f).imm) = _; rw [if_pos hz]; exact hpc, behind_next _ _ h15 h19⟩
      · exact ⟨_, rfl, rfl, (insOfFr P f).imm.toNat, by show (if regD f (insOfFr P f).a = 0 then f.pc + 1 else (insOfFr P f).imm) = _; rw [if_neg hz]; omega, behind_jump _ _ (Or.inr h16)⟩
    · obtain ⟨f', ef, d1, d2, -⟩ := doS_on (P := P) (S := { S with fuel := S.fuel - 1, status := 0 }) (fs := fs) (f := f) h15 h16 h17 h19
      exact ⟨f', ef, d1, f.pc.toNat + 1, by rw [d2]; exact hpc, behind_next _ _ h15 h19⟩
  · rw [if_neg hb] at h1; exact absurd h1 hb
/-- What a step does to the first frame: it stays where others run above it; else it goes on. -/
theorem step_bot {P : List Fn} (hR : ProofAns P 0) {S : St} (h : RunInv P S) (h0 : S.status = 0) (h1 : (stepS P S).status = 0) {f0 : Fr} {fs : List Fr} (hS : S.frames = f0 :: fs) :
    (∃ fs', fs' ≠ [] ∧ (stepS P S).frames = f0 :: fs') ∨ (∃ f' : Fr, (stepS P S).frames = [f'] ∧ f'.fn = f0.fn ∧ ∃ q : Nat, f'.pc = (q : Int) ∧ q ∈ behind (insOfFr P f0) f0.pc.toNat) := by
  have hi' := runInv_step hR h h0
  rcases List.eq_nil_or_concat fs with rfl | ⟨gs, f, rfl⟩
  · have hS2 : S.frames = [] ++ [f0] := hS
    rcases step_frames hS2 (Or.inl h1) with ⟨_, e⟩ | ⟨_, _, e, _⟩ | ⟨_, gs, g, e, _⟩ | ⟨a, b, _⟩
    · exact Or.inl ⟨[begunFr (insOfFr P f0).imm ([regD f0 (insOfFr P f0).a, regD f0 (insOfFr P f0).b].take (fnD P (insOfFr P f0).imm).params.toNat)], by simp, by rw [e]; rfl⟩
    · exact absurd e (run_frames hi' h1)
    · exact absurd e (by simp)
    · obtain ⟨f', e, e1, q, e2, e3⟩ := step_other hR h hS2 h1 a b
      exact Or.inr ⟨f', e, e1, q, e2, e3⟩
  · rw [List.concat_eq_append] at hS
    have hS2 : S.frames = (f0 :: gs) ++ [f] := hS
    rcases step_frames hS2 (Or.inl h1) with ⟨_, e⟩ | ⟨_, e, _⟩ | ⟨_, gs', g, e, e2⟩ | ⟨a, b, _⟩
    · exact Or.inl ⟨gs ++ [f, begunFr (insOfFr P f).imm ([regD f (insOfFr P f).a, regD f (insOfFr P f).b].take (fnD P (insOfFr P f).imm).params.toNat)], by simp, by rw [e]; rfl⟩
    · exact absurd e (by simp)
    · cases gs' with
      | nil =>
        have e' : [] ++ [g] = f0 :: gs := e.symm
        obtain ⟨rfl, rfl⟩ : g = f0 ∧ [] = gs := by simpa using e'
        have hcall := ((fok_snoc P [g] f).1 (by have := h.fok; rw [hS2] at this; exact this)).2.2 g rfl
        have hpl := h.fok.place g (by rw [hS2]; simp)
        obtain ⟨k, j, hk, hj, k1, k2, -, -⟩ := place_nat hpl
        exact Or.inr ⟨_, e2, rfl, g.pc.toNat + 1, by show g.pc + 1 = _; rw [k2]; simp, behind_next _ _ (by omega) (by omega)⟩
      | cons x gs' =>
        have e' : (x :: gs') ++ [g] = f0 :: gs := e.symm
        obtain ⟨rfl, e''⟩ : x = f0 ∧ gs' ++ [g] = gs := by simpa using e'
        exact Or.inl ⟨gs' ++ [putF g (insOfFr P g).dst (regD f (insOfFr P f).a)], by simp, by rw [e2]; rfl⟩
    · obtain ⟨f', e, -⟩ := step_other hR h hS2 h1 a b
      exact Or.inl ⟨gs ++ [f'], by simp, by rw [e]; rfl⟩
/-- All blocks that stand on each way to one are marked. -/
def SeenOk (pv : Nat → List Nat) (K : Nat) (seen : List Bool) (a : Nat) : Prop := ∀ d, d < K → Dom pv d a → seen.getD d false = true
/-- Where a run is, as the law knows it. -/
inductive WaySt (f : Fn) (S : List Nat) (T : Nat → Nat) (seen : List Bool) : Int → List Fr → Prop
  | first {f0 : Fr} (hf : f0.fn = 0) (hp : f0.pc = 0) : WaySt f S T seen (-1) [f0]
  | here {f0 : Fr} {a prev q : Nat} (hf : f0.fn = 0) (hb : InBlk S T prev a) (hp : f0.pc = (q : Int)) (hq : q ∈ behind (insD f prev) prev) (hs : SeenOk (pvN f S T) S.length seen a) : WaySt f S T seen (a : Int) [f0]
  | above {f0 : Fr} {fs : List Fr} {a q : Nat} (hf : f0.fn = 0) (hn : fs ≠ []) (hp : f0.pc = (q : Int)) (hb : InBlk S T q a) (hs : SeenOk (pvN f S T) S.length seen a) : WaySt f S T seen (a : Int) (f0 :: fs)
/-- Behind a step. -/
theorem WaySt.step {P : List Fn} (hR : ProofAns P 0) (hP : 0 < P.length) {A : St} (h : RunInv P A) (h0 : A.status = 0) (h1 : (stepS P A).status = 0) {S : List Nat} {T : Nat → Nat} {seen : List Bool} {f0 : Fr} {fs : List Fr} (hA : A.frames = f0 :: fs) {a q : Nat}
    (hf : f0.fn = 0) (hp : f0.pc = (q : Int)) (hb : InBlk S T q a) (hs : SeenOk (pvN P[0] S T) S.length seen a) : WaySt P[0] S T seen (a : Int) (stepS P A).frames := by
  have hx : insOfFr P f0 = insD P[0] q := by
    unfold insOfFr fnD
    rw [hf, hp]
    simp [List.getD, hP]
  rcases step_bot hR h h0 h1 hA with ⟨fs', hn, e⟩ | ⟨f', e, e1, q', e2, e3⟩
  · rw [e]; exact WaySt.above hf hn hp hb hs
  · rw [e]
    rw [hx, hp, Int.toNat_natCast] at e3
    exact WaySt.here (by rw [e1]; exact hf) hb e2 e3 hs
/-- Where a run comes to a place in its first frame: a block's beginning, to which the last block leads; or further on in the same block. -/
theorem way_arrive {P : List Fn} {f : Fn} (ok : FlowOk P f) {S : List Nat} {T : Nat → Nat} (hB : BlkOk f S T) {A : List Int} (hA : ∀ b, b < S.length → NearTo (pvN f S T) b S.length (A.getD b 0)) {seen : List Bool} (hl : seen.length = S.length) {at' : Int} {f0 : Fr} {q : Nat} (hp : f0.pc = (q : Int)) (h : WaySt f S T seen at' [f0]) :
    ∃ c, InBlk S T q c ∧ ((∃ hc : c < S.length, S[c] = q ∧ at' ∈ pvI f S T S.length c ∧ (1 ≤ c → ∃ u : Nat, A.getD c 0 = (u : Int) ∧ u < S.length ∧ seen.getD u false = true) ∧ SeenOk (pvN f S T) S.length (seen.set c true) c) ∨ ((∀ b (hb : b < S.length), S[b] ≠ q) ∧ at' = (c : Int) ∧ SeenOk (pvN f S T) S.length seen c)) := by
  have hK := hB.starts.first
  obtain ⟨hk0, hS0⟩ := hK
  have hset : ∀ c d, c < S.length → (seen.set c true).getD d false = if d = c then true else seen.getD d false := fun c d hc => lgetD_set seen c d true (by omega)
  generalize hfr : [f0] = fr at h
  cases h with
  | @first g hf hg =>
    obtain rfl : f0 = g := by simpa using hfr
    have hq0 : q = 0 := by omega
    subst hq0
    refine ⟨0, ?_, Or.inl ⟨hk0, hS0, by simp [pvI], fun h => by omega, fun d hd hdm => ?_⟩⟩
    · refine ⟨hk0, by omega, ?_⟩
      have := (hB.ends 0 hk0).lt
      omega
    · have := dom_first hdm
      rw [hset 0 d hk0, if_pos this]
  | @here g a prev q' hf hb hg hq hs =>
    obtain rfl : f0 = g := by simpa using hfr
    have hqq : q' = q := by omega
    subst hqq
    obtain ⟨ha, hb1, hb2⟩ := hb
    by_cases hlast : prev = T a - 1
    · have hE := hB.ends a ha
      have hw : Way f 63 S[a] := (hB.starts.reach ok (List.getElem_mem ha)).1
      rw [hlast] at hq
      have hqS := hE.leads ok hB.starts hw hq
      obtain ⟨hr, hr2⟩ := rank_lt hB.starts.rises hqS
      have hrq := hr2 hr
      have hmem : ((rank S q' : Nat) : Int) ∈ nxI f S (T a) := (nxI_mem f S (T a) _).2 ⟨q', hq, rfl⟩
      have hpv : a ∈ pvN f S T (rank S q') := (pvN_mem f S T _ a).2 ⟨ha, hmem⟩
      refine ⟨rank S q', hB.start hqS, Or.inl ⟨hr, hrq, (pvI_mem f S T S.length _ a).2 ⟨ha, hmem⟩, fun h1 => ?_, fun d hd hdm => ?_⟩⟩
      · obtain ⟨u, e, hu, hne, hdu, -⟩ := (hA _ hr).above (by omega) (by omega)
        refine ⟨u, e, hu, hs u hu (fun hwy => ?_)⟩
        exact hdu (WayB.step hwy hpv (fun e => hne e.symm))
      · rw [hset _ d hr]
        by_cases hdc : d = rank S q'
        · rw [if_pos hdc]
        · rw [if_neg hdc]
          exact hs d hd (fun hwy => hdm (WayB.step hwy hpv (fun e => hdc e.symm)))
    · have hop := hB.mid ⟨ha, hb1, hb2⟩ hlast
      rw [behind_on _ _ hop] at hq
      obtain rfl : q' = prev + 1 := by simpa using hq
      have hgo := (hB.ends a ha).goes (prev + 1) (by omega) (by omega)
      refine ⟨a, ⟨ha, by omega, by omega⟩, Or.inr ⟨fun b hb e => hgo.2 (by rw [← e]; exact List.getElem_mem hb), rfl, hs⟩⟩
  | @above g fs a q' hf hn hg hb hs =>
    obtain ⟨rfl, hfs⟩ : f0 = g ∧ [] = fs := by simpa using hfr
    exact absurd hfs.symm hn
theorem SeenOk.self {pv : Nat → List Nat} {K a : Nat} {seen : List Bool} (h : SeenOk pv K seen a) (ha : a < K) : seen.getD a false = true := h a ha (Dom.self pv a)
theorem way_begin (f : Fn) (S : List Nat) (T : Nat → Nat) (seen : List Bool) (args answers : List Int) (fuel : Int) : WaySt f S T seen (-1) (beginSt args answers fuel).frames := WaySt.first rfl rfl
/-- The first frame's place. -/
theorem StVal.headAt {w : World} {cs : Array Value} {S : St} (h : StVal w (.agg cs) S) {f0 : Fr} {fs : List Fr} (hS : S.frames = f0 :: fs) : ∃ b off cap, cs[2]? = some (.slice (some ⟨b, off, none⟩) (fs.length + 1) cap) ∧ w.cell? ⟨b, off + 1, none⟩ = some (.int .i64 f0.pc) ∧ fs.length + 1 ≤ cap ∧ cap ≤ 9223372036854775807 := by
  obtain ⟨fv, ev, av, e, hm, hf, -⟩ := h
  obtain rfl := Value.agg.inj e
  obtain ⟨hw, ao, b, off, n, cap, rfl, hl, ha, hc, hcp, hx⟩ := hf
  have hn : n = fs.length + 1 := by rw [← hl, hS]; simp
  subst hn
  obtain rfl := ha (by omega)
  unfold maxLen at hx
  refine ⟨b, off, cap, rfl, ?_, hcp.1, by omega⟩
  have h1 := hc 0 (by omega)
  have e1 : S.frames[0]'(by omega) = f0 := by simp [hS]
  rw [e1] at h1
  have := h1 1 (.int .i64 f0.pc) rfl
  simpa using this
end Go.Proofs.YtpkgibdbmmhgdaaDoor
