/- Small facts for the walk of ProofSafe. -/
import Derived.Test.YtgoefojdggblpaaDoorXSafeSim
import Derived.Test.YtgoefojdggblpaaDoorXKRunX
import Derived.Test.YtgoefojdggblpaaDoorXTopKit
import Derived.Test.YtgoefojdggblpaaDoorXKeepReads
import Derived.Test.YtgoefojdggblpaaDoorXKeptMath
import Derived.Test.YtgoefojdggblpaaDoorGroupC
namespace Go.Proofs.YtgoefojdggblpaaDoor
open Go Go.RowKit

theorem andNot_none {m s : Nat} (hm : m < 4096) (hs : s < 4096) (h : ∀ r, r < 12 → m.testBit r = true → s.testBit r = true) : bits .andNot .i64 (m : Int) (s : Int) = 0 := by
  rw [lessM_int _ _ (by omega) (by omega)]
  have e : lessM m s = 0 := Nat.eq_of_testBit_eq fun r => by
    rw [lessM_bit _ _ _ (by omega), Nat.zero_testBit]
    by_cases hr : r < 12
    · cases hb : m.testBit r
      · rfl
      · rw [h r hr hb]; rfl
    · rw [Nat.testBit_lt_two_pow (Nat.lt_of_lt_of_le hm (pow12 (by omega)))]; rfl
  rw [e]; rfl
theorem bit_one (m u : Nat) (hm : m < 4096) (hb : m.testBit u = true) : bits .and .i64 ((m : Int) / 2 ^ u) 1 = 1 := by
  have e : ((m : Int) / 2 ^ u) = ((m / 2 ^ u : Nat) : Int) := by rw [Int.natCast_ediv, Int.natCast_pow]; rfl
  have hd : m / 2 ^ u < 65536 := Nat.lt_of_le_of_lt (Nat.div_le_self _ _) (by omega)
  have h1 := bits_and_nat (m / 2 ^ u) 1 hd (by omega)
  rw [e]
  refine h1.trans ?_
  rw [Nat.testBit_eq_decide_div_mod_eq, decide_eq_true_eq] at hb
  rw [Nat.and_one_is_mod, hb]; rfl
theorem safe_sure {P : List Fn} (hR : ProofAns P 0) {k j : Nat} (hk : k < P.length) (hj : j < P[k].code.length) (hw : Way P[k] 63 j) {A : List Int} (hA : SureAns P k A) {f : Fr} (e1 : fnD P f.fn = P[k]) (e2 : f.pc.toNat = j) {m : Nat} (h : SafeFr P f m) :
    A.length = P[k].code.length ∧ ∃ s : Nat, A.getD j 0 = s ∧ bits .andNot .i64 (s : Int) (m : Int) = 0 := by
  have h0 := fnErr_ok (right_code hR) hk
  refine ⟨(reach_sure h0 hk hA).1, ?_⟩
  have e : fnAt P (k : Int) = P[k] := by simp [fnAt, List.getD, hk]
  rcases hA with ⟨h1, _⟩ | ⟨_, S, hS, rfl⟩
  · exact absurd h0 h1
  rw [e] at hS ⊢
  have hg : (S.take P[k].code.length).getD j 0 = S.getD j 0 := by simp [List.getD, hj]
  rw [hg]
  rcases hS.2 j (by omega) with ⟨hn, _⟩ | ⟨_, s, hs, e3, hb⟩
  · exact absurd hw hn
  · refine ⟨s, e3, andNot_none hs h.lt fun r hr h1 => ?_⟩
    cases hm : m.testBit r with
    | true => rfl
    | false =>
      have := h.sure r hr hm
      rw [e1, e2] at this
      exact absurd this ((hb r hr).1 h1)
theorem safe_reads {P : List Fn} (hR : ProofAns P 0) {f : Fr} {m : Nat} (h : SafeFr P f m) (hp : placeB P f = true) (hw : ReachFr P f) (hx : InsOk P (insOfFr P f)) : ∀ r ∈ readsL P (insOfFr P f), 0 ≤ r ∧ r < 12 ∧ m.testBit r.toNat = true := by
  intro r hr
  have h1 := hx.a0
  have h2 := hx.a1
  have h3 := hx.b0
  have h4 := hx.b1
  have hrd : ∀ q : Nat, (rdA P (insOfFr P f) = true ∧ (insOfFr P f).a.toNat = q) ∨ (rdB P (insOfFr P f) = true ∧ (insOfFr P f).b.toNat = q) → (rdMask P (insOfFr P f)).testBit q = true := by
    intro q hq
    unfold rdMask
    rw [Nat.testBit_or, Bool.or_eq_true]
    rcases hq with ⟨a, rfl⟩ | ⟨a, rfl⟩
    · left; rw [if_pos a, Nat.testBit_two_pow_self]
    · right; rw [if_pos a, Nat.testBit_two_pow_self]
  unfold readsL at hr
  rw [List.mem_append] at hr
  rcases hr with hr | hr
  · by_cases ha : rdA P (insOfFr P f) = true
    · rw [if_pos ha, List.mem_singleton] at hr
      subst hr
      exact ⟨h1, by omega, h.reads hR hp hw (by omega) (hrd _ (Or.inl ⟨ha, rfl⟩))⟩
    · rw [if_neg ha] at hr; cases hr
  · by_cases ha : rdB P (insOfFr P f) = true
    · rw [if_pos ha, List.mem_singleton] at hr
      subst hr
      exact ⟨h3, by omega, h.reads hR hp hw (by omega) (hrd _ (Or.inr ⟨ha, rfl⟩))⟩
    · rw [if_neg ha] at hr; cases hr
theorem readsL_two (P : List Fn) (x : Ins) : (readsL P x).length ≤ 2 := by
  unfold readsL
  rw [List.length_append]
  split <;> split <;> simp
/-- Where the run ends with a step, there are as many frames, or none is left. -/
theorem safe_lens {P : List Fn} {S : St} {fs : List Fr} {f : Fr} (hS : S.frames = fs ++ [f]) (h0 : S.status = 0) (hn : (stepS P S).status ≠ 0) : (stepS P S).frames.length = S.frames.length ∨ (fs = [] ∧ (stepS P S).frames = []) := by
  obtain ⟨status, value, frames, mem, fuel, events, answers⟩ := S
  dsimp only at hS h0
  subst hS
  subst h0
  unfold stepS at hn ⊢
  dsimp only at hn ⊢
  by_cases hf : fuel = 0
  · rw [if_pos hf]; exact Or.inl rfl
  rw [if_neg hf] at hn ⊢
  simp only [List.getLast?_concat, List.dropLast_concat] at hn ⊢
  by_cases hz : barredI (insOfFr P f) (regD f (insOfFr P f).a) (regD f (insOfFr P f).b) = 0
  · rw [if_pos hz] at hn ⊢
    unfold doS at hn ⊢
    dsimp only at hn ⊢
    by_cases o13 : (insOfFr P f).op = 13
    · rw [if_pos o13] at hn; exact absurd rfl hn
    rw [if_neg o13] at hn ⊢
    by_cases o14 : (insOfFr P f).op = 14
    · rw [if_pos o14] at hn; exact absurd rfl hn
    rw [if_neg o14] at hn ⊢
    by_cases o15 : (insOfFr P f).op = 15
    · rw [if_pos o15] at hn; exact absurd rfl hn
    rw [if_neg o15] at hn ⊢
    by_cases o16 : (insOfFr P f).op = 16
    · rw [if_pos o16] at hn
      by_cases hr : regD f (insOfFr P f).a = 0
      · rw [if_pos hr] at hn; exact absurd rfl hn
      · rw [if_neg hr] at hn; exact absurd rfl hn
    rw [if_neg o16] at hn ⊢
    by_cases o17 : (insOfFr P f).op = 17
    · rw [if_pos o17] at hn ⊢
      by_cases h8 : fs.length + 1 = 8
      · rw [if_pos h8]; exact Or.inl (by simp)
      · rw [if_neg h8] at hn; exact absurd rfl hn
    rw [if_neg o17] at hn ⊢
    by_cases o18 : (insOfFr P f).op = 18
    · rw [if_pos o18] at hn; exact absurd rfl hn
    rw [if_neg o18] at hn ⊢
    by_cases o19 : (insOfFr P f).op = 19
    · rw [if_pos o19] at hn ⊢
      unfold retS at hn ⊢
      rcases List.eq_nil_or_concat fs with rfl | ⟨fs', up, rfl⟩
      · exact Or.inr ⟨rfl, rfl⟩
      · rw [List.concat_eq_append] at hn
        simp only [List.getLast?_concat] at hn
        exact absurd rfl hn
    rw [if_neg o19] at hn
    exact absurd rfl hn
  · rw [if_neg hz]; exact Or.inl rfl
/-- The list of sets in memory. -/
abbrev SetRow (w : World) (base : Nat) (v : Value) (ms : List Nat) : Prop := w.ownsRow base 3 1 v ms.length (i64s (ms.map fun b => ((b : Nat) : Int)))
theorem SetRow.last {w : World} {base : Nat} {v : Value} {ms : List Nat} {m : Nat} (h : SetRow w base v (ms ++ [m])) : ∃ g cap, v = .slice (some ⟨g, 0, none⟩) (ms.length + 1) cap ∧ base ≤ g ∧ g < w.heap.size ∧ ms.length + 1 ≤ cap ∧ cap ≤ 9223372036854775807 ∧ w.cell? ⟨g, ms.length, none⟩ = some (.int .i64 (m : Int)) ∧ w.frozen? ⟨g, ms.length, none⟩ = false ∧
    (∀ m' : Nat, SetRow (w.setCell ⟨g, ms.length, none⟩ (.int .i64 (m' : Int))) base v (ms ++ [m'])) ∧ SetRow w base (.slice (some ⟨g, 0, none⟩) ms.length cap) ms := by
  have e1 : (ms ++ [m]).length = ms.length + 1 := by simp
  unfold SetRow at h
  rw [e1, List.map_append] at h
  obtain ⟨g, cap, rfl, h1, h2, h3, h4⟩ := own_at h (by omega)
  unfold maxLen at h3
  have hc := row_cell h ms.length (by omega)
  have hfz : w.frozen? ⟨g, ms.length, none⟩ = false := by
    rcases h.2 with ⟨e, _⟩ | ⟨g', cap', cur, e, _, hg, _⟩
    · cases e
    · obtain ⟨rfl, rfl⟩ : g = g' ∧ cap = cap' := by simpa using e
      exact row_free hg _
  refine ⟨g, cap, rfl, h1, h2, h4, by omega, ?_, hfz, fun m' => ?_, ?_⟩
  · rw [hc]; simp [List.getD]
  · have := (h.stored ms.length (.int .i64 (m' : Int))).1
    unfold SetRow
    rw [show (ms ++ [m']).length = ms.length + 1 by simp, List.map_append]
    have e2 : (i64s (ms.map (fun b => ((b : Nat) : Int)) ++ [m].map fun b => ((b : Nat) : Int))).set ms.length (.int .i64 (m' : Int)) = i64s (ms.map (fun b => ((b : Nat) : Int)) ++ [m'].map fun b => ((b : Nat) : Int)) := by
      unfold i64s
      rw [List.map_append, List.map_append, List.set_append_right _ _ (by simp)]
      simp
    rw [e2] at this
    exact this
  · refine ownsRow_pop (last := i64s [(m : Int)]) (by simp [i64s]) ?_
    rw [← i64s_append]
    exact h
end Go.Proofs.YtgoefojdggblpaaDoor
