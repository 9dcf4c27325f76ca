/- Answers that nobody asks for: plain mathematics; and append of a slice, where a region draws its order. -/
import Derived.Test.YtpkgibdbmmhgdaaDoorXKRunX
import Derived.Test.YtpkgibdbmmhgdaaDoorXStepTop
namespace Go.Proofs.YtpkgibdbmmhgdaaDoor
open Go Go.RowKit

/-- A state with more answers. -/
def addA (m : List Int) (S : St) : St := { S with answers := S.answers ++ m }
theorem retS_addA (P : List Fn) (S : St) (fs : List Fr) (a : Int) (m : List Int) : retS P (addA m S) fs a = addA m (retS P S fs a) := by
  unfold retS; split <;> rfl
theorem doS_addA (P : List Fn) (S : St) (fs : List Fr) (f : Fr) (x : Ins) (m : List Int) (h : x.op = 18 → S.answers ≠ []) : doS P (addA m S) fs f x = addA m (doS P S fs f x) := by
  unfold doS
  by_cases h18 : x.op = 18
  · rw [if_neg (by omega), if_neg (by omega), if_neg (by omega), if_neg (by omega), if_neg (by omega), if_pos h18, if_neg (by omega), if_neg (by omega), if_neg (by omega), if_neg (by omega), if_neg (by omega), if_pos h18]
    cases hc : S.answers with
    | nil => exact absurd hc (h h18)
    | cons y ys => unfold addA; simp [hc]
  · rw [if_neg h18, if_neg h18]
    repeat' split
    all_goals first | rfl | exact retS_addA _ _ _ _ _
/-- The answers that are left are those behind what was told. -/
def AnsOf (a : List Int) (S : St) : Prop := S.answers = a.drop S.events.length
theorem retS_ans (P : List Fn) (S : St) (fs : List Fr) (a : Int) : (retS P S fs a).answers = S.answers ∧ (retS P S fs a).events = S.events := by
  unfold retS; split <;> exact ⟨rfl, rfl⟩
theorem doS_ans (P : List Fn) (S : St) (fs : List Fr) (f : Fr) (x : Ins) : (x.op ≠ 18 ∧ (doS P S fs f x).answers = S.answers ∧ (doS P S fs f x).events = S.events) ∨ (x.op = 18 ∧ (doS P S fs f x).answers = S.answers.tail ∧ (doS P S fs f x).events.length = S.events.length + 1) := by
  by_cases h18 : x.op = 18
  · right
    refine ⟨h18, ?_⟩
    unfold doS
    rw [if_neg (by omega), if_neg (by omega), if_neg (by omega), if_neg (by omega), if_neg (by omega), if_pos h18]
    exact ⟨rfl, by simp⟩
  · left
    refine ⟨h18, ?_⟩
    unfold doS
    rw [if_neg h18]
    repeat' split
    all_goals first | exact ⟨rfl, rfl⟩ | exact retS_ans _ _ _ _
theorem stepS_ans {a : List Int} {P : List Fn} {S : St} (h : AnsOf a S) : AnsOf a (stepS P S) := by
  unfold stepS
  by_cases h0 : S.fuel = 0
  · rw [if_pos h0]; exact h
  rw [if_neg h0]
  cases hl : S.frames.getLast? with
  | none => exact h
  | some f =>
    dsimp only
    by_cases hb : barredI (insOfFr P f) (regD f (insOfFr P f).a) (regD f (insOfFr P f).b) = 0
    · rw [if_pos hb]
      unfold AnsOf
      rcases doS_ans P { S with fuel := S.fuel - 1, status := 0 } S.frames.dropLast f (insOfFr P f) with ⟨_, e1, e2⟩ | ⟨_, e1, e2⟩
      · rw [e1, e2]; exact h
      · rw [e1, e2]
        show S.answers.tail = _
        rw [h, List.tail_drop]
    · rw [if_neg hb]; exact h
theorem stepS_addA {a m : List Int} {P : List Fn} {S : St} (h : AnsOf a S) (hle : (stepS P S).events.length ≤ a.length) : stepS P (addA m S) = addA m (stepS P S) := by
  have e1 : (addA m S).fuel = S.fuel := rfl
  have e2 : (addA m S).frames = S.frames := rfl
  unfold stepS at hle ⊢
  rw [e1, e2]
  by_cases h0 : S.fuel = 0
  · rw [if_pos h0, if_pos h0]; rfl
  rw [if_neg h0] at hle
  rw [if_neg h0, if_neg h0]
  cases hl : S.frames.getLast? with
  | none => rfl
  | some f =>
    rw [hl] at hle
    dsimp only at hle ⊢
    by_cases hb : barredI (insOfFr P f) (regD f (insOfFr P f).a) (regD f (insOfFr P f).b) = 0
    · rw [if_pos hb] at hle
      rw [if_pos hb, if_pos hb]
      refine doS_addA P { S with fuel := S.fuel - 1, status := 0 } S.frames.dropLast f (insOfFr P f) m (fun h18 hn => ?_)
      rcases doS_ans P { S with fuel := S.fuel - 1, status := 0 } S.frames.dropLast f (insOfFr P f) with ⟨e, _⟩ | ⟨_, _, e2⟩
      · exact e h18
      · rw [e2] at hle
        have hn' : S.answers = [] := hn
        rw [h] at hn'
        have := List.drop_eq_nil_iff.1 hn'
        have h3 : S.events.length + 1 ≤ a.length := hle
        omega
    · rw [if_neg hb, if_neg hb]; rfl
theorem walk_ans {a : List Int} {P : List Fn} {S : St} (h : AnsOf a S) : ∀ n, AnsOf a (walkS P n S) := by
  intro n
  induction n with
  | zero => exact h
  | succ n ih =>
    by_cases h0 : (walkS P n S).status = 0
    · rw [walkS_succ P n S h0]; exact stepS_ans ih
    · rw [walkS_ended P n (n + 1) S (by omega) h0]; exact ih
theorem walk_addA {a m : List Int} {P : List Fn} {S : St} (h : AnsOf a S) : ∀ n, (walkS P n S).events.length ≤ a.length → walkS P n (addA m S) = addA m (walkS P n S) := by
  intro n
  induction n with
  | zero => intro _; rfl
  | succ n ih =>
    intro hle
    by_cases h0 : (walkS P n S).status = 0
    · rw [walkS_succ P n S h0] at hle ⊢
      obtain ⟨l, hl⟩ := stepS_events P (walkS P n S)
      have h1 := ih (by rw [hl, List.length_append] at hle; omega)
      have h2 : (walkS P n (addA m S)).status = 0 := by rw [h1]; exact h0
      rw [walkS_succ P n _ h2, h1]
      exact stepS_addA (walk_ans h n) hle
    · rw [walkS_ended P n (n + 1) S (by omega) h0] at hle ⊢
      have h1 := ih hle
      have h2 : (walkS P n (addA m S)).status ≠ 0 := by rw [h1]; exact h0
      rw [walkS_ended P n (n + 1) _ (by omega) h2, h1]
theorem wp_append_slice {P : Program} {w : World} {o : Oper} {a : Act} {K : Act → World → Prop} {Q : Exit → Act → World → Prop} (s x : Operand) (t : TypeId)
    (ho : o.op = .call { callee := .builtin .append, args := #[s, x], argTypes := #[t, t] })
    (base : Nat) (e : TypeId) (i : TypeInfo) (z : Value) (size bytes : Nat) (ht : P.underlying t = some (.slice e)) (hi : P.info? e = some i) (hz : i.zero = some z)
    (hsize : i.size = size) (hby : i.bytes = bytes) (hzs : z.cells.size = size) (hsz : 0 < size)
    (v : Value) (n : Nat) (xs : List Value) (hs : a.eval s = v) (hown : w.ownsRow base e size v n xs)
    (ao : Option Addr) (m c : Nat) (news : List Value) (hx : a.eval x = .slice ao m c) (hnone : ao = none → m = 0 ∧ c = 0) (hl : news.length = m * size)
    (hnews : ∀ ad, ao = some ad → ∀ j u, news[j]? = some u → w.cell? (ad.add j) = some u) (h1 : ∀ u ∈ news, u.oneCell' = true)
    (h63 : n + m ≤ maxLen) (hbytes : (n + m) * bytes ≤ 140737488355328) (hbase : base ≤ w.heap.size)
    (h : ∀ v' w', w'.ownsRow base e size v' (n + m) (xs ++ news) → w.grownBy w' v.ownBlock → K (a.put o.dst v') w') : o.wp P a w K Q := by
  cases ao with
  | none =>
    obtain ⟨rfl, rfl⟩ := hnone rfl
    have hn0 : news = [] := List.length_eq_zero_iff.1 (by simpa using hl)
    subst hn0
    have hrun := run_append_owned_none (P := P) (w := w) base t o.type e i size ht hi v n xs hown
    unfold Oper.wp
    simp [execOp, ho, resolve, invoke, builtin, hs, hx, hrun, Result.andThen]
    exact h v w (by simpa using hown) ⟨rfl, rfl, rfl, Nat.le_refl _, fun _ _ _ => rfl⟩
  | some ad =>
    exact wp_append_own w s x t ho base e i z size bytes ht hi hz hsize hby hzs hsz v n xs hs hown ad m c news hx hl (hnews ad rfl) h1 h63 hbytes hbase fun v' w' h2 h3 _ => h v' w' h2 h3
end Go.Proofs.YtpkgibdbmmhgdaaDoor
