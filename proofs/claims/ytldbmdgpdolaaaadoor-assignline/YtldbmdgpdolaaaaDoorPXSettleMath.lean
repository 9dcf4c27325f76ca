import Derived.Test.YtldbmdgpdolaaaaDoorPGroupA
namespace Go.Proofs.YtldbmdgpdolaaaaDoor
open Go Go.RowKit

structure PhiD where
  reg : Nat
  id : Int
  args : List Int
def stG : List (Int × Int) → Int → Int
  | [], v => v
  | p :: g, v => stG g (if v = p.1 then p.2 else v)
theorem stG_append (g h : List (Int × Int)) (v : Int) : stG (g ++ h) v = stG h (stG g v) := by
  induction g generalizing v with
  | nil => rfl
  | cons p g ih => exact ih _
theorem stG_free {g : List (Int × Int)} {v : Int} (h : ∀ p ∈ g, p.1 ≠ v) : stG g v = v := by
  induction g with
  | nil => rfl
  | cons p g ih => rw [stG, if_neg (fun e => h p (by simp) e.symm), ih (fun q hq => h q (by simp [hq]))]
inductive GoneOk : List (Int × Int) → Prop
  | nil : GoneOk []
  | snoc {g : List (Int × Int)} {a b : Int} (h : GoneOk g) (ha : ∀ p ∈ g, p.1 ≠ a) (hb : ∀ p ∈ g, p.1 ≠ b) (hab : a ≠ b) : GoneOk (g ++ [(a, b)])
def lookG : List (Int × Int) → Int → Option Int
  | [], _ => none
  | p :: g, v => if v = p.1 then some p.2 else lookG g v
theorem lookG_none {g : List (Int × Int)} {v : Int} : lookG g v = none ↔ ∀ p ∈ g, p.1 ≠ v := by
  induction g with
  | nil => simp [lookG]
  | cons p g ih =>
    rw [lookG]
    by_cases h : v = p.1
    · rw [if_pos h]; simp [h]
    · rw [if_neg h, ih]
      constructor
      · intro hh q hq
        rcases List.mem_cons.1 hq with rfl | hq
        · exact fun e => h e.symm
        · exact hh q hq
      · exact fun hh q hq => hh q (by simp [hq])
theorem lookG_append (g h : List (Int × Int)) (v : Int) : lookG (g ++ h) v = (lookG g v).or (lookG h v) := by
  induction g with
  | nil => simp [lookG]
  | cons p g ih =>
    rw [List.cons_append, lookG, lookG]
    by_cases e : v = p.1
    · rw [if_pos e, if_pos e]; rfl
    · rw [if_neg e, if_neg e, ih]
def posG : List (Int × Int) → Int → Nat
  | [], _ => 0
  | p :: g, v => if v = p.1 then 0 else posG g v + 1
theorem posG_append (g h : List (Int × Int)) (v : Int) : posG (g ++ h) v = if posG g v < g.length then posG g v else g.length + posG h v := by
  induction g with
  | nil => simp [posG]
  | cons p g ih =>
    rw [List.cons_append, posG, posG, ih]
    by_cases e : v = p.1
    · rw [if_pos e, if_pos e, if_pos (by simp)]
    · rw [if_neg e, if_neg e]
      simp only [List.length_cons]
      by_cases hl : posG g v < g.length
      · rw [if_pos hl, if_pos (by omega)]
      · rw [if_neg hl, if_neg (by omega)]; omega
theorem posG_lt {g : List (Int × Int)} {v : Int} : posG g v < g.length ↔ ∃ b, lookG g v = some b := by
  induction g with
  | nil => simp [posG, lookG]
  | cons p g ih =>
    rw [posG, lookG]
    by_cases e : v = p.1
    · rw [if_pos e, if_pos e]; simp
    · rw [if_neg e, if_neg e, ← ih]; simp
theorem GoneOk.step {g : List (Int × Int)} (h : GoneOk g) {v b : Int} (hv : lookG g v = some b) : stG g b = stG g v ∧ posG g v < posG g b := by
  induction h with
  | nil => simp [lookG] at hv
  | @snoc g a c h ha hc hac ih =>
    rw [lookG_append] at hv
    rcases hl : lookG g v with _ | b'
    · rw [hl] at hv
      have hv2 : v = a ∧ c = b := by
        by_cases e : v = a
        · rw [lookG, if_pos e] at hv; exact ⟨e, by simpa using hv⟩
        · rw [lookG, if_neg e] at hv; simp [lookG] at hv
      obtain ⟨rfl, rfl⟩ := hv2
      rw [stG_append, stG_append, stG_free ha, stG_free hc]
      refine ⟨?_, ?_⟩
      · show stG [] (if c = v then c else c) = stG [] (if v = v then c else v)
        rw [if_pos rfl]; simp
      · have h1 : ¬ posG g v < g.length := fun hh => by obtain ⟨x, hx⟩ := posG_lt.1 hh; rw [hl] at hx; cases hx
        have h2 : ¬ posG g c < g.length := fun hh => by obtain ⟨x, hx⟩ := posG_lt.1 hh; rw [lookG_none.2 hc] at hx; cases hx
        rw [posG_append, posG_append, if_neg h1, if_neg h2]
        show g.length + (if v = v then 0 else _) < g.length + (if c = v then 0 else _)
        rw [if_pos rfl, if_neg (fun e => hac e.symm)]
        omega
    · rw [hl] at hv
      obtain rfl : b' = b := by simpa using hv
      obtain ⟨e1, e2⟩ := ih hl
      rw [stG_append, stG_append, e1]
      refine ⟨rfl, ?_⟩
      have h1 : posG g v < g.length := posG_lt.2 ⟨_, hl⟩
      rw [posG_append, posG_append, if_pos h1]
      split
      · exact e2
      · omega
theorem GoneOk.done {g : List (Int × Int)} (_h : GoneOk g) {v : Int} (hv : lookG g v = none) : stG g v = v := stG_free (lookG_none.1 hv)
theorem GoneOk.left {g : List (Int × Int)} (h : GoneOk g) (v : Int) : ∀ p ∈ g, p.1 ≠ stG g v := by
  induction h with
  | nil => simp
  | @snoc g a c h ha hc hac ih =>
    intro p hp
    rw [stG_append]
    show p.1 ≠ (if stG g v = a then c else stG g v)
    rcases List.mem_append.1 hp with hp | hp
    · split
      · exact hc p hp
      · exact ih p hp
    · obtain rfl : p = (a, c) := by simpa using hp
      split
      · exact hac
      · exact fun e => by simp_all
def loneG (g : List (Int × Int)) (id : Int) : Int → List Int → Int
  | one, [] => one
  | one, a :: t => if stG g a = id ∨ stG g a = one then loneG g id one t else if one ≠ -1 then -1 else loneG g id (stG g a) t
theorem loneG_some {g : List (Int × Int)} {id : Int} : ∀ {args : List Int} {one o : Int}, (∀ a ∈ args, stG g a ≠ -1) → loneG g id one args = o → o ≠ -1 → (∀ a ∈ args, stG g a = id ∨ stG g a = o) ∧ (one = -1 ∨ one = o) ∧ (one = -1 → ∃ a ∈ args, stG g a = o ∧ o ≠ id)
  | [], one, o, _, h, hn => ⟨by simp, Or.inr h, fun e => absurd (h.symm.trans e) hn⟩
  | a :: t, one, o, hv, h, hn => by
    rw [loneG] at h
    have hv2 : ∀ x ∈ t, stG g x ≠ -1 := fun x hx => hv x (by simp [hx])
    by_cases hc : stG g a = id ∨ stG g a = one
    · rw [if_pos hc] at h
      obtain ⟨h1, h2, h3⟩ := loneG_some hv2 h hn
      refine ⟨?_, h2, fun e => ?_⟩
      · intro x hx
        rcases List.mem_cons.1 hx with rfl | hx
        · rcases hc with hc | hc
          · exact Or.inl hc
          · rcases h2 with h2 | h2
            · exact absurd (hc.trans h2) (hv x (by simp))
            · exact Or.inr (hc.trans h2)
        · exact h1 x hx
      · obtain ⟨y, hy, q⟩ := h3 e; exact ⟨y, by simp [hy], q⟩
    · rw [if_neg hc] at h
      by_cases h1 : one ≠ -1
      · rw [if_pos h1] at h; exact absurd h.symm hn
      · rw [if_neg h1] at h
        have hone : one = -1 := Classical.not_not.1 h1
        obtain ⟨a1, a2, a3⟩ := loneG_some hv2 h hn
        have hsa : stG g a = o := by
          rcases a2 with e | e
          · exact absurd (Or.inr (e.trans hone.symm)) hc
          · exact e
        refine ⟨?_, Or.inl hone, fun _ => ⟨a, by simp, hsa, fun e => hc (Or.inl (hsa.trans e))⟩⟩
        intro x hx
        rcases List.mem_cons.1 hx with rfl | hx
        · exact Or.inr hsa
        · exact a1 x hx
theorem loneG_none {g : List (Int × Int)} {id : Int} : ∀ {args : List Int} {one : Int}, (∀ a ∈ args, stG g a ≠ -1) → loneG g id one args = -1 → (one = -1 ∧ ∀ a ∈ args, stG g a = id) ∨ (∃ a ∈ args, ∃ y, stG g a ≠ id ∧ y ≠ stG g a ∧ y ≠ -1 ∧ (y = one ∨ (y ≠ id ∧ ∃ c ∈ args, stG g c = y)))
  | [], one, _, h => Or.inl ⟨h, by simp⟩
  | a :: t, one, hv, h => by
    rw [loneG] at h
    have hv2 : ∀ x ∈ t, stG g x ≠ -1 := fun x hx => hv x (by simp [hx])
    by_cases hc : stG g a = id ∨ stG g a = one
    · rw [if_pos hc] at h
      rcases loneG_none hv2 h with ⟨h1, h2⟩ | ⟨x, hx, y, h1, h2, h3, h4⟩
      · left
        refine ⟨h1, fun x hx => ?_⟩
        rcases List.mem_cons.1 hx with rfl | hx
        · rcases hc with hc | hc
          · exact hc
          · exact absurd (hc.trans h1) (hv x (by simp))
        · exact h2 x hx
      · right
        refine ⟨x, by simp [hx], y, h1, h2, h3, ?_⟩
        rcases h4 with h4 | ⟨h4, c, hc2, h5⟩
        · exact Or.inl h4
        · exact Or.inr ⟨h4, c, by simp [hc2], h5⟩
    · rw [if_neg hc] at h
      have hc1 : stG g a ≠ id := fun e => hc (Or.inl e)
      have hc2 : stG g a ≠ one := fun e => hc (Or.inr e)
      by_cases h1 : one ≠ -1
      · exact Or.inr ⟨a, by simp, one, hc1, fun e => hc2 e.symm, h1, Or.inl rfl⟩
      · rw [if_neg h1] at h
        rcases loneG_none hv2 h with ⟨h2, _⟩ | ⟨x, hx, y, h3, h4, h5, h6⟩
        · exact absurd h2 (hv a (by simp))
        · right
          rcases h6 with h6 | ⟨h6, c, hc3, h7⟩
          · exact ⟨x, by simp [hx], y, h3, h4, h5, Or.inr ⟨by rw [h6]; exact hc1, a, by simp, h6.symm⟩⟩
          · exact ⟨x, by simp [hx], y, h3, h4, h5, Or.inr ⟨h6, c, by simp [hc3], h7⟩⟩
def leftG : List (Int × Int) → List PhiD → List (Int × Int) × List PhiD
  | g, [] => (g, [])
  | g, p :: t => if loneG g p.id (-1) p.args = -1 then ((leftG g t).1, p :: (leftG g t).2) else leftG (g ++ [(p.id, loneG g p.id (-1) p.args)]) t
def roundG : List (Int × Int) → List (List PhiD) → List (Int × Int) × List (List PhiD)
  | g, [] => (g, [])
  | g, ps :: t => ((roundG (leftG g ps).1 t).1, (leftG g ps).2 :: (roundG (leftG g ps).1 t).2)
inductive SettleTo : List (Int × Int) → List (List PhiD) → List (Int × Int) → List (List PhiD) → Prop
  | stop {g : List (Int × Int)} {ps : List (List PhiD)} (h : (roundG g ps).1.length = g.length) : SettleTo g ps (roundG g ps).1 (roundG g ps).2
  | on {g g' : List (Int × Int)} {ps ps' : List (List PhiD)} (h : g.length < (roundG g ps).1.length) (hn : SettleTo (roundG g ps).1 (roundG g ps).2 g' ps') : SettleTo g ps g' ps'
theorem leftG_count : ∀ (ps : List PhiD) (g : List (Int × Int)), g.length ≤ (leftG g ps).1.length ∧ (leftG g ps).1.length + (leftG g ps).2.length = g.length + ps.length
  | [], g => ⟨Nat.le_refl _, by simp [leftG]⟩
  | p :: t, g => by
    rw [leftG]
    split
    · obtain ⟨h1, h2⟩ := leftG_count t g
      exact ⟨h1, by simp only [List.length_cons]; omega⟩
    · obtain ⟨h1, h2⟩ := leftG_count t (g ++ [(p.id, loneG g p.id (-1) p.args)])
      simp only [List.length_append, List.length_cons, List.length_nil] at h1 h2 ⊢
      exact ⟨by omega, by omega⟩
theorem leftG_same : ∀ (ps : List PhiD) (g : List (Int × Int)), (leftG g ps).1.length = g.length → leftG g ps = (g, ps) ∧ ∀ p ∈ ps, loneG g p.id (-1) p.args = -1
  | [], g, _ => ⟨rfl, by simp⟩
  | p :: t, g, h => by
    rw [leftG] at h ⊢
    split at h
    · rename_i h1
      rw [if_pos h1]
      obtain ⟨h2, h3⟩ := leftG_same t g h
      rw [h2]
      refine ⟨rfl, fun q hq => ?_⟩
      rcases List.mem_cons.1 hq with rfl | hq
      · exact h1
      · exact h3 q hq
    · have := (leftG_count t (g ++ [(p.id, loneG g p.id (-1) p.args)])).1
      simp only [List.length_append, List.length_cons, List.length_nil] at this
      omega
def phisLen (ps : List (List PhiD)) : Nat := (ps.map List.length).sum
theorem roundG_count : ∀ (ps : List (List PhiD)) (g : List (Int × Int)), g.length ≤ (roundG g ps).1.length ∧ (roundG g ps).1.length + phisLen (roundG g ps).2 = g.length + phisLen ps ∧ (roundG g ps).2.length = ps.length
  | [], g => ⟨Nat.le_refl _, by simp [roundG], rfl⟩
  | p :: t, g => by
    rw [roundG]
    obtain ⟨h1, h2⟩ := leftG_count p g
    obtain ⟨h3, h4, h5⟩ := roundG_count t (leftG g p).1
    simp only [phisLen, List.map_cons, List.sum_cons, List.length_cons] at h4 ⊢
    exact ⟨by omega, by omega, by omega⟩
theorem roundG_same : ∀ (ps : List (List PhiD)) (g : List (Int × Int)), (roundG g ps).1.length = g.length → roundG g ps = (g, ps) ∧ ∀ l ∈ ps, ∀ p ∈ l, loneG g p.id (-1) p.args = -1
  | [], g, _ => ⟨rfl, by simp⟩
  | p :: t, g, h => by
    rw [roundG] at h ⊢
    have h1 := (leftG_count p g).1
    have h2 := (roundG_count t (leftG g p).1).1
    obtain ⟨h3, h4⟩ := leftG_same p g (by have h : (roundG (leftG g p).1 t).1.length = g.length := h
                                          omega)
    have h : (roundG (leftG g p).1 t).1.length = g.length := h
    rw [h3] at h ⊢
    obtain ⟨h5, h6⟩ := roundG_same t g h
    rw [h5]
    refine ⟨rfl, fun l hl => ?_⟩
    rcases List.mem_cons.1 hl with rfl | hl
    · exact h4
    · exact h6 l hl
theorem SettleTo.unique {g g1 g2 : List (Int × Int)} {ps p1 p2 : List (List PhiD)} (h : SettleTo g ps g1 p1) (h' : SettleTo g ps g2 p2) : g1 = g2 ∧ p1 = p2 := by
  induction h generalizing g2 p2 with
  | stop h =>
    cases h' with
    | stop => exact ⟨rfl, rfl⟩
    | on h2 => omega
  | on h hn ih =>
    cases h' with
    | stop h2 => omega
    | on h2 hn2 => exact ih hn2
theorem stG_val {g : List (Int × Int)} (h : ∀ q ∈ g, q.2 ≠ -1) : ∀ {v : Int}, v ≠ -1 → stG g v ≠ -1 := by
  induction g with
  | nil => intro v hv; exact hv
  | cons p g ih =>
    intro v hv
    rw [stG]
    refine ih (fun q hq => h q (by simp [hq])) ?_
    split
    · exact h p (by simp)
    · exact hv
structure SInv (all : List PhiD) (g : List (Int × Int)) (rem : List PhiD) : Prop where
  ok : GoneOk g
  sub : ∀ p ∈ rem, p ∈ all ∧ ∀ q ∈ g, q.1 ≠ p.id
  cov : ∀ p ∈ all, p ∈ rem ∨ ∃ q ∈ g, q.1 = p.id
  nod : rem.Pairwise (fun p q => p.id ≠ q.id)
  val : ∀ q ∈ g, q.2 ≠ -1
  went : ∀ q ∈ g, ∃ p ∈ all, p.id = q.1 ∧ ∀ a ∈ p.args, stG g a = stG g p.id
theorem SInv.new {all : List PhiD} (h : all.Pairwise (fun p q => p.id ≠ q.id)) : SInv all [] all := ⟨.nil, fun p hp => ⟨hp, by simp⟩, fun p hp => Or.inl hp, h, by simp, by simp⟩
theorem SInv.go {all : List PhiD} {g : List (Int × Int)} {A B : List PhiD} {p : PhiD} (h : SInv all g (A ++ p :: B)) (hv : ∀ p ∈ all, ∀ a ∈ p.args, a ≠ -1) (hl : loneG g p.id (-1) p.args ≠ -1) : SInv all (g ++ [(p.id, loneG g p.id (-1) p.args)]) (A ++ B) := by
  obtain ⟨hp, hpg⟩ := h.sub p (by simp)
  have hpn : ∀ a ∈ p.args, stG g a ≠ -1 := fun a ha => stG_val h.val (hv p hp a ha)
  obtain ⟨h1, -, h3⟩ := loneG_some hpn rfl hl
  obtain ⟨a0, ha0, e0, hne⟩ := h3 rfl
  have hperm : ∀ q ∈ A ++ B, q.id ≠ p.id := by
    intro q hq
    have hn := h.nod
    rw [List.pairwise_append] at hn
    obtain ⟨-, n2, n3⟩ := hn
    rcases List.mem_append.1 hq with hq | hq
    · exact n3 q hq p (by simp)
    · exact fun e => (List.pairwise_cons.1 n2).1 q hq e.symm
  refine ⟨.snoc h.ok hpg (by rw [← e0]; exact h.ok.left a0) hne.symm, ?_, ?_, ?_, ?_, ?_⟩
  · intro q hq
    obtain ⟨q1, q2⟩ := h.sub q (by rcases List.mem_append.1 hq with hq | hq <;> simp [hq])
    refine ⟨q1, fun x hx => ?_⟩
    rcases List.mem_append.1 hx with hx | hx
    · exact q2 x hx
    · obtain rfl : x = _ := by simpa using hx
      exact fun e => hperm q hq e.symm
  · intro q hq
    rcases h.cov q hq with h4 | ⟨x, hx, ex⟩
    · rcases List.mem_append.1 h4 with h4 | h4
      · exact Or.inl (by simp [h4])
      · rcases List.mem_cons.1 h4 with rfl | h4
        · exact Or.inr ⟨_, by simp; exact Or.inr rfl, rfl⟩
        · exact Or.inl (by simp [h4])
    · exact Or.inr ⟨x, by simp [hx], ex⟩
  · have hn := h.nod
    rw [List.pairwise_append] at hn ⊢
    obtain ⟨n1, n2, n3⟩ := hn
    exact ⟨n1, (List.pairwise_cons.1 n2).2, fun a ha b hb => n3 a ha b (by simp [hb])⟩
  · intro q hq
    rcases List.mem_append.1 hq with hq | hq
    · exact h.val q hq
    · obtain rfl : q = _ := by simpa using hq
      exact hl
  · have key : ∀ v, stG (g ++ [(p.id, loneG g p.id (-1) p.args)]) v = if stG g v = p.id then loneG g p.id (-1) p.args else stG g v := fun v => by rw [stG_append]; rfl
    intro q hq
    rcases List.mem_append.1 hq with hq | hq
    · obtain ⟨x, hx, e1, e2⟩ := h.went q hq
      exact ⟨x, hx, e1, fun a ha => by rw [key, key, e2 a ha]⟩
    · obtain rfl : q = _ := by simpa using hq
      refine ⟨p, hp, rfl, fun a ha => ?_⟩
      rw [key, key, stG_free hpg, if_pos rfl]
      rcases h1 a ha with e | e
      · rw [if_pos e]
      · rw [if_neg (by rw [e]; exact hne), e]
theorem SInv.left {all : List PhiD} (hv : ∀ p ∈ all, ∀ a ∈ p.args, a ≠ -1) : ∀ (ps : List PhiD) (g : List (Int × Int)) (A C : List PhiD), SInv all g (A ++ (ps ++ C)) → SInv all (leftG g ps).1 (A ++ ((leftG g ps).2 ++ C))
  | [], g, A, C, h => h
  | p :: t, g, A, C, h => by
    rw [leftG]
    split
    · have := SInv.left hv t g (A ++ [p]) C (by simpa using h)
      simpa using this
    · rename_i hl
      exact SInv.left hv t _ A C (h.go hv hl)
theorem SInv.round {all : List PhiD} (hv : ∀ p ∈ all, ∀ a ∈ p.args, a ≠ -1) : ∀ (ps : List (List PhiD)) (g : List (Int × Int)) (A : List PhiD), SInv all g (A ++ ps.flatten) → SInv all (roundG g ps).1 (A ++ (roundG g ps).2.flatten)
  | [], g, A, h => h
  | p :: t, g, A, h => by
    rw [roundG]
    have h1 := SInv.left hv p g A t.flatten (by simpa using h)
    have h2 := SInv.round hv t (leftG g p).1 (A ++ (leftG g p).2) (by simpa using h1)
    simpa using h2
theorem SInv.settle {all : List PhiD} (hv : ∀ p ∈ all, ∀ a ∈ p.args, a ≠ -1) {g g' : List (Int × Int)} {ps ps' : List (List PhiD)} (hs : SettleTo g ps g' ps') (h : SInv all g ps.flatten) : SInv all g' ps'.flatten ∧ ∀ l ∈ ps', ∀ p ∈ l, loneG g' p.id (-1) p.args = -1 := by
  induction hs with
  | @stop g ps h1 =>
    obtain ⟨e, h2⟩ := roundG_same ps g h1
    rw [e]; exact ⟨h, h2⟩
  | on h1 hn ih => exact ih (SInv.round hv _ _ [] h)
def isLeft (g : List (Int × Int)) (p : PhiD) : Bool := (lookG g p.id).isNone
theorem isLeft_iff {g : List (Int × Int)} {p : PhiD} : isLeft g p = true ↔ ∀ q ∈ g, q.1 ≠ p.id := by
  unfold isLeft; rw [Option.isNone_iff_eq_none, lookG_none]
theorem leftG_grow : ∀ (ps : List PhiD) (g : List (Int × Int)), ∃ h, (leftG g ps).1 = g ++ h ∧ ∀ q ∈ h, ∃ p ∈ ps, p.id = q.1
  | [], g => ⟨[], by simp [leftG], by simp⟩
  | p :: t, g => by
    rw [leftG]
    split
    · obtain ⟨h, h1, h2⟩ := leftG_grow t g
      exact ⟨h, h1, fun q hq => by obtain ⟨x, hx, e⟩ := h2 q hq; exact ⟨x, by simp [hx], e⟩⟩
    · obtain ⟨h, h1, h2⟩ := leftG_grow t (g ++ [(p.id, loneG g p.id (-1) p.args)])
      refine ⟨(p.id, loneG g p.id (-1) p.args) :: h, by rw [h1]; simp, fun q hq => ?_⟩
      rcases List.mem_cons.1 hq with rfl | hq
      · exact ⟨p, by simp, rfl⟩
      · obtain ⟨x, hx, e⟩ := h2 q hq; exact ⟨x, by simp [hx], e⟩
theorem leftG_filter : ∀ (ps : List PhiD) (g : List (Int × Int)), ps.Pairwise (fun p q => p.id ≠ q.id) → (∀ p ∈ ps, ∀ q ∈ g, q.1 ≠ p.id) → (leftG g ps).2 = ps.filter (isLeft (leftG g ps).1)
  | [], g, _, _ => rfl
  | p :: t, g, hn, hg => by
    obtain ⟨n1, n2⟩ := List.pairwise_cons.1 hn
    rw [leftG]
    split
    · rw [leftG_filter t g n2 (fun x hx => hg x (by simp [hx])), List.filter_cons, if_pos]
      rw [isLeft_iff]
      intro q hq
      obtain ⟨h, h1, h2⟩ := leftG_grow t g
      have hq : q ∈ (leftG g t).1 := hq
      rw [h1] at hq
      rcases List.mem_append.1 hq with hq | hq
      · exact hg p (by simp) q hq
      · obtain ⟨x, hx, e⟩ := h2 q hq
        rw [← e]; exact fun e2 => n1 x hx e2.symm
    · rename_i hl
      rw [leftG_filter t _ n2, List.filter_cons, if_neg]
      · rw [isLeft_iff]
        intro hh
        obtain ⟨h, h1, h2⟩ := leftG_grow t (g ++ [(p.id, loneG g p.id (-1) p.args)])
        exact hh (p.id, loneG g p.id (-1) p.args) (by rw [h1]; simp) rfl
      · intro x hx q hq
        rcases List.mem_append.1 hq with hq | hq
        · exact hg x (by simp [hx]) q hq
        · obtain rfl : q = _ := by simpa using hq
          exact n1 x hx
theorem isLeft_grow {g h : List (Int × Int)} {p : PhiD} (hl : isLeft (g ++ h) p = true) : isLeft g p = true := by
  rw [isLeft_iff] at hl ⊢
  exact fun q hq => hl q (by simp [hq])
theorem roundG_grow : ∀ (ps : List (List PhiD)) (g : List (Int × Int)), ∃ h, (roundG g ps).1 = g ++ h ∧ ∀ q ∈ h, ∃ p ∈ ps.flatten, p.id = q.1
  | [], g => ⟨[], by simp [roundG], by simp⟩
  | l :: t, g => by
    rw [roundG]
    obtain ⟨h, h1, h2⟩ := leftG_grow l g
    obtain ⟨h', h3, h4⟩ := roundG_grow t (leftG g l).1
    refine ⟨h ++ h', by rw [h3, h1]; simp, fun q hq => ?_⟩
    rcases List.mem_append.1 hq with hq | hq
    · obtain ⟨p, hp, e⟩ := h2 q hq; exact ⟨p, by simp [hp], e⟩
    · obtain ⟨p, hp, e⟩ := h4 q hq; exact ⟨p, by rw [List.flatten_cons]; exact List.mem_append_right _ hp, e⟩
theorem roundG_filter : ∀ (ps : List (List PhiD)) (g : List (Int × Int)), ps.flatten.Pairwise (fun p q => p.id ≠ q.id) → (∀ p ∈ ps.flatten, ∀ q ∈ g, q.1 ≠ p.id) → (roundG g ps).2 = ps.map (fun l => l.filter (isLeft (roundG g ps).1))
  | [], g, _, _ => rfl
  | l :: t, g, hn, hg => by
    rw [List.flatten_cons] at hn hg
    obtain ⟨n1, n2, n3⟩ := List.pairwise_append.1 hn
    rw [roundG, List.map_cons]
    obtain ⟨h, h1, h2⟩ := leftG_grow l g
    obtain ⟨h', h3, h4⟩ := roundG_grow t (leftG g l).1
    have hg2 : ∀ p ∈ t.flatten, ∀ q ∈ (leftG g l).1, q.1 ≠ p.id := by
      intro p hp q hq
      rw [h1] at hq
      rcases List.mem_append.1 hq with hq | hq
      · exact hg p (List.mem_append_right _ hp) q hq
      · obtain ⟨x, hx, e⟩ := h2 q hq
        rw [← e]; exact n3 x hx p hp
    show (leftG g l).2 :: (roundG (leftG g l).1 t).2 = l.filter (isLeft (roundG (leftG g l).1 t).1) :: t.map (fun l' => l'.filter (isLeft (roundG (leftG g l).1 t).1))
    refine List.cons_eq_cons.2 ⟨?_, ?_⟩
    · rw [leftG_filter l g n1 (fun p hp => hg p (by simp [hp]))]
      refine List.filter_congr fun p hp => ?_
      rw [Bool.eq_iff_iff]
      constructor
      · intro hh
        rw [isLeft_iff] at hh ⊢
        intro q hq
        rw [h3] at hq
        rcases List.mem_append.1 hq with hq | hq
        · exact hh q hq
        · obtain ⟨x, hx, e⟩ := h4 q hq
          rw [← e]; exact fun e2 => n3 p hp x hx e2.symm
      · intro hh; rw [h3] at hh; exact isLeft_grow hh
    · exact roundG_filter t _ n2 hg2
theorem filter_pair {ps : List (List PhiD)} (h : ps.flatten.Pairwise (fun p q => p.id ≠ q.id)) (c : PhiD → Bool) : (ps.map (fun l => l.filter c)).flatten.Pairwise (fun p q => p.id ≠ q.id) := by
  have e : (ps.map (fun l => l.filter c)).flatten = ps.flatten.filter c := by
    induction ps with
    | nil => rfl
    | cons l t ih => rw [List.map_cons, List.flatten_cons, List.flatten_cons, List.filter_append, ih (by rw [List.flatten_cons] at h; exact (List.pairwise_append.1 h).2.1)]
  rw [e]; exact h.filter _
theorem SettleTo.grow {g g' : List (Int × Int)} {ps ps' : List (List PhiD)} (hs : SettleTo g ps g' ps') : ∃ h, g' = g ++ h := by
  induction hs with
  | @stop g ps h1 => obtain ⟨h, e, -⟩ := roundG_grow ps g; exact ⟨h, e⟩
  | @on g g' ps ps' h1 hn ih =>
    obtain ⟨h, e, -⟩ := roundG_grow ps g
    obtain ⟨h2, e2⟩ := ih
    exact ⟨h ++ h2, by rw [e2, e]; simp⟩
theorem SettleTo.filter {g g' : List (Int × Int)} {ps ps' : List (List PhiD)} (hs : SettleTo g ps g' ps') : ps.flatten.Pairwise (fun p q => p.id ≠ q.id) → (∀ p ∈ ps.flatten, ∀ q ∈ g, q.1 ≠ p.id) → ps' = ps.map (fun l => l.filter (isLeft g')) := by
  induction hs with
  | stop h1 => exact fun hn hg => roundG_filter _ _ hn hg
  | @on g g' ps ps' h1 hn ih =>
    intro hp hg
    have e := roundG_filter ps g hp hg
    rw [e] at ih
    have h2 := ih (filter_pair hp _) (fun p hp2 q hq => by
      obtain ⟨l, hl, hpl⟩ := List.mem_flatten.1 hp2
      obtain ⟨l0, -, rfl⟩ := List.mem_map.1 hl
      exact isLeft_iff.1 (List.mem_filter.1 hpl).2 q hq)
    rw [h2, List.map_map]
    refine List.map_congr_left fun l _ => ?_
    show (l.filter (isLeft (roundG g ps).1)).filter (isLeft g') = l.filter (isLeft g')
    rw [List.filter_filter]
    refine List.filter_congr fun p _ => ?_
    obtain ⟨h3, e3⟩ := hn.grow
    cases hb : isLeft g' p with
    | false => simp
    | true => rw [e3] at hb; simp [isLeft_grow hb]
end Go.Proofs.YtldbmdgpdolaaaaDoor
