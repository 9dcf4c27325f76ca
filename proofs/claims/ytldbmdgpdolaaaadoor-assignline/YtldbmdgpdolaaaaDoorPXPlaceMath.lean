import Derived.Test.YtldbmdgpdolaaaaDoorPGroupA
import Derived.Deep.AppendLies
import Derived.Test.YtldbmdgpdolaaaaDoorPGroupP
import Derived.Test.YtldbmdgpdolaaaaDoorPXOneRight
import Derived.DeepKeys4
namespace Go.Proofs.YtldbmdgpdolaaaaDoor
open Go Go.RowKit

def ofT (bits : Nat) (l : List Int) : Nat → List Int
  | 0 => []
  | n + 1 => if bits.testBit n = true then ofT bits l n ++ [l.getD n 0] else ofT bits l n
theorem ofT_mem {bits : Nat} {l : List Int} {z : Int} : ∀ {n : Nat}, z ∈ ofT bits l n ↔ ∃ r, r < n ∧ bits.testBit r = true ∧ l.getD r 0 = z
  | 0 => by simp [ofT]
  | n + 1 => by
    rw [ofT]
    have key : (∃ r, r < n + 1 ∧ bits.testBit r = true ∧ l.getD r 0 = z) ↔ (∃ r, r < n ∧ bits.testBit r = true ∧ l.getD r 0 = z) ∨ (bits.testBit n = true ∧ l.getD n 0 = z) := by
      constructor
      · rintro ⟨r, hr, h⟩
        by_cases e : r = n
        · subst e; exact Or.inr h
        · exact Or.inl ⟨r, by omega, h⟩
      · rintro (⟨r, hr, h⟩ | h)
        · exact ⟨r, by omega, h⟩
        · exact ⟨n, by omega, h⟩
    rw [key, ← ofT_mem]
    split
    · rename_i hb
      rw [List.mem_append, List.mem_singleton]
      exact ⟨fun h => h.imp id fun e => ⟨hb, e.symm⟩, fun h => h.imp id fun e => e.2.symm⟩
    · rename_i hb
      exact ⟨Or.inl, fun h => h.elim id fun e => absurd e.1 hb⟩
theorem ofT_len (bits : Nat) (l : List Int) : ∀ n, (ofT bits l n).length ≤ n
  | 0 => by simp [ofT]
  | n + 1 => by
    have := ofT_len bits l n
    rw [ofT]; split
    · rw [List.length_append, List.length_singleton]; omega
    · omega
theorem ofT_nodup {bits : Nat} {l : List Int} : ∀ {n : Nat}, (∀ r s, r < n → s < n → bits.testBit r = true → bits.testBit s = true → l.getD r 0 = l.getD s 0 → r = s) → (ofT bits l n).Nodup
  | 0, _ => by simp [ofT]
  | n + 1, h => by
    have ih : (ofT bits l n).Nodup := ofT_nodup fun r s hr hs => h r s (by omega) (by omega)
    rw [ofT]
    split
    · rename_i hb
      refine List.nodup_append.2 ⟨ih, by simp, fun a ha b hb' e => ?_⟩
      obtain rfl : b = l.getD n 0 := by simpa using hb'
      obtain ⟨r, hr, h1, h2⟩ := ofT_mem.1 ha
      have := h r n (by omega) (by omega) h1 hb (by rw [h2, e])
      omega
    · exact ih
def addM (M : Nat → List Int) (a b : Int) : Nat → List Int := fun v => if (v : Int) = a then M v ++ [b] else M v
def bothM (M : Nat → List Int) (a b : Int) : Nat → List Int := addM (addM M a b) b a
def inM (M : Nat → List Int) (one : Int) (l : List Int) : Nat → (Nat → List Int)
  | 0 => M
  | k + 1 => bothM (inM M one l k) one (l.getD k 0)
def meetM (M : Nat → List Int) (l : List Int) : Nat → (Nat → List Int)
  | 0 => M
  | i + 1 => inM (meetM M l i) (l.getD i 0) l i
abbrev metL2 (M : Nat → List Int) (l : List Int) : Nat → List Int := meetM M l l.length
theorem addM_mem {M : Nat → List Int} {a b z : Int} {v : Nat} : z ∈ addM M a b v ↔ z ∈ M v ∨ ((v : Int) = a ∧ z = b) := by
  unfold addM
  split
  · rename_i h; rw [List.mem_append, List.mem_singleton]; simp [h]
  · rename_i h; simp [h]
theorem addM_len (M : Nat → List Int) (a b : Int) (v : Nat) : (addM M a b v).length ≤ (M v).length + 1 := by
  unfold addM; split <;> simp
theorem bothM_mem {M : Nat → List Int} {a b z : Int} {v : Nat} : z ∈ bothM M a b v ↔ z ∈ M v ∨ ((v : Int) = a ∧ z = b) ∨ ((v : Int) = b ∧ z = a) := by
  unfold bothM; rw [addM_mem, addM_mem, or_assoc]
theorem bothM_len (M : Nat → List Int) (a b : Int) (v : Nat) : (bothM M a b v).length ≤ (M v).length + 2 := by
  have h1 := addM_len M a b v
  have h2 := addM_len (addM M a b) b a v
  unfold bothM; omega
theorem inM_mem {M : Nat → List Int} {one z : Int} {l : List Int} {v : Nat} : ∀ {k : Nat}, z ∈ inM M one l k v ↔ z ∈ M v ∨ ∃ j, j < k ∧ (((v : Int) = one ∧ z = l.getD j 0) ∨ ((v : Int) = l.getD j 0 ∧ z = one))
  | 0 => by simp [inM]
  | k + 1 => by
    rw [inM, bothM_mem, inM_mem, or_assoc]
    refine or_congr Iff.rfl ⟨?_, ?_⟩
    · rintro (⟨j, hj, h⟩ | h)
      · exact ⟨j, by omega, h⟩
      · exact ⟨k, by omega, h⟩
    · rintro ⟨j, hj, h⟩
      by_cases e : j = k
      · subst e; exact Or.inr h
      · exact Or.inl ⟨j, by omega, h⟩
theorem inM_len (M : Nat → List Int) (one : Int) (l : List Int) (v : Nat) : ∀ k, (inM M one l k v).length ≤ (M v).length + 2 * k
  | 0 => by simp [inM]
  | k + 1 => by
    have h1 := inM_len M one l v k
    have h2 := bothM_len (inM M one l k) one (l.getD k 0) v
    rw [inM]; omega
theorem meetM_mem {M : Nat → List Int} {z : Int} {l : List Int} {v : Nat} : ∀ {i : Nat}, z ∈ meetM M l i v ↔ z ∈ M v ∨ ∃ j k, j < i ∧ k < j ∧ (((v : Int) = l.getD j 0 ∧ z = l.getD k 0) ∨ ((v : Int) = l.getD k 0 ∧ z = l.getD j 0))
  | 0 => by simp [meetM]
  | i + 1 => by
    rw [meetM, inM_mem, meetM_mem, or_assoc]
    refine or_congr Iff.rfl ⟨?_, ?_⟩
    · rintro (⟨j, k, hj, hk, h⟩ | ⟨k, hk, h⟩)
      · exact ⟨j, k, by omega, hk, h⟩
      · exact ⟨i, k, by omega, hk, h⟩
    · rintro ⟨j, k, hj, hk, h⟩
      by_cases e : j = i
      · subst e; exact Or.inr ⟨k, hk, h⟩
      · exact Or.inl ⟨j, k, by omega, hk, h⟩
theorem meetM_len (M : Nat → List Int) (l : List Int) (v : Nat) : ∀ i, i ≤ 12 → (meetM M l i v).length ≤ (M v).length + 24 * i
  | 0, _ => by simp [meetM]
  | i + 1, h => by
    have h1 := meetM_len M l v i (by omega)
    have h2 := inM_len (meetM M l i) (l.getD i 0) l v i
    rw [meetM]; omega
theorem metL2_mem {M : Nat → List Int} {z : Int} {l : List Int} {v : Nat} (hn : l.Nodup) : z ∈ metL2 M l v ↔ z ∈ M v ∨ ((v : Int) ∈ l ∧ z ∈ l ∧ z ≠ (v : Int)) := by
  have g : ∀ j, j < l.length → l.getD j 0 ∈ l := fun j hj => by simp [List.getD, hj]
  have inj : ∀ j k, j < l.length → k < j → l.getD j 0 ≠ l.getD k 0 := fun j k hj hk e => by
    have hk' : k < l.length := by omega
    have e1 : l.getD j 0 = l[j] := by simp [List.getD, hj]
    have e2 : l.getD k 0 = l[k] := by simp [List.getD, hk']
    rw [e1, e2] at e
    exact List.pairwise_iff_getElem.1 hn k j hk' hj hk e.symm
  rw [metL2, meetM_mem]
  refine or_congr Iff.rfl ⟨?_, ?_⟩
  · rintro ⟨j, k, hj, hk, ⟨e1, e2⟩ | ⟨e1, e2⟩⟩
    · rw [e1, e2]; exact ⟨g j hj, g k (by omega), fun e => inj j k hj hk e.symm⟩
    · rw [e1, e2]; exact ⟨g k (by omega), g j hj, inj j k hj hk⟩
  · rintro ⟨hv, hz, hne⟩
    obtain ⟨j, hj, ej⟩ := List.getElem_of_mem hv
    obtain ⟨k, hk, ek⟩ := List.getElem_of_mem hz
    have e1 : l.getD j 0 = (v : Int) := by simp [List.getD, hj, ej]
    have e2 : l.getD k 0 = z := by simp [List.getD, hk, ek]
    rcases Nat.lt_trichotomy j k with h | h | h
    · exact ⟨k, j, hk, h, Or.inr ⟨e1.symm, e2.symm⟩⟩
    · subst h; exact absurd (e2.symm.trans e1) hne
    · exact ⟨j, k, hj, h, Or.inl ⟨e1.symm, e2.symm⟩⟩
structure MetOk (n : Nat) (M : Nat → List Int) : Prop where
  rng : ∀ u, u < n → ∀ z ∈ M u, 0 ≤ z ∧ z < (n : Int)
  out : ∀ u, n ≤ u → M u = []
  even : ∀ u v : Nat, (v : Int) ∈ M u → (u : Int) ∈ M v
  self : ∀ u : Nat, ¬ (u : Int) ∈ M u
theorem metOk_nil (n : Nat) : MetOk n fun _ => [] := ⟨by simp, fun _ _ => rfl, by simp, by simp⟩
theorem addM_out {M : Nat → List Int} {a b : Int} {v : Nat} (h : (v : Int) ≠ a) : addM M a b v = M v := if_neg h
theorem inM_out {M : Nat → List Int} {one : Int} {l : List Int} {v : Nat} (h1 : (v : Int) ≠ one) (h2 : ∀ j, j < l.length → (v : Int) ≠ l.getD j 0) : ∀ k, k ≤ l.length → inM M one l k v = M v
  | 0, _ => rfl
  | k + 1, hk => by
    rw [inM]; unfold bothM
    rw [addM_out (h2 k (by omega)), addM_out h1, inM_out h1 h2 k (by omega)]
theorem meetM_out {M : Nat → List Int} {l : List Int} {v : Nat} (h2 : ∀ j, j < l.length → (v : Int) ≠ l.getD j 0) : ∀ i, i ≤ l.length → meetM M l i v = M v
  | 0, _ => rfl
  | i + 1, hi => by rw [meetM, inM_out (h2 i (by omega)) h2 i (by omega), meetM_out h2 i (by omega)]
theorem MetOk.meet {n : Nat} {M : Nat → List Int} (h : MetOk n M) {l : List Int} (hn : l.Nodup) (hl : ∀ z ∈ l, 0 ≤ z ∧ z < (n : Int)) : MetOk n (metL2 M l) := by
  refine ⟨fun u hu z hz => ?_, fun u hu => ?_, fun u v hz => ?_, fun u hz => ?_⟩
  · rcases (metL2_mem hn).1 hz with h1 | ⟨-, h1, -⟩
    · exact h.rng u hu z h1
    · exact hl z h1
  · rw [metL2, meetM_out (fun j hj e => ?_) _ (Nat.le_refl _), h.out u hu]
    have := (hl (l.getD j 0) (by simp [List.getD, hj])).2
    omega
  · rcases (metL2_mem hn).1 hz with h1 | ⟨h1, h2, h3⟩
    · exact (metL2_mem hn).2 (Or.inl (h.even u v h1))
    · exact (metL2_mem hn).2 (Or.inr ⟨h2, h1, fun e => h3 e.symm⟩)
  · rcases (metL2_mem hn).1 hz with h1 | ⟨-, -, h3⟩
    · exact h.self u h1
    · exact h3 rfl
theorem metL2_keeps {M : Nat → List Int} {l : List Int} {v : Nat} {z : Int} (h : z ∈ M v) : z ∈ metL2 M l v := meetM_mem.2 (Or.inl h)
theorem metL2_len (M : Nat → List Int) {l : List Int} (hl : l.length ≤ 12) (v : Nat) : (metL2 M l v).length ≤ (M v).length + 288 := by
  have := meetM_len M l v l.length hl
  show (meetM M l l.length v).length ≤ _
  omega
def IsLow (T : List Nat) (p : Nat) : Prop := p ∉ T ∧ ∀ q, q < p → q ∈ T
theorem IsLow.unique {T : List Nat} {p q : Nat} (hp : IsLow T p) (hq : IsLow T q) : p = q := by
  rcases Nat.lt_trichotomy p q with h | h | h
  · exact absurd (hq.2 p h) hp.1
  · exact h
  · exact absurd (hp.2 q h) hq.1
theorem all_below_len : ∀ (p : Nat) (T : List Nat), (∀ q, q < p → q ∈ T) → p ≤ T.length
  | 0, _, _ => Nat.zero_le _
  | p + 1, T, h => by
    have hp : p ∈ T := h p (by omega)
    have h1 : p ≤ (T.erase p).length := all_below_len p _ fun q hq => (List.mem_erase_of_ne (by omega)).2 (h q (by omega))
    rw [List.length_erase_of_mem hp] at h1
    have := List.length_pos_of_mem hp
    omega
theorem IsLow.le {T : List Nat} {p : Nat} (h : IsLow T p) : p ≤ T.length := all_below_len p T h.2
def takenL (A : Nat → Nat) (v : Nat) (l : List Int) : List Nat := (l.filter fun z => decide (z < (v : Int))).map fun z => A z.toNat
theorem takenL_mem {A : Nat → Nat} {v : Nat} {l : List Int} {p : Nat} : p ∈ takenL A v l ↔ ∃ z ∈ l, z < (v : Int) ∧ A z.toNat = p := by
  simp only [takenL, List.mem_map, List.mem_filter, decide_eq_true_eq, and_assoc]
theorem takenL_snoc (A : Nat → Nat) (v : Nat) (l : List Int) (z : Int) : takenL A v (l ++ [z]) = if z < (v : Int) then takenL A v l ++ [A z.toNat] else takenL A v l := by
  unfold takenL
  rw [List.filter_append, List.map_append]
  split
  · rename_i h; simp [h]
  · rename_i h; simp [h]
theorem takenL_congr {A B : Nat → Nat} {v : Nat} {l : List Int} (hl : ∀ z ∈ l, 0 ≤ z) (h : ∀ u, u < v → A u = B u) : takenL A v l = takenL B v l := by
  unfold takenL
  refine List.map_congr_left fun z hz => ?_
  obtain ⟨h1, h2⟩ := List.mem_filter.1 hz
  have h0 := hl z h1
  have h3 : z < (v : Int) := by simpa using h2
  exact h _ (by omega)
def PlOk (n : Nat) (C : Nat → List Int) (A : Nat → Nat) : Prop := ∀ v, v < n → IsLow (takenL A v (C v)) (A v)
theorem PlOk.le {n : Nat} {C : Nat → List Int} {A : Nat → Nat} (h : PlOk n C A) (hC : ∀ v, v < n → ∀ z ∈ C v, 0 ≤ z) : ∀ v, v < n → A v ≤ v := by
  intro v
  induction v using Nat.strongRecOn with
  | ind v ih =>
    intro hv
    refine Nat.le_of_not_lt fun hlt => ?_
    obtain ⟨z, hz, h1, h2⟩ := takenL_mem.1 ((h v hv).2 v hlt)
    have h0 := hC v hv z hz
    have := ih z.toNat (by omega) (by omega)
    omega
theorem PlOk.ne {n : Nat} {C : Nat → List Int} {A : Nat → Nat} (h : PlOk n C A) (hM : MetOk n C) {u v : Nat} (hu : u < n) (hv : v < n) (hc : (v : Int) ∈ C u) : A u ≠ A v := by
  intro e
  have key : ∀ a b : Nat, a < n → b < a → (b : Int) ∈ C a → A a ≠ A b := fun a b ha hb hm e => (h a ha).1 (takenL_mem.2 ⟨(b : Int), hm, by omega, by rw [Int.toNat_natCast]; exact e.symm⟩)
  rcases Nat.lt_trichotomy u v with hlt | hlt | hlt
  · exact key v u hv hlt (hM.even u v hc) e.symm
  · subst hlt; exact hM.self u hc
  · exact key u v hu hlt hc e
end Go.Proofs.YtldbmdgpdolaaaaDoor
namespace Go.Proofs.YtldbmdgpdolaaaaDoor
open Go Go.RowKit

structure MtAt (w : World) (base g n : Nat) (VV : Nat → Value) (LL : Nat → List Int) : Prop where
  row : w.ownsRow base 37 1 (.slice (some ⟨g, 0, none⟩) n n) n (gC (fun i => [VV i]) n)
  sl : Slots w base n VV LL
structure MtTo (base : Nat) (w w' : World) (g n : Nat) (VV VV' : Nat → Value) : Prop where
  bel : Below base w w'
  rest : ∀ q, q < w.heap.size → q ≠ g → (∀ s, s < n → (VV s).ownBlock ≠ some q) → w'.heap[q]? = w.heap[q]?
  own : ∀ s, s < n → ∀ q, (VV' s).ownBlock = some q → (∃ t, t < n ∧ (VV t).ownBlock = some q) ∨ w.heap.size ≤ q
theorem MtTo.refl (base : Nat) (w : World) (g n : Nat) (VV : Nat → Value) : MtTo base w w g n VV VV := ⟨Below.refl _ _, fun _ _ _ _ => rfl, fun s hs _ e => Or.inl ⟨s, hs, e⟩⟩
theorem MtTo.trans {base : Nat} {a b c : World} {g n : Nat} {VA VB VC : Nat → Value} (h : MtTo base a b g n VA VB) (k : MtTo base b c g n VB VC) : MtTo base a c g n VA VC := by
  have hz := h.bel.size
  refine ⟨h.bel.trans k.bel, fun q hq hg hv => ?_, fun s hs q e => ?_⟩
  · rw [k.rest q (by omega) hg fun s hs e => ?_, h.rest q hq hg hv]
    rcases h.own s hs q e with ⟨t, ht, e'⟩ | h'
    · exact hv t ht e'
    · omega
  · rcases k.own s hs q e with ⟨t, ht, e'⟩ | h'
    · exact h.own t ht q e'
    · exact Or.inr (by omega)
theorem MtTo.below {base : Nat} {w w' : World} (g n : Nat) (VV : Nat → Value) (h : Below w.heap.size w w') (hb : base ≤ w.heap.size) : MtTo base w w' g n VV VV :=
  ⟨h.mono hb, fun q hq _ _ => h.block q hq, fun s hs _ e => Or.inl ⟨s, hs, e⟩⟩
theorem MtAt.at {w : World} {base g n : Nat} {VV : Nat → Value} {LL : Nat → List Int} (h : MtAt w base g n VV LL) : base ≤ g ∧ g < w.heap.size := World.ownsRow.lt h.row g rfl
theorem MtAt.below {w w' : World} {base g n : Nat} {VV : Nat → Value} {LL : Nat → List Int} (h : MtAt w base g n VV LL) (hb : Below w.heap.size w w') : MtAt w' base g n VV LL := ⟨ownsRow_below h.row hb, h.sl.below hb⟩
theorem oneC_len (VV : Nat → Value) {n : Nat} : ∀ i, i < n → ((fun i => [VV i]) i : List Value).length = 1 := fun _ _ => rfl
theorem MtAt.cell {w : World} {base g n : Nat} {VV : Nat → Value} {LL : Nat → List Int} (h : MtAt w base g n VV LL) {s : Nat} (hs : s < n) : w.cell? ⟨g, s, none⟩ = some (VV s) := by
  rw [World.ownsRow.cellAt h.row s (by omega)]
  have := gC_get (s := 1) (C := fun i => [VV i]) (k := n) (oneC_len VV) s 0 hs (by omega)
  rw [Nat.mul_one, Nat.add_zero] at this
  rw [this]; rfl
theorem MtAt.ne {w : World} {base g n : Nat} {VV : Nat → Value} {LL : Nat → List Int} (h : MtAt w base g n VV LL) {s : Nat} (hs : s < n) : (VV s).ownBlock ≠ some g := fun e => by
  rcases h.row.2 with ⟨h1, -⟩ | ⟨q, cap, cur, h1, -, h2, -⟩
  · cases h1
  · simp at h1
    obtain ⟨rfl, rfl⟩ := h1
    have := own_type (h.sl.own s hs) e h2
    exact absurd this (by decide)
theorem Slots.keptN {w w' : World} {base m : Nat} {VV : Nat → Value} {LL : Nat → List Int} (h : Slots w base m VV LL) {row : Option Nat} (hg : w.grownBy w' row) (hr : ∀ s, s < m → ∀ q, (VV s).ownBlock = some q → row ≠ some q) : Slots w' base m VV LL :=
  ⟨fun s hs => (h.own s hs).kept hg (by
    cases hv : (VV s).ownBlock with
    | none => exact Or.inl rfl
    | some q => exact Or.inr fun e => hr s hs q hv e.symm), h.apart⟩
theorem gb_setCellM (w : World) (g j : Nat) (v : Value) : w.grownBy (w.setCell ⟨g, j, none⟩ v) (some g) :=
  ⟨rfl, rfl, rfl, by simp, fun k hk hne => Below.heap_setCell _ _ _ _ (fun e => hne (by rw [e]))⟩
theorem MtAt.put {w w1 w' : World} {base g n : Nat} {VV : Nat → Value} {LL : Nat → List Int} (h : MtAt w base g n VV LL) (h1 : Below w.heap.size w w1) {s : Nat} (hs : s < n) (hg : w1.grownBy w' (VV s).ownBlock) {v : Value} {l : List Int} (hown : OwnI w' base v l)
    (hloc : v.ownBlock = (VV s).ownBlock ∨ ∃ q, v.ownBlock = some q ∧ w1.heap.size ≤ q) :
    w'.cell? ⟨g, s, none⟩ = some (VV s) ∧ w'.frozen? ⟨g, s, none⟩ = false ∧ MtAt (w'.setCell ⟨g, s, none⟩ v) base g n (upd VV s v) (upd LL s l) ∧ MtTo base w (w'.setCell ⟨g, s, none⟩ v) g n VV (upd VV s v) := by
  obtain ⟨hbg, hgw⟩ := h.at
  have hA := h.below h1
  have hz1 := h1.size
  have hz2 := hg.size
  have hr : w'.ownsRow base 37 1 (.slice (some ⟨g, 0, none⟩) n n) n (gC (fun i => [VV i]) n) := World.ownsRow.kept hA.row hg (Or.inr (by show some g ≠ _; exact fun e => h.ne hs e.symm))
  have hs2 : Slots w' base n (upd VV s v) (upd LL s l) := hA.sl.upd hs hg hown hloc
  have hc : w'.cell? ⟨g, s, none⟩ = some (VV s) := by
    rw [World.ownsRow.cellAt hr s (by omega)]
    have := gC_get (s := 1) (C := fun i => [VV i]) (k := n) (oneC_len VV) s 0 hs (by omega)
    rw [Nat.mul_one, Nat.add_zero] at this
    rw [this]; rfl
  have hf : w'.frozen? ⟨g, s, none⟩ = false := World.ownsRow.frozenAt hr s
  have hne : ∀ t, t < n → ∀ q, (upd VV s v t).ownBlock = some q → (VV t).ownBlock = some q ∨ ((VV s).ownBlock = some q ∧ t = s) ∨ w1.heap.size ≤ q := fun t ht q e => by
    by_cases hts : t = s
    · subst hts
      rw [upd_same] at e
      rcases hloc with h' | ⟨q', h', h''⟩
      · rw [h'] at e; exact Or.inl e
      · rw [h'] at e; cases e; exact Or.inr (Or.inr h'')
    · rw [upd_other VV hts] at e; exact Or.inl e
  have hst := World.ownsRow.stored hr s v
  have e1 : (gC (fun i => [VV i]) n).set s v = gC (fun i => [upd VV s v i]) n := by
    have := gC_set (s := 1) (C := fun i => [VV i]) (k := n) (oneC_len VV) (i := s) (c := 0) hs (by omega) v
    rw [Nat.mul_one, Nat.add_zero] at this
    rw [this]
    refine gC_same fun i hi => ?_
    by_cases e : i = s
    · subst e; rw [upd_same, upd_same]; rfl
    · rw [upd_other _ e, upd_other _ e]
  rw [e1] at hst
  have hgc := gb_setCellM w' g s v
  refine ⟨hc, hf, ⟨hst.1, hs2.keptN hgc fun t ht q e e' => ?_⟩, ⟨?_, fun q hq hqg hqv => ?_, fun t ht q e => ?_⟩⟩
  · have e'' := Option.some.inj e'
    subst e''
    rcases hne t ht g e with h' | ⟨h', -⟩ | h'
    · exact h.ne ht h'
    · exact h.ne hs h'
    · omega
  · have a1 : Below base w w1 := h1.mono (by omega)
    have a2 : Below base w1 w' := grown_base (hA.sl.own s hs) (by omega) hg
    exact (a1.trans a2).setCell hbg v
  · rw [Below.heap_setCell _ _ _ _ hqg, hg.block q (by omega) (fun e => hqv s hs e.symm), h1.block q hq]
  · rcases hne t ht q e with h' | ⟨h', -⟩ | h'
    · exact Or.inl ⟨t, ht, h'⟩
    · exact Or.inl ⟨s, hs, h'⟩
    · exact Or.inr (by omega)
theorem addM_upd {M : Nat → List Int} {s : Nat} {b : Int} : upd M s (M s ++ [b]) = addM M (s : Int) b := by
  funext v
  unfold upd addM
  by_cases h : v = s
  · subst h; rw [if_pos rfl, if_pos rfl]
  · rw [if_neg h, if_neg (by omega)]
end Go.Proofs.YtldbmdgpdolaaaaDoor
namespace Go.Proofs.YtldbmdgpdolaaaaDoor
open Go Go.RowKit

inductive FV
  | never
  | known (n : Int)
  | many
deriving DecidableEq
def FV.num : FV → Int
  | .known n => n
  | _ => 0
def FV.le : FV → FV → Prop
  | .never, _ => True
  | .known a, .known b => a = b
  | _, .many => True
  | _, _ => False
theorem FV.le_refl (a : FV) : a.le a := by cases a <;> simp [FV.le]
theorem FV.le_trans {a b c : FV} (h : a.le b) (k : b.le c) : a.le c := by
  cases a <;> cases b <;> cases c <;> simp [FV.le] at h k ⊢
  exact h.trans k
theorem FV.le_antisymm {a b : FV} (h : a.le b) (k : b.le a) : a = b := by
  cases a <;> cases b <;> simp [FV.le] at h k ⊢
  exact h
theorem FV.never_le (a : FV) : FV.never.le a := by cases a <;> trivial
theorem FV.le_many (a : FV) : a.le .many := by cases a <;> trivial
theorem FV.le_never {a : FV} (h : a.le .never) : a = .never := by cases a <;> simp [FV.le] at h ⊢
def eitherF (a b : FV) : FV := if a = .never ∨ a = b then b else if b = .never then a else .many
theorem eitherF_left (a b : FV) : a.le (eitherF a b) := by
  unfold eitherF
  split
  · rename_i h
    rcases h with rfl | rfl
    · exact FV.never_le _
    · exact FV.le_refl _
  · split
    · exact FV.le_refl _
    · exact FV.le_many _
theorem eitherF_right (a b : FV) : b.le (eitherF a b) := by
  unfold eitherF
  split
  · exact FV.le_refl _
  · split
    · rename_i h; rw [h]; exact FV.never_le _
    · exact FV.le_many _
theorem eitherF_least {a b c : FV} (h : a.le c) (k : b.le c) : (eitherF a b).le c := by
  unfold eitherF
  split
  · exact k
  · split
    · exact h
    · rename_i h1 h2
      cases a <;> cases b <;> cases c <;> simp_all [FV.le]
abbrev Facts := Nat → FV
abbrev Ways := List (Int × Int)
def leF (F F' : Facts) : Prop := ∀ v, (F v).le (F' v)
theorem leF.refl (F : Facts) : leF F F := fun _ => FV.le_refl _
theorem leF.trans {F F' F'' : Facts} (h : leF F F') (k : leF F' F'') : leF F F'' := fun v => FV.le_trans (h v) (k v)
structure Site where
  blk : Nat
  id : Nat
  tr : Facts → Ways → FV
structure Know where
  n : Nat
  par : Nat
  prev : Nat → List Int
  goes : Nat → Facts → List Int
  site : Site → Prop
def Know.met (C : Know) (G : Ways) (b : Nat) : Prop := ∃ z ∈ C.prev b, (z, (b : Int)) ∈ G
theorem Know.met_mono {C : Know} {G G' : Ways} (h : ∀ x ∈ G, x ∈ G') {b : Nat} (hm : C.met G b) : C.met G' b := by
  obtain ⟨z, hz, hg⟩ := hm; exact ⟨z, hz, h _ hg⟩
structure Know.Ok (C : Know) : Prop where
  blk : ∀ s, C.site s → s.blk < C.n ∧ C.par ≤ s.id
  mono : ∀ s, C.site s → ∀ F F' G G', leF F F' → (∀ x ∈ G, x ∈ G') → (s.tr F G).le (s.tr F' G')
  uniq : ∀ s s', C.site s → C.site s' → s.id = s'.id → s = s'
  goes : ∀ b, b < C.n → ∀ F F', leF F F' → ∀ z ∈ C.goes b F, z ∈ C.goes b F'
structure Know.Closed (C : Know) (F : Facts) (G : Ways) : Prop where
  par : ∀ v, v < C.par → F v = .many
  start : ((-1, 0) : Int × Int) ∈ G
  site : ∀ s, C.site s → C.met G s.blk → (s.tr F G).le (F s.id)
  go : ∀ b, b < C.n → C.met G b → ∀ z ∈ C.goes b F, ((b : Int), z) ∈ G
structure Know.Inv (C : Know) (F : Facts) (G : Ways) : Prop where
  par : ∀ v, v < C.par → F v = .many
  start : ((-1, 0) : Int × Int) ∈ G
  asc : ∀ s, C.site s → F s.id ≠ .never → C.met G s.blk ∧ (F s.id).le (s.tr F G)
  least : ∀ F' G', C.Closed F' G' → leF F F' ∧ ∀ x ∈ G, x ∈ G'
theorem Know.Inv.new {C : Know} (hC : C.Ok) : C.Inv (fun v => if v < C.par then .many else .never) [(-1, 0)] := by
  refine ⟨fun v hv => if_pos hv, by simp, fun s hs h => ?_, fun F' G' h => ⟨fun v => ?_, fun x hx => ?_⟩⟩
  · rw [if_neg (by have := (hC.blk s hs).2; omega)] at h; exact absurd rfl h
  · show FV.le (if v < C.par then .many else .never) _
    by_cases hv : v < C.par
    · rw [if_pos hv, h.par v hv]; exact FV.le_refl _
    · rw [if_neg hv]; exact FV.never_le _
  · have : x = (-1, 0) := by simpa using hx
    rw [this]; exact h.start
theorem Know.Inv.rises {C : Know} {F : Facts} {G : Ways} (h : C.Inv F G) {s : Site} (hs : C.site s) : (F s.id).le (s.tr F G) := by
  by_cases hn : F s.id = .never
  · rw [hn]; exact FV.never_le _
  · exact (h.asc s hs hn).2
theorem Know.Inv.go {C : Know} (hC : C.Ok) {F : Facts} {G : Ways} (h : C.Inv F G) {b : Nat} (hb : b < C.n) (hm : C.met G b) {z : Int} (hz : z ∈ C.goes b F) {G' : Ways} (hG : ∀ x, x ∈ G' ↔ x = ((b : Int), z) ∨ x ∈ G) : C.Inv F G' := by
  have hsub : ∀ x ∈ G, x ∈ G' := fun x hx => (hG x).2 (Or.inr hx)
  refine ⟨h.par, hsub _ h.start, fun s hs hn => ?_, fun F' G2 hc => ?_⟩
  · obtain ⟨h1, h2⟩ := h.asc s hs hn
    exact ⟨Know.met_mono hsub h1, FV.le_trans h2 (hC.mono s hs _ _ _ _ (leF.refl _) hsub)⟩
  · obtain ⟨h1, h2⟩ := h.least F' G2 hc
    refine ⟨h1, fun x hx => ?_⟩
    rcases (hG x).1 hx with rfl | hx
    · exact hc.go b hb (Know.met_mono h2 hm) z (hC.goes b hb _ _ h1 z hz)
    · exact h2 x hx
def rkF : FV → Nat
  | .never => 0
  | .known _ => 1
  | .many => 2
theorem rkF_le {a b : FV} (h : a.le b) : rkF a ≤ rkF b := by cases a <;> cases b <;> simp [FV.le, rkF] at h ⊢
theorem rkF_lt {a b : FV} (h : a.le b) (hn : a ≠ b) : rkF a < rkF b := by cases a <;> cases b <;> simp_all [FV.le, rkF]
def sumF (F : Facts) : Nat → Nat
  | 0 => 0
  | v + 1 => sumF F v + rkF (F v)
theorem sumF_le {F F' : Facts} (h : leF F F') : ∀ v, sumF F v ≤ sumF F' v
  | 0 => Nat.le_refl _
  | v + 1 => Nat.add_le_add (sumF_le h v) (rkF_le (h v))
theorem sumF_lt {F F' : Facts} (h : leF F F') {u : Nat} (hn : F u ≠ F' u) : ∀ v, u < v → sumF F v < sumF F' v
  | 0, hu => by omega
  | v + 1, hu => by
    rw [sumF, sumF]
    by_cases e : u = v
    · subst e; have := sumF_le h u; have := rkF_lt (h u) hn; omega
    · have := sumF_lt h hn v (by omega); have := rkF_le (h v); omega
structure Know.Mid (C : Know) (VN : Nat) (F0 : Facts) (G0 : Ways) (F : Facts) (G : Ways) (rose : Bool) (doneS : Site → Prop) (doneB : Nat → Prop) : Prop where
  inv : C.Inv F G
  le : leF F0 F
  sub : ∀ x ∈ G0, x ∈ G
  len : G0.length ≤ G.length
  same : rose = false → F = F0
  more : rose = true → ∃ v, v < VN ∧ F0 v ≠ F v
  grew : G.length = G0.length → G = G0
  site : rose = false → G = G0 → ∀ s, C.site s → doneS s → C.met G0 s.blk → (s.tr F0 G0).le (F0 s.id)
  go : rose = false → G = G0 → ∀ b, doneB b → C.met G0 b → ∀ z ∈ C.goes b F0, ((b : Int), z) ∈ G0
theorem Know.Mid.new {C : Know} {VN : Nat} {F : Facts} {G : Ways} (h : C.Inv F G) : C.Mid VN F G F G false (fun _ => False) (fun _ => False) :=
  ⟨h, leF.refl _, fun _ h => h, Nat.le_refl _, fun _ => rfl, (fun e => by cases e), fun _ => rfl, (fun _ _ _ _ h => h.elim), (fun _ _ _ h => h.elim)⟩
theorem Know.Mid.closed {C : Know} {VN : Nat} {F0 F : Facts} {G0 G : Ways} {rose : Bool} {dS : Site → Prop} {dB : Nat → Prop} (h : C.Mid VN F0 G0 F G rose dS dB) (hS : ∀ s, C.site s → C.met G0 s.blk → dS s) (hB : ∀ b, b < C.n → C.met G0 b → dB b) (hr : rose = false) (hg : ¬ G0.length < G.length) : F = F0 ∧ G = G0 ∧ C.Closed F0 G0 := by
  have eG := h.grew (by have := h.len; omega)
  have eF := h.same hr
  refine ⟨eF, eG, ?_⟩
  have hi := h.inv
  rw [eF, eG] at hi
  exact ⟨hi.par, hi.start, fun s hs hm => h.site hr eG s hs (hS s hs hm) hm, fun b hb hm => h.go hr eG b (hB b hb hm) hm⟩
theorem Know.Mid.less {C : Know} {VN : Nat} {F0 F : Facts} {G0 G : Ways} {rose : Bool} {dS : Site → Prop} {dB : Nat → Prop} (h : C.Mid VN F0 G0 F G rose dS dB) (hr : rose = true ∨ G0.length < G.length) : sumF F0 VN + G0.length < sumF F VN + G.length := by
  have h1 := sumF_le h.le VN
  have h2 := h.len
  rcases hr with hr | hr
  · obtain ⟨v, hv, hn⟩ := h.more hr
    have := sumF_lt h.le hn VN hv
    omega
  · omega
theorem Know.Inv.unique {C : Know} {F F' : Facts} {G G' : Ways} (h : C.Inv F G) (k : C.Closed F G) (h' : C.Inv F' G') (k' : C.Closed F' G') : F = F' ∧ ∀ x, x ∈ G ↔ x ∈ G' := by
  obtain ⟨a1, a2⟩ := h.least _ _ k'
  obtain ⟨b1, b2⟩ := h'.least _ _ k
  exact ⟨funext fun v => FV.le_antisymm (a1 v) (b1 v), fun x => ⟨a2 x, b2 x⟩⟩
end Go.Proofs.YtldbmdgpdolaaaaDoor
namespace Go.Proofs.YtldbmdgpdolaaaaDoor
open Go Go.RowKit

def wayL (a b : Int) : Lit := .string (keyBytes [.int .i64 a, .int .i64 b])
def FitW (a : Int) : Prop := -1 ≤ a ∧ a ≤ 2000
theorem FitW.wf {z : Int} (h : FitW z) : (Lit.int .i64 z).wf = true := WalkArith.wf_i64 (by unfold FitW at h; omega)
def emptyR : Value → Option (Dat × List MemPlace)
  | .agg cs => if cs.size = 0 then some (.agg [], []) else none
  | _ => none
theorem emptyR_ok : emptyR (.agg #[]) = some (.agg [], []) := rfl
theorem emptyR_inv {v : Value} {x : Dat × List MemPlace} (h : emptyR v = some x) : v = .agg #[] := by
  cases v with
  | agg cs =>
    by_cases h1 : cs.size = 0
    · rw [Array.eq_empty_of_size_eq_zero h1]
    · have h2 : (if cs.size = 0 then some ((DataW.agg [] : Dat), ([] : List MemPlace)) else none) = some x := h
      rw [if_neg h1] at h2; cases h2
  | _ => cases h
structure WaysMap (G : List (Int × Int)) (D : Dat) : Prop where
  has : ∀ a b : Int, FitW a → FitW b → Maps.has D (wayL a b) = decide ((a, b) ∈ G)
  size : Maps.size D = G.length
theorem WaysMap.nil : WaysMap [] (.map [] : Dat) := ⟨fun a b _ _ => by simp [Maps.has], rfl⟩
end Go.Proofs.YtldbmdgpdolaaaaDoor
namespace Go.Proofs.YtldbmdgpdolaaaaDoor
open Go Go.RowKit

theorem zero_emptyP (w : World) : (zeroValue 92).run Tryd.prog w = .ok (.agg #[]) w := by kernel_rfl
theorem infoEmptyP : (Tryd.prog.info? 92).map (·.size) = some 0 := by kernel_rfl
abbrev TMapAt (w : World) (B m : Nat) (D : Dat) : Prop := w.ownsMap Tryd.prog 3 emptyR B m D
structure TkMap (T : List Nat) (D : Dat) : Prop where
  has : ∀ p : Nat, Maps.has D (.int .i64 (p : Int)) = decide (p ∈ T)
theorem TkMap.nil : TkMap [] (.map [] : Dat) := ⟨fun p => by simp [Maps.has]⟩
theorem TkMap.add {T : List Nat} {D : Dat} (h : TkMap T D) (hT : Maps.Tidy D) (q : Nat) (d : Dat) : TkMap (T ++ [q]) (D.put (.int .i64 (q : Int)) d) := ⟨fun p => by
  rw [has_put hT.isMap, h.has p]
  by_cases e : p = q
  · subst e; simp
  · have : ¬ (p : Int) = (q : Int) := by omega
    simp [e, this]⟩
theorem TMapAt.below {w w' : World} {B m : Nat} {D : Dat} (h : TMapAt w B m D) (hb : Below w.heap.size w w') : TMapAt w' B m D := by
  obtain ⟨es, cl, hh, r⟩ := h
  exact ⟨es, cl, (hb.block _ (lt_of_block hh)).trans hh, r⟩
set_option maxRecDepth 100000 in
set_option maxHeartbeats 2000000 in
theorem lowest_any (B m : Nat) (D : Dat) (T : List Nat) (w : World) (h : TMapAt w B m D) (hT : TkMap T D) (hl : T.length ≤ 10000) :
    Calls Tryd.prog 33 #[.map (some B)] w fun e w' => ∃ p : Nat, e = .returned (.int .i64 p) ∧ IsLow T p ∧ Below w.heap.size w w' := by
  have HMP : Hid (∀ W, Below w.heap.size w W → TMapAt W B m D) := fun W hW => h.below hW
  have HH : Hid (∀ p : Nat, Maps.has D (.int .i64 (p : Int)) = decide (p ∈ T)) := hT.has
  have HMX : Hid (∀ p : Nat, (∀ q, q < p → q ∈ T) → p ≤ T.length) := fun p hp => all_below_len p T hp
  have HB0 : Hid (∀ V, Below w.heap.size w V → Below w.heap.size w (V.alloc (.cells #[] 92))) := fun V hV => hV.alloc hV.size _
  have hM0 := h
  have hk0 : keyOf Tryd.prog 3 (.int .i64 ((0 : Nat) : Int)) = some (.int .i64 ((0 : Nat) : Int)) := Maps.keyOf_int_mk Tryd.underlying3 (WalkArith.wf_i64 (by omega))
  clear h hT
  go_enter Tryd.func33, Tryd.ntmps33
  go_upto_region 3 with (first
    | (at_lookup; refine wpList_lookup_own_ok _ rfl _ _ 91 rfl 3 92 mlaw Tryd.underlying91 emptyR (zero_emptyP _) _ [] emptyR_ok B m D rfl hM0 _ _ rfl hk0 ?_; intro v ps hv; obtain rfl := emptyR_inv hv)
    | (refine wpList_store_row rfl _ _ _ rfl _ #[] rfl rfl _ _ (heap_alloc_last w _) infoEmptyP rfl rfl ?_))
  have HB1 : Hid (Below w.heap.size w (w.alloc (.cells #[] 92))) := HB0.out w (Below.refl _ _)
  have r0 : (w.alloc (.cells #[] 92)).heap[w.heap.size]? = some (.cells #[] 92 (0, 0)) := heap_alloc_last w _
  have HH0 : Hid (Maps.has D (.int .i64 0) = decide (0 ∈ T)) := HH.out 0
  clear hM0 hk0
  go_loopw [3, 4, 5] (fun p b o wr => ∃ (q g : Nat), p = .int .i64 q ∧ b = .pointer (some ⟨g, 0, none⟩) ∧ o = .bool (decide (q ∈ T)) ∧ (∀ k, k < q → k ∈ T) ∧ wr.heap[g]? = some (.cells #[] 92 (0, 0)) ∧ Below w.heap.size w wr) (fun p _ _ _ => 20000 - (intOf p).toNat)
  case atStart => exact ⟨0, _, rfl, rfl, by rw [HH0.out], fun k hk => absurd hk (Nat.not_lt_zero _), r0, HB1.out⟩
  case round =>
    clear r0 HB1
    obtain ⟨q, g, rfl, rfl, rfl, hlow, hrg, hbr⟩ := hrel
    have HLOW : Hid (∀ k, k < q → k ∈ T) := hlow
    have HBR : Hid (Below w.heap.size w wr) := hbr
    have hq := HMX.out q hlow
    by_cases hm : q ∈ T
    · have hd : decide (q ∈ T) = true := decide_eq_true hm
      have HQ : Hid (q ∈ T) := hm
      rw [hd]
      have HV := HB0.out wr hbr
      have hM := HMP.out _ HV
      have hk1 : keyOf Tryd.prog 3 (.int .i64 ((q : Int) + 1)) = some (.int .i64 ((q : Int) + 1)) := Maps.keyOf_int_mk Tryd.underlying3 (WalkArith.wf_i64 (by omega))
      have HH1 : Hid (Maps.has D (.int .i64 ((q : Int) + 1)) = decide (q + 1 ∈ T)) := by
        have h := HH.out (q + 1)
        rw [Int.natCast_add] at h
        exact h
      have HV2 : Hid (Below w.heap.size w (wr.alloc (.cells #[] 92))) := HV
      clear hm hd hlow hbr HV
      go_wp2_with (first
        | (refine wpList_load_row rfl 92 _ rfl _ rfl _ _ _ _ hrg Tryd.underlying92 rfl infoEmptyP ?_)
        | (at_lookup; refine wpList_lookup_own_ok _ rfl _ _ 91 rfl 3 92 mlaw Tryd.underlying91 emptyR (zero_emptyP _) _ [] emptyR_ok B m D rfl hM _ _ rfl hk1 ?_; intro v ps hv; obtain rfl := emptyR_inv hv)
        | (refine wpList_store_row rfl _ _ _ rfl _ #[] rfl rfl _ _ (heap_alloc_last wr _) infoEmptyP rfl rfl ?_; rw [World.setRow_alloc_new]))
      go_roundw
      case rel => exact ⟨q + 1, _, by go_num, rfl, by rw [HH1.out], fun k hk => by
        by_cases e : k = q
        · rw [e]; exact HQ.out
        · exact HLOW.out k (by omega), heap_alloc_last wr _, HV2.out⟩
      case measure => simp [intOf]; omega
    · have hd : decide (q ∈ T) = false := decide_eq_false hm
      have HQ : Hid (q ∉ T) := hm
      rw [hd]
      clear hm hd hlow hbr hrg
      go_wp2
      go_ret
      exact ⟨q, rfl, ⟨HQ.out, HLOW.out⟩, HBR.out⟩
end Go.Proofs.YtldbmdgpdolaaaaDoor
