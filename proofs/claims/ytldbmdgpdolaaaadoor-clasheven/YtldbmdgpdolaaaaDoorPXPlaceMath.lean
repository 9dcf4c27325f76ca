import Derived.Test.YtldbmdgpdolaaaaDoorPGroupA
import Derived.Deep.AppendLies
import Derived.Test.YtldbmdgpdolaaaaDoorPGroupP
import Derived.Test.YtldbmdgpdolaaaaDoorPXSsaAny
import Derived.Test.YtldbmdgpdolaaaaDoorPXSsaMath
namespace Go.Proofs.YtldbmdgpdolaaaaDoor
open Go Go.RowKit

def ofT (bits : Nat) (l : List Int) : Nat → List Int
  | 0 => []
  | n + 1 => if bits.testBit n = true then ofT bits l n ++ [l.getD n 0] else ofT bits l n
theorem ofT_mem {bits : Nat} {l : List Int} {z : Int} : ∀ {n : Nat}, z ∈ ofT bits l n ↔ ∃ r, r < n ∧ bits.testBit r = true ∧ l.getD r 0 = z
  | 0 => by simp [ofT]
  | n + 1 => by
    rw [ofT]
    have key : (∃ r, r < n + 1 ∧ bits.testBit r = true ∧ l.getD r 0 = z) ↔ (∃ r, r < n ∧ bits.testBit r = true ∧ l.getD r 0 = z) ∨ (bits.testBit n = true ∧ l.getD n 0 = z) := by
      constructor
      · rintro ⟨r, hr, h⟩
        by_cases e : r = n
        · subst e; exact Or.inr h
        · exact Or.inl ⟨r, by omega, h⟩
      · rintro (⟨r, hr, h⟩ | h)
        · exact ⟨r, by omega, h⟩
        · exact ⟨n, by omega, h⟩
    rw [key, ← ofT_mem]
    split
    · rename_i hb
      rw [List.mem_append, List.mem_singleton]
      exact ⟨fun h => h.imp id fun e => ⟨hb, e.symm⟩, fun h => h.imp id fun e => e.2.symm⟩
    · rename_i hb
      exact ⟨Or.inl, fun h => h.elim id fun e => absurd e.1 hb⟩
theorem ofT_len (bits : Nat) (l : List Int) : ∀ n, (ofT bits l n).length ≤ n
  | 0 => by simp [ofT]
  | n + 1 => by
    have := ofT_len bits l n
    rw [ofT]; split
    · rw [List.length_append, List.length_singleton]; omega
    · omega
theorem ofT_nodup {bits : Nat} {l : List Int} : ∀ {n : Nat}, (∀ r s, r < n → s < n → bits.testBit r = true → bits.testBit s = true → l.getD r 0 = l.getD s 0 → r = s) → (ofT bits l n).Nodup
  | 0, _ => by simp [ofT]
  | n + 1, h => by
    have ih : (ofT bits l n).Nodup := ofT_nodup fun r s hr hs => h r s (by omega) (by omega)
    rw [ofT]
    split
    · rename_i hb
      refine List.nodup_append.2 ⟨ih, by simp, fun a ha b hb' e => ?_⟩
      obtain rfl : b = l.getD n 0 := by simpa using hb'
      obtain ⟨r, hr, h1, h2⟩ := ofT_mem.1 ha
      have := h r n (by omega) (by omega) h1 hb (by rw [h2, e])
      omega
    · exact ih
def addM (M : Nat → List Int) (a b : Int) : Nat → List Int := fun v => if (v : Int) = a then M v ++ [b] else M v
def bothM (M : Nat → List Int) (a b : Int) : Nat → List Int := addM (addM M a b) b a
def inM (M : Nat → List Int) (one : Int) (l : List Int) : Nat → (Nat → List Int)
  | 0 => M
  | k + 1 => bothM (inM M one l k) one (l.getD k 0)
def meetM (M : Nat → List Int) (l : List Int) : Nat → (Nat → List Int)
  | 0 => M
  | i + 1 => inM (meetM M l i) (l.getD i 0) l i
abbrev metL2 (M : Nat → List Int) (l : List Int) : Nat → List Int := meetM M l l.length
theorem addM_mem {M : Nat → List Int} {a b z : Int} {v : Nat} : z ∈ addM M a b v ↔ z ∈ M v ∨ ((v : Int) = a ∧ z = b) := by
  unfold addM
  split
  · rename_i h; rw [List.mem_append, List.mem_singleton]; simp [h]
  · rename_i h; simp [h]
theorem addM_len (M : Nat → List Int) (a b : Int) (v : Nat) : (addM M a b v).length ≤ (M v).length + 1 := by
  unfold addM; split <;> simp
theorem bothM_mem {M : Nat → List Int} {a b z : Int} {v : Nat} : z ∈ bothM M a b v ↔ z ∈ M v ∨ ((v : Int) = a ∧ z = b) ∨ ((v : Int) = b ∧ z = a) := by
  unfold bothM; rw [addM_mem, addM_mem, or_assoc]
theorem bothM_len (M : Nat → List Int) (a b : Int) (v : Nat) : (bothM M a b v).length ≤ (M v).length + 2 := by
  have h1 := addM_len M a b v
  have h2 := addM_len (addM M a b) b a v
  unfold bothM; omega
theorem inM_mem {M : Nat → List Int} {one z : Int} {l : List Int} {v : Nat} : ∀ {k : Nat}, z ∈ inM M one l k v ↔ z ∈ M v ∨ ∃ j, j < k ∧ (((v : Int) = one ∧ z = l.getD j 0) ∨ ((v : Int) = l.getD j 0 ∧ z = one))
  | 0 => by simp [inM]
  | k + 1 => by
    rw [inM, bothM_mem, inM_mem, or_assoc]
    refine or_congr Iff.rfl ⟨?_, ?_⟩
    · rintro (⟨j, hj, h⟩ | h)
      · exact ⟨j, by omega, h⟩
      · exact ⟨k, by omega, h⟩
    · rintro ⟨j, hj, h⟩
      by_cases e : j = k
      · subst e; exact Or.inr h
      · exact Or.inl ⟨j, by omega, h⟩
theorem inM_len (M : Nat → List Int) (one : Int) (l : List Int) (v : Nat) : ∀ k, (inM M one l k v).length ≤ (M v).length + 2 * k
  | 0 => by simp [inM]
  | k + 1 => by
    have h1 := inM_len M one l v k
    have h2 := bothM_len (inM M one l k) one (l.getD k 0) v
    rw [inM]; omega
theorem meetM_mem {M : Nat → List Int} {z : Int} {l : List Int} {v : Nat} : ∀ {i : Nat}, z ∈ meetM M l i v ↔ z ∈ M v ∨ ∃ j k, j < i ∧ k < j ∧ (((v : Int) = l.getD j 0 ∧ z = l.getD k 0) ∨ ((v : Int) = l.getD k 0 ∧ z = l.getD j 0))
  | 0 => by simp [meetM]
  | i + 1 => by
    rw [meetM, inM_mem, meetM_mem, or_assoc]
    refine or_congr Iff.rfl ⟨?_, ?_⟩
    · rintro (⟨j, k, hj, hk, h⟩ | ⟨k, hk, h⟩)
      · exact ⟨j, k, by omega, hk, h⟩
      · exact ⟨i, k, by omega, hk, h⟩
    · rintro ⟨j, k, hj, hk, h⟩
      by_cases e : j = i
      · subst e; exact Or.inr ⟨k, hk, h⟩
      · exact Or.inl ⟨j, k, by omega, hk, h⟩
theorem meetM_len (M : Nat → List Int) (l : List Int) (v : Nat) : ∀ i, i ≤ 12 → (meetM M l i v).length ≤ (M v).length + 24 * i
  | 0, _ => by simp [meetM]
  | i + 1, h => by
    have h1 := meetM_len M l v i (by omega)
    have h2 := inM_len (meetM M l i) (l.getD i 0) l v i
    rw [meetM]; omega
theorem metL2_mem {M : Nat → List Int} {z : Int} {l : List Int} {v : Nat} (hn : l.Nodup) : z ∈ metL2 M l v ↔ z ∈ M v ∨ ((v : Int) ∈ l ∧ z ∈ l ∧ z ≠ (v : Int)) := by
  have g : ∀ j, j < l.length → l.getD j 0 ∈ l := fun j hj => by simp [List.getD, hj]
  have inj : ∀ j k, j < l.length → k < j → l.getD j 0 ≠ l.getD k 0 := fun j k hj hk e => by
    have hk' : k < l.length := by omega
    have e1 : l.getD j 0 = l[j] := by simp [List.getD, hj]
    have e2 : l.getD k 0 = l[k] := by simp [List.getD, hk']
    rw [e1, e2] at e
    exact List.pairwise_iff_getElem.1 hn k j hk' hj hk e.symm
  rw [metL2, meetM_mem]
  refine or_congr Iff.rfl ⟨?_, ?_⟩
  · rintro ⟨j, k, hj, hk, ⟨e1, e2⟩ | ⟨e1, e2⟩⟩
    · rw [e1, e2]; exact ⟨g j hj, g k (by omega), fun e => inj j k hj hk e.symm⟩
    · rw [e1, e2]; exact ⟨g k (by omega), g j hj, inj j k hj hk⟩
  · rintro ⟨hv, hz, hne⟩
    obtain ⟨j, hj, ej⟩ := List.getElem_of_mem hv
    obtain ⟨k, hk, ek⟩ := List.getElem_of_mem hz
    have e1 : l.getD j 0 = (v : Int) := by simp [List.getD, hj, ej]
    have e2 : l.getD k 0 = z := by simp [List.getD, hk, ek]
    rcases Nat.lt_trichotomy j k with h | h | h
    · exact ⟨k, j, hk, h, Or.inr ⟨e1.symm, e2.symm⟩⟩
    · subst h; exact absurd (e2.symm.trans e1) hne
    · exact ⟨j, k, hj, h, Or.inl ⟨e1.symm, e2.symm⟩⟩
structure MetOk (n : Nat) (M : Nat → List Int) : Prop where
  rng : ∀ u, u < n → ∀ z ∈ M u, 0 ≤ z ∧ z < (n : Int)
  out : ∀ u, n ≤ u → M u = []
  even : ∀ u v : Nat, (v : Int) ∈ M u → (u : Int) ∈ M v
  self : ∀ u : Nat, ¬ (u : Int) ∈ M u
theorem metOk_nil (n : Nat) : MetOk n fun _ => [] := ⟨by simp, fun _ _ => rfl, by simp, by simp⟩
theorem addM_out {M : Nat → List Int} {a b : Int} {v : Nat} (h : (v : Int) ≠ a) : addM M a b v = M v := if_neg h
theorem inM_out {M : Nat → List Int} {one : Int} {l : List Int} {v : Nat} (h1 : (v : Int) ≠ one) (h2 : ∀ j, j < l.length → (v : Int) ≠ l.getD j 0) : ∀ k, k ≤ l.length → inM M one l k v = M v
  | 0, _ => rfl
  | k + 1, hk => by
    rw [inM]; unfold bothM
    rw [addM_out (h2 k (by omega)), addM_out h1, inM_out h1 h2 k (by omega)]
theorem meetM_out {M : Nat → List Int} {l : List Int} {v : Nat} (h2 : ∀ j, j < l.length → (v : Int) ≠ l.getD j 0) : ∀ i, i ≤ l.length → meetM M l i v = M v
  | 0, _ => rfl
  | i + 1, hi => by rw [meetM, inM_out (h2 i (by omega)) h2 i (by omega), meetM_out h2 i (by omega)]
theorem MetOk.meet {n : Nat} {M : Nat → List Int} (h : MetOk n M) {l : List Int} (hn : l.Nodup) (hl : ∀ z ∈ l, 0 ≤ z ∧ z < (n : Int)) : MetOk n (metL2 M l) := by
  refine ⟨fun u hu z hz => ?_, fun u hu => ?_, fun u v hz => ?_, fun u hz => ?_⟩
  · rcases (metL2_mem hn).1 hz with h1 | ⟨-, h1, -⟩
    · exact h.rng u hu z h1
    · exact hl z h1
  · rw [metL2, meetM_out (fun j hj e => ?_) _ (Nat.le_refl _), h.out u hu]
    have := (hl (l.getD j 0) (by simp [List.getD, hj])).2
    omega
  · rcases (metL2_mem hn).1 hz with h1 | ⟨h1, h2, h3⟩
    · exact (metL2_mem hn).2 (Or.inl (h.even u v h1))
    · exact (metL2_mem hn).2 (Or.inr ⟨h2, h1, fun e => h3 e.symm⟩)
  · rcases (metL2_mem hn).1 hz with h1 | ⟨-, -, h3⟩
    · exact h.self u h1
    · exact h3 rfl
theorem metL2_len (M : Nat → List Int) {l : List Int} (hl : l.length ≤ 12) (v : Nat) : (metL2 M l v).length ≤ (M v).length + 288 := by
  have := meetM_len M l v l.length hl
  show (meetM M l l.length v).length ≤ _
  omega
def IsLow (T : List Nat) (p : Nat) : Prop := p ∉ T ∧ ∀ q, q < p → q ∈ T
theorem IsLow.unique {T : List Nat} {p q : Nat} (hp : IsLow T p) (hq : IsLow T q) : p = q := by
  rcases Nat.lt_trichotomy p q with h | h | h
  · exact absurd (hq.2 p h) hp.1
  · exact h
  · exact absurd (hp.2 q h) hq.1
theorem all_below_len : ∀ (p : Nat) (T : List Nat), (∀ q, q < p → q ∈ T) → p ≤ T.length
  | 0, _, _ => Nat.zero_le _
  | p + 1, T, h => by
    have hp : p ∈ T := h p (by omega)
    have h1 : p ≤ (T.erase p).length := all_below_len p _ fun q hq => (List.mem_erase_of_ne (by omega)).2 (h q (by omega))
    rw [List.length_erase_of_mem hp] at h1
    have := List.length_pos_of_mem hp
    omega
theorem IsLow.le {T : List Nat} {p : Nat} (h : IsLow T p) : p ≤ T.length := all_below_len p T h.2
def takenL (A : Nat → Nat) (v : Nat) (l : List Int) : List Nat := (l.filter fun z => decide (z < (v : Int))).map fun z => A z.toNat
theorem takenL_mem {A : Nat → Nat} {v : Nat} {l : List Int} {p : Nat} : p ∈ takenL A v l ↔ ∃ z ∈ l, z < (v : Int) ∧ A z.toNat = p := by
  simp only [takenL, List.mem_map, List.mem_filter, decide_eq_true_eq, and_assoc]
def PlOk (n : Nat) (C : Nat → List Int) (A : Nat → Nat) : Prop := ∀ v, v < n → IsLow (takenL A v (C v)) (A v)
theorem PlOk.le {n : Nat} {C : Nat → List Int} {A : Nat → Nat} (h : PlOk n C A) (hC : ∀ v, v < n → ∀ z ∈ C v, 0 ≤ z) : ∀ v, v < n → A v ≤ v := by
  intro v
  induction v using Nat.strongRecOn with
  | ind v ih =>
    intro hv
    refine Nat.le_of_not_lt fun hlt => ?_
    obtain ⟨z, hz, h1, h2⟩ := takenL_mem.1 ((h v hv).2 v hlt)
    have h0 := hC v hv z hz
    have := ih z.toNat (by omega) (by omega)
    omega
theorem PlOk.ne {n : Nat} {C : Nat → List Int} {A : Nat → Nat} (h : PlOk n C A) (hM : MetOk n C) {u v : Nat} (hu : u < n) (hv : v < n) (hc : (v : Int) ∈ C u) : A u ≠ A v := by
  intro e
  have key : ∀ a b : Nat, a < n → b < a → (b : Int) ∈ C a → A a ≠ A b := fun a b ha hb hm e => (h a ha).1 (takenL_mem.2 ⟨(b : Int), hm, by omega, by rw [Int.toNat_natCast]; exact e.symm⟩)
  rcases Nat.lt_trichotomy u v with hlt | hlt | hlt
  · exact key v u hv hlt (hM.even u v hc) e.symm
  · subst hlt; exact hM.self u hc
  · exact key u v hu hlt hc e
end Go.Proofs.YtldbmdgpdolaaaaDoor
namespace Go.Proofs.YtldbmdgpdolaaaaDoor
open Go Go.RowKit

structure MtAt (w : World) (base g n : Nat) (VV : Nat → Value) (LL : Nat → List Int) : Prop where
  row : w.ownsRow base 37 1 (.slice (some ⟨g, 0, none⟩) n n) n (gC (fun i => [VV i]) n)
  sl : Slots w base n VV LL
structure MtTo (base : Nat) (w w' : World) (g n : Nat) (VV VV' : Nat → Value) : Prop where
  bel : Below base w w'
  rest : ∀ q, q < w.heap.size → q ≠ g → (∀ s, s < n → (VV s).ownBlock ≠ some q) → w'.heap[q]? = w.heap[q]?
  own : ∀ s, s < n → ∀ q, (VV' s).ownBlock = some q → (∃ t, t < n ∧ (VV t).ownBlock = some q) ∨ w.heap.size ≤ q
theorem MtTo.refl (base : Nat) (w : World) (g n : Nat) (VV : Nat → Value) : MtTo base w w g n VV VV := ⟨Below.refl _ _, fun _ _ _ _ => rfl, fun s hs _ e => Or.inl ⟨s, hs, e⟩⟩
theorem MtTo.trans {base : Nat} {a b c : World} {g n : Nat} {VA VB VC : Nat → Value} (h : MtTo base a b g n VA VB) (k : MtTo base b c g n VB VC) : MtTo base a c g n VA VC := by
  have hz := h.bel.size
  refine ⟨h.bel.trans k.bel, fun q hq hg hv => ?_, fun s hs q e => ?_⟩
  · rw [k.rest q (by omega) hg fun s hs e => ?_, h.rest q hq hg hv]
    rcases h.own s hs q e with ⟨t, ht, e'⟩ | h'
    · exact hv t ht e'
    · omega
  · rcases k.own s hs q e with ⟨t, ht, e'⟩ | h'
    · exact h.own t ht q e'
    · exact Or.inr (by omega)
theorem MtTo.below {base : Nat} {w w' : World} (g n : Nat) (VV : Nat → Value) (h : Below w.heap.size w w') (hb : base ≤ w.heap.size) : MtTo base w w' g n VV VV :=
  ⟨h.mono hb, fun q hq _ _ => h.block q hq, fun s hs _ e => Or.inl ⟨s, hs, e⟩⟩
theorem MtAt.at {w : World} {base g n : Nat} {VV : Nat → Value} {LL : Nat → List Int} (h : MtAt w base g n VV LL) : base ≤ g ∧ g < w.heap.size := World.ownsRow.lt h.row g rfl
theorem MtAt.below {w w' : World} {base g n : Nat} {VV : Nat → Value} {LL : Nat → List Int} (h : MtAt w base g n VV LL) (hb : Below w.heap.size w w') : MtAt w' base g n VV LL := ⟨ownsRow_below h.row hb, h.sl.below hb⟩
theorem oneC_len (VV : Nat → Value) {n : Nat} : ∀ i, i < n → ((fun i => [VV i]) i : List Value).length = 1 := fun _ _ => rfl
theorem MtAt.cell {w : World} {base g n : Nat} {VV : Nat → Value} {LL : Nat → List Int} (h : MtAt w base g n VV LL) {s : Nat} (hs : s < n) : w.cell? ⟨g, s, none⟩ = some (VV s) := by
  rw [World.ownsRow.cellAt h.row s (by omega)]
  have := gC_get (s := 1) (C := fun i => [VV i]) (k := n) (oneC_len VV) s 0 hs (by omega)
  rw [Nat.mul_one, Nat.add_zero] at this
  rw [this]; rfl
theorem MtAt.ne {w : World} {base g n : Nat} {VV : Nat → Value} {LL : Nat → List Int} (h : MtAt w base g n VV LL) {s : Nat} (hs : s < n) : (VV s).ownBlock ≠ some g := fun e => by
  rcases h.row.2 with ⟨h1, -⟩ | ⟨q, cap, cur, h1, -, h2, -⟩
  · cases h1
  · simp at h1
    obtain ⟨rfl, rfl⟩ := h1
    have := own_type (h.sl.own s hs) e h2
    exact absurd this (by decide)
theorem Slots.keptN {w w' : World} {base m : Nat} {VV : Nat → Value} {LL : Nat → List Int} (h : Slots w base m VV LL) {row : Option Nat} (hg : w.grownBy w' row) (hr : ∀ s, s < m → ∀ q, (VV s).ownBlock = some q → row ≠ some q) : Slots w' base m VV LL :=
  ⟨fun s hs => (h.own s hs).kept hg (by
    cases hv : (VV s).ownBlock with
    | none => exact Or.inl rfl
    | some q => exact Or.inr fun e => hr s hs q hv e.symm), h.apart⟩
theorem gb_setCellM (w : World) (g j : Nat) (v : Value) : w.grownBy (w.setCell ⟨g, j, none⟩ v) (some g) :=
  ⟨rfl, rfl, rfl, by simp, fun k hk hne => Below.heap_setCell _ _ _ _ (fun e => hne (by rw [e]))⟩
theorem MtAt.put {w w1 w' : World} {base g n : Nat} {VV : Nat → Value} {LL : Nat → List Int} (h : MtAt w base g n VV LL) (h1 : Below w.heap.size w w1) {s : Nat} (hs : s < n) (hg : w1.grownBy w' (VV s).ownBlock) {v : Value} {l : List Int} (hown : OwnI w' base v l)
    (hloc : v.ownBlock = (VV s).ownBlock ∨ ∃ q, v.ownBlock = some q ∧ w1.heap.size ≤ q) :
    w'.cell? ⟨g, s, none⟩ = some (VV s) ∧ w'.frozen? ⟨g, s, none⟩ = false ∧ MtAt (w'.setCell ⟨g, s, none⟩ v) base g n (upd VV s v) (upd LL s l) ∧ MtTo base w (w'.setCell ⟨g, s, none⟩ v) g n VV (upd VV s v) := by
  obtain ⟨hbg, hgw⟩ := h.at
  have hA := h.below h1
  have hz1 := h1.size
  have hz2 := hg.size
  have hr : w'.ownsRow base 37 1 (.slice (some ⟨g, 0, none⟩) n n) n (gC (fun i => [VV i]) n) := World.ownsRow.kept hA.row hg (Or.inr (by show some g ≠ _; exact fun e => h.ne hs e.symm))
  have hs2 : Slots w' base n (upd VV s v) (upd LL s l) := hA.sl.upd hs hg hown hloc
  have hc : w'.cell? ⟨g, s, none⟩ = some (VV s) := by
    rw [World.ownsRow.cellAt hr s (by omega)]
    have := gC_get (s := 1) (C := fun i => [VV i]) (k := n) (oneC_len VV) s 0 hs (by omega)
    rw [Nat.mul_one, Nat.add_zero] at this
    rw [this]; rfl
  have hf : w'.frozen? ⟨g, s, none⟩ = false := World.ownsRow.frozenAt hr s
  have hne : ∀ t, t < n → ∀ q, (upd VV s v t).ownBlock = some q → (VV t).ownBlock = some q ∨ ((VV s).ownBlock = some q ∧ t = s) ∨ w1.heap.size ≤ q := fun t ht q e => by
    by_cases hts : t = s
    · subst hts
      rw [upd_same] at e
      rcases hloc with h' | ⟨q', h', h''⟩
      · rw [h'] at e; exact Or.inl e
      · rw [h'] at e; cases e; exact Or.inr (Or.inr h'')
    · rw [upd_other VV hts] at e; exact Or.inl e
  have hst := World.ownsRow.stored hr s v
  have e1 : (gC (fun i => [VV i]) n).set s v = gC (fun i => [upd VV s v i]) n := by
    have := gC_set (s := 1) (C := fun i => [VV i]) (k := n) (oneC_len VV) (i := s) (c := 0) hs (by omega) v
    rw [Nat.mul_one, Nat.add_zero] at this
    rw [this]
    refine gC_same fun i hi => ?_
    by_cases e : i = s
    · subst e; rw [upd_same, upd_same]; rfl
    · rw [upd_other _ e, upd_other _ e]
  rw [e1] at hst
  have hgc := gb_setCellM w' g s v
  refine ⟨hc, hf, ⟨hst.1, hs2.keptN hgc fun t ht q e e' => ?_⟩, ⟨?_, fun q hq hqg hqv => ?_, fun t ht q e => ?_⟩⟩
  · have e'' := Option.some.inj e'
    subst e''
    rcases hne t ht g e with h' | ⟨h', -⟩ | h'
    · exact h.ne ht h'
    · exact h.ne hs h'
    · omega
  · have a1 : Below base w w1 := h1.mono (by omega)
    have a2 : Below base w1 w' := grown_base (hA.sl.own s hs) (by omega) hg
    exact (a1.trans a2).setCell hbg v
  · rw [Below.heap_setCell _ _ _ _ hqg, hg.block q (by omega) (fun e => hqv s hs e.symm), h1.block q hq]
  · rcases hne t ht q e with h' | ⟨h', -⟩ | h'
    · exact Or.inl ⟨t, ht, h'⟩
    · exact Or.inl ⟨s, hs, h'⟩
    · exact Or.inr (by omega)
theorem addM_upd {M : Nat → List Int} {s : Nat} {b : Int} : upd M s (M s ++ [b]) = addM M (s : Int) b := by
  funext v
  unfold upd addM
  by_cases h : v = s
  · subst h; rw [if_pos rfl, if_pos rfl]
  · rw [if_neg h, if_neg (by omega)]
end Go.Proofs.YtldbmdgpdolaaaaDoor
namespace Go.Proofs.YtldbmdgpdolaaaaDoor
open Go Go.RowKit

set_option maxRecDepth 100000 in
set_option maxHeartbeats 4000000 in
theorem meet_any (base g n B : Nat) (VV : Nat → Value) (LL : Nat → List Int) (l : List Int) (vl : Value) (w : World) (hm : MtAt w base g n VV LL) (hl12 : l.length ≤ 12) (hlr : ∀ z ∈ l, 0 ≤ z ∧ z < (n : Int)) (hv : OwnI w B vl l) (hgB : g < B) (hVB : ∀ s, s < n → ∀ q, (VV s).ownBlock = some q → q < B) (_hn : n ≤ 3000) (hLL : ∀ s, s < n → (LL s).length ≤ 2000000) :
    Calls Tryd.prog 40 #[.slice (some ⟨g, 0, none⟩) n n, vl] w fun e w' => e = .returned (.tuple #[]) ∧ ∃ VV', MtAt w' base g n VV' (metL2 LL l) ∧ MtTo base w w' g n VV VV' := by
  obtain ⟨i64i, hi64, hz0, hz1', hz2⟩ := info_parts info64
  obtain ⟨ao, b, cap, rfl, hcap, hmx, hat⟩ := own_lies hv
  have HC : Hid (∀ W V', MtTo base w W g n VV V' → ∀ j, j < l.length → ao = some ⟨b, 0, none⟩ ∧ W.cell? ⟨b, j, none⟩ = some (.int .i64 (l.getD j 0))) := fun W V' h j hj => by
    obtain ⟨h1, h2⟩ := hat (by omega)
    subst h1
    obtain ⟨h3, h4⟩ := World.ownsRow.lt hv b rfl
    refine ⟨rfl, ?_⟩
    rw [World.cell?_of_block (h.rest b h4 (by omega) fun s hs e => by have := hVB s hs b e; omega)]
    exact h2 j hj
  have HLR : Hid (∀ j, j < l.length → ∃ z : Nat, l.getD j 0 = (z : Int) ∧ z < n) := fun j hj => by
    have := hlr (l.getD j 0) (by simp [List.getD, hj])
    exact ⟨(l.getD j 0).toNat, by omega, by omega⟩
  have HM : Hid (MtAt w base g n VV LL) := hm
  have HB : Hid (∀ i, i ≤ l.length → ∀ s, s < n → (meetM LL l i s).length ≤ 2000288) := fun i hi s hs => by
    have h1 := meetM_len LL l s i (by omega)
    have h2 := hLL s hs
    show _ ≤ _
    omega
  have HBI : Hid (∀ i o e, i ≤ l.length → e ≤ i → ∀ s, s < n → (inM (meetM LL l i) o l e s).length ≤ 2000400) := fun i o e hi he s hs => by
    have h1 := inM_len (meetM LL l i) o l s e
    have h2 := HB.out i hi s hs
    show _ ≤ _
    omega
  have HEND : Hid (∀ q, meetM LL l (q + 1) = inM (meetM LL l q) (l.getD q 0) l q) := fun q => rfl
  have HALL : Hid (∀ q, q = l.length → meetM LL l q = metL2 LL l) := fun q h => by subst h; rfl
  clear hm hv hVB hlr hLL hat
  generalize hll : l.length = m at *
  clear hll
  go_enter Tryd.func40, Tryd.ntmps40
  go_upto_region 1 with fail
  go_loopw [10] (fun i wr => ∃ (q : Nat) (V' : Nat → Value), q ≤ m ∧ i = .int .i64 q ∧ MtAt wr base g n V' (meetM LL l q) ∧ MtTo base w wr g n VV V') (fun i _ => m - (intOf i).toNat)
  case atStart => exact ⟨0, VV, Nat.zero_le _, rfl, HM.out, MtTo.refl _ _ _ _ _⟩
  case round =>
    obtain ⟨q, V', hq, rfl, hmt, hto⟩ := hrel
    rename World => wo
    have HMO : Hid (MtAt wo base g n V' (meetM LL l q)) := hmt
    have HTO : Hid (MtTo base w wo g n VV V') := hto
    by_cases hlt : q < m
    · obtain ⟨rfl, cq⟩ := HC.out wo V' hto q hlt
      obtain ⟨o, ho, on⟩ := HLR.out q hlt
      have HEQ : Hid (meetM LL l (q + 1) = inM (meetM LL l q) (o : Int) l q) := by show _ = _; rw [HEND.out, ho]
      rw [ho] at cq
      have hqI : (q : Int) < m := by omega
      have hqc : (q : Int) ≤ cap := by omega
      have hq0 : ¬ (q : Int) < 0 := by omega
      have onI : (o : Int) < n := by omega
      clear hmt hto ho
      go_upto_region 4 with fail
      go_loopw [19] (fun k wi => ∃ (e : Nat) (V2 : Nat → Value), e ≤ q ∧ k = .int .i64 e ∧ MtAt wi base g n V2 (inM (meetM LL l q) (o : Int) l e) ∧ MtTo base w wi g n VV V2) (fun k _ => q - (intOf k).toNat)
      case atStart => exact ⟨0, V', Nat.zero_le _, rfl, HMO.out, HTO.out⟩
      case round =>
        obtain ⟨e, V2, he, rfl, hmt, hto⟩ := hrel
        rename World => wi
        have HMI : Hid (MtAt wi base g n V2 (inM (meetM LL l q) (o : Int) l e)) := hmt
        have HTI : Hid (MtTo base w wi g n VV V2) := hto
        by_cases hle : e < q
        · obtain ⟨-, ce⟩ := HC.out wi V2 hto e (by omega)
          obtain ⟨p, hp, pn⟩ := HLR.out e (by omega)
          have HEP : Hid (inM (meetM LL l q) (o : Int) l (e + 1) = addM (addM (inM (meetM LL l q) (o : Int) l e) (o : Int) (p : Int)) (p : Int) (o : Int)) := by
            show _ = _
            rw [inM, hp]; rfl
          rw [hp] at ce
          have heI : (e : Int) < q := by omega
          have pnI : (p : Int) < n := by omega
          have HLI : Hid (∀ s, s < n → (inM (meetM LL l q) (o : Int) l e s).length ≤ 2000400) := HBI.out q o e hq (by omega)
          clear hmt hto hp
          generalize hI0 : inM (meetM LL l q) (o : Int) l e = I0 at *
          clear hI0
          have hown1 := HMI.out.sl.own o on
          obtain ⟨ao1, cap1, hv1⟩ := own_shape hown1
          have hlen1 := HLI.out o on
          have OW1 : Hid (wi.ownsRow base 3 1 (.slice ao1 (I0 o).length cap1) (I0 o).length (i64s (I0 o))) := by
            have h := hown1
            rw [hv1] at h
            exact h
          have cc1 := HMI.out.cell on
          rw [hv1] at cc1
          have cc1' := fun ob => cell_alloc cc1 ob
          have PUT1 : Hid (∀ (ob : Obj) (W' : World) (v : Value) (k : List Int), (wi.alloc ob).grownBy W' (Value.slice ao1 (I0 o).length cap1).ownBlock → OwnI W' base v k → (v.ownBlock = (Value.slice ao1 (I0 o).length cap1).ownBlock ∨ ∃ q, v.ownBlock = some q ∧ wi.heap.size + 1 ≤ q) →
              (W'.cell? ⟨g, o, none⟩ = some (.slice ao1 (I0 o).length cap1) ∧ W'.frozen? ⟨g, o, none⟩ = false) ∧ MtAt (W'.setCell ⟨g, o, none⟩ v) base g n (upd V2 o v) (upd I0 o k) ∧ MtTo base wi (W'.setCell ⟨g, o, none⟩ v) g n V2 (upd V2 o v)) := fun ob W' v k h2 hob hl => by
            have h := HMI.out.put ((Below.refl _ _).alloc (Nat.le_refl _) ob) on (by rw [hv1]; exact h2) hob (by rw [hv1]; exact hl.imp id (fun ⟨q, h, hq⟩ => ⟨q, h, by simpa using hq⟩))
            rw [hv1] at h
            exact ⟨⟨h.1, h.2.1⟩, h.2.2.1, h.2.2.2⟩
          have a11 : (I0 o).length + 1 ≤ maxLen := by unfold maxLen; omega
          have a21 : ((I0 o).length + 1) * 8 ≤ 140737488355328 := by omega
          have hz1 : base ≤ wi.heap.size := by have h1 := HMI.out.at; omega
          have a31 : ∀ ob, base ≤ (wi.alloc ob).heap.size := fun ob => by simp; omega
          have a41 : ∀ ob, (wi.alloc ob).heap.size = wi.heap.size + 1 := fun ob => by simp
          clear hown1 hv1 hlen1 hz1
          generalize hLL1 : I0 o = lp1 at *
          have HLL1 : Hid (I0 o = lp1) := hLL1
          clear hLL1
          go_upto_region 7 with (at_builtin; refine wpList_append_lies _ rfl (.tmp 28) (.tmp 30) 37 rfl base 3 i64i _ 1 8 Tryd.underlying37 hi64 hz0 hz1' hz2 rfl (by decide) (.slice ao1 lp1.length cap1) lp1.length (i64s lp1) rfl (OW1.out.alloc _) ⟨wi.heap.size, 0, none⟩ 1 1 (i64s [((p : Nat) : Int)]) rfl rfl (news_list _ _ _ _ rfl) (i64s_one _) Nat.one_pos a11 a21 (a31 _) (wi.heap.size + 1) (a41 _) ?_; intro g1 cp1 w1 hown1 hg1 hat1 hlt1; have HO1 := own_snoc rfl hown1; have HQ1 := PUT1.out _ _ _ _ hg1 HO1 (lies_loc hat1); have q11 := HQ1.1.1; have q21 := HQ1.1.2)
          have HM5 : Hid (MtAt (w1.setCell ⟨g, o, none⟩ (.slice (some ⟨g1, 0, none⟩) (lp1.length + 1) cp1)) base g n (upd V2 o (.slice (some ⟨g1, 0, none⟩) (lp1.length + 1) cp1)) (upd I0 o (lp1 ++ [((p : Nat) : Int)]))) := HQ1.2.1
          have HT5 : Hid (MtTo base w (w1.setCell ⟨g, o, none⟩ (.slice (some ⟨g1, 0, none⟩) (lp1.length + 1) cp1)) g n VV (upd V2 o (.slice (some ⟨g1, 0, none⟩) (lp1.length + 1) cp1))) := HTI.out.trans HQ1.2.2
          clear HQ1 HO1 hown1 hg1 hat1 hlt1 q11 q21 PUT1 OW1 a11 a21 a31 a41 cc1 cc1' ce
          generalize (w1.setCell ⟨g, o, none⟩ (.slice (some ⟨g1, 0, none⟩) (lp1.length + 1) cp1)) = w5 at *
          generalize upd V2 o (.slice (some ⟨g1, 0, none⟩) (lp1.length + 1) cp1) = V5 at *
          have HI5 : Hid (upd I0 o (lp1 ++ [((p : Nat) : Int)]) = addM I0 (o : Int) (p : Int)) := by
            show _ = _
            rw [← HLL1.out]; exact addM_upd
          rw [HI5.out] at HM5
          have HL5 : Hid (∀ s, s < n → (addM I0 (o : Int) (p : Int) s).length ≤ 2000500) := fun s hs => by
            have h1 := addM_len I0 (o : Int) (p : Int) s
            have h2 := HLI.out s hs
            show _ ≤ _
            omega
          clear HI5 HLI HMI HTI HMO HTO HLL1
          generalize hI5 : addM I0 (o : Int) (p : Int) = I5 at *
          clear hI5
          have hown2 := HM5.out.sl.own p pn
          obtain ⟨ao2, cap2, hv2⟩ := own_shape hown2
          have hlen2 := HL5.out p pn
          have OW2 : Hid (w5.ownsRow base 3 1 (.slice ao2 (I5 p).length cap2) (I5 p).length (i64s (I5 p))) := by
            have h := hown2
            rw [hv2] at h
            exact h
          have cc2 := HM5.out.cell pn
          rw [hv2] at cc2
          have cc2' := fun ob => cell_alloc cc2 ob
          have PUT2 : Hid (∀ (ob : Obj) (W' : World) (v : Value) (k : List Int), (w5.alloc ob).grownBy W' (Value.slice ao2 (I5 p).length cap2).ownBlock → OwnI W' base v k → (v.ownBlock = (Value.slice ao2 (I5 p).length cap2).ownBlock ∨ ∃ q, v.ownBlock = some q ∧ w5.heap.size + 1 ≤ q) →
              (W'.cell? ⟨g, p, none⟩ = some (.slice ao2 (I5 p).length cap2) ∧ W'.frozen? ⟨g, p, none⟩ = false) ∧ MtAt (W'.setCell ⟨g, p, none⟩ v) base g n (upd V5 p v) (upd I5 p k) ∧ MtTo base w5 (W'.setCell ⟨g, p, none⟩ v) g n V5 (upd V5 p v)) := fun ob W' v k h2 hob hl => by
            have h := HM5.out.put ((Below.refl _ _).alloc (Nat.le_refl _) ob) pn (by rw [hv2]; exact h2) hob (by rw [hv2]; exact hl.imp id (fun ⟨q, h, hq⟩ => ⟨q, h, by simpa using hq⟩))
            rw [hv2] at h
            exact ⟨⟨h.1, h.2.1⟩, h.2.2.1, h.2.2.2⟩
          have a12 : (I5 p).length + 1 ≤ maxLen := by unfold maxLen; omega
          have a22 : ((I5 p).length + 1) * 8 ≤ 140737488355328 := by omega
          have hz2 : base ≤ w5.heap.size := by have h1 := HM5.out.at; omega
          have a32 : ∀ ob, base ≤ (w5.alloc ob).heap.size := fun ob => by simp; omega
          have a42 : ∀ ob, (w5.alloc ob).heap.size = w5.heap.size + 1 := fun ob => by simp
          clear hown2 hv2 hlen2 hz2
          generalize hLL2 : I5 p = lp2 at *
          have HLL2 : Hid (I5 p = lp2) := hLL2
          clear hLL2
          go_wp2_with (at_builtin; refine wpList_append_lies _ rfl (.tmp 38) (.tmp 40) 37 rfl base 3 i64i _ 1 8 Tryd.underlying37 hi64 hz0 hz1' hz2 rfl (by decide) (.slice ao2 lp2.length cap2) lp2.length (i64s lp2) rfl (OW2.out.alloc _) ⟨w5.heap.size, 0, none⟩ 1 1 (i64s [((o : Nat) : Int)]) rfl rfl (news_list _ _ _ _ rfl) (i64s_one _) Nat.one_pos a12 a22 (a32 _) (w5.heap.size + 1) (a42 _) ?_; intro g2 cp2 w2 hown2 hg2 hat2 hlt2; have HO2 := own_snoc rfl hown2; have HQ2 := PUT2.out _ _ _ _ hg2 HO2 (lies_loc hat2); have q12 := HQ2.1.1; have q22 := HQ2.1.2)
          go_roundw
          case rel => exact ⟨e + 1, _, by omega, by go_num, by rw [HEP.out, ← addM_upd, HLL2.out]; exact HQ2.2.1, HT5.out.trans HQ2.2.2⟩
          case measure => simp [intOf]; omega
        · obtain rfl : q = e := by omega
          clear hmt hto hle
          go_wp2
          go_roundw
          case rel => exact ⟨q + 1, _, by omega, by go_num, by rw [HEQ.out]; exact HMI.out, HTI.out⟩
          case measure => simp [intOf]; omega
    · obtain rfl : m = q := by omega
      have HX := HALL.out m rfl
      clear hmt hto hlt
      go_wp2
      go_end0
      exact ⟨rfl, V', by rw [← HX]; exact HMO.out, HTO.out⟩
end Go.Proofs.YtldbmdgpdolaaaaDoor
namespace Go.Proofs.YtldbmdgpdolaaaaDoor
open Go Go.RowKit

theorem infoR12P : (Tryd.prog.info? 72).map (·.size) = some 12 := by kernel_rfl
theorem run_index_12 (l : List Int) (hl : l.length = 12) (k : Nat) (hk : k < 12) (w : World) : (Instr.index 72 (.agg (i64s l).toArray) (.int .i64 (k : Int))).run Tryd.prog w = .ok (.int .i64 (l.getD k 0)) w := by
  have hn : (0 : Int) ≤ (k : Int) ∧ (k : Int) < ((12 : Nat) : Int) := by omega
  have hg : (i64s l)[k]? = some (.int .i64 (l[k]'(by omega))) := by simp [i64s, hl, hk]
  simp [Instr.index, run_underlying Tryd.underlying72, asIntOf, hn, go_sem, hl, hk, hg, List.getD]
set_option maxRecDepth 100000 in
set_option maxHeartbeats 2000000 in
theorem of_any (l : List Int) (hl : l.length = 12) (m : Nat) (hm : m < 4096) (w : World) :
    Calls Tryd.prog 41 #[.agg (i64s l).toArray, .int .i64 m] w fun e w' => ∃ v, e = .returned v ∧ OwnI w' w.heap.size v (ofT m l 12) ∧ Below w.heap.size w w' := by
  obtain ⟨i64i, hi64, hz0, hz1', hz2⟩ := info_parts info64
  have HIX : Hid (∀ q : Nat, q < 12 → ∀ W, (Instr.index 72 (.agg (i64s l).toArray) (.int .i64 (q : Int))).run Tryd.prog W = .ok (.int .i64 (l.getD q 0)) W) := fun q hq W => run_index_12 l hl q hq W
  have HBD : Hid (∀ q : Nat, bits .and .i64 ((m : Int) / 2 ^ q) 1 = if m.testBit q = true then 1 else 0) := fun q => bit_downS m q hm
  have HLN : Hid (∀ q, (ofT m l q).length ≤ q) := fun q => ofT_len m l q
  have HT : Hid (∀ q, m.testBit q = true → ofT m l (q + 1) = ofT m l q ++ [l.getD q 0]) := fun q hb => by show _ = _; rw [ofT, if_pos hb]
  have HF : Hid (∀ q, m.testBit q = false → ofT m l (q + 1) = ofT m l q) := fun q hb => by show _ = _; rw [ofT, if_neg (by rw [hb]; decide)]
  have i12 : (Tryd.prog.info? 72).map (·.size) = some (i64s l).toArray.size := by rw [List.size_toArray]; simp only [i64s, List.length_map, hl]; exact infoR12P
  clear hl hm
  generalize i64s l = DD at *
  have r0 : (w.alloc (.cells DD.toArray 72)).heap[w.heap.size]? = some (.cells DD.toArray 72 (0, 0)) := heap_alloc_last w _
  have HB0 : Hid (Below w.heap.size w (w.alloc (.cells DD.toArray 72))) := (Below.refl _ _).alloc (Nat.le_refl _) _
  go_enter Tryd.func41, Tryd.ntmps41
  go_upto_region 3 with (refine wpList_load_row rfl 72 (.tmp 2) rfl _ rfl _ _ _ _ r0 Tryd.underlying72 rfl i12 ?_)
  clear r0
  generalize (w.alloc (.cells DD.toArray 72)) = W0 at *
  go_loopw [5, 9] (fun v i wr => ∃ (q : Nat) (ao : Option Addr) (cap : Nat), q ≤ 12 ∧ i = .int .i64 q ∧ v = .slice ao (ofT m l q).length cap ∧ OwnI wr w.heap.size (.slice ao (ofT m l q).length cap) (ofT m l q) ∧ Below w.heap.size w wr) (fun _ i _ => 12 - (intOf i).toNat)
  case atStart => exact ⟨0, none, 0, by omega, rfl, rfl, ⟨rfl, Or.inl ⟨rfl, rfl⟩⟩, HB0.out⟩
  case round =>
    obtain ⟨q, ao, cap, hq, rfl, rfl, hown, hbr⟩ := hrel
    have HBR : Hid (Below w.heap.size w wr) := hbr
    by_cases hlt : q < 12
    · have hqI : (q : Int) < 12 := by omega
      have hqn : ¬ (q : Int) < 0 := by omega
      have hq64 : (q : Int) < 64 := by omega
      have hix := HIX.out q hlt
      have hbd := HBD.out q
      cases hb : m.testBit q
      · rw [hb, if_neg (by decide)] at hbd
        have HF1 := HF.out q hb
        have HOW : Hid (OwnI wr w.heap.size (.slice ao (ofT m l q).length cap) (ofT m l q)) := hown
        clear hb hown hbr
        have HOW1 : Hid (OwnI wr w.heap.size (.slice ao (ofT m l (q + 1)).length cap) (ofT m l (q + 1))) := by rw [HF1]; exact HOW.out
        have HE1 : Hid ((ofT m l q).length = (ofT m l (q + 1)).length) := by show _ = _; rw [HF1]
        clear HF1
        go_wp2
        go_roundw
        case rel => exact ⟨q + 1, ao, cap, by omega, by go_num, by rw [HE1.out], HOW1.out, HBR.out⟩
        case measure => simp [intOf]; omega
      · rw [hb, if_pos rfl] at hbd
        have HT1 : Hid (ofT m l (q + 1) = ofT m l q ++ [l.getD q 0]) := HT.out q hb
        have OW : Hid (wr.ownsRow w.heap.size 3 1 (.slice ao (ofT m l q).length cap) (ofT m l q).length (i64s (ofT m l q))) := hown
        have hln := HLN.out q
        have a1 : (ofT m l q).length + 1 ≤ maxLen := by unfold maxLen; omega
        have a2 : ((ofT m l q).length + 1) * 8 ≤ 140737488355328 := by omega
        have hzz := hbr.size
        have a3 : ∀ ob, w.heap.size ≤ (wr.alloc ob).heap.size := fun ob => by simp; omega
        have a4 : ∀ ob, (wr.alloc ob).heap.size = wr.heap.size + 1 := fun ob => by simp
        have HGB : Hid (∀ ob W', (wr.alloc ob).grownBy W' (Value.slice ao (ofT m l q).length cap).ownBlock → Below w.heap.size w W') := fun ob W' h => HBR.out.trans (((Below.refl _ _).alloc hzz ob).trans (grown_base (OW.out.alloc ob) (by simp; omega) h))
        clear hb hown hbr hln hzz
        generalize hlp : ofT m l q = lp at *
        have HLP : Hid (ofT m l q = lp) := hlp
        clear hlp
        generalize l.getD q 0 = z at *
        go_wp2_with (at_builtin; refine wpList_append_lies _ rfl (.tmp 18) (.tmp 20) 37 rfl w.heap.size 3 i64i _ 1 8 Tryd.underlying37 hi64 hz0 hz1' hz2 rfl (by decide) (.slice ao lp.length cap) lp.length (i64s lp) rfl (OW.out.alloc _) ⟨wr.heap.size, 0, none⟩ 1 1 (i64s [z]) rfl rfl (news_list _ _ _ _ rfl) (i64s_one _) Nat.one_pos a1 a2 (a3 _) (wr.heap.size + 1) (a4 _) ?_; intro g4 cap4 w4 hown4 hg4 hat4 hlt4; have HO4 := own_snoc rfl hown4; have HB4 := HGB.out _ _ hg4)
        go_roundw
        case rel => exact ⟨q + 1, _, _, by omega, by go_num, by rw [HT1.out, List.length_append, List.length_singleton], by rw [HT1.out, List.length_append, List.length_singleton]; exact HO4, HB4⟩
        case measure => simp [intOf]; omega
    · obtain rfl : q = 12 := by omega
      have HOW : Hid (OwnI wr w.heap.size (.slice ao (ofT m l 12).length cap) (ofT m l 12)) := hown
      clear hown hbr
      go_wp2
      go_ret
      exact ⟨_, rfl, HOW.out, HBR.out⟩
end Go.Proofs.YtldbmdgpdolaaaaDoor
