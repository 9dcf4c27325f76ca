import Derived.Test.YtldbmdgpdolaaaaGreatDoorPGroupA
import Derived.Test.YtldbmdgpdolaaaaGreatDoorPGroupB
import Derived.Test.YtldbmdgpdolaaaaGreatDoorPGroupC
namespace Go.Proofs.YtldbmdgpdolaaaaGreatDoor
open Go Go.RowKit

theorem made_ints0 (c : Nat) : (madeCells (Value.int .i64 0).cells (c * 1)).toList = i64s (List.replicate c 0) := by
  simp [madeCells, i64s, Value.cells]
  apply List.ext_getElem
  · simp
  · intro i h1 h2
    have : i % 1 = 0 := Nat.mod_one i
    simp [this]
theorem wrap_signed (n : Int) (h0 : -9223372036854775808 ≤ n) (h1 : n ≤ 9223372036854775807) : IntKind.i64.wrap n = n := by
  by_cases h : 0 ≤ n
  · have e : n % 2 ^ 64 = n := Int.emod_eq_of_lt h (by simp; omega)
    have w1 : IntKind.i64.wrap n = if (true && decide (n ≥ 2 ^ 63)) = true then n - (2 ^ 64 : Int) else n := by
      simp only [IntKind.wrap, IntKind.bits, IntKind.signed, e]
    rw [w1, if_neg (by simp; omega)]
  · have e : n % 2 ^ 64 = n + 2 ^ 64 := by
      rw [← Int.add_emod_right]
      exact Int.emod_eq_of_lt (by simp; omega) (by simp; omega)
    have w1 : IntKind.i64.wrap n = if (true && decide (n + 2 ^ 64 ≥ 2 ^ 63)) = true then n + 2 ^ 64 - (2 ^ 64 : Int) else n + 2 ^ 64 := by
      simp only [IntKind.wrap, IntKind.bits, IntKind.signed, e]
    rw [w1, if_pos (by simp; omega)]
    omega
def upd {α : Type} (g : Nat → α) (i : Nat) (v : α) : Nat → α := fun j => if j = i then v else g j
theorem upd_same {α : Type} (g : Nat → α) (i : Nat) (v : α) : upd g i v i = v := if_pos rfl
theorem upd_other {α : Type} (g : Nat → α) {i j : Nat} (h : j ≠ i) (v : α) : upd g i v j = g j := if_neg h
abbrev OwnI (w : World) (base : Nat) (v : Value) (l : List Int) : Prop := w.ownsRow base 3 1 v l.length (i64s l)
structure Slots (w : World) (base m : Nat) (VV : Nat → Value) (LL : Nat → List Int) : Prop where
  own : ∀ s, s < m → OwnI w base (VV s) (LL s)
  apart : ∀ s t, s < m → t < m → s ≠ t → ∀ g, (VV s).ownBlock = some g → (VV t).ownBlock ≠ some g
theorem Slots.nils (w : World) (base m : Nat) : Slots w base m (fun _ => .slice none 0 0) (fun _ => []) :=
  ⟨fun _ _ => ⟨rfl, Or.inl ⟨rfl, rfl⟩⟩, fun _ _ _ _ _ g h => by cases h⟩
theorem Slots.kept {w w' : World} {base m : Nat} {VV : Nat → Value} {LL : Nat → List Int} (h : Slots w base m VV LL) {row : Option Nat} (hg : w.grownBy w' row) (hr : ∀ g, row = some g → g < base) : Slots w' base m VV LL :=
  ⟨fun s hs => (h.own s hs).kept hg (by
    cases hv : (VV s).ownBlock with
    | none => exact Or.inl rfl
    | some g =>
      refine Or.inr fun e => ?_
      have := ((h.own s hs).lt g hv).1
      have := hr g e.symm
      omega), h.apart⟩
theorem Slots.below {w w' : World} {base m : Nat} {VV : Nat → Value} {LL : Nat → List Int} (h : Slots w base m VV LL) (hb : Below w.heap.size w w') : Slots w' base m VV LL := h.kept (gb_below none hb) (fun g e => by cases e)
theorem Slots.upd {w w' : World} {base m : Nat} {VV : Nat → Value} {LL : Nat → List Int} (h : Slots w base m VV LL) {s : Nat} (hs : s < m) (hg : w.grownBy w' (VV s).ownBlock) {v : Value} {l : List Int} (hown : OwnI w' base v l)
    (hloc : v.ownBlock = (VV s).ownBlock ∨ ∃ g, v.ownBlock = some g ∧ w.heap.size ≤ g) : Slots w' base m (Go.Proofs.YtldbmdgpdolaaaaGreatDoor.upd VV s v) (Go.Proofs.YtldbmdgpdolaaaaGreatDoor.upd LL s l) := by
  have hot : ∀ t, t < m → t ≠ s → ∀ g, (VV t).ownBlock = some g → v.ownBlock ≠ some g := by
    intro t ht hne g hv e
    rcases hloc with h1 | ⟨g', h1, h2⟩
    · exact h.apart t s ht hs hne g hv (by rw [← h1]; exact e)
    · have := ((h.own t ht).lt g hv).2
      rw [h1] at e
      have := Option.some.inj e
      omega
  refine ⟨fun t ht => ?_, fun t u ht hu hne g hv => ?_⟩
  · by_cases he : t = s
    · subst he; rw [upd_same, upd_same]; exact hown
    · rw [upd_other VV he, upd_other LL he]
      exact (h.own t ht).kept hg (by
        cases hv : (VV t).ownBlock with
        | none => exact Or.inl rfl
        | some g => exact Or.inr fun e => h.apart t s ht hs he g hv e.symm)
  · by_cases he : t = s
    · subst he
      rw [upd_same] at hv
      rw [upd_other VV (Ne.symm hne)]
      exact fun e => hot u hu (Ne.symm hne) g e hv
    · rw [upd_other VV he] at hv
      by_cases he2 : u = s
      · subst he2; rw [upd_same]; exact hot t ht he g hv
      · rw [upd_other VV he2]; exact h.apart t u ht hu hne g hv
theorem own_newF {w : World} {base : Nat} (h : base ≤ w.heap.size) (l : List Int) (hl : l.length ≤ 1000) : OwnI (w.alloc (.cells (i64s l).toArray 3)) base (.slice (some ⟨w.heap.size, 0, none⟩) l.length l.length) l :=
  ⟨by simp [i64s], Or.inr ⟨w.heap.size, l.length, (i64s l).toArray, rfl, h, heap_alloc_last w _, Nat.le_refl _, by unfold maxLen; omega, by simp [i64s], List.take_of_length_le (by simp [i64s])⟩⟩
theorem own_snoc {w : World} {base n : Nat} {v : Value} {l : List Int} {z : Int} (hl : l.length = n) (h : w.ownsRow base 3 1 v (n + 1) (i64s l ++ i64s [z])) : OwnI w base v (l ++ [z]) := by
  rw [← i64s_append] at h
  have e : (l ++ [z]).length = n + 1 := by simp [hl]
  show World.ownsRow _ _ _ _ _ (l ++ [z]).length _
  rw [e]
  exact h
theorem lies_loc {v : Value} {g c n H : Nat} (h : v.ownBlock = some g ∨ g = H) : (Value.slice (some ⟨g, 0, none⟩) n c).ownBlock = v.ownBlock ∨ ∃ q, (Value.slice (some ⟨g, 0, none⟩) n c).ownBlock = some q ∧ H ≤ q := by
  rcases h with h | h
  · exact Or.inl h.symm
  · exact Or.inr ⟨g, rfl, by omega⟩
end Go.Proofs.YtldbmdgpdolaaaaGreatDoor
namespace Go.Proofs.YtldbmdgpdolaaaaGreatDoor
open Go Go.RowKit

def gC (C : Nat → List Value) : Nat → List Value
  | 0 => []
  | k + 1 => gC C k ++ C k
theorem gC_len {s : Nat} {C : Nat → List Value} : ∀ {k : Nat}, (∀ i, i < k → (C i).length = s) → (gC C k).length = k * s
  | 0, _ => by simp [gC]
  | k + 1, h => by rw [gC, List.length_append, gC_len (fun i hi => h i (by omega)), h k (by omega), Nat.succ_mul]
theorem at_lt {i k s c : Nat} (hi : i < k) (hc : c < s) : i * s + c < k * s := by
  have : (i + 1) * s ≤ k * s := Nat.mul_le_mul_right _ hi
  rw [Nat.succ_mul] at this
  omega
theorem gC_get {s : Nat} {C : Nat → List Value} : ∀ {k : Nat}, (∀ i, i < k → (C i).length = s) → ∀ (i c : Nat), i < k → c < s → (gC C k)[i * s + c]? = (C i)[c]?
  | 0, _, i, c, hi, _ => by omega
  | k + 1, h, i, c, hi, hc => by
    have hl := gC_len (s := s) (C := C) (k := k) (fun j hj => h j (by omega))
    rw [gC]
    by_cases he : i = k
    · subst he
      rw [List.getElem?_append_right (by rw [hl]; omega), hl]
      congr 1
      omega
    · have := at_lt (k := k) (s := s) (show i < k by omega) hc
      rw [List.getElem?_append_left (by rw [hl]; exact this)]
      exact gC_get (fun j hj => h j (by omega)) i c (by omega) hc
theorem gC_ext {s : Nat} {C : Nat → List Value} {l : List Value} {k : Nat} (h : ∀ i, i < k → (C i).length = s) (hl : l.length = k * s) (hg : ∀ i c, i < k → c < s → l[i * s + c]? = (C i)[c]?) : l = gC C k := by
  apply List.ext_getElem?
  intro j
  by_cases hj : j < k * s
  · have hs : 0 < s := by
      rcases Nat.eq_zero_or_pos s with e | e
      · rw [e, Nat.mul_zero] at hj; omega
      · exact e
    have e : j = j / s * s + j % s := by rw [Nat.mul_comm]; exact (Nat.div_add_mod j s).symm
    have h1 : j / s < k := (Nat.div_lt_iff_lt_mul hs).2 hj
    have h2 := Nat.mod_lt j hs
    rw [e, hg _ _ h1 h2, gC_get h _ _ h1 h2]
  · rw [List.getElem?_eq_none (by omega), List.getElem?_eq_none (by rw [gC_len h]; omega)]
theorem gC_same {C C' : Nat → List Value} : ∀ {k : Nat}, (∀ i, i < k → C i = C' i) → gC C k = gC C' k
  | 0, _ => rfl
  | k + 1, h => by rw [gC, gC, gC_same (fun i hi => h i (by omega)), h k (by omega)]
theorem place_eq {s i j c d : Nat} (hc : c < s) (hd : d < s) (h : i * s + c = j * s + d) : i = j ∧ c = d := by
  have hs : 0 < s := by omega
  have h1 : (i * s + c) / s = i := by rw [Nat.mul_comm, Nat.mul_add_div hs, Nat.div_eq_of_lt hc]; rfl
  have h2 : (j * s + d) / s = j := by rw [Nat.mul_comm, Nat.mul_add_div hs, Nat.div_eq_of_lt hd]; rfl
  have : i = j := by rw [← h1, ← h2, h]
  subst this
  exact ⟨rfl, by omega⟩
theorem gC_set {s : Nat} {C : Nat → List Value} {k : Nat} (h : ∀ i, i < k → (C i).length = s) {i c : Nat} (hi : i < k) (hc : c < s) (u : Value) : (gC C k).set (i * s + c) u = gC (upd C i ((C i).set c u)) k := by
  have h' : ∀ j, j < k → (upd C i ((C i).set c u) j).length = s := fun j hj => by
    by_cases e : j = i
    · rw [e, upd_same, List.length_set]; exact h i hi
    · rw [upd_other C e]; exact h j hj
  refine gC_ext h' (by rw [List.length_set, gC_len h]) fun j d hj hd => ?_
  rw [List.getElem?_set]
  by_cases he : i * s + c = j * s + d
  · obtain ⟨e1, e2⟩ := place_eq hc hd he
    subst e1; subst e2
    rw [if_pos rfl, if_pos (by rw [gC_len h]; exact at_lt hi hc), upd_same, List.getElem?_set, if_pos rfl, if_pos (by rw [h i hi]; exact hc)]
  · rw [if_neg he, gC_get h j d hj hd]
    by_cases hij : j = i
    · rw [hij, upd_same, List.getElem?_set, if_neg (fun e => he (by rw [hij, e]))]
    · rw [upd_other C hij]
theorem gC_put {s : Nat} {C : Nat → List Value} {k : Nat} (h : ∀ i, i < k → (C i).length = s) {i : Nat} (hi : i < k) {news : List Value} (hn : news.length = s) : (gC C k).take (i * s) ++ news ++ (gC C k).drop (i * s + s) = gC (upd C i news) k := by
  have h' : ∀ j, j < k → (upd C i news j).length = s := fun j hj => by
    by_cases e : j = i
    · rw [e, upd_same]; exact hn
    · rw [upd_other C e]; exact h j hj
  have hle : i * s + s ≤ k * s := by have := Nat.mul_le_mul_right s (show i + 1 ≤ k from hi); rw [Nat.succ_mul] at this; exact this
  have hlen := gC_len h
  have ht : ((gC C k).take (i * s)).length = i * s := by rw [List.length_take, hlen]; omega
  refine gC_ext h' (by rw [List.length_append, List.length_append, ht, hn, List.length_drop, hlen]; omega) fun j d hj hd => ?_
  by_cases hij : j = i
  · subst hij
    rw [upd_same, List.append_assoc, List.getElem?_append_right (by rw [ht]; omega), ht, List.getElem?_append_left (by omega)]
    congr 1; omega
  · rw [upd_other C hij]
    rcases Nat.lt_or_gt_of_ne hij with hlt | hgt
    · have := at_lt hlt hd
      rw [List.append_assoc, List.getElem?_append_left (by rw [ht]; exact this), List.getElem?_take, if_pos this]
      exact gC_get h j d hj hd
    · have h3 : i * s + s ≤ j * s := by have := Nat.mul_le_mul_right s (show i + 1 ≤ j from hgt); rw [Nat.succ_mul] at this; exact this
      rw [List.getElem?_append_right (by rw [List.length_append, ht, hn]; omega), List.length_append, ht, hn, List.getElem?_drop]
      rw [show i * s + s + (j * s + d - (i * s + s)) = j * s + d by omega]
      exact gC_get h j d hj hd
theorem flat_get {α : Type} {f : α → List Value} {s : Nat} (hf : ∀ a, (f a).length = s) : ∀ (l : List α) (i c : Nat) (hi : i < l.length), c < s → (l.flatMap f)[i * s + c]? = (f l[i])[c]?
  | [], i, c, hi, _ => by simp at hi
  | a :: l, 0, c, _, hc => by
    rw [List.flatMap_cons, Nat.zero_mul, Nat.zero_add, List.getElem?_append_left (by rw [hf]; exact hc)]; rfl
  | a :: l, i + 1, c, hi, hc => by
    rw [List.flatMap_cons, List.getElem?_append_right (by rw [hf, Nat.succ_mul]; omega), hf]
    rw [show (i + 1) * s + c - s = i * s + c by rw [Nat.succ_mul]; omega]
    exact flat_get hf l i c (by simpa using hi) hc
theorem flat_set {α : Type} {f : α → List Value} {s : Nat} (hf : ∀ a, (f a).length = s) : ∀ (l : List α) (i c : Nat) (hi : i < l.length) (a' : α) (u : Value), c < s → f a' = (f l[i]).set c u → (l.flatMap f).set (i * s + c) u = (l.set i a').flatMap f
  | [], i, c, hi, _, _, _, _ => by simp at hi
  | a :: l, 0, c, _, a', u, hc, e => by
    have e : f a' = (f a).set c u := e
    rw [List.flatMap_cons, List.set_cons_zero, List.flatMap_cons, Nat.zero_mul, Nat.zero_add, List.set_append_left _ _ (by rw [hf]; exact hc), e]
  | a :: l, i + 1, c, hi, a', u, hc, e => by
    rw [List.flatMap_cons, List.set_cons_succ, List.flatMap_cons, List.set_append_right _ _ (by rw [hf, Nat.succ_mul]; omega), hf]
    rw [show (i + 1) * s + c - s = i * s + c by rw [Nat.succ_mul]; omega, flat_set hf l i c (by simpa using hi) a' u hc e]
theorem flat_congr {α : Type} {f g : α → List Value} {l : List α} (h : ∀ a ∈ l, f a = g a) : l.flatMap f = l.flatMap g := by
  induction l with
  | nil => rfl
  | cons a l ih => rw [List.flatMap_cons, List.flatMap_cons, h a (by simp), ih (fun x hx => h x (by simp [hx]))]
structure SlotsT (w : World) (base t s m : Nat) (VV : Nat → Value) (NN : Nat → Nat) (XX : Nat → List Value) : Prop where
  own : ∀ i, i < m → w.ownsRow base t s (VV i) (NN i) (XX i)
  apart : ∀ i j, i < m → j < m → i ≠ j → ∀ g, (VV i).ownBlock = some g → (VV j).ownBlock ≠ some g
theorem SlotsT.nils (w : World) (base t s m : Nat) : SlotsT w base t s m (fun _ => .slice none 0 0) (fun _ => 0) (fun _ => []) :=
  ⟨fun _ _ => World.ownsRow_nil _ _ _ _, fun _ _ _ _ _ g h => by cases h⟩
theorem SlotsT.keptR {w w' : World} {base t s m : Nat} {VV : Nat → Value} {NN : Nat → Nat} {XX : Nat → List Value} (h : SlotsT w base t s m VV NN XX) {row : Option Nat} (hg : w.grownBy w' row) (hr : ∀ i, i < m → (VV i).ownBlock = none ∨ (VV i).ownBlock ≠ row) : SlotsT w' base t s m VV NN XX :=
  ⟨fun i hi => (h.own i hi).kept hg (hr i hi), h.apart⟩
theorem SlotsT.kept {w w' : World} {base t s m : Nat} {VV : Nat → Value} {NN : Nat → Nat} {XX : Nat → List Value} (h : SlotsT w base t s m VV NN XX) {row : Option Nat} (hg : w.grownBy w' row) (hr : ∀ g, row = some g → g < base) : SlotsT w' base t s m VV NN XX :=
  h.keptR hg fun i hi => by
    cases hv : (VV i).ownBlock with
    | none => exact Or.inl rfl
    | some g =>
      refine Or.inr fun e => ?_
      have := ((h.own i hi).lt g hv).1
      have := hr g e.symm
      omega
theorem SlotsT.below {w w' : World} {base t s m : Nat} {VV : Nat → Value} {NN : Nat → Nat} {XX : Nat → List Value} (h : SlotsT w base t s m VV NN XX) (hb : Below w.heap.size w w') : SlotsT w' base t s m VV NN XX := h.kept (gb_below none hb) (fun g e => by cases e)
theorem SlotsT.keptT {w w' : World} {base t s m : Nat} {VV : Nat → Value} {NN : Nat → Nat} {XX : Nat → List Value} (h : SlotsT w base t s m VV NN XX) {row : Option Nat} (hg : w.grownBy w' row) (hr : ∀ g cs, row = some g → w.heap[g]? = some (.cells cs t (0, 0)) → g < base) : SlotsT w' base t s m VV NN XX :=
  h.keptR hg fun i hi => by
    rcases (h.own i hi).2 with ⟨e, -⟩ | ⟨g, cap, cur, e, hb, hh, -⟩
    · rw [e]; exact Or.inl rfl
    · refine Or.inr fun e2 => ?_
      rw [e] at e2
      have := hr g cur e2.symm hh
      omega
theorem SlotsT.upd {w w' : World} {base t s m : Nat} {VV : Nat → Value} {NN : Nat → Nat} {XX : Nat → List Value} (h : SlotsT w base t s m VV NN XX) {k : Nat} (hk : k < m) (hg : w.grownBy w' (VV k).ownBlock) {v : Value} {n : Nat} {xs : List Value} (hown : w'.ownsRow base t s v n xs)
    (hloc : ∀ g, v.ownBlock = some g → (VV k).ownBlock = some g ∨ w.heap.size ≤ g) : SlotsT w' base t s m (Go.Proofs.YtldbmdgpdolaaaaGreatDoor.upd VV k v) (Go.Proofs.YtldbmdgpdolaaaaGreatDoor.upd NN k n) (Go.Proofs.YtldbmdgpdolaaaaGreatDoor.upd XX k xs) := by
  have hot : ∀ j, j < m → j ≠ k → ∀ g, (VV j).ownBlock = some g → v.ownBlock ≠ some g := by
    intro j hj hne g hv e
    rcases hloc g e with h1 | h1
    · exact h.apart j k hj hk hne g hv h1
    · have := ((h.own j hj).lt g hv).2
      omega
  refine ⟨fun j hj => ?_, fun i j hi hj hne g hv => ?_⟩
  · by_cases he : j = k
    · subst he; rw [upd_same, upd_same, upd_same]; exact hown
    · rw [upd_other VV he, upd_other NN he, upd_other XX he]
      exact (h.own j hj).kept hg (by
        cases hv : (VV j).ownBlock with
        | none => exact Or.inl rfl
        | some g => exact Or.inr fun e => h.apart j k hj hk he g hv e.symm)
  · by_cases he : i = k
    · subst he
      rw [upd_same] at hv
      rw [upd_other VV (Ne.symm hne)]
      exact fun e => hot j hj (Ne.symm hne) g e hv
    · rw [upd_other VV he] at hv
      by_cases he2 : j = k
      · subst he2; rw [upd_same]; exact hot i hi he g hv
      · rw [upd_other VV he2]; exact h.apart i j hi hj hne g hv
theorem SlotsT.put {w : World} {base t s m : Nat} {VV : Nat → Value} {NN : Nat → Nat} {XX : Nat → List Value} (h : SlotsT w base t s m VV NN XX) {k : Nat} (hk : k < m) {v : Value} {n : Nat} {xs : List Value} (hown : w.ownsRow base t s v n xs)
    (hloc : ∀ g, v.ownBlock = some g → ∀ j, j < m → j ≠ k → (VV j).ownBlock ≠ some g) : SlotsT w base t s m (Go.Proofs.YtldbmdgpdolaaaaGreatDoor.upd VV k v) (Go.Proofs.YtldbmdgpdolaaaaGreatDoor.upd NN k n) (Go.Proofs.YtldbmdgpdolaaaaGreatDoor.upd XX k xs) := by
  refine ⟨fun j hj => ?_, fun i j hi hj hne g hv => ?_⟩
  · by_cases he : j = k
    · subst he; rw [upd_same, upd_same, upd_same]; exact hown
    · rw [upd_other VV he, upd_other NN he, upd_other XX he]; exact h.own j hj
  · by_cases he : i = k
    · subst he
      rw [upd_same] at hv
      rw [upd_other VV (Ne.symm hne)]
      exact hloc g hv j hj (Ne.symm hne)
    · rw [upd_other VV he] at hv
      by_cases he2 : j = k
      · subst he2; rw [upd_same]; exact fun e => hloc g e i hi he hv
      · rw [upd_other VV he2]; exact h.apart i j hi hj hne g hv
theorem SlotsT.congr {w : World} {base t s m : Nat} {VV VV' : Nat → Value} {NN NN' : Nat → Nat} {XX XX' : Nat → List Value} (h : SlotsT w base t s m VV NN XX) (e : ∀ i, i < m → VV i = VV' i ∧ NN i = NN' i ∧ XX i = XX' i) : SlotsT w base t s m VV' NN' XX' := by
  refine ⟨fun i hi => ?_, fun i j hi hj hne g hv => ?_⟩
  · obtain ⟨e1, e2, e3⟩ := e i hi
    rw [← e1, ← e2, ← e3]; exact h.own i hi
  · rw [← (e i hi).1] at hv
    rw [← (e j hj).1]
    exact h.apart i j hi hj hne g hv
theorem SlotsT.mono {w : World} {base base' t s m : Nat} {VV : Nat → Value} {NN : Nat → Nat} {XX : Nat → List Value} (h : SlotsT w base t s m VV NN XX) (hb : base' ≤ base) : SlotsT w base' t s m VV NN XX :=
  ⟨fun i hi => by
    obtain ⟨h1, h2⟩ := h.own i hi
    refine ⟨h1, ?_⟩
    rcases h2 with h2 | ⟨g, cap, cur, e, hb2, r⟩
    · exact Or.inl h2
    · exact Or.inr ⟨g, cap, cur, e, by omega, r⟩, h.apart⟩
theorem ownsRow_monoR {w : World} {base base' t s n : Nat} {v : Value} {xs : List Value} (h : w.ownsRow base t s v n xs) (hb : base' ≤ base) : w.ownsRow base' t s v n xs := by
  refine ⟨h.1, ?_⟩
  rcases h.2 with h2 | ⟨g, cap, cur, e, hb2, r⟩
  · exact Or.inl h2
  · exact Or.inr ⟨g, cap, cur, e, by omega, r⟩
theorem own_type {w : World} {base t s n : Nat} {v : Value} {xs : List Value} (h : w.ownsRow base t s v n xs) {q t' : Nat} {cs : Array Value} (hq : v.ownBlock = some q) (hh : w.heap[q]? = some (.cells cs t' (0, 0))) : t' = t := by
  rcases h.2 with ⟨e, -⟩ | ⟨g, cap, cur, e, -, hg, -⟩
  · rw [e] at hq; cases hq
  · rw [e] at hq
    obtain rfl : g = q := by simpa [Value.ownBlock] using hq
    rw [hh] at hg
    simp at hg
    exact hg.2
theorem SlotsT.store {w : World} {base t s m : Nat} {VV : Nat → Value} {NN : Nat → Nat} {XX : Nat → List Value} (h : SlotsT w base t s m VV NN XX) {k : Nat} (hk : k < m) {q c : Nat} (hq : VV k = .slice (some ⟨q, 0, none⟩) (NN k) c) (j : Nat) (u : Value) : SlotsT (w.setCell ⟨q, j, none⟩ u) base t s m VV NN (Go.Proofs.YtldbmdgpdolaaaaGreatDoor.upd XX k ((XX k).set j u)) ∧ w.grownBy (w.setCell ⟨q, j, none⟩ u) (some q) := by
  have hown := h.own k hk
  rw [hq] at hown
  obtain ⟨r1, r2⟩ := hown.stored j u
  refine ⟨(h.upd hk (v := VV k) (n := NN k) (xs := (XX k).set j u) (by rw [hq]; exact r2) (by rw [← hq] at r1; exact r1) (fun g hg => Or.inl hg)).congr (fun i _ => ?_), r2⟩
  by_cases e : i = k
  · subst e; simp [upd_same]
  · simp [upd_other _ e]
theorem upd_self {α : Type} (g : Nat → α) (i : Nat) : upd g i (g i) = g := by
  funext j
  by_cases e : j = i
  · rw [e, upd_same]
  · rw [upd_other _ e]
end Go.Proofs.YtldbmdgpdolaaaaGreatDoor
