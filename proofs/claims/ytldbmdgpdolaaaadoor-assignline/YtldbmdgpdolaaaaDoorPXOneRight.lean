import Derived.Deep.AppendLies
import Derived.Test.YtldbmdgpdolaaaaDoorPGroupF
import Derived.Test.YtldbmdgpdolaaaaDoorPGroupC
import Derived.Test.YtldbmdgpdolaaaaDoorPGroupB
import Derived.Test.YtldbmdgpdolaaaaDoorPGroupA
import Derived.BigQuiet
import Derived.Deep.QuietTactic
import Derived.Deep.Cut
import Derived.Deep.RegionHeld3
namespace Go.Proofs.YtldbmdgpdolaaaaDoor
open Go Go.RowKit

theorem out_existsS (f : Fn) (q : Nat) : ∀ r, r ≤ 12 → ∃ v, OutOk f r q v := by
  intro r
  induction r with
  | zero =>
    intro _
    by_cases h : Way f 63 q
    · exact ⟨0, out_zero_yes h⟩
    · exact ⟨-1, out_zero_no h⟩
  | succ r ih =>
    intro hr
    obtain ⟨v, hv⟩ := ih (by omega)
    by_cases h : Way f 63 q
    · by_cases h2 : Way f r q
      · exact ⟨v, out_same hv (fun _ => h2)⟩
      · exact ⟨_, (out_add hv (by omega) h h2).1⟩
    · exact ⟨v, out_same hv (fun h3 => absurd h3 h)⟩
theorem sure_existsS (f : Fn) : ∃ L, SureSpec f L := by
  have h : ∀ q, ∃ v, OutOk f 12 q v := fun q => out_existsS f q 12 (Nat.le_refl _)
  refine ⟨(List.range (f.code.length + 1)).map fun q => Classical.choose (h q), spec_of_out (by simp) fun q hq => ?_⟩
  have e : ((List.range (f.code.length + 1)).map fun q => Classical.choose (h q)).getD q 0 = Classical.choose (h q) := by simp [List.getD, hq]
  rw [e]
  exact Classical.choose_spec (h q)
theorem one_right {f : Fn} (hc : codeProg [f] = 0) (hr : ∀ pc, pc < f.code.length → ∀ r ∈ readsL [f] (insD f pc), ¬ Way f r.toNat pc) (he : ¬ Way f 63 f.code.length) : ProofAns [f] 0 := by
  refine Or.inr ⟨hc, checks_all fun g hg => ?_⟩
  obtain rfl : g = f := by simpa using hg
  obtain ⟨L, hL⟩ := sure_existsS g
  exact ⟨L, hL, (prove_zero hc hg hL hr he).symm⟩
end Go.Proofs.YtldbmdgpdolaaaaDoor
namespace Go.Proofs.YtldbmdgpdolaaaaDoor
open Go Go.RowKit

theorem made_ints0 (c : Nat) : (madeCells (Value.int .i64 0).cells (c * 1)).toList = i64s (List.replicate c 0) := by
  simp [madeCells, i64s, Value.cells]
  apply List.ext_getElem
  · simp
  · intro i h1 h2
    have : i % 1 = 0 := Nat.mod_one i
    simp [this]
theorem wrap_signed (n : Int) (h0 : -9223372036854775808 ≤ n) (h1 : n ≤ 9223372036854775807) : IntKind.i64.wrap n = n := by
  by_cases h : 0 ≤ n
  · have e : n % 2 ^ 64 = n := Int.emod_eq_of_lt h (by simp; omega)
    have w1 : IntKind.i64.wrap n = if (true && decide (n ≥ 2 ^ 63)) = true then n - (2 ^ 64 : Int) else n := by
      simp only [IntKind.wrap, IntKind.bits, IntKind.signed, e]
    rw [w1, if_neg (by simp; omega)]
  · have e : n % 2 ^ 64 = n + 2 ^ 64 := by
      rw [← Int.add_emod_right]
      exact Int.emod_eq_of_lt (by simp; omega) (by simp; omega)
    have w1 : IntKind.i64.wrap n = if (true && decide (n + 2 ^ 64 ≥ 2 ^ 63)) = true then n + 2 ^ 64 - (2 ^ 64 : Int) else n + 2 ^ 64 := by
      simp only [IntKind.wrap, IntKind.bits, IntKind.signed, e]
    rw [w1, if_pos (by simp; omega)]
    omega
def upd {α : Type} (g : Nat → α) (i : Nat) (v : α) : Nat → α := fun j => if j = i then v else g j
theorem upd_same {α : Type} (g : Nat → α) (i : Nat) (v : α) : upd g i v i = v := if_pos rfl
theorem upd_other {α : Type} (g : Nat → α) {i j : Nat} (h : j ≠ i) (v : α) : upd g i v j = g j := if_neg h
abbrev OwnI (w : World) (base : Nat) (v : Value) (l : List Int) : Prop := w.ownsRow base 3 1 v l.length (i64s l)
structure Slots (w : World) (base m : Nat) (VV : Nat → Value) (LL : Nat → List Int) : Prop where
  own : ∀ s, s < m → OwnI w base (VV s) (LL s)
  apart : ∀ s t, s < m → t < m → s ≠ t → ∀ g, (VV s).ownBlock = some g → (VV t).ownBlock ≠ some g
theorem Slots.nils (w : World) (base m : Nat) : Slots w base m (fun _ => .slice none 0 0) (fun _ => []) :=
  ⟨fun _ _ => ⟨rfl, Or.inl ⟨rfl, rfl⟩⟩, fun _ _ _ _ _ g h => by cases h⟩
theorem Slots.kept {w w' : World} {base m : Nat} {VV : Nat → Value} {LL : Nat → List Int} (h : Slots w base m VV LL) {row : Option Nat} (hg : w.grownBy w' row) (hr : ∀ g, row = some g → g < base) : Slots w' base m VV LL :=
  ⟨fun s hs => (h.own s hs).kept hg (by
    cases hv : (VV s).ownBlock with
    | none => exact Or.inl rfl
    | some g =>
      refine Or.inr fun e => ?_
      have := ((h.own s hs).lt g hv).1
      have := hr g e.symm
      omega), h.apart⟩
theorem Slots.below {w w' : World} {base m : Nat} {VV : Nat → Value} {LL : Nat → List Int} (h : Slots w base m VV LL) (hb : Below w.heap.size w w') : Slots w' base m VV LL := h.kept (gb_below none hb) (fun g e => by cases e)
theorem Slots.upd {w w' : World} {base m : Nat} {VV : Nat → Value} {LL : Nat → List Int} (h : Slots w base m VV LL) {s : Nat} (hs : s < m) (hg : w.grownBy w' (VV s).ownBlock) {v : Value} {l : List Int} (hown : OwnI w' base v l)
    (hloc : v.ownBlock = (VV s).ownBlock ∨ ∃ g, v.ownBlock = some g ∧ w.heap.size ≤ g) : Slots w' base m (Go.Proofs.YtldbmdgpdolaaaaDoor.upd VV s v) (Go.Proofs.YtldbmdgpdolaaaaDoor.upd LL s l) := by
  have hot : ∀ t, t < m → t ≠ s → ∀ g, (VV t).ownBlock = some g → v.ownBlock ≠ some g := by
    intro t ht hne g hv e
    rcases hloc with h1 | ⟨g', h1, h2⟩
    · exact h.apart t s ht hs hne g hv (by rw [← h1]; exact e)
    · have := ((h.own t ht).lt g hv).2
      rw [h1] at e
      have := Option.some.inj e
      omega
  refine ⟨fun t ht => ?_, fun t u ht hu hne g hv => ?_⟩
  · by_cases he : t = s
    · subst he; rw [upd_same, upd_same]; exact hown
    · rw [upd_other VV he, upd_other LL he]
      exact (h.own t ht).kept hg (by
        cases hv : (VV t).ownBlock with
        | none => exact Or.inl rfl
        | some g => exact Or.inr fun e => h.apart t s ht hs he g hv e.symm)
  · by_cases he : t = s
    · subst he
      rw [upd_same] at hv
      rw [upd_other VV (Ne.symm hne)]
      exact fun e => hot u hu (Ne.symm hne) g e hv
    · rw [upd_other VV he] at hv
      by_cases he2 : u = s
      · subst he2; rw [upd_same]; exact hot t ht he g hv
      · rw [upd_other VV he2]; exact h.apart t u ht hu hne g hv
theorem own_newF {w : World} {base : Nat} (h : base ≤ w.heap.size) (l : List Int) (hl : l.length ≤ 1000) : OwnI (w.alloc (.cells (i64s l).toArray 3)) base (.slice (some ⟨w.heap.size, 0, none⟩) l.length l.length) l :=
  ⟨by simp [i64s], Or.inr ⟨w.heap.size, l.length, (i64s l).toArray, rfl, h, heap_alloc_last w _, Nat.le_refl _, by unfold maxLen; omega, by simp [i64s], List.take_of_length_le (by simp [i64s])⟩⟩
theorem own_snoc {w : World} {base n : Nat} {v : Value} {l : List Int} {z : Int} (hl : l.length = n) (h : w.ownsRow base 3 1 v (n + 1) (i64s l ++ i64s [z])) : OwnI w base v (l ++ [z]) := by
  rw [← i64s_append] at h
  have e : (l ++ [z]).length = n + 1 := by simp [hl]
  show World.ownsRow _ _ _ _ _ (l ++ [z]).length _
  rw [e]
  exact h
theorem lies_loc {v : Value} {g c n H : Nat} (h : v.ownBlock = some g ∨ g = H) : (Value.slice (some ⟨g, 0, none⟩) n c).ownBlock = v.ownBlock ∨ ∃ q, (Value.slice (some ⟨g, 0, none⟩) n c).ownBlock = some q ∧ H ≤ q := by
  rcases h with h | h
  · exact Or.inl h.symm
  · exact Or.inr ⟨g, rfl, by omega⟩
end Go.Proofs.YtldbmdgpdolaaaaDoor
namespace Go.Proofs.YtldbmdgpdolaaaaDoor
open Go Go.RowKit

def gC (C : Nat → List Value) : Nat → List Value
  | 0 => []
  | k + 1 => gC C k ++ C k
theorem gC_len {s : Nat} {C : Nat → List Value} : ∀ {k : Nat}, (∀ i, i < k → (C i).length = s) → (gC C k).length = k * s
  | 0, _ => by simp [gC]
  | k + 1, h => by rw [gC, List.length_append, gC_len (fun i hi => h i (by omega)), h k (by omega), Nat.succ_mul]
theorem at_lt {i k s c : Nat} (hi : i < k) (hc : c < s) : i * s + c < k * s := by
  have : (i + 1) * s ≤ k * s := Nat.mul_le_mul_right _ hi
  rw [Nat.succ_mul] at this
  omega
theorem gC_get {s : Nat} {C : Nat → List Value} : ∀ {k : Nat}, (∀ i, i < k → (C i).length = s) → ∀ (i c : Nat), i < k → c < s → (gC C k)[i * s + c]? = (C i)[c]?
  | 0, _, i, c, hi, _ => by omega
  | k + 1, h, i, c, hi, hc => by
    have hl := gC_len (s := s) (C := C) (k := k) (fun j hj => h j (by omega))
    rw [gC]
    by_cases he : i = k
    · subst he
      rw [List.getElem?_append_right (by rw [hl]; omega), hl]
      congr 1
      omega
    · have := at_lt (k := k) (s := s) (show i < k by omega) hc
      rw [List.getElem?_append_left (by rw [hl]; exact this)]
      exact gC_get (fun j hj => h j (by omega)) i c (by omega) hc
theorem gC_ext {s : Nat} {C : Nat → List Value} {l : List Value} {k : Nat} (h : ∀ i, i < k → (C i).length = s) (hl : l.length = k * s) (hg : ∀ i c, i < k → c < s → l[i * s + c]? = (C i)[c]?) : l = gC C k := by
  apply List.ext_getElem?
  intro j
  by_cases hj : j < k * s
  · have hs : 0 < s := by
      rcases Nat.eq_zero_or_pos s with e | e
      · rw [e, Nat.mul_zero] at hj; omega
      · exact e
    have e : j = j / s * s + j % s := by rw [Nat.mul_comm]; exact (Nat.div_add_mod j s).symm
    have h1 : j / s < k := (Nat.div_lt_iff_lt_mul hs).2 hj
    have h2 := Nat.mod_lt j hs
    rw [e, hg _ _ h1 h2, gC_get h _ _ h1 h2]
  · rw [List.getElem?_eq_none (by omega), List.getElem?_eq_none (by rw [gC_len h]; omega)]
theorem gC_same {C C' : Nat → List Value} : ∀ {k : Nat}, (∀ i, i < k → C i = C' i) → gC C k = gC C' k
  | 0, _ => rfl
  | k + 1, h => by rw [gC, gC, gC_same (fun i hi => h i (by omega)), h k (by omega)]
theorem place_eq {s i j c d : Nat} (hc : c < s) (hd : d < s) (h : i * s + c = j * s + d) : i = j ∧ c = d := by
  have hs : 0 < s := by omega
  have h1 : (i * s + c) / s = i := by rw [Nat.mul_comm, Nat.mul_add_div hs, Nat.div_eq_of_lt hc]; rfl
  have h2 : (j * s + d) / s = j := by rw [Nat.mul_comm, Nat.mul_add_div hs, Nat.div_eq_of_lt hd]; rfl
  have : i = j := by rw [← h1, ← h2, h]
  subst this
  exact ⟨rfl, by omega⟩
theorem gC_set {s : Nat} {C : Nat → List Value} {k : Nat} (h : ∀ i, i < k → (C i).length = s) {i c : Nat} (hi : i < k) (hc : c < s) (u : Value) : (gC C k).set (i * s + c) u = gC (upd C i ((C i).set c u)) k := by
  have h' : ∀ j, j < k → (upd C i ((C i).set c u) j).length = s := fun j hj => by
    by_cases e : j = i
    · rw [e, upd_same, List.length_set]; exact h i hi
    · rw [upd_other C e]; exact h j hj
  refine gC_ext h' (by rw [List.length_set, gC_len h]) fun j d hj hd => ?_
  rw [List.getElem?_set]
  by_cases he : i * s + c = j * s + d
  · obtain ⟨e1, e2⟩ := place_eq hc hd he
    subst e1; subst e2
    rw [if_pos rfl, if_pos (by rw [gC_len h]; exact at_lt hi hc), upd_same, List.getElem?_set, if_pos rfl, if_pos (by rw [h i hi]; exact hc)]
  · rw [if_neg he, gC_get h j d hj hd]
    by_cases hij : j = i
    · rw [hij, upd_same, List.getElem?_set, if_neg (fun e => he (by rw [hij, e]))]
    · rw [upd_other C hij]
theorem gC_put {s : Nat} {C : Nat → List Value} {k : Nat} (h : ∀ i, i < k → (C i).length = s) {i : Nat} (hi : i < k) {news : List Value} (hn : news.length = s) : (gC C k).take (i * s) ++ news ++ (gC C k).drop (i * s + s) = gC (upd C i news) k := by
  have h' : ∀ j, j < k → (upd C i news j).length = s := fun j hj => by
    by_cases e : j = i
    · rw [e, upd_same]; exact hn
    · rw [upd_other C e]; exact h j hj
  have hle : i * s + s ≤ k * s := by have := Nat.mul_le_mul_right s (show i + 1 ≤ k from hi); rw [Nat.succ_mul] at this; exact this
  have hlen := gC_len h
  have ht : ((gC C k).take (i * s)).length = i * s := by rw [List.length_take, hlen]; omega
  refine gC_ext h' (by rw [List.length_append, List.length_append, ht, hn, List.length_drop, hlen]; omega) fun j d hj hd => ?_
  by_cases hij : j = i
  · subst hij
    rw [upd_same, List.append_assoc, List.getElem?_append_right (by rw [ht]; omega), ht, List.getElem?_append_left (by omega)]
    congr 1; omega
  · rw [upd_other C hij]
    rcases Nat.lt_or_gt_of_ne hij with hlt | hgt
    · have := at_lt hlt hd
      rw [List.append_assoc, List.getElem?_append_left (by rw [ht]; exact this), List.getElem?_take, if_pos this]
      exact gC_get h j d hj hd
    · have h3 : i * s + s ≤ j * s := by have := Nat.mul_le_mul_right s (show i + 1 ≤ j from hgt); rw [Nat.succ_mul] at this; exact this
      rw [List.getElem?_append_right (by rw [List.length_append, ht, hn]; omega), List.length_append, ht, hn, List.getElem?_drop]
      rw [show i * s + s + (j * s + d - (i * s + s)) = j * s + d by omega]
      exact gC_get h j d hj hd
theorem flat_get {α : Type} {f : α → List Value} {s : Nat} (hf : ∀ a, (f a).length = s) : ∀ (l : List α) (i c : Nat) (hi : i < l.length), c < s → (l.flatMap f)[i * s + c]? = (f l[i])[c]?
  | [], i, c, hi, _ => by simp at hi
  | a :: l, 0, c, _, hc => by
    rw [List.flatMap_cons, Nat.zero_mul, Nat.zero_add, List.getElem?_append_left (by rw [hf]; exact hc)]; rfl
  | a :: l, i + 1, c, hi, hc => by
    rw [List.flatMap_cons, List.getElem?_append_right (by rw [hf, Nat.succ_mul]; omega), hf]
    rw [show (i + 1) * s + c - s = i * s + c by rw [Nat.succ_mul]; omega]
    exact flat_get hf l i c (by simpa using hi) hc
theorem flat_set {α : Type} {f : α → List Value} {s : Nat} (hf : ∀ a, (f a).length = s) : ∀ (l : List α) (i c : Nat) (hi : i < l.length) (a' : α) (u : Value), c < s → f a' = (f l[i]).set c u → (l.flatMap f).set (i * s + c) u = (l.set i a').flatMap f
  | [], i, c, hi, _, _, _, _ => by simp at hi
  | a :: l, 0, c, _, a', u, hc, e => by
    have e : f a' = (f a).set c u := e
    rw [List.flatMap_cons, List.set_cons_zero, List.flatMap_cons, Nat.zero_mul, Nat.zero_add, List.set_append_left _ _ (by rw [hf]; exact hc), e]
  | a :: l, i + 1, c, hi, a', u, hc, e => by
    rw [List.flatMap_cons, List.set_cons_succ, List.flatMap_cons, List.set_append_right _ _ (by rw [hf, Nat.succ_mul]; omega), hf]
    rw [show (i + 1) * s + c - s = i * s + c by rw [Nat.succ_mul]; omega, flat_set hf l i c (by simpa using hi) a' u hc e]
theorem flat_congr {α : Type} {f g : α → List Value} {l : List α} (h : ∀ a ∈ l, f a = g a) : l.flatMap f = l.flatMap g := by
  induction l with
  | nil => rfl
  | cons a l ih => rw [List.flatMap_cons, List.flatMap_cons, h a (by simp), ih (fun x hx => h x (by simp [hx]))]
structure SlotsT (w : World) (base t s m : Nat) (VV : Nat → Value) (NN : Nat → Nat) (XX : Nat → List Value) : Prop where
  own : ∀ i, i < m → w.ownsRow base t s (VV i) (NN i) (XX i)
  apart : ∀ i j, i < m → j < m → i ≠ j → ∀ g, (VV i).ownBlock = some g → (VV j).ownBlock ≠ some g
theorem SlotsT.nils (w : World) (base t s m : Nat) : SlotsT w base t s m (fun _ => .slice none 0 0) (fun _ => 0) (fun _ => []) :=
  ⟨fun _ _ => World.ownsRow_nil _ _ _ _, fun _ _ _ _ _ g h => by cases h⟩
theorem SlotsT.keptR {w w' : World} {base t s m : Nat} {VV : Nat → Value} {NN : Nat → Nat} {XX : Nat → List Value} (h : SlotsT w base t s m VV NN XX) {row : Option Nat} (hg : w.grownBy w' row) (hr : ∀ i, i < m → (VV i).ownBlock = none ∨ (VV i).ownBlock ≠ row) : SlotsT w' base t s m VV NN XX :=
  ⟨fun i hi => (h.own i hi).kept hg (hr i hi), h.apart⟩
theorem SlotsT.kept {w w' : World} {base t s m : Nat} {VV : Nat → Value} {NN : Nat → Nat} {XX : Nat → List Value} (h : SlotsT w base t s m VV NN XX) {row : Option Nat} (hg : w.grownBy w' row) (hr : ∀ g, row = some g → g < base) : SlotsT w' base t s m VV NN XX :=
  h.keptR hg fun i hi => by
    cases hv : (VV i).ownBlock with
    | none => exact Or.inl rfl
    | some g =>
      refine Or.inr fun e => ?_
      have := ((h.own i hi).lt g hv).1
      have := hr g e.symm
      omega
theorem SlotsT.below {w w' : World} {base t s m : Nat} {VV : Nat → Value} {NN : Nat → Nat} {XX : Nat → List Value} (h : SlotsT w base t s m VV NN XX) (hb : Below w.heap.size w w') : SlotsT w' base t s m VV NN XX := h.kept (gb_below none hb) (fun g e => by cases e)
theorem SlotsT.keptT {w w' : World} {base t s m : Nat} {VV : Nat → Value} {NN : Nat → Nat} {XX : Nat → List Value} (h : SlotsT w base t s m VV NN XX) {row : Option Nat} (hg : w.grownBy w' row) (hr : ∀ g cs, row = some g → w.heap[g]? = some (.cells cs t (0, 0)) → g < base) : SlotsT w' base t s m VV NN XX :=
  h.keptR hg fun i hi => by
    rcases (h.own i hi).2 with ⟨e, -⟩ | ⟨g, cap, cur, e, hb, hh, -⟩
    · rw [e]; exact Or.inl rfl
    · refine Or.inr fun e2 => ?_
      rw [e] at e2
      have := hr g cur e2.symm hh
      omega
theorem SlotsT.upd {w w' : World} {base t s m : Nat} {VV : Nat → Value} {NN : Nat → Nat} {XX : Nat → List Value} (h : SlotsT w base t s m VV NN XX) {k : Nat} (hk : k < m) (hg : w.grownBy w' (VV k).ownBlock) {v : Value} {n : Nat} {xs : List Value} (hown : w'.ownsRow base t s v n xs)
    (hloc : ∀ g, v.ownBlock = some g → (VV k).ownBlock = some g ∨ w.heap.size ≤ g) : SlotsT w' base t s m (Go.Proofs.YtldbmdgpdolaaaaDoor.upd VV k v) (Go.Proofs.YtldbmdgpdolaaaaDoor.upd NN k n) (Go.Proofs.YtldbmdgpdolaaaaDoor.upd XX k xs) := by
  have hot : ∀ j, j < m → j ≠ k → ∀ g, (VV j).ownBlock = some g → v.ownBlock ≠ some g := by
    intro j hj hne g hv e
    rcases hloc g e with h1 | h1
    · exact h.apart j k hj hk hne g hv h1
    · have := ((h.own j hj).lt g hv).2
      omega
  refine ⟨fun j hj => ?_, fun i j hi hj hne g hv => ?_⟩
  · by_cases he : j = k
    · subst he; rw [upd_same, upd_same, upd_same]; exact hown
    · rw [upd_other VV he, upd_other NN he, upd_other XX he]
      exact (h.own j hj).kept hg (by
        cases hv : (VV j).ownBlock with
        | none => exact Or.inl rfl
        | some g => exact Or.inr fun e => h.apart j k hj hk he g hv e.symm)
  · by_cases he : i = k
    · subst he
      rw [upd_same] at hv
      rw [upd_other VV (Ne.symm hne)]
      exact fun e => hot j hj (Ne.symm hne) g e hv
    · rw [upd_other VV he] at hv
      by_cases he2 : j = k
      · subst he2; rw [upd_same]; exact hot i hi he g hv
      · rw [upd_other VV he2]; exact h.apart i j hi hj hne g hv
theorem SlotsT.put {w : World} {base t s m : Nat} {VV : Nat → Value} {NN : Nat → Nat} {XX : Nat → List Value} (h : SlotsT w base t s m VV NN XX) {k : Nat} (hk : k < m) {v : Value} {n : Nat} {xs : List Value} (hown : w.ownsRow base t s v n xs)
    (hloc : ∀ g, v.ownBlock = some g → ∀ j, j < m → j ≠ k → (VV j).ownBlock ≠ some g) : SlotsT w base t s m (Go.Proofs.YtldbmdgpdolaaaaDoor.upd VV k v) (Go.Proofs.YtldbmdgpdolaaaaDoor.upd NN k n) (Go.Proofs.YtldbmdgpdolaaaaDoor.upd XX k xs) := by
  refine ⟨fun j hj => ?_, fun i j hi hj hne g hv => ?_⟩
  · by_cases he : j = k
    · subst he; rw [upd_same, upd_same, upd_same]; exact hown
    · rw [upd_other VV he, upd_other NN he, upd_other XX he]; exact h.own j hj
  · by_cases he : i = k
    · subst he
      rw [upd_same] at hv
      rw [upd_other VV (Ne.symm hne)]
      exact hloc g hv j hj (Ne.symm hne)
    · rw [upd_other VV he] at hv
      by_cases he2 : j = k
      · subst he2; rw [upd_same]; exact fun e => hloc g e i hi he hv
      · rw [upd_other VV he2]; exact h.apart i j hi hj hne g hv
theorem SlotsT.congr {w : World} {base t s m : Nat} {VV VV' : Nat → Value} {NN NN' : Nat → Nat} {XX XX' : Nat → List Value} (h : SlotsT w base t s m VV NN XX) (e : ∀ i, i < m → VV i = VV' i ∧ NN i = NN' i ∧ XX i = XX' i) : SlotsT w base t s m VV' NN' XX' := by
  refine ⟨fun i hi => ?_, fun i j hi hj hne g hv => ?_⟩
  · obtain ⟨e1, e2, e3⟩ := e i hi
    rw [← e1, ← e2, ← e3]; exact h.own i hi
  · rw [← (e i hi).1] at hv
    rw [← (e j hj).1]
    exact h.apart i j hi hj hne g hv
theorem SlotsT.mono {w : World} {base base' t s m : Nat} {VV : Nat → Value} {NN : Nat → Nat} {XX : Nat → List Value} (h : SlotsT w base t s m VV NN XX) (hb : base' ≤ base) : SlotsT w base' t s m VV NN XX :=
  ⟨fun i hi => by
    obtain ⟨h1, h2⟩ := h.own i hi
    refine ⟨h1, ?_⟩
    rcases h2 with h2 | ⟨g, cap, cur, e, hb2, r⟩
    · exact Or.inl h2
    · exact Or.inr ⟨g, cap, cur, e, by omega, r⟩, h.apart⟩
theorem ownsRow_monoR {w : World} {base base' t s n : Nat} {v : Value} {xs : List Value} (h : w.ownsRow base t s v n xs) (hb : base' ≤ base) : w.ownsRow base' t s v n xs := by
  refine ⟨h.1, ?_⟩
  rcases h.2 with h2 | ⟨g, cap, cur, e, hb2, r⟩
  · exact Or.inl h2
  · exact Or.inr ⟨g, cap, cur, e, by omega, r⟩
theorem own_type {w : World} {base t s n : Nat} {v : Value} {xs : List Value} (h : w.ownsRow base t s v n xs) {q t' : Nat} {cs : Array Value} (hq : v.ownBlock = some q) (hh : w.heap[q]? = some (.cells cs t' (0, 0))) : t' = t := by
  rcases h.2 with ⟨e, -⟩ | ⟨g, cap, cur, e, -, hg, -⟩
  · rw [e] at hq; cases hq
  · rw [e] at hq
    obtain rfl : g = q := by simpa [Value.ownBlock] using hq
    rw [hh] at hg
    simp at hg
    exact hg.2
theorem SlotsT.store {w : World} {base t s m : Nat} {VV : Nat → Value} {NN : Nat → Nat} {XX : Nat → List Value} (h : SlotsT w base t s m VV NN XX) {k : Nat} (hk : k < m) {q c : Nat} (hq : VV k = .slice (some ⟨q, 0, none⟩) (NN k) c) (j : Nat) (u : Value) : SlotsT (w.setCell ⟨q, j, none⟩ u) base t s m VV NN (Go.Proofs.YtldbmdgpdolaaaaDoor.upd XX k ((XX k).set j u)) ∧ w.grownBy (w.setCell ⟨q, j, none⟩ u) (some q) := by
  have hown := h.own k hk
  rw [hq] at hown
  obtain ⟨r1, r2⟩ := hown.stored j u
  refine ⟨(h.upd hk (v := VV k) (n := NN k) (xs := (XX k).set j u) (by rw [hq]; exact r2) (by rw [← hq] at r1; exact r1) (fun g hg => Or.inl hg)).congr (fun i _ => ?_), r2⟩
  by_cases e : i = k
  · subst e; simp [upd_same]
  · simp [upd_other _ e]
theorem upd_self {α : Type} (g : Nat → α) (i : Nat) : upd g i (g i) = g := by
  funext j
  by_cases e : j = i
  · rw [e, upd_same]
  · rw [upd_other _ e]
end Go.Proofs.YtldbmdgpdolaaaaDoor
namespace Go.Proofs.YtldbmdgpdolaaaaDoor
open Go Go.RowKit

def placeB (P : List Fn) (f : Fr) : Bool := decide (0 ≤ f.fn ∧ f.fn < P.length ∧ 0 ≤ f.pc ∧ f.pc < ((P.getD f.fn.toNat ⟨0, 0, []⟩).code.length : Int))
def mayB (s : St) : Bool := decide (0 ≤ s.status ∧ s.status ≤ 5 ∧ 0 ≤ s.fuel ∧ s.fuel ≤ 10000 ∧ s.frames.length ≤ 8 ∧ s.answers.length ≤ 100 ∧ (s.status = 1 ↔ s.frames.length = 0) ∧ (s.status = 1 ∨ s.value = 0))
end Go.Proofs.YtldbmdgpdolaaaaDoor
namespace Go.Proofs.YtldbmdgpdolaaaaDoor
open Go Go.RowKit

theorem wrap_fits (n : Int) (h0 : 0 ≤ n) (h1 : n ≤ 9223372036854775807) : IntKind.i64.wrap n = n := by
  have e : n % 2 ^ 64 = n := Int.emod_eq_of_lt h0 (by simp; omega)
  have w1 : IntKind.i64.wrap n = if (true && decide (n ≥ 2 ^ 63)) = true then n - (2 ^ 64 : Int) else n := by
    simp only [IntKind.wrap, IntKind.bits, IntKind.signed, e]
  rw [w1, if_neg (by simp; omega)]
end Go.Proofs.YtldbmdgpdolaaaaDoor
namespace Go.Proofs.YtldbmdgpdolaaaaDoor
open Go Go.RowKit

def fnD (P : List Fn) (k : Int) : Fn := P.getD k.toNat ⟨0, 0, []⟩
def insOfFr (P : List Fn) (f : Fr) : Ins := insD (fnD P f.fn) f.pc.toNat
def regD (f : Fr) (r : Int) : Int := f.regs.getD r.toNat 0
def putF (f : Fr) (r v : Int) : Fr := ⟨f.fn, f.pc + 1, f.regs.set r.toNat v⟩
end Go.Proofs.YtldbmdgpdolaaaaDoor
namespace Go.Proofs.YtldbmdgpdolaaaaDoor
open Go Go.RowKit

structure FOk (P : List Fn) (fs : List Fr) : Prop where
  place : ∀ f ∈ fs, placeB P f = true
  calls : ∀ (k : Nat) (f h : Fr), fs[k]? = some f → fs[k + 1]? = some h → (insOfFr P f).op = 17 ∧ (insOfFr P f).imm = h.fn
theorem fok_snoc (P : List Fn) (fs : List Fr) (f : Fr) : FOk P (fs ++ [f]) ↔ FOk P fs ∧ placeB P f = true ∧ ∀ g, fs.getLast? = some g → (insOfFr P g).op = 17 ∧ (insOfFr P g).imm = f.fn := by
  constructor
  · intro h
    refine ⟨⟨fun g hg => h.place g (List.mem_append_left _ hg), fun k a b ha hb => ?_⟩, h.place f (by simp), fun g hg => ?_⟩
    · obtain ⟨l1, _⟩ := List.getElem?_eq_some_iff.1 ha
      obtain ⟨l2, _⟩ := List.getElem?_eq_some_iff.1 hb
      exact h.calls k a b (by rw [List.getElem?_append_left l1]; exact ha) (by rw [List.getElem?_append_left l2]; exact hb)
    · rw [List.getLast?_eq_getElem?] at hg
      obtain ⟨l1, _⟩ := List.getElem?_eq_some_iff.1 hg
      refine h.calls (fs.length - 1) g f (by rw [List.getElem?_append_left l1]; exact hg) ?_
      rw [show fs.length - 1 + 1 = fs.length by omega, List.getElem?_append_right (Nat.le_refl _)]
      simp
  · rintro ⟨h1, h2, h3⟩
    refine ⟨fun g hg => ?_, fun k a b ha hb => ?_⟩
    · rcases List.mem_append.1 hg with hg | hg
      · exact h1.place g hg
      · rw [List.mem_singleton.1 hg]; exact h2
    · obtain ⟨l2, _⟩ := List.getElem?_eq_some_iff.1 hb
      simp only [List.length_append, List.length_cons, List.length_nil] at l2
      rw [List.getElem?_append_left (by omega)] at ha
      by_cases hk : k + 1 < fs.length
      · rw [List.getElem?_append_left hk] at hb
        exact h1.calls k a b ha hb
      · have hk2 : k + 1 = fs.length := by omega
        rw [hk2, List.getElem?_append_right (Nat.le_refl _)] at hb
        obtain rfl : f = b := by simpa using hb
        exact h3 a (by rw [List.getLast?_eq_getElem?, show fs.length - 1 = k by omega]; exact ha)
theorem FOk.swap {P : List Fn} {fs : List Fr} {f f' : Fr} (h : FOk P (fs ++ [f])) (he : f'.fn = f.fn) (hp : placeB P f' = true) : FOk P (fs ++ [f']) := by
  obtain ⟨h1, _, h3⟩ := (fok_snoc _ _ _).1 h
  exact (fok_snoc _ _ _).2 ⟨h1, hp, fun g hg => by rw [he]; exact h3 g hg⟩
theorem FOk.push {P : List Fn} {fs : List Fr} {f g : Fr} (h : FOk P (fs ++ [f])) (h1 : (insOfFr P f).op = 17) (h2 : (insOfFr P f).imm = g.fn) (hp : placeB P g = true) : FOk P (fs ++ [f, g]) := by
  have e : fs ++ [f, g] = (fs ++ [f]) ++ [g] := by simp
  rw [e]
  refine (fok_snoc _ _ _).2 ⟨h, hp, fun a ha => ?_⟩
  have : a = f := by simpa using ha.symm
  subst this
  exact ⟨h1, h2⟩
theorem place_nat {P : List Fn} {f : Fr} (h : placeB P f = true) : ∃ (k j : Nat) (hk : k < P.length) (hj : j < P[k].code.length), f.fn = k ∧ f.pc = j ∧ fnD P f.fn = P[k] ∧ insOfFr P f = P[k].code[j] := by
  unfold placeB at h
  simp only [decide_eq_true_eq] at h
  obtain ⟨p0, p1, p2, p3⟩ := h
  obtain ⟨k, hk⟩ := Int.eq_ofNat_of_zero_le p0
  obtain ⟨j, hj⟩ := Int.eq_ofNat_of_zero_le p2
  have hkl : k < P.length := by omega
  have e : P.getD f.fn.toNat ⟨0, 0, []⟩ = P[k] := by rw [hk]; simp [List.getD, hkl]
  rw [e] at p3
  have hjl : j < P[k].code.length := by omega
  refine ⟨k, j, hkl, hjl, hk, hj, e, ?_⟩
  unfold insOfFr fnD
  rw [e, hj]
  exact insD_eq hjl
theorem place_of {P : List Fn} {k j : Nat} (hk : k < P.length) (hj : j < P[k].code.length) (l : List Int) : placeB P ⟨k, j, l⟩ = true := by
  unfold placeB
  simp only [decide_eq_true_eq]
  have e : P.getD (k : Int).toNat ⟨0, 0, []⟩ = P[k] := by simp [List.getD, hk]
  rw [e]
  omega
theorem place_ins {P : List Fn} (hc : codeProg P = 0) {f : Fr} (h : placeB P f = true) : InsOk P (insOfFr P f) := by
  obtain ⟨k, j, hk, hj, _, _, _, e⟩ := place_nat h
  rw [e]
  exact insOk_of hc (List.getElem_mem hk) (List.getElem_mem hj)
def ReachFr (P : List Fn) (f : Fr) : Prop := Way (fnD P f.fn) 63 f.pc.toNat
structure RunInv (P : List Fn) (S : St) : Prop where
  may : mayB S = true
  fok : FOk P S.frames
  reach : ∀ f ∈ S.frames, ReachFr P f
  wf : FrsWf S.frames
  mem : S.mem.length = 16
theorem mayB_iff (s : St) : mayB s = true ↔ (0 ≤ s.status ∧ s.status ≤ 5 ∧ 0 ≤ s.fuel ∧ s.fuel ≤ 10000 ∧ s.frames.length ≤ 8 ∧ s.answers.length ≤ 100 ∧ (s.status = 1 ↔ s.frames.length = 0) ∧ (s.status = 1 ∨ s.value = 0)) := by
  unfold mayB; simp only [decide_eq_true_eq]
theorem behind_next (x : Ins) (pc : Nat) (h1 : x.op ≠ 15) (h2 : x.op ≠ 19) : pc + 1 ∈ behind x pc := by
  unfold behind
  rw [if_neg h1]
  split
  · simp
  · simp
theorem FrsWf.init {fs gs : List Fr} (h : FrsWf (fs ++ gs)) : FrsWf fs := fun f hf => h f (List.mem_append_left _ hf)
theorem FrsWf.snoc {fs : List Fr} {f : Fr} (h : FrsWf fs) (hf : f.regs.length = 12) : FrsWf (fs ++ [f]) := fun g hg => by
  rcases List.mem_append.1 hg with hg | hg
  · exact h g hg
  · rw [List.mem_singleton.1 hg]; exact hf
theorem RunInv.on {P : List Fn} {S : St} {fs : List Fr} {f f' : Fr} (h : RunInv P S) (hS : S.frames = fs ++ [f]) (he : f'.fn = f.fn) (hp : placeB P f' = true) (hr : ReachFr P f') (hl : f'.regs.length = 12)
    {S' : St} (e1 : S'.frames = fs ++ [f']) (e2 : S'.status = S.status) (e3 : S'.value = S.value) (e4 : 0 ≤ S'.fuel ∧ S'.fuel ≤ 10000) (e5 : S'.answers.length ≤ S.answers.length) (e6 : S'.mem.length = 16) : RunInv P S' := by
  have hm := (mayB_iff S).1 h.may
  have hf := h.fok
  have hw := h.wf
  have hr0 := h.reach
  rw [hS] at hf hw hr0 hm
  refine ⟨(mayB_iff S').2 ?_, ?_, ?_, ?_, e6⟩
  · rw [e1, e2, e3]
    simp only [List.length_append, List.length_cons, List.length_nil] at hm ⊢
    omega
  · rw [e1]; exact hf.swap he hp
  · rw [e1]
    intro g hg
    rcases List.mem_append.1 hg with hg | hg
    · exact hr0 g (List.mem_append_left _ hg)
    · rw [List.mem_singleton.1 hg]; exact hr
  · rw [e1]; exact hw.init.snoc hl
theorem putF_len (f : Fr) (r v : Int) : (putF f r v).regs.length = f.regs.length := by simp [putF]
end Go.Proofs.YtldbmdgpdolaaaaDoor
namespace Go.Proofs.YtldbmdgpdolaaaaDoor
open Go Go.RowKit

theorem sureSpec_reach {f : Fn} {L : List Int} (h : SureSpec f L) {q : Nat} (hq : q < f.code.length + 1) : 0 ≤ L.getD q 0 ↔ Way f 63 q := by
  rcases h.2 q hq with ⟨hn, e⟩ | ⟨hw, m, _, e, _⟩
  · rw [e]; exact ⟨fun h => by omega, fun h => absurd h hn⟩
  · rw [e]; exact ⟨fun _ => hw, fun _ => by omega⟩
theorem reach_sure {P : List Fn} {k : Nat} (h : fnErr P k = 0) (hk : k < P.length) {A : List Int} (hA : SureAns P k A) :
    A.length = P[k].code.length ∧ ∀ q, q < P[k].code.length → (0 ≤ A.getD q 0 ↔ Way P[k] 63 q) := by
  have e : fnAt P (k : Int) = P[k] := by simp [fnAt, List.getD, hk]
  rcases hA with ⟨h1, _⟩ | ⟨_, L, hL, rfl⟩
  · exact absurd h h1
  · rw [e] at hL ⊢
    refine ⟨by rw [List.length_take, hL.1]; omega, fun q hq => ?_⟩
    rw [show (L.take P[k].code.length).getD q 0 = L.getD q 0 by simp [List.getD, hq]]
    exact sureSpec_reach hL (by omega)
theorem fnErr_ok {P : List Fn} (h : codeProg P = 0) {k : Nat} (hk : k < P.length) : fnErr P k = 0 := by unfold fnErr; rw [if_pos h, if_pos (by omega)]
def CallsAt (f : Fn) (pc : Nat) (t : Int) : Prop := pc < f.code.length ∧ Way f 63 pc ∧ (insD f pc).op = 17 ∧ (insD f pc).imm = t
inductive Called (P : List Fn) : Nat → Prop
  | zero : Called P 0
  | call {fn pc t : Nat} (h : Called P fn) (hk : fn < P.length) (hc : CallsAt P[fn] pc (t : Int)) : Called P t
def CSound (P : List Fn) (c : List Bool) : Prop := ∀ q, q < P.length → c.getD q false = true → Called P q
structure CMid (P : List Fn) (c0 : List Bool) (fn pc : Nat) (again : Bool) (c : List Bool) : Prop where
  len : c.length = c0.length
  sound : CSound P c0 → CSound P c
  keeps : ∀ q, c0.getD q false = true → c.getD q false = true
  less : again = true → unseen c < unseen c0
  same : again = false → c = c0 ∧ ∀ k (h : k < P.length) q (t : Nat), (k < fn ∨ (k = fn ∧ q < pc)) → c0.getD k false = true → CallsAt P[k] q (t : Int) → c0.getD t false = true
theorem CMid.start (P : List Fn) (c0 : List Bool) : CMid P c0 0 0 false c0 :=
  ⟨rfl, id, fun _ h => h, fun h => (by cases h), fun _ => ⟨rfl, fun k h q t hk => by omega⟩⟩
theorem CMid.next {P : List Fn} {c0 c : List Bool} {fn pc : Nat} {again : Bool} (h : CMid P c0 fn pc again c) (hf : fn < P.length) (hp : P[fn].code.length ≤ pc ∨ c.getD fn false = false) : CMid P c0 (fn + 1) 0 again c :=
  ⟨h.len, h.sound, h.keeps, h.less, fun ha => by
    obtain ⟨h1, h2⟩ := h.same ha
    refine ⟨h1, fun k hk q t hlt hc ht => ?_⟩
    rcases Nat.lt_or_ge k fn with hl | hl
    · exact h2 k hk q t (Or.inl hl) hc ht
    · obtain rfl : k = fn := by omega
      rcases hp with hp | hp
      · exact h2 k hk q t (Or.inr ⟨rfl, by have := ht.1; omega⟩) hc ht
      · subst h1; rw [hp] at hc; cases hc⟩
theorem CMid.skip {P : List Fn} {c0 c : List Bool} {fn pc : Nat} {again : Bool} (h : CMid P c0 fn pc again c) (hf : fn < P.length) (hn : ∀ t : Nat, CallsAt P[fn] pc (t : Int) → c.getD t false = true) : CMid P c0 fn (pc + 1) again c :=
  ⟨h.len, h.sound, h.keeps, h.less, fun ha => by
    obtain ⟨h1, h2⟩ := h.same ha
    refine ⟨h1, fun k hk q t hlt hc ht => ?_⟩
    by_cases hq : k < fn ∨ (k = fn ∧ q < pc)
    · exact h2 k hk q t hq hc ht
    · obtain rfl : k = fn := by omega
      obtain rfl : q = pc := by omega
      rw [← h1]; exact hn t ht⟩
theorem CMid.new {P : List Fn} {c0 c : List Bool} {fn pc t : Nat} {again : Bool} (h : CMid P c0 fn pc again c) (hf : fn < P.length) (hc : c.getD fn false = true) (ht : CallsAt P[fn] pc (t : Int)) (htl : t < c.length) (hu : c.getD t false = false) : CMid P c0 fn (pc + 1) true (c.set t true) := by
  have hun := unseen_set c t htl hu
  have hg : ∀ q, (c.set t true).getD q false = if q = t then true else c.getD q false := fun q => bget_set c t q true htl
  refine ⟨by simp [h.len], fun hs q hq hcq => ?_, fun q hq => ?_, fun _ => ?_, fun ha => by cases ha⟩
  · rw [hg q] at hcq
    by_cases e : q = t
    · rw [e]; exact Called.call (h.sound hs fn hf hc) hf ht
    · rw [if_neg e] at hcq; exact h.sound hs q hq hcq
  · rw [hg q]; split
    · rfl
    · exact h.keeps q hq
  · cases again
    · rw [(h.same rfl).1] at hun; rw [(h.same rfl).1]; omega
    · have := h.less rfl; omega
end Go.Proofs.YtldbmdgpdolaaaaDoor
