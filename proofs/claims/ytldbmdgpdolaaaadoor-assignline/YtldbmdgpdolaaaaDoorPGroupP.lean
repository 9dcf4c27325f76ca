import Derived.Test.YtldbmdgpdolaaaaDoorPGroupL
import Derived.Maps.OwnOps
import Derived.Maps.OwnSet
import Derived.Test.YtldbmdgpdolaaaaDoorPXOneRight
import Derived.Lib.SliceRun
import Derived.WalkSmall
import Derived.Deep.RegionLaw
import Derived.Maps.Range
import Derived.Maps.RangeWalk
namespace Go.Proofs.YtldbmdgpdolaaaaDoor
open Go Go.RowKit

def Beg (f : Fn) (q : Nat) : Prop := q = 0 ∨ ∃ pc, pc < f.code.length ∧ Way f 63 pc ∧ 15 ≤ (insD f pc).op ∧ q ∈ behind (insD f pc) pc
structure Starts (f : Fn) (S : List Nat) : Prop where
  rises : S.Pairwise (· < ·)
  iff : ∀ q, q ∈ S ↔ Beg f q
def rank (S : List Nat) (q : Nat) : Nat := (S.filter fun x => decide (x < q)).length
theorem rank_zero (S : List Nat) : rank S 0 = 0 := by unfold rank; simp
theorem rank_cons (a : Nat) (S : List Nat) (q : Nat) : rank (a :: S) q = (if a < q then 1 else 0) + rank S q := by
  unfold rank
  by_cases h : a < q
  · rw [List.filter_cons, if_pos (by simpa using h), if_pos h, List.length_cons]; omega
  · rw [List.filter_cons, if_neg (by simpa using h), if_neg h]; omega
theorem rank_low {S : List Nat} {q : Nat} (h : ∀ x ∈ S, q ≤ x) : rank S q = 0 := by
  unfold rank
  rw [List.length_eq_zero_iff, List.filter_eq_nil_iff]
  intro x hx
  have := h x hx
  simp; omega
theorem rank_at {S : List Nat} (h : S.Pairwise (· < ·)) : ∀ (i : Nat) (hi : i < S.length), rank S S[i] = i := by
  induction S with
  | nil => intro i hi; simp at hi
  | cons a S ih =>
    intro i hi
    obtain ⟨h1, h2⟩ := List.pairwise_cons.1 h
    cases i with
    | zero =>
      rw [List.getElem_cons_zero, rank_cons, if_neg (by omega), rank_low (fun x hx => Nat.le_of_lt (h1 x hx))]
    | succ i =>
      have hi' : i < S.length := by simpa using hi
      rw [List.getElem_cons_succ, rank_cons, if_pos (h1 _ (List.getElem_mem hi')), ih h2 i hi']
      omega
theorem rank_next {S : List Nat} (h : S.Pairwise (· < ·)) (q : Nat) : rank S (q + 1) = rank S q + (if q ∈ S then 1 else 0) := by
  induction S with
  | nil => rfl
  | cons a S ih =>
    obtain ⟨h1, h2⟩ := List.pairwise_cons.1 h
    rw [rank_cons, rank_cons, ih h2]
    by_cases ha : q = a
    · subst ha
      have hn : ¬ q ∈ S := fun hm => Nat.lt_irrefl _ (h1 q hm)
      rw [if_pos (by omega), if_neg hn, if_neg (by omega), if_pos (List.mem_cons_self)]
      omega
    · have e : q ∈ a :: S ↔ q ∈ S := by simp [ha]
      by_cases hm : q ∈ S
      · rw [if_pos hm, if_pos (e.2 hm)]
        by_cases hl : a < q
        · rw [if_pos (by omega), if_pos hl]; omega
        · exact absurd (h1 q hm) (by omega)
      · rw [if_neg hm, if_neg (fun hh => hm (e.1 hh))]
        by_cases hl : a < q
        · rw [if_pos (by omega), if_pos hl]; omega
        · rw [if_neg (by omega), if_neg hl]; omega
theorem rank_lt {S : List Nat} (h : S.Pairwise (· < ·)) {q : Nat} (hq : q ∈ S) : rank S q < S.length ∧ ∀ (hr : rank S q < S.length), S[rank S q] = q := by
  obtain ⟨i, hi, rfl⟩ := List.getElem_of_mem hq
  have e := rank_at h i hi
  constructor
  · omega
  · intro hr
    simp only [e]
theorem rank_le (S : List Nat) (q : Nat) : rank S q ≤ S.length := List.length_filter_le _ _
theorem rank_all {S : List Nat} {n : Nat} (h : ∀ x ∈ S, x < n) : rank S n = S.length := by
  unfold rank
  rw [List.filter_eq_self.2]
  intro x hx
  simpa using h x hx
theorem Starts.unique {f : Fn} {S S' : List Nat} (h : Starts f S) (h' : Starts f S') : S = S' := by
  have hm : ∀ q, q ∈ S ↔ q ∈ S' := fun q => (h.iff q).trans (h'.iff q).symm
  have hp := h.rises
  have hp' := h'.rises
  clear h h'
  induction S generalizing S' with
  | nil =>
    cases S' with
    | nil => rfl
    | cons a S' => exact absurd ((hm a).2 (by simp)) (by simp)
  | cons a S ih =>
    cases S' with
    | nil => exact absurd ((hm a).1 (by simp)) (by simp)
    | cons a' S' =>
      obtain ⟨h1, h2⟩ := List.pairwise_cons.1 hp
      obtain ⟨h1', h2'⟩ := List.pairwise_cons.1 hp'
      have e : a = a' := by
        rcases List.mem_cons.1 ((hm a).1 (by simp)) with e | e
        · exact e
        · rcases List.mem_cons.1 ((hm a').2 (by simp)) with e2 | e2
          · exact e2.symm
          · have := h1 a' e2; have := h1' a e; omega
      subst e
      rw [ih (fun q => ?_) h2 h2']
      constructor
      · intro hq
        rcases List.mem_cons.1 ((hm q).1 (by simp [hq])) with e | e
        · have := h1 q hq; omega
        · exact e
      · intro hq
        rcases List.mem_cons.1 ((hm q).2 (by simp [hq])) with e | e
        · have := h1' q hq; omega
        · exact e
theorem Starts.zero {f : Fn} {S : List Nat} (h : Starts f S) : 0 ∈ S := (h.iff 0).2 (Or.inl rfl)
theorem Starts.first {f : Fn} {S : List Nat} (h : Starts f S) : ∃ hl : 0 < S.length, S[0] = 0 := by
  have h0 := h.zero
  have hl : 0 < S.length := List.length_pos_of_mem h0
  refine ⟨hl, ?_⟩
  have hr : rank S 0 = 0 := rank_zero S
  have := (rank_lt h.rises h0).2 (by omega)
  simpa [hr] using this
theorem beg_reach {P : List Fn} {f : Fn} (ok : FlowOk P f) {q : Nat} (h : Beg f q) : Way f 63 q ∧ q < f.code.length := by
  rcases h with rfl | ⟨pc, h1, h2, _, h4⟩
  · exact ⟨Way.start (by have := ok.ok.p2; omega), by have := ok.ok.len1; omega⟩
  · exact ok.on h1 h2 h4
theorem Starts.reach {P : List Fn} {f : Fn} (ok : FlowOk P f) {S : List Nat} (h : Starts f S) {q : Nat} (hq : q ∈ S) : Way f 63 q ∧ q < f.code.length := beg_reach ok ((h.iff q).1 hq)
structure EndAt (f : Fn) (S : List Nat) (fr t : Nat) : Prop where
  lt : fr < t
  le : t ≤ f.code.length
  stops : 15 ≤ (insD f (t - 1)).op ∨ t ∈ S
  goes : ∀ j, fr < j → j < t → (insD f (j - 1)).op < 15 ∧ ¬ j ∈ S
theorem EndAt.unique {f : Fn} {S : List Nat} {fr t t' : Nat} (h : EndAt f S fr t) (h' : EndAt f S fr t') : t = t' := by
  rcases Nat.lt_trichotomy t t' with hl | hl | hl
  · have := h'.goes t h.lt hl
    rcases h.stops with s | s
    · omega
    · exact absurd s this.2
  · exact hl
  · have := h.goes t' h'.lt hl
    rcases h'.stops with s | s
    · omega
    · exact absurd s this.2
theorem behind_on (x : Ins) (pc : Nat) (h : x.op < 15) : behind x pc = [pc + 1] := by
  unfold behind
  rw [if_neg (by omega), if_neg (by omega), if_neg (by omega)]
theorem EndAt.reach {P : List Fn} {f : Fn} (ok : FlowOk P f) {S : List Nat} {fr t : Nat} (h : EndAt f S fr t) (hw : Way f 63 fr) : ∀ j, fr ≤ j → j < t → Way f 63 j := by
  intro j
  induction j with
  | zero =>
    intro hj _
    obtain rfl : fr = 0 := by omega
    exact hw
  | succ j ih =>
    intro hj hlt
    by_cases he : fr = j + 1
    · rw [← he]; exact hw
    have h1 := ih (by omega) (by omega)
    have hop := (h.goes (j + 1) (by omega) hlt).1
    rw [Nat.add_sub_cancel] at hop
    have hjl : j < f.code.length := by have := h.le; omega
    exact (ok.on hjl h1 (by rw [behind_on _ _ hop]; simp)).1
theorem EndAt.leads {P : List Fn} {f : Fn} (ok : FlowOk P f) {S : List Nat} (hS : Starts f S) {fr t : Nat} (h : EndAt f S fr t) (hw : Way f 63 fr) {q : Nat} (hq : q ∈ behind (insD f (t - 1)) (t - 1)) : q ∈ S := by
  have ht : t - 1 < f.code.length := by have := h.lt; have := h.le; omega
  have hr := h.reach ok hw (t - 1) (by have := h.lt; omega) (by have := h.lt; omega)
  by_cases hop : 15 ≤ (insD f (t - 1)).op
  · exact (hS.iff q).2 (Or.inr ⟨t - 1, ht, hr, hop, hq⟩)
  · rcases h.stops with s | s
    · exact absurd s hop
    · have e : q = t := by
        rw [behind_on _ _ (by omega)] at hq
        have := h.lt
        simp at hq
        omega
      rw [e]; exact s
end Go.Proofs.YtldbmdgpdolaaaaDoor
namespace Go.Proofs.YtldbmdgpdolaaaaDoor
open Go Go.RowKit

theorem mlaw : Maps.Keyed Tryd.prog 3 := Maps.int_keyed Tryd.underlying3
theorem zero_int (w : World) : (zeroValue 3).run Tryd.prog w = .ok (.int .i64 0) w := by kernel_rfl
abbrev Dat := DataW Unit
abbrev MapAt (w : World) (B m : Nat) (D : Dat) : Prop := w.ownsMap Tryd.prog 3 (plainElem Tryd.prog 3) B m D
theorem wpList_insert_own {H : Type} {P : Program} (w : World) {ops : Array Oper} {rest : List Oper} {o : Oper} {a : Act} {Q : Exit → Act → World → Prop}
    (hg : o.guard = none) (m x v : Operand) (t : TypeId) (hop : o.op = Op.insert t m x v)
    (k e : TypeId) (K : Maps.Keyed P k) (ht : P.underlying t = some (.map k e)) (R : Value → Option (DataW H × List MemPlace)) (b n : Nat) (D : DataW H)
    (hm : a.eval m = .map (some b)) (hown : w.ownsMap P k R b n D) (hn : n < maxLen) (key val : Value) (kl : Lit) (hx : a.eval x = key) (hv : a.eval v = val) (hkey : keyOf P k key = some kl)
    (d : DataW H) (ps : List MemPlace) (hval : R val = some (d, ps))
    (hK : ∀ w', w'.ownsMap P k R b (n + 1) (D.put kl d) → w.grownBy w' (some b) → wpList P ops Q rest (a.put o.dst undef) w') :
    wpList P ops Q (o :: rest) a w := by
  refine wpList_plain hg fun K' hK' => ?_
  obtain ⟨w', hrun, r1, r2⟩ := hown.update K ht hn hkey hval
  unfold Oper.wp
  simp [execOp, hop, hm, hx, hv, hrun, Result.andThen]
  exact hK' _ _ (hK w' r1 r2)
theorem has_put {D : Dat} (hD : Maps.IsMap D) (k z : Int) (d : Dat) : Maps.has (D.put (.int .i64 k) d) (.int .i64 z) = (decide (z = k) || Maps.has D (.int .i64 z)) := by
  by_cases h : z = k
  · subst h; rw [Maps.has_put_same hD (show WideAt.IsKeyLit (.int .i64 z) from trivial)]; simp
  · rw [Maps.has_put_other (by simpa using h)]; simp [h]
def sizeTo (n : Nat) (D : Dat) : Nat := ((List.range n).filter fun q => Maps.has D (.int .i64 ((q : Nat) : Int))).length
theorem filter_more (p p' : Nat → Bool) (t : Nat) (hne : ∀ q, q ≠ t → p' q = p q) (h0 : p t = false) (h1 : p' t = true) : ∀ n, ((List.range n).filter p').length = ((List.range n).filter p).length + (if t < n then 1 else 0) := by
  intro n
  induction n with
  | zero => rfl
  | succ n ih =>
    rw [List.range_succ, List.filter_append, List.filter_append, List.length_append, List.length_append, ih]
    by_cases he : n = t
    · subst he
      rw [if_neg (by omega), if_pos (by omega)]
      simp [h0, h1]
    · have e := hne n he
      have e2 : (List.filter p' [n]).length = (List.filter p [n]).length := by simp only [List.filter_cons, List.filter_nil, e]
      rw [e2]
      by_cases hl : t < n
      · rw [if_pos hl, if_pos (by omega)]; omega
      · rw [if_neg hl, if_neg (by omega)]; omega
theorem size_put_to {D : Dat} (hT : Maps.Tidy D) (n t : Nat) (ht : t < n) (d : Dat) (h : Maps.size D = sizeTo n D) : Maps.size (D.put (.int .i64 (t : Int)) d) = sizeTo n (D.put (.int .i64 (t : Int)) d) := by
  rw [Maps.size_put hT, h]
  unfold sizeTo
  by_cases hh : Maps.has D (.int .i64 (t : Int)) = true
  · rw [if_pos hh]
    congr 2
    funext q
    rw [has_put hT.isMap]
    by_cases hq : (q : Int) = (t : Int)
    · rw [hq, hh]; simp
    · simp [hq]
  · rw [if_neg hh]
    have := filter_more (fun q => Maps.has D (.int .i64 ((q : Nat) : Int))) (fun q => Maps.has (D.put (.int .i64 (t : Int)) d) (.int .i64 ((q : Nat) : Int))) t
      (fun q hq => by rw [has_put hT.isMap]; have : ¬ (q : Int) = (t : Int) := by omega
                      simp [this]) (by simpa using hh) (by rw [has_put hT.isMap]; simp) n
    rw [this, if_pos ht]
def BegTo (f : Fn) (k : Nat) (z : Int) : Prop := z = 0 ∨ ∃ pc t : Nat, pc < k ∧ Way f 63 pc ∧ 15 ≤ (insD f pc).op ∧ t ∈ behind (insD f pc) pc ∧ z = (t : Int)
theorem begTo_all {P : List Fn} {f : Fn} (ok : FlowOk P f) (z : Int) : BegTo f f.code.length z ↔ ∃ q : Nat, q < f.code.length ∧ Beg f q ∧ z = (q : Int) := by
  constructor
  · rintro (rfl | ⟨pc, t, h1, h2, h3, h4, rfl⟩)
    · exact ⟨0, by have := ok.ok.len1; omega, Or.inl rfl, rfl⟩
    · exact ⟨t, (ok.on h1 h2 h4).2, Or.inr ⟨pc, h1, h2, h3, h4⟩, rfl⟩
  · rintro ⟨q, _, rfl | ⟨pc, h1, h2, h3, h4⟩, rfl⟩
    · exact Or.inl rfl
    · exact Or.inr ⟨pc, q, h1, h2, h3, h4, rfl⟩
theorem begTo_skip {f : Fn} {k : Nat} (h : ¬ (Way f 63 k ∧ 15 ≤ (insD f k).op)) (z : Int) : BegTo f (k + 1) z ↔ BegTo f k z := by
  constructor
  · rintro (rfl | ⟨pc, t, h1, h2, h3, h4, rfl⟩)
    · exact Or.inl rfl
    · have : pc ≠ k := fun e => h (by rw [← e]; exact ⟨h2, h3⟩)
      exact Or.inr ⟨pc, t, by omega, h2, h3, h4, rfl⟩
  · rintro (rfl | ⟨pc, t, h1, h2, h3, h4, rfl⟩)
    · exact Or.inl rfl
    · exact Or.inr ⟨pc, t, by omega, h2, h3, h4, rfl⟩
theorem begTo_step {f : Fn} {k : Nat} (h : Way f 63 k) (h2 : 15 ≤ (insD f k).op) (z : Int) : BegTo f (k + 1) z ↔ (BegTo f k z ∨ ∃ t ∈ behind (insD f k) k, z = ((t : Nat) : Int)) := by
  constructor
  · rintro (rfl | ⟨pc, t, h1, h2, h3, h4, rfl⟩)
    · exact Or.inl (Or.inl rfl)
    · by_cases e : pc = k
      · subst e; exact Or.inr ⟨t, h4, rfl⟩
      · exact Or.inl (Or.inr ⟨pc, t, by omega, h2, h3, h4, rfl⟩)
  · rintro ((rfl | ⟨pc, t, h1, h2, h3, h4, rfl⟩) | ⟨t, ht, rfl⟩)
    · exact Or.inl rfl
    · exact Or.inr ⟨pc, t, by omega, h2, h3, h4, rfl⟩
    · exact Or.inr ⟨k, t, by omega, h, h2, ht, rfl⟩
structure MapOk (S : List Nat) (D : Dat) : Prop where
  has : ∀ z : Int, Maps.has D (.int .i64 z) = true ↔ ∃ q ∈ S, z = ((q : Nat) : Int)
  key : ∀ q ∈ S, ∀ zd : Dat, D.atKey (.int .i64 ((q : Nat) : Int)) zd = .lit (.int .i64 ((rank S q : Nat) : Int))
  size : Maps.size D = S.length
theorem starts_of {P : List Fn} {f : Fn} (ok : FlowOk P f) {D : Dat} (h : ∀ z, Maps.has D (.int .i64 z) = true ↔ BegTo f f.code.length z) :
    Starts f ((List.range f.code.length).filter fun q => Maps.has D (.int .i64 ((q : Nat) : Int))) := by
  refine ⟨List.pairwise_lt_range.filter _, fun q => ?_⟩
  rw [List.mem_filter, List.mem_range, h, begTo_all ok]
  constructor
  · rintro ⟨_, q', _, h2, h3⟩
    obtain rfl : q = q' := by omega
    exact h2
  · intro hb
    exact ⟨(beg_reach ok hb).2, q, (beg_reach ok hb).2, hb, rfl⟩
theorem endsBlock_any (op : Int) (w : World) :
    Calls Tryd.prog 92 #[.int .i64 op] w fun e w' => e = .returned (.bool (decide (15 ≤ op ∧ op ≤ 19))) ∧ w' = w := by
  by_cases h15 : op = 15
  · subst h15; go_enter Tryd.func92, Tryd.ntmps92; go_wp2; go_ret; exact ⟨rfl, rfl⟩
  by_cases h16 : op = 16
  · subst h16; go_enter Tryd.func92, Tryd.ntmps92; go_wp2; go_ret; exact ⟨rfl, rfl⟩
  by_cases h17 : op = 17
  · subst h17; go_enter Tryd.func92, Tryd.ntmps92; go_wp2; go_ret; exact ⟨rfl, rfl⟩
  by_cases h18 : op = 18
  · subst h18; go_enter Tryd.func92, Tryd.ntmps92; go_wp2; go_ret; exact ⟨rfl, rfl⟩
  by_cases h19 : op = 19
  · subst h19; go_enter Tryd.func92, Tryd.ntmps92; go_wp2; go_ret; exact ⟨rfl, rfl⟩
  have e : decide (15 ≤ op ∧ op ≤ 19) = false := by simp; omega
  have e1 : (op == 15) = false := by simpa using h15
  have e2 : (op == 16) = false := by simpa using h16
  have e3 : (op == 17) = false := by simpa using h17
  have e4 : (op == 18) = false := by simpa using h18
  have e5 : (op == 19) = false := by simpa using h19
  rw [e]
  clear e h15 h16 h17 h18 h19
  go_enter Tryd.func92, Tryd.ntmps92
  go_wp2
  go_ret
  exact ⟨rfl, rfl⟩
set_option maxRecDepth 100000 in
set_option maxHeartbeats 4000000 in
theorem flowBegun_any (P : List Fn) (f : Fn) (ok : FlowOk P f) (cv sv : Value) (A : List Int) (w : World) (hcv : CodeVal w cv f.code) (hsv : IntsVal w sv A) (hA : A.length = f.code.length) (hAw : ∀ q, q < f.code.length → (0 ≤ A.getD q 0 ↔ Way f 63 q)) :
    Calls Tryd.prog 72 #[cv, sv] w fun e w' => ∃ m D S, e = .returned (.map (some w.heap.size)) ∧ Starts f S ∧ MapOk S D ∧ MapAt w' w.heap.size m D ∧ m ≤ 1000 ∧ Below w.heap.size w w' := by
  have hl1 := ok.ok.len1
  have hl2 := ok.ok.len2
  have OK : Hid (FlowOk P f) := ok
  obtain ⟨ao2, b2, off2, n, cap2, rfl, ⟨hlen2, haddr2, hat2⟩, hcap2, hmx2⟩ := hcv
  obtain rfl := haddr2 (by omega)
  obtain ⟨ao3, b3, off3, n3, cap3, rfl, hl3, ha3, hc3, hcp3, hm3⟩ := ints_get hsv
  have HN : Hid (f.code.length = n) := hlen2
  obtain rfl : n = n3 := by omega
  obtain rfl := ha3 (by omega)
  have HAT : Hid (∀ W, Below w.heap.size w W → ∀ q, q < n → insAt W b2 (off2 + q * 5) (insD f q) ∧ W.cell? ⟨b3, off3 + q, none⟩ = some (.int .i64 (A.getD q 0))) := fun W hW q hq => by
    have hqf : q < f.code.length := by rw [hlen2]; exact hq
    rw [insD_eq hqf]
    exact ⟨(hat2 q hqf).keeps (keeps_below hW), keeps_below hW _ _ (hc3 q hq)⟩
  have HAW : Hid (∀ q, q < n → (0 ≤ A.getD q 0 ↔ Way f 63 q)) := fun q hq => hAw q (by rw [hlen2]; exact hq)
  have hcc := hcap2.1
  rw [hlen2] at hl1 hl2
  unfold maxLen at hmx2
  have hmm := @run_makeMap Tryd.prog
  have HM0 : Hid (MapAt (w.alloc (.map #[] 0)) w.heap.size 0 (.map [])) := World.ownsMap_made _ _ _ _
  have HB0 : Hid (Below w.heap.size w (w.alloc (.map #[] 0))) := (Below.refl _ _).alloc (Nat.le_refl _) _
  clear hsv hat2 haddr2 ha3 hc3 hA hAw hlen2 hl3 hcap2
  have wf0 : (Lit.int .i64 0).wf = true := by decide
  go_enter Tryd.func72, Tryd.ntmps72
  go_upto_region 3 with (show wpList _ _ _ (Oper.mk none (Op.insert _ _ _ _) _ _ _ _ :: _) _ _; refine wpList_insert_own _ rfl _ _ _ 82 rfl 3 3 mlaw Tryd.underlying82 (plainElem Tryd.prog 3) w.heap.size 0 (.map [] : Dat) rfl HM0.out (by unfold maxLen; omega) _ _ _ rfl rfl (Maps.keyOf_int_mk Tryd.underlying3 wf0) _ [] (plainElem_int Tryd.underlying3 wf0) ?_; intro w1 hown1 hg1)
  have HT1 : Hid (Maps.Tidy ((.map [] : Dat).put (.int .i64 0) (.lit (.int .i64 0)))) := hown1.tidy mlaw
  have HH1 : Hid (∀ z, Maps.has ((.map [] : Dat).put (.int .i64 0) (.lit (.int .i64 0))) (.int .i64 z) = true ↔ BegTo f 0 z) := fun z => by
    rw [has_put Maps.isMap_empty]
    constructor
    · intro h
      have hz : z = 0 := by simpa [Maps.has] using h
      exact Or.inl hz
    · rintro (rfl | ⟨pc, t, h1, _⟩)
      · simp
      · omega
  have HS1 : Hid (Maps.size ((.map [] : Dat).put (.int .i64 0) (.lit (.int .i64 0))) = sizeTo n ((.map [] : Dat).put (.int .i64 0) (.lit (.int .i64 0)))) := by
    refine size_put_to Maps.tidy_empty n 0 (by omega) _ ?_
    unfold sizeTo
    rw [List.filter_eq_nil_iff.2 (by intro q _; simp [Maps.has])]
    rfl
  have HB1 : Hid (Below w.heap.size w w1) := HB0.out.grown hg1 HB0.out.size (fun j hj => by cases hj; exact Nat.le_refl _)
  have HO1 : Hid (MapAt w1 w.heap.size 1 ((.map [] : Dat).put (.int .i64 0) (.lit (.int .i64 0)))) := hown1
  generalize (.map [] : Dat).put (.int .i64 0) (.lit (.int .i64 0)) = D1 at *
  have hz1 : w.heap.size < w1.heap.size := HO1.out.lt
  clear hown1 hg1 hmm HM0 HB0
  go_loopw [18] (fun i wr => ∃ (q m : Nat) (D : Dat), q ≤ n ∧ i = .int .i64 q ∧ m ≤ 1 + 2 * q ∧ (∀ z, Maps.has D (.int .i64 z) = true ↔ BegTo f q z) ∧ Maps.size D = sizeTo n D ∧ MapAt wr w.heap.size m D ∧ Below w.heap.size w wr) (fun i _ => n - (intOf i).toNat)
  case atStart => exact ⟨0, 1, D1, Nat.zero_le _, rfl, by omega, HH1.out, HS1.out, HO1.out, HB1.out⟩
  case round =>
    obtain ⟨q, m, D, hq, rfl, hm, hhas, hsz, hown, hbr⟩ := hrel
    rename World => wo
    have HHA : Hid (∀ z, Maps.has D (.int .i64 z) = true ↔ BegTo f q z) := hhas
    have HSZ : Hid (Maps.size D = sizeTo n D) := hsz
    have HOW : Hid (MapAt wo w.heap.size m D) := hown
    have HBR : Hid (Below w.heap.size w wo) := hbr
    have hzo : w.heap.size < wo.heap.size := hown.lt
    clear hhas hsz hown hbr
    by_cases hlt : q < n
    · have hqf : q < f.code.length := by rw [HN.out]; exact hlt
      obtain ⟨⟨d0, d1, d2, d3, d4⟩, ds⟩ := HAT.out wo HBR.out q hlt
      have ds' := fun o => cell_alloc ds o
      have hio := (OK.out.insD hqf).1
      have himm := (OK.out.insD hqf).2
      have HQI : Hid (0 ≤ A.getD q 0 ↔ Way f 63 q) := HAW.out q hlt
      have hqI : (q : Int) < n := by omega
      have HSK : Hid (¬ (Way f 63 q ∧ 15 ≤ (insD f q).op) → ∀ z, Maps.has D (.int .i64 z) = true ↔ BegTo f (q + 1) z) := fun h z => (HHA.out z).trans (begTo_skip h z).symm
      have HST : Hid (Way f 63 q → 15 ≤ (insD f q).op → ∀ z, BegTo f (q + 1) z ↔ (BegTo f q z ∨ ∃ t ∈ behind (insD f q) q, z = ((t : Nat) : Int))) := fun h h2 z => begTo_step h h2 z
      have HBE : Hid (Way f 63 q → ∀ t ∈ behind (insD f q) q, t < n) := fun h t ht => by rw [← HN.out]; exact (OK.out.on hqf h ht).2
      have hon := fun W => onward_any (insD f q) q W himm (by omega)
      have HOP : Hid (1 ≤ (insD f q).op ∧ (insD f q).op ≤ 19) := ⟨hio.op1, hio.op2⟩
      clear hio himm ds hqf
      have hbi : ∃ bI, bI = behindI (insD f q) q := ⟨_, rfl⟩
      obtain ⟨bI, hbI⟩ := hbi
      have HBI : Hid (bI = (behind (insD f q) q).map fun (n : Nat) => (n : Int)) := hbI
      rw [← hbI] at hon
      clear hbI
      generalize A.getD q 0 = z0 at ds' HQI
      generalize insD f q = xx at d0 d1 d2 d3 d4 HSK HST HBE hon HOP HBI
      obtain ⟨op, dst, xa, xb, imm⟩ := xx
      unfold Ins.val at hon
      dsimp only at d0 d1 d2 d3 d4 HSK HST HOP hon
      by_cases hz0 : 0 ≤ z0
      · by_cases hop : 15 ≤ op
        · have hdo : decide (15 ≤ op ∧ op ≤ 19) = true := by have := HOP.out; simp; omega
          have hEB := fun W => endsBlock_any op W
          rw [hdo] at hEB
          clear hdo
          go_wp2_with (first
            | (go_at_call 92; refine (hEB _).mono ?_; rintro e w' ⟨rfl, hw'⟩; replace hw' := hw'.symm; subst hw')
            | (go_at_call 60; refine (hon _).mono ?_; rintro e w2 ⟨v1, rfl, hI1, hfr1, hb1⟩; obtain ⟨ao1, b1, off1, n1, cap1, rfl, hl1', ha1, hc1, hcp1, hmx1⟩ := hI1))
          have hz2 : w.heap.size < w2.heap.size := by have := hb1.size; simp at this; omega
          have HB2 : Hid (Below w.heap.size w w2) := (HBR.out.alloc (by omega) _).trans (hb1.mono (by simp; omega))
          have HO2 : Hid (MapAt w2 w.heap.size m D) := (HOW.out.alloc _).kept (gb_below none hb1) (by simp)
          have HL1 : Hid (bI.length = n1) := hl1'
          have HA1 : Hid (0 < n1 → ao1 = some ⟨b1, off1, none⟩) := ha1
          have HC1 : Hid (∀ j (h : j < bI.length), w2.cell? ⟨b1, off1 + j, none⟩ = some (.int .i64 bI[j])) := hc1
          have HB1F : Hid (0 < n1 → b1 ≠ w.heap.size) := fun h0 => by
            have e0 := ha1 h0
            subst e0
            have := hfr1 b1 off1 n1 cap1 rfl
            simp at this
            omega
          have hcp := hcp1.1
          have HWY : Hid (Way f 63 q) := HQI.out.1 hz0
          have HN2 : Hid (n1 ≤ 2) := by
            show _ ≤ _
            rw [← hl1', HBI.out, List.length_map]
            unfold behind
            repeat' split
            all_goals simp
          unfold maxLen at hmx1
          clear hl1' ha1 hc1 hcp1 hb1 hon hEB d0 d1 d2 d3 d4 ds' hfr1
          go_loopw [37] (fun i wi => ∃ (e m' : Nat) (D' : Dat), e ≤ n1 ∧ i = .int .i64 e ∧ m' ≤ m + e ∧ (∀ z, Maps.has D' (.int .i64 z) = true ↔ (BegTo f q z ∨ ∃ t ∈ (behind ⟨op, dst, xa, xb, imm⟩ q).take e, z = ((t : Nat) : Int))) ∧ Maps.size D' = sizeTo n D' ∧ MapAt wi w.heap.size m' D' ∧ w2.grownBy wi (some w.heap.size)) (fun i _ => n1 - (intOf i).toNat)
          case atStart => exact ⟨0, m, D, Nat.zero_le _, rfl, by omega, fun z => by rw [HHA.out z]; simp, HSZ.out, HO2.out, gb_refl _ _⟩
          case round =>
            obtain ⟨e, m', D', he, rfl, hm', hhas', hsz', hown', hgr⟩ := hrel
            by_cases hle : e < n1
            · obtain rfl := HA1.out (by omega)
              have heb : e < bI.length := by rw [HL1.out]; exact hle
              have heb2 : e < (behind ⟨op, dst, xa, xb, imm⟩ q).length := by have := heb; rw [HBI.out] at this; simpa using this
              have cq := gb_cell hgr (HC1.out e heb) (HB1F.out (by omega))
              have hto : bI[e] = (((behind ⟨op, dst, xa, xb, imm⟩ q)[e] : Nat) : Int) := by simp [HBI.out]
              rw [hto] at cq
              have htn := HBE.out HWY.out _ (List.getElem_mem heb2)
              have HTK : Hid ((behind ⟨op, dst, xa, xb, imm⟩ q).take (e + 1) = (behind ⟨op, dst, xa, xb, imm⟩ q).take e ++ [(behind ⟨op, dst, xa, xb, imm⟩ q)[e]]) := by
                show _ = _
                rw [List.take_add_one, List.getElem?_eq_getElem heb2]; rfl
              generalize (behind ⟨op, dst, xa, xb, imm⟩ q)[e] = tt at cq htn HTK
              have HHN : Hid (∀ z, Maps.has (D'.put (.int .i64 (tt : Int)) (.lit (.int .i64 0))) (.int .i64 z) = true ↔ (BegTo f q z ∨ ∃ t ∈ (behind ⟨op, dst, xa, xb, imm⟩ q).take (e + 1), z = ((t : Nat) : Int))) := fun z => by
                rw [has_put hown'.isMap, Bool.or_eq_true, hhas' z, HTK.out, decide_eq_true_eq]
                constructor
                · rintro (h | h | ⟨t, ht, h⟩)
                  · exact Or.inr ⟨tt, by simp, h⟩
                  · exact Or.inl h
                  · exact Or.inr ⟨t, List.mem_append_left _ ht, h⟩
                · rintro (h | ⟨t, ht, h⟩)
                  · exact Or.inr (Or.inl h)
                  · rcases List.mem_append.1 ht with ht | ht
                    · exact Or.inr (Or.inr ⟨t, ht, h⟩)
                    · rw [List.mem_singleton.1 ht] at h; exact Or.inl h
              have HSN : Hid (Maps.size (D'.put (.int .i64 (tt : Int)) (.lit (.int .i64 0))) = sizeTo n (D'.put (.int .i64 (tt : Int)) (.lit (.int .i64 0)))) := size_put_to (hown'.tidy mlaw) n tt htn _ hsz'
              have wft : (Lit.int .i64 (tt : Int)).wf = true := WalkArith.wf_i64 (by omega)
              have heI : (e : Int) < n1 := by omega
              have hm1 := HN2.out
              have HGR : Hid (w2.grownBy wr (some w.heap.size)) := hgr
              clear hhas' hsz' hto heb heb2 hgr
              go_wp2_with (at_mapUpdate; refine wpList_mapUpdate_own _ rfl _ _ _ 82 rfl 3 3 mlaw Tryd.underlying82 (plainElem Tryd.prog 3) w.heap.size m' D' rfl hown' (by unfold maxLen; omega) _ _ _ rfl rfl (Maps.keyOf_int_mk Tryd.underlying3 wft) _ [] (plainElem_int Tryd.underlying3 wf0) ?_; intro w3 hown3 hg3)
              go_roundw
              case rel => exact ⟨e + 1, m' + 1, _, by omega, by go_num, by omega, HHN.out, HSN.out, hown3, gb_trans HGR.out hg3⟩
              case measure => simp [intOf]; omega
            · obtain rfl : e = n1 := by omega
              have hfin : (behind ⟨op, dst, xa, xb, imm⟩ q).take e = behind ⟨op, dst, xa, xb, imm⟩ q := List.take_of_length_le (by have := HL1.out; rw [HBI.out] at this; simp at this; omega)
              have HHN : Hid (∀ z, Maps.has D' (.int .i64 z) = true ↔ BegTo f (q + 1) z) := fun z => by rw [hhas' z, hfin, HST.out HWY.out hop z]
              have HSN : Hid (Maps.size D' = sizeTo n D') := hsz'
              have HON : Hid (MapAt wr w.heap.size m' D') := hown'
              have HBN : Hid (Below w.heap.size w wr) := below_gb HB2.out hgr (Nat.le_refl _) (by omega)
              have hn2 := HN2.out
              clear hhas' hsz' hown' hgr hfin
              go_wp2
              go_roundw
              case rel => exact ⟨q + 1, m', D', by omega, by go_num, by omega, HHN.out, HSN.out, HON.out, HBN.out⟩
              case measure => simp [intOf]; omega
        · have hdo : decide (15 ≤ op ∧ op ≤ 19) = false := by simp; omega
          have hEB := fun W => endsBlock_any op W
          rw [hdo] at hEB
          have HHN := HSK.out (fun h => hop h.2)
          have HHH : Hid (∀ z, Maps.has D (.int .i64 z) = true ↔ BegTo f (q + 1) z) := HHN
          clear hdo HHN
          go_wp2_with (go_at_call 92; refine (hEB _).mono ?_; rintro e w' ⟨rfl, hw'⟩; replace hw' := hw'.symm; subst hw')
          go_roundw
          case rel => exact ⟨q + 1, m, D, by omega, by go_num, by omega, HHH.out, HSZ.out, HOW.out.alloc _, HBR.out.alloc (by omega) _⟩
          case measure => simp [intOf]; omega
      · have hz00 : decide (0 ≤ z0) = false := by simpa using hz0
        have HHN := HSK.out (fun h => hz0 (HQI.out.2 h.1))
        have HHH : Hid (∀ z, Maps.has D (.int .i64 z) = true ↔ BegTo f (q + 1) z) := HHN
        clear HHN hon
        go_wp2
        go_roundw
        case rel => exact ⟨q + 1, m, D, by omega, by go_num, by omega, HHH.out, HSZ.out, HOW.out.alloc _, HBR.out.alloc (by omega) _⟩
        case measure => simp [intOf]; omega
    · obtain rfl : q = n := by omega
      have HST : Hid (Starts f ((List.range q).filter fun j => Maps.has D (.int .i64 ((j : Nat) : Int)))) := by
        have h := starts_of OK.out (D := D) (fun z => by rw [HN.out]; exact HHA.out z)
        rw [HN.out] at h
        exact h
      have HHS : Hid (∀ z : Int, Maps.has D (.int .i64 z) = true ↔ ∃ j ∈ (List.range q).filter (fun j => Maps.has D (.int .i64 ((j : Nat) : Int))), z = ((j : Nat) : Int)) := fun z => by
        constructor
        · intro h
          have hb := (HHA.out z).1 h
          rw [← HN.out, begTo_all OK.out] at hb
          obtain ⟨j, hj, _, rfl⟩ := hb
          exact ⟨j, List.mem_filter.2 ⟨List.mem_range.2 (by rw [HN.out] at hj; exact hj), h⟩, rfl⟩
        · rintro ⟨j, hj, rfl⟩
          exact (List.mem_filter.1 hj).2
      have HSS : Hid (Maps.size D = ((List.range q).filter fun j => Maps.has D (.int .i64 ((j : Nat) : Int))).length) := HSZ.out
      generalize (List.range q).filter (fun j => Maps.has D (.int .i64 ((j : Nat) : Int))) = S at HST HHS HSS
      have HLT : Hid (∀ x ∈ S, x < q) := fun x hx => by rw [← HN.out]; exact (HST.out.reach OK.out hx).2
      have HRK : Hid (∀ j, rank S j ≤ 1000) := fun j => by
        have h1 := rank_le S j
        have h2 : S.length ≤ q := by rw [← HSS.out, HSZ.out]; unfold sizeTo; exact Nat.le_trans (List.length_filter_le _ _) (by simp)
        omega
      clear HSZ
      go_wp2
      go_loopw [10, 47] (fun c i wr => ∃ (j m' : Nat) (D' : Dat), j ≤ q ∧ i = .int .i64 j ∧ c = .int .i64 ((rank S j : Nat) : Int) ∧ m' ≤ 1 + 2 * q + j ∧ (∀ z : Int, Maps.has D' (.int .i64 z) = true ↔ ∃ x ∈ S, z = ((x : Nat) : Int)) ∧ (∀ x ∈ S, x < j → ∀ zd : Dat, D'.atKey (.int .i64 ((x : Nat) : Int)) zd = .lit (.int .i64 ((rank S x : Nat) : Int))) ∧ Maps.size D' = S.length ∧ MapAt wr w.heap.size m' D' ∧ Below w.heap.size w wr) (fun _ i _ => q - (intOf i).toNat)
      case atStart => exact ⟨0, m, D, Nat.zero_le _, rfl, by rw [rank_zero]; rfl, by omega, HHS.out, fun x _ h => by omega, HSS.out, HOW.out, HBR.out⟩
      case round =>
        obtain ⟨j, m', D', hj, rfl, rfl, hm', hhas, hat, hsz, hown, hbr⟩ := hrel
        have HHA' : Hid (∀ z : Int, Maps.has D' (.int .i64 z) = true ↔ ∃ x ∈ S, z = ((x : Nat) : Int)) := hhas
        have HAT' : Hid (∀ x ∈ S, x < j → ∀ zd : Dat, D'.atKey (.int .i64 ((x : Nat) : Int)) zd = .lit (.int .i64 ((rank S x : Nat) : Int))) := hat
        have HSZ' : Hid (Maps.size D' = S.length) := hsz
        have HBR' : Hid (Below w.heap.size w wr) := hbr
        have hrj := HRK.out j
        clear hhas hat hsz hbr
        by_cases hlt : j < q
        · have hjI : (j : Int) < q := by omega
          have wfj : (Lit.int .i64 (j : Int)).wf = true := WalkArith.wf_i64 (by omega)
          have HRN : Hid (rank S (j + 1) = rank S j + (if j ∈ S then 1 else 0)) := rank_next HST.out.rises j
          by_cases hjS : j ∈ S
          · have hb : Maps.has D' (.int .i64 (j : Int)) = true := (HHA'.out j).2 ⟨j, hjS, rfl⟩
            have wfr : (Lit.int .i64 ((rank S j : Nat) : Int)).wf = true := WalkArith.wf_i64 (by omega)
            have HHN : Hid (∀ z : Int, Maps.has (D'.put (.int .i64 (j : Int)) (.lit (.int .i64 ((rank S j : Nat) : Int)))) (.int .i64 z) = true ↔ ∃ x ∈ S, z = ((x : Nat) : Int)) := fun z => by
              rw [has_put hown.isMap, Bool.or_eq_true, HHA'.out z, decide_eq_true_eq]
              constructor
              · rintro (h | h)
                · exact ⟨j, hjS, h⟩
                · exact h
              · exact fun h => Or.inr h
            have HAN : Hid (∀ x ∈ S, x < j + 1 → ∀ zd : Dat, (D'.put (.int .i64 (j : Int)) (.lit (.int .i64 ((rank S j : Nat) : Int)))).atKey (.int .i64 ((x : Nat) : Int)) zd = .lit (.int .i64 ((rank S x : Nat) : Int))) := fun x hx hxj zd => by
              by_cases he : x = j
              · subst he
                exact Maps.atKey_put_same hown.isMap (show WideAt.IsKeyLit (.int .i64 (x : Int)) from trivial) _ _
              · rw [Maps.atKey_put_other (by simp; omega)]
                exact HAT'.out x hx (by omega) zd
            have HSN : Hid (Maps.size (D'.put (.int .i64 (j : Int)) (.lit (.int .i64 ((rank S j : Nat) : Int)))) = S.length) := by
              show _ = _
              rw [Maps.size_put (hown.tidy mlaw), if_pos hb]; exact HSZ'.out
            have HR2 : Hid (rank S (j + 1) = rank S j + 1) := by show _ = _; rw [HRN.out, if_pos hjS]
            clear HRN hjS
            generalize rank S j = rj at *
            go_wp2_with (first
              | (at_lookup; refine wpList_lookup_own_ok_int _ rfl _ _ 82 rfl 3 3 .i64 mlaw Tryd.underlying82 Tryd.underlying3 (zero_int _) w.heap.size m' D' rfl hown _ _ rfl (Maps.keyOf_int_mk Tryd.underlying3 wfj) ?_; intro c hatc hwc)
              | (at_mapUpdate; refine wpList_mapUpdate_own _ rfl _ _ _ 82 rfl 3 3 mlaw Tryd.underlying82 (plainElem Tryd.prog 3) w.heap.size m' D' rfl hown (by unfold maxLen; omega) _ _ _ rfl rfl (Maps.keyOf_int_mk Tryd.underlying3 wfj) _ [] (plainElem_int Tryd.underlying3 wfr) ?_; intro w3 hown3 hg3))
            go_roundw
            case rel => exact ⟨j + 1, m' + 1, _, by omega, by go_num, by rw [HR2.out]; go_num, by omega, HHN.out, HAN.out, HSN.out, hown3, HBR'.out.grown hg3 HBR'.out.size (fun jj hjj => by cases hjj; exact Nat.le_refl _)⟩
            case measure => simp [intOf]; omega
          · have hb : Maps.has D' (.int .i64 (j : Int)) = false := by
              cases hh : Maps.has D' (.int .i64 (j : Int))
              · rfl
              · obtain ⟨x, hx, e⟩ := (HHA'.out j).1 hh
                obtain rfl : j = x := by omega
                exact absurd hx hjS
            have HR2 : Hid (rank S (j + 1) = rank S j) := by show _ = _; rw [HRN.out, if_neg hjS]; omega
            have HAN : Hid (∀ x ∈ S, x < j + 1 → ∀ zd : Dat, D'.atKey (.int .i64 ((x : Nat) : Int)) zd = .lit (.int .i64 ((rank S x : Nat) : Int))) := fun x hx hxj zd => HAT'.out x hx (by
              have : x ≠ j := fun e => hjS (by rw [← e]; exact hx)
              omega) zd
            clear HRN hjS
            go_wp2_with (at_lookup; refine wpList_lookup_own_ok_int _ rfl _ _ 82 rfl 3 3 .i64 mlaw Tryd.underlying82 Tryd.underlying3 (zero_int _) w.heap.size m' D' rfl hown _ _ rfl (Maps.keyOf_int_mk Tryd.underlying3 wfj) ?_; intro c hatc hwc)
            go_roundw
            case rel => exact ⟨j + 1, m', D', by omega, by go_num, by rw [HR2.out], by omega, HHA'.out, HAN.out, HSZ'.out, hown, HBR'.out⟩
            case measure => simp [intOf]; omega
        · obtain rfl : j = q := by omega
          go_wp2
          go_ret
          exact ⟨m', D', S, rfl, HST.out, ⟨HHA'.out, fun x hx zd => HAT'.out x hx (HLT.out x hx) zd, HSZ'.out⟩, hown, by omega, HBR'.out⟩
set_option maxRecDepth 100000 in
set_option maxHeartbeats 2000000 in
theorem flowEnd_any (P : List Fn) (f : Fn) (ok : FlowOk P f) (S : List Nat) (hS : Starts f S) (D : Dat) (hD : MapOk S D) (B m fr : Nat) (hfr : fr ∈ S) (cv : Value) (w : World) (hcv : CodeVal w cv f.code) (hown : MapAt w B m D) :
    Calls Tryd.prog 73 #[cv, .int .i64 fr, .map (some B)] w fun e w' => ∃ t, e = .returned (.int .i64 ((t : Nat) : Int)) ∧ EndAt f S fr t ∧ w' = w := by
  have hl1 := ok.ok.len1
  have hl2 := ok.ok.len2
  have OK : Hid (FlowOk P f) := ok
  have HS : Hid (Starts f S) := hS
  have HD : Hid (MapOk S D) := hD
  obtain ⟨hwf, hfl⟩ := hS.reach ok hfr
  have HWF : Hid (Way f 63 fr) := hwf
  obtain ⟨ao2, b2, off2, n, cap2, rfl, ⟨hlen2, haddr2, hat2⟩, hcap2, hmx2⟩ := hcv
  obtain rfl := haddr2 (by omega)
  have HN : Hid (f.code.length = n) := hlen2
  have HAT : Hid (∀ q, q < n → w.cell? ⟨b2, off2 + q * 5, none⟩ = some (.int .i64 (insD f q).op)) := fun q hq => by
    have hqf : q < f.code.length := by rw [hlen2]; exact hq
    rw [insD_eq hqf]
    exact (hat2 q hqf).1
  have hcc := hcap2.1
  rw [hlen2] at hl1 hl2 hfl
  unfold maxLen at hmx2
  clear hat2 haddr2 hlen2 hcap2 hS hD hwf
  go_enter Tryd.func73, Tryd.ntmps73
  go_wp2
  go_loopw [7] (fun i wr => ∃ t : Nat, i = .int .i64 ((t : Nat) : Int) ∧ fr < t ∧ t ≤ n ∧ Way f 63 (t - 1) ∧ (∀ j, fr < j → j < t → (insD f (j - 1)).op < 15 ∧ ¬ j ∈ S) ∧ wr = w) (fun i _ => n - (intOf i).toNat)
  case atStart => exact ⟨fr + 1, by go_num, by omega, by omega, by rw [Nat.add_sub_cancel]; exact HWF.out, fun j h1 h2 => by omega, rfl⟩
  case round =>
    obtain ⟨t, rfl, ht1, ht2, hwy, hno, hwr⟩ := hrel
    subst hwr
    obtain ⟨u, rfl⟩ : ∃ u, t = u + 1 := ⟨t - 1, by omega⟩
    rw [Nat.add_sub_cancel] at hwy
    have hun : u < n := by omega
    have huf : u < f.code.length := by rw [HN.out]; exact hun
    have c0 := HAT.out u hun
    have HOP : Hid (1 ≤ (insD f u).op ∧ (insD f u).op ≤ 19) := ⟨(OK.out.insD huf).1.op1, (OK.out.insD huf).1.op2⟩
    have hw1 : IntKind.i64.wrap (((u + 1 : Nat) : Int) - 1) = (u : Int) := by rw [show ((u + 1 : Nat) : Int) - 1 = u by omega]; exact wrap_signed _ (by omega) (by omega)
    have huI : (u : Int) < n := by omega
    have HNO : Hid (∀ j, fr < j → j < u + 1 → (insD f (j - 1)).op < 15 ∧ ¬ j ∈ S) := hno
    have HWY : Hid (Way f 63 u) := hwy
    have HGO : Hid ((insD f u).op < 15 → Way f 63 (u + 1) ∧ u + 1 < n) := fun h => by
      have := OK.out.on huf hwy (t := u + 1) (by rw [behind_on _ _ h]; simp)
      rw [HN.out] at this
      exact this
    have HFI : Hid (15 ≤ (insD f u).op ∨ u + 1 ∈ S → EndAt f S fr (u + 1)) := fun h => ⟨ht1, by rw [HN.out]; exact ht2, by rw [Nat.add_sub_cancel]; exact h, hno⟩
    have HNX : Hid ((insD f u).op < 15 → ¬ u + 1 ∈ S → ∀ j, fr < j → j < u + 1 + 1 → (insD f (j - 1)).op < 15 ∧ ¬ j ∈ S) := fun h1 h2 j hj1 hj2 => by
      by_cases he : j = u + 1
      · subst he; rw [Nat.add_sub_cancel]; exact ⟨h1, h2⟩
      · exact hno j hj1 (by omega)
    have hEB := fun W => endsBlock_any (insD f u).op W
    clear hno hwy
    by_cases hop : 15 ≤ (insD f u).op
    · have hdo : decide (15 ≤ (insD f u).op ∧ (insD f u).op ≤ 19) = true := by have := HOP.out; simp; omega
      rw [hdo] at hEB
      have HE : Hid (EndAt f S fr (u + 1)) := HFI.out (Or.inl hop)
      clear hdo hop HNX HGO HFI
      generalize (insD f u).op = op at c0 hEB HOP
      go_wp2_with (go_at_call 92; refine (hEB _).mono ?_; rintro e w' ⟨rfl, hw'⟩; replace hw' := hw'.symm; subst hw')
      go_ret
      exact ⟨u + 1, rfl, HE.out, rfl⟩
    · have hdo : decide (15 ≤ (insD f u).op ∧ (insD f u).op ≤ 19) = false := by simp; omega
      rw [hdo] at hEB
      obtain ⟨hwn, hln⟩ := HGO.out (by omega)
      have HWN : Hid (Way f 63 (u + 1)) := hwn
      have wfj : (Lit.int .i64 ((u + 1 : Nat) : Int)).wf = true := WalkArith.wf_i64 (by omega)
      by_cases hjS : u + 1 ∈ S
      · have hb : Maps.has D (.int .i64 ((u + 1 : Nat) : Int)) = true := (HD.out.has _).2 ⟨u + 1, hjS, rfl⟩
        have HE : Hid (EndAt f S fr (u + 1)) := HFI.out (Or.inr hjS)
        clear hdo hop HNX HGO HFI hwn hjS
        generalize (insD f u).op = op at c0 hEB HOP
        generalize hUU : ((u + 1 : Nat) : Int) = U at *
        have HUU : Hid (((u + 1 : Nat) : Int) = U) := hUU
        clear hUU
        go_wp2_with (first
          | (go_at_call 92; refine (hEB _).mono ?_; rintro e w' ⟨rfl, hw'⟩; replace hw' := hw'.symm; subst hw')
          | (at_lookup; refine wpList_lookup_own_ok_int _ rfl _ _ 82 rfl 3 3 .i64 mlaw Tryd.underlying82 Tryd.underlying3 (zero_int _) B m D rfl hown _ _ rfl (Maps.keyOf_int_mk Tryd.underlying3 wfj) ?_; intro c hatc hwc))
        go_ret
        exact ⟨u + 1, by rw [HUU.out]; rfl, HE.out, rfl⟩
      · have hb : Maps.has D (.int .i64 ((u + 1 : Nat) : Int)) = false := by
          cases hh : Maps.has D (.int .i64 ((u + 1 : Nat) : Int))
          · rfl
          · obtain ⟨x, hx, e⟩ := (HD.out.has _).1 hh
            obtain rfl : u + 1 = x := by omega
            exact absurd hx hjS
        have HNN : Hid (∀ j, fr < j → j < u + 1 + 1 → (insD f (j - 1)).op < 15 ∧ ¬ j ∈ S) := HNX.out (by omega) hjS
        have hw2 : IntKind.i64.wrap (((u + 1 : Nat) : Int) + 1) = ((u + 1 + 1 : Nat) : Int) := by rw [show ((u + 1 : Nat) : Int) + 1 = ((u + 1 + 1 : Nat) : Int) by omega]; exact wrap_signed _ (by omega) (by omega)
        have hUI : ((u + 1 : Nat) : Int) + 1 = ((u + 1 + 1 : Nat) : Int) := by omega
        clear hdo hop HNX HGO HFI hwn hjS
        generalize (insD f u).op = op at c0 hEB HOP
        generalize hUU : ((u + 1 : Nat) : Int) = U at *
        generalize hVV : ((u + 1 + 1 : Nat) : Int) = V at *
        have HUU : Hid (((u + 1 : Nat) : Int) = U ∧ ((u + 1 + 1 : Nat) : Int) = V) := ⟨hUU, hVV⟩
        have HUI : Hid (U + 1 = V) := hUI
        clear hUU hVV hUI
        go_wp2_with (first
          | (go_at_call 92; refine (hEB _).mono ?_; rintro e w' ⟨rfl, hw'⟩; replace hw' := hw'.symm; subst hw')
          | (at_lookup; refine wpList_lookup_own_ok_int _ rfl _ _ 82 rfl 3 3 .i64 mlaw Tryd.underlying82 Tryd.underlying3 (zero_int _) B m D rfl hown _ _ rfl (Maps.keyOf_int_mk Tryd.underlying3 wfj) ?_; intro c hatc hwc))
        go_roundw
        case rel => exact ⟨u + 1 + 1, by rw [HUU.out.2], by omega, by omega, by rw [Nat.add_sub_cancel]; exact HWN.out, HNN.out, by trivial⟩
        case measure => have h1 := HUU.out; simp [intOf]; omega
end Go.Proofs.YtldbmdgpdolaaaaDoor
namespace Go.Proofs.YtldbmdgpdolaaaaDoor
open Go Go.RowKit

theorem infoBlk : (Tryd.prog.info? 107).map (fun i => (i.zero, i.size, i.bytes)) = some (some (.agg #[.int .i64 0, .int .i64 0, .slice none 0 0, .slice none 0 0]), 4, 64) := by kernel_rfl
def bCells (F T : Nat → Int) (VV : Nat → Value) : Nat → List Value
  | 0 => []
  | k + 1 => bCells F T VV k ++ [.int .i64 (F k), .int .i64 (T k), VV (2 * k), VV (2 * k + 1)]
theorem bCells_len (F T : Nat → Int) (VV : Nat → Value) : ∀ k, (bCells F T VV k).length = k * 4
  | 0 => rfl
  | k + 1 => by rw [bCells, List.length_append, bCells_len F T VV k]; simp; omega
theorem bCells_get (F T : Nat → Int) (VV : Nat → Value) : ∀ (k i c : Nat), i < k → c < 4 → (bCells F T VV k)[i * 4 + c]? = [Value.int .i64 (F i), .int .i64 (T i), VV (2 * i), VV (2 * i + 1)][c]?
  | 0, i, c, h, _ => by omega
  | k + 1, i, c, h, hc => by
    rw [bCells]
    by_cases he : i = k
    · subst he
      rw [List.getElem?_append_right (by rw [bCells_len]; omega), bCells_len]
      congr 1
      omega
    · rw [List.getElem?_append_left (by rw [bCells_len]; omega)]
      exact bCells_get F T VV k i c (by omega) hc
theorem bCells_same {F F' T T' : Nat → Int} {VV VV' : Nat → Value} : ∀ k, (∀ i, i < k → F i = F' i ∧ T i = T' i ∧ VV (2 * i) = VV' (2 * i) ∧ VV (2 * i + 1) = VV' (2 * i + 1)) → bCells F T VV k = bCells F' T' VV' k
  | 0, _ => rfl
  | k + 1, h => by
    obtain ⟨a, b, c, d⟩ := h k (by omega)
    rw [bCells, bCells, bCells_same k (fun i hi => h i (by omega)), a, b, c, d]
theorem bCells_ext {l : List Value} {F T : Nat → Int} {VV : Nat → Value} {k : Nat} (hl : l.length = k * 4) (h : ∀ i c, i < k → c < 4 → l[i * 4 + c]? = [Value.int .i64 (F i), .int .i64 (T i), VV (2 * i), VV (2 * i + 1)][c]?) : l = bCells F T VV k := by
  apply List.ext_getElem?
  intro j
  by_cases hj : j < k * 4
  · have e : j = j / 4 * 4 + j % 4 := by omega
    rw [e, h (j / 4) (j % 4) (by omega) (by omega), bCells_get F T VV k (j / 4) (j % 4) (by omega) (by omega)]
  · rw [List.getElem?_eq_none (by omega), List.getElem?_eq_none (by rw [bCells_len]; omega)]
theorem bCells_set (F T : Nat → Int) (VV : Nat → Value) (k i c : Nat) (hi : i < k) (hc : c < 4) (u : Value) {F' T' : Nat → Int} {VV' : Nat → Value}
    (h1 : [Value.int .i64 (F' i), .int .i64 (T' i), VV' (2 * i), VV' (2 * i + 1)] = [Value.int .i64 (F i), .int .i64 (T i), VV (2 * i), VV (2 * i + 1)].set c u)
    (h2 : ∀ j, j < k → j ≠ i → F' j = F j ∧ T' j = T j ∧ VV' (2 * j) = VV (2 * j) ∧ VV' (2 * j + 1) = VV (2 * j + 1)) : (bCells F T VV k).set (i * 4 + c) u = bCells F' T' VV' k := by
  refine bCells_ext (by rw [List.length_set, bCells_len]) fun j d hj hd => ?_
  rw [List.getElem?_set]
  by_cases he : i * 4 + c = j * 4 + d
  · obtain rfl : i = j := by omega
    obtain rfl : c = d := by omega
    rw [if_pos rfl, if_pos (by rw [bCells_len]; omega), h1]
    rw [List.getElem?_set, if_pos rfl, if_pos (by simpa using hc)]
  · rw [if_neg he, bCells_get F T VV k j d hj hd]
    by_cases hij : j = i
    · subst hij
      rw [h1, List.getElem?_set, if_neg (by omega)]
    · obtain ⟨a1, a2, a3, a4⟩ := h2 j hj hij
      rw [a1, a2, a3, a4]
theorem bCells_from (F T : Nat → Int) (VV : Nat → Value) (k i : Nat) (hi : i < k) (z : Int) : (bCells F T VV k).set (i * 4) (.int .i64 z) = bCells (upd F i z) T VV k :=
  bCells_set F T VV k i 0 hi (by omega) _ (by rw [upd_same]; rfl) (fun j _ hne => ⟨upd_other F hne z, rfl, rfl, rfl⟩)
theorem bCells_to (F T : Nat → Int) (VV : Nat → Value) (k i : Nat) (hi : i < k) (z : Int) : (bCells F T VV k).set (i * 4 + 1) (.int .i64 z) = bCells F (upd T i z) VV k :=
  bCells_set F T VV k i 1 hi (by omega) _ (by rw [upd_same]; rfl) (fun j _ hne => ⟨rfl, upd_other T hne z, rfl, rfl⟩)
theorem bCells_next (F T : Nat → Int) (VV : Nat → Value) (k i : Nat) (hi : i < k) (v : Value) : (bCells F T VV k).set (i * 4 + 2) v = bCells F T (upd VV (2 * i) v) k :=
  bCells_set F T VV k i 2 hi (by omega) _ (by rw [upd_same, upd_other VV (by omega)]; rfl) (fun j _ hne => ⟨rfl, rfl, upd_other VV (by omega) v, upd_other VV (by omega) v⟩)
theorem bCells_prev (F T : Nat → Int) (VV : Nat → Value) (k i : Nat) (hi : i < k) (v : Value) : (bCells F T VV k).set (i * 4 + 3) v = bCells F T (upd VV (2 * i + 1) v) k :=
  bCells_set F T VV k i 3 hi (by omega) _ (by rw [upd_same, upd_other VV (by omega)]; rfl) (fun j _ hne => ⟨rfl, rfl, upd_other VV (by omega) v, upd_other VV (by omega) v⟩)
abbrev BlkRow (w : World) (g k : Nat) (F T : Nat → Int) (VV : Nat → Value) : Prop := w.ownsRow 0 107 4 (.slice (some ⟨g, 0, none⟩) k k) k (bCells F T VV k)
theorem blk_cell {w : World} {g k : Nat} {F T : Nat → Int} {VV : Nat → Value} (h : BlkRow w g k F T VV) (i c : Nat) (hi : i < k) (hc : c < 4) : w.cell? ⟨g, i * 4 + c, none⟩ = [Value.int .i64 (F i), .int .i64 (T i), VV (2 * i), VV (2 * i + 1)][c]? := by
  rw [h.cellAt (i * 4 + c) (by omega)]
  exact bCells_get F T VV k i c hi hc
theorem blk_from {w : World} {g k : Nat} {F T : Nat → Int} {VV : Nat → Value} (h : BlkRow w g k F T VV) (i : Nat) (hi : i < k) : w.cell? ⟨g, i * 4, none⟩ = some (.int .i64 (F i)) := blk_cell h i 0 hi (by omega)
theorem blk_to {w : World} {g k : Nat} {F T : Nat → Int} {VV : Nat → Value} (h : BlkRow w g k F T VV) (i : Nat) (hi : i < k) : w.cell? ⟨g, i * 4 + 1, none⟩ = some (.int .i64 (T i)) := blk_cell h i 1 hi (by omega)
theorem blk_next {w : World} {g k : Nat} {F T : Nat → Int} {VV : Nat → Value} (h : BlkRow w g k F T VV) (i : Nat) (hi : i < k) : w.cell? ⟨g, i * 4 + 2, none⟩ = some (VV (2 * i)) := blk_cell h i 2 hi (by omega)
theorem blk_prev {w : World} {g k : Nat} {F T : Nat → Int} {VV : Nat → Value} (h : BlkRow w g k F T VV) (i : Nat) (hi : i < k) : w.cell? ⟨g, i * 4 + 3, none⟩ = some (VV (2 * i + 1)) := blk_cell h i 3 hi (by omega)
theorem blk_store {w : World} {g k : Nat} {F T : Nat → Int} {VV : Nat → Value} {F' T' : Nat → Int} {VV' : Nat → Value} (h : BlkRow w g k F T VV) (j : Nat) (u : Value) (e : (bCells F T VV k).set j u = bCells F' T' VV' k) : BlkRow (w.setCell ⟨g, j, none⟩ u) g k F' T' VV' ∧ w.grownBy (w.setCell ⟨g, j, none⟩ u) (some g) := by
  have := h.stored j u
  rw [e] at this
  exact this
theorem made_blks (k : Nat) : (madeCells (Value.agg #[.int .i64 0, .int .i64 0, .slice none 0 0, .slice none 0 0]).cells (k * 4)).toList = bCells (fun _ => 0) (fun _ => 0) (fun _ => .slice none 0 0) k := by
  refine bCells_ext (by simp [madeCells]) fun i c hi hc => ?_
  simp only [madeCells, Value.cells]
  have h1 : i * 4 + c < k * 4 := by omega
  have h2 : (i * 4 + c) % 4 = c := by omega
  simp [h1, h2]
  rcases (show c = 0 ∨ c = 1 ∨ c = 2 ∨ c = 3 by omega) with rfl | rfl | rfl | rfl <;> rfl
end Go.Proofs.YtldbmdgpdolaaaaDoor
namespace Go.Proofs.YtldbmdgpdolaaaaDoor
open Go Go.RowKit

theorem nan_any (a : Int) (w : World) : Calls Tryd.prog 91 #[.int .i64 a] w fun e w' => e = .returned (.bool false) ∧ w' = w := by
  go_enter Tryd.func91, Tryd.ntmps91
  go_wp2
  go_ret
  exact ⟨by simp, rfl⟩
theorem less_any (a b : Int) (w : World) : Calls Tryd.prog 67 #[.int .i64 a, .int .i64 b] w fun e w' => e = .returned (.bool (decide (a < b))) ∧ w' = w := by
  go_enter Tryd.func67, Tryd.ntmps67
  go_wp2_with (go_at_call 91; refine (nan_any _ _).mono ?_; rintro e w' ⟨rfl, hw'⟩; replace hw' := hw'.symm; subst hw')
  go_ret
  exact ⟨rfl, rfl⟩
set_option maxRecDepth 100000 in
theorem len64_two (n : Nat) (h : n ≤ 2) (w : World) : Calls Tryd.prog 71 #[.int .u64 n] w fun e w' => ∃ z, e = .returned (.int .i64 z) ∧ w' = w := by
  rcases (show n = 0 ∨ n = 1 ∨ n = 2 by omega) with rfl | rfl | rfl
  all_goals
    go_enter Tryd.func71, Tryd.ntmps71
    go_wp2
    go_ret
    exact ⟨_, rfl, rfl⟩
theorem len_two (n : Nat) (h : n ≤ 2) (w : World) : Calls Tryd.prog 43 #[.int .u64 n] w fun e w' => ∃ z, e = .returned (.int .i64 z) ∧ w' = w := by
  go_enter Tryd.func43, Tryd.ntmps43
  go_wp2_with (go_at_call 71; refine (len64_two n h _).mono ?_; rintro e w' ⟨z, rfl, hw'⟩; replace hw' := hw'.symm; subst hw')
  go_ret
  exact ⟨z, rfl, rfl⟩
def sort2 : List Int → List Int
  | [a, b] => if b < a then [b, a] else [a, b]
  | l => l
def comp2 : List Int → List Int
  | [a, b] => if a = b then [a] else [a, b]
  | l => l
theorem own_two {w : World} {base g cap : Nat} {a b : Int} (h : OwnI w base (.slice (some ⟨g, 0, none⟩) 2 cap) [a, b]) : w.cell? ⟨g, 0, none⟩ = some (.int .i64 a) ∧ w.cell? ⟨g, 1, none⟩ = some (.int .i64 b) := by
  exact ⟨h.cellAt 0 (by simp), h.cellAt 1 (by simp)⟩
theorem own_set {w : World} {base g cap n : Nat} {l : List Int} (h : w.ownsRow base 3 1 (.slice (some ⟨g, 0, none⟩) n cap) n (i64s l)) (i : Nat) (z : Int) : (w.setCell ⟨g, i, none⟩ (.int .i64 z)).ownsRow base 3 1 (.slice (some ⟨g, 0, none⟩) n cap) n (i64s (l.set i z)) ∧ w.grownBy (w.setCell ⟨g, i, none⟩ (.int .i64 z)) (some g) := by
  have := h.stored i (.int .i64 z)
  have e : (i64s l).set i (.int .i64 z) = i64s (l.set i z) := by simp [i64s, List.map_set]
  rw [e] at this
  exact this
set_option maxRecDepth 100000 in
theorem insSort_less (v : Value) (n : Nat) (h : n ≤ 1) (w : World) : Calls Tryd.prog 61 #[v, .int .i64 0, .int .i64 n] w fun e w' => e = .returned (.tuple #[]) ∧ w' = w := by
  have hn : ¬ (1 : Int) < n := by omega
  have hn2 : decide ((1 : Int) < n) = false := by simpa using hn
  go_enter Tryd.func61, Tryd.ntmps61
  go_wp2
  go_loopw [6] (fun i wr => i = .int .i64 1 ∧ wr = w) (fun _ _ => 0)
  case atStart => exact ⟨rfl, rfl⟩
  case round =>
    obtain ⟨rfl, rfl⟩ := hrel
    go_wp2
    go_end0
    exact ⟨rfl, rfl⟩
def swp (a b : Int) : List Int := if b < a then [b, a] else [a, b]
theorem swp_lt {a b : Int} (h : b < a) : swp a b = [b, a] := if_pos h
theorem swp_ge {a b : Int} (h : ¬ b < a) : swp a b = [a, b] := if_neg h
set_option maxRecDepth 100000 in
set_option maxHeartbeats 1000000 in
theorem insSort_two (g cap base : Nat) (a b : Int) (w : World) (h : OwnI w base (.slice (some ⟨g, 0, none⟩) 2 cap) [a, b]) (_hcap : 2 ≤ cap) (_hmx : cap ≤ 9223372036854775807) :
    Calls Tryd.prog 61 #[.slice (some ⟨g, 0, none⟩) 2 cap, .int .i64 0, .int .i64 2] w fun e w' => e = .returned (.tuple #[]) ∧ w'.ownsRow base 3 1 (.slice (some ⟨g, 0, none⟩) 2 cap) 2 (i64s (swp a b)) ∧ w.grownBy w' (some g) := by
  have HO : Hid (OwnI w base (.slice (some ⟨g, 0, none⟩) 2 cap) [a, b]) := h
  have hL := fun W => less_any b a W
  clear h
  go_enter Tryd.func61, Tryd.ntmps61
  go_wp2
  go_loopw [6] (fun i wr => (i = .int .i64 1 ∧ wr = w) ∨ (i = .int .i64 2 ∧ wr.ownsRow base 3 1 (.slice (some ⟨g, 0, none⟩) 2 cap) 2 (i64s (swp a b)) ∧ w.grownBy wr (some g))) (fun i _ => 2 - (intOf i).toNat)
  case atStart => exact Or.inl ⟨rfl, rfl⟩
  case round =>
    rcases hrel with ⟨rfl, hwr⟩ | ⟨rfl, hown, hgr⟩
    · subst hwr
      go_wp2
      go_loopw [7] (fun i wi => (i = .int .i64 1 ∧ wi = wr) ∨ (b < a ∧ i = .int .i64 0 ∧ wi.ownsRow base 3 1 (.slice (some ⟨g, 0, none⟩) 2 cap) 2 (i64s [b, a]) ∧ wr.grownBy wi (some g))) (fun i _ => (intOf i).toNat)
      case atStart => exact Or.inl ⟨rfl, rfl⟩
      case round =>
        rcases hrel with ⟨rfl, hwi⟩ | ⟨hba, rfl, hown, hgr⟩
        · subst hwi
          rename World => wi
          obtain ⟨c0, c1⟩ := own_two HO.out
          have f0 := HO.out.frozenAt 0
          have f1 := HO.out.frozenAt 1
          by_cases hba : b < a
          · have hd : decide (b < a) = true := by simpa using hba
            rw [hd] at hL
            have HST : Hid (∀ W, OwnI W base (.slice (some ⟨g, 0, none⟩) 2 cap) [a, b] → ((W.setCell ⟨g, 1, none⟩ (.int .i64 a)).setCell ⟨g, 0, none⟩ (.int .i64 b)).ownsRow base 3 1 (.slice (some ⟨g, 0, none⟩) 2 cap) 2 (i64s [b, a]) ∧ W.grownBy ((W.setCell ⟨g, 1, none⟩ (.int .i64 a)).setCell ⟨g, 0, none⟩ (.int .i64 b)) (some g)) := fun W hW => by
              have h1 := own_set hW 1 a
              have h2 := own_set h1.1 0 b
              exact ⟨h2.1, gb_trans h1.2 h2.2⟩
            have HBA : Hid (b < a) := hba
            have HX : Hid (∀ m, _) := fun m => HST.out (wi.drewN m) HO.out
            clear hd hba
            go_wp2
            go_quiet ((go_at_call 67; exact Calls.quiet_of_same (hL _)))
            go_wp2
            go_region
            go_wp2
            go_roundw
            case rel => exact Or.inr ⟨HBA.out, rfl, (HX.out _).1, gb_trans (gb_below _ (below_drewN (Below.refl _ _) _)) (HX.out _).2⟩
            case measure => simp [intOf]
          · have hd : decide (b < a) = false := by simpa using hba
            rw [hd] at hL
            have HBA : Hid (¬ b < a) := hba
            clear hd hba
            go_wp2
            go_quiet ((go_at_call 67; exact Calls.quiet_of_same (hL _)))
            go_wp2
            go_roundw
            case rel => exact Or.inr ⟨rfl, by rw [swp_ge (by have := HBA.out; omega)]; exact HO.out, gb_below _ (below_drewN (Below.refl _ _) _)⟩
            case measure => simp [intOf]
        · have HOW : Hid (wr.ownsRow base 3 1 (.slice (some ⟨g, 0, none⟩) 2 cap) 2 (i64s [b, a])) := hown
          have HGR : Hid _ := hgr
          have HBA : Hid (b < a) := hba
          clear hown hgr hba
          go_wp2
          go_quiet (fail)
          go_wp2
          go_roundw
          case rel => exact Or.inr ⟨rfl, by rw [swp_lt (by have := HBA.out; omega)]; exact HOW.out, gb_trans HGR.out (gb_below _ (below_drewN (Below.refl _ _) _))⟩
          case measure => simp [intOf]
    · have HOW : Hid _ := hown
      have HGR : Hid _ := hgr
      clear hown hgr
      go_wp2
      go_end0
      exact ⟨rfl, HOW.out, HGR.out⟩
set_option maxRecDepth 100000 in
theorem pdq_two (v : Value) (n : Nat) (z : Int) (h : n ≤ 2) (w : World) {Q : Ending → World → Prop} (hQ : Calls Tryd.prog 61 #[v, .int .i64 0, .int .i64 n] w fun e w' => e = .returned (.tuple #[]) ∧ Q (.returned (.tuple #[])) w') :
    Calls Tryd.prog 42 #[v, .int .i64 0, .int .i64 n, .int .i64 z] w Q := by
  have HQ : Hid (Calls Tryd.prog 61 #[v, .int .i64 0, .int .i64 n] w fun e w' => e = .returned (.tuple #[]) ∧ Q (.returned (.tuple #[])) w') := hQ
  have hn : (n : Int) ≤ 12 := by omega
  have hw : IntKind.i64.wrap ((n : Int) - 0) = n := by rw [Int.sub_zero]; exact wrap_signed _ (by omega) (by omega)
  clear hQ
  go_enter Tryd.func42, Tryd.ntmps42
  go_wp2
  go_loopw [1, 2] (fun x y wr => x = .int .i64 0 ∧ y = .int .i64 n ∧ wr = w) (fun _ _ _ => 0)
  case atStart => exact ⟨rfl, rfl, rfl⟩
  case round =>
    obtain ⟨rfl, rfl, rfl⟩ := hrel
    go_wp2_with (go_at_call 61; refine HQ.out.mono ?_; rintro e w1 ⟨rfl, hq⟩)
    ((try simp only [Exit.inBlock, Exit.then]); refine bodyPost_ret (results_none rfl _ _ _) rfl ?_)
    exact hq
set_option maxRecDepth 100000 in
theorem sort_two (v : Value) (ao : Option Addr) (n cap : Nat) (hv : v = .slice ao n cap) (h : n ≤ 2) (w : World) {Q : Ending → World → Prop} (hQ : Calls Tryd.prog 61 #[v, .int .i64 0, .int .i64 n] w fun e w' => e = .returned (.tuple #[]) ∧ Q (.returned (.tuple #[])) w') :
    Calls Tryd.prog 25 #[v] w Q := by
  have HQ : Hid (∀ z, Calls Tryd.prog 42 #[v, .int .i64 0, .int .i64 n, .int .i64 z] w fun e w' => e = .returned (.tuple #[]) ∧ Q (.returned (.tuple #[])) w') := fun z => pdq_two v n z h w (hQ.mono fun e w' hh => ⟨hh.1, rfl, hh.2⟩)
  have hLn := fun W => len_two n h W
  subst hv
  have hnI : (n : Int) ≤ 2 := by omega
  have hu : IntKind.u64.wrap (n : Int) = n := by
    simp [IntKind.wrap, IntKind.bits, IntKind.signed]
    omega
  clear hQ
  go_enter Tryd.func25, Tryd.ntmps25
  go_wp2_with (first
    | (go_at_call 43; refine (hLn _).mono ?_; rintro e w' ⟨z, rfl, hw'⟩; replace hw' := hw'.symm; subst hw')
    | (go_at_call 42; refine (HQ.out _).mono ?_; rintro e w1 ⟨rfl, hq⟩))
  go_end0
  exact hq
theorem sort_own (l : List Int) (hl : l.length ≤ 2) (v : Value) (base : Nat) (w : World) (h : OwnI w base v l) :
    Calls Tryd.prog 25 #[v] w fun e w' => e = .returned (.tuple #[]) ∧ OwnI w' base v (sort2 l) ∧ w.grownBy w' v.ownBlock := by
  have h0 := h
  rcases h.2 with ⟨rfl, hn⟩ | ⟨g, cap, cur, rfl, hbg, hh, hn, hm, hs, ht⟩
  · obtain rfl : l = [] := List.length_eq_zero_iff.1 hn
    exact sort_two _ none 0 0 rfl (by omega) w ((insSort_less _ 0 (by omega) w).mono fun e w' hh => ⟨hh.1, rfl, by rw [hh.2]; exact h0, by rw [hh.2]; exact gb_refl _ _⟩)
  · refine sort_two _ (some ⟨g, 0, none⟩) l.length cap rfl hl w ?_
    match l, hl with
    | [], _ => exact (insSort_less _ 0 (by omega) w).mono fun e w' hh => ⟨hh.1, rfl, by rw [hh.2]; exact h0, by rw [hh.2]; exact gb_refl _ _⟩
    | [a], _ => exact (insSort_less _ 1 (by omega) w).mono fun e w' hh => ⟨hh.1, rfl, by rw [hh.2]; exact h0, by rw [hh.2]; exact gb_refl _ _⟩
    | [a, b], _ =>
      refine (insSort_two g cap base a b w h0 hn (by simpa [maxLen] using hm)).mono fun e w' hh => ⟨hh.1, rfl, ?_, hh.2.2⟩
      have e1 : sort2 [a, b] = swp a b := rfl
      have e2 : (swp a b).length = 2 := by unfold swp; split <;> rfl
      show World.ownsRow _ _ _ _ _ (sort2 [a, b]).length (i64s (sort2 [a, b]))
      rw [e1, e2]
      exact hh.2.1
set_option maxRecDepth 100000 in
theorem compact_less (ao : Option Addr) (n cap : Nat) (h : n ≤ 1) (w : World) : Calls Tryd.prog 26 #[.slice ao n cap] w fun e w' => e = .returned (.slice ao n cap) ∧ w' = w := by
  have hn : (n : Int) < 2 := by omega
  go_enter Tryd.func26, Tryd.ntmps26
  go_wp2
  go_ret
  exact ⟨rfl, rfl⟩
set_option maxRecDepth 100000 in
set_option maxHeartbeats 1000000 in
theorem compact_diff (g cap base : Nat) (a b : Int) (hab : a ≠ b) (w : World) (h : OwnI w base (.slice (some ⟨g, 0, none⟩) 2 cap) [a, b]) (_hcap : 2 ≤ cap) (_hmx : cap ≤ 9223372036854775807) :
    Calls Tryd.prog 26 #[.slice (some ⟨g, 0, none⟩) 2 cap] w fun e w' => e = .returned (.slice (some ⟨g, 0, none⟩) 2 cap) ∧ Below w.heap.size w w' := by
  have HO : Hid (OwnI w base (.slice (some ⟨g, 0, none⟩) 2 cap) [a, b]) := h
  have hne : (b == a) = false := by simpa using fun e => hab (Eq.symm e)
  clear h
  go_enter Tryd.func26, Tryd.ntmps26
  go_wp2
  go_loopw [3] (fun i wr => (i = .int .i64 1 ∧ wr = w) ∨ (i = .int .i64 2 ∧ Below w.heap.size w wr)) (fun i _ => 2 - (intOf i).toNat)
  case atStart => exact Or.inl ⟨rfl, rfl⟩
  case round =>
    rcases hrel with ⟨rfl, hwr⟩ | ⟨rfl, hbr⟩
    · subst hwr
      obtain ⟨c0, c1⟩ := own_two HO.out
      go_wp2
      go_quiet (fail)
      go_wp2
      go_roundw
      case rel => exact Or.inr ⟨rfl, below_drewN (Below.refl _ _) _⟩
      case measure => simp [intOf]
    · have HB : Hid (Below w.heap.size w wr) := hbr
      clear hbr
      go_wp2
      go_ret
      exact ⟨rfl, HB.out⟩
theorem clear_one (w : World) (g : Nat) (a : Int) (ty : TypeId) (c : Nat) (hc : w.cell? ⟨g, 1, none⟩ = some (.int .i64 a)) (hf : w.frozen? ⟨g, 1, none⟩ = false) :
    (Builtin.clear_ #[37] ty #[.slice (some ⟨g, 1, none⟩) 1 c]).run Tryd.prog w = .ok (.tuple #[]) (w.setCell ⟨g, 1, none⟩ (.int .i64 0)) := by
  refine Lib.run_clear_slice w 37 3 ty (.int .i64 0) Tryd.underlying37 zero_int rfl rfl g 1 1 c (by omega) (fun j hj => ?_) (fun j hj => ?_)
  · obtain rfl : j = 0 := by omega
    rw [Nat.add_zero, hc]
    rfl
  · obtain rfl : j = 0 := by omega
    exact hf
set_option maxRecDepth 100000 in
set_option maxHeartbeats 1000000 in
theorem compact_same (g cap base : Nat) (a : Int) (w : World) (h : OwnI w base (.slice (some ⟨g, 0, none⟩) 2 cap) [a, a]) (hcap : 2 ≤ cap) (hmx : cap ≤ 9223372036854775807) :
    Calls Tryd.prog 26 #[.slice (some ⟨g, 0, none⟩) 2 cap] w fun e w' => e = .returned (.slice (some ⟨g, 0, none⟩) 1 cap) ∧ w'.ownsRow base 3 1 (.slice (some ⟨g, 0, none⟩) 2 cap) 2 (i64s [a, 0]) ∧ w.grownBy w' (some g) := by
  have HO : Hid (OwnI w base (.slice (some ⟨g, 0, none⟩) 2 cap) [a, a]) := h
  clear h
  go_enter Tryd.func26, Tryd.ntmps26
  go_wp2
  go_loopw [3] (fun i wr => i = .int .i64 1 ∧ wr = w) (fun i _ => 0)
  case atStart => exact ⟨rfl, rfl⟩
  case round =>
    obtain ⟨rfl, hwr⟩ := hrel
    subst hwr
    obtain ⟨c0, c1⟩ := own_two HO.out
    go_wp2
    go_quiet (fail)
    go_wp2
    go_loopw [3, 5] (fun i j wi => i = .int .i64 1 ∧ j = .int .i64 1 ∧ wi.ownsRow base 3 1 (.slice (some ⟨g, 0, none⟩) 2 cap) 2 (i64s [a, a]) ∧ wr.grownBy wi (some g)) (fun _ _ _ => 0)
    case atStart => exact ⟨rfl, rfl, HO.out, gb_below _ (below_drewN (Below.refl _ _) _)⟩
    case round =>
      obtain ⟨rfl, rfl, hown, hgr⟩ := hrel
      rename World => wi
      obtain ⟨d0, d1⟩ := own_two hown
      have f1 := hown.frozenAt 1
      have HST := own_set hown 1 0
      have HS1 : Hid ((wi.setCell ⟨g, 1, none⟩ (.int .i64 0)).ownsRow base 3 1 (.slice (some ⟨g, 0, none⟩) 2 cap) 2 (i64s [a, 0])) := HST.1
      have HS2 : Hid (wr.grownBy (wi.setCell ⟨g, 1, none⟩ (.int .i64 0)) (some g)) := gb_trans hgr HST.2
      have hcl := fun ty c => clear_one wi g a ty c d1 f1
      clear hown hgr HST
      go_wp2
      go_ret
      exact ⟨rfl, HS1.out, HS2.out⟩
theorem compact_own (l : List Int) (hl : l.length ≤ 2) (v : Value) (base : Nat) (w : World) (h : OwnI w base v l) :
    Calls Tryd.prog 26 #[v] w fun e w' => ∃ v', e = .returned v' ∧ OwnI w' base v' (comp2 l) ∧ v'.ownBlock = v.ownBlock ∧ w.grownBy w' v.ownBlock := by
  have h0 := h
  rcases h.2 with ⟨rfl, hn⟩ | ⟨g, cap, cur, rfl, hbg, hh, hn, hm, hs, ht⟩
  · obtain rfl : l = [] := List.length_eq_zero_iff.1 hn
    exact (compact_less none 0 0 (by omega) w).mono fun e w' hh => ⟨_, hh.1, by rw [hh.2]; exact h0, rfl, by rw [hh.2]; exact gb_refl _ _⟩
  · have hm' : cap ≤ 9223372036854775807 := by simpa [maxLen] using hm
    match l, hl with
    | [], _ => exact (compact_less _ 0 cap (by omega) w).mono fun e w' hh => ⟨_, hh.1, by rw [hh.2]; exact h0, rfl, by rw [hh.2]; exact gb_refl _ _⟩
    | [a], _ => exact (compact_less _ 1 cap (by omega) w).mono fun e w' hh => ⟨_, hh.1, by rw [hh.2]; exact h0, rfl, by rw [hh.2]; exact gb_refl _ _⟩
    | [a, b], _ =>
      by_cases hab : a = b
      · subst hab
        refine (compact_same g cap base a w h0 hn hm').mono fun e w' hh => ⟨_, hh.1, ?_, rfl, hh.2.2⟩
        have e1 : comp2 [a, a] = [a] := if_pos rfl
        rw [e1]
        obtain ⟨x1, x2⟩ := hh.2.1
        rcases x2 with ⟨y1, _⟩ | ⟨g', cap', cur', y1, y2, y3, y4, y5, y6, y7⟩
        · cases y1
        · simp at y1
          obtain ⟨rfl, rfl⟩ := y1
          refine ⟨rfl, Or.inr ⟨g, cap, cur', rfl, y2, y3, by simp; omega, y5, y6, ?_⟩⟩
          have y8 : (cur'.toList.take (2 * 1)).take 1 = (i64s [a, 0]).take 1 := by rw [y7]
          rw [List.take_take] at y8
          exact y8
      · refine (compact_diff g cap base a b hab w h0 hn hm').mono fun e w' hh => ⟨_, hh.1, ?_, rfl, gb_below _ hh.2⟩
        have e1 : comp2 [a, b] = [a, b] := if_neg hab
        rw [e1]
        exact ownsRow_below h0 hh.2
end Go.Proofs.YtldbmdgpdolaaaaDoor
namespace Go.Proofs.YtldbmdgpdolaaaaDoor
open Go Go.RowKit

def nxI (f : Fn) (S : List Nat) (t : Nat) : List Int := comp2 (sort2 ((behind (insD f (t - 1)) (t - 1)).map fun q => ((rank S q : Nat) : Int)))
def pvI (f : Fn) (S : List Nat) (T : Nat → Nat) (b i : Nat) : List Int := (if i = 0 then [-1] else []) ++ ((List.range b).filter fun j => decide (((i : Nat) : Int) ∈ nxI f S (T j))).map fun j => ((j : Nat) : Int)
theorem pvI_next (f : Fn) (S : List Nat) (T : Nat → Nat) (b i : Nat) : pvI f S T (b + 1) i = pvI f S T b i ++ (if ((i : Nat) : Int) ∈ nxI f S (T b) then [((b : Nat) : Int)] else []) := by
  unfold pvI
  rw [List.range_succ, List.filter_append, List.map_append, List.append_assoc]
  congr 2
  by_cases h : ((i : Nat) : Int) ∈ nxI f S (T b)
  · simp [h]
  · simp [h]
theorem ite_one (c : Prop) [Decidable c] (z : Int) : (if c then [z] else []).length ≤ 1 := by split <;> simp
theorem pvI_len (f : Fn) (S : List Nat) (T : Nat → Nat) (b i : Nat) : (pvI f S T b i).length ≤ b + 1 := by
  unfold pvI
  rw [List.length_append, List.length_map]
  have h1 := ite_one (i = 0) (-1)
  have h2 := List.length_filter_le (fun j => decide (((i : Nat) : Int) ∈ nxI f S (T j))) (List.range b)
  rw [List.length_range] at h2
  omega
theorem behind_len (x : Ins) (pc : Nat) : (behind x pc).length ≤ 2 := by
  unfold behind
  repeat' split
  all_goals simp
theorem sort2_len (l : List Int) : (sort2 l).length = l.length := by
  unfold sort2
  split
  · split <;> rfl
  · rfl
theorem comp2_len (l : List Int) : (comp2 l).length ≤ l.length := by
  unfold comp2
  split
  · split <;> simp
  · exact Nat.le_refl _
theorem sort2_mem (l : List Int) (z : Int) : z ∈ sort2 l ↔ z ∈ l := by
  unfold sort2
  split
  · split
    · simp [or_comm]
    · rfl
  · rfl
theorem comp2_mem (l : List Int) (z : Int) : z ∈ comp2 l ↔ z ∈ l := by
  unfold comp2
  split
  · split
    · rename_i h; subst h; simp
    · rfl
  · rfl
theorem nxI_mem (f : Fn) (S : List Nat) (t : Nat) (z : Int) : z ∈ nxI f S t ↔ ∃ q ∈ behind (insD f (t - 1)) (t - 1), z = ((rank S q : Nat) : Int) := by
  unfold nxI
  rw [comp2_mem, sort2_mem, List.mem_map]
  constructor
  · rintro ⟨q, h, rfl⟩; exact ⟨q, h, rfl⟩
  · rintro ⟨q, h, rfl⟩; exact ⟨q, h, rfl⟩
theorem two_rises {l : List Int} (h : l.length ≤ 2) : (comp2 (sort2 l)).Pairwise (· < ·) := by
  match l, h with
  | [], _ => exact List.Pairwise.nil
  | [a], _ => exact List.pairwise_singleton _ _
  | [a, b], _ =>
    have e1 : sort2 [a, b] = if b < a then [b, a] else [a, b] := rfl
    have e2 : ∀ x y : Int, comp2 [x, y] = if x = y then [x] else [x, y] := fun _ _ => rfl
    rw [e1]
    by_cases h1 : b < a
    · rw [if_pos h1, e2, if_neg (by omega)]
      simpa using h1
    · rw [if_neg h1, e2]
      by_cases h2 : a = b
      · rw [if_pos h2]; exact List.pairwise_singleton _ _
      · rw [if_neg h2]
        have : a < b := by omega
        simpa using this
theorem nxI_rises (f : Fn) (S : List Nat) (t : Nat) : (nxI f S t).Pairwise (· < ·) := two_rises (by rw [List.length_map]; exact behind_len _ _)
theorem nxI_len (f : Fn) (S : List Nat) (t : Nat) : (nxI f S t).length ≤ 2 := Nat.le_trans (comp2_len _) (by rw [sort2_len, List.length_map]; exact behind_len _ _)
theorem slot_put {w W W1 W' : World} {g k : Nat} {F T : Nat → Int} {VV : Nat → Value} {LL : Nat → List Int} (hg : g < w.heap.size) (hwW : w.grownBy W (some g)) (hrow : BlkRow W g k F T VV) (hsl : Slots W w.heap.size (2 * k) VV LL)
    (h1 : Below W.heap.size W W1) {s : Nat} (hs : s < 2 * k) (h2 : W1.grownBy W' (VV s).ownBlock) {v : Value} {l : List Int} (hown : OwnI W' w.heap.size v l) (hloc : v.ownBlock = (VV s).ownBlock ∨ ∃ q, v.ownBlock = some q ∧ W1.heap.size ≤ q) :
    BlkRow W' g k F T VV ∧ w.grownBy W' (some g) ∧ ∀ j, (bCells F T VV k).set j v = bCells F T (upd VV s v) k → BlkRow (W'.setCell ⟨g, j, none⟩ v) g k F T (upd VV s v) ∧ Slots (W'.setCell ⟨g, j, none⟩ v) w.heap.size (2 * k) (upd VV s v) (upd LL s l) ∧ w.grownBy (W'.setCell ⟨g, j, none⟩ v) (some g) := by
  have hz : w.heap.size ≤ W.heap.size := hwW.size
  have hs1 : Slots W1 w.heap.size (2 * k) VV LL := hsl.below h1
  have hge : ∀ q, (VV s).ownBlock = some q → w.heap.size ≤ q := fun q e => ((hs1.own s hs).lt q e).1
  have hne : (VV s).ownBlock ≠ some g := fun e => by have := hge g e; omega
  have hr1 : BlkRow W1 g k F T VV := ownsRow_below hrow h1
  have hr2 : BlkRow W' g k F T VV := World.ownsRow.kept hr1 h2 (Or.inr (by show some g ≠ _; exact fun e => hne e.symm))
  have hw1 : w.grownBy W1 (some g) := gb_trans hwW (gb_below _ h1)
  have hw2 : w.grownBy W' (some g) := hw1.andThen h2 (fun q e => Or.inl (hge q e))
  have hs2 := hs1.upd hs h2 hown hloc
  refine ⟨hr2, hw2, fun j e => ?_⟩
  obtain ⟨a, b⟩ := blk_store hr2 j v e
  exact ⟨a, hs2.kept b (fun q e => by cases e; exact hg), gb_trans hw2 b⟩
theorem own_lies {w : World} {base : Nat} {v : Value} {l : List Int} (h : OwnI w base v l) : ∃ ao g cap, v = .slice ao l.length cap ∧ l.length ≤ cap ∧ cap ≤ 9223372036854775807 ∧ (0 < l.length → ao = some ⟨g, 0, none⟩ ∧ ∀ j, j < l.length → w.cell? ⟨g, j, none⟩ = some (.int .i64 (l.getD j 0))) := by
  have h0 := h
  rcases h.2 with ⟨rfl, hn⟩ | ⟨g, cap, cur, rfl, hbg, hh, hn, hm, hs, ht⟩
  · rw [hn]
    exact ⟨none, 0, 0, rfl, Nat.le_refl _, by omega, fun h => by omega⟩
  · refine ⟨_, g, cap, rfl, hn, by simpa [maxLen] using hm, fun _ => ⟨rfl, fun j hj => ?_⟩⟩
    rw [World.ownsRow.cellAt h0 j (by omega)]
    simp [i64s, List.getD, hj]
def LeadTo (f : Fn) (S : List Nat) (T : Nat → Nat) (k b : Nat) (LL : Nat → List Int) : Prop := ∀ i, i < k → LL (2 * i) = (if i < b then nxI f S (T i) else []) ∧ LL (2 * i + 1) = pvI f S T b i
set_option maxRecDepth 100000 in
set_option maxHeartbeats 8000000 in
theorem lead_any (P : List Fn) (f : Fn) (ok : FlowOk P f) (S : List Nat) (hS : Starts f S) (D : Dat) (hD : MapOk S D) (B m g : Nat) (F : Nat → Int) (T : Nat → Nat) (hT : ∀ i (hi : i < S.length), EndAt f S S[i] (T i)) (cv : Value) (w0 w : World)
    (hb0 : Below w0.heap.size w0 w) (hg0 : w0.heap.size ≤ g) (hcv : CodeVal w0 cv f.code) (hown : MapAt w B m D) (hrow : BlkRow w g S.length F (fun i => ((T i : Nat) : Int)) (fun _ => .slice none 0 0)) :
    Calls Tryd.prog 74 #[.slice (some ⟨g, 0, none⟩) S.length S.length, cv, .map (some B)] w fun e w' => e = .returned (.tuple #[]) ∧ ∃ VV LL, BlkRow w' g S.length F (fun i => ((T i : Nat) : Int)) VV ∧ Slots w' w.heap.size (2 * S.length) VV LL ∧ LeadTo f S T S.length S.length LL ∧ w.grownBy w' (some g) := by
  obtain ⟨i64i, hi64, hz0, hz1', hz2⟩ := info_parts info64
  have hl1 := ok.ok.len1
  have hl2 := ok.ok.len2
  obtain ⟨hk0, hS0⟩ := hS.first
  have hgw : g < w.heap.size := (World.ownsRow.lt hrow g rfl).2
  have hBg : B ≠ g := fun e => by
    subst e
    obtain ⟨es, cl, hb, _⟩ := hown
    have c := blk_from hrow 0 hk0
    simp [World.cell?, hb] at c
  have HTI : Hid (∀ i, i < S.length → 1 ≤ T i ∧ T i ≤ f.code.length ∧ ∀ q ∈ behind (insD f (T i - 1)) (T i - 1), q ∈ S ∧ rank S q < S.length) := fun i hi => by
    have h := hT i hi
    refine ⟨by have := h.lt; omega, h.le, fun q hq => ?_⟩
    have hm := h.leads ok hS (hS.reach ok (List.getElem_mem hi)).1 hq
    exact ⟨hm, (rank_lt hS.rises hm).1⟩
  obtain ⟨ao2, b2, off2, n, cap2, rfl, ⟨hlen2, haddr2, hat2⟩, hcap2, hmx2⟩ := hcv
  obtain rfl := haddr2 (by omega)
  have hb2 : b2 < w0.heap.size := World.block_lt_of_cell? _ _ (hat2 0 (by omega)).1
  have HAT : Hid (∀ W, w.grownBy W (some g) → ∀ q, q < n → insAt W b2 (off2 + q * 5) (insD f q)) := fun W hW q hq => by
    have hqf : q < f.code.length := by rw [hlen2]; exact hq
    rw [insD_eq hqf]
    have h1 := (hat2 q hqf).keeps (keeps_below hb0)
    have hne : b2 ≠ g := by omega
    exact ⟨gb_cell hW h1.1 hne, gb_cell hW h1.2.1 hne, gb_cell hW h1.2.2.1 hne, gb_cell hW h1.2.2.2.1 hne, gb_cell hW h1.2.2.2.2 hne⟩
  have HMP : Hid (∀ W, w.grownBy W (some g) → MapAt W B m D) := fun W hW => hown.kept hW (by simpa using hBg)
  have HIN : Hid (∀ q, q < n → (insD f q).op = 15 ∨ (insD f q).op = 16 → 0 ≤ (insD f q).imm) := fun q hq => (ok.insD (by rw [hlen2]; exact hq)).2
  have HKY : Hid (∀ q ∈ S, ∀ zd : Dat, D.atKey (.int .i64 ((q : Nat) : Int)) zd = .lit (.int .i64 ((rank S q : Nat) : Int))) := hD.key
  have HSN : Hid (∀ q ∈ S, q < n) := fun q hq => by rw [← hlen2]; exact (hS.reach ok hq).2
  have hcc := hcap2.1
  rw [hlen2] at hl1 hl2 HTI
  have hkn : S.length ≤ 1000 := by
    have : rank S n = S.length := rank_all HSN.out
    have h2 : ∀ j, rank S j ≤ j := fun j => by
      induction j with
      | zero => rw [rank_zero]; omega
      | succ j ih => rw [rank_next hS.rises]; split <;> omega
    have := h2 n
    omega
  unfold maxLen at hmx2
  have c3 := blk_prev hrow 0 hk0
  simp only [Nat.zero_mul, Nat.zero_add] at c3
  have f3 := hrow.frozenAt 3
  have HR1 : Hid (BlkRow ((w.setCell ⟨g, 3, none⟩ (.slice (some ⟨w.heap.size, 0, none⟩) 1 1)).alloc (.cells #[.int .i64 (-1)] 3)) g S.length F (fun i => ((T i : Nat) : Int)) (upd (fun _ => .slice none 0 0) 1 (.slice (some ⟨w.heap.size, 0, none⟩) 1 1))) := by
    have h := (blk_store hrow 3 (.slice (some ⟨w.heap.size, 0, none⟩) 1 1) (by have e := bCells_prev F (fun i => ((T i : Nat) : Int)) (fun _ => Value.slice none 0 0) S.length 0 hk0 (.slice (some ⟨w.heap.size, 0, none⟩) 1 1); simpa using e)).1
    exact h.alloc _
  have HG1 : Hid (w.grownBy ((w.setCell ⟨g, 3, none⟩ (.slice (some ⟨w.heap.size, 0, none⟩) 1 1)).alloc (.cells #[.int .i64 (-1)] 3)) (some g)) := gb_trans (blk_store hrow 3 (.slice (some ⟨w.heap.size, 0, none⟩) 1 1) (by have e := bCells_prev F (fun i => ((T i : Nat) : Int)) (fun _ => Value.slice none 0 0) S.length 0 hk0 (.slice (some ⟨w.heap.size, 0, none⟩) 1 1); simpa using e)).2 (gb_alloc _ _ _)
  have HS1 : Hid (Slots ((w.setCell ⟨g, 3, none⟩ (.slice (some ⟨w.heap.size, 0, none⟩) 1 1)).alloc (.cells #[.int .i64 (-1)] 3)) w.heap.size (2 * S.length) (upd (fun _ => .slice none 0 0) 1 (.slice (some ⟨w.heap.size, 0, none⟩) 1 1)) (upd (fun _ => []) 1 [-1])) := by
    have h := Slots.nils (w.setCell ⟨g, 3, none⟩ (.slice (some ⟨w.heap.size, 0, none⟩) 1 1)) w.heap.size (2 * S.length)
    have hz : (w.setCell ⟨g, 3, none⟩ (.slice (some ⟨w.heap.size, 0, none⟩) 1 1)).heap.size = w.heap.size := by simp
    have ho := own_newF (w := w.setCell ⟨g, 3, none⟩ (.slice (some ⟨w.heap.size, 0, none⟩) 1 1)) (base := w.heap.size) (by omega) [-1] (by simp)
    rw [hz] at ho
    exact h.upd (s := 1) (by omega) (gb_alloc _ _ _) ho (Or.inr ⟨w.heap.size, rfl, by omega⟩)
  have HL1 : Hid (LeadTo f S T S.length 0 (upd (fun _ => []) 1 [-1])) := fun i hi => by
    refine ⟨by rw [if_neg (by omega), upd_other _ (by omega)], ?_⟩
    unfold pvI
    by_cases h : i = 0
    · subst h; simp [upd]
    · rw [if_neg h, upd_other _ (by omega)]; rfl
  have HLN : Hid (∀ b LL, b < S.length → LeadTo f S T S.length b LL → ∀ LL', (∀ i, i < S.length → LL' (2 * i) = (if i = b then nxI f S (T b) else LL (2 * i)) ∧ LL' (2 * i + 1) = LL (2 * i + 1) ++ (if ((i : Nat) : Int) ∈ nxI f S (T b) then [((b : Nat) : Int)] else [])) → LeadTo f S T S.length (b + 1) LL') := fun b LL hb h LL' h' i hi => by
    obtain ⟨a1, a2⟩ := h' i hi
    obtain ⟨b1, b2⟩ := h i hi
    refine ⟨?_, by rw [a2, b2, pvI_next]⟩
    rw [a1]
    by_cases he : i = b
    · subst he; rw [if_pos rfl, if_pos (by omega)]
    · rw [if_neg he, b1]
      by_cases hl : i < b
      · rw [if_pos hl, if_pos (by omega)]
      · rw [if_neg hl, if_neg (by omega)]
  clear hcap2 hat2 haddr2 hlen2 hb0 hown hrow hT hS0 hD hS ok
  generalize S.length = k at *
  go_enter Tryd.func74, Tryd.ntmps74
  go_wp2
  clear c3 f3
  go_loopw [18] (fun i wr => ∃ (b : Nat) (VV : Nat → Value) (LL : Nat → List Int), b ≤ k ∧ i = .int .i64 b ∧ LeadTo f S T k b LL ∧ BlkRow wr g k F (fun i => ((T i : Nat) : Int)) VV ∧ Slots wr w.heap.size (2 * k) VV LL ∧ w.grownBy wr (some g)) (fun i _ => k - (intOf i).toNat)
  case atStart => exact ⟨0, _, _, Nat.zero_le _, rfl, HL1.out, HR1.out, HS1.out, HG1.out⟩
  case round =>
    obtain ⟨b, VV, LL, hb, rfl, hld, hrow, hsl, hgr⟩ := hrel
    rename World => wo
    have HLD : Hid (LeadTo f S T k b LL) := hld
    have HGO : Hid (w.grownBy wo (some g)) := hgr
    have hzo : w.heap.size ≤ wo.heap.size := hgr.size
    have HRO : Hid (BlkRow wo g k F (fun i => ((T i : Nat) : Int)) VV) := hrow
    have HSO : Hid (Slots wo w.heap.size (2 * k) VV LL) := hsl
    by_cases hlt : b < k
    · obtain ⟨t1, t2, tm⟩ := HTI.out b hlt
      obtain ⟨t, ht⟩ : ∃ t, T b = t + 1 := ⟨T b - 1, by omega⟩
      have ct := blk_to hrow b hlt
      have htn : t < n := by omega
      have hw1 : IntKind.i64.wrap (((t + 1 : Nat) : Int) - 1) = (t : Int) := by rw [show ((t + 1 : Nat) : Int) - 1 = t by omega]; exact wrap_signed _ (by omega) (by omega)
      obtain ⟨d0, d1, d2, d3, d4⟩ := HAT.out wo hgr t htn
      have hon := fun W => onward_any (insD f t) t W (HIN.out t htn) (by omega)
      have HNX : Hid (nxI f S (T b) = comp2 (sort2 ((behind (insD f t) t).map fun q => ((rank S q : Nat) : Int)))) := by
        show _ = _
        unfold nxI
        rw [ht, Nat.add_sub_cancel]
      rw [ht, Nat.add_sub_cancel] at tm
      have HTM : Hid (∀ q ∈ behind (insD f t) t, q ∈ S ∧ rank S q < k) := tm
      have HLB : Hid (LL (2 * b) = []) := by
        show _ = _
        rw [(hld b hlt).1, if_neg (by omega)]
      have HBL : Hid ((behind (insD f t) t).length ≤ 2) := behind_len _ _
      rw [ht] at ct
      have hbi : ∃ bI, bI = behindI (insD f t) t := ⟨_, rfl⟩
      obtain ⟨bI, hbI⟩ := hbi
      have HBI : Hid (bI = (behind (insD f t) t).map fun (n : Nat) => (n : Int)) := hbI
      rw [← hbI] at hon
      clear hbI tm hld hrow hsl hgr
      generalize behind (insD f t) t = bs at HBI HNX HTM HBL
      generalize insD f t = xx at d0 d1 d2 d3 d4 hon
      obtain ⟨op, dst, xa, xb, imm⟩ := xx
      unfold Ins.val at hon
      dsimp only at d0 d1 d2 d3 d4 hon
      have hbI2 : (b : Int) < k := by omega
      have htI : (t : Int) < n := by omega
      generalize hTT : ((t + 1 : Nat) : Int) = TT at ct hw1
      clear hTT ht
      go_wp2_with (go_at_call 60; refine (hon _).mono ?_; rintro e w2 ⟨v1, rfl, hI1, hfr1, hb1⟩; obtain ⟨ao1, b1, off1, n1, cap1, rfl, hl1', ha1, hc1, hcp1, hmx1⟩ := hI1)
      have hz2' := hb1.size
      have HG2 : Hid (w.grownBy w2 (some g)) := gb_trans HGO.out (gb_below _ hb1)
      have HR2 : Hid (BlkRow w2 g k F (fun i => ((T i : Nat) : Int)) VV) := ownsRow_below HRO.out hb1
      have HS2 : Hid (Slots w2 w.heap.size (2 * k) VV LL) := HSO.out.below hb1
      have HL1' : Hid (bI.length = n1) := hl1'
      have HA1 : Hid (0 < n1 → ao1 = some ⟨b1, off1, none⟩) := ha1
      have HC1 : Hid (∀ j (h : j < bI.length), w2.cell? ⟨b1, off1 + j, none⟩ = some (.int .i64 bI[j])) := hc1
      have HBF : Hid (0 < n1 → b1 ≠ g ∧ b1 < w2.heap.size ∧ ∀ s, s < 2 * k → (VV s).ownBlock ≠ some b1) := fun h0 => by
        have e0 := ha1 h0
        subst e0
        have h1 := hfr1 b1 off1 n1 cap1 rfl
        refine ⟨by omega, World.block_lt_of_cell? _ _ (hc1 0 (by omega)), fun s hs e => ?_⟩
        have := ((HSO.out.own s hs).lt b1 e).2
        omega
      have hn2 : n1 ≤ 2 := by have := HBL.out; rw [← hl1', HBI.out, List.length_map]; exact this
      have hcp := hcp1.1
      unfold maxLen at hmx1
      clear hl1' ha1 hc1 hcp1 hb1 hon d0 d1 d2 d3 d4 hfr1 ct HSO HRO HGO
      go_loopw [34] (fun i wi => ∃ (e : Nat) (V' : Nat → Value) (L' : Nat → List Int), e ≤ n1 ∧ i = .int .i64 e ∧ (∀ s, s ≠ 2 * b → L' s = LL s) ∧ L' (2 * b) = (bs.take e).map (fun q => ((rank S q : Nat) : Int)) ∧ BlkRow wi g k F (fun i => ((T i : Nat) : Int)) V' ∧ Slots wi w.heap.size (2 * k) V' L' ∧ w.grownBy wi (some g) ∧
          (0 < n1 → b1 < wi.heap.size ∧ (∀ s, s < 2 * k → (V' s).ownBlock ≠ some b1) ∧ ∀ j (h : j < bI.length), wi.cell? ⟨b1, off1 + j, none⟩ = some (.int .i64 bI[j]))) (fun i _ => n1 - (intOf i).toNat)
      case atStart => exact ⟨0, VV, LL, Nat.zero_le _, rfl, fun _ _ => rfl, by rw [HLB.out]; rfl, HR2.out, HS2.out, HG2.out, fun h0 => ⟨(HBF.out h0).2.1, (HBF.out h0).2.2, HC1.out⟩⟩
      case round =>
        obtain ⟨e, V', L', he, rfl, hoth, hLb, hrow, hsl, hgr, hkeep⟩ := hrel
        have HOT : Hid (∀ s, s ≠ 2 * b → L' s = LL s) := hoth
        have HRI : Hid (BlkRow wr g k F (fun i => ((T i : Nat) : Int)) V') := hrow
        have HSI : Hid (Slots wr w.heap.size (2 * k) V' L') := hsl
        have HGI : Hid (w.grownBy wr (some g)) := hgr
        have hzr : w.heap.size ≤ wr.heap.size := hgr.size
        by_cases hle : e < n1
        · obtain rfl := HA1.out (by omega)
          obtain ⟨kb1, kb2, kb3⟩ := hkeep (by omega)
          have heb : e < bI.length := by rw [HL1'.out]; exact hle
          have heb2 : e < bs.length := by have := heb; rw [HBI.out] at this; simpa using this
          have cq := kb3 e heb
          have hto : bI[e] = ((bs[e] : Nat) : Int) := by simp [HBI.out]
          rw [hto] at cq
          obtain ⟨hmS, hrk⟩ := HTM.out _ (List.getElem_mem heb2)
          have htq := HSN.out _ hmS
          have HTK : Hid ((bs.take (e + 1)).map (fun q => ((rank S q : Nat) : Int)) = (bs.take e).map (fun q => ((rank S q : Nat) : Int)) ++ [((rank S bs[e] : Nat) : Int)]) := by
            show _ = _
            rw [List.take_add_one, List.getElem?_eq_getElem heb2, List.map_append]; rfl
          have hLen : (L' (2 * b)).length = e := by rw [hLb, List.length_map, List.length_take]; omega
          have hownN := hsl.own (2 * b) (by omega)
          obtain ⟨aoN, capN, hvN⟩ := own_shape hownN
          rw [hLen] at hvN
          have HVN : Hid (V' (2 * b) = .slice aoN e capN) := hvN
          have hlk : (Instr.lookup 82 (.map (some B)) (.int .i64 ((bs[e] : Nat) : Int)) false).run Tryd.prog wr.drew = .ok (.int .i64 ((rank S bs[e] : Nat) : Int)) wr.drew := by
            have hM : MapAt wr.drew B m D := HMP.out wr hgr
            obtain ⟨c, h1, h2, _⟩ := hM.lookup_int mlaw Tryd.underlying82 Tryd.underlying3 (zero_int _) (Maps.keyOf_int_mk Tryd.underlying3 (WalkArith.wf_i64 (n := ((bs[e] : Nat) : Int)) (by omega)))
            rw [HKY.out _ hmS] at h2
            simp at h2
            rw [← h2] at h1
            exact h1
          have cN := blk_next hrow b hlt
          have fN := hrow.frozenAt (b * 4 + 2)
          rw [hvN] at cN
          have OWN : Hid (wr.drew.ownsRow w.heap.size 3 1 (.slice aoN e capN) e (i64s (L' (2 * b)))) := by
            have h := hownN
            rw [hvN] at h
            have h' : wr.ownsRow w.heap.size 3 1 (.slice aoN e capN) (L' (2 * b)).length (i64s (L' (2 * b))) := h
            rw [hLen] at h'
            exact ownsRow_below h' (Below.refl _ _).drew
          have HPUT : Hid (∀ (o : Obj) (W' : World) (v : Value) (l : List Int), (wr.drew.alloc o).grownBy W' (Value.slice aoN e capN).ownBlock → OwnI W' w.heap.size v l → (v.ownBlock = (Value.slice aoN e capN).ownBlock ∨ ∃ q, v.ownBlock = some q ∧ wr.heap.size + 1 ≤ q) → BlkRow W' g k F (fun i => ((T i : Nat) : Int)) V' ∧ w.grownBy W' (some g) ∧ ∀ j, (bCells F (fun i => ((T i : Nat) : Int)) V' k).set j v = bCells F (fun i => ((T i : Nat) : Int)) (upd V' (2 * b) v) k → BlkRow (W'.setCell ⟨g, j, none⟩ v) g k F (fun i => ((T i : Nat) : Int)) (upd V' (2 * b) v) ∧ Slots (W'.setCell ⟨g, j, none⟩ v) w.heap.size (2 * k) (upd V' (2 * b) v) (upd L' (2 * b) l) ∧ w.grownBy (W'.setCell ⟨g, j, none⟩ v) (some g)) := fun o W' v l h2 ho hl => slot_put (s := 2 * b) hgw HGI.out HRI.out HSI.out (((Below.refl _ _).alloc (Nat.le_refl _) o).drew) (by omega) (by rw [hvN]; exact h2) ho (by rw [hvN]; exact hl.imp id (fun ⟨q, h, hq⟩ => ⟨q, h, by simpa using hq⟩))
          have HK1 : Hid (∀ (o : Obj) (W' : World) (v : Value), (wr.drew.alloc o).grownBy W' (Value.slice aoN e capN).ownBlock → (v.ownBlock = (Value.slice aoN e capN).ownBlock ∨ ∃ q, v.ownBlock = some q ∧ wr.heap.size + 1 ≤ q) → ∀ a u, a.block = g → b1 < (W'.setCell a u).heap.size ∧ (∀ s, s < 2 * k → (upd V' (2 * b) v s).ownBlock ≠ some b1) ∧ ∀ j (h : j < bI.length), (W'.setCell a u).cell? ⟨b1, off1 + j, none⟩ = some (.int .i64 bI[j])) := fun o W' v h2 hl a u ha => by
            have hb1n : (Value.slice aoN e capN).ownBlock ≠ some b1 := by rw [← hvN]; exact kb2 (2 * b) (by omega)
            have hz := h2.size
            simp at hz
            refine ⟨by simp; omega, fun s hs => ?_, fun j hj => ?_⟩
            · by_cases hs2 : s = 2 * b
              · subst hs2
                rw [upd_same]
                rcases hl with h | ⟨q, h, hq⟩
                · rw [h]; exact hb1n
                · rw [h]; simp; omega
              · rw [upd_other _ hs2]; exact kb2 s hs
            · have c1 := kb3 j hj
              have c2 : (wr.drew.alloc o).cell? ⟨b1, off1 + j, none⟩ = some (.int .i64 bI[j]) := cell_alloc c1 o
              have c3 : W'.cell? ⟨b1, off1 + j, none⟩ = some (.int .i64 bI[j]) := by
                rw [World.cell?_of_block (h2.block b1 (World.block_lt_of_cell? _ _ c2) (fun e => hb1n e.symm))]; exact c2
              rw [World.cell?_of_block (heap_setCell_other _ _ _ _ (by rw [ha]; exact (HBF.out (by omega)).1))]
              exact c3
          have HLN2 : Hid ((L' (2 * b)).length = e) := hLen
          have HLb : Hid (L' (2 * b) = (bs.take e).map (fun q => ((rank S q : Nat) : Int))) := hLb
          have heI : (e : Int) < n1 := by omega
          clear hoth hLb hrow hsl hgr hkeep kb2 kb3 hto hownN hvN hmS hLen
          generalize hRK : ((rank S bs[e] : Nat) : Int) = rk at hlk HTK
          clear hRK
          generalize ((bs[e] : Nat) : Int) = tt at cq hlk
          have cNa := fun o => cell_alloc cN o
          have a1 : e + 1 ≤ maxLen := by unfold maxLen; omega
          have a2 : (e + 1) * 8 ≤ 140737488355328 := by omega
          have a3 : ∀ o, w.heap.size ≤ (wr.drew.alloc o).heap.size := fun o => by simp; omega
          have a4 : ∀ o, (wr.drew.alloc o).heap.size = wr.heap.size + 1 := fun o => by simp
          have HQ2 : Hid (∀ W', BlkRow W' g k F (fun i => ((T i : Nat) : Int)) V' → W'.cell? ⟨g, b * 4 + 2, none⟩ = some (.slice aoN e capN)) := fun W' h => by rw [blk_next h b hlt, HVN.out]
          go_wp2_with fail
          go_region_law ((refine step_append_lies _ (by rfl) (.tmp 44) (.tmp 48) 37 (by rfl) w.heap.size 3 i64i _ 1 8 Tryd.underlying37 hi64 hz0 hz1' hz2 rfl (by decide) (.slice aoN e capN) e (i64s (L' (2 * b))) (by rfl) (OWN.out.alloc _) ⟨wr.heap.size, 0, none⟩ 1 1 (i64s [rk]) (by rfl) rfl (news_list _ _ _ _ rfl) (i64s_one _) Nat.one_pos a1 a2 (a3 _) (wr.heap.size + 1) (a4 _) ?_; intro g4 cap4 w4 hown4 hg4 hat4 hlt4; have HOI := own_snoc HLN2.out hown4; have HQ := HPUT.out _ _ _ _ hg4 HOI (lies_loc hat4); have HKK := HK1.out _ _ (.slice (some ⟨g4, 0, none⟩) (e + 1) cap4) hg4 (lies_loc hat4); have q2 := HQ2.out _ HQ.1; have qf := HQ.1.frozenAt (b * 4 + 2)))
          all_goals
            have HQH : Hid _ := HQ
            have HKH : Hid _ := HKK
            clear HQ HKK HOI hown4 hg4 hat4
            go_wp2
            go_roundw
            case rel => exact ⟨e + 1, _, _, by omega, by go_num, fun s hs => by rw [upd_other _ hs]; exact HOT.out s hs, by rw [upd_same, HTK.out, HLb.out], (HQH.out.2.2 (b * 4 + 2) (bCells_next _ _ _ _ _ hlt _)).1, (HQH.out.2.2 (b * 4 + 2) (bCells_next _ _ _ _ _ hlt _)).2.1, (HQH.out.2.2 (b * 4 + 2) (bCells_next _ _ _ _ _ hlt _)).2.2, fun _ => HKH.out _ _ rfl⟩
            case measure => simp [intOf]; omega
        · obtain rfl : e = n1 := by omega
          have hfin : bs.take e = bs := List.take_of_length_le (by have := HL1'.out; rw [HBI.out] at this; simp at this; omega)
          rw [hfin] at hLb
          have HNB : Hid (comp2 (sort2 (L' (2 * b))) = nxI f S (T b)) := by
            show _ = _
            rw [hLb, HNX.out]
          have hLen : (L' (2 * b)).length ≤ 2 := by rw [hLb, List.length_map]; exact HBL.out
          have hownN := hsl.own (2 * b) (by omega)
          obtain ⟨aoN, capN, hvN⟩ := own_shape hownN
          have HVN : Hid (V' (2 * b) = .slice aoN (L' (2 * b)).length capN) := hvN
          have cN := blk_next hrow b hlt
          rw [hvN] at cN
          have HSRT : Hid (Calls Tryd.prog 25 #[.slice aoN (L' (2 * b)).length capN] wr fun e w' => e = .returned (.tuple #[]) ∧ OwnI w' w.heap.size (V' (2 * b)) (sort2 (L' (2 * b))) ∧ wr.grownBy w' (V' (2 * b)).ownBlock) := by
            have h := sort_own (L' (2 * b)) hLen (V' (2 * b)) w.heap.size wr hownN
            rw [hvN] at h ⊢
            exact h
          have HCMP : Hid (∀ W, OwnI W w.heap.size (V' (2 * b)) (sort2 (L' (2 * b))) → Calls Tryd.prog 26 #[.slice aoN (L' (2 * b)).length capN] W fun e w' => ∃ v', e = .returned v' ∧ OwnI w' w.heap.size v' (comp2 (sort2 (L' (2 * b)))) ∧ v'.ownBlock = (V' (2 * b)).ownBlock ∧ W.grownBy w' (V' (2 * b)).ownBlock) := fun W hW => by
            have h := compact_own (sort2 (L' (2 * b))) (by rw [sort2_len]; exact hLen) (V' (2 * b)) w.heap.size W hW
            rw [hvN] at h ⊢
            exact h
          have HP5 : Hid (∀ W, OwnI W w.heap.size (V' (2 * b)) (sort2 (L' (2 * b))) → wr.grownBy W (V' (2 * b)).ownBlock → BlkRow W g k F (fun i => ((T i : Nat) : Int)) V' ∧ Slots W w.heap.size (2 * k) V' (upd L' (2 * b) (sort2 (L' (2 * b)))) ∧ w.grownBy W (some g) ∧ W.cell? ⟨g, b * 4 + 2, none⟩ = some (.slice aoN (L' (2 * b)).length capN)) := fun W ho hgW => by
            have h1 := slot_put (s := 2 * b) hgw HGI.out HRI.out HSI.out (Below.refl _ _) (by omega) hgW ho (Or.inl rfl)
            have h2 := HSI.out.upd (s := 2 * b) (by omega) hgW ho (Or.inl rfl)
            rw [upd_self] at h2
            exact ⟨h1.1, h2, h1.2.1, by rw [blk_next h1.1 b hlt, HVN.out]⟩
          have HP6 : Hid (∀ W W' v, OwnI W w.heap.size (V' (2 * b)) (sort2 (L' (2 * b))) → wr.grownBy W (V' (2 * b)).ownBlock → OwnI W' w.heap.size v (comp2 (sort2 (L' (2 * b)))) → v.ownBlock = (V' (2 * b)).ownBlock → W.grownBy W' (V' (2 * b)).ownBlock →
              (W'.cell? ⟨g, b * 4 + 2, none⟩ = some (.slice aoN (L' (2 * b)).length capN) ∧ W'.frozen? ⟨g, b * 4 + 2, none⟩ = false) ∧ BlkRow (W'.setCell ⟨g, b * 4 + 2, none⟩ v) g k F (fun i => ((T i : Nat) : Int)) (upd V' (2 * b) v) ∧ Slots (W'.setCell ⟨g, b * 4 + 2, none⟩ v) w.heap.size (2 * k) (upd V' (2 * b) v) (upd L' (2 * b) (comp2 (sort2 (L' (2 * b))))) ∧ w.grownBy (W'.setCell ⟨g, b * 4 + 2, none⟩ v) (some g)) := fun W W' v h1 h2 h3 h4 h5 => by
            obtain ⟨r5, s5, g5, _⟩ := HP5.out W h1 h2
            have h6 := slot_put (s := 2 * b) hgw g5 r5 s5 (Below.refl _ _) (by omega) h5 h3 (Or.inl h4)
            have h7 := h6.2.2 (b * 4 + 2) (bCells_next _ _ _ _ _ hlt _)
            refine ⟨⟨by rw [blk_next h6.1 b hlt, HVN.out], h6.1.frozenAt _⟩, h7.1, ?_, h7.2.2⟩
            have e : upd (upd L' (2 * b) (sort2 (L' (2 * b)))) (2 * b) (comp2 (sort2 (L' (2 * b)))) = upd L' (2 * b) (comp2 (sort2 (L' (2 * b)))) := by
              funext j; unfold upd; split <;> rfl
            have h8 := h7.2.1
            rw [e] at h8
            exact h8
          have hLn3 : (L' (2 * b)).length ≤ 9223372036854775807 := by omega
          have HKM : Hid (∀ z ∈ nxI f S (T b), ∃ j : Nat, j < k ∧ z = (j : Int)) := fun z hz => by
            rw [HNX.out, comp2_mem, sort2_mem, List.mem_map] at hz
            obtain ⟨q, hq, rfl⟩ := hz
            exact ⟨rank S q, (HTM.out q hq).2, rfl⟩
          have HRS : Hid ((nxI f S (T b)).Pairwise (· < ·)) := nxI_rises _ _ _
          have HN2 : Hid ((nxI f S (T b)).length ≤ 2) := nxI_len _ _ _
          clear hLb hrow hsl hgr hkeep hfin hownN hoth hvN
          go_wp2_with (first
            | (go_at_call 25; refine HSRT.out.mono ?_; rintro e5 w5 ⟨rfl, ho5, hg5⟩; have c5 := (HP5.out w5 ho5 hg5).2.2.2)
            | (go_at_call 26; refine (HCMP.out w5 ho5).mono ?_; rintro e6 w6 ⟨v6, rfl, ho6, hl6, hg6⟩; have HP := HP6.out w5 w6 v6 ho5 hg5 ho6 hl6 hg6; rw [HNB.out] at ho6; obtain ⟨ao6, g6, cap6, rfl, hc6, hm6, -⟩ := own_lies ho6; have c6 := HP.1.1; have f6 := HP.1.2))
          have HPH : Hid _ := HP.2
          rw [HNB.out] at HPH
          clear HP c5 c6 f6 ho5 hg5 ho6 hl6 hg6 HP5 HP6 HCMP HSRT
          obtain ⟨N6, hN6⟩ : ∃ N6, N6 = (nxI f S (T b)).length := ⟨_, rfl⟩
          have HN6 : Hid (N6 = (nxI f S (T b)).length) := hN6
          rw [← hN6] at hc6
          rw [← hN6] at HPH
          rw [← hN6]
          have hN62 : N6 ≤ 2 := by rw [hN6]; exact HN2.out
          clear hN6
          generalize hW7 : w6.setCell ⟨g, b * 4 + 2, none⟩ (.slice ao6 N6 cap6) = w7 at *
          clear hW7
          go_loopw [75] (fun i wi => ∃ (e : Nat) (V2 : Nat → Value) (L2 : Nat → List Int), e ≤ N6 ∧ i = .int .i64 e ∧ V2 (2 * b) = .slice ao6 N6 cap6 ∧ (∀ i, i < k → L2 (2 * i) = (if i = b then nxI f S (T b) else LL (2 * i)) ∧ L2 (2 * i + 1) = LL (2 * i + 1) ++ (if ((i : Nat) : Int) ∈ (nxI f S (T b)).take e then [((b : Nat) : Int)] else [])) ∧ BlkRow wi g k F (fun i => ((T i : Nat) : Int)) V2 ∧ Slots wi w.heap.size (2 * k) V2 L2 ∧ w.grownBy wi (some g)) (fun i _ => N6 - (intOf i).toNat)
          case atStart =>
            exact ⟨0, _, _, Nat.zero_le _, rfl, upd_same _ _ _, fun i hi => by
              constructor
              · by_cases hib : i = b
                · subst hib; rw [if_pos rfl, upd_same]
                · rw [if_neg hib, upd_other _ (by omega)]; exact HOT.out _ (by omega)
              · rw [upd_other _ (by omega), HOT.out _ (by omega)]; simp, HPH.out.1, HPH.out.2.1, HPH.out.2.2⟩
          case round =>
            obtain ⟨e3, V2, L2, he3, rfl, hv2, hl2, hrow, hsl, hgr⟩ := hrel
            have HL2 : Hid (∀ i, i < k → L2 (2 * i) = (if i = b then nxI f S (T b) else LL (2 * i)) ∧ L2 (2 * i + 1) = LL (2 * i + 1) ++ (if ((i : Nat) : Int) ∈ (nxI f S (T b)).take e3 then [((b : Nat) : Int)] else [])) := hl2
            have HR7 : Hid (BlkRow wr g k F (fun i => ((T i : Nat) : Int)) V2) := hrow
            have HS7 : Hid (Slots wr w.heap.size (2 * k) V2 L2) := hsl
            have HG7 : Hid (w.grownBy wr (some g)) := hgr
            have HV2 : Hid (V2 (2 * b) = .slice ao6 N6 cap6) := hv2
            have hzr : w.heap.size ≤ wr.heap.size := hgr.size
            by_cases hle : e3 < N6
            · have hnl : e3 < (nxI f S (T b)).length := by rw [← HN6.out]; exact hle
              have hLb2 : L2 (2 * b) = nxI f S (T b) := by rw [(hl2 b hlt).1, if_pos rfl]
              have hownB := hsl.own (2 * b) (by omega)
              rw [hv2, hLb2] at hownB
              obtain ⟨ao8, g8, cap8, e8, -, -, hat8⟩ := own_lies hownB
              rw [← HN6.out] at e8 hat8
              simp only [Value.slice.injEq, true_and] at e8
              obtain ⟨rfl, rfl⟩ := e8
              obtain ⟨rfl, hc8⟩ := hat8 (by omega)
              have cq := hc8 e3 hle
              obtain ⟨j, hjk, hje⟩ := HKM.out ((nxI f S (T b)).getD e3 0) (by simp [List.getD, hnl])
              have HJE : Hid ((nxI f S (T b))[e3]? = some (j : Int)) := by
                show _ = _
                rw [List.getElem?_eq_getElem hnl, ← hje]
                simp [List.getD, hnl]
              rw [hje] at cq
              have hnot : ¬ ((j : Nat) : Int) ∈ (nxI f S (T b)).take e3 := fun hm => by
                obtain ⟨i, hi, he⟩ := List.getElem_of_mem hm
                have hi2 : i < e3 := by rw [List.length_take] at hi; omega
                have hlt2 := (List.pairwise_iff_getElem.1 HRS.out) i e3 (by omega) hnl hi2
                rw [List.getElem_take] at he
                have he3 : (nxI f S (T b))[e3] = (j : Int) := by
                  have := HJE.out
                  rw [List.getElem?_eq_getElem hnl] at this
                  exact Option.some.inj this
                omega
              have hownP := hsl.own (2 * j + 1) (by omega)
              obtain ⟨aoP, capP, hvP⟩ := own_shape hownP
              have hLP : (L2 (2 * j + 1)).length ≤ 1000000 := by
                rw [(hl2 j hjk).2, (HLD.out j hjk).2]
                rw [List.length_append]
                have h1 := pvI_len f S T b j
                have h2 := ite_one (((j : Nat) : Int) ∈ (nxI f S (T b)).take e3) ((b : Nat) : Int)
                omega
              have HVP : Hid (V2 (2 * j + 1) = .slice aoP (L2 (2 * j + 1)).length capP) := hvP
              have cP := blk_prev hrow j hjk
              have fP := hrow.frozenAt (j * 4 + 3)
              rw [hvP] at cP
              have OWP : Hid (wr.ownsRow w.heap.size 3 1 (.slice aoP (L2 (2 * j + 1)).length capP) (L2 (2 * j + 1)).length (i64s (L2 (2 * j + 1)))) := by
                have h := hownP
                rw [hvP] at h
                exact h
              have HPUT : Hid (∀ (o : Obj) (W' : World) (v : Value) (l : List Int), (wr.alloc o).grownBy W' (Value.slice aoP (L2 (2 * j + 1)).length capP).ownBlock → OwnI W' w.heap.size v l → (v.ownBlock = (Value.slice aoP (L2 (2 * j + 1)).length capP).ownBlock ∨ ∃ q, v.ownBlock = some q ∧ wr.heap.size + 1 ≤ q) →
                  (W'.cell? ⟨g, j * 4 + 3, none⟩ = some (.slice aoP (L2 (2 * j + 1)).length capP) ∧ W'.frozen? ⟨g, j * 4 + 3, none⟩ = false) ∧ BlkRow (W'.setCell ⟨g, j * 4 + 3, none⟩ v) g k F (fun i => ((T i : Nat) : Int)) (upd V2 (2 * j + 1) v) ∧ Slots (W'.setCell ⟨g, j * 4 + 3, none⟩ v) w.heap.size (2 * k) (upd V2 (2 * j + 1) v) (upd L2 (2 * j + 1) l) ∧ w.grownBy (W'.setCell ⟨g, j * 4 + 3, none⟩ v) (some g)) := fun o W' v l h2 ho hl => by
                have h := slot_put (s := 2 * j + 1) hgw HG7.out HR7.out HS7.out ((Below.refl _ _).alloc (Nat.le_refl _) o) (by omega) (by rw [HVP.out]; exact h2) ho (by rw [HVP.out]; exact hl.imp id (fun ⟨q, h, hq⟩ => ⟨q, h, by simpa using hq⟩))
                have h7 := h.2.2 (j * 4 + 3) (bCells_prev _ _ _ _ _ hjk _)
                exact ⟨⟨by rw [blk_prev h.1 j hjk, HVP.out], h.1.frozenAt _⟩, h7.1, h7.2.1, h7.2.2⟩
              have HNEW : Hid (∀ i, i < k → upd L2 (2 * j + 1) (L2 (2 * j + 1) ++ [((b : Nat) : Int)]) (2 * i) = (if i = b then nxI f S (T b) else LL (2 * i)) ∧ upd L2 (2 * j + 1) (L2 (2 * j + 1) ++ [((b : Nat) : Int)]) (2 * i + 1) = LL (2 * i + 1) ++ (if ((i : Nat) : Int) ∈ (nxI f S (T b)).take (e3 + 1) then [((b : Nat) : Int)] else [])) := fun i hi => by
                refine ⟨by rw [upd_other _ (by omega)]; exact (HL2.out i hi).1, ?_⟩
                rw [List.take_add_one, HJE.out]
                by_cases hij : i = j
                · subst hij
                  rw [upd_same, (HL2.out i hi).2, if_neg hnot, if_pos (by simp), List.append_nil]
                · rw [upd_other _ (by omega), (HL2.out i hi).2]
                  have hne : ¬ ((i : Nat) : Int) = ((j : Nat) : Int) := by omega
                  have e9 : (((i : Nat) : Int) ∈ (nxI f S (T b)).take e3 ++ (some ((j : Nat) : Int)).toList) ↔ ((i : Nat) : Int) ∈ (nxI f S (T b)).take e3 := by simp [hne]
                  by_cases hm : ((i : Nat) : Int) ∈ (nxI f S (T b)).take e3
                  · rw [if_pos hm, if_pos (e9.2 hm)]
                  · rw [if_neg hm, if_neg (fun h => hm (e9.1 h))]
              have heI : (e3 : Int) < N6 := by omega
              have hjI : (j : Int) < k := by omega
              have a1 : (L2 (2 * j + 1)).length + 1 ≤ maxLen := by unfold maxLen; omega
              have a2 : ((L2 (2 * j + 1)).length + 1) * 8 ≤ 140737488355328 := by omega
              have a3 : ∀ o, w.heap.size ≤ (wr.alloc o).heap.size := fun o => by simp; omega
              have a4 : ∀ o, (wr.alloc o).heap.size = wr.heap.size + 1 := fun o => by simp
              have cPa := fun o => cell_alloc cP o
              clear hl2 hrow hsl hgr hv2 hLb2 hownB hat8 hc8 hje hnot hownP hvP hnl
              generalize hLL : L2 (2 * j + 1) = lp at *
              have HLL : Hid (L2 (2 * j + 1) = lp) := hLL
              clear hLL
              go_wp2_with (at_builtin; refine wpList_append_lies _ rfl (.tmp 85) (.tmp 87) 37 rfl w.heap.size 3 i64i _ 1 8 Tryd.underlying37 hi64 hz0 hz1' hz2 rfl (by decide) (.slice aoP lp.length capP) lp.length (i64s lp) rfl (OWP.out.alloc _) ⟨wr.heap.size, 0, none⟩ 1 1 (i64s [((b : Nat) : Int)]) rfl rfl (news_list _ _ _ _ rfl) (i64s_one _) Nat.one_pos a1 a2 (a3 _) (wr.heap.size + 1) (a4 _) ?_; intro g4 cap4 w4 hown4 hg4 hat4 hlt4; have HOI := own_snoc rfl hown4; have HQ := HPUT.out _ _ _ _ hg4 HOI (lies_loc hat4); have q2 := HQ.1.1; have qf := HQ.1.2)
              have HQH : Hid _ := HQ.2
              clear HQ HOI hown4 hg4 hat4
              go_roundw
              case rel => exact ⟨e3 + 1, _, _, by omega, by go_num, by rw [upd_other _ (by omega)]; exact HV2.out, HNEW.out, HQH.out.1, HQH.out.2.1, HQH.out.2.2⟩
              case measure => simp [intOf]; omega
            · obtain rfl : e3 = N6 := by omega
              have hfin : (nxI f S (T b)).take e3 = nxI f S (T b) := List.take_of_length_le (by rw [← HN6.out]; omega)
              have HNL : Hid (LeadTo f S T k (b + 1) L2) := HLN.out b LL hlt HLD.out L2 (fun i hi => by
                have h := HL2.out i hi
                rw [hfin] at h
                exact h)
              clear hl2 hrow hsl hgr hfin hv2
              go_wp2
              go_roundw
              case rel => exact ⟨b + 1, V2, L2, by omega, by go_num, HNL.out, HR7.out, HS7.out, HG7.out⟩
              case measure => simp [intOf]; omega
    · have HFI : Hid (LeadTo f S T k k LL) := by
        have : b = k := by omega
        subst this
        exact hld
      clear hld hrow hsl hgr
      go_wp2
      go_end0
      exact ⟨rfl, VV, LL, HRO.out, HSO.out, HFI.out, HGO.out⟩
end Go.Proofs.YtldbmdgpdolaaaaDoor
namespace Go.Proofs.YtldbmdgpdolaaaaDoor
open Go Go.RowKit

theorem own_mono {w : World} {base base' t size n : Nat} {v : Value} {xs : List Value} (h : w.ownsRow base t size v n xs) (hb : base' ≤ base) : w.ownsRow base' t size v n xs :=
  ⟨h.1, h.2.imp id fun ⟨g, cap, cur, a, b, c⟩ => ⟨g, cap, cur, a, Nat.le_trans hb b, c⟩⟩
theorem upd_cast (T : Nat → Nat) (i t : Nat) : (fun j => ((upd T i t j : Nat) : Int)) = upd (fun j => ((T j : Nat) : Int)) i ((t : Nat) : Int) := by
  funext j
  unfold upd
  split <;> rfl
structure BlocksAt (w : World) (base g : Nat) (f : Fn) (S : List Nat) (T : Nat → Nat) (VV : Nat → Value) (LL : Nat → List Int) : Prop where
  starts : Starts f S
  ends : ∀ i (hi : i < S.length), EndAt f S S[i] (T i)
  row : BlkRow w g S.length (fun i => ((S.getD i 0 : Nat) : Int)) (fun i => ((T i : Nat) : Int)) VV
  slots : Slots w base (2 * S.length) VV LL
  led : LeadTo f S T S.length S.length LL
set_option maxRecDepth 100000 in
set_option maxHeartbeats 8000000 in
theorem blocks_any (P : List Fn) (hR : ProofAns P 0) (k : Nat) (hk : k < P.length) (v : Value) (w : World) (ht : TabOk w) (_hc : CallOk w) (hv : ProgVal w v P) :
    Calls Tryd.prog 44 #[.agg #[v], .int .i64 k] w fun e w' => ∃ g S T VV LL, e = .returned (.slice (some ⟨g, 0, none⟩) S.length S.length) ∧ BlocksAt w' w.heap.size g P[k] S T VV LL ∧ w.heap.size ≤ g ∧ Below w.heap.size w w' := by
  obtain ⟨iB, hiB, hzB0, hzB1, hzB2⟩ := info_parts infoBlk
  have hP := right_code hR
  have OK : Hid (FlowOk P P[k]) := flowOk_of hR (List.getElem_mem hk)
  have hl1 := OK.out.ok.len1
  have hl2 := OK.out.ok.len2
  have hfe := fnErr_ok hP hk
  have HRE : Hid (∀ A, SureAns P k A → A.length = P[k].code.length ∧ ∀ q, q < P[k].code.length → (0 ≤ A.getD q 0 ↔ Way P[k] 63 q)) := fun A hA => reach_sure hfe hk hA
  have hbx : ∀ o, Below w.heap.size w (w.alloc o) := fun o => (Below.refl _ _).alloc (Nat.le_refl _) _
  have hSu := fun o => sure_all P v k (w.alloc o) (ht.below (hbx o)) (hv.keeps (keeps_below (hbx o)))
  rw [hfe] at hSu
  obtain ⟨b, off, cap, u, rfl, d0, d1, d2, hcv, hm, hcc⟩ := prog_fn hv hk
  have HCV : Hid (CodeVal w u P[k].code) := hcv
  have HBG : Hid (∀ W sv A, Below w.heap.size w W → IntsVal W sv A → SureAns P k A → Calls Tryd.prog 72 #[u, sv] W fun e w' => ∃ m D S, e = .returned (.map (some W.heap.size)) ∧ Starts P[k] S ∧ MapOk S D ∧ MapAt w' W.heap.size m D ∧ m ≤ 1000 ∧ Below W.heap.size W w') := fun W sv A hb hI hA => flowBegun_any P P[k] OK.out u sv A W (hcv.keeps (keeps_below hb)) hI (HRE.out A hA).1 (HRE.out A hA).2
  have hkI : (k : Int) < P.length := by omega
  have d2' := fun o => cell_alloc d2 o
  obtain ⟨uo, un, uc, rfl⟩ : ∃ uo un uc, u = .slice uo un uc := by obtain ⟨ao, b, off, n, cap, rfl, _⟩ := hcv; exact ⟨ao, n, cap, rfl⟩
  clear hfe hbx ht hv hcv hP d0 d1
  generalize P[k] = f at *
  go_enter Tryd.func44, Tryd.ntmps44
  go_upto_region 4 with (first
    | (go_at_call 37; refine (hSu _).mono ?_; rintro e w1 ⟨v1, A, rfl, hA, hI, hb1⟩; have HB1 : Hid (Below w.heap.size w w1) := ((Below.refl _ _).alloc (Nat.le_refl _) _).trans (hb1.mono (by simp)); obtain ⟨ao1, cap1, rfl⟩ := hI.shape; have hBg := HBG.out w1 _ A HB1.out hI hA)
    | (go_at_call 72; refine hBg.mono ?_; rintro e w2 ⟨m, D, S, rfl, hst, hmo, hown, hm1000, hb2⟩))
  have hz1 := HB1.out.size
  have hz2 := hb2.size
  have hzB : w1.heap.size < w2.heap.size := hown.lt
  have HB2 : Hid (Below w.heap.size w w2) := below_call HB1.out hz1 hb2
  have HST : Hid (Starts f S) := hst
  have HMO : Hid (MapOk S D) := hmo
  have hsz : Maps.size D = S.length := hmo.size
  obtain ⟨hk0, -⟩ := hst.first
  have hkn : S.length ≤ 1000 := by
    have hlt : ∀ x ∈ S, x < f.code.length := fun x hx => (hst.reach OK.out hx).2
    have h1 := rank_all hlt
    have h2 : ∀ j, rank S j ≤ j := fun j => by
      induction j with
      | zero => rw [rank_zero]; omega
      | succ j ih => rw [rank_next hst.rises]; split <;> omega
    have := h2 f.code.length
    omega
  have HOW2 : Hid (MapAt w2 w1.heap.size m D) := hown
  generalize w1.heap.size = B at *
  clear hst hmo hI hA hb1 hb2 hBg hSu d2' d2
  go_upto_region 6 with (first
    | (at_len; refine wpList_len_own _ rfl _ 82 rfl 3 3 Tryd.underlying82 _ B m D rfl hown ?_)
    | (at_make; refine wpList_make_full _ rfl (.tmp 28) (.tmp 28) 54 rfl 0 107 iB _ 4 Tryd.underlying54 hiB hzB0 hzB1 .i64 .i64 _ _ S.length rfl rfl (by simp [hsz]) (by simp [hsz]) (by rw [hzB2]; omega) (by unfold maxLen; omega) (Nat.zero_le _) ?_; intro w3 hown3 hg3; rw [made_blks] at hown3; have HM3 := hown.kept hg3 (by simp))
    | (at_range; refine wpList_range_own _ rfl _ 82 rfl 3 3 mlaw Tryd.underlying82 _ B m D rfl HM3 ?_; intro w4 hrg4 hg4 hs4))
  have hz3 := hg3.size
  have hgz : w2.heap.size < w3.heap.size := by
    have h := (World.ownsRow.lt hown3 w2.heap.size rfl).2
    exact h
  have HB4 : Hid (Below w.heap.size w w4) := below_call (below_call HB2.out (by omega) (below_grown hg3)) (by omega) (below_grown hg4)
  have HR4 : Hid (BlkRow w4 w2.heap.size S.length (fun _ => 0) (fun i => (((fun _ => 0) i : Nat) : Int)) (fun _ => .slice none 0 0)) := World.ownsRow.kept hown3 hg4 (Or.inr (by simp [Value.ownBlock]))
  have HRG : Hid (w4.ranges Tryd.prog 3 (plainElem Tryd.prog 3) B w3.heap.size m D (Maps.has D) (Maps.size D)) := hrg4
  have hBg : B ≠ w2.heap.size := by omega
  have hrg : w3.heap.size ≠ w2.heap.size := by omega
  generalize hGG : w2.heap.size = g at *
  generalize hRR : w3.heap.size = r at *
  have hgw : w.heap.size ≤ g := by omega
  have hBw : w.heap.size ≤ B := hz1
  have hrw : w.heap.size ≤ r := by omega
  clear hown3 hg3 HM3 hrg4 hg4 hown HOW2
  go_loopw [10] (fun _ wr => ∃ (left : Lit → Bool) (cnt : Nat) (F : Nat → Int) (T : Nat → Nat), wr.ranges Tryd.prog 3 (plainElem Tryd.prog 3) B r m D left cnt ∧ (∀ z, left z = true → Maps.has D z = true) ∧ BlkRow wr g S.length F (fun i => ((T i : Nat) : Int)) (fun _ => .slice none 0 0) ∧ (∀ i (hi : i < S.length), left (.int .i64 ((S[i] : Nat) : Int)) = false → F i = ((S[i] : Nat) : Int) ∧ EndAt f S S[i] (T i)) ∧ Below w.heap.size w wr) (fun _ wr => wr.rangeLeft B r)
  case atStart =>
    refine ⟨_, _, _, fun _ => 0, HRG.out, fun _ h => h, HR4.out, fun i hi h => ?_, HB4.out⟩
    have hh := (HMO.out.has ((S[i] : Nat) : Int)).2 ⟨S[i], List.getElem_mem hi, rfl⟩
    rw [h] at hh
    cases hh
  case round =>
    obtain ⟨left, cnt, F, T, hrng, hsub, hrow, hdone, hbr⟩ := hrel
    have HSUB : Hid (∀ z, left z = true → Maps.has D z = true) := hsub
    have HDN : Hid (∀ i (hi : i < S.length), left (.int .i64 ((S[i] : Nat) : Int)) = false → F i = ((S[i] : Nat) : Int) ∧ EndAt f S S[i] (T i)) := hdone
    have HBR : Hid (Below w.heap.size w wr) := hbr
    have HRW : Hid (BlkRow wr g S.length F (fun i => ((T i : Nat) : Int)) (fun _ => .slice none 0 0)) := hrow
    have HRN : Hid (wr.ranges Tryd.prog 3 (plainElem Tryd.prog 3) B r m D left cnt) := hrng
    have hzr := hbr.size
    have HLEFT : Hid (wr.rangeLeft B r = cnt) := hrng.left_eq
    clear hsub hdone hbr hrow
    go_upto_region 8 with (at_next; refine wpList_next_ranges_ii _ rfl _ rfl 3 3 .i64 .i64 mlaw Tryd.underlying3 Tryd.underlying3 B r m D left cnt rfl hrng ?_ ?_)
    · intro _ hl0
      have HMP : Hid (MapAt wr B m D) := HRN.out.owns
      have HFT : Hid (∀ i (hi : i < S.length), F i = ((S[i] : Nat) : Int) ∧ EndAt f S S[i] (T i)) := fun i hi => HDN.out i hi (hl0 _)
      have HLEAD : Hid (Calls Tryd.prog 74 #[.slice (some ⟨g, 0, none⟩) S.length S.length, .slice uo un uc, .map (some B)] wr fun e w' => e = .returned (.tuple #[]) ∧ ∃ VV LL, BlkRow w' g S.length F (fun i => ((T i : Nat) : Int)) VV ∧ Slots w' wr.heap.size (2 * S.length) VV LL ∧ LeadTo f S T S.length S.length LL ∧ wr.grownBy w' (some g)) := lead_any P f OK.out S HST.out D HMO.out B m g F T (fun i hi => (HFT.out i hi).2) _ w wr HBR.out hgw HCV.out HMP.out HRW.out
      clear hl0 hrng
      go_wp2_with (go_at_call 74; refine HLEAD.out.mono ?_; rintro e w5 ⟨rfl, VV, LL, hr5, hs5, hl5, hg5⟩)
      go_ret
      refine ⟨g, S, T, VV, LL, rfl, ⟨HST.out, fun i hi => (HFT.out i hi).2, ?_, ?_, hl5⟩, hgw, below_gb HBR.out hg5 hgw (by omega)⟩
      · have e : bCells (fun i => ((S.getD i 0 : Nat) : Int)) (fun i => ((T i : Nat) : Int)) VV S.length = bCells F (fun i => ((T i : Nat) : Int)) VV S.length := bCells_same _ fun i hi => ⟨by rw [(HFT.out i hi).1]; simp [List.getD, hi], rfl, rfl, rfl⟩
        show World.ownsRow _ _ _ _ _ _ (bCells _ _ _ _)
        rw [e]
        exact hr5
      · exact ⟨fun s hs => own_mono (hs5.own s hs) (by omega), hs5.apart⟩
    · intro x c w5 cnt5 hwx hwc hlx hat hrg5 hlt5 hg5 hs5 hen
      obtain ⟨q, hqS, hxq⟩ := (HMO.out.has x).1 (HSUB.out _ hlx)
      subst hxq
      obtain ⟨hrl, hrs⟩ := rank_lt HST.out.rises hqS
      have hrs := hrs hrl
      have hcr : c = ((rank S q : Nat) : Int) := by
        have h := hat (.lit (.int .i64 0))
        rw [HMO.out.key q hqS] at h
        simp at h
        exact h.symm
      subst hcr
      have HR5 : Hid (BlkRow w5 g S.length F (fun i => ((T i : Nat) : Int)) (fun _ => .slice none 0 0)) := World.ownsRow.kept HRW.out hg5 (Or.inr (by simp [Value.ownBlock]; omega))
      have HB5 : Hid (Below w.heap.size w w5) := below_gb HBR.out hg5 hrw (by omega)
      have HRG5 : Hid (w5.ranges Tryd.prog 3 (plainElem Tryd.prog 3) B r m D (fun z => left z && !z.sameKey (.int .i64 ((q : Nat) : Int))) cnt5) := hrg5
      have HEND : Hid (Calls Tryd.prog 73 #[.slice uo un uc, .int .i64 ((q : Nat) : Int), .map (some B)] w5 fun e w' => ∃ t, e = .returned (.int .i64 ((t : Nat) : Int)) ∧ EndAt f S q t ∧ w' = w5) := flowEnd_any P f OK.out S HST.out D HMO.out B m q hqS _ w5 (HCV.out.keeps (keeps_below HB5.out)) hrg5.owns
      have HQ : Hid (S[rank S q]'hrl = q) := hrs
      have HLT5 : Hid (cnt5 < cnt) := hlt5
      have c0 := blk_from HR5.out (rank S q) hrl
      have c1 := blk_to HR5.out (rank S q) hrl
      have f0 := HR5.out.frozenAt (rank S q * 4)
      have f1 := HR5.out.frozenAt (rank S q * 4 + 1)
      have HPUT : Hid (∀ t : Nat, BlkRow ((w5.setCell ⟨g, rank S q * 4, none⟩ (.int .i64 ((q : Nat) : Int))).setCell ⟨g, rank S q * 4 + 1, none⟩ (.int .i64 ((t : Nat) : Int))) g S.length (upd F (rank S q) ((q : Nat) : Int)) (upd (fun i => ((T i : Nat) : Int)) (rank S q) ((t : Nat) : Int)) (fun _ => .slice none 0 0) ∧ w5.grownBy ((w5.setCell ⟨g, rank S q * 4, none⟩ (.int .i64 ((q : Nat) : Int))).setCell ⟨g, rank S q * 4 + 1, none⟩ (.int .i64 ((t : Nat) : Int))) (some g)) := fun t => by
        have h1 := blk_store HR5.out (rank S q * 4) (.int .i64 ((q : Nat) : Int)) (bCells_from _ _ _ _ _ hrl _)
        have h2 := blk_store h1.1 (rank S q * 4 + 1) (.int .i64 ((t : Nat) : Int)) (bCells_to _ _ _ _ _ hrl _)
        exact ⟨h2.1, gb_trans h1.2 h2.2⟩
      have HNX : Hid (∀ t, EndAt f S q t → ∀ i (hi : i < S.length), (left (.int .i64 ((S[i] : Nat) : Int)) && !(Lit.int .i64 ((S[i] : Nat) : Int)).sameKey (.int .i64 ((q : Nat) : Int))) = false → upd F (rank S q) ((q : Nat) : Int) i = ((S[i] : Nat) : Int) ∧ EndAt f S S[i] (upd T (rank S q) t i)) := fun t ht i hi h => by
        by_cases hir : i = rank S q
        · subst hir
          rw [upd_same, upd_same, HQ.out]
          exact ⟨rfl, ht⟩
        · have hne : S[i] ≠ q := fun e => hir (by rw [← e]; exact (rank_at HST.out.rises i hi).symm)
          rw [Maps.sameKey_ne (by simp; omega)] at h
          rw [upd_other _ hir, upd_other _ hir]
          exact HDN.out i hi (by simpa using h)
      have hrI : ((rank S q : Nat) : Int) < S.length := by omega
      have hc1' : (w5.setCell ⟨g, rank S q * 4, none⟩ (.int .i64 ((q : Nat) : Int))).cell? ⟨g, rank S q * 4 + 1, none⟩ = some (.int .i64 ((T (rank S q) : Nat) : Int)) := by
        have h1 := blk_store HR5.out (rank S q * 4) (.int .i64 ((q : Nat) : Int)) (bCells_from _ _ _ _ _ hrl _)
        exact blk_to h1.1 (rank S q) hrl
      clear hlx hat hrg5 hlt5 hg5 hrng hrs hqS
      generalize rank S q = rk at *
      go_wp2_with (go_at_call 73; refine HEND.out.mono ?_; rintro e w6 ⟨t, rfl, hte, hw6⟩; replace hw6 := hw6.symm; subst hw6)
      go_roundw
      case rel =>
        refine ⟨_, cnt5, upd F rk ((q : Nat) : Int), upd T rk t, HRG5.out.kept (HPUT.out t).2 (by simpa using hBg) (by simpa using hrg), fun z hz => HSUB.out z (by simp at hz; exact hz.1), ?_, HNX.out t hte, below_gb HB5.out (HPUT.out t).2 hgw (by omega)⟩
        rw [upd_cast]
        exact (HPUT.out t).1
      case measure =>
        rw [(HRG5.out.kept (HPUT.out t).2 (by simpa using hBg) (by simpa using hrg)).left_eq, HLEFT.out]
        exact HLT5.out
set_option maxRecDepth 100000 in
theorem Blocks_right (P : List Fn) (hR : ProofAns P 0) (k : Nat) (hk : k < P.length) (v : Value) (w : World) (ht : TabOk w) (hc : CallOk w) (hv : ProgVal w v P) :
    Calls Tryd.prog 27 #[.agg #[v], .int .i64 k] w fun e w' => ∃ g S T VV LL, e = .returned (.tuple #[.slice (some ⟨g, 0, none⟩) S.length S.length, .int .i64 0]) ∧ BlocksAt w' w.heap.size g P[k] S T VV LL ∧ w.heap.size ≤ g ∧ Below w.heap.size w w' := by
  have hbx : ∀ o, Below w.heap.size w (w.alloc o) := fun o => (Below.refl _ _).alloc (Nat.le_refl _) _
  have hC := fun o => flowCheck_any P v k (w.alloc o) (ht.below (hbx o)) (hc.below (hbx o)) (hv.keeps (keeps_below (hbx o)))
  have HLV : Hid (∀ W, Below w.heap.size w W → Calls Tryd.prog 44 #[.agg #[v], .int .i64 k] W fun e w' => ∃ g S T VV LL, e = .returned (.slice (some ⟨g, 0, none⟩) S.length S.length) ∧ BlocksAt w' W.heap.size g P[k] S T VV LL ∧ W.heap.size ≤ g ∧ Below W.heap.size W w') := fun W hb => blocks_any P hR k hk v W (ht.below hb) (hc.below hb) (hv.keeps (keeps_below hb))
  have HE0 : Hid (∀ E, FlowErr P k E → E = 0) := fun E h => flowErr_right h hR (by omega) (by omega)
  obtain ⟨ao, n, cap, rfl⟩ := hv.shape
  clear ht hc hbx
  go_enter Tryd.func27, Tryd.ntmps27
  go_wp2_with (first
    | (go_at_call 22; refine (hC _).mono ?_; rintro e w1 ⟨E, rfl, hE, hb1⟩; obtain rfl := HE0.out E hE; have k0 := keeps_below hb1 ⟨w.heap.size, 0, none⟩ (.slice ao n cap) (by simp); have HB1 : Hid (Below w.heap.size w w1) := ((Below.refl _ _).alloc (Nat.le_refl _) _).trans (hb1.mono (by simp)); clear hE)
    | (go_at_call 44; refine (HLV.out _ HB1.out).mono ?_; rintro e w2 ⟨g, S, T, VV, LL, rfl, hB, hgw, hb2⟩))
  go_ret2
  have hz := HB1.out.size
  exact ⟨g, S, T, VV, LL, rfl, ⟨hB.starts, hB.ends, hB.row, ⟨fun s hs => own_mono (hB.slots.own s hs) hz, hB.slots.apart⟩, hB.led⟩, by omega, HB1.out.trans (hb2.mono hz)⟩
end Go.Proofs.YtldbmdgpdolaaaaDoor
namespace Go.Proofs.YtldbmdgpdolaaaaDoor
open Go Go.RowKit

theorem BlocksAt.below {w w' : World} {base g : Nat} {f : Fn} {S : List Nat} {T : Nat → Nat} {VV : Nat → Value} {LL : Nat → List Int} (h : BlocksAt w base g f S T VV LL) (hb : Below w.heap.size w w') : BlocksAt w' base g f S T VV LL :=
  ⟨h.starts, h.ends, ownsRow_below h.row hb, h.slots.below hb, h.led⟩
theorem BlocksAt.cells {w : World} {base g : Nat} {f : Fn} {S : List Nat} {T : Nat → Nat} {VV : Nat → Value} {LL : Nat → List Int} (h : BlocksAt w base g f S T VV LL) (i : Nat) (hi : i < S.length) :
    w.cell? ⟨g, i * 4, none⟩ = some (.int .i64 ((S[i] : Nat) : Int)) ∧ w.cell? ⟨g, i * 4 + 1, none⟩ = some (.int .i64 ((T i : Nat) : Int)) ∧ w.cell? ⟨g, i * 4 + 2, none⟩ = some (VV (2 * i)) ∧ w.cell? ⟨g, i * 4 + 3, none⟩ = some (VV (2 * i + 1)) := by
  refine ⟨?_, blk_to h.row i hi, blk_next h.row i hi, blk_prev h.row i hi⟩
  rw [blk_from h.row i hi]
  simp [List.getD, hi]
theorem own_ints {w : World} {base : Nat} {v : Value} {l : List Int} (h : OwnI w base v l) : IntsVal w v l := ints_of_own h
theorem BlocksAt.next {w : World} {base g : Nat} {f : Fn} {S : List Nat} {T : Nat → Nat} {VV : Nat → Value} {LL : Nat → List Int} (h : BlocksAt w base g f S T VV LL) (i : Nat) (hi : i < S.length) : IntsVal w (VV (2 * i)) (nxI f S (T i)) ∧ IntsVal w (VV (2 * i + 1)) (pvI f S T S.length i) := by
  have h1 := own_ints (h.slots.own (2 * i) (by omega))
  have h2 := own_ints (h.slots.own (2 * i + 1) (by omega))
  rw [(h.led i hi).1, if_pos hi] at h1
  rw [(h.led i hi).2] at h2
  exact ⟨h1, h2⟩
theorem starts_len {P : List Fn} {f : Fn} (ok : FlowOk P f) {S : List Nat} (h : Starts f S) : S.length ≤ f.code.length := by
  have hlt : ∀ x ∈ S, x < f.code.length := fun x hx => (h.reach ok hx).2
  have h1 := rank_all hlt
  have h2 : ∀ j, rank S j ≤ j := fun j => by
    induction j with
    | zero => rw [rank_zero]; omega
    | succ j ih => rw [rank_next h.rises]; split <;> omega
  have := h2 f.code.length
  omega
structure BlkOk (f : Fn) (S : List Nat) (T : Nat → Nat) : Prop where
  starts : Starts f S
  ends : ∀ i (hi : i < S.length), EndAt f S S[i] (T i)
theorem BlocksAt.ok {w : World} {base g : Nat} {f : Fn} {S : List Nat} {T : Nat → Nat} {VV : Nat → Value} {LL : Nat → List Int} (h : BlocksAt w base g f S T VV LL) : BlkOk f S T := ⟨h.starts, h.ends⟩
theorem BlkOk.apart {f : Fn} {S : List Nat} {T : Nat → Nat} (h : BlkOk f S T) {i j : Nat} (hj : j < S.length) (hij : i < j) : T i ≤ S[j] := by
  have hlt := List.pairwise_iff_getElem.1 h.starts.rises i j (by omega) hj hij
  rcases Nat.lt_or_ge S[j] (T i) with h1 | h1
  · exact absurd (List.getElem_mem hj) ((h.ends i (by omega)).goes S[j] hlt h1).2
  · exact h1
def InBlk (S : List Nat) (T : Nat → Nat) (pc i : Nat) : Prop := ∃ hi : i < S.length, S[i] ≤ pc ∧ pc < T i
theorem BlkOk.one {f : Fn} {S : List Nat} {T : Nat → Nat} (h : BlkOk f S T) {pc i j : Nat} (h1 : InBlk S T pc i) (h2 : InBlk S T pc j) : i = j := by
  obtain ⟨hi, a1, a2⟩ := h1
  obtain ⟨hj, b1, b2⟩ := h2
  rcases Nat.lt_trichotomy i j with hl | hl | hl
  · have := h.apart hj hl; omega
  · exact hl
  · have := h.apart hi hl; omega
theorem BlkOk.reach {P : List Fn} {f : Fn} (ok : FlowOk P f) {S : List Nat} {T : Nat → Nat} (h : BlkOk f S T) {pc i : Nat} (h1 : InBlk S T pc i) : Way f 63 pc := by
  obtain ⟨hi, a1, a2⟩ := h1
  exact (h.ends i hi).reach ok (h.starts.reach ok (List.getElem_mem hi)).1 pc a1 a2
theorem BlkOk.start {f : Fn} {S : List Nat} {T : Nat → Nat} (h : BlkOk f S T) {q : Nat} (hq : q ∈ S) : InBlk S T q (rank S q) := by
  obtain ⟨h1, h2⟩ := rank_lt h.starts.rises hq
  have h2 := h2 h1
  refine ⟨h1, by omega, ?_⟩
  have := (h.ends _ h1).lt
  omega
theorem BlkOk.mid {f : Fn} {S : List Nat} {T : Nat → Nat} (h : BlkOk f S T) {pc i : Nat} (h1 : InBlk S T pc i) (h2 : pc ≠ T i - 1) : (insD f pc).op < 15 := by
  obtain ⟨hi, a1, a2⟩ := h1
  have := ((h.ends i hi).goes (pc + 1) (by omega) (by omega)).1
  rwa [Nat.add_sub_cancel] at this
theorem BlkOk.cover {P : List Fn} {f : Fn} (ok : FlowOk P f) {S : List Nat} {T : Nat → Nat} (h : BlkOk f S T) {pc : Nat} (hw : Way f 63 pc) : ∃ i, InBlk S T pc i := by
  induction hw with
  | start _ => exact ⟨_, h.start h.starts.zero⟩
  | @step pc q hpc hw _ ht ih =>
    obtain ⟨i, hin⟩ := ih
    by_cases hl : pc = T i - 1
    · obtain ⟨hi, a1, a2⟩ := hin
      refine ⟨_, h.start ((h.ends i hi).leads ok h.starts (h.starts.reach ok (List.getElem_mem hi)).1 (q := q) (by rw [← hl]; exact ht))⟩
    · have hop := h.mid hin hl
      rw [behind_on _ _ hop] at ht
      have : q = pc + 1 := by simpa using ht
      subst this
      obtain ⟨hi, a1, a2⟩ := hin
      exact ⟨i, hi, by omega, by omega⟩
set_option maxRecDepth 100000 in
theorem hasList_any (l : List Int) (v : Value) (z : Int) (w : World) (h : IntsVal w v l) :
    Calls Tryd.prog 9 #[v, .int .i64 z] w fun e w' => e = .returned (.bool (decide (z ∈ l))) ∧ w' = w := by
  obtain ⟨ao, b, off, n, cap, rfl, hl, ha, hc, hcp, hm⟩ := ints_get h
  have HC : Hid (∀ k, k < n → w.cell? ⟨b, off + k, none⟩ = some (.int .i64 (l.getD k 0))) := hc
  have HA : Hid (0 < n → ao = some ⟨b, off, none⟩) := ha
  have HL : Hid (l.length = n) := hl
  obtain ⟨B, hB⟩ : ∃ B, B = decide (z ∈ l) := ⟨_, rfl⟩
  have HBB : Hid (B = decide (z ∈ l)) := hB
  rw [← hB]
  clear h hc ha hl hB
  go_enter Tryd.func9, Tryd.ntmps9
  go_wp2
  go_loopw [5] (fun i wr => ∃ q : Nat, q ≤ n ∧ i = .int .i64 q ∧ (∀ j, j < q → l.getD j 0 ≠ z) ∧ wr = w) (fun i _ => n - (intOf i).toNat)
  case atStart => exact ⟨0, Nat.zero_le _, rfl, fun j h => by omega, rfl⟩
  case round =>
    obtain ⟨q, hq, rfl, hno, hwr⟩ := hrel
    subst hwr
    have HNO : Hid (∀ j, j < q → l.getD j 0 ≠ z) := hno
    clear hno
    by_cases hlt : q < n
    · obtain rfl := HA.out (by omega)
      have cq := HC.out q hlt
      have hqI : (q : Int) < n := by omega
      have HMEM : Hid (l.getD q 0 ∈ l) := by
        show _ ∈ _
        have : q < l.length := by rw [HL.out]; exact hlt
        simp [List.getD, this]
      by_cases he : l.getD q 0 = z
      · have HBT : Hid (B = true) := by show _ = _; rw [HBB.out, ← he]; simpa using HMEM.out
        rw [he] at cq
        clear he
        go_wp2
        go_ret
        exact ⟨by rw [HBT.out]; rfl, rfl⟩
      · have he2 : (l.getD q 0 == z) = false := by simpa using he
        have HNN : Hid (∀ j, j < q + 1 → l.getD j 0 ≠ z) := fun j hj => by
          by_cases hjq : j = q
          · rw [hjq]; exact he
          · exact HNO.out j (by omega)
        clear he
        generalize l.getD q 0 = y at cq he2
        go_wp2
        go_roundw
        case rel => exact ⟨q + 1, by omega, by go_num, HNN.out, by trivial⟩
        case measure => simp [intOf]; omega
    · have HBF : Hid (B = false) := by
        show _ = _
        rw [HBB.out]
        simp only [decide_eq_false_iff_not]
        intro hm
        obtain ⟨i, hi, e⟩ := List.getElem_of_mem hm
        exact HNO.out i (by rw [HL.out] at hi; omega) (by simp [List.getD, hi, e])
      go_wp2
      go_ret
      exact ⟨by rw [HBF.out]; rfl, rfl⟩
end Go.Proofs.YtldbmdgpdolaaaaDoor
namespace Go.Proofs.YtldbmdgpdolaaaaDoor
open Go Go.RowKit

theorem pvI_mem (f : Fn) (S : List Nat) (T : Nat → Nat) (b i j : Nat) : ((j : Nat) : Int) ∈ pvI f S T b i ↔ j < b ∧ ((i : Nat) : Int) ∈ nxI f S (T j) := by
  unfold pvI
  rw [List.mem_append]
  constructor
  · rintro (h | h)
    · split at h
      · have := List.mem_singleton.1 h; omega
      · cases h
    · obtain ⟨x, hx, e⟩ := List.mem_map.1 h
      obtain rfl : x = j := by omega
      obtain ⟨h1, h2⟩ := List.mem_filter.1 hx
      exact ⟨List.mem_range.1 h1, by simpa using h2⟩
  · rintro ⟨h1, h2⟩
    exact Or.inr (List.mem_map.2 ⟨j, List.mem_filter.2 ⟨List.mem_range.2 h1, by simpa using h2⟩, rfl⟩)
theorem BlkOk.prev {P : List Fn} {f : Fn} (ok : FlowOk P f) {S : List Nat} {T : Nat → Nat} (h : BlkOk f S T) {i : Nat} (hi : i < S.length) : 0 < (pvI f S T S.length i).length := by
  by_cases h0 : i = 0
  · unfold pvI
    rw [if_pos h0, List.length_append]
    simp only [List.length_singleton]
    omega
  · have hpos := List.pairwise_iff_getElem.1 h.starts.rises 0 i (by omega) hi (by omega)
    rcases (h.starts.iff _).1 (List.getElem_mem hi) with e | ⟨pc, h1, h2, h3, h4⟩
    · omega
    · obtain ⟨j, hj⟩ := h.cover ok h2
      have hl : pc = T j - 1 := by
        by_cases he : pc = T j - 1
        · exact he
        · have := h.mid hj he; omega
      have hm : ((j : Nat) : Int) ∈ pvI f S T S.length i := (pvI_mem f S T S.length i j).2 ⟨hj.1, (nxI_mem f S (T j) _).2 ⟨S[i], by rw [← hl]; exact h4, by rw [rank_at h.starts.rises i hi]⟩⟩
      exact List.length_pos_of_mem hm
end Go.Proofs.YtldbmdgpdolaaaaDoor
