import Derived.Test.YtfacdhkadnmnlaaDoorPGroupA
import Derived.Test.YtfacdhkadnmnlaaDoorPXSRead5
namespace Go.Proofs.YtfacdhkadnmnlaaDoor
open Go Go.RowKit Go.Shelf

attribute [local go_sem] Oper.semAt_some

def readErr (s : Pc) : Int := if 10000 < s.length then 1 else match readOn [] (linesB s) with | none => 5 | some P => codeProg P
def readPlace (s : Pc) : Int := if 10000 < s.length then 0 else match readOn [] (linesB s) with | none => readAt [] (linesB s) | some _ => 0
def readProg (s : Pc) : List Fn := if readErr s = 0 then (readOn [] (linesB s)).getD [] else []
def ReadPost (w : World) (s : Pc) (e : Ending) (w' : World) : Prop := ∃ u us, e = .returned (.tuple #[.agg #[u], .int .i64 (readPlace s), .int .i64 (readErr s)]) ∧ Built w' w.heap.size 37 51 u (readProg s) us ∧ Below w.heap.size w w'
def ResAt (w W : World) (v : Value) (i e : Int) : Prop :=
 W.heap[w.heap.size]? = some (.cells #[v] 24 (0, 0)) ∧ W.heap[w.heap.size + 1]? = some (.cells #[.int .i64 i] 3 (0, 0)) ∧ W.heap[w.heap.size + 2]? = some (.cells #[.int .i64 e] 25 (0, 0))
structure RdI (w : World) (pre : List Ln) (W : World) : Prop where
 prog : ∃ P vo us, readOn [] (pre.map (·.1.2)) = some P ∧ PBx W (w.heap.size + 3) (w.heap.size + 4) P vo us ∧ P.length ≤ pre.length ∧ ∀ f ∈ P, f.code.length ≤ pre.length
 res : ResAt w W (.slice none 0 0) 0 0
 below : Below w.heap.size w W
structure RdX (w : World) (c : Code) (pre : List Ln) (W : World) : Prop where
 code : c = .ret
 bad : ∃ pre0 x P, pre = pre0 ++ [x] ∧ readOn [] (pre0.map (·.1.2)) = some P ∧ addLine P x.1.2 = none ∧ ResAt w W (.slice none 0 0) x.1.1 5
 below : Below w.heap.size w W
theorem heap_other {A B : World} {row : Option Nat} (hg : A.grownBy B row) (hr : ∀ r, row = some r → ∃ o : Obj, A.heap[r]? = some o ∧ o.isCells = false) {k : Nat} {cs : Array Value} {t : Nat} {fr : Nat × Nat} (h : A.heap[k]? = some (.cells cs t fr)) : B.heap[k]? = some (.cells cs t fr) := by
 refine (hg.block k (lt_of_block h) fun e => ?_).trans h
 obtain ⟨o, ho, hc⟩ := hr k e.symm
 rw [h] at ho
 cases ho
 cases hc
theorem own_other {A B : World} {row : Option Nat} (hg : A.grownBy B row) (hr : ∀ r, row = some r → ∃ o : Obj, A.heap[r]? = some o ∧ o.isCells = false) {base t size n : Nat} {v : Value} {xs : List Value} (h : A.ownsRow base t size v n xs) : B.ownsRow base t size v n xs := by
 refine ⟨h.1, ?_⟩
 rcases h.2 with h2 | ⟨g, cap, cur, hv, hb, hh, r⟩
 ·exact Or.inl h2
 ·exact Or.inr ⟨g, cap, cur, hv, hb, heap_other hg hr hh, r⟩
theorem PBx.other {A B : World} {row : Option Nat} (hg : A.grownBy B row) (hr : ∀ r, row = some r → ∃ o : Obj, A.heap[r]? = some o ∧ o.isCells = false) {O base : Nat} {P : List Fn} {vo : Value} {us : List Value} (h : PBx A O base P vo us) : PBx B O base P vo us :=
 ⟨heap_other hg hr h.box, ⟨h.blt.len, own_other hg hr h.blt.row, fun i hi => own_other hg hr (h.blt.codes i hi)⟩, h.apart, h.low⟩
theorem ResAt.other {A B : World} {row : Option Nat} (hg : A.grownBy B row) (hr : ∀ r, row = some r → ∃ o : Obj, A.heap[r]? = some o ∧ o.isCells = false) {w : World} {v : Value} {i e : Int} (h : ResAt w A v i e) : ResAt w B v i e :=
 ⟨heap_other hg hr h.1, heap_other hg hr h.2.1, heap_other hg hr h.2.2⟩
theorem RdI.own (w : World) (B : Nat) (hB : w.heap.size ≤ B) : OwnFrom B (RdI w) := fun s A W row hs hg hr => by
 have hr' : ∀ r, row = some r → ∃ o : Obj, A.heap[r]? = some o ∧ o.isCells = false := fun r e => (hr r e).2
 obtain ⟨P, vo, us, h1, h2, h3⟩ := hs.prog
 exact ⟨⟨P, vo, us, h1, h2.other hg hr', h3⟩, hs.res.other hg hr', hs.below.grown hg hs.below.size fun k e => by have := (hr k e).1; omega⟩
theorem RdX.own (w : World) (B : Nat) (hB : w.heap.size ≤ B) (c : Code) : OwnFrom B (RdX w c) := fun s A W row hs hg hr => by
 have hr' : ∀ r, row = some r → ∃ o : Obj, A.heap[r]? = some o ∧ o.isCells = false := fun r e => (hr r e).2
 obtain ⟨p0, x, P, h1, h2, h3, h4⟩ := hs.bad
 exact ⟨hs.code, ⟨p0, x, P, h1, h2, h3, h4.other hg hr'⟩, hs.below.grown hg hs.below.size fun k e => by have := (hr k e).1; omega⟩
theorem addLast_size {P : List Fn} {x : Ins} {m : Nat} (hE : P.isEmpty = false) (h : ∀ f ∈ P, f.code.length ≤ m) : (addLast P x).length = P.length ∧ ∀ f ∈ addLast P x, f.code.length ≤ m + 1 := by
 obtain ⟨Q, f, rfl⟩ := last_cases hE
 rw [addLast_eq]
 refine ⟨by simp, fun g hg => ?_⟩
 rcases List.mem_append.1 hg with h1 | h1
 ·have := h g (List.mem_append.2 (.inl h1)); omega
 ·simp at h1
  subst h1
  have := h f (by simp)
  simpa using this
theorem addLine_size {P Q : List Fn} {l : Pc} {m : Nat} (h : addLine P l = some Q) (hl : P.length ≤ m) (hc : ∀ f ∈ P, f.code.length ≤ m) : Q.length ≤ m + 1 ∧ ∀ f ∈ Q, f.code.length ≤ m + 1 := by
 unfold addLine at h
 split at h
 ·unfold addWords at h
  split at h
  ·unfold addFn at h
   split at h
   ·injection h with h
    subst h
    refine ⟨by simp; omega, fun f hf => ?_⟩
    rcases List.mem_append.1 hf with h1 | h1
    ·have := hc f h1; omega
    ·simp at h1; subst h1; simp
   ·exact absurd h (by simp)
  ·unfold addIns at h
   split at h
   ·exact absurd h (by simp)
   ·split at h
    ·exact absurd h (by simp)
    ·rename_i hE
     split at h
     ·injection h with h
      subst h
      have := addLast_size (x := (insR (↑(opIx ((wordsB (List.take (l.length - 1) l)).headD []))) ⟨(wordsB (List.take (l.length - 1) l)).tail, false⟩).1) (by simpa using hE) hc
      exact ⟨by rw [this.1]; omega, this.2⟩
     ·exact absurd h (by simp)
 ·exact absurd h (by simp)
theorem numbered_snd (k : Nat) (l : List Pc) : (numbered k l).map (·.2) = l := by
 induction l generalizing k with
 | nil => rfl
 | cons a r ih => rw [numbered, List.map_cons, ih]
theorem numbered_at (k : Nat) (l : List Pc) (i : Nat) (x : Nat × Pc) (h : (numbered k l)[i]? = some x) : x.1 = k + i := by
 induction l generalizing k i with
 | nil => simp [numbered] at h
 | cons a r ih =>
  rw [numbered] at h
  cases i with
  | zero => simp at h; subst h; rfl
  | succ i => have := ih (k + 1) i (by simpa using h); omega
theorem at_new {w : World} {o : Obj} {k : Nat} (h : w.heap.size = k) : (w.alloc o).heap[k]? = some o := by subst h; exact heap_alloc_new w o
theorem at_old {w : World} {o v : Obj} {k : Nat} (h : w.heap[k]? = some v) : (w.alloc o).heap[k]? = some v := (heap_alloc_old w o (Array.getElem?_eq_some_iff.1 h).1).trans h
theorem res_of_below {w A B : World} {v : Value} {i e : Int} (h : ResAt w A v i e) (hb : Below (w.heap.size + 3) A B) : ResAt w B v i e :=
 ⟨(hb.block _ (by omega)).trans h.1, (hb.block _ (by omega)).trans h.2.1, (hb.block _ (by omega)).trans h.2.2⟩
theorem res_set {w A : World} {v v' : Value} {i e i' e' : Int} (h : ResAt w A v i e) : ResAt w (((A.setCell ⟨w.heap.size, 0, none⟩ v').setCell ⟨w.heap.size + 1, 0, none⟩ (.int .i64 i')).setCell ⟨w.heap.size + 2, 0, none⟩ (.int .i64 e')) v' i' e' := by
 refine ⟨?_, ?_, ?_⟩
 ·exact (Below.heap_setCell _ _ _ _ (by simp)).trans ((Below.heap_setCell _ _ _ _ (by simp)).trans (one_setCell h.1))
 ·exact (Below.heap_setCell _ _ _ _ (by simp)).trans (one_setCell ((Below.heap_setCell _ _ _ _ (by simp)).trans h.2.1))
 ·exact one_setCell ((Below.heap_setCell _ _ _ _ (by simp)).trans ((Below.heap_setCell _ _ _ _ (by simp)).trans h.2.2))
theorem went_set3 {w A : World} {v : Value} {i e : Value} : Went w.heap.size A (((A.setCell ⟨w.heap.size, 0, none⟩ v).setCell ⟨w.heap.size + 1, 0, none⟩ i).setCell ⟨w.heap.size + 2, 0, none⟩ e) :=
 ((Went.set (p := ⟨w.heap.size, 0, none⟩) (Nat.le_refl _) _).trans (Went.set (p := ⟨w.heap.size + 1, 0, none⟩) (by simp) _)).trans (Went.set (p := ⟨w.heap.size + 2, 0, none⟩) (by simp) _)
theorem Built.other {A B : World} {row : Option Nat} (hg : A.grownBy B row) (hr : ∀ r, row = some r → ∃ o : Obj, A.heap[r]? = some o ∧ o.isCells = false) {base tF tI : Nat} {P : List Fn} {vo : Value} {us : List Value} (h : Built A base tF tI vo P us) : Built B base tF tI vo P us :=
 ⟨h.len, own_other hg hr h.row, fun i hi => own_other hg hr (h.codes i hi)⟩
theorem read_end {w A : World} {D : Nat} {v : Value} {i e : Int} (hK : A.heap[D]? = some (.deferred (some []))) (hD : w.heap.size ≤ D) (hr : ResAt w A v i e) (hb : Below w.heap.size w A) :
  ResAt w (A.putObj D (.deferred none)) v i e ∧ Below w.heap.size w (A.putObj D (.deferred none)) ∧ ∀ base tF tI P vo us, Built A base tF tI vo P us → Built (A.putObj D (.deferred none)) base tF tI vo P us := by
 have hx : ∀ r, some D = some r → ∃ o : Obj, A.heap[r]? = some o ∧ o.isCells = false := fun r e => by cases e; exact ⟨_, hK, rfl⟩
 exact ⟨hr.other (grownBy_putObj' _ D _) hx, hb.trans (belowK_b (w := w) (Nat.le_refl _) A D _ _ hD hK rfl rfl), fun base tF tI P vo us h => h.other (grownBy_putObj' _ D _) hx⟩
theorem built_set3 {w A : World} {tF tI : Nat} {P : List Fn} {vo v : Value} {us : List Value} {i e : Value} (h : Built A (w.heap.size + 4) tF tI vo P us) : Built (((A.setCell ⟨w.heap.size, 0, none⟩ v).setCell ⟨w.heap.size + 1, 0, none⟩ i).setCell ⟨w.heap.size + 2, 0, none⟩ e) (w.heap.size + 4) tF tI vo P us :=
 ((h.setCell (by simp) _).setCell (by simp) _).setCell (by simp) _
set_option maxRecDepth 100000 in
set_option maxHeartbeats 2000000 in
theorem read_long (s : Pc) (w : World) (hl : 10000 < s.length) :
  Calls Tryd.prog 8 #[.string ⟨s.toArray⟩] w fun e w' => ReadPost w s e w' := by
 have h1 : readErr s = 1 := by simp [readErr, hl]
 have h2 : readPlace s = 0 := by simp [readPlace, hl]
 have h3 : readProg s = [] := by simp [readProg, h1]
 unfold ReadPost
 rw [h1, h2, h3]
 clear h1 h2 h3
 have hb : Below w.heap.size w (((w.alloc (.cells #[.slice none 0 0] 24)).alloc (.cells #[.int .i64 0] 3)).alloc (.cells #[.int .i64 1] 25)) := (((Below.refl _ _).alloc (Nat.le_refl _) _).alloc (by simp) _).alloc (by simp; omega) _
 go_enter Tryd.func8, Tryd.ntmps8
 go_wp2
 exact bodyPost_ret (v := .tuple #[.agg #[.slice none 0 0], .int .i64 0, .int .i64 1]) (by simp [results, Tryd.results8, go_sem]) rfl ⟨_, [], rfl, built_nil _ _ _ _, hb⟩
set_option maxRecDepth 100000 in
set_option maxHeartbeats 2000000 in
theorem read_any (s : Pc) (w : World) (hl : s.length ≤ 10000) (hS : StdR w.heap.size w) :
  Calls Tryd.prog 8 #[.string ⟨s.toArray⟩] w fun e w' => ReadPost w s e w' := by
 refine (callsIn_wide (n := 5)).1 ?_
 refine callsIn_of_wp_marks Tryd.func8 rfl trivial ?_ rfl
 simp only [Tryd.ntmps8, List.size_toArray, List.length_cons, List.length_nil, Nat.reduceAdd, Nat.reduceSub, Array.replicate_succ, Array.replicate_zero, List.push_toArray, List.append_toArray, List.nil_append, List.cons_append]
 gi_wp2_with (refine ⟨trivial, ?_⟩; gi_at_call 15; refine (callsIn_wide.2 (lines_any s _)).mono ?_; rintro e w2 ⟨rfl, rfl⟩)
 have e0 : ResAt w (((((w.alloc (.cells #[.slice none 0 0] 24)).alloc (.cells #[.int .i64 0] 3)).alloc (.cells #[.int .i64 0] 25)).alloc (.cells #[.slice none 0 0] 24)).alloc (.cells #[.string ⟨s.toArray⟩] 9)) (.slice none 0 0) 0 0 := by
  exact ⟨at_old (at_old (at_old (at_old (at_new rfl)))), at_old (at_old (at_old (at_new (by simp)))), at_old (at_old (at_new (by simp)))⟩
 have e1 : PBx (((((w.alloc (.cells #[.slice none 0 0] 24)).alloc (.cells #[.int .i64 0] 3)).alloc (.cells #[.int .i64 0] 25)).alloc (.cells #[.slice none 0 0] 24)).alloc (.cells #[.string ⟨s.toArray⟩] 9)) (w.heap.size + 3) (w.heap.size + 4) [] (.slice none 0 0) [] :=
  ⟨at_old (at_new (by simp)), built_nil _ _ _ _, codesApart_nil, by omega⟩
 have e2 : (((((w.alloc (.cells #[.slice none 0 0] 24)).alloc (.cells #[.int .i64 0] 3)).alloc (.cells #[.int .i64 0] 25)).alloc (.cells #[.slice none 0 0] 24)).alloc (.cells #[.string ⟨s.toArray⟩] 9)).cell? ⟨w.heap.size + 4, 0, none⟩ = some (.string ⟨s.toArray⟩) := by
  exact cell_of_one (at_new (by simp))
 have e3 : (((((w.alloc (.cells #[.slice none 0 0] 24)).alloc (.cells #[.int .i64 0] 3)).alloc (.cells #[.int .i64 0] 25)).alloc (.cells #[.slice none 0 0] 24)).alloc (.cells #[.string ⟨s.toArray⟩] 9)).heap.size = w.heap.size + 5 := by simp
 have e4 : Below w.heap.size w (((((w.alloc (.cells #[.slice none 0 0] 24)).alloc (.cells #[.int .i64 0] 3)).alloc (.cells #[.int .i64 0] 25)).alloc (.cells #[.slice none 0 0] 24)).alloc (.cells #[.string ⟨s.toArray⟩] 9)) :=
  (((((Below.refl _ _).alloc (Nat.le_refl _) _).alloc (by simp) _).alloc (by simp; omega) _).alloc (by simp; omega) _).alloc (by simp; omega) _
 generalize ((((w.alloc (.cells #[.slice none 0 0] 24)).alloc (.cells #[.int .i64 0] 3)).alloc (.cells #[.int .i64 0] 25)).alloc (.cells #[.slice none 0 0] 24)).alloc (.cells #[.string ⟨s.toArray⟩] 9) = W0 at e0 e1 e2 e3 e4 ⊢
 simp only [Nat.add_assoc, Nat.reduceAdd]
 refine wpIn_rangeFunc_ownF (F := Fence.wide) (n := 5) rfl (by omega) (gf := 25) (lb := #[.pointer (some ⟨w.heap.size + 4, 0, none⟩)]) rfl trivial (enters_of Tryd.func25 (by kernel_rfl) rfl)
  (lines_stops 4 (by omega) s hl (w.heap.size + 4) W0 e2 (by omega)) walksK_t walksK_b (Below.refl _ _) (fun _ => rfl) (RdI w) (RdX w) (RdI.own w _ (by omega)) (RdX.own w _ (by omega))
  ⟨⟨[], _, _, rfl, e1, by simp, by simp⟩, e0, e4⟩
  (fun x => { tmps := #[.string ⟨s.toArray⟩, undef, .pointer (some ⟨w.heap.size, 0, none⟩), .pointer (some ⟨w.heap.size + 1, 0, none⟩), .pointer (some ⟨w.heap.size + 2, 0, none⟩), .pointer (some ⟨w.heap.size + 3, 0, none⟩), .int .i64 x.1.1, .string ⟨x.1.2.toArray⟩, undef, .string ⟨s.toArray⟩, .int .i64 s.length, .bool (decide (10000 < (s.length : Int))), undef, .string ⟨s.toArray⟩, .func (.func 25) #[] #[.pointer (some ⟨w.heap.size + 4, 0, none⟩)], .int .i64 x.1.1, .string ⟨x.1.2.toArray⟩, undef, undef, undef, undef, undef, undef, undef, undef, undef, undef, undef, undef], defers := [] }) ?assign ?body ?done ?stop
 case assign =>
  intro l x W K hK
  gi_wp2
  exact hK
 case body =>
  rintro l pre x W hI hlen
  obtain ⟨P, vo, us, h1, h2, h3, h4⟩ := hI.prog
  have hz : w.heap.size + 4 ≤ W.heap.size := by have := lt_of_block h2.box; omega
  have hC := saddLine_any x.1.2 x.2.2 h2 ((hS.on hI.below).up (by omega)) hz (by omega) (fun f hf => by have := h4 f hf; omega)
  have HI : Hid (RdI w pre W) := hI
  have H1 : Hid (readOn [] (pre.map (·.1.2)) = some P) := h1
  have H3 : Hid (P.length ≤ pre.length ∧ ∀ f ∈ P, f.code.length ≤ pre.length) := ⟨h3, h4⟩
  cases hr : addLine P x.1.2 with
  | none =>
   rw [hr] at hC
   have HR : Hid (addLine P x.1.2 = none) := hr
   have HX : Hid (∀ W1, Went (w.heap.size + 3) W W1 → ResAt w W1 (.slice none 0 0) 0 0 ∧ Below w.heap.size w W1) := fun W1 hw => ⟨res_of_below HI.out.res hw.below, HI.out.below.trans (hw.below.mono (by omega))⟩
   clear hI h1 h2 h3 h4 hr
   gi_wp2_with (refine ⟨trivial, ?_⟩; gi_at_call 16; refine (CallsIn.inRound l (callsIn_wide.2 hC)).mono ?_; rintro e w2 hA; have HA : Hid (AddPost (w.heap.size + 3) (w.heap.size + 4) W none e w2) := hA; obtain ⟨rfl, _⟩ := hA; have HY : Hid (ResAt w w2 (.slice none 0 0) 0 0 ∧ Below w.heap.size w w2) := HX.out _ HA.out.2.1; have c0 := cell_of_one HY.out.1.1; have c1 := cell_of_one HY.out.1.2.1; have c2 := cell_of_one HY.out.1.2.2; have g0 := free_of_one HY.out.1.1; have g1 := free_of_one HY.out.1.2.1; have g2 := free_of_one HY.out.1.2.2)
   refine ⟨HA.out.2.1.others.trans (went_set3 (w := w)).others, rfl, ⟨pre, x, P, rfl, H1.out, HR.out, res_set HY.out.1⟩, HY.out.2.trans (went_set3 (w := w)).below⟩
  | some Q =>
   rw [hr] at hC
   have HR : Hid (addLine P x.1.2 = some Q) := hr
   clear hI h1 h2 h3 h4 hr
   gi_wp2_with (refine ⟨trivial, ?_⟩; gi_at_call 16; refine (CallsIn.inRound l (callsIn_wide.2 hC)).mono ?_; rintro e w2 hA; have HA : Hid (AddPost (w.heap.size + 3) (w.heap.size + 4) W (some Q) e w2) := hA; obtain ⟨rfl, _⟩ := hA)
   have hg := HA.out.2.1
   obtain ⟨vo2, us2, hp2⟩ := HA.out.2.2 Q rfl
   have hsz := addLine_size HR.out H3.out.1 H3.out.2
   refine ⟨hg.others, hg.others.walks, ⟨⟨Q, vo2, us2, ?_, hp2, by simpa using hsz.1, by simpa using hsz.2⟩, res_of_below HI.out.res hg.below, HI.out.below.trans (hg.below.mono (by omega))⟩⟩
   rw [List.map_append, List.map_cons, List.map_nil, readOn_snoc, H1.out]
   exact HR.out
 case done =>
  rintro D xs W hD hxs hI hK
  obtain ⟨P, vo, us, h1, h2, h3, h4⟩ := hI.prog
  have hxs2 : xs.map (·.1.2) = linesB s := by
   have := congrArg (List.map (·.2)) hxs
   rw [numbered_snd, List.map_map] at this
   exact this
  rw [hxs2] at h1
  have hP : ProgVal W vo P := h2.blt.prog
  have hS2 := hS.on hI.below
  have HC : Hid (Calls Tryd.prog 17 #[.agg #[vo]] W fun e w' => e = .returned (.int .i64 (codeProg P)) ∧ Below W.heap.size W w') := check_any P vo W (hS2.std.tabs W (Below.refl _ _)).2 hP
  have cp := cell_of_one h2.box
  obtain ⟨aov, capv, rfl⟩ := own_shape h2.blt.row
  have HI : Hid (RdI w xs W) := hI
  have H2 : Hid (PBx W (w.heap.size + 3) (w.heap.size + 4) P (.slice aov P.length capv) us) := h2
  have hDz := (Array.getElem?_eq_some_iff.1 hK).1
  clear hI h2 hP hS2 h3 h4 hxs hxs2
  by_cases hc : codeProg P = 0
  ·have hE : Hid (readErr s = 0 ∧ readPlace s = 0 ∧ readProg s = P) := by
    have e1 : readErr s = 0 := by unfold readErr; rw [if_neg (by omega), h1]; exact hc
    have e2 : readPlace s = 0 := by unfold readPlace; rw [if_neg (by omega), h1]
    have e3 : readProg s = P := by unfold readProg; rw [if_pos e1, h1]; rfl
    exact ⟨e1, e2, e3⟩
   rw [hc] at HC
   clear h1 hc
   gi_wp2_with (refine ⟨trivial, ?_⟩; gi_at_call 17; refine (callsIn_wide.2 HC.out).mono ?_; rintro e w2 ⟨rfl, hb2⟩; have B2 : Hid (Below W.heap.size W w2) := hb2; have HY : Hid (ResAt w w2 (.slice none 0 0) 0 0) := res_of_below HI.out.res (hb2.mono (by omega)); have HP2 : Hid (PBx w2 (w.heap.size + 3) (w.heap.size + 4) P (.slice aov P.length capv) us) := H2.out.keep hb2; have hK2 : w2.heap[D]? = some (.deferred (some [])) := (hb2.block D hDz).trans hK; have cp2 := cell_of_one HP2.out.box; have c0 := cell_of_one HY.out.1; have c1 := cell_of_one HY.out.2.1; have c2 := cell_of_one HY.out.2.2; have g0 := free_of_one HY.out.1; have g1 := free_of_one HY.out.2.1; have g2 := free_of_one HY.out.2.2; clear hb2)
   have hr3 : ResAt w (((w2.setCell ⟨w.heap.size, 0, none⟩ (.slice aov P.length capv)).setCell ⟨w.heap.size + 1, 0, none⟩ (.int .i64 0)).setCell ⟨w.heap.size + 2, 0, none⟩ (.int .i64 0)) (.slice aov P.length capv) 0 0 := res_set HY.out
   have hw3 : Went w.heap.size w2 (((w2.setCell ⟨w.heap.size, 0, none⟩ (.slice aov P.length capv)).setCell ⟨w.heap.size + 1, 0, none⟩ (.int .i64 0)).setCell ⟨w.heap.size + 2, 0, none⟩ (.int .i64 0)) := went_set3
   have hK3 := hw3.others.same D _ hK2 rfl
   obtain ⟨q1, q2, q3⟩ := read_end hK3 (by omega) hr3 ((HI.out.below.trans (B2.out.mono (by have := HI.out.below.size; omega))).trans hw3.below)
   refine ⟨by simp, .inl ⟨_, _, rfl, run_takeDeferred hK3, ?_⟩⟩
   have d0 := cell_of_one q1.1
   have d1 := cell_of_one q1.2.1
   have d2 := cell_of_one q1.2.2
   refine ⟨.tuple #[.agg #[.slice aov P.length capv], .int .i64 0, .int .i64 0], by simp [results, Tryd.results8, go_sem, d0, d1, d2], .slice aov P.length capv, us, by rw [hE.out.1, hE.out.2.1], ?_, q2⟩
   rw [hE.out.2.2]
   exact built_base (q3 _ _ _ _ _ _ (built_set3 HP2.out.blt)) (by omega)
  ·have hE : Hid (readErr s = codeProg P ∧ readPlace s = 0 ∧ readProg s = []) := by
    have e1 : readErr s = codeProg P := by unfold readErr; rw [if_neg (by omega), h1]
    have e2 : readPlace s = 0 := by unfold readPlace; rw [if_neg (by omega), h1]
    have e3 : readProg s = [] := by unfold readProg; rw [if_neg (by rw [e1]; exact hc)]
    exact ⟨e1, e2, e3⟩
   have hq : (codeProg P != 0) = true := by simpa using hc
   generalize codeProg P = ce at hE HC hq
   clear h1 hc
   gi_wp2_with (refine ⟨trivial, ?_⟩; gi_at_call 17; refine (callsIn_wide.2 HC.out).mono ?_; rintro e w2 ⟨rfl, hb2⟩; have B2 : Hid (Below W.heap.size W w2) := hb2; have HY : Hid (ResAt w w2 (.slice none 0 0) 0 0) := res_of_below HI.out.res (hb2.mono (by omega)); have HP2 : Hid (PBx w2 (w.heap.size + 3) (w.heap.size + 4) P (.slice aov P.length capv) us) := H2.out.keep hb2; have hK2 : w2.heap[D]? = some (.deferred (some [])) := (hb2.block D hDz).trans hK; have cp2 := cell_of_one HP2.out.box; have c0 := cell_of_one HY.out.1; have c1 := cell_of_one HY.out.2.1; have c2 := cell_of_one HY.out.2.2; have g0 := free_of_one HY.out.1; have g1 := free_of_one HY.out.2.1; have g2 := free_of_one HY.out.2.2; clear hb2)
   have hr3 : ResAt w (((w2.setCell ⟨w.heap.size, 0, none⟩ (.slice none 0 0)).setCell ⟨w.heap.size + 1, 0, none⟩ (.int .i64 0)).setCell ⟨w.heap.size + 2, 0, none⟩ (.int .i64 ce)) (.slice none 0 0) 0 ce := res_set HY.out
   have hw3 : Went w.heap.size w2 (((w2.setCell ⟨w.heap.size, 0, none⟩ (.slice none 0 0)).setCell ⟨w.heap.size + 1, 0, none⟩ (.int .i64 0)).setCell ⟨w.heap.size + 2, 0, none⟩ (.int .i64 ce)) := went_set3
   have hK3 := hw3.others.same D _ hK2 rfl
   obtain ⟨q1, q2, q3⟩ := read_end hK3 (by omega) hr3 ((HI.out.below.trans (B2.out.mono (by have := HI.out.below.size; omega))).trans hw3.below)
   refine ⟨by simp, .inl ⟨_, _, rfl, run_takeDeferred hK3, ?_⟩⟩
   have d0 := cell_of_one q1.1
   have d1 := cell_of_one q1.2.1
   have d2 := cell_of_one q1.2.2
   refine ⟨.tuple #[.agg #[.slice none 0 0], .int .i64 0, .int .i64 ce], by simp [results, Tryd.results8, go_sem, d0, d1, d2], .slice none 0 0, [], by rw [hE.out.1, hE.out.2.1], ?_, q2⟩
   rw [hE.out.2.2]
   exact built_nil _ _ _ _
 case stop =>
  rintro D c pre W hD hpre ⟨hc, hbad, hbel⟩ hK
  obtain ⟨pre0, x, P, rfl, h1, h2, h3⟩ := hbad
  obtain ⟨t, ht⟩ := hpre
  subst hc
  have hx : x.1.1 = pre0.length := by
   have := numbered_at 0 (linesB s) pre0.length x.1 (by rw [← ht]; simp)
   omega
  have hls : pre0.map (·.1.2) ++ x.1.2 :: t.map (·.2) = linesB s := by
   have := congrArg (List.map (·.2)) ht
   rw [numbered_snd] at this
   rw [← this]
   simp
  have hf := readOn_fail [] P _ _ (t.map (·.2)) h1 h2
  rw [hls, List.length_map] at hf
  have hE : Hid (readErr s = 5 ∧ readPlace s = x.1.1 ∧ readProg s = []) := by
   have e1 : readErr s = 5 := by unfold readErr; rw [if_neg (by omega), hf.1]
   have e2 : readPlace s = x.1.1 := by unfold readPlace; rw [if_neg (by omega), hf.1, hx]; exact congrArg _ hf.2
   have e3 : readProg s = [] := by unfold readProg; rw [if_neg (by rw [e1]; decide)]
   exact ⟨e1, e2, e3⟩
  clear h1 h2 ht hls hf hx
  gi_wp2
  obtain ⟨q1, q2, q3⟩ := read_end hK (by omega) h3 hbel
  refine ⟨by simp, .inl ⟨_, _, rfl, run_takeDeferred hK, ?_⟩⟩
  have d0 := cell_of_one q1.1
  have d1 := cell_of_one q1.2.1
  have d2 := cell_of_one q1.2.2
  refine ⟨.tuple #[.agg #[.slice none 0 0], .int .i64 x.1.1, .int .i64 5], by simp [results, Tryd.results8, go_sem, d0, d1, d2], .slice none 0 0, [], by rw [hE.out.1, hE.out.2.1], ?_, q2⟩
  rw [hE.out.2.2]
  exact built_nil _ _ _ _
theorem read_all (s : Pc) (w : World) (hS : StdR w.heap.size w) :
  Calls Tryd.prog 8 #[.string ⟨s.toArray⟩] w fun e w' => ReadPost w s e w' := by
 by_cases hl : 10000 < s.length
 ·exact read_long s w hl
 ·exact read_any s w (by omega) hS
end Go.Proofs.YtfacdhkadnmnlaaDoor
