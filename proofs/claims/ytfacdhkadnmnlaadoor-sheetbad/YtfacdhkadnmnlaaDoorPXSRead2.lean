import Derived.WalkLawsBesides
import Derived.Test.YtfacdhkadnmnlaaDoorPXSRead1
import Derived.Test.YtfacdhkadnmnlaaDoorPXSheetShown
namespace Go.Proofs.YtfacdhkadnmnlaaDoor
open Go Go.RowKit

theorem opIx_none {l : Pc} (h : ∀ j, 1 ≤ j → j < 20 → wordL.getD j [] ≠ l) : opIx l = 0 := by
 by_cases h0 : opIx l = 0
 ·exact h0
 ·obtain ⟨a, b, c⟩ := opIx_eq h0
  exact absurd a (h _ b c)
set_option maxRecDepth 100000 in
set_option maxHeartbeats 400000 in
theorem sopOf_any (l : Pc) (w : World) (hW : WordOk w) :
  Calls Tryd.prog 32 #[.string ⟨l.toArray⟩] w fun e w' => e = .returned (.int .i64 (opIx l)) ∧ w' = w := by
 have HW : Hid (WordOk w) := hW
 have HO : Hid (∀ k, 1 ≤ k → k < 20 → wordL.getD k [] = l → opIx l = k) := fun k h1 h2 e => by rw [← e]; exact opIx_word k h1 h2
 have HZ : Hid ((∀ j, 1 ≤ j → j < 20 → wordL.getD j [] ≠ l) → opIx l = 0) := opIx_none
 generalize opIx l = o at HO HZ
 clear hW
 go_enter Tryd.func32, Tryd.ntmps32
 go_wp2
 go_loopw [3] (fun i wr => ∃ k : Nat, 1 ≤ k ∧ k ≤ 20 ∧ i = .int .i64 k ∧ (∀ j, 1 ≤ j → j < k → wordL.getD j [] ≠ l) ∧ wr = w) (fun i _ => 20 - (intOf i).toNat)
 case atStart => exact ⟨1, by omega, by omega, rfl, fun j h1 h2 => by omega, rfl⟩
 case round =>
  obtain ⟨k, hk1, hk2, rfl, hno, rfl⟩ := hrel
  by_cases hlt : k < 20
  ·have hle : decide ((k : Int) ≤ 19) = true := by simp; omega
   have cw := HW.out k hlt
   have HX : Hid (∀ j, 1 ≤ j → j < k → wordL.getD j [] ≠ l) := hno
   have HK : Hid (wordL.getD k [] = l → o = k) := HO.out k hk1 hlt
   have HL : Hid (wordL.getD k [] ≠ l → ∀ j, 1 ≤ j → j < k + 1 → wordL.getD j [] ≠ l) := fun h j h1 h2 => by
    by_cases e : j = k
    ·rw [e]; exact h
    ·exact HX.out j h1 (by omega)
   generalize wordL.getD k [] = u at cw HK HL
   clear hno
   by_cases hu : u = l
   ·have hq : (u == l) = true := by simpa using hu
    go_wp2
    go_ret
    exact ⟨by rw [HK.out hu]; rfl, rfl⟩
   ·have hq : (u == l) = false := by simpa using hu
    go_wp2
    go_roundw
    case rel => exact ⟨k + 1, by omega, by omega, by go_num, HL.out hu, trivial⟩
    case measure => simp [intOf]; omega
  ·have hle : decide ((k : Int) ≤ 19) = false := by simp; omega
   have hk : k = 20 := by omega
   have HX : Hid (o = 0) := HZ.out fun j h1 h2 => hno j h1 (by omega)
   clear hno
   go_wp2
   go_ret
   exact ⟨by rw [HX.out]; rfl, rfl⟩
structure XB (w wi : World) (N R : Nat) (s : RS) (op d a b i : Int) : Prop where
 sr : SR wi N R s
 box : wi.heap[w.heap.size + 1]? = some (.cells #[.int .i64 op, .int .i64 d, .int .i64 a, .int .i64 b, .int .i64 i] 51)
 res : wi.heap[w.heap.size]? = some (.cells #[.int .i64 0, .int .i64 0, .int .i64 0, .int .i64 0, .int .i64 0] 51)
 grown : w.grownBy wi (some R)
 low : N ≤ w.heap.size
theorem SR.low {w : World} {N R : Nat} {s : RS} (h : SR w N R s) : R < N := by
 obtain ⟨ao, cap, S, off, h⟩ := h
 exact h.low.2
theorem SR.setNew {w : World} {N R : Nat} {s : RS} (h : SR w N R s) {p : Addr} (hp : N ≤ p.block) (v : Value) : SR (w.setCell p v) N R s := by
 obtain ⟨ao, cap, S, off, h⟩ := h
 have h1 := h.low.1
 have h2 := h.low.2
 exact ⟨ao, cap, S, off, (Below.heap_setCell _ _ _ _ (by omega)).trans h.blk, h.ne, h.low, h.addr, h.room, h.small, fun i hi => (World.cell?_of_block (w := w) (Below.heap_setCell _ _ _ _ (by simp; omega))).trans (h.cells i hi), h.each⟩
theorem rg_setNew {w wi : World} {R : Nat} {p : Addr} {v : Value} (h : w.grownBy wi (some R)) (hp : w.heap.size ≤ p.block) : w.grownBy (wi.setCell p v) (some R) :=
 ⟨h.os, h.tape, h.output, by simpa [World.setCell] using h.size, fun k hk hr => (Below.heap_setCell _ _ _ _ (by omega)).trans (h.block k hk hr)⟩
theorem XB.call {w wi wj : World} {N R : Nat} {s t : RS} {op d a b i : Int} (h : XB w wi N R s op d a b i) (hg : wi.grownBy wj (some R)) (hr : SR wj N R t) : XB w wj N R t op d a b i :=
 have hl := h.sr.low
 ⟨hr, (hg.block _ (lt_of_block h.box) (by have := h.low; simp; omega)).trans h.box, (hg.block _ (lt_of_block h.res) (by have := h.low; simp; omega)).trans h.res, rg_trans h.grown hg, h.low⟩
theorem XB.set1 {w wi : World} {N R : Nat} {s : RS} {op d a b i : Int} (h : XB w wi N R s op d a b i) (v : Int) : XB w (wi.setCell ⟨w.heap.size + 1, 1, none⟩ (.int .i64 v)) N R s op v a b i :=
 ⟨h.sr.setNew (by have := h.low; simp; omega) _, heap_setCell_same wi _ 1 _ _ _ h.box, (Below.heap_setCell _ _ _ _ (by simp)).trans h.res, rg_setNew h.grown (by simp), h.low⟩
theorem XB.set2 {w wi : World} {N R : Nat} {s : RS} {op d a b i : Int} (h : XB w wi N R s op d a b i) (v : Int) : XB w (wi.setCell ⟨w.heap.size + 1, 2, none⟩ (.int .i64 v)) N R s op d v b i :=
 ⟨h.sr.setNew (by have := h.low; simp; omega) _, heap_setCell_same wi _ 2 _ _ _ h.box, (Below.heap_setCell _ _ _ _ (by simp)).trans h.res, rg_setNew h.grown (by simp), h.low⟩
theorem XB.set3 {w wi : World} {N R : Nat} {s : RS} {op d a b i : Int} (h : XB w wi N R s op d a b i) (v : Int) : XB w (wi.setCell ⟨w.heap.size + 1, 3, none⟩ (.int .i64 v)) N R s op d a v i :=
 ⟨h.sr.setNew (by have := h.low; simp; omega) _, heap_setCell_same wi _ 3 _ _ _ h.box, (Below.heap_setCell _ _ _ _ (by simp)).trans h.res, rg_setNew h.grown (by simp), h.low⟩
theorem XB.set4 {w wi : World} {N R : Nat} {s : RS} {op d a b i : Int} (h : XB w wi N R s op d a b i) (v : Int) : XB w (wi.setCell ⟨w.heap.size + 1, 4, none⟩ (.int .i64 v)) N R s op d a b v :=
 ⟨h.sr.setNew (by have := h.low; simp; omega) _, heap_setCell_same wi _ 4 _ _ _ h.box, (Below.heap_setCell _ _ _ _ (by simp)).trans h.res, rg_setNew h.grown (by simp), h.low⟩
theorem XB.cells {w wi : World} {N R : Nat} {s : RS} {op d a b i : Int} (h : XB w wi N R s op d a b i) :
  (wi.cell? ⟨w.heap.size + 1, 0, none⟩ = some (.int .i64 op) ∧ wi.cell? ⟨w.heap.size + 1, 1, none⟩ = some (.int .i64 d) ∧ wi.cell? ⟨w.heap.size + 1, 2, none⟩ = some (.int .i64 a) ∧ wi.cell? ⟨w.heap.size + 1, 3, none⟩ = some (.int .i64 b) ∧ wi.cell? ⟨w.heap.size + 1, 4, none⟩ = some (.int .i64 i)) ∧
  (wi.frozen? ⟨w.heap.size + 1, 1, none⟩ = false ∧ wi.frozen? ⟨w.heap.size + 1, 2, none⟩ = false ∧ wi.frozen? ⟨w.heap.size + 1, 3, none⟩ = false ∧ wi.frozen? ⟨w.heap.size + 1, 4, none⟩ = false) := by
 have hb := h.box
 refine ⟨⟨?_, ?_, ?_, ?_, ?_⟩, ?_, ?_, ?_, ?_⟩ <;> simp [World.cell?, World.frozen?, hb]
theorem XB.std {B : Nat} {w wi : World} {N R : Nat} {s : RS} {op d a b i : Int} (h : XB w wi N R s op d a b i) (hS : StdR B w) (hB : B ≤ R) : StdR B wi := hS.on (rg_to h.grown hB (by have := h.sr.low; have := h.low; omega))
theorem XB.resCells {w wi : World} {N R : Nat} {s : RS} {op d a b i : Int} (h : XB w wi N R s op d a b i) :
  (∀ k, k < 5 → wi.cell? ⟨w.heap.size, k, none⟩ = some (.int .i64 0)) ∧ (∀ k, k < 5 → wi.frozen? ⟨w.heap.size, k, none⟩ = false) := by
 have hb := h.res
 constructor <;> intro k hk
 ·rcases (show k = 0 ∨ k = 1 ∨ k = 2 ∨ k = 3 ∨ k = 4 by omega) with rfl | rfl | rfl | rfl | rfl <;> simp [World.cell?, hb]
 ·simp [World.frozen?, hb]
set_option maxRecDepth 100000 in
set_option maxHeartbeats 1000000 in
theorem sinstr_set {B : Nat} {w : World} {N R : Nat} {s : RS} (op : Int) (h0 : 1 ≤ op) (h20 : op < 20) (q1 : (setsB op) = true) (q2 : (decide (op = 17 ∨ op = 1)) = true) (q3 : (readsAB op) = false) (q4 : (readsBB op) = false) (q5 : (decide (op = 15 ∨ op = 16)) = false) (h : SR w N R s) (hN : N ≤ w.heap.size) (hS : StdR B w) (hB : B ≤ R) :
  Calls Tryd.prog 52 #[.pointer (some ⟨R, 0, none⟩), .int .i64 op] w fun e w' => e = .returned (insR op s).1.val ∧ w.grownBy w' (some R) ∧ SR w' N R (insR op s).2 := by
 obtain ⟨m, rfl⟩ : ∃ m : Nat, op = m := ⟨op.toNat, by omega⟩
 obtain ⟨b1, b2, b3, b4, b5⟩ := bits_parts m (by omega) (by omega)
 rw [q1] at b1
 rw [q2] at b2
 rw [q3] at b3
 rw [q4] at b4
 rw [q5] at b5
 obtain ⟨v1, s1, e1⟩ : ∃ v t, s.take regOk = (v, t) := ⟨_, _, rfl⟩
 have x1 : insR1 m s = (v1, s1) := by unfold insR1 RS.opt; rw [q1, if_pos rfl, e1]
 obtain ⟨v2, s2, e2⟩ : ∃ v t, s1.take numOk = (v, t) := ⟨_, _, rfl⟩
 have x2 : insR2 m s = (v2, s2) := by unfold insR2 RS.opt; rw [x1, q2, if_pos rfl, e2]
 have x3 : insR3 m s = (0, s2) := by unfold insR3 RS.opt; rw [x2, q3, if_neg (by simp)]
 have x4 : insR4 m s = (0, s2) := by unfold insR4 RS.opt; rw [x3, q4, if_neg (by simp)]
 have x5 : insR5 m s = (v2, s2) := by unfold insR5 RS.opt; rw [x4, x2, q5, if_neg (by simp)]
 have hx : insR m s = (⟨m, v1, 0, 0, v2⟩, s2) := by unfold insR; rw [x1, x3, x4, x5]
 rw [hx]
 clear x1 x2 x3 x4 x5 hx q1 q2 q3 q4 q5
 have C1 : Hid (∀ wi, StdR B wi → SR wi N R s → Calls Tryd.prog 63 #[.pointer (some ⟨R, 0, none⟩)] wi fun e w' => e = .returned (.int .i64 v1) ∧ wi.grownBy w' (some R) ∧ SR w' N R s1) := fun wi hs hr => by
  have := sregister_any hr hs hB
  rw [e1] at this
  exact this
 have C2 : Hid (∀ wi, StdR B wi → SR wi N R s1 → Calls Tryd.prog 50 #[.pointer (some ⟨R, 0, none⟩)] wi fun e w' => e = .returned (.int .i64 v2) ∧ wi.grownBy w' (some R) ∧ SR w' N R s2) := fun wi hs hr => by
  have := snumber_any hr hs hB
  rw [e2] at this
  exact this
 clear e1 e2
 have HS : Hid (StdR B w) := hS
 have hT : TabOk w := (hS.std.tabs w (Below.refl _ _)).2
 have hb0 : Below w.heap.size w (w.alloc (.cells #[.int .i64 0, .int .i64 0, .int .i64 0, .int .i64 0, .int .i64 0] 51)) := (Below.refl _ _).alloc (Nat.le_refl _) _
 have hb1 : Below w.heap.size w ((w.alloc (.cells #[.int .i64 0, .int .i64 0, .int .i64 0, .int .i64 0, .int .i64 0] 51)).alloc (.cells #[.int .i64 m, .int .i64 0, .int .i64 0, .int .i64 0, .int .i64 0] 51)) := hb0.alloc (by simp) _
 have HH : Hid (∀ w1, Below w.heap.size w w1 → Calls Tryd.prog 45 #[.int .i64 m] w1 fun e w' => e = .returned (.int .i64 (hasOf m)) ∧ w' = w1) := fun w1 hb => has_any m w1 (hT.below hb)
 have X0 : Hid (XB w ((w.alloc (.cells #[.int .i64 0, .int .i64 0, .int .i64 0, .int .i64 0, .int .i64 0] 51)).alloc (.cells #[.int .i64 m, .int .i64 0, .int .i64 0, .int .i64 0, .int .i64 0] 51)) N R s m 0 0 0 0) :=
  ⟨h.kept hb1, by simpa using heap_alloc_new (w.alloc (.cells #[.int .i64 0, .int .i64 0, .int .i64 0, .int .i64 0, .int .i64 0] 51)) _, (heap_alloc_old _ _ (by simp)).trans (heap_alloc_new w _), rg_below _ hb1, hN⟩
 generalize hasOf m = H at HH b1 b2 b3 b4 b5
 have HB0 : Hid _ := hb0
 clear hS hT hb0 hb1 h hN
 go_enter Tryd.func52, Tryd.ntmps52
 go_wp2_with (first
  | (go_at_call 45; refine (HH.out _ HB0.out).mono ?_; rintro e w1 ⟨rfl, hw1⟩; replace hw1 := hw1.symm; subst hw1)
  | (go_at_call 63; refine (C1.out _ (X0.out.std HS.out hB) X0.out.sr).mono ?_; rintro e w2 ⟨rfl, hg, hr⟩; have Y : Hid _ := X0.out.call hg hr; have X1 : Hid _ := Y.out.set1 v1; have cc := Y.out.cells.1.2; have c1 : w2.cell? ⟨w.heap.size + 1, 1, none⟩ = some _ := cc.1; have g1 : w2.frozen? ⟨w.heap.size + 1, 1, none⟩ = false := Y.out.cells.2.1; clear cc hg hr Y X0 C1)
  | (go_at_call 50; refine (C2.out _ (X1.out.std HS.out hB) X1.out.sr).mono ?_; rintro e w3 ⟨rfl, hg, hr⟩; have Y : Hid _ := X1.out.call hg hr; have X2 : Hid _ := Y.out.set4 v2; have cc := Y.out.cells.1.2; have c2 : w3.cell? ⟨w.heap.size + 1, 4, none⟩ = some _ := cc.2.2.2; have g2 : w3.frozen? ⟨w.heap.size + 1, 4, none⟩ = false := Y.out.cells.2.2.2.2; clear cc hg hr Y X1 C2; obtain ⟨⟨y0, y1, y2, y3, y4⟩, _⟩ := X2.out.cells; obtain ⟨z0, z1⟩ := X2.out.resCells; have r0 := z0 0 (by decide); have r1 := z0 1 (by decide); have r2 := z0 2 (by decide); have r3 := z0 3 (by decide); have r4 := z0 4 (by decide); have f0 := z1 0 (by decide); have f1 := z1 1 (by decide); have f2 := z1 2 (by decide); have f3 := z1 3 (by decide); have f4 := z1 4 (by decide); clear z0 z1))
 refine bodyPost_ret (v := .agg #[.int .i64 m, .int .i64 v1, .int .i64 0, .int .i64 0, .int .i64 v2]) (by simp [results, Tryd.results52, go_sem, r0, r1, r2, r3, r4]) rfl ⟨rfl, ?_, ?_⟩
 ·exact rg_setNew (rg_setNew (rg_setNew (rg_setNew (rg_setNew X2.out.grown (by simp)) (by simp)) (by simp)) (by simp)) (by simp)
 ·have hn := X2.out.low
  exact ((((X2.out.sr.setNew (by exact hn) _).setNew (by exact hn) _).setNew (by exact hn) _).setNew (by exact hn) _).setNew (by exact hn) _
set_option maxRecDepth 100000 in
set_option maxHeartbeats 1000000 in
theorem sinstr_two {B : Nat} {w : World} {N R : Nat} {s : RS} (op : Int) (h0 : 1 ≤ op) (h20 : op < 20) (q1 : (setsB op) = true) (q2 : (decide (op = 17 ∨ op = 1)) = false) (q3 : (readsAB op) = true) (q4 : (readsBB op) = true) (q5 : (decide (op = 15 ∨ op = 16)) = false) (h : SR w N R s) (hN : N ≤ w.heap.size) (hS : StdR B w) (hB : B ≤ R) :
  Calls Tryd.prog 52 #[.pointer (some ⟨R, 0, none⟩), .int .i64 op] w fun e w' => e = .returned (insR op s).1.val ∧ w.grownBy w' (some R) ∧ SR w' N R (insR op s).2 := by
 obtain ⟨m, rfl⟩ : ∃ m : Nat, op = m := ⟨op.toNat, by omega⟩
 obtain ⟨b1, b2, b3, b4, b5⟩ := bits_parts m (by omega) (by omega)
 rw [q1] at b1
 rw [q2] at b2
 rw [q3] at b3
 rw [q4] at b4
 rw [q5] at b5
 obtain ⟨v1, s1, e1⟩ : ∃ v t, s.take regOk = (v, t) := ⟨_, _, rfl⟩
 have x1 : insR1 m s = (v1, s1) := by unfold insR1 RS.opt; rw [q1, if_pos rfl, e1]
 have x2 : insR2 m s = (0, s1) := by unfold insR2 RS.opt; rw [x1, q2, if_neg (by simp)]
 obtain ⟨v3, s3, e3⟩ : ∃ v t, s1.take regOk = (v, t) := ⟨_, _, rfl⟩
 have x3 : insR3 m s = (v3, s3) := by unfold insR3 RS.opt; rw [x2, q3, if_pos rfl, e3]
 obtain ⟨v4, s4, e4⟩ : ∃ v t, s3.take regOk = (v, t) := ⟨_, _, rfl⟩
 have x4 : insR4 m s = (v4, s4) := by unfold insR4 RS.opt; rw [x3, q4, if_pos rfl, e4]
 have x5 : insR5 m s = (0, s4) := by unfold insR5 RS.opt; rw [x4, x2, q5, if_neg (by simp)]
 have hx : insR m s = (⟨m, v1, v3, v4, 0⟩, s4) := by unfold insR; rw [x1, x3, x4, x5]
 rw [hx]
 clear x1 x2 x3 x4 x5 hx q1 q2 q3 q4 q5
 have C1 : Hid (∀ wi, StdR B wi → SR wi N R s → Calls Tryd.prog 63 #[.pointer (some ⟨R, 0, none⟩)] wi fun e w' => e = .returned (.int .i64 v1) ∧ wi.grownBy w' (some R) ∧ SR w' N R s1) := fun wi hs hr => by
  have := sregister_any hr hs hB
  rw [e1] at this
  exact this
 have C3 : Hid (∀ wi, StdR B wi → SR wi N R s1 → Calls Tryd.prog 63 #[.pointer (some ⟨R, 0, none⟩)] wi fun e w' => e = .returned (.int .i64 v3) ∧ wi.grownBy w' (some R) ∧ SR w' N R s3) := fun wi hs hr => by
  have := sregister_any hr hs hB
  rw [e3] at this
  exact this
 have C4 : Hid (∀ wi, StdR B wi → SR wi N R s3 → Calls Tryd.prog 63 #[.pointer (some ⟨R, 0, none⟩)] wi fun e w' => e = .returned (.int .i64 v4) ∧ wi.grownBy w' (some R) ∧ SR w' N R s4) := fun wi hs hr => by
  have := sregister_any hr hs hB
  rw [e4] at this
  exact this
 clear e1 e3 e4
 have HS : Hid (StdR B w) := hS
 have hT : TabOk w := (hS.std.tabs w (Below.refl _ _)).2
 have hb0 : Below w.heap.size w (w.alloc (.cells #[.int .i64 0, .int .i64 0, .int .i64 0, .int .i64 0, .int .i64 0] 51)) := (Below.refl _ _).alloc (Nat.le_refl _) _
 have hb1 : Below w.heap.size w ((w.alloc (.cells #[.int .i64 0, .int .i64 0, .int .i64 0, .int .i64 0, .int .i64 0] 51)).alloc (.cells #[.int .i64 m, .int .i64 0, .int .i64 0, .int .i64 0, .int .i64 0] 51)) := hb0.alloc (by simp) _
 have HH : Hid (∀ w1, Below w.heap.size w w1 → Calls Tryd.prog 45 #[.int .i64 m] w1 fun e w' => e = .returned (.int .i64 (hasOf m)) ∧ w' = w1) := fun w1 hb => has_any m w1 (hT.below hb)
 have X0 : Hid (XB w ((w.alloc (.cells #[.int .i64 0, .int .i64 0, .int .i64 0, .int .i64 0, .int .i64 0] 51)).alloc (.cells #[.int .i64 m, .int .i64 0, .int .i64 0, .int .i64 0, .int .i64 0] 51)) N R s m 0 0 0 0) :=
  ⟨h.kept hb1, by simpa using heap_alloc_new (w.alloc (.cells #[.int .i64 0, .int .i64 0, .int .i64 0, .int .i64 0, .int .i64 0] 51)) _, (heap_alloc_old _ _ (by simp)).trans (heap_alloc_new w _), rg_below _ hb1, hN⟩
 generalize hasOf m = H at HH b1 b2 b3 b4 b5
 have HB0 : Hid _ := hb0
 clear hS hT hb0 hb1 h hN
 go_enter Tryd.func52, Tryd.ntmps52
 go_wp2_with (first
  | (go_at_call 45; refine (HH.out _ HB0.out).mono ?_; rintro e w1 ⟨rfl, hw1⟩; replace hw1 := hw1.symm; subst hw1)
  | (go_at_call 63; refine (C1.out _ (X0.out.std HS.out hB) X0.out.sr).mono ?_; rintro e w2 ⟨rfl, hg, hr⟩; have Y : Hid _ := X0.out.call hg hr; have X1 : Hid _ := Y.out.set1 v1; have cc := Y.out.cells.1.2; have c1 : w2.cell? ⟨w.heap.size + 1, 1, none⟩ = some _ := cc.1; have g1 : w2.frozen? ⟨w.heap.size + 1, 1, none⟩ = false := Y.out.cells.2.1; clear cc hg hr Y X0 C1)
  | (go_at_call 63; refine (C3.out _ (X1.out.std HS.out hB) X1.out.sr).mono ?_; rintro e w4 ⟨rfl, hg, hr⟩; have Y : Hid _ := X1.out.call hg hr; have X3 : Hid _ := Y.out.set2 v3; have cc := Y.out.cells.1.2; have c3 : w4.cell? ⟨w.heap.size + 1, 2, none⟩ = some _ := cc.2.1; have g3 : w4.frozen? ⟨w.heap.size + 1, 2, none⟩ = false := Y.out.cells.2.2.1; clear cc hg hr Y X1 C3)
  | (go_at_call 63; refine (C4.out _ (X3.out.std HS.out hB) X3.out.sr).mono ?_; rintro e w5 ⟨rfl, hg, hr⟩; have Y : Hid _ := X3.out.call hg hr; have X4 : Hid _ := Y.out.set3 v4; have cc := Y.out.cells.1.2; have c4 : w5.cell? ⟨w.heap.size + 1, 3, none⟩ = some _ := cc.2.2.1; have g4 : w5.frozen? ⟨w.heap.size + 1, 3, none⟩ = false := Y.out.cells.2.2.2.1; clear cc hg hr Y X3 C4; obtain ⟨⟨y0, y1, y2, y3, y4⟩, _⟩ := X4.out.cells; obtain ⟨z0, z1⟩ := X4.out.resCells; have r0 := z0 0 (by decide); have r1 := z0 1 (by decide); have r2 := z0 2 (by decide); have r3 := z0 3 (by decide); have r4 := z0 4 (by decide); have f0 := z1 0 (by decide); have f1 := z1 1 (by decide); have f2 := z1 2 (by decide); have f3 := z1 3 (by decide); have f4 := z1 4 (by decide); clear z0 z1))
 refine bodyPost_ret (v := .agg #[.int .i64 m, .int .i64 v1, .int .i64 v3, .int .i64 v4, .int .i64 0]) (by simp [results, Tryd.results52, go_sem, r0, r1, r2, r3, r4]) rfl ⟨rfl, ?_, ?_⟩
 ·exact rg_setNew (rg_setNew (rg_setNew (rg_setNew (rg_setNew X4.out.grown (by simp)) (by simp)) (by simp)) (by simp)) (by simp)
 ·have hn := X4.out.low
  exact ((((X4.out.sr.setNew (by exact hn) _).setNew (by exact hn) _).setNew (by exact hn) _).setNew (by exact hn) _).setNew (by exact hn) _
set_option maxRecDepth 100000 in
set_option maxHeartbeats 1000000 in
theorem sinstr_one {B : Nat} {w : World} {N R : Nat} {s : RS} (op : Int) (h0 : 1 ≤ op) (h20 : op < 20) (q1 : (setsB op) = true) (q2 : (decide (op = 17 ∨ op = 1)) = false) (q3 : (readsAB op) = true) (q4 : (readsBB op) = false) (q5 : (decide (op = 15 ∨ op = 16)) = false) (h : SR w N R s) (hN : N ≤ w.heap.size) (hS : StdR B w) (hB : B ≤ R) :
  Calls Tryd.prog 52 #[.pointer (some ⟨R, 0, none⟩), .int .i64 op] w fun e w' => e = .returned (insR op s).1.val ∧ w.grownBy w' (some R) ∧ SR w' N R (insR op s).2 := by
 obtain ⟨m, rfl⟩ : ∃ m : Nat, op = m := ⟨op.toNat, by omega⟩
 obtain ⟨b1, b2, b3, b4, b5⟩ := bits_parts m (by omega) (by omega)
 rw [q1] at b1
 rw [q2] at b2
 rw [q3] at b3
 rw [q4] at b4
 rw [q5] at b5
 obtain ⟨v1, s1, e1⟩ : ∃ v t, s.take regOk = (v, t) := ⟨_, _, rfl⟩
 have x1 : insR1 m s = (v1, s1) := by unfold insR1 RS.opt; rw [q1, if_pos rfl, e1]
 have x2 : insR2 m s = (0, s1) := by unfold insR2 RS.opt; rw [x1, q2, if_neg (by simp)]
 obtain ⟨v3, s3, e3⟩ : ∃ v t, s1.take regOk = (v, t) := ⟨_, _, rfl⟩
 have x3 : insR3 m s = (v3, s3) := by unfold insR3 RS.opt; rw [x2, q3, if_pos rfl, e3]
 have x4 : insR4 m s = (0, s3) := by unfold insR4 RS.opt; rw [x3, q4, if_neg (by simp)]
 have x5 : insR5 m s = (0, s3) := by unfold insR5 RS.opt; rw [x4, x2, q5, if_neg (by simp)]
 have hx : insR m s = (⟨m, v1, v3, 0, 0⟩, s3) := by unfold insR; rw [x1, x3, x4, x5]
 rw [hx]
 clear x1 x2 x3 x4 x5 hx q1 q2 q3 q4 q5
 have C1 : Hid (∀ wi, StdR B wi → SR wi N R s → Calls Tryd.prog 63 #[.pointer (some ⟨R, 0, none⟩)] wi fun e w' => e = .returned (.int .i64 v1) ∧ wi.grownBy w' (some R) ∧ SR w' N R s1) := fun wi hs hr => by
  have := sregister_any hr hs hB
  rw [e1] at this
  exact this
 have C3 : Hid (∀ wi, StdR B wi → SR wi N R s1 → Calls Tryd.prog 63 #[.pointer (some ⟨R, 0, none⟩)] wi fun e w' => e = .returned (.int .i64 v3) ∧ wi.grownBy w' (some R) ∧ SR w' N R s3) := fun wi hs hr => by
  have := sregister_any hr hs hB
  rw [e3] at this
  exact this
 clear e1 e3
 have HS : Hid (StdR B w) := hS
 have hT : TabOk w := (hS.std.tabs w (Below.refl _ _)).2
 have hb0 : Below w.heap.size w (w.alloc (.cells #[.int .i64 0, .int .i64 0, .int .i64 0, .int .i64 0, .int .i64 0] 51)) := (Below.refl _ _).alloc (Nat.le_refl _) _
 have hb1 : Below w.heap.size w ((w.alloc (.cells #[.int .i64 0, .int .i64 0, .int .i64 0, .int .i64 0, .int .i64 0] 51)).alloc (.cells #[.int .i64 m, .int .i64 0, .int .i64 0, .int .i64 0, .int .i64 0] 51)) := hb0.alloc (by simp) _
 have HH : Hid (∀ w1, Below w.heap.size w w1 → Calls Tryd.prog 45 #[.int .i64 m] w1 fun e w' => e = .returned (.int .i64 (hasOf m)) ∧ w' = w1) := fun w1 hb => has_any m w1 (hT.below hb)
 have X0 : Hid (XB w ((w.alloc (.cells #[.int .i64 0, .int .i64 0, .int .i64 0, .int .i64 0, .int .i64 0] 51)).alloc (.cells #[.int .i64 m, .int .i64 0, .int .i64 0, .int .i64 0, .int .i64 0] 51)) N R s m 0 0 0 0) :=
  ⟨h.kept hb1, by simpa using heap_alloc_new (w.alloc (.cells #[.int .i64 0, .int .i64 0, .int .i64 0, .int .i64 0, .int .i64 0] 51)) _, (heap_alloc_old _ _ (by simp)).trans (heap_alloc_new w _), rg_below _ hb1, hN⟩
 generalize hasOf m = H at HH b1 b2 b3 b4 b5
 have HB0 : Hid _ := hb0
 clear hS hT hb0 hb1 h hN
 go_enter Tryd.func52, Tryd.ntmps52
 go_wp2_with (first
  | (go_at_call 45; refine (HH.out _ HB0.out).mono ?_; rintro e w1 ⟨rfl, hw1⟩; replace hw1 := hw1.symm; subst hw1)
  | (go_at_call 63; refine (C1.out _ (X0.out.std HS.out hB) X0.out.sr).mono ?_; rintro e w2 ⟨rfl, hg, hr⟩; have Y : Hid _ := X0.out.call hg hr; have X1 : Hid _ := Y.out.set1 v1; have cc := Y.out.cells.1.2; have c1 : w2.cell? ⟨w.heap.size + 1, 1, none⟩ = some _ := cc.1; have g1 : w2.frozen? ⟨w.heap.size + 1, 1, none⟩ = false := Y.out.cells.2.1; clear cc hg hr Y X0 C1)
  | (go_at_call 63; refine (C3.out _ (X1.out.std HS.out hB) X1.out.sr).mono ?_; rintro e w4 ⟨rfl, hg, hr⟩; have Y : Hid _ := X1.out.call hg hr; have X3 : Hid _ := Y.out.set2 v3; have cc := Y.out.cells.1.2; have c3 : w4.cell? ⟨w.heap.size + 1, 2, none⟩ = some _ := cc.2.1; have g3 : w4.frozen? ⟨w.heap.size + 1, 2, none⟩ = false := Y.out.cells.2.2.1; clear cc hg hr Y X1 C3; obtain ⟨⟨y0, y1, y2, y3, y4⟩, _⟩ := X3.out.cells; obtain ⟨z0, z1⟩ := X3.out.resCells; have r0 := z0 0 (by decide); have r1 := z0 1 (by decide); have r2 := z0 2 (by decide); have r3 := z0 3 (by decide); have r4 := z0 4 (by decide); have f0 := z1 0 (by decide); have f1 := z1 1 (by decide); have f2 := z1 2 (by decide); have f3 := z1 3 (by decide); have f4 := z1 4 (by decide); clear z0 z1))
 refine bodyPost_ret (v := .agg #[.int .i64 m, .int .i64 v1, .int .i64 v3, .int .i64 0, .int .i64 0]) (by simp [results, Tryd.results52, go_sem, r0, r1, r2, r3, r4]) rfl ⟨rfl, ?_, ?_⟩
 ·exact rg_setNew (rg_setNew (rg_setNew (rg_setNew (rg_setNew X3.out.grown (by simp)) (by simp)) (by simp)) (by simp)) (by simp)
 ·have hn := X3.out.low
  exact ((((X3.out.sr.setNew (by exact hn) _).setNew (by exact hn) _).setNew (by exact hn) _).setNew (by exact hn) _).setNew (by exact hn) _
set_option maxRecDepth 100000 in
set_option maxHeartbeats 1000000 in
theorem sinstr_store {B : Nat} {w : World} {N R : Nat} {s : RS} (op : Int) (h0 : 1 ≤ op) (h20 : op < 20) (q1 : (setsB op) = false) (q2 : (decide (op = 17 ∨ op = 1)) = false) (q3 : (readsAB op) = true) (q4 : (readsBB op) = true) (q5 : (decide (op = 15 ∨ op = 16)) = false) (h : SR w N R s) (hN : N ≤ w.heap.size) (hS : StdR B w) (hB : B ≤ R) :
  Calls Tryd.prog 52 #[.pointer (some ⟨R, 0, none⟩), .int .i64 op] w fun e w' => e = .returned (insR op s).1.val ∧ w.grownBy w' (some R) ∧ SR w' N R (insR op s).2 := by
 obtain ⟨m, rfl⟩ : ∃ m : Nat, op = m := ⟨op.toNat, by omega⟩
 obtain ⟨b1, b2, b3, b4, b5⟩ := bits_parts m (by omega) (by omega)
 rw [q1] at b1
 rw [q2] at b2
 rw [q3] at b3
 rw [q4] at b4
 rw [q5] at b5
 have x1 : insR1 m s = (0, s) := by unfold insR1 RS.opt; rw [q1, if_neg (by simp)]
 have x2 : insR2 m s = (0, s) := by unfold insR2 RS.opt; rw [x1, q2, if_neg (by simp)]
 obtain ⟨v3, s3, e3⟩ : ∃ v t, s.take regOk = (v, t) := ⟨_, _, rfl⟩
 have x3 : insR3 m s = (v3, s3) := by unfold insR3 RS.opt; rw [x2, q3, if_pos rfl, e3]
 obtain ⟨v4, s4, e4⟩ : ∃ v t, s3.take regOk = (v, t) := ⟨_, _, rfl⟩
 have x4 : insR4 m s = (v4, s4) := by unfold insR4 RS.opt; rw [x3, q4, if_pos rfl, e4]
 have x5 : insR5 m s = (0, s4) := by unfold insR5 RS.opt; rw [x4, x2, q5, if_neg (by simp)]
 have hx : insR m s = (⟨m, 0, v3, v4, 0⟩, s4) := by unfold insR; rw [x1, x3, x4, x5]
 rw [hx]
 clear x1 x2 x3 x4 x5 hx q1 q2 q3 q4 q5
 have C3 : Hid (∀ wi, StdR B wi → SR wi N R s → Calls Tryd.prog 63 #[.pointer (some ⟨R, 0, none⟩)] wi fun e w' => e = .returned (.int .i64 v3) ∧ wi.grownBy w' (some R) ∧ SR w' N R s3) := fun wi hs hr => by
  have := sregister_any hr hs hB
  rw [e3] at this
  exact this
 have C4 : Hid (∀ wi, StdR B wi → SR wi N R s3 → Calls Tryd.prog 63 #[.pointer (some ⟨R, 0, none⟩)] wi fun e w' => e = .returned (.int .i64 v4) ∧ wi.grownBy w' (some R) ∧ SR w' N R s4) := fun wi hs hr => by
  have := sregister_any hr hs hB
  rw [e4] at this
  exact this
 clear e3 e4
 have HS : Hid (StdR B w) := hS
 have hT : TabOk w := (hS.std.tabs w (Below.refl _ _)).2
 have hb0 : Below w.heap.size w (w.alloc (.cells #[.int .i64 0, .int .i64 0, .int .i64 0, .int .i64 0, .int .i64 0] 51)) := (Below.refl _ _).alloc (Nat.le_refl _) _
 have hb1 : Below w.heap.size w ((w.alloc (.cells #[.int .i64 0, .int .i64 0, .int .i64 0, .int .i64 0, .int .i64 0] 51)).alloc (.cells #[.int .i64 m, .int .i64 0, .int .i64 0, .int .i64 0, .int .i64 0] 51)) := hb0.alloc (by simp) _
 have HH : Hid (∀ w1, Below w.heap.size w w1 → Calls Tryd.prog 45 #[.int .i64 m] w1 fun e w' => e = .returned (.int .i64 (hasOf m)) ∧ w' = w1) := fun w1 hb => has_any m w1 (hT.below hb)
 have X0 : Hid (XB w ((w.alloc (.cells #[.int .i64 0, .int .i64 0, .int .i64 0, .int .i64 0, .int .i64 0] 51)).alloc (.cells #[.int .i64 m, .int .i64 0, .int .i64 0, .int .i64 0, .int .i64 0] 51)) N R s m 0 0 0 0) :=
  ⟨h.kept hb1, by simpa using heap_alloc_new (w.alloc (.cells #[.int .i64 0, .int .i64 0, .int .i64 0, .int .i64 0, .int .i64 0] 51)) _, (heap_alloc_old _ _ (by simp)).trans (heap_alloc_new w _), rg_below _ hb1, hN⟩
 generalize hasOf m = H at HH b1 b2 b3 b4 b5
 have HB0 : Hid _ := hb0
 clear hS hT hb0 hb1 h hN
 go_enter Tryd.func52, Tryd.ntmps52
 go_wp2_with (first
  | (go_at_call 45; refine (HH.out _ HB0.out).mono ?_; rintro e w1 ⟨rfl, hw1⟩; replace hw1 := hw1.symm; subst hw1)
  | (go_at_call 63; refine (C3.out _ (X0.out.std HS.out hB) X0.out.sr).mono ?_; rintro e w4 ⟨rfl, hg, hr⟩; have Y : Hid _ := X0.out.call hg hr; have X3 : Hid _ := Y.out.set2 v3; have cc := Y.out.cells.1.2; have c3 : w4.cell? ⟨w.heap.size + 1, 2, none⟩ = some _ := cc.2.1; have g3 : w4.frozen? ⟨w.heap.size + 1, 2, none⟩ = false := Y.out.cells.2.2.1; clear cc hg hr Y X0 C3)
  | (go_at_call 63; refine (C4.out _ (X3.out.std HS.out hB) X3.out.sr).mono ?_; rintro e w5 ⟨rfl, hg, hr⟩; have Y : Hid _ := X3.out.call hg hr; have X4 : Hid _ := Y.out.set3 v4; have cc := Y.out.cells.1.2; have c4 : w5.cell? ⟨w.heap.size + 1, 3, none⟩ = some _ := cc.2.2.1; have g4 : w5.frozen? ⟨w.heap.size + 1, 3, none⟩ = false := Y.out.cells.2.2.2.1; clear cc hg hr Y X3 C4; obtain ⟨⟨y0, y1, y2, y3, y4⟩, _⟩ := X4.out.cells; obtain ⟨z0, z1⟩ := X4.out.resCells; have r0 := z0 0 (by decide); have r1 := z0 1 (by decide); have r2 := z0 2 (by decide); have r3 := z0 3 (by decide); have r4 := z0 4 (by decide); have f0 := z1 0 (by decide); have f1 := z1 1 (by decide); have f2 := z1 2 (by decide); have f3 := z1 3 (by decide); have f4 := z1 4 (by decide); clear z0 z1))
 refine bodyPost_ret (v := .agg #[.int .i64 m, .int .i64 0, .int .i64 v3, .int .i64 v4, .int .i64 0]) (by simp [results, Tryd.results52, go_sem, r0, r1, r2, r3, r4]) rfl ⟨rfl, ?_, ?_⟩
 ·exact rg_setNew (rg_setNew (rg_setNew (rg_setNew (rg_setNew X4.out.grown (by simp)) (by simp)) (by simp)) (by simp)) (by simp)
 ·have hn := X4.out.low
  exact ((((X4.out.sr.setNew (by exact hn) _).setNew (by exact hn) _).setNew (by exact hn) _).setNew (by exact hn) _).setNew (by exact hn) _
set_option maxRecDepth 100000 in
set_option maxHeartbeats 1000000 in
theorem sinstr_jump {B : Nat} {w : World} {N R : Nat} {s : RS} (op : Int) (h0 : 1 ≤ op) (h20 : op < 20) (q1 : (setsB op) = false) (q2 : (decide (op = 17 ∨ op = 1)) = false) (q3 : (readsAB op) = false) (q4 : (readsBB op) = false) (q5 : (decide (op = 15 ∨ op = 16)) = true) (h : SR w N R s) (hN : N ≤ w.heap.size) (hS : StdR B w) (hB : B ≤ R) :
  Calls Tryd.prog 52 #[.pointer (some ⟨R, 0, none⟩), .int .i64 op] w fun e w' => e = .returned (insR op s).1.val ∧ w.grownBy w' (some R) ∧ SR w' N R (insR op s).2 := by
 obtain ⟨m, rfl⟩ : ∃ m : Nat, op = m := ⟨op.toNat, by omega⟩
 obtain ⟨b1, b2, b3, b4, b5⟩ := bits_parts m (by omega) (by omega)
 rw [q1] at b1
 rw [q2] at b2
 rw [q3] at b3
 rw [q4] at b4
 rw [q5] at b5
 have x1 : insR1 m s = (0, s) := by unfold insR1 RS.opt; rw [q1, if_neg (by simp)]
 have x2 : insR2 m s = (0, s) := by unfold insR2 RS.opt; rw [x1, q2, if_neg (by simp)]
 have x3 : insR3 m s = (0, s) := by unfold insR3 RS.opt; rw [x2, q3, if_neg (by simp)]
 have x4 : insR4 m s = (0, s) := by unfold insR4 RS.opt; rw [x3, q4, if_neg (by simp)]
 obtain ⟨v5, s5, e5⟩ : ∃ v t, s.take numOk = (v, t) := ⟨_, _, rfl⟩
 have x5 : insR5 m s = (v5, s5) := by unfold insR5 RS.opt; rw [x4, q5, if_pos rfl, e5]
 have hx : insR m s = (⟨m, 0, 0, 0, v5⟩, s5) := by unfold insR; rw [x1, x3, x4, x5]
 rw [hx]
 clear x1 x2 x3 x4 x5 hx q1 q2 q3 q4 q5
 have C5 : Hid (∀ wi, StdR B wi → SR wi N R s → Calls Tryd.prog 50 #[.pointer (some ⟨R, 0, none⟩)] wi fun e w' => e = .returned (.int .i64 v5) ∧ wi.grownBy w' (some R) ∧ SR w' N R s5) := fun wi hs hr => by
  have := snumber_any hr hs hB
  rw [e5] at this
  exact this
 clear e5
 have HS : Hid (StdR B w) := hS
 have hT : TabOk w := (hS.std.tabs w (Below.refl _ _)).2
 have hb0 : Below w.heap.size w (w.alloc (.cells #[.int .i64 0, .int .i64 0, .int .i64 0, .int .i64 0, .int .i64 0] 51)) := (Below.refl _ _).alloc (Nat.le_refl _) _
 have hb1 : Below w.heap.size w ((w.alloc (.cells #[.int .i64 0, .int .i64 0, .int .i64 0, .int .i64 0, .int .i64 0] 51)).alloc (.cells #[.int .i64 m, .int .i64 0, .int .i64 0, .int .i64 0, .int .i64 0] 51)) := hb0.alloc (by simp) _
 have HH : Hid (∀ w1, Below w.heap.size w w1 → Calls Tryd.prog 45 #[.int .i64 m] w1 fun e w' => e = .returned (.int .i64 (hasOf m)) ∧ w' = w1) := fun w1 hb => has_any m w1 (hT.below hb)
 have X0 : Hid (XB w ((w.alloc (.cells #[.int .i64 0, .int .i64 0, .int .i64 0, .int .i64 0, .int .i64 0] 51)).alloc (.cells #[.int .i64 m, .int .i64 0, .int .i64 0, .int .i64 0, .int .i64 0] 51)) N R s m 0 0 0 0) :=
  ⟨h.kept hb1, by simpa using heap_alloc_new (w.alloc (.cells #[.int .i64 0, .int .i64 0, .int .i64 0, .int .i64 0, .int .i64 0] 51)) _, (heap_alloc_old _ _ (by simp)).trans (heap_alloc_new w _), rg_below _ hb1, hN⟩
 generalize hasOf m = H at HH b1 b2 b3 b4 b5
 have HB0 : Hid _ := hb0
 clear hS hT hb0 hb1 h hN
 go_enter Tryd.func52, Tryd.ntmps52
 go_wp2_with (first
  | (go_at_call 45; refine (HH.out _ HB0.out).mono ?_; rintro e w1 ⟨rfl, hw1⟩; replace hw1 := hw1.symm; subst hw1)
  | (go_at_call 50; refine (C5.out _ (X0.out.std HS.out hB) X0.out.sr).mono ?_; rintro e w6 ⟨rfl, hg, hr⟩; have Y : Hid _ := X0.out.call hg hr; have X5 : Hid _ := Y.out.set4 v5; have cc := Y.out.cells.1.2; have c5 : w6.cell? ⟨w.heap.size + 1, 4, none⟩ = some _ := cc.2.2.2; have g5 : w6.frozen? ⟨w.heap.size + 1, 4, none⟩ = false := Y.out.cells.2.2.2.2; clear cc hg hr Y X0 C5; obtain ⟨⟨y0, y1, y2, y3, y4⟩, _⟩ := X5.out.cells; obtain ⟨z0, z1⟩ := X5.out.resCells; have r0 := z0 0 (by decide); have r1 := z0 1 (by decide); have r2 := z0 2 (by decide); have r3 := z0 3 (by decide); have r4 := z0 4 (by decide); have f0 := z1 0 (by decide); have f1 := z1 1 (by decide); have f2 := z1 2 (by decide); have f3 := z1 3 (by decide); have f4 := z1 4 (by decide); clear z0 z1))
 refine bodyPost_ret (v := .agg #[.int .i64 m, .int .i64 0, .int .i64 0, .int .i64 0, .int .i64 v5]) (by simp [results, Tryd.results52, go_sem, r0, r1, r2, r3, r4]) rfl ⟨rfl, ?_, ?_⟩
 ·exact rg_setNew (rg_setNew (rg_setNew (rg_setNew (rg_setNew X5.out.grown (by simp)) (by simp)) (by simp)) (by simp)) (by simp)
 ·have hn := X5.out.low
  exact ((((X5.out.sr.setNew (by exact hn) _).setNew (by exact hn) _).setNew (by exact hn) _).setNew (by exact hn) _).setNew (by exact hn) _
set_option maxRecDepth 100000 in
set_option maxHeartbeats 1000000 in
theorem sinstr_if {B : Nat} {w : World} {N R : Nat} {s : RS} (op : Int) (h0 : 1 ≤ op) (h20 : op < 20) (q1 : (setsB op) = false) (q2 : (decide (op = 17 ∨ op = 1)) = false) (q3 : (readsAB op) = true) (q4 : (readsBB op) = false) (q5 : (decide (op = 15 ∨ op = 16)) = true) (h : SR w N R s) (hN : N ≤ w.heap.size) (hS : StdR B w) (hB : B ≤ R) :
  Calls Tryd.prog 52 #[.pointer (some ⟨R, 0, none⟩), .int .i64 op] w fun e w' => e = .returned (insR op s).1.val ∧ w.grownBy w' (some R) ∧ SR w' N R (insR op s).2 := by
 obtain ⟨m, rfl⟩ : ∃ m : Nat, op = m := ⟨op.toNat, by omega⟩
 obtain ⟨b1, b2, b3, b4, b5⟩ := bits_parts m (by omega) (by omega)
 rw [q1] at b1
 rw [q2] at b2
 rw [q3] at b3
 rw [q4] at b4
 rw [q5] at b5
 have x1 : insR1 m s = (0, s) := by unfold insR1 RS.opt; rw [q1, if_neg (by simp)]
 have x2 : insR2 m s = (0, s) := by unfold insR2 RS.opt; rw [x1, q2, if_neg (by simp)]
 obtain ⟨v3, s3, e3⟩ : ∃ v t, s.take regOk = (v, t) := ⟨_, _, rfl⟩
 have x3 : insR3 m s = (v3, s3) := by unfold insR3 RS.opt; rw [x2, q3, if_pos rfl, e3]
 have x4 : insR4 m s = (0, s3) := by unfold insR4 RS.opt; rw [x3, q4, if_neg (by simp)]
 obtain ⟨v5, s5, e5⟩ : ∃ v t, s3.take numOk = (v, t) := ⟨_, _, rfl⟩
 have x5 : insR5 m s = (v5, s5) := by unfold insR5 RS.opt; rw [x4, q5, if_pos rfl, e5]
 have hx : insR m s = (⟨m, 0, v3, 0, v5⟩, s5) := by unfold insR; rw [x1, x3, x4, x5]
 rw [hx]
 clear x1 x2 x3 x4 x5 hx q1 q2 q3 q4 q5
 have C3 : Hid (∀ wi, StdR B wi → SR wi N R s → Calls Tryd.prog 63 #[.pointer (some ⟨R, 0, none⟩)] wi fun e w' => e = .returned (.int .i64 v3) ∧ wi.grownBy w' (some R) ∧ SR w' N R s3) := fun wi hs hr => by
  have := sregister_any hr hs hB
  rw [e3] at this
  exact this
 have C5 : Hid (∀ wi, StdR B wi → SR wi N R s3 → Calls Tryd.prog 50 #[.pointer (some ⟨R, 0, none⟩)] wi fun e w' => e = .returned (.int .i64 v5) ∧ wi.grownBy w' (some R) ∧ SR w' N R s5) := fun wi hs hr => by
  have := snumber_any hr hs hB
  rw [e5] at this
  exact this
 clear e3 e5
 have HS : Hid (StdR B w) := hS
 have hT : TabOk w := (hS.std.tabs w (Below.refl _ _)).2
 have hb0 : Below w.heap.size w (w.alloc (.cells #[.int .i64 0, .int .i64 0, .int .i64 0, .int .i64 0, .int .i64 0] 51)) := (Below.refl _ _).alloc (Nat.le_refl _) _
 have hb1 : Below w.heap.size w ((w.alloc (.cells #[.int .i64 0, .int .i64 0, .int .i64 0, .int .i64 0, .int .i64 0] 51)).alloc (.cells #[.int .i64 m, .int .i64 0, .int .i64 0, .int .i64 0, .int .i64 0] 51)) := hb0.alloc (by simp) _
 have HH : Hid (∀ w1, Below w.heap.size w w1 → Calls Tryd.prog 45 #[.int .i64 m] w1 fun e w' => e = .returned (.int .i64 (hasOf m)) ∧ w' = w1) := fun w1 hb => has_any m w1 (hT.below hb)
 have X0 : Hid (XB w ((w.alloc (.cells #[.int .i64 0, .int .i64 0, .int .i64 0, .int .i64 0, .int .i64 0] 51)).alloc (.cells #[.int .i64 m, .int .i64 0, .int .i64 0, .int .i64 0, .int .i64 0] 51)) N R s m 0 0 0 0) :=
  ⟨h.kept hb1, by simpa using heap_alloc_new (w.alloc (.cells #[.int .i64 0, .int .i64 0, .int .i64 0, .int .i64 0, .int .i64 0] 51)) _, (heap_alloc_old _ _ (by simp)).trans (heap_alloc_new w _), rg_below _ hb1, hN⟩
 generalize hasOf m = H at HH b1 b2 b3 b4 b5
 have HB0 : Hid _ := hb0
 clear hS hT hb0 hb1 h hN
 go_enter Tryd.func52, Tryd.ntmps52
 go_wp2_with (first
  | (go_at_call 45; refine (HH.out _ HB0.out).mono ?_; rintro e w1 ⟨rfl, hw1⟩; replace hw1 := hw1.symm; subst hw1)
  | (go_at_call 63; refine (C3.out _ (X0.out.std HS.out hB) X0.out.sr).mono ?_; rintro e w4 ⟨rfl, hg, hr⟩; have Y : Hid _ := X0.out.call hg hr; have X3 : Hid _ := Y.out.set2 v3; have cc := Y.out.cells.1.2; have c3 : w4.cell? ⟨w.heap.size + 1, 2, none⟩ = some _ := cc.2.1; have g3 : w4.frozen? ⟨w.heap.size + 1, 2, none⟩ = false := Y.out.cells.2.2.1; clear cc hg hr Y X0 C3)
  | (go_at_call 50; refine (C5.out _ (X3.out.std HS.out hB) X3.out.sr).mono ?_; rintro e w6 ⟨rfl, hg, hr⟩; have Y : Hid _ := X3.out.call hg hr; have X5 : Hid _ := Y.out.set4 v5; have cc := Y.out.cells.1.2; have c5 : w6.cell? ⟨w.heap.size + 1, 4, none⟩ = some _ := cc.2.2.2; have g5 : w6.frozen? ⟨w.heap.size + 1, 4, none⟩ = false := Y.out.cells.2.2.2.2; clear cc hg hr Y X3 C5; obtain ⟨⟨y0, y1, y2, y3, y4⟩, _⟩ := X5.out.cells; obtain ⟨z0, z1⟩ := X5.out.resCells; have r0 := z0 0 (by decide); have r1 := z0 1 (by decide); have r2 := z0 2 (by decide); have r3 := z0 3 (by decide); have r4 := z0 4 (by decide); have f0 := z1 0 (by decide); have f1 := z1 1 (by decide); have f2 := z1 2 (by decide); have f3 := z1 3 (by decide); have f4 := z1 4 (by decide); clear z0 z1))
 refine bodyPost_ret (v := .agg #[.int .i64 m, .int .i64 0, .int .i64 v3, .int .i64 0, .int .i64 v5]) (by simp [results, Tryd.results52, go_sem, r0, r1, r2, r3, r4]) rfl ⟨rfl, ?_, ?_⟩
 ·exact rg_setNew (rg_setNew (rg_setNew (rg_setNew (rg_setNew X5.out.grown (by simp)) (by simp)) (by simp)) (by simp)) (by simp)
 ·have hn := X5.out.low
  exact ((((X5.out.sr.setNew (by exact hn) _).setNew (by exact hn) _).setNew (by exact hn) _).setNew (by exact hn) _).setNew (by exact hn) _
set_option maxRecDepth 100000 in
set_option maxHeartbeats 1000000 in
theorem sinstr_call {B : Nat} {w : World} {N R : Nat} {s : RS} (op : Int) (h0 : 1 ≤ op) (h20 : op < 20) (q1 : (setsB op) = true) (q2 : (decide (op = 17 ∨ op = 1)) = true) (q3 : (readsAB op) = true) (q4 : (readsBB op) = true) (q5 : (decide (op = 15 ∨ op = 16)) = false) (h : SR w N R s) (hN : N ≤ w.heap.size) (hS : StdR B w) (hB : B ≤ R) :
  Calls Tryd.prog 52 #[.pointer (some ⟨R, 0, none⟩), .int .i64 op] w fun e w' => e = .returned (insR op s).1.val ∧ w.grownBy w' (some R) ∧ SR w' N R (insR op s).2 := by
 obtain ⟨m, rfl⟩ : ∃ m : Nat, op = m := ⟨op.toNat, by omega⟩
 obtain ⟨b1, b2, b3, b4, b5⟩ := bits_parts m (by omega) (by omega)
 rw [q1] at b1
 rw [q2] at b2
 rw [q3] at b3
 rw [q4] at b4
 rw [q5] at b5
 obtain ⟨v1, s1, e1⟩ : ∃ v t, s.take regOk = (v, t) := ⟨_, _, rfl⟩
 have x1 : insR1 m s = (v1, s1) := by unfold insR1 RS.opt; rw [q1, if_pos rfl, e1]
 obtain ⟨v2, s2, e2⟩ : ∃ v t, s1.take numOk = (v, t) := ⟨_, _, rfl⟩
 have x2 : insR2 m s = (v2, s2) := by unfold insR2 RS.opt; rw [x1, q2, if_pos rfl, e2]
 obtain ⟨v3, s3, e3⟩ : ∃ v t, s2.take regOk = (v, t) := ⟨_, _, rfl⟩
 have x3 : insR3 m s = (v3, s3) := by unfold insR3 RS.opt; rw [x2, q3, if_pos rfl, e3]
 obtain ⟨v4, s4, e4⟩ : ∃ v t, s3.take regOk = (v, t) := ⟨_, _, rfl⟩
 have x4 : insR4 m s = (v4, s4) := by unfold insR4 RS.opt; rw [x3, q4, if_pos rfl, e4]
 have x5 : insR5 m s = (v2, s4) := by unfold insR5 RS.opt; rw [x4, x2, q5, if_neg (by simp)]
 have hx : insR m s = (⟨m, v1, v3, v4, v2⟩, s4) := by unfold insR; rw [x1, x3, x4, x5]
 rw [hx]
 clear x1 x2 x3 x4 x5 hx q1 q2 q3 q4 q5
 have C1 : Hid (∀ wi, StdR B wi → SR wi N R s → Calls Tryd.prog 63 #[.pointer (some ⟨R, 0, none⟩)] wi fun e w' => e = .returned (.int .i64 v1) ∧ wi.grownBy w' (some R) ∧ SR w' N R s1) := fun wi hs hr => by
  have := sregister_any hr hs hB
  rw [e1] at this
  exact this
 have C2 : Hid (∀ wi, StdR B wi → SR wi N R s1 → Calls Tryd.prog 50 #[.pointer (some ⟨R, 0, none⟩)] wi fun e w' => e = .returned (.int .i64 v2) ∧ wi.grownBy w' (some R) ∧ SR w' N R s2) := fun wi hs hr => by
  have := snumber_any hr hs hB
  rw [e2] at this
  exact this
 have C3 : Hid (∀ wi, StdR B wi → SR wi N R s2 → Calls Tryd.prog 63 #[.pointer (some ⟨R, 0, none⟩)] wi fun e w' => e = .returned (.int .i64 v3) ∧ wi.grownBy w' (some R) ∧ SR w' N R s3) := fun wi hs hr => by
  have := sregister_any hr hs hB
  rw [e3] at this
  exact this
 have C4 : Hid (∀ wi, StdR B wi → SR wi N R s3 → Calls Tryd.prog 63 #[.pointer (some ⟨R, 0, none⟩)] wi fun e w' => e = .returned (.int .i64 v4) ∧ wi.grownBy w' (some R) ∧ SR w' N R s4) := fun wi hs hr => by
  have := sregister_any hr hs hB
  rw [e4] at this
  exact this
 clear e1 e2 e3 e4
 have HS : Hid (StdR B w) := hS
 have hT : TabOk w := (hS.std.tabs w (Below.refl _ _)).2
 have hb0 : Below w.heap.size w (w.alloc (.cells #[.int .i64 0, .int .i64 0, .int .i64 0, .int .i64 0, .int .i64 0] 51)) := (Below.refl _ _).alloc (Nat.le_refl _) _
 have hb1 : Below w.heap.size w ((w.alloc (.cells #[.int .i64 0, .int .i64 0, .int .i64 0, .int .i64 0, .int .i64 0] 51)).alloc (.cells #[.int .i64 m, .int .i64 0, .int .i64 0, .int .i64 0, .int .i64 0] 51)) := hb0.alloc (by simp) _
 have HH : Hid (∀ w1, Below w.heap.size w w1 → Calls Tryd.prog 45 #[.int .i64 m] w1 fun e w' => e = .returned (.int .i64 (hasOf m)) ∧ w' = w1) := fun w1 hb => has_any m w1 (hT.below hb)
 have X0 : Hid (XB w ((w.alloc (.cells #[.int .i64 0, .int .i64 0, .int .i64 0, .int .i64 0, .int .i64 0] 51)).alloc (.cells #[.int .i64 m, .int .i64 0, .int .i64 0, .int .i64 0, .int .i64 0] 51)) N R s m 0 0 0 0) :=
  ⟨h.kept hb1, by simpa using heap_alloc_new (w.alloc (.cells #[.int .i64 0, .int .i64 0, .int .i64 0, .int .i64 0, .int .i64 0] 51)) _, (heap_alloc_old _ _ (by simp)).trans (heap_alloc_new w _), rg_below _ hb1, hN⟩
 generalize hasOf m = H at HH b1 b2 b3 b4 b5
 have HB0 : Hid _ := hb0
 clear hS hT hb0 hb1 h hN
 go_enter Tryd.func52, Tryd.ntmps52
 go_wp2_with (first
  | (go_at_call 45; refine (HH.out _ HB0.out).mono ?_; rintro e w1 ⟨rfl, hw1⟩; replace hw1 := hw1.symm; subst hw1)
  | (go_at_call 63; refine (C1.out _ (X0.out.std HS.out hB) X0.out.sr).mono ?_; rintro e w2 ⟨rfl, hg, hr⟩; have Y : Hid _ := X0.out.call hg hr; have X1 : Hid _ := Y.out.set1 v1; have cc := Y.out.cells.1.2; have c1 : w2.cell? ⟨w.heap.size + 1, 1, none⟩ = some _ := cc.1; have g1 : w2.frozen? ⟨w.heap.size + 1, 1, none⟩ = false := Y.out.cells.2.1; clear cc hg hr Y X0 C1)
  | (go_at_call 50; refine (C2.out _ (X1.out.std HS.out hB) X1.out.sr).mono ?_; rintro e w3 ⟨rfl, hg, hr⟩; have Y : Hid _ := X1.out.call hg hr; have X2 : Hid _ := Y.out.set4 v2; have cc := Y.out.cells.1.2; have c2 : w3.cell? ⟨w.heap.size + 1, 4, none⟩ = some _ := cc.2.2.2; have g2 : w3.frozen? ⟨w.heap.size + 1, 4, none⟩ = false := Y.out.cells.2.2.2.2; clear cc hg hr Y X1 C2)
  | (go_at_call 63; refine (C3.out _ (X2.out.std HS.out hB) X2.out.sr).mono ?_; rintro e w4 ⟨rfl, hg, hr⟩; have Y : Hid _ := X2.out.call hg hr; have X3 : Hid _ := Y.out.set2 v3; have cc := Y.out.cells.1.2; have c3 : w4.cell? ⟨w.heap.size + 1, 2, none⟩ = some _ := cc.2.1; have g3 : w4.frozen? ⟨w.heap.size + 1, 2, none⟩ = false := Y.out.cells.2.2.1; clear cc hg hr Y X2 C3)
  | (go_at_call 63; refine (C4.out _ (X3.out.std HS.out hB) X3.out.sr).mono ?_; rintro e w5 ⟨rfl, hg, hr⟩; have Y : Hid _ := X3.out.call hg hr; have X4 : Hid _ := Y.out.set3 v4; have cc := Y.out.cells.1.2; have c4 : w5.cell? ⟨w.heap.size + 1, 3, none⟩ = some _ := cc.2.2.1; have g4 : w5.frozen? ⟨w.heap.size + 1, 3, none⟩ = false := Y.out.cells.2.2.2.1; clear cc hg hr Y X3 C4; obtain ⟨⟨y0, y1, y2, y3, y4⟩, _⟩ := X4.out.cells; obtain ⟨z0, z1⟩ := X4.out.resCells; have r0 := z0 0 (by decide); have r1 := z0 1 (by decide); have r2 := z0 2 (by decide); have r3 := z0 3 (by decide); have r4 := z0 4 (by decide); have f0 := z1 0 (by decide); have f1 := z1 1 (by decide); have f2 := z1 2 (by decide); have f3 := z1 3 (by decide); have f4 := z1 4 (by decide); clear z0 z1))
 refine bodyPost_ret (v := .agg #[.int .i64 m, .int .i64 v1, .int .i64 v3, .int .i64 v4, .int .i64 v2]) (by simp [results, Tryd.results52, go_sem, r0, r1, r2, r3, r4]) rfl ⟨rfl, ?_, ?_⟩
 ·exact rg_setNew (rg_setNew (rg_setNew (rg_setNew (rg_setNew X4.out.grown (by simp)) (by simp)) (by simp)) (by simp)) (by simp)
 ·have hn := X4.out.low
  exact ((((X4.out.sr.setNew (by exact hn) _).setNew (by exact hn) _).setNew (by exact hn) _).setNew (by exact hn) _).setNew (by exact hn) _
set_option maxRecDepth 100000 in
set_option maxHeartbeats 1000000 in
theorem sinstr_ret {B : Nat} {w : World} {N R : Nat} {s : RS} (op : Int) (h0 : 1 ≤ op) (h20 : op < 20) (q1 : (setsB op) = false) (q2 : (decide (op = 17 ∨ op = 1)) = false) (q3 : (readsAB op) = true) (q4 : (readsBB op) = false) (q5 : (decide (op = 15 ∨ op = 16)) = false) (h : SR w N R s) (hN : N ≤ w.heap.size) (hS : StdR B w) (hB : B ≤ R) :
  Calls Tryd.prog 52 #[.pointer (some ⟨R, 0, none⟩), .int .i64 op] w fun e w' => e = .returned (insR op s).1.val ∧ w.grownBy w' (some R) ∧ SR w' N R (insR op s).2 := by
 obtain ⟨m, rfl⟩ : ∃ m : Nat, op = m := ⟨op.toNat, by omega⟩
 obtain ⟨b1, b2, b3, b4, b5⟩ := bits_parts m (by omega) (by omega)
 rw [q1] at b1
 rw [q2] at b2
 rw [q3] at b3
 rw [q4] at b4
 rw [q5] at b5
 have x1 : insR1 m s = (0, s) := by unfold insR1 RS.opt; rw [q1, if_neg (by simp)]
 have x2 : insR2 m s = (0, s) := by unfold insR2 RS.opt; rw [x1, q2, if_neg (by simp)]
 obtain ⟨v3, s3, e3⟩ : ∃ v t, s.take regOk = (v, t) := ⟨_, _, rfl⟩
 have x3 : insR3 m s = (v3, s3) := by unfold insR3 RS.opt; rw [x2, q3, if_pos rfl, e3]
 have x4 : insR4 m s = (0, s3) := by unfold insR4 RS.opt; rw [x3, q4, if_neg (by simp)]
 have x5 : insR5 m s = (0, s3) := by unfold insR5 RS.opt; rw [x4, x2, q5, if_neg (by simp)]
 have hx : insR m s = (⟨m, 0, v3, 0, 0⟩, s3) := by unfold insR; rw [x1, x3, x4, x5]
 rw [hx]
 clear x1 x2 x3 x4 x5 hx q1 q2 q3 q4 q5
 have C3 : Hid (∀ wi, StdR B wi → SR wi N R s → Calls Tryd.prog 63 #[.pointer (some ⟨R, 0, none⟩)] wi fun e w' => e = .returned (.int .i64 v3) ∧ wi.grownBy w' (some R) ∧ SR w' N R s3) := fun wi hs hr => by
  have := sregister_any hr hs hB
  rw [e3] at this
  exact this
 clear e3
 have HS : Hid (StdR B w) := hS
 have hT : TabOk w := (hS.std.tabs w (Below.refl _ _)).2
 have hb0 : Below w.heap.size w (w.alloc (.cells #[.int .i64 0, .int .i64 0, .int .i64 0, .int .i64 0, .int .i64 0] 51)) := (Below.refl _ _).alloc (Nat.le_refl _) _
 have hb1 : Below w.heap.size w ((w.alloc (.cells #[.int .i64 0, .int .i64 0, .int .i64 0, .int .i64 0, .int .i64 0] 51)).alloc (.cells #[.int .i64 m, .int .i64 0, .int .i64 0, .int .i64 0, .int .i64 0] 51)) := hb0.alloc (by simp) _
 have HH : Hid (∀ w1, Below w.heap.size w w1 → Calls Tryd.prog 45 #[.int .i64 m] w1 fun e w' => e = .returned (.int .i64 (hasOf m)) ∧ w' = w1) := fun w1 hb => has_any m w1 (hT.below hb)
 have X0 : Hid (XB w ((w.alloc (.cells #[.int .i64 0, .int .i64 0, .int .i64 0, .int .i64 0, .int .i64 0] 51)).alloc (.cells #[.int .i64 m, .int .i64 0, .int .i64 0, .int .i64 0, .int .i64 0] 51)) N R s m 0 0 0 0) :=
  ⟨h.kept hb1, by simpa using heap_alloc_new (w.alloc (.cells #[.int .i64 0, .int .i64 0, .int .i64 0, .int .i64 0, .int .i64 0] 51)) _, (heap_alloc_old _ _ (by simp)).trans (heap_alloc_new w _), rg_below _ hb1, hN⟩
 generalize hasOf m = H at HH b1 b2 b3 b4 b5
 have HB0 : Hid _ := hb0
 clear hS hT hb0 hb1 h hN
 go_enter Tryd.func52, Tryd.ntmps52
 go_wp2_with (first
  | (go_at_call 45; refine (HH.out _ HB0.out).mono ?_; rintro e w1 ⟨rfl, hw1⟩; replace hw1 := hw1.symm; subst hw1)
  | (go_at_call 63; refine (C3.out _ (X0.out.std HS.out hB) X0.out.sr).mono ?_; rintro e w4 ⟨rfl, hg, hr⟩; have Y : Hid _ := X0.out.call hg hr; have X3 : Hid _ := Y.out.set2 v3; have cc := Y.out.cells.1.2; have c3 : w4.cell? ⟨w.heap.size + 1, 2, none⟩ = some _ := cc.2.1; have g3 : w4.frozen? ⟨w.heap.size + 1, 2, none⟩ = false := Y.out.cells.2.2.1; clear cc hg hr Y X0 C3; obtain ⟨⟨y0, y1, y2, y3, y4⟩, _⟩ := X3.out.cells; obtain ⟨z0, z1⟩ := X3.out.resCells; have r0 := z0 0 (by decide); have r1 := z0 1 (by decide); have r2 := z0 2 (by decide); have r3 := z0 3 (by decide); have r4 := z0 4 (by decide); have f0 := z1 0 (by decide); have f1 := z1 1 (by decide); have f2 := z1 2 (by decide); have f3 := z1 3 (by decide); have f4 := z1 4 (by decide); clear z0 z1))
 refine bodyPost_ret (v := .agg #[.int .i64 m, .int .i64 0, .int .i64 v3, .int .i64 0, .int .i64 0]) (by simp [results, Tryd.results52, go_sem, r0, r1, r2, r3, r4]) rfl ⟨rfl, ?_, ?_⟩
 ·exact rg_setNew (rg_setNew (rg_setNew (rg_setNew (rg_setNew X3.out.grown (by simp)) (by simp)) (by simp)) (by simp)) (by simp)
 ·have hn := X3.out.low
  exact ((((X3.out.sr.setNew (by exact hn) _).setNew (by exact hn) _).setNew (by exact hn) _).setNew (by exact hn) _).setNew (by exact hn) _
theorem sinstr_any {B : Nat} {w : World} {N R : Nat} {s : RS} (op : Int) (h0 : 1 ≤ op) (h20 : op < 20) (h : SR w N R s) (hN : N ≤ w.heap.size) (hS : StdR B w) (hB : B ≤ R) :
  Calls Tryd.prog 52 #[.pointer (some ⟨R, 0, none⟩), .int .i64 op] w fun e w' => e = .returned (insR op s).1.val ∧ w.grownBy w' (some R) ∧ SR w' N R (insR op s).2 := by
 have hc : op = 1 ∨ (2 ≤ op ∧ op ≤ 12) ∨ op = 13 ∨ op = 14 ∨ op = 15 ∨ op = 16 ∨ op = 17 ∨ op = 18 ∨ op = 19 := by omega
 rcases hc with e | ⟨e1, e2⟩ | e | e | e | e | e | e | e
 ·exact sinstr_set op h0 h20 (by simp [setsB, e]) (by simp [e]) (by simp [readsAB, e]) (by simp [readsBB, e]) (by simp [e]) h hN hS hB
 ·exact sinstr_two op h0 h20 (by simp [setsB]; omega) (by simp; omega) (by simp [readsAB]; omega) (by simp [readsBB]; omega) (by simp; omega) h hN hS hB
 ·exact sinstr_one op h0 h20 (by simp [setsB, e]) (by simp [e]) (by simp [readsAB, e]) (by simp [readsBB, e]) (by simp [e]) h hN hS hB
 ·exact sinstr_store op h0 h20 (by simp [setsB, e]) (by simp [e]) (by simp [readsAB, e]) (by simp [readsBB, e]) (by simp [e]) h hN hS hB
 ·exact sinstr_jump op h0 h20 (by simp [setsB, e]) (by simp [e]) (by simp [readsAB, e]) (by simp [readsBB, e]) (by simp [e]) h hN hS hB
 ·exact sinstr_if op h0 h20 (by simp [setsB, e]) (by simp [e]) (by simp [readsAB, e]) (by simp [readsBB, e]) (by simp [e]) h hN hS hB
 ·exact sinstr_call op h0 h20 (by simp [setsB, e]) (by simp [e]) (by simp [readsAB, e]) (by simp [readsBB, e]) (by simp [e]) h hN hS hB
 ·exact sinstr_one op h0 h20 (by simp [setsB, e]) (by simp [e]) (by simp [readsAB, e]) (by simp [readsBB, e]) (by simp [e]) h hN hS hB
 ·exact sinstr_ret op h0 h20 (by simp [setsB, e]) (by simp [e]) (by simp [readsAB, e]) (by simp [readsBB, e]) (by simp [e]) h hN hS hB
end Go.Proofs.YtfacdhkadnmnlaaDoor
