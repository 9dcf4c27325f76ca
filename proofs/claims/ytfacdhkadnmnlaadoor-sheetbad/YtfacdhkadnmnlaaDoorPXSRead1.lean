import Derived.WalkLawsBesides
import Derived.Test.YtfacdhkadnmnlaaDoorPXAppIns
import Derived.Test.YtfacdhkadnmnlaaDoorPGroupA
import Derived.Test.YtfacdhkadnmnlaaDoorPXReadLay
import Derived.Test.YtfacdhkadnmnlaaDoorPXShow
namespace Go.Proofs.YtfacdhkadnmnlaaDoor
open Go Go.RowKit

structure StdR (B : Nat) (w : World) : Prop where
 std : Std B w
 syn : ∀ w', Below B w w' → ∃ ev, w'.cell? ⟨6, 0, none⟩ = some ev ∧ (ev = .nilIface ∨ ∃ te pe, ev = .iface te pe)
 rng : ∀ w', Below B w w' → ∃ ev, w'.cell? ⟨7, 0, none⟩ = some ev ∧ (ev = .nilIface ∨ ∃ te pe, ev = .iface te pe)
 most : ∀ w', Below B w w' → ∃ m : Int, w'.cell? ⟨2, 0, none⟩ = some (.int .i64 m)
theorem StdR.on {B : Nat} {w w' : World} (h : StdR B w) (hb : Below B w w') : StdR B w' := ⟨h.std.on hb, fun w2 h2 => h.syn w2 (hb.trans h2), fun w2 h2 => h.rng w2 (hb.trans h2), fun w2 h2 => h.most w2 (hb.trans h2)⟩
theorem StdR.up {B C : Nat} {w : World} (h : StdR B w) (hC : B ≤ C) : StdR C w := ⟨⟨fun w' hb => h.std.pow w' (hb.mono hC), fun w' hb => h.std.tabs w' (hb.mono hC)⟩, fun w2 h2 => h.syn w2 (h2.mono hC), fun w2 h2 => h.rng w2 (h2.mono hC), fun w2 h2 => h.most w2 (h2.mono hC)⟩
theorem rg_trans {a b c : World} {r : Option Nat} (h : a.grownBy b r) (k : b.grownBy c r) : a.grownBy c r :=
 ⟨k.os.trans h.os, k.tape.trans h.tape, k.output.trans h.output, Nat.le_trans h.size k.size, fun i hi hr => (k.block i (Nat.lt_of_lt_of_le hi h.size) hr).trans (h.block i hi hr)⟩
theorem rg_below {a b : World} (r : Option Nat) (h : Below a.heap.size a b) : a.grownBy b r := ⟨h.os, h.tape, h.output, h.size, fun i hi _ => h.block i hi⟩
theorem rg_to {B R : Nat} {a b : World} (h : a.grownBy b (some R)) (hB : B ≤ R) (hz : B ≤ a.heap.size) : Below B a b := (Below.refl B a).grown h hz (fun k e => by cases e; exact hB)
theorem rg_set {a : World} {R i : Nat} {v : Value} : a.grownBy (a.setCell ⟨R, i, none⟩ v) (some R) := ⟨rfl, rfl, rfl, by simp [World.setCell], fun k _ hk => Below.heap_setCell _ _ _ _ (by simpa using hk)⟩
structure SRAt (w : World) (N R : Nat) (ao : Option Addr) (cap S off : Nat) (s : RS) : Prop where
 blk : w.heap[R]? = some (.cells #[.slice ao s.rest.length cap, .bool s.bad] 68)
 ne : S ≠ R
 low : S < N ∧ R < N
 addr : s.rest ≠ [] → ao = some ⟨S, off, none⟩
 room : s.rest.length ≤ cap
 small : s.rest.length ≤ 20000
 cells : ∀ i, i < s.rest.length → w.cell? ⟨S, off + i, none⟩ = some (.string ⟨(s.rest.getD i []).toArray⟩)
 each : ∀ p ∈ s.rest, p.length ≤ 20000
def SR (w : World) (N R : Nat) (s : RS) : Prop := ∃ ao cap S off, SRAt w N R ao cap S off s
theorem SRAt.kept {w w' : World} {N R : Nat} {ao : Option Addr} {cap S off : Nat} {s : RS} (h : SRAt w N R ao cap S off s) (hb : Below w.heap.size w w') : SRAt w' N R ao cap S off s :=
 ⟨(hb.block R (lt_of_block h.blk)).trans h.blk, h.ne, h.low, h.addr, h.room, h.small, fun i hi => keeps_below hb _ _ (h.cells i hi), h.each⟩
theorem SR.kept {w w' : World} {N R : Nat} {s : RS} (h : SR w N R s) (hb : Below w.heap.size w w') : SR w' N R s := by
 obtain ⟨ao, cap, S, off, h⟩ := h
 exact ⟨ao, cap, S, off, h.kept hb⟩
theorem SR.lt {w : World} {N R : Nat} {s : RS} (h : SR w N R s) : R < w.heap.size := by
 obtain ⟨ao, cap, S, off, h⟩ := h
 exact lt_of_block h.blk
theorem SR.each {w : World} {N R : Nat} {s : RS} (h : SR w N R s) : ∀ p ∈ s.rest, p.length ≤ 20000 := by
 obtain ⟨ao, cap, S, off, h⟩ := h
 exact h.each
theorem SR.word_len {w : World} {N R : Nat} {s : RS} (h : SR w N R s) : s.word.length ≤ 20000 := by
 unfold RS.word
 cases hr : s.rest with
 | nil => simp
 | cons p r => exact h.each p (by rw [hr]; simp)
theorem SRAt.mark {w : World} {N R : Nat} {ao : Option Addr} {cap S off : Nat} {s : RS} (h : SRAt w N R ao cap S off s) : SRAt (w.setCell ⟨R, 1, none⟩ (.bool true)) N R ao cap S off ⟨s.rest, true⟩ :=
 ⟨heap_setCell_same w R 1 _ _ (.bool true) h.blk, h.ne, h.low, h.addr, h.room, h.small, fun i hi => (World.cell?_of_block (w := w) (Below.heap_setCell _ _ _ _ (by simpa using h.ne))).trans (h.cells i hi), h.each⟩
set_option maxRecDepth 100000 in
set_option maxHeartbeats 400000 in
theorem snext_any {w : World} {N R : Nat} {s : RS} (h : SR w N R s) :
  Calls Tryd.prog 29 #[.pointer (some ⟨R, 0, none⟩)] w fun e w' => e = .returned (.string ⟨s.word.toArray⟩) ∧ w.grownBy w' (some R) ∧ SR w' N R ⟨s.rest.tail, s.bad || s.rest.isEmpty⟩ := by
 obtain ⟨ao, cap, S, off, h⟩ := h
 obtain ⟨rest, bad⟩ := s
 cases rest with
 | nil =>
  have c0 : w.cell? ⟨R, 0, none⟩ = some (.slice ao 0 cap) := by simp [World.cell?, h.blk]
  have c1 : w.cell? ⟨R, 1, none⟩ = some (.bool bad) := by simp [World.cell?, h.blk]
  have cf : w.frozen? ⟨R, 1, none⟩ = false := by simp [World.frozen?, h.blk]
  have H : Hid _ := h
  clear h
  go_enter Tryd.func29, Tryd.ntmps29
  go_wp2
  go_ret
  exact ⟨rfl, rg_set, by simpa using ⟨ao, cap, S, off, H.out.mark⟩⟩
 | cons p r =>
  obtain ⟨n, hn⟩ : ∃ n, n = r.length := ⟨_, rfl⟩
  have hblk : w.heap[R]? = some (.cells #[.slice ao (n + 1) cap, .bool bad] 68) := by rw [hn]; exact h.blk
  have c0 : w.cell? ⟨R, 0, none⟩ = some (.slice ao (n + 1) cap) := by simp [World.cell?, hblk]
  have cf : w.frozen? ⟨R, 0, none⟩ = false := by simp [World.frozen?, hblk]
  obtain rfl := h.addr (by simp)
  have cp : w.cell? ⟨S, off, none⟩ = some (.string ⟨p.toArray⟩) := by simpa using h.cells 0 (by simp)
  have hcap : n + 1 ≤ cap := by have := h.room; simp at this; omega
  have hsm : n ≤ 20000 := by have := h.small; simp at this; omega
  have H : Hid _ := h
  have HN : Hid (n = r.length) := hn
  have HB : Hid _ := hblk
  clear h hn hblk
  go_enter Tryd.func29, Tryd.ntmps29
  go_wp2
  ·rename_i hc1
   obtain rfl : n = 0 := by omega
   have hr0 : r = [] := List.length_eq_zero_iff.1 (by have := HN.out; omega)
   subst hr0
   go_ret
   refine ⟨rfl, rg_set, some ⟨S, off, none⟩, 0, S, off, ?_⟩
   exact ⟨heap_setCell_same w R 0 _ _ _ HB.out, H.out.ne, H.out.low, fun h => absurd rfl h, Nat.le_refl _, by simp, fun i hi => by simp at hi, by simp⟩
  ·rename_i hc1
   go_ret
   refine ⟨rfl, rg_set, some ⟨S, off + 1, none⟩, cap - 1, S, off + 1, ?_⟩
   refine ⟨?_, H.out.ne, H.out.low, fun _ => rfl, by have := HN.out; show r.length ≤ _; omega, by have := HN.out; show r.length ≤ _; omega, fun i hi => ?_, fun q hq => H.out.each q (by simp [hq])⟩
   ·have := heap_setCell_same w R 0 _ _ (.slice (some ⟨S, off + 1, none⟩) n (cap - 1)) HB.out
    rw [HN.out] at this ⊢
    exact this
   ·have h2 : i + 1 < (p :: r).length := by simpa using hi
    have hc := H.out.cells (i + 1) h2
    rw [World.cell?_of_block (w := w) (Below.heap_setCell _ _ _ _ (by simpa using H.out.ne)), show off + 1 + i = off + (i + 1) by omega]
    simpa using hc
set_option maxRecDepth 100000 in
set_option maxHeartbeats 400000 in
theorem sright_any {w : World} {N R : Nat} {s : RS} (h : SR w N R s) :
  Calls Tryd.prog 51 #[.pointer (some ⟨R, 0, none⟩)] w fun e w' => e = .returned (.bool s.right) ∧ w' = w := by
 obtain ⟨ao, cap, S, off, h⟩ := h
 obtain ⟨rest, bad⟩ := s
 have c0 : w.cell? ⟨R, 0, none⟩ = some (.slice ao rest.length cap) := by simp [World.cell?, h.blk]
 have c1 : w.cell? ⟨R, 1, none⟩ = some (.bool bad) := by simp [World.cell?, h.blk]
 have hr : RS.right ⟨rest, bad⟩ = (!bad && (rest.length == 0)) := by cases rest <;> rfl
 rw [hr]
 generalize rest.length = n at c0
 clear h hr
 cases bad with
 | true =>
  go_enter Tryd.func51, Tryd.ntmps51
  go_wp2
  go_ret
  exact ⟨rfl, rfl⟩
 | false =>
  have h0 : ((n : Int) == 0) = (n == 0) := by cases n <;> rfl
  go_enter Tryd.func51, Tryd.ntmps51
  go_wp2
  go_ret
  exact ⟨by simp [], rfl⟩
set_option maxRecDepth 100000 in
set_option maxHeartbeats 400000 in
theorem pInt_ok (l : Pc) (hl : l.length ≤ 20000) (v : Int) (h : Lib.parseIntB 64 l = .ok v) (w : World) :
  Calls Tryd.prog 72 #[.string ⟨l.toArray⟩, .int .i64 10, .int .i64 64] w fun e w' => e = .returned (.tuple #[.int .i64 v, .nilIface]) ∧ Below w.heap.size w w' :=
 (strconv_ParseInt_10_at64_ok ⟨l.toArray⟩ (by show l.length ≤ _; omega) v h w).mono fun e w' ⟨he, hw⟩ => ⟨he, by
  rcases hw with rfl | ⟨t, rfl⟩
  ·exact Below.refl _ _
  ·exact Lib.bytesWorld_below _ _ _⟩
theorem pInt_bad (l : Pc) (hl : l.length ≤ 20000) (h : ∀ v, Lib.parseIntB 64 l ≠ .ok v) (w : World) (B : Nat) (hS : StdR B w) :
  Calls Tryd.prog 72 #[.string ⟨l.toArray⟩, .int .i64 10, .int .i64 64] w fun e w' => ∃ (n : Int) (t : TypeId) (u : Value), e = .returned (.tuple #[.int .i64 n, .iface t u]) ∧ Below w.heap.size w w' := by
 obtain ⟨ev, h1, h2⟩ := hS.syn w (Below.refl _ _)
 obtain ⟨ev', h3, h4⟩ := hS.rng w (Below.refl _ _)
 have hz : (⟨l.toArray⟩ : ByteArray).size ≤ 281474976710656 := by show l.length ≤ _; omega
 cases hp : Lib.parseIntB 64 l with
 | ok v => exact absurd hp (h v)
 | «syntax» => exact (strconv_ParseInt_10_at64_syntax ⟨l.toArray⟩ hz hp ev w h1 h2).mono fun e w' ⟨N, he, _, _, hb⟩ => ⟨_, _, _, he, hb⟩
 | range => exact (strconv_ParseInt_10_at64_range ⟨l.toArray⟩ hz hp ev' w h3 h4).mono fun e w' ⟨N, he, _, _, hb⟩ => ⟨_, _, _, he, hb⟩
theorem fmt_any (n : Int) (h : I64 n) (w : World) (B : Nat) (hS : StdR B w) :
  Calls Tryd.prog 73 #[.int .i64 n, .int .i64 10] w fun e w' => e = .returned (.string ⟨(Lib.itoa n).toArray⟩) ∧ Below w.heap.size w w' :=
 (strconv_FormatInt_10 n h.1 h.2 w (hS.std.pow w (Below.refl _ _))).mono fun e w' ⟨he, k, os, hw⟩ => ⟨he, by subst hw; exact Lib.below_grow _ _ (Nat.le_refl _) _ _⟩
set_option maxRecDepth 100000 in
set_option maxHeartbeats 400000 in
theorem snum_any {B : Nat} {w : World} {N R : Nat} {s : RS} (l : Pc) (hl : l.length ≤ 20000) (h : SR w N R s) (hS : StdR B w) (hB : B ≤ w.heap.size) :
  Calls Tryd.prog 62 #[.pointer (some ⟨R, 0, none⟩), .string ⟨l.toArray⟩] w fun e w' => e = .returned (.int .i64 ((numOk l).getD 0)) ∧ w.grownBy w' (some R) ∧ SR w' N R ⟨s.rest, s.bad || (numOk l).isNone⟩ := by
 have mark : ∀ w1, Below w.heap.size w w1 → w.grownBy (w1.setCell ⟨R, 1, none⟩ (.bool true)) (some R) ∧ SR (w1.setCell ⟨R, 1, none⟩ (.bool true)) N R ⟨s.rest, true⟩ := fun w1 hb => by
  obtain ⟨ao, cap, S, off, h⟩ := h
  exact ⟨rg_trans (rg_below _ hb) rg_set, ao, cap, S, off, (h.kept hb).mark⟩
 have HM : Hid _ := mark
 have HC : Hid (∀ w1, Below w.heap.size w w1 → ∃ x : Bool, w1.cell? ⟨R, 1, none⟩ = some (.bool x) ∧ w1.frozen? ⟨R, 1, none⟩ = false) := fun w1 hb => by
  obtain ⟨ao, cap, S, off, h⟩ := h
  have := (h.kept hb).blk
  exact ⟨s.bad, by simp [World.cell?, this], by simp [World.frozen?, this]⟩
 by_cases hp : ∃ v, Lib.parseIntB 64 l = .ok v
 ·obtain ⟨v, hv⟩ := hp
  have hbd := Lib.parseIntB_bounds hv
  have e63 : (2 : Nat) ^ (64 - 1) = 9223372036854775808 := by decide
  rw [e63] at hbd
  have hv64 : I64 v := ⟨by have := hbd.1; omega, by have := hbd.2; omega⟩
  have H1 : Hid (∀ w, Calls Tryd.prog 72 #[.string ⟨l.toArray⟩, .int .i64 10, .int .i64 64] w fun e w' => e = .returned (.tuple #[.int .i64 v, .nilIface]) ∧ Below w.heap.size w w') := fun w => pInt_ok l hl v hv w
  have H2 : Hid (∀ w1, Below w.heap.size w w1 → Calls Tryd.prog 73 #[.int .i64 v, .int .i64 10] w1 fun e w' => e = .returned (.string ⟨(Lib.itoa v).toArray⟩) ∧ Below w1.heap.size w1 w') := fun w1 hb => fmt_any v hv64 w1 B (hS.on (hb.mono hB))
  have HN : Hid (numOk l = if Lib.itoa v = l then some v else none) := by show _ = _; unfold numOk; rw [hv]
  have HS : Hid (SR w N R s) := h
  clear hS h mark hbd hv
  by_cases he : Lib.itoa v = l
  ·have e0 : numOk l = some v := by rw [HN.out, if_pos he]
   rw [e0]
   subst he
   go_enter Tryd.func62, Tryd.ntmps62
   go_wp2_with (first
    | (go_at_call 72; refine (H1.out _).mono ?_; rintro e w1 ⟨rfl, hb1⟩; have B1 : Hid _ := hb1; clear hb1)
    | (go_at_call 73; refine (H2.out _ B1.out).mono ?_; rintro e w2 ⟨rfl, hb2⟩; have B2 : Hid (Below w.heap.size w w2) := B1.out.trans (hb2.mono B1.out.size); clear hb2))
   go_ret
   exact ⟨rfl, rg_below _ B2.out, by simpa using HS.out.kept B2.out⟩
  ·have e0 : numOk l = none := by rw [HN.out, if_neg he]
   rw [e0]
   have hne : (Lib.itoa v == l) = false := by simpa using he
   go_enter Tryd.func62, Tryd.ntmps62
   go_wp2_with (first
    | (go_at_call 72; refine (H1.out _).mono ?_; rintro e w1 ⟨rfl, hb1⟩; have B1 : Hid _ := hb1; clear hb1)
    | (go_at_call 73; refine (H2.out _ B1.out).mono ?_; rintro e w2 ⟨rfl, hb2⟩; have B2 : Hid (Below w.heap.size w w2) := B1.out.trans (hb2.mono B1.out.size); clear hb2; obtain ⟨x2, cx2, fx2⟩ := HC.out w2 B2.out))
   go_ret
   exact ⟨rfl, (HM.out _ B2.out).1, by simpa using (HM.out _ B2.out).2⟩
 ·have e0 : numOk l = none := by
   unfold numOk
   cases hq : Lib.parseIntB 64 l with
   | ok v => exact absurd ⟨v, hq⟩ hp
   | «syntax» => rfl
   | range => rfl
  rw [e0]
  have H1 : Hid (Calls Tryd.prog 72 #[.string ⟨l.toArray⟩, .int .i64 10, .int .i64 64] w fun e w' => ∃ (n : Int) (t : TypeId) (u : Value), e = .returned (.tuple #[.int .i64 n, .iface t u]) ∧ Below w.heap.size w w') := pInt_bad l hl (fun v hv => hp ⟨v, hv⟩) w B hS
  clear hS h mark hp
  go_enter Tryd.func62, Tryd.ntmps62
  go_wp2_with (first
   | (go_at_call 72; refine H1.out.mono ?_; rintro e w1 ⟨n1, t1, u1, rfl, hb1⟩; have B1 : Hid _ := hb1; clear hb1; obtain ⟨x1, cx1, fx1⟩ := HC.out w1 B1.out))
  go_ret
  exact ⟨rfl, (HM.out _ B1.out).1, by simpa using (HM.out _ B1.out).2⟩
theorem StdR.rg {B : Nat} {w w' : World} {R : Nat} (h : StdR B w) (hg : w.grownBy w' (some R)) (hB : B ≤ R) (hz : B ≤ w.heap.size) : StdR B w' := h.on (rg_to hg hB hz)
set_option maxRecDepth 100000 in
set_option maxHeartbeats 400000 in
theorem snumber_any {B : Nat} {w : World} {N R : Nat} {s : RS} (h : SR w N R s) (hS : StdR B w) (hB : B ≤ R) :
  Calls Tryd.prog 50 #[.pointer (some ⟨R, 0, none⟩)] w fun e w' => e = .returned (.int .i64 (s.take numOk).1) ∧ w.grownBy w' (some R) ∧ SR w' N R (s.take numOk).2 := by
 have hlt := h.lt
 have hwl := h.word_len
 have HE : Hid (RS.mk s.rest.tail (s.bad || s.rest.isEmpty || (numOk s.word).isNone) = (s.take numOk).2) := by
  show _ = _
  unfold RS.take
  dsimp only
  congr 1
  obtain ⟨rest, bad⟩ := s
  cases rest with
  | nil => simp [RS.word, numOk_nil]
  | cons p r => simp
 have HN : Hid (∀ w1, w.grownBy w1 (some R) → SR w1 N R ⟨s.rest.tail, s.bad || s.rest.isEmpty⟩ → Calls Tryd.prog 62 #[.pointer (some ⟨R, 0, none⟩), .string ⟨s.word.toArray⟩] w1 fun e w' => e = .returned (.int .i64 (s.take numOk).1) ∧ w1.grownBy w' (some R) ∧ SR w' N R (s.take numOk).2) := fun w1 hg hr => by
  have := snum_any (B := B) s.word hwl hr (hS.rg hg hB (by omega)) (by have := hg.size; omega)
  rw [HE.out] at this
  exact this
 generalize s.take numOk = t at HN HE
 clear hS hwl
 go_enter Tryd.func50, Tryd.ntmps50
 go_wp2_with (first
  | (go_at_call 29; refine (snext_any h).mono ?_; rintro e w1 ⟨rfl, hg1, hr1⟩; have G1 : Hid _ := hg1; have R1 : Hid _ := hr1; clear hg1 hr1)
  | (go_at_call 62; refine (HN.out _ G1.out R1.out).mono ?_; rintro e w2 ⟨rfl, hg2, hr2⟩; have G2 : Hid _ := hg2; have R2 : Hid _ := hr2; clear hg2 hr2))
 go_ret
 exact ⟨rfl, rg_trans G1.out G2.out, R2.out⟩
theorem prefix_reg (l : Pc) : Lib.hasPrefix l [114] = true → ∃ r, l = 114 :: r ∧ Lib.trimPrefix l [114] = r := by
 intro h
 cases l with
 | nil => simp [Lib.hasPrefix] at h
 | cons c r =>
  have hc : c = 114 := by simp [Lib.hasPrefix] at h; exact h.symm
  subst hc
  exact ⟨r, rfl, by simp [Lib.trimPrefix, Lib.hasPrefix]⟩
theorem regOk_none (l : Pc) (h : Lib.hasPrefix l [114] = false) : regOk l = none := by
 cases l with
 | nil => rfl
 | cons c r =>
  have hc : ¬ c = 114 := by intro e; subst e; simp [Lib.hasPrefix] at h
  simp [regOk, hc]
theorem regOk_some (r : Pc) : regOk (114 :: r) = numOk r := by simp [regOk]
set_option maxRecDepth 100000 in
set_option maxHeartbeats 400000 in
theorem sregister_any {B : Nat} {w : World} {N R : Nat} {s : RS} (h : SR w N R s) (hS : StdR B w) (hB : B ≤ R) :
  Calls Tryd.prog 63 #[.pointer (some ⟨R, 0, none⟩)] w fun e w' => e = .returned (.int .i64 (s.take regOk).1) ∧ w.grownBy w' (some R) ∧ SR w' N R (s.take regOk).2 := by
 have hlt := h.lt
 have hwl := h.word_len
 have HE : Hid (RS.mk s.rest.tail (s.bad || s.rest.isEmpty || (regOk s.word).isNone) = (s.take regOk).2) := by
  show _ = _
  unfold RS.take
  dsimp only
  congr 1
  obtain ⟨rest, bad⟩ := s
  cases rest with
  | nil => simp [RS.word, regOk]
  | cons p r => simp
 have HC : Hid (∀ w, Calls Tryd.prog 74 #[.string ⟨s.word.toArray⟩, .string ⟨#[114]⟩] w fun e w' => e = .returned (.tuple #[.string ⟨(Lib.trimPrefix s.word [114]).toArray⟩, .bool (Lib.hasPrefix s.word [114])]) ∧ w' = w) := fun w => strings_CutPrefix ⟨s.word.toArray⟩ ⟨#[114]⟩ w
 cases hp : Lib.hasPrefix s.word [114] with
 | false =>
  have hno := regOk_none _ hp
  have HV : Hid (0 = (s.take regOk).1) := by show _ = _; unfold RS.take; rw [hno]; rfl
  have HM : Hid (∀ w1, w.grownBy w1 (some R) → SR w1 N R ⟨s.rest.tail, s.bad || s.rest.isEmpty⟩ → (∃ x : Bool, w1.cell? ⟨R, 1, none⟩ = some (.bool x) ∧ w1.frozen? ⟨R, 1, none⟩ = false) ∧ w.grownBy (w1.setCell ⟨R, 1, none⟩ (.bool true)) (some R) ∧ SR (w1.setCell ⟨R, 1, none⟩ (.bool true)) N R (s.take regOk).2) := fun w1 hg hr => by
   have he := HE.out
   rw [hno] at he
   simp only [Option.isNone_none, Bool.or_true] at he
   rw [← he]
   obtain ⟨ao, cap, S, off, hr⟩ := hr
   have := hr.blk
   exact ⟨⟨_, by simp [World.cell?, this]; rfl, by simp [World.frozen?, this]⟩, rg_trans hg rg_set, ao, cap, S, off, hr.mark⟩
  rw [← HV.out]
  generalize (s.take regOk).2 = t at HM HE
  rw [hp] at HC
  generalize Lib.trimPrefix s.word [114] = q at HC
  clear hS hwl hno hp
  go_enter Tryd.func63, Tryd.ntmps63
  go_wp2_with (first
   | (go_at_call 29; refine (snext_any h).mono ?_; rintro e w1 ⟨rfl, hg1, hr1⟩; obtain ⟨⟨x1, cx1, fx1⟩, gx1, sx1⟩ := HM.out w1 hg1 hr1; have G1 : Hid _ := gx1; have R1 : Hid _ := sx1; clear hg1 hr1 gx1 sx1)
   | (go_at_call 74; refine (HC.out _).mono ?_; rintro e w2 ⟨rfl, hw2⟩; replace hw2 := hw2.symm; subst hw2))
  go_ret
  exact ⟨rfl, G1.out, R1.out⟩
 | true =>
  obtain ⟨q, hq, htq⟩ := prefix_reg _ hp
  have hno : regOk s.word = numOk q := by rw [hq]; exact regOk_some q
  have hql : q.length ≤ 20000 := by rw [hq] at hwl; simp at hwl; omega
  rw [htq, hp] at HC
  have HN : Hid (∀ w1, w.grownBy w1 (some R) → SR w1 N R ⟨s.rest.tail, s.bad || s.rest.isEmpty⟩ → Calls Tryd.prog 62 #[.pointer (some ⟨R, 0, none⟩), .string ⟨q.toArray⟩] w1 fun e w' => e = .returned (.int .i64 (s.take regOk).1) ∧ w1.grownBy w' (some R) ∧ SR w' N R (s.take regOk).2) := fun w1 hg hr => by
   have := snum_any (B := B) q hql hr (hS.rg hg hB (by omega)) (by have := hg.size; omega)
   rw [← hno, HE.out] at this
   exact this
  generalize s.take regOk = t at HN HE
  clear hS hwl hno hp hq htq hql
  go_enter Tryd.func63, Tryd.ntmps63
  go_wp2_with (first
   | (go_at_call 29; refine (snext_any h).mono ?_; rintro e w1 ⟨rfl, hg1, hr1⟩; have G1 : Hid _ := hg1; have R1 : Hid _ := hr1; clear hg1 hr1)
   | (go_at_call 74; refine (HC.out _).mono ?_; rintro e w2 ⟨rfl, hw2⟩; replace hw2 := hw2.symm; subst hw2)
   | (go_at_call 62; refine (HN.out _ G1.out R1.out).mono ?_; rintro e w2 ⟨rfl, hg2, hr2⟩; have G2 : Hid _ := hg2; have R2 : Hid _ := hr2; clear hg2 hr2))
  go_ret
  exact ⟨rfl, rg_trans G1.out G2.out, R2.out⟩
end Go.Proofs.YtfacdhkadnmnlaaDoor
