import Derived.Deep.DeepCutAuto
import Derived.Test.YtfacdhkadnmnlaaDoorPXAppLay
import Derived.Test.YtfacdhkadnmnlaaDoorPGroupA
namespace Go.Proofs.YtfacdhkadnmnlaaDoor
open Go Go.RowKit

def WordOk (w : World) : Prop := ∀ i : Nat, i < 20 → w.cell? ⟨0, i, none⟩ = some (.string ⟨(wordL.getD i []).toArray⟩)
structure Std (B : Nat) (w : World) : Prop where
 pow : PowB B w
 tabs : ∀ w', Below B w w' → WordOk w' ∧ TabOk w'
theorem Std.on {B : Nat} {w w' : World} (h : Std B w) (hb : Below B w w') : Std B w' := ⟨h.pow.on hb, fun w2 h2 => h.tabs w2 (hb.trans h2)⟩
theorem bits_parts : ∀ m : Nat, m < 20 → 1 ≤ m → (bits .and .i64 (hasOf m) 1 != 0) = setsB m ∧ (bits .and .i64 (hasOf m) 40 != 0) = decide ((m : Int) = 17 ∨ (m : Int) = 1) ∧ (bits .and .i64 (hasOf m) 2 != 0) = readsAB m ∧ (bits .and .i64 (hasOf m) 4 != 0) = readsBB m ∧ (bits .and .i64 (hasOf m) 16 != 0) = decide ((m : Int) = 15 ∨ (m : Int) = 16) := by decide
theorem txt_eq {w : World} {B : Nat} {v : Value} {a b : List UInt8} (e : b = a) (h : Txt w B v a) : Txt w B v b := e ▸ h
set_option maxRecDepth 100000 in
set_option maxHeartbeats 4000000 in
theorem appInstr_any (B : Nat) (op dst a b imm : Int) (v : Value) (bs : List UInt8) (w : World) (h0 : 1 ≤ op) (h1 : op < 20) (hd : I64 dst) (ha : I64 a) (hbb : I64 b) (hi : I64 imm) (hown : Txt w B v bs) (hB : B ≤ w.heap.size) (hn : bs.length ≤ 50000) (ht : Std B w) :
  Calls Tryd.prog 24 #[v, .agg #[.int .i64 op, .int .i64 dst, .int .i64 a, .int .i64 b, .int .i64 imm]] w fun e w' => ∃ v', e = .returned v' ∧ Txt w' B v' (bs ++ insLine ⟨op, dst, a, b, imm⟩) ∧ Grew B w w' := by
 obtain ⟨m, rfl⟩ : ∃ m : Nat, op = m := ⟨op.toNat, by omega⟩
 obtain ⟨iB, hiB, hzB0, hzB1, hzB2⟩ := info_parts infoB
 have hwl : (wordL.getD m []).length ≤ 5 := word_len m
 obtain ⟨b1, b2, b3, b4, b5⟩ := bits_parts m (by omega) (by omega)
 have hba : Below B w (w.alloc (.cells #[.int .i64 m, .int .i64 dst, .int .i64 a, .int .i64 b, .int .i64 imm] 51)) := (Below.refl _ w).alloc hB _
 have hcw := (ht.tabs _ hba).1 m (by omega)
 have HTA : Hid (TabOk (w.alloc (.cells #[.int .i64 m, .int .i64 dst, .int .i64 a, .int .i64 b, .int .i64 imm] 51))) := (ht.tabs _ hba).2
 have HT : Hid (Std B w) := ht
 have HHAS : Hid (∀ w, TabOk w → Calls Tryd.prog 45 #[.int .i64 m] w fun e w' => e = .returned (.int .i64 (hasOf m)) ∧ w' = w) := fun w h => has_any m w h
 have HR : Hid (∀ t1 t2 t3 t4 t5, t1 = bs ++ wordL.getD m [] ++ regPart (setsB m) dst → t2 = t1 ++ numPart (decide ((m : Int) = 17 ∨ (m : Int) = 1)) imm → t3 = t2 ++ regPart (readsAB m) a → t4 = t3 ++ regPart (readsBB m) b → t5 = t4 ++ numPart (decide ((m : Int) = 15 ∨ (m : Int) = 16)) imm → bs ++ insLine ⟨m, dst, a, b, imm⟩ = t5 ++ [10]) := by
  intro t1 t2 t3 t4 t5 e1 e2 e3 e4 e5
  subst e1 e2 e3 e4 e5
  simp [insLine, lineOf, line4, line3, line2, line1]

 obtain ⟨t1, ht1⟩ : ∃ t1, t1 = bs ++ wordL.getD m [] ++ regPart (setsB m) dst := ⟨_, rfl⟩
 have hl1 : t1.length ≤ 50005 + 23 := by rw [ht1]; simp only [List.length_append]; have := regPart_len (setsB m) dst hd.1 hd.2; omega
 obtain ⟨t2, ht2⟩ : ∃ t2, t2 = t1 ++ numPart (decide ((m : Int) = 17 ∨ (m : Int) = 1)) imm := ⟨_, rfl⟩
 have hl2 : t2.length ≤ 50005 + 46 := by rw [ht2]; simp only [List.length_append]; have := numPart_len (decide ((m : Int) = 17 ∨ (m : Int) = 1)) imm hi.1 hi.2; omega
 obtain ⟨t3, ht3⟩ : ∃ t3, t3 = t2 ++ regPart (readsAB m) a := ⟨_, rfl⟩
 have hl3 : t3.length ≤ 50005 + 69 := by rw [ht3]; simp only [List.length_append]; have := regPart_len (readsAB m) a ha.1 ha.2; omega
 obtain ⟨t4, ht4⟩ : ∃ t4, t4 = t3 ++ regPart (readsBB m) b := ⟨_, rfl⟩
 have hl4 : t4.length ≤ 50005 + 92 := by rw [ht4]; simp only [List.length_append]; have := regPart_len (readsBB m) b hbb.1 hbb.2; omega
 obtain ⟨t5, ht5⟩ : ∃ t5, t5 = t4 ++ numPart (decide ((m : Int) = 15 ∨ (m : Int) = 16)) imm := ⟨_, rfl⟩
 have hl5 : t5.length ≤ 50005 + 115 := by rw [ht5]; simp only [List.length_append]; have := numPart_len (decide ((m : Int) = 15 ∨ (m : Int) = 16)) imm hi.1 hi.2; omega
 have HRR : Hid (bs ++ insLine ⟨m, dst, a, b, imm⟩ = t5 ++ [10]) := HR.out t1 t2 t3 t4 t5 ht1 ht2 ht3 ht4 ht5
 have HD : Hid (I64 dst) := hd
 have HA : Hid (I64 a) := ha
 have HBB : Hid (I64 b) := hbb
 have HI : Hid (I64 imm) := hi
 have HL1 : Hid (t1 = bs ++ wordL.getD m [] ++ regPart (setsB m) dst) := ht1
 have HL2 : Hid (t2 = t1 ++ numPart (decide ((m : Int) = 17 ∨ (m : Int) = 1)) imm) := ht2
 have HL3 : Hid (t3 = t2 ++ regPart (readsAB m) a) := ht3
 have HL4 : Hid (t4 = t3 ++ regPart (readsBB m) b) := ht4
 have HL5 : Hid (t5 = t4 ++ numPart (decide ((m : Int) = 15 ∨ (m : Int) = 16)) imm) := ht5
 clear HR ht1 ht2 ht3 ht4 ht5 hd ha hbb hi ht hba
 generalize bs ++ insLine ⟨m, dst, a, b, imm⟩ = R at HRR
 generalize wordL.getD m [] = wd at hwl hcw HL1
 generalize hasOf m = H at HHAS b1 b2 b3 b4 b5
 have HB1 : Hid ((bits .and .i64 H 1 != 0) = setsB m) := b1
 have HB2 : Hid ((bits .and .i64 H 40 != 0) = decide ((m : Int) = 17 ∨ (m : Int) = 1)) := b2
 have HB3 : Hid ((bits .and .i64 H 2 != 0) = readsAB m) := b3
 have HB4 : Hid ((bits .and .i64 H 4 != 0) = readsBB m) := b4
 have HB5 : Hid ((bits .and .i64 H 16 != 0) = decide ((m : Int) = 15 ∨ (m : Int) = 16)) := b5
 clear b1 b2 b3 b4 b5
 go_enter Tryd.func24, Tryd.ntmps24
 go_upto_if 17 with (first
  | (go_at_call 45; refine (HHAS.out _ HTA.out).mono ?_; rintro e w' ⟨rfl, hw'⟩; rw [hw']; clear hw' w')
  | (at_builtin; refine Lib.wpList_append_own_string _ rfl (.tmp 9) (.tmp 13) 58 9 rfl B 5 iB Tryd.underlying58 Tryd.underlying9 hiB hzB0 hzB1 hzB2 v bs.length (Lib.byteCells bs) rfl (hown.alloc _) ⟨wd.toArray⟩ rfl (by show bs.length + wd.toArray.size ≤ maxLen; unfold maxLen; simp; omega) (by show bs.length + wd.toArray.size ≤ _; simp; omega) (by simp; omega) ?_; intro v1 w1 hown1 hg1 _; have Q1 : Hid (Grew B (w.alloc (.cells #[.int .i64 m, .int .i64 dst, .int .i64 a, .int .i64 b, .int .i64 imm] 51)) w1) := Grew.of_own (hown.alloc _) (by simp; omega) hg1; have GG : Hid (Grew B w w1) := (Grew.alloc hB _).trans Q1.out; have TT : Hid (Txt w1 B v1 (bs ++ wd)) := txt_on (by show wd.toArray.size = _; simp) hown1; have XX : Hid (w1.heap[w.heap.size]? = some (.cells #[.int .i64 m, .int .i64 dst, .int .i64 a, .int .i64 b, .int .i64 imm] 51)) := (show _ = _ from Q1.out.box (heap_alloc_new w _) (by decide)); clear hg1 hown1 Q1))
 go_cut [0] (fun s0 wx => Txt wx B s0 t1 ∧ wx.heap[w.heap.size]? = some (.cells #[.int .i64 m, .int .i64 dst, .int .i64 a, .int .i64 b, .int .i64 imm] 51) ∧ Grew B w wx)
 case first =>
  have q := XX.out
  have c0 : w1.cell? ⟨w.heap.size, 1, none⟩ = some (.int .i64 dst) := by simp [World.cell?, q]
  clear q
  by_cases hs : (setsB m) = true
  ·have hq : (bits .and .i64 H 1 != 0) = true := HB1.out.trans hs
   have HE : Hid (t1 = bs ++ wd ++ ([32, 114] ++ Lib.itoa dst)) := by show _ = _; rw [HL1.out, hs]; rfl
   clear hs
   go_wp2_with (go_at_call 46; refine (register_any B dst _ _ _ HD.out TT.out (Nat.le_trans hB GG.out.below.size) (by first | omega | (simp; omega)) (HT.out.pow.on GG.out.below)).mono ?_; rintro e w2 ⟨v2, rfl, hown2, hg2⟩; have G2 : Hid (Grew B w w2) := GG.out.trans hg2; have X2 : Hid (w2.heap[w.heap.size]? = some (.cells #[.int .i64 m, .int .i64 dst, .int .i64 a, .int .i64 b, .int .i64 imm] 51)) := (show _ = _ from hg2.box XX.out (by decide)); have T2 : Hid (Txt w2 B v2 t1) := (show Txt _ _ _ _ from txt_eq HE.out hown2); clear hown2 hg2)
   go_meet
   exact ⟨T2.out, X2.out, G2.out⟩
  ·have hs' : (setsB m) = false := by simpa using hs
   have hq : (bits .and .i64 H 1 != 0) = false := HB1.out.trans hs'
   have HE : Hid (t1 = bs ++ wd) := by show _ = _; rw [HL1.out, hs']; simp [regPart]
   clear hs hs'
   go_wp2_with fail
   go_meet
   exact ⟨txt_eq HE.out TT.out, XX.out, GG.out⟩
 case rest =>
  rename World => x1
  obtain ⟨tt, q, gx⟩ := hcut
  clear TT XX GG
  have TT : Hid (Txt x1 B _ t1) := tt
  have XX : Hid (x1.heap[w.heap.size]? = some (.cells #[.int .i64 m, .int .i64 dst, .int .i64 a, .int .i64 b, .int .i64 imm] 51)) := q
  have GG : Hid (Grew B w x1) := gx
  clear tt q gx
  go_upto_if 24 with fail
  go_cut [0] (fun s0 wx => Txt wx B s0 t2 ∧ wx.heap[w.heap.size]? = some (.cells #[.int .i64 m, .int .i64 dst, .int .i64 a, .int .i64 b, .int .i64 imm] 51) ∧ Grew B w wx)
  case first =>
   have q := XX.out
   have c0 : x1.cell? ⟨w.heap.size, 4, none⟩ = some (.int .i64 imm) := by simp [World.cell?, q]
   clear q
   by_cases hs : (decide ((m : Int) = 17 ∨ (m : Int) = 1)) = true
   ·have hq : (bits .and .i64 H 40 != 0) = true := HB2.out.trans hs
    have HE : Hid (t2 = t1 ++ ([32] ++ Lib.itoa imm)) := by show _ = _; rw [HL2.out, hs]; rfl
    clear hs
    go_wp2_with (go_at_call 44; refine (number_any B imm _ _ _ HI.out TT.out (Nat.le_trans hB GG.out.below.size) (by first | omega | (simp; omega)) (HT.out.pow.on GG.out.below)).mono ?_; rintro e w2 ⟨v2, rfl, hown2, hg2⟩; have G2 : Hid (Grew B w w2) := GG.out.trans hg2; have X2 : Hid (w2.heap[w.heap.size]? = some (.cells #[.int .i64 m, .int .i64 dst, .int .i64 a, .int .i64 b, .int .i64 imm] 51)) := (show _ = _ from hg2.box XX.out (by decide)); have T2 : Hid (Txt w2 B v2 t2) := (show Txt _ _ _ _ from txt_eq HE.out hown2); clear hown2 hg2)
    go_meet
    exact ⟨T2.out, X2.out, G2.out⟩
   ·have hs' : (decide ((m : Int) = 17 ∨ (m : Int) = 1)) = false := by simpa using hs
    have hq : (bits .and .i64 H 40 != 0) = false := HB2.out.trans hs'
    have HE : Hid (t2 = t1) := by show _ = _; rw [HL2.out, hs']; simp [numPart]
    clear hs hs'
    go_wp2_with fail
    go_meet
    exact ⟨txt_eq HE.out TT.out, XX.out, GG.out⟩
  case rest =>
   rename World => x2
   obtain ⟨tt, q, gx⟩ := hcut
   clear TT XX GG
   have TT : Hid (Txt x2 B _ t2) := tt
   have XX : Hid (x2.heap[w.heap.size]? = some (.cells #[.int .i64 m, .int .i64 dst, .int .i64 a, .int .i64 b, .int .i64 imm] 51)) := q
   have GG : Hid (Grew B w x2) := gx
   clear tt q gx
   go_upto_if 31 with fail
   go_cut [0] (fun s0 wx => Txt wx B s0 t3 ∧ wx.heap[w.heap.size]? = some (.cells #[.int .i64 m, .int .i64 dst, .int .i64 a, .int .i64 b, .int .i64 imm] 51) ∧ Grew B w wx)
   case first =>
    have q := XX.out
    have c0 : x2.cell? ⟨w.heap.size, 2, none⟩ = some (.int .i64 a) := by simp [World.cell?, q]
    clear q
    by_cases hs : (readsAB m) = true
    ·have hq : (bits .and .i64 H 2 != 0) = true := HB3.out.trans hs
     have HE : Hid (t3 = t2 ++ ([32, 114] ++ Lib.itoa a)) := by show _ = _; rw [HL3.out, hs]; rfl
     clear hs
     go_wp2_with (go_at_call 46; refine (register_any B a _ _ _ HA.out TT.out (Nat.le_trans hB GG.out.below.size) (by first | omega | (simp; omega)) (HT.out.pow.on GG.out.below)).mono ?_; rintro e w2 ⟨v2, rfl, hown2, hg2⟩; have G2 : Hid (Grew B w w2) := GG.out.trans hg2; have X2 : Hid (w2.heap[w.heap.size]? = some (.cells #[.int .i64 m, .int .i64 dst, .int .i64 a, .int .i64 b, .int .i64 imm] 51)) := (show _ = _ from hg2.box XX.out (by decide)); have T2 : Hid (Txt w2 B v2 t3) := (show Txt _ _ _ _ from txt_eq HE.out hown2); clear hown2 hg2)
     go_meet
     exact ⟨T2.out, X2.out, G2.out⟩
    ·have hs' : (readsAB m) = false := by simpa using hs
     have hq : (bits .and .i64 H 2 != 0) = false := HB3.out.trans hs'
     have HE : Hid (t3 = t2) := by show _ = _; rw [HL3.out, hs']; simp [regPart]
     clear hs hs'
     go_wp2_with fail
     go_meet
     exact ⟨txt_eq HE.out TT.out, XX.out, GG.out⟩
   case rest =>
    rename World => x3
    obtain ⟨tt, q, gx⟩ := hcut
    clear TT XX GG
    have TT : Hid (Txt x3 B _ t3) := tt
    have XX : Hid (x3.heap[w.heap.size]? = some (.cells #[.int .i64 m, .int .i64 dst, .int .i64 a, .int .i64 b, .int .i64 imm] 51)) := q
    have GG : Hid (Grew B w x3) := gx
    clear tt q gx
    go_upto_if 38 with fail
    go_cut [0] (fun s0 wx => Txt wx B s0 t4 ∧ wx.heap[w.heap.size]? = some (.cells #[.int .i64 m, .int .i64 dst, .int .i64 a, .int .i64 b, .int .i64 imm] 51) ∧ Grew B w wx)
    case first =>
     have q := XX.out
     have c0 : x3.cell? ⟨w.heap.size, 3, none⟩ = some (.int .i64 b) := by simp [World.cell?, q]
     clear q
     by_cases hs : (readsBB m) = true
     ·have hq : (bits .and .i64 H 4 != 0) = true := HB4.out.trans hs
      have HE : Hid (t4 = t3 ++ ([32, 114] ++ Lib.itoa b)) := by show _ = _; rw [HL4.out, hs]; rfl
      clear hs
      go_wp2_with (go_at_call 46; refine (register_any B b _ _ _ HBB.out TT.out (Nat.le_trans hB GG.out.below.size) (by first | omega | (simp; omega)) (HT.out.pow.on GG.out.below)).mono ?_; rintro e w2 ⟨v2, rfl, hown2, hg2⟩; have G2 : Hid (Grew B w w2) := GG.out.trans hg2; have X2 : Hid (w2.heap[w.heap.size]? = some (.cells #[.int .i64 m, .int .i64 dst, .int .i64 a, .int .i64 b, .int .i64 imm] 51)) := (show _ = _ from hg2.box XX.out (by decide)); have T2 : Hid (Txt w2 B v2 t4) := (show Txt _ _ _ _ from txt_eq HE.out hown2); clear hown2 hg2)
      go_meet
      exact ⟨T2.out, X2.out, G2.out⟩
     ·have hs' : (readsBB m) = false := by simpa using hs
      have hq : (bits .and .i64 H 4 != 0) = false := HB4.out.trans hs'
      have HE : Hid (t4 = t3) := by show _ = _; rw [HL4.out, hs']; simp [regPart]
      clear hs hs'
      go_wp2_with fail
      go_meet
      exact ⟨txt_eq HE.out TT.out, XX.out, GG.out⟩
    case rest =>
     rename World => x4
     obtain ⟨tt, q, gx⟩ := hcut
     clear TT XX GG
     have TT : Hid (Txt x4 B _ t4) := tt
     have XX : Hid (x4.heap[w.heap.size]? = some (.cells #[.int .i64 m, .int .i64 dst, .int .i64 a, .int .i64 b, .int .i64 imm] 51)) := q
     have GG : Hid (Grew B w x4) := gx
     clear tt q gx
     go_upto_if 45 with fail
     go_cut [0] (fun s0 wx => Txt wx B s0 t5 ∧ wx.heap[w.heap.size]? = some (.cells #[.int .i64 m, .int .i64 dst, .int .i64 a, .int .i64 b, .int .i64 imm] 51) ∧ Grew B w wx)
     case first =>
      have q := XX.out
      have c0 : x4.cell? ⟨w.heap.size, 4, none⟩ = some (.int .i64 imm) := by simp [World.cell?, q]
      clear q
      by_cases hs : (decide ((m : Int) = 15 ∨ (m : Int) = 16)) = true
      ·have hq : (bits .and .i64 H 16 != 0) = true := HB5.out.trans hs
       have HE : Hid (t5 = t4 ++ ([32] ++ Lib.itoa imm)) := by show _ = _; rw [HL5.out, hs]; rfl
       clear hs
       go_wp2_with (go_at_call 44; refine (number_any B imm _ _ _ HI.out TT.out (Nat.le_trans hB GG.out.below.size) (by first | omega | (simp; omega)) (HT.out.pow.on GG.out.below)).mono ?_; rintro e w2 ⟨v2, rfl, hown2, hg2⟩; have G2 : Hid (Grew B w w2) := GG.out.trans hg2; have X2 : Hid (w2.heap[w.heap.size]? = some (.cells #[.int .i64 m, .int .i64 dst, .int .i64 a, .int .i64 b, .int .i64 imm] 51)) := (show _ = _ from hg2.box XX.out (by decide)); have T2 : Hid (Txt w2 B v2 t5) := (show Txt _ _ _ _ from txt_eq HE.out hown2); clear hown2 hg2)
       go_meet
       exact ⟨T2.out, X2.out, G2.out⟩
      ·have hs' : (decide ((m : Int) = 15 ∨ (m : Int) = 16)) = false := by simpa using hs
       have hq : (bits .and .i64 H 16 != 0) = false := HB5.out.trans hs'
       have HE : Hid (t5 = t4) := by show _ = _; rw [HL5.out, hs']; simp [numPart]
       clear hs hs'
       go_wp2_with fail
       go_meet
       exact ⟨txt_eq HE.out TT.out, XX.out, GG.out⟩
     case rest =>
      rename World => x5
      obtain ⟨tt, q, gx⟩ := hcut
      clear TT XX GG
      have TT : Hid (Txt x5 B _ t5) := tt
      have XX : Hid (x5.heap[w.heap.size]? = some (.cells #[.int .i64 m, .int .i64 dst, .int .i64 a, .int .i64 b, .int .i64 imm] 51)) := q
      have GG : Hid (Grew B w x5) := gx
      clear tt q gx
      have hz3 : B ≤ x5.heap.size := Nat.le_trans hB GG.out.below.size
      go_wp2_with (at_builtin; refine wpList_append_own _ rfl (.tmp 50) (.tmp 51) 58 rfl B 5 iB _ 1 1 Tryd.underlying58 hiB hzB0 hzB1 hzB2 rfl (by decide) _ _ _ rfl (TT.out.alloc _) ⟨x5.heap.size, 0, none⟩ 1 1 (Lib.byteCells [10]) rfl rfl (news_list _ (Lib.byteCells [10]) _ _ rfl) (cells_one _) (by unfold maxLen; omega) (by omega) (by simp; omega) ?_; intro v4 w4 hown4 hg4 _; have G4 : Hid (Grew B w w4) := GG.out.trans ((Grew.alloc hz3 _).trans (Grew.of_own (TT.out.alloc _) (by simp; omega) hg4)); have T4 : Hid (Txt w4 B v4 R) := (show Txt _ _ _ _ from txt_eq HRR.out (txt_on rfl hown4)); clear hg4 hown4)
      go_ret
      exact ⟨_, rfl, T4.out, G4.out⟩
end Go.Proofs.YtfacdhkadnmnlaaDoor
