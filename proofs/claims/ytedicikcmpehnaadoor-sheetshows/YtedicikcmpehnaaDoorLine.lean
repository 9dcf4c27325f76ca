/- Contract of tierlineref.instrLine: an instruction's line. -/
import Derived.Test.YtedicikcmpehnaaDoorWords
import Derived.Test.YtedicikcmpehnaaDoorRef
import Derived.Deep.DeepCutAuto
namespace Go.Proofs.YtedicikcmpehnaaDoor
open Go Go.RowKit

/-- Parts of a line: a register, a number; where it is not there: nothing. -/
def regPart (is : Bool) (n : Int) : List UInt8 := if is = true then [32, 114] ++ Lib.itoa n else []
def numPart (is : Bool) (n : Int) : List UInt8 := if is = true then [32] ++ Lib.itoa n else []
theorem regPart_len (is : Bool) (n : Int) (h0 : -9223372036854775808 ≤ n) (h1 : n ≤ 9223372036854775807) : (regPart is n).length ≤ 23 := by
  have := Lib.itoa_length_le n h0 h1
  unfold regPart; split <;> simp; omega
theorem numPart_len (is : Bool) (n : Int) (h0 : -9223372036854775808 ≤ n) (h1 : n ≤ 9223372036854775807) : (numPart is n).length ≤ 23 := by
  have := Lib.itoa_length_le n h0 h1
  unfold numPart; split <;> simp; omega
def line1 (x : Ins) : List UInt8 := wordL.getD x.op.toNat [] ++ regPart (setsB x.op) x.dst
def line2 (x : Ins) : List UInt8 := line1 x ++ numPart (decide (x.op = 17 ∨ x.op = 1)) x.imm
def line3 (x : Ins) : List UInt8 := line2 x ++ regPart (readsAB x.op) x.a
def line4 (x : Ins) : List UInt8 := line3 x ++ regPart (readsBB x.op) x.b
def lineOf (x : Ins) : List UInt8 := line4 x ++ numPart (decide (x.op = 15 ∨ x.op = 16)) x.imm

/-- A string and two more. -/
theorem str_two (a b c : List UInt8) : ((⟨a.toArray⟩ : ByteArray) ++ (⟨b.toArray⟩ : ByteArray)) ++ (⟨c.toArray⟩ : ByteArray) = ⟨(a ++ (b ++ c)).toArray⟩ := by
  rw [str_add, str_add, List.append_assoc]

set_option maxRecDepth 100000 in
set_option maxHeartbeats 4000000 in
theorem line_any (op dst a b imm : Int) (w : World) (h0 : 0 ≤ op) (h1 : op < 20) (hd : -9223372036854775808 ≤ dst ∧ dst ≤ 9223372036854775807) (ha : -9223372036854775808 ≤ a ∧ a ≤ 9223372036854775807) (hbb : -9223372036854775808 ≤ b ∧ b ≤ 9223372036854775807) (hi : -9223372036854775808 ≤ imm ∧ imm ≤ 9223372036854775807) :
    Calls Tryd.prog 13 #[.agg #[.int .i64 op, .int .i64 dst, .int .i64 a, .int .i64 b, .int .i64 imm]] w fun e w' => e = .returned (strV (lineOf ⟨op, dst, a, b, imm⟩)) ∧ Below w.heap.size w w' := by
  obtain ⟨m, rfl⟩ : ∃ m : Nat, op = m := ⟨op.toNat, by omega⟩
  have HW : Hid (∀ w, Calls Tryd.prog 21 #[.int .i64 m] w fun e w' => e = .returned (strV (wordL.getD m [])) ∧ Below w.heap.size w w') := fun w => opWord_any m w (by omega)
  have hwl : (wordL.getD m []).length ≤ 5 := by
    have hall : ∀ k, k < 20 → (wordL.getD k []).length ≤ 5 := by decide
    exact hall m (by omega)
  have HL1 : Hid (line1 ⟨m, dst, a, b, imm⟩ = wordL.getD m [] ++ regPart (setsB m) dst) := rfl
  have HL2 : Hid (line2 ⟨m, dst, a, b, imm⟩ = line1 ⟨m, dst, a, b, imm⟩ ++ numPart (decide ((m : Int) = 17 ∨ (m : Int) = 1)) imm) := rfl
  have HL3 : Hid (line3 ⟨m, dst, a, b, imm⟩ = line2 ⟨m, dst, a, b, imm⟩ ++ regPart (readsAB m) a) := rfl
  have HL4 : Hid (line4 ⟨m, dst, a, b, imm⟩ = line3 ⟨m, dst, a, b, imm⟩ ++ regPart (readsBB m) b) := rfl
  have HL5 : Hid (lineOf ⟨m, dst, a, b, imm⟩ = line4 ⟨m, dst, a, b, imm⟩ ++ numPart (decide ((m : Int) = 15 ∨ (m : Int) = 16)) imm) := rfl
  have hl1 : (line1 ⟨m, dst, a, b, imm⟩).length ≤ 28 := by rw [HL1.out, List.length_append]; have := regPart_len (setsB m) dst hd.1 hd.2; omega
  have hl2 : (line2 ⟨m, dst, a, b, imm⟩).length ≤ 51 := by rw [HL2.out, List.length_append]; have := numPart_len (decide ((m : Int) = 17 ∨ (m : Int) = 1)) imm hi.1 hi.2; omega
  have hl3 : (line3 ⟨m, dst, a, b, imm⟩).length ≤ 74 := by rw [HL3.out, List.length_append]; have := regPart_len (readsAB m) a ha.1 ha.2; omega
  have hl4 : (line4 ⟨m, dst, a, b, imm⟩).length ≤ 97 := by rw [HL4.out, List.length_append]; have := regPart_len (readsBB m) b hbb.1 hbb.2; omega
  generalize wordL.getD m [] = wd at HW hwl HL1
  generalize line1 ⟨m, dst, a, b, imm⟩ = t1 at HL1 HL2 hl1
  generalize line2 ⟨m, dst, a, b, imm⟩ = t2 at HL2 HL3 hl2
  generalize line3 ⟨m, dst, a, b, imm⟩ = t3 at HL3 HL4 hl3
  generalize line4 ⟨m, dst, a, b, imm⟩ = t4 at HL4 HL5 hl4
  generalize lineOf ⟨m, dst, a, b, imm⟩ = t5 at HL5 ⊢
  have HS : Hid (∀ w, Calls Tryd.prog 22 #[.int .i64 m] w fun e w' => e = .returned (.bool (setsB m)) ∧ w' = w) := fun w => Sets_any m w
  have HRA : Hid (∀ w, Calls Tryd.prog 23 #[.int .i64 m] w fun e w' => e = .returned (.bool (readsAB m)) ∧ w' = w) := fun w => ReadsA_any m w
  have HRB : Hid (∀ w, Calls Tryd.prog 24 #[.int .i64 m] w fun e w' => e = .returned (.bool (readsBB m)) ∧ w' = w) := fun w => ReadsB_any m w
  have HDD : Hid (∀ w, Calls Tryd.prog 12 #[.int .i64 dst] w fun e w' => e = .returned (.string ⟨(Lib.itoa dst).toArray⟩) ∧ Below w.heap.size w w') := fun w => dec_any dst w hd.1 hd.2
  have HDA : Hid (∀ w, Calls Tryd.prog 12 #[.int .i64 a] w fun e w' => e = .returned (.string ⟨(Lib.itoa a).toArray⟩) ∧ Below w.heap.size w w') := fun w => dec_any a w ha.1 ha.2
  have HDB : Hid (∀ w, Calls Tryd.prog 12 #[.int .i64 b] w fun e w' => e = .returned (.string ⟨(Lib.itoa b).toArray⟩) ∧ Below w.heap.size w w') := fun w => dec_any b w hbb.1 hbb.2
  have HDI : Hid (∀ w, Calls Tryd.prog 12 #[.int .i64 imm] w fun e w' => e = .returned (.string ⟨(Lib.itoa imm).toArray⟩) ∧ Below w.heap.size w w') := fun w => dec_any imm w hi.1 hi.2
  have hld := Lib.itoa_length_le dst hd.1 hd.2
  have hla := Lib.itoa_length_le a ha.1 ha.2
  have hlb := Lib.itoa_length_le b hbb.1 hbb.2
  have hli := Lib.itoa_length_le imm hi.1 hi.2
  unfold strV at HW ⊢
  clear hd ha hbb hi
  go_enter Tryd.func13, Tryd.ntmps13
  go_upto_if 9 with (first | (go_at_call 21; refine (HW.out _).mono ?_; rintro e w1 ⟨rfl, hb1⟩; have q : w1.heap[w.heap.size]? = some (.cells #[.int .i64 m, .int .i64 dst, .int .i64 a, .int .i64 b, .int .i64 imm] 38) := (hb1.block _ (by simp)).trans (heap_alloc_new w _); have BB : Hid (Below w.heap.size w w1) := (show Below _ _ _ from ((Below.refl _ w).alloc (Nat.le_refl _) _).trans (hb1.mono (by simp))); clear hb1 HW; have c0 : w1.cell? ⟨w.heap.size, 0, none⟩ = some (.int .i64 m) := (by simp [World.cell?, q]); have c1 : w1.cell? ⟨w.heap.size, 1, none⟩ = some (.int .i64 dst) := (by simp [World.cell?, q]); have c2 : w1.cell? ⟨w.heap.size, 2, none⟩ = some (.int .i64 a) := (by simp [World.cell?, q]); have c3 : w1.cell? ⟨w.heap.size, 3, none⟩ = some (.int .i64 b) := (by simp [World.cell?, q]); have c4 : w1.cell? ⟨w.heap.size, 4, none⟩ = some (.int .i64 imm) := (by simp [World.cell?, q]); have QQ : Hid (w1.heap[w.heap.size]? = some (.cells #[.int .i64 m, .int .i64 dst, .int .i64 a, .int .i64 b, .int .i64 imm] 38)) := q; clear q) | (go_at_call 22; refine (HS.out _).mono ?_; rintro e w' ⟨rfl, hw'⟩; rw [hw']; clear hw' w'))
  go_cut [3] (fun s3 wx => s3 = .string ⟨t1.toArray⟩ ∧ wx.heap[w.heap.size]? = some (.cells #[.int .i64 m, .int .i64 dst, .int .i64 a, .int .i64 b, .int .i64 imm] 38) ∧ Below w.heap.size w wx)
  case first =>
    cases hs : setsB m with
    | false =>
      (try rw [hs])
      go_wp2_with fail
      go_meet
      exact ⟨by rw [HL1.out, hs]; simp [regPart], QQ.out, BB.out⟩
    | true =>
      have l1 : ¬ 9223372036854775807 < wd.length + 2 := by omega
      have l2 : ¬ 9223372036854775807 < wd.length + 2 + (Lib.itoa dst).length := by omega
      have HT : Hid (((⟨wd.toArray⟩ : ByteArray) ++ (⟨#[32, 114]⟩ : ByteArray)) ++ (⟨(Lib.itoa dst).toArray⟩ : ByteArray) = ⟨(wd ++ regPart true dst).toArray⟩) := str_two wd [32, 114] (Lib.itoa dst)
      (try rw [hs])
      go_wp2_with (go_at_call 12; refine (HDD.out _).mono ?_; rintro e w2 ⟨rfl, hb2⟩; have B2 : Hid (Below w1.heap.size w1 w2) := hb2; clear hb2)
      go_meet
      exact ⟨by rw [HL1.out, hs, ← HT.out], (B2.out.block _ (lt_of_block QQ.out)).trans QQ.out, BB.out.trans (B2.out.mono BB.out.size)⟩
  case rest =>
    rename World => x1
    obtain ⟨rfl, q, bx⟩ := hcut
    clear c0 c1 c2 c3 c4 QQ BB
    have BB : Hid (Below w.heap.size w x1) := bx
    clear bx
    have c0 : x1.cell? ⟨w.heap.size, 0, none⟩ = some (.int .i64 m) := (by simp [World.cell?, q])
    have c1 : x1.cell? ⟨w.heap.size, 1, none⟩ = some (.int .i64 dst) := (by simp [World.cell?, q])
    have c2 : x1.cell? ⟨w.heap.size, 2, none⟩ = some (.int .i64 a) := (by simp [World.cell?, q])
    have c3 : x1.cell? ⟨w.heap.size, 3, none⟩ = some (.int .i64 b) := (by simp [World.cell?, q])
    have c4 : x1.cell? ⟨w.heap.size, 4, none⟩ = some (.int .i64 imm) := (by simp [World.cell?, q])
    have QQ : Hid (x1.heap[w.heap.size]? = some (.cells #[.int .i64 m, .int .i64 dst, .int .i64 a, .int .i64 b, .int .i64 imm] 38)) := q
    clear q
    go_upto_region 4 with fail
    go_cut [23, 3] (fun s23 s3 wx => s23 = .bool (decide ((m : Int) = 17 ∨ (m : Int) = 1)) ∧ s3 = .string ⟨t1.toArray⟩ ∧ wx = x1)
    case first =>
      by_cases z1 : (m : Int) = 17
      · go_wp2_with fail
        go_meet
        exact ⟨by simp [z1], rfl, rfl⟩
      · by_cases z2 : (m : Int) = 1
        · go_wp2_with fail
          go_meet
          exact ⟨by simp [z2], rfl, rfl⟩
        · go_wp2_with fail
          go_meet
          exact ⟨by simp [z1, z2], rfl, rfl⟩
    case rest =>
      obtain ⟨rfl, rfl, hq3⟩ := hcut
      rw [hq3]
      clear hq3
      go_upto_if 23 with fail
      go_cut [3] (fun s3 wx => s3 = .string ⟨t2.toArray⟩ ∧ wx.heap[w.heap.size]? = some (.cells #[.int .i64 m, .int .i64 dst, .int .i64 a, .int .i64 b, .int .i64 imm] 38) ∧ Below w.heap.size w wx)
      case first =>
        by_cases hs : (m : Int) = 17 ∨ (m : Int) = 1
        · have hs' : decide ((m : Int) = 17 ∨ (m : Int) = 1) = true := decide_eq_true hs
          have l1 : ¬ 9223372036854775807 < t1.length + 1 := by omega
          have l2 : ¬ 9223372036854775807 < t1.length + 1 + (Lib.itoa imm).length := by omega
          have HT : Hid (((⟨t1.toArray⟩ : ByteArray) ++ (⟨#[32]⟩ : ByteArray)) ++ (⟨(Lib.itoa imm).toArray⟩ : ByteArray) = ⟨(t1 ++ numPart true imm).toArray⟩) := str_two t1 [32] (Lib.itoa imm)
          go_wp2_with (go_at_call 12; refine (HDI.out _).mono ?_; rintro e w2 ⟨rfl, hb2⟩; have B2 : Hid (Below x1.heap.size x1 w2) := hb2; clear hb2)
          go_meet
          exact ⟨by rw [HL2.out, hs', ← HT.out], (B2.out.block _ (lt_of_block QQ.out)).trans QQ.out, BB.out.trans (B2.out.mono BB.out.size)⟩
        · have hs' : decide ((m : Int) = 17 ∨ (m : Int) = 1) = false := decide_eq_false hs
          go_wp2_with fail
          go_meet
          exact ⟨by rw [HL2.out, hs']; simp [numPart], QQ.out, BB.out⟩
      case rest =>
        rename World => x2
        obtain ⟨rfl, q, bx⟩ := hcut
        clear c0 c1 c2 c3 c4 QQ BB
        have BB : Hid (Below w.heap.size w x2) := bx
        clear bx
        have c0 : x2.cell? ⟨w.heap.size, 0, none⟩ = some (.int .i64 m) := (by simp [World.cell?, q])
        have c1 : x2.cell? ⟨w.heap.size, 1, none⟩ = some (.int .i64 dst) := (by simp [World.cell?, q])
        have c2 : x2.cell? ⟨w.heap.size, 2, none⟩ = some (.int .i64 a) := (by simp [World.cell?, q])
        have c3 : x2.cell? ⟨w.heap.size, 3, none⟩ = some (.int .i64 b) := (by simp [World.cell?, q])
        have c4 : x2.cell? ⟨w.heap.size, 4, none⟩ = some (.int .i64 imm) := (by simp [World.cell?, q])
        have QQ : Hid (x2.heap[w.heap.size]? = some (.cells #[.int .i64 m, .int .i64 dst, .int .i64 a, .int .i64 b, .int .i64 imm] 38)) := q
        clear q
        go_upto_if 32 with (go_at_call 23; refine (HRA.out _).mono ?_; rintro e w' ⟨rfl, hw'⟩; rw [hw']; clear hw' w')
        go_cut [3] (fun s3 wx => s3 = .string ⟨t3.toArray⟩ ∧ wx.heap[w.heap.size]? = some (.cells #[.int .i64 m, .int .i64 dst, .int .i64 a, .int .i64 b, .int .i64 imm] 38) ∧ Below w.heap.size w wx)
        case first =>
          cases hs : readsAB m with
          | false =>
            (try rw [hs])
            go_wp2_with fail
            go_meet
            exact ⟨by rw [HL3.out, hs]; simp [regPart], QQ.out, BB.out⟩
          | true =>
            have l1 : ¬ 9223372036854775807 < t2.length + 2 := by omega
            have l2 : ¬ 9223372036854775807 < t2.length + 2 + (Lib.itoa a).length := by omega
            have HT : Hid (((⟨t2.toArray⟩ : ByteArray) ++ (⟨#[32, 114]⟩ : ByteArray)) ++ (⟨(Lib.itoa a).toArray⟩ : ByteArray) = ⟨(t2 ++ regPart true a).toArray⟩) := str_two t2 [32, 114] (Lib.itoa a)
            (try rw [hs])
            go_wp2_with (go_at_call 12; refine (HDA.out _).mono ?_; rintro e w2 ⟨rfl, hb2⟩; have B2 : Hid (Below x2.heap.size x2 w2) := hb2; clear hb2)
            go_meet
            exact ⟨by rw [HL3.out, hs, ← HT.out], (B2.out.block _ (lt_of_block QQ.out)).trans QQ.out, BB.out.trans (B2.out.mono BB.out.size)⟩
        case rest =>
          rename World => x3
          obtain ⟨rfl, q, bx⟩ := hcut
          clear c0 c1 c2 c3 c4 QQ BB
          have BB : Hid (Below w.heap.size w x3) := bx
          clear bx
          have c0 : x3.cell? ⟨w.heap.size, 0, none⟩ = some (.int .i64 m) := (by simp [World.cell?, q])
          have c1 : x3.cell? ⟨w.heap.size, 1, none⟩ = some (.int .i64 dst) := (by simp [World.cell?, q])
          have c2 : x3.cell? ⟨w.heap.size, 2, none⟩ = some (.int .i64 a) := (by simp [World.cell?, q])
          have c3 : x3.cell? ⟨w.heap.size, 3, none⟩ = some (.int .i64 b) := (by simp [World.cell?, q])
          have c4 : x3.cell? ⟨w.heap.size, 4, none⟩ = some (.int .i64 imm) := (by simp [World.cell?, q])
          have QQ : Hid (x3.heap[w.heap.size]? = some (.cells #[.int .i64 m, .int .i64 dst, .int .i64 a, .int .i64 b, .int .i64 imm] 38)) := q
          clear q
          go_upto_if 41 with (go_at_call 24; refine (HRB.out _).mono ?_; rintro e w' ⟨rfl, hw'⟩; rw [hw']; clear hw' w')
          go_cut [3] (fun s3 wx => s3 = .string ⟨t4.toArray⟩ ∧ wx.heap[w.heap.size]? = some (.cells #[.int .i64 m, .int .i64 dst, .int .i64 a, .int .i64 b, .int .i64 imm] 38) ∧ Below w.heap.size w wx)
          case first =>
            cases hs : readsBB m with
            | false =>
              (try rw [hs])
              go_wp2_with fail
              go_meet
              exact ⟨by rw [HL4.out, hs]; simp [regPart], QQ.out, BB.out⟩
            | true =>
              have l1 : ¬ 9223372036854775807 < t3.length + 2 := by omega
              have l2 : ¬ 9223372036854775807 < t3.length + 2 + (Lib.itoa b).length := by omega
              have HT : Hid (((⟨t3.toArray⟩ : ByteArray) ++ (⟨#[32, 114]⟩ : ByteArray)) ++ (⟨(Lib.itoa b).toArray⟩ : ByteArray) = ⟨(t3 ++ regPart true b).toArray⟩) := str_two t3 [32, 114] (Lib.itoa b)
              (try rw [hs])
              go_wp2_with (go_at_call 12; refine (HDB.out _).mono ?_; rintro e w2 ⟨rfl, hb2⟩; have B2 : Hid (Below x3.heap.size x3 w2) := hb2; clear hb2)
              go_meet
              exact ⟨by rw [HL4.out, hs, ← HT.out], (B2.out.block _ (lt_of_block QQ.out)).trans QQ.out, BB.out.trans (B2.out.mono BB.out.size)⟩
          case rest =>
            rename World => x4
            obtain ⟨rfl, q, bx⟩ := hcut
            clear c0 c1 c2 c3 c4 QQ BB
            have BB : Hid (Below w.heap.size w x4) := bx
            clear bx
            have c0 : x4.cell? ⟨w.heap.size, 0, none⟩ = some (.int .i64 m) := (by simp [World.cell?, q])
            have c1 : x4.cell? ⟨w.heap.size, 1, none⟩ = some (.int .i64 dst) := (by simp [World.cell?, q])
            have c2 : x4.cell? ⟨w.heap.size, 2, none⟩ = some (.int .i64 a) := (by simp [World.cell?, q])
            have c3 : x4.cell? ⟨w.heap.size, 3, none⟩ = some (.int .i64 b) := (by simp [World.cell?, q])
            have c4 : x4.cell? ⟨w.heap.size, 4, none⟩ = some (.int .i64 imm) := (by simp [World.cell?, q])
            have QQ : Hid (x4.heap[w.heap.size]? = some (.cells #[.int .i64 m, .int .i64 dst, .int .i64 a, .int .i64 b, .int .i64 imm] 38)) := q
            clear q
            go_upto_region 10 with fail
            go_cut [55, 3] (fun s55 s3 wx => s55 = .bool (decide ((m : Int) = 15 ∨ (m : Int) = 16)) ∧ s3 = .string ⟨t4.toArray⟩ ∧ wx = x4)
            case first =>
              by_cases z1 : (m : Int) = 15
              · go_wp2_with fail
                go_meet
                exact ⟨by simp [z1], rfl, rfl⟩
              · by_cases z2 : (m : Int) = 16
                · go_wp2_with fail
                  go_meet
                  exact ⟨by simp [z2], rfl, rfl⟩
                · go_wp2_with fail
                  go_meet
                  exact ⟨by simp [z1, z2], rfl, rfl⟩
            case rest =>
              obtain ⟨rfl, rfl, hq3⟩ := hcut
              rw [hq3]
              clear hq3
              go_upto_if 55 with fail
              go_cut [3] (fun s3 wx => s3 = .string ⟨t5.toArray⟩ ∧ wx.heap[w.heap.size]? = some (.cells #[.int .i64 m, .int .i64 dst, .int .i64 a, .int .i64 b, .int .i64 imm] 38) ∧ Below w.heap.size w wx)
              case first =>
                by_cases hs : (m : Int) = 15 ∨ (m : Int) = 16
                · have hs' : decide ((m : Int) = 15 ∨ (m : Int) = 16) = true := decide_eq_true hs
                  have l1 : ¬ 9223372036854775807 < t4.length + 1 := by omega
                  have l2 : ¬ 9223372036854775807 < t4.length + 1 + (Lib.itoa imm).length := by omega
                  have HT : Hid (((⟨t4.toArray⟩ : ByteArray) ++ (⟨#[32]⟩ : ByteArray)) ++ (⟨(Lib.itoa imm).toArray⟩ : ByteArray) = ⟨(t4 ++ numPart true imm).toArray⟩) := str_two t4 [32] (Lib.itoa imm)
                  go_wp2_with (go_at_call 12; refine (HDI.out _).mono ?_; rintro e w2 ⟨rfl, hb2⟩; have B2 : Hid (Below x4.heap.size x4 w2) := hb2; clear hb2)
                  go_meet
                  exact ⟨by rw [HL5.out, hs', ← HT.out], (B2.out.block _ (lt_of_block QQ.out)).trans QQ.out, BB.out.trans (B2.out.mono BB.out.size)⟩
                · have hs' : decide ((m : Int) = 15 ∨ (m : Int) = 16) = false := decide_eq_false hs
                  go_wp2_with fail
                  go_meet
                  exact ⟨by rw [HL5.out, hs']; simp [numPart], QQ.out, BB.out⟩
              case rest =>
                rename World => x5
                obtain ⟨rfl, q, bx⟩ := hcut
                clear c0 c1 c2 c3 c4 QQ BB
                have BB : Hid (Below w.heap.size w x5) := bx
                clear bx
                have c0 : x5.cell? ⟨w.heap.size, 0, none⟩ = some (.int .i64 m) := (by simp [World.cell?, q])
                have c1 : x5.cell? ⟨w.heap.size, 1, none⟩ = some (.int .i64 dst) := (by simp [World.cell?, q])
                have c2 : x5.cell? ⟨w.heap.size, 2, none⟩ = some (.int .i64 a) := (by simp [World.cell?, q])
                have c3 : x5.cell? ⟨w.heap.size, 3, none⟩ = some (.int .i64 b) := (by simp [World.cell?, q])
                have c4 : x5.cell? ⟨w.heap.size, 4, none⟩ = some (.int .i64 imm) := (by simp [World.cell?, q])
                have QQ : Hid (x5.heap[w.heap.size]? = some (.cells #[.int .i64 m, .int .i64 dst, .int .i64 a, .int .i64 b, .int .i64 imm] 38)) := q
                clear q
                go_wp2_with fail
                go_ret
                exact ⟨rfl, BB.out⟩

end Go.Proofs.YtedicikcmpehnaaDoor
