/- Contracts of tierlineref.digitsOf and Dec: a number's digits. -/
import Derived.Test.YtedicikcmpehnaaDoorProg
import Derived.Test.YtedicikcmpehnaaDoorMem
import Derived.WalkKit
import Derived.WalkSpells
import Derived.WalkLawsBesides
import Derived.Lib.ItoaLen
import Derived.Laws.BytesArg
namespace Go.Proofs.YtedicikcmpehnaaDoor
open Go Go.RowKit

/-- Bytes as a string's value. -/
def strV (l : List UInt8) : Value := .string ⟨l.toArray⟩
theorem str_add (a b : List UInt8) : ((⟨a.toArray⟩ : ByteArray) ++ (⟨b.toArray⟩ : ByteArray)) = ⟨(a ++ b).toArray⟩ := by
  apply ByteArray.ext
  simp

theorem conv_one (w : World) (d : Int) (b : UInt8) (hb : (b.toNat : Int) = d) :
    (convert 35 9 (.slice (some ⟨w.heap.size, 0, none⟩) 1 1)).run Tryd.prog (w.alloc (.cells #[.int .u8 d] 5)) = .ok (strV [b]) (w.alloc (.cells #[.int .u8 d] 5)) := by
  have h := run_convert_bytes_arg (P := Tryd.prog) (w.alloc (.cells #[.int .u8 d] 5)) _ _ Tryd.underlying35 Tryd.underlying5 w.heap.size 0 1 1 [d] rfl (fun i hi => by
    obtain rfl : i = 0 := by omega
    simp) _ Tryd.underlying9
  rw [h]
  subst hb
  simp [strV, strOfNums]

theorem digits_any : ∀ (u : Nat) (n : Int) (w : World), n = -(u : Int) → u ≤ 9223372036854775808 →
    Calls Tryd.prog 20 #[.int .i64 n] w fun e w' => e = .returned (strV (Lib.decDigits u)) ∧ Below w.heap.size w w' := by
  intro u
  induction u using Nat.strongRecOn with
  | _ u ih =>
    intro n w hn hu
    have hm : wrap64 (48 - n.tmod 10) % 256 = ((48 + u % 10 : Nat) : Int) := by
      have : n.tmod 10 = -((u % 10 : Nat) : Int) := by subst hn; rw [Int.neg_tmod, Int.tmod_eq_emod_of_nonneg (by omega)]; omega
      rw [this]; unfold wrap64; omega
    have hbt : ((UInt8.ofNat (48 + u % 10)).toNat : Int) = ((48 + u % 10 : Nat) : Int) := by
      rw [UInt8.toNat_ofNat_of_lt' (by show _ < 256; omega)]
    have HCV : Hid ((convert 35 9 (.slice (some ⟨w.heap.size, 0, none⟩) 1 1)).run Tryd.prog (w.alloc (.cells #[.int .u8 ((48 + u % 10 : Nat) : Int)] 5)) = .ok (strV [UInt8.ofNat (48 + u % 10)]) (w.alloc (.cells #[.int .u8 ((48 + u % 10 : Nat) : Int)] 5))) := conv_one w _ _ hbt
    generalize ((48 + u % 10 : Nat) : Int) = d at hm HCV hbt
    have HBT : Hid (∃ bt, bt = UInt8.ofNat (48 + u % 10)) := ⟨_, rfl⟩
    obtain ⟨bt, hbt'⟩ := HBT.out
    rw [← hbt'] at HCV
    have HBE : Hid (bt = UInt8.ofNat (48 + u % 10)) := hbt'
    have hcv := HCV.out
    have HB : Hid (Below w.heap.size w (w.alloc (.cells #[.int .u8 d] 5))) := (Below.refl _ _).alloc (Nat.le_refl _) _
    clear HCV hbt hbt' HBT
    by_cases h10 : u < 10
    · have e : Lib.decDigits u = [bt] := by rw [Lib.decDigits, dif_pos h10, HBE.out, Nat.mod_eq_of_lt h10]
      have hgt : -10 < n := by omega
      rw [e]
      clear e ih hn hu h10
      go_enter Tryd.func20, Tryd.ntmps20
      go_wp2_with fail
      go_ret
      exact ⟨rfl, HB.out⟩
    · have e : Lib.decDigits u = Lib.decDigits (u / 10) ++ [bt] := by rw [Lib.decDigits, dif_neg h10, HBE.out]
      have hgt : ¬ -10 < n := by omega
      have HI : Hid (∀ z w, z = -((u / 10 : Nat) : Int) → Calls Tryd.prog 20 #[.int .i64 z] w fun e w' => e = .returned (strV (Lib.decDigits (u / 10))) ∧ Below w.heap.size w w') := fun z w hz => ih (u / 10) (by omega) z w hz (by omega)
      have HQ : Hid (wrap64 (n.tdiv 10) = -((u / 10 : Nat) : Int)) := by show _ = _; subst hn; rw [Int.neg_tdiv, Int.tdiv_eq_ediv_of_nonneg (by omega)]; unfold wrap64; omega
      have HS : Hid ((⟨(Lib.decDigits (u / 10)).toArray⟩ : ByteArray) ++ (⟨[bt].toArray⟩ : ByteArray) = ⟨(Lib.decDigits u).toArray⟩) := by show _ = _; rw [str_add, e]
      have hle : ¬ 9223372036854775807 < (Lib.decDigits (u / 10)).length + 1 := by rw [Lib.decDigits_length]; have := Lib.nDigits_le20 (u / 10) (by omega); omega
      unfold strV at *
      clear e ih hn hu h10
      go_enter Tryd.func20, Tryd.ntmps20
      go_wp2_with (go_at_call 20; (refine (HI.out _ _ HQ.out).mono ?_; rintro e w1 ⟨rfl, hb1⟩; have B1 : Hid (Below w.heap.size w w1) := (show Below _ _ _ from HB.out.trans (hb1.mono (by simp))); clear hb1))
      go_ret
      exact ⟨by rw [← HS.out]; rfl, B1.out⟩

/-- A number's digits, with a sign below 0. -/
theorem dec_any (n : Int) (w : World) (h0 : -9223372036854775808 ≤ n) (h1 : n ≤ 9223372036854775807) :
    Calls Tryd.prog 12 #[.int .i64 n] w fun e w' => e = .returned (strV (Lib.itoa n)) ∧ Below w.heap.size w w' := by
  by_cases hn : n < 0
  · have HI : Hid (∀ w, Calls Tryd.prog 20 #[.int .i64 n] w fun e w' => e = .returned (strV (Lib.decDigits n.natAbs)) ∧ Below w.heap.size w w') := fun w => digits_any n.natAbs n w (by omega) (by omega)
    have HS : Hid ((⟨#[45]⟩ : ByteArray) ++ (⟨(Lib.decDigits n.natAbs).toArray⟩ : ByteArray) = ⟨(Lib.itoa n).toArray⟩) := by show _ = _; rw [Lib.itoa, if_pos hn, show (⟨#[45]⟩ : ByteArray) = ⟨[45].toArray⟩ from rfl, str_add]; rfl
    have hle : ¬ 9223372036854775807 < 1 + (Lib.decDigits n.natAbs).length := by rw [Lib.decDigits_length]; have := Lib.nDigits_le20 n.natAbs (by omega); omega
    unfold strV at *
    go_enter Tryd.func12, Tryd.ntmps12
    go_wp2_with (go_at_call 20; (refine (HI.out _).mono ?_; rintro e w1 ⟨rfl, hb1⟩; have B1 : Hid (Below w.heap.size w w1) := hb1; clear hb1))
    go_ret
    exact ⟨by rw [← HS.out]; rfl, B1.out⟩
  · have HI : Hid (∀ z w, z = -n → Calls Tryd.prog 20 #[.int .i64 z] w fun e w' => e = .returned (strV (Lib.decDigits n.toNat)) ∧ Below w.heap.size w w') := fun z w hz => digits_any n.toNat z w (by omega) (by omega)
    have e : Lib.itoa n = Lib.decDigits n.toNat := by rw [Lib.itoa, if_neg hn]
    rw [e]
    clear e
    go_enter Tryd.func12, Tryd.ntmps12
    go_wp2_with (go_at_call 20; (refine (HI.out _ _ (by first | rfl | (unfold wrap64; omega))).mono ?_; rintro e w1 ⟨rfl, hb1⟩; have B1 : Hid (Below w.heap.size w w1) := hb1; clear hb1))
    go_ret
    exact ⟨rfl, B1.out⟩

end Go.Proofs.YtedicikcmpehnaaDoor
