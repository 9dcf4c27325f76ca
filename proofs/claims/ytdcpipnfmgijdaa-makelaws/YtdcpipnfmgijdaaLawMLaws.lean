/- The walk of tierlinekeep.MakeLaws. -/
import Derived.Test.YtdcpipnfmgijdaaMade
import Derived.Handy
namespace Go.Proofs.Ytdcpipnfmgijdaa
open Go Go.RowKit

/-- The place of a loop over six. -/
def InSix (v : Value) : Prop := ∃ q : Nat, q ≤ 6 ∧ v = .int .i64 q
set_option maxRecDepth 100000 in
theorem makeLaws_walk (a b c : Int) (w : World) (ha : Fits a) (hb : Fits b) (hc : Fits c) :
    Calls Try.prog 4 #[.int .i64 a, .int .i64 b, .int .i64 c] w fun e w' => e = .returned (.bool true) ∧ Grown w w' := by
  obtain ⟨h1, h2, h3, h4, h5⟩ := laws_plain a b c ha hb hc
  have HT : Hid (mk 2 a b 0 = mk 2 b a 0 ∧ mk 4 a b 0 = mk 4 b a 0 ∧ mk 6 a b 0 = mk 6 b a 0 ∧ mk 7 a b 0 = mk 7 b a 0 ∧ mk 8 a b 0 = mk 8 b a 0 ∧ mk 12 a b 0 = mk 12 b a 0) := laws_turn a b ha hb
  clear ha hb hc
  go_enter Try.func4, Try.ntmps4
  go_wp2_with (go_at_call 11; refine (made_any _ _ _ _ rfl).mono ?_; rintro e w' ⟨rfl, rfl⟩)
  go_loop [113] (fun i => InSix i) (fun i => 6 - (intOf i).toNat)
  case atStart => exact ⟨0, by omega, rfl⟩
  case round =>
    obtain ⟨q, hq, rfl⟩ := hrel
    have hq' : q = 0 ∨ q = 1 ∨ q = 2 ∨ q = 3 ∨ q = 4 ∨ q = 5 ∨ q = 6 := by omega
    clear hq
    rcases hq' with rfl | rfl | rfl | rfl | rfl | rfl | rfl
    · have ht : (mk 2 a b 0 == mk 2 b a 0) = true := beq_iff_eq.2 (HT.out.1)
      clear HT
      go_wp2_with (go_at_call 11; refine (made_any _ _ _ _ rfl).mono ?_; rintro e w2 ⟨rfl, hw2⟩; replace hw2 := hw2.symm; subst hw2)
      go_round
      case rel => exact ⟨1, by omega, rfl⟩
      case measure => simp [intOf]
    · have ht : (mk 4 a b 0 == mk 4 b a 0) = true := beq_iff_eq.2 (HT.out.2.1)
      clear HT
      go_wp2_with (go_at_call 11; refine (made_any _ _ _ _ rfl).mono ?_; rintro e w2 ⟨rfl, hw2⟩; replace hw2 := hw2.symm; subst hw2)
      go_round
      case rel => exact ⟨2, by omega, rfl⟩
      case measure => simp [intOf]
    · have ht : (mk 6 a b 0 == mk 6 b a 0) = true := beq_iff_eq.2 (HT.out.2.2.1)
      clear HT
      go_wp2_with (go_at_call 11; refine (made_any _ _ _ _ rfl).mono ?_; rintro e w2 ⟨rfl, hw2⟩; replace hw2 := hw2.symm; subst hw2)
      go_round
      case rel => exact ⟨3, by omega, rfl⟩
      case measure => simp [intOf]
    · have ht : (mk 7 a b 0 == mk 7 b a 0) = true := beq_iff_eq.2 (HT.out.2.2.2.1)
      clear HT
      go_wp2_with (go_at_call 11; refine (made_any _ _ _ _ rfl).mono ?_; rintro e w2 ⟨rfl, hw2⟩; replace hw2 := hw2.symm; subst hw2)
      go_round
      case rel => exact ⟨4, by omega, rfl⟩
      case measure => simp [intOf]
    · have ht : (mk 8 a b 0 == mk 8 b a 0) = true := beq_iff_eq.2 (HT.out.2.2.2.2.1)
      clear HT
      go_wp2_with (go_at_call 11; refine (made_any _ _ _ _ rfl).mono ?_; rintro e w2 ⟨rfl, hw2⟩; replace hw2 := hw2.symm; subst hw2)
      go_round
      case rel => exact ⟨5, by omega, rfl⟩
      case measure => simp [intOf]
    · have ht : (mk 12 a b 0 == mk 12 b a 0) = true := beq_iff_eq.2 (HT.out.2.2.2.2.2)
      clear HT
      go_wp2_with (go_at_call 11; refine (made_any _ _ _ _ rfl).mono ?_; rintro e w2 ⟨rfl, hw2⟩; replace hw2 := hw2.symm; subst hw2)
      go_round
      case rel => exact ⟨6, by omega, rfl⟩
      case measure => simp [intOf]
    · go_wp2_with (go_at_call 11; refine (made_any _ _ _ _ rfl).mono ?_; rintro e w2 ⟨rfl, hw2⟩; replace hw2 := hw2.symm; subst hw2)
      go_ret
      exact ⟨rfl, by go_grown⟩
end Go.Proofs.Ytdcpipnfmgijdaa
