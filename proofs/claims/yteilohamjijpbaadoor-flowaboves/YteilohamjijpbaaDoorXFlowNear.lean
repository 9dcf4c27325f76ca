/- Contracts of flow.nearest and flow.above. -/
import Derived.Test.YteilohamjijpbaaDoorXFlowStands
namespace Go.Proofs.YteilohamjijpbaaDoor
open Go Go.RowKit

/-- What the closure that flow.standing answers says. -/
def Stands (pv : Nat → List Nat) (K : Nat) (w : World) (R : Nat) : Prop := ∃ (on : List (BitVec 64)) (v : Value), w.cell? ⟨R, 0, none⟩ = some v ∧ IntsVal w v (on.map BitVec.toInt) ∧ on.length = K ∧ K ≤ 64 ∧ ∀ b d, b < K → d < 64 → ((on.getD b 0#64).getLsbD d = true ↔ Dom pv d b)
theorem Stands.keeps {pv : Nat → List Nat} {K R : Nat} {w w' : World} (h : Stands pv K w R) (hk : Keeps w w') : Stands pv K w' R := by
  obtain ⟨on, v, h1, h2, h3⟩ := h
  exact ⟨on, v, hk _ _ h1, h2.keeps hk, h3⟩
theorem Stands.call {pv : Nat → List Nat} {K R : Nat} {w : World} (h : Stands pv K w R) (one other : Nat) (h1 : one < K) (h2 : other < K) :
    ∃ B : Bool, (B = true ↔ Dom pv one other) ∧ Calls Tryd.prog 69 #[.int .i64 one, .int .i64 other, .pointer (some ⟨R, 0, none⟩)] w fun e w' => e = .returned (.bool B) ∧ w' = w := by
  obtain ⟨on, v, hc, hi, hl, hk, hb⟩ := h
  exact ⟨_, hb other one h2 (by omega), stands_any on R one other v w hc hi (by omega) (by omega)⟩

set_option maxHeartbeats 4000000 in
set_option maxRecDepth 100000 in
theorem nearest_any (pv : Nat → List Nat) (K R blk : Nat) (w : World) (h : Stands pv K w R) (hb : blk < K) (hc : Come pv blk) (hk : K ≤ 1000) :
    Calls Tryd.prog 70 #[.int .i64 K, .int .i64 blk, .func (.func 69) #[] #[.pointer (some ⟨R, 0, none⟩)]] w fun e w' => ∃ z, e = .returned (.int .i64 z) ∧ NearTo pv blk K z ∧ w' = w := by
  have HS : Hid (Stands pv K w R) := h
  have HC : Hid (Come pv blk) := hc
  clear h hc
  go_enter Tryd.func70, Tryd.ntmps70
  go_wp2
  go_loopw [7, 10] (fun c i wr => ∃ (q : Nat) (z : Int), q ≤ K ∧ i = .int .i64 q ∧ c = .int .i64 z ∧ NearTo pv blk q z ∧ wr = w) (fun _ i _ => K - (intOf i).toNat)
  case atStart => exact ⟨0, -1, Nat.zero_le _, rfl, rfl, NearTo.start pv blk, rfl⟩
  case round =>
    obtain ⟨q, z, hq, rfl, rfl, hn, hwr⟩ := hrel
    subst hwr
    have HN : Hid (NearTo pv blk q z) := hn
    clear hn
    by_cases hlt : q < K
    · have hqI : (q : Int) < K := by omega
      by_cases hqb : q = blk
      · have hne : ((q : Int) != (blk : Int)) = false := by rw [hqb]; simp
        have HNX : Hid (NearTo pv blk (q + 1) z) := HN.out.skip (Or.inl hqb)
        clear hqb
        go_wp2
        go_roundw
        case rel => exact ⟨q + 1, z, by omega, by go_num, rfl, HNX.out, by trivial⟩
        case measure => simp [intOf]; omega
      · have hne : ((q : Int) != (blk : Int)) = true := by simp only [bne_iff_ne, ne_eq]; omega
        obtain ⟨B, hB, g1⟩ := HS.out.call q blk hlt hb
        have HB : Hid (B = true ↔ Dom pv q blk) := hB
        have HQB : Hid (q ≠ blk) := hqb
        clear hB hqb
        cases B
        · have HNX : Hid (NearTo pv blk (q + 1) z) := HN.out.skip (Or.inr fun hd => by have := HB.out.2 hd; cases this)
          go_wp2_with (go_at_call 69; refine g1.mono ?_; rintro e w1 ⟨rfl, hw1⟩; replace hw1 := hw1.symm; subst hw1)
          go_roundw
          case rel => exact ⟨q + 1, z, by omega, by go_num, rfl, HNX.out, by trivial⟩
          case measure => simp [intOf]; omega
        · by_cases hz : z = -1
          · subst hz
            have HNX : Hid (NearTo pv blk (q + 1) (q : Int)) := HN.out.first HQB.out (HB.out.1 rfl)
            go_wp2_with (go_at_call 69; refine g1.mono ?_; rintro e w1 ⟨rfl, hw1⟩; replace hw1 := hw1.symm; subst hw1)
            go_roundw
            case rel => exact ⟨q + 1, _, by omega, by go_num, rfl, HNX.out, by trivial⟩
            case measure => simp [intOf]; omega
          · obtain ⟨a, ha, haK⟩ : ∃ a : Nat, z = (a : Int) ∧ a < K := by
              rcases HN.out with ⟨e, _⟩ | ⟨a, e, h1, _⟩
              · exact absurd e hz
              · exact ⟨a, e, by omega⟩
            subst ha
            obtain ⟨B2, hB2, g2⟩ := HS.out.call a q haK hlt
            have HB2 : Hid (B2 = true ↔ Dom pv a q) := hB2
            have hz1 : ((a : Int) == -1) = false := beq_eq_false_iff_ne.2 (by omega)
            clear hB2 hz
            cases B2
            · have HNX : Hid (NearTo pv blk (q + 1) (a : Int)) := NearTo.keep HC.out HN.out (HB.out.1 rfl) (fun hd => by have := HB2.out.2 hd; cases this)
              go_wp2_with (go_at_call 69; first | (with_reducible refine g1.mono ?_; rintro e w1 ⟨rfl, hw1⟩; replace hw1 := hw1.symm; subst hw1) | (with_reducible refine g2.mono ?_; rintro e w1 ⟨rfl, hw1⟩; replace hw1 := hw1.symm; subst hw1))
              go_roundw
              case rel => exact ⟨q + 1, _, by omega, by go_num, rfl, HNX.out, by trivial⟩
              case measure => simp [intOf]; omega
            · have HNX : Hid (NearTo pv blk (q + 1) (q : Int)) := NearTo.take HN.out HQB.out (HB.out.1 rfl) (HB2.out.1 rfl)
              go_wp2_with (go_at_call 69; first | (with_reducible refine g1.mono ?_; rintro e w1 ⟨rfl, hw1⟩; replace hw1 := hw1.symm; subst hw1) | (with_reducible refine g2.mono ?_; rintro e w1 ⟨rfl, hw1⟩; replace hw1 := hw1.symm; subst hw1))
              go_roundw
              case rel => exact ⟨q + 1, _, by omega, by go_num, rfl, HNX.out, by trivial⟩
              case measure => simp [intOf]; omega
    · obtain rfl : q = K := by omega
      go_wp2
      go_ret
      exact ⟨z, rfl, HN.out, by trivial⟩
end Go.Proofs.YteilohamjijpbaaDoor
