/- Contract of the closure that flow.standing answers. -/
import Derived.Test.YteilohamjijpbaaDoorXFlowOnAll
namespace Go.Proofs.YteilohamjijpbaaDoor
open Go Go.RowKit

theorem stand_bit (x : BitVec 64) (k : Nat) (hk : k < 64) : (bits .and .i64 (x.toInt / 2 ^ k) 1 != 0) = x.getLsbD k := by
  have e : x.toInt / 2 ^ k = (x.sshiftRight k).toInt := by rw [BitVec.toInt_sshiftRight, Int.shiftRight_eq_div_pow]; simp
  have e1 : (1 : Int) = (1#64).toInt := by decide
  have e2 : x.sshiftRight k &&& 1#64 = if x.getLsbD k then 1#64 else 0#64 := by
    apply BitVec.eq_of_getLsbD_eq
    intro i hi
    rw [BitVec.getLsbD_and, BitVec.getLsbD_sshiftRight, BitVec.getLsbD_one]
    by_cases h0 : i = 0
    · subst h0
      cases hx : x.getLsbD k <;> simp [hk]
    · cases hx : x.getLsbD k <;> simp [h0, hi]
  rw [e, e1, bits_and_bv, e2]
  cases x.getLsbD k <;> decide

set_option maxRecDepth 100000 in
theorem stands_any (on : List (BitVec 64)) (R one other : Nat) (v : Value) (w : World) (hr : w.cell? ⟨R, 0, none⟩ = some v) (h : IntsVal w v (on.map BitVec.toInt)) (ho : other < on.length) (h1 : one < 64) :
    Calls Tryd.prog 69 #[.int .i64 one, .int .i64 other, .pointer (some ⟨R, 0, none⟩)] w fun e w' => e = .returned (.bool ((on.getD other 0#64).getLsbD one)) ∧ w' = w := by
  obtain ⟨ao, b, off, n, cap, rfl, hl, ha, hc, hcp, hm⟩ := ints_get h
  rw [List.length_map] at hl
  obtain rfl := ha (by omega)
  have c := hc other (by omega)
  rw [map_toInt_getD _ _ ho] at c
  have HB : Hid ((bits .and .i64 ((on.getD other 0#64).toInt / 2 ^ one) 1 != 0) = (on.getD other 0#64).getLsbD one) := stand_bit _ _ h1
  have hoI : (other : Int) < n := by omega
  have h1I : (0 : Int) ≤ one := by omega
  clear h ha hc hl
  generalize (on.getD other 0#64).getLsbD one = bb at HB ⊢
  generalize (on.getD other 0#64).toInt = y at c HB
  go_enter Tryd.func69, Tryd.ntmps69
  go_wp2
  go_ret
  exact ⟨by rw [← HB.out]; rfl, by trivial⟩
end Go.Proofs.YteilohamjijpbaaDoor
