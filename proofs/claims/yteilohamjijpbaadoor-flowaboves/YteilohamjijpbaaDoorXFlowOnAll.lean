/- Contract of flow.onAll. -/
import Derived.Test.YteilohamjijpbaaDoorXAboveMath
namespace Go.Proofs.YteilohamjijpbaaDoor
open Go Go.RowKit

theorem andAll_next (on : List (BitVec 64)) (ps : List Nat) (p : Nat) : andAll on (ps ++ [p]) = andAll on ps &&& on.getD p 0#64 := by
  unfold andAll; rw [List.foldl_append]; rfl
theorem map_toInt_getD (on : List (BitVec 64)) (p : Nat) (hp : p < on.length) : (on.map BitVec.toInt).getD p 0 = (on.getD p 0#64).toInt := by
  simp [List.getD, hp]

set_option maxRecDepth 100000 in
theorem onAll_any (on : List (BitVec 64)) (ps : List Nat) (v1 v2 : Value) (w : World) (h1 : IntsVal w v1 (on.map BitVec.toInt)) (h2 : IntsVal w v2 (ps.map fun p => ((p : Nat) : Int))) (hp : ∀ p ∈ ps, p < on.length) :
    Calls Tryd.prog 68 #[v1, v2] w fun e w' => e = .returned (.int .i64 (andAll on ps).toInt) ∧ w' = w := by
  obtain ⟨ao1, b1, off1, n1, cap1, rfl, hl1, ha1, hc1, hcp1, hm1⟩ := ints_get h1
  obtain ⟨ao, b, off, n, cap, rfl, hl, ha, hc, hcp, hm⟩ := ints_get h2
  rw [List.length_map] at hl hl1
  have HQ : Hid (∀ q, q < n → ∃ p : Nat, ao = some ⟨b, off, none⟩ ∧ ao1 = some ⟨b1, off1, none⟩ ∧ p < n1 ∧ w.cell? ⟨b, off + q, none⟩ = some (.int .i64 (p : Int)) ∧ w.cell? ⟨b1, off1 + p, none⟩ = some (.int .i64 (on.getD p 0#64).toInt) ∧ bits .and .i64 (andAll on (ps.take q)).toInt (on.getD p 0#64).toInt = (andAll on (ps.take (q + 1))).toInt) := fun q hq => by
    have hql : q < ps.length := by omega
    have hpn := hp _ (List.getElem_mem hql)
    refine ⟨ps[q], ha (by omega), ha1 (by omega), by omega, ?_, ?_, ?_⟩
    · rw [hc q hq]; simp [List.getD, hql]
    · rw [hc1 _ (by omega), map_toInt_getD _ _ hpn]
    · rw [bits_and_bv, List.take_add_one, List.getElem?_eq_getElem hql]
      show _ = (andAll on (_ ++ [ps[q]])).toInt
      rw [andAll_next]
  have HE : Hid (ps.take n = ps) := List.take_of_length_le (by omega)
  have HS : Hid ((-1 : Int) = (andAll on (ps.take 0)).toInt) := by show _ = _; rfl
  clear h1 h2 ha hc hc1 ha1 hp hl hl1
  go_enter Tryd.func68, Tryd.ntmps68
  go_wp2
  go_loopw [5, 10] (fun c i wr => ∃ q : Nat, q ≤ n ∧ i = .int .i64 q ∧ c = .int .i64 (andAll on (ps.take q)).toInt ∧ wr = w) (fun _ i _ => n - (intOf i).toNat)
  case atStart => exact ⟨0, Nat.zero_le _, rfl, by rw [← HS.out], rfl⟩
  case round =>
    obtain ⟨q, hq, rfl, rfl, hwr⟩ := hrel
    subst hwr
    by_cases hlt : q < n
    · obtain ⟨p, e1, e2, hpn, c1, c2, hb⟩ := HQ.out q hlt
      subst e1 e2
      have HB : Hid (bits .and .i64 (andAll on (ps.take q)).toInt (on.getD p 0#64).toInt = (andAll on (ps.take (q + 1))).toInt) := hb
      have hqI : (q : Int) < n := by omega
      have hpI : (p : Int) < n1 := by omega
      clear hb
      generalize (on.getD p 0#64).toInt = y at c2 HB
      generalize (andAll on (ps.take q)).toInt = x at HB ⊢
      go_wp2
      go_roundw
      case rel => exact ⟨q + 1, by omega, by go_num, by rw [← HB.out], by trivial⟩
      case measure => simp [intOf]; omega
    · obtain rfl : q = n := by omega
      go_wp2
      go_ret
      exact ⟨by rw [HE.out]; rfl, by trivial⟩
end Go.Proofs.YteilohamjijpbaaDoor
