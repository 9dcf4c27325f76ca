/- Contract of tierlinekeep.sameState: two states that are the same. -/
import Derived.Test.YtgoefojdggblpaaDoorGroupC
import Derived.ChangeKeysEq
import Derived.Laws.StructEq
import Derived.Test.YtgoefojdggblpaaDoorGroupA
import Derived.BigQuiet
import Derived.Deep.QuietTactic
namespace Go.Proofs.YtgoefojdggblpaaDoor
open Go Go.RowKit

theorem list16_keep {l : List Int} (h : l.length = 16) : ∃ m0 m1 m2 m3 m4 m5 m6 m7 m8 m9 m10 m11 m12 m13 m14 m15, l = [m0, m1, m2, m3, m4, m5, m6, m7, m8, m9, m10, m11, m12, m13, m14, m15] := by
  match l, h with
  | [m0, m1, m2, m3, m4, m5, m6, m7, m8, m9, m10, m11, m12, m13, m14, m15], _ => exact ⟨m0, m1, m2, m3, m4, m5, m6, m7, m8, m9, m10, m11, m12, m13, m14, m15, rfl⟩
theorem plain_int_keep : Tryd.prog.plainKey 3 = true := by kernel_rfl
theorem cells_int_keep : Tryd.prog.cellsOf 3 = 1 := by kernel_rfl
theorem equal_items_keep (d : Nat) (l : List Int) (w : World) : ∀ is : List Nat, (∀ i ∈ is, i < l.length) → (Op.eqItems (d + 1) 3 1 (i64s l).toArray (i64s l).toArray is).run Tryd.prog w = .ok true w := by
  intro is
  induction is with
  | nil => intro _; simp [Op.eqItems]
  | cons i is ih =>
    intro h
    have hi : i < l.length := h i (List.mem_cons_self)
    have hg : (i64s l).toArray[i * 1]? = some (.int .i64 l[i]) := by simp [i64s, hi]
    simp only [Op.eqItems, Sem.run_bind, run_part_plain w plain_int_keep hg, Result.andThen_ok, run_equalIn_int w d 3 .i64 .i64 l[i] l[i] Tryd.underlying3]
    simp
    exact ih (fun j hj => h j (List.mem_cons_of_mem _ hj))
theorem equal_ints_keep (t : TypeId) (l : List Int) (d : Nat) (w : World) (hu : Tryd.prog.underlying t = some (.array l.length 3)) : (Op.equalIn (d + 2) t (.agg (i64s l).toArray) (.agg (i64s l).toArray)).run Tryd.prog w = .ok true w := by
  obtain ⟨i, hi, _⟩ := info_parts info64
  rw [run_equalIn_array w (d + 1) _ _ hu hi, cells_int_keep]
  exact equal_items_keep d l w _ (fun j hj => by simpa using hj)
set_option maxRecDepth 100000 in
set_option maxHeartbeats 400000 in
theorem sameInts_keep (l : List Int) (v1 v2 : Value) (w : World) (h1 : IntsVal w v1 l) (h2 : IntsVal w v2 l) :
    Calls Tryd.prog 23 #[v1, v2] w fun e w' => e = .returned (.bool true) ∧ Below w.heap.size w w' := by
  obtain ⟨ao1, b1, off1, n1, cap1, rfl, hl1, ha1, hc1, hcp1, hm1⟩ := h1
  obtain ⟨ao2, b2, off2, n2, cap2, rfl, hl2, ha2, hc2, hcp2, hm2⟩ := h2
  obtain rfl : n1 = n2 := by omega
  have HL : Hid (l.length = n1) := hl1
  have HC1 : Hid (∀ k (h : k < l.length), w.cell? ⟨b1, off1 + k, none⟩ = some (.int .i64 l[k])) := hc1
  have HC2 : Hid (∀ k (h : k < l.length), w.cell? ⟨b2, off2 + k, none⟩ = some (.int .i64 l[k])) := hc2
  have hcp := hcp1.1
  unfold maxLen at hm1
  clear hl1 hl2 hc1 hc2 hm2 hcp1 hcp2
  go_enter Tryd.func23, Tryd.ntmps23
  go_wp2
  go_loopw [5] (fun i wr => ∃ k : Nat, k ≤ n1 ∧ i = .int .i64 k ∧ Below w.heap.size w wr) (fun i _ => n1 - (intOf i).toNat)
  case atStart => exact ⟨0, Nat.zero_le _, rfl, Below.refl _ _⟩
  case round =>
    obtain ⟨k, hk, rfl, hb⟩ := hrel
    by_cases hlt : k < n1
    · obtain rfl := ha1 (by omega)
      obtain rfl := ha2 (by omega)
      have hkl : k < l.length := by rw [HL.out]; exact hlt
      have c1 := keeps_below hb _ _ (HC1.out k hkl)
      have c2 := keeps_below hb _ _ (HC2.out k hkl)
      have hkI : (k : Int) < n1 := by omega
      generalize l[k] = z at c1 c2
      clear ha1 ha2
      go_wp2
      go_quiet (fail)
      go_wp2
      go_roundw
      case rel => exact ⟨k + 1, by omega, by go_num, below_drewN hb _⟩
      case measure => simp [intOf]; omega
    · clear ha1 ha2
      go_wp2
      go_ret
      exact ⟨rfl, hb⟩

end Go.Proofs.YtgoefojdggblpaaDoor
