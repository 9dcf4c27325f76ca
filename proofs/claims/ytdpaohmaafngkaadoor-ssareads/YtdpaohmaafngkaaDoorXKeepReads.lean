/- Contract of tierlinekeep.reads: what an instruction reads, as a slice, and what it sets. -/
import Derived.Test.YtdpaohmaafngkaaDoorGroupB
import Derived.RegionTactic
import Derived.ChangeAlike
import Derived.BigRegion
namespace Go.Proofs.YtdpaohmaafngkaaDoor
open Go Go.RowKit

def setsI (x : Ins) : Int := if setsB x.op = true then x.dst else -1

theorem ints_third (w : World) (o1 o2 : Obj) (l : List Int) (n t : Nat) (hn : n ≤ l.length) (hm : l.length ≤ 10) : IntsVal (((w.alloc o1).alloc o2).alloc (.cells (i64s l).toArray t)) (.slice (some ⟨w.heap.size + 1 + 1, 0, none⟩) n l.length) (l.take n) := by
  have hg : (((w.alloc o1).alloc o2).alloc (.cells (i64s l).toArray t)).heap[w.heap.size + 1 + 1]? = some (.cells (i64s l).toArray t) := by
    have := heap_alloc_new ((w.alloc o1).alloc o2) (.cells (i64s l).toArray t)
    simpa using this
  refine ⟨_, w.heap.size + 1 + 1, 0, n, l.length, rfl, by simp; omega, fun _ => rfl, fun k hk => ?_, ⟨hn, fun e => by cases e⟩, by unfold maxLen; omega⟩
  have hk' : k < l.length := by simp at hk; omega
  rw [Nat.zero_add, cell_of_row _ _ k (i64s l).toArray t (0, 0) hg]
  simp [i64s, hk']
theorem ints_drew {w : World} {v : Value} {l : List Int} (h : IntsVal w v l) : IntsVal w.drew v l := h.keeps fun _ _ e => e

set_option maxRecDepth 100000 in
set_option maxHeartbeats 1000000 in
theorem reads_set  (dst a b' imm : Int) (v : Value) (w : World) :
    Calls Tryd.prog 17 #[.agg #[v], .agg #[.int .i64 1, .int .i64 dst, .int .i64 a, .int .i64 b', .int .i64 imm]] w fun e w' => ∃ v', e = .returned (.tuple #[v', .int .i64 dst]) ∧ IntsVal w' v' [] ∧ Below w.heap.size w w' := by
  go_enter Tryd.func17, Tryd.ntmps17
  go_wp2
  go_quiet (fail)
  go_wp2
  go_ret2
  exact ⟨_, rfl, (ints_nil _), below_drewN (((Below.refl _ _).alloc (Nat.le_refl _) _).alloc (by simp) _) _⟩

set_option maxRecDepth 100000 in
set_option maxHeartbeats 1000000 in
theorem reads_two (op : Int) (o1 : 2 ≤ op) (o2 : op ≤ 12) (dst a b' imm : Int) (v : Value) (w : World) :
    Calls Tryd.prog 17 #[.agg #[v], .agg #[.int .i64 op, .int .i64 dst, .int .i64 a, .int .i64 b', .int .i64 imm]] w fun e w' => ∃ v', e = .returned (.tuple #[v', .int .i64 dst]) ∧ IntsVal w' v' [a, b'] ∧ Below w.heap.size w w' := by
  have h1 : (op == 1) = false := by simp; omega
  go_enter Tryd.func17, Tryd.ntmps17
  go_wp2
  go_region
  go_wp2
  go_ret2
  exact ⟨_, rfl, ints_drew (ints_third w _ _ [a, b'] 2 _ (by simp) (by simp)), ((((Below.refl _ _).alloc (Nat.le_refl _) _).alloc (by simp) _).alloc (by simp; omega) _).drew⟩

set_option maxRecDepth 100000 in
set_option maxHeartbeats 1000000 in
theorem reads_load  (dst a b' imm : Int) (v : Value) (w : World) :
    Calls Tryd.prog 17 #[.agg #[v], .agg #[.int .i64 13, .int .i64 dst, .int .i64 a, .int .i64 b', .int .i64 imm]] w fun e w' => ∃ v', e = .returned (.tuple #[v', .int .i64 dst]) ∧ IntsVal w' v' [a] ∧ Below w.heap.size w w' := by
  go_enter Tryd.func17, Tryd.ntmps17
  go_wp2
  go_region
  go_wp2
  go_ret2
  exact ⟨_, rfl, ints_drew (ints_third w _ _ [a] 1 _ (by simp) (by simp)), ((((Below.refl _ _).alloc (Nat.le_refl _) _).alloc (by simp) _).alloc (by simp; omega) _).drew⟩

set_option maxRecDepth 100000 in
set_option maxHeartbeats 1000000 in
theorem reads_host  (dst a b' imm : Int) (v : Value) (w : World) :
    Calls Tryd.prog 17 #[.agg #[v], .agg #[.int .i64 18, .int .i64 dst, .int .i64 a, .int .i64 b', .int .i64 imm]] w fun e w' => ∃ v', e = .returned (.tuple #[v', .int .i64 dst]) ∧ IntsVal w' v' [a] ∧ Below w.heap.size w w' := by
  go_enter Tryd.func17, Tryd.ntmps17
  go_wp2
  go_region
  go_wp2
  go_ret2
  exact ⟨_, rfl, ints_drew (ints_third w _ _ [a] 1 _ (by simp) (by simp)), ((((Below.refl _ _).alloc (Nat.le_refl _) _).alloc (by simp) _).alloc (by simp; omega) _).drew⟩

set_option maxRecDepth 100000 in
set_option maxHeartbeats 1000000 in
theorem reads_store  (dst a b' imm : Int) (v : Value) (w : World) :
    Calls Tryd.prog 17 #[.agg #[v], .agg #[.int .i64 14, .int .i64 dst, .int .i64 a, .int .i64 b', .int .i64 imm]] w fun e w' => ∃ v', e = .returned (.tuple #[v', .int .i64 (-1)]) ∧ IntsVal w' v' [a, b'] ∧ Below w.heap.size w w' := by
  go_enter Tryd.func17, Tryd.ntmps17
  go_wp2
  go_ret2
  exact ⟨_, rfl, ints_third w _ _ [a, b'] 2 _ (by simp) (by simp), ((((Below.refl _ _).alloc (Nat.le_refl _) _).alloc (by simp) _).alloc (by simp; omega) _)⟩

set_option maxRecDepth 100000 in
set_option maxHeartbeats 1000000 in
theorem reads_jump  (dst a b' imm : Int) (v : Value) (w : World) :
    Calls Tryd.prog 17 #[.agg #[v], .agg #[.int .i64 15, .int .i64 dst, .int .i64 a, .int .i64 b', .int .i64 imm]] w fun e w' => ∃ v', e = .returned (.tuple #[v', .int .i64 (-1)]) ∧ IntsVal w' v' [] ∧ Below w.heap.size w w' := by
  go_enter Tryd.func17, Tryd.ntmps17
  go_wp2
  go_ret2
  exact ⟨_, rfl, ints_nil _, (((Below.refl _ _).alloc (Nat.le_refl _) _).alloc (by simp) _)⟩

set_option maxRecDepth 100000 in
set_option maxHeartbeats 1000000 in
theorem reads_if  (dst a b' imm : Int) (v : Value) (w : World) :
    Calls Tryd.prog 17 #[.agg #[v], .agg #[.int .i64 16, .int .i64 dst, .int .i64 a, .int .i64 b', .int .i64 imm]] w fun e w' => ∃ v', e = .returned (.tuple #[v', .int .i64 (-1)]) ∧ IntsVal w' v' [a] ∧ Below w.heap.size w w' := by
  go_enter Tryd.func17, Tryd.ntmps17
  go_wp2
  go_ret2
  exact ⟨_, rfl, ints_third w _ _ [a] 1 _ (by simp) (by simp), ((((Below.refl _ _).alloc (Nat.le_refl _) _).alloc (by simp) _).alloc (by simp; omega) _)⟩

set_option maxRecDepth 100000 in
set_option maxHeartbeats 1000000 in
theorem reads_ret  (dst a b' imm : Int) (v : Value) (w : World) :
    Calls Tryd.prog 17 #[.agg #[v], .agg #[.int .i64 19, .int .i64 dst, .int .i64 a, .int .i64 b', .int .i64 imm]] w fun e w' => ∃ v', e = .returned (.tuple #[v', .int .i64 (-1)]) ∧ IntsVal w' v' [a] ∧ Below w.heap.size w w' := by
  go_enter Tryd.func17, Tryd.ntmps17
  go_wp2
  go_ret2
  exact ⟨_, rfl, ints_third w _ _ [a] 1 _ (by simp) (by simp), ((((Below.refl _ _).alloc (Nat.le_refl _) _).alloc (by simp) _).alloc (by simp; omega) _)⟩

set_option maxRecDepth 100000 in
set_option maxHeartbeats 2000000 in
theorem reads_call (P : List Fn) (dst a b' : Int) (k : Nat) (v : Value) (w : World) (hv : ProgVal w v P) (hk : k < P.length) (p0 : 0 ≤ P[k].params) (p1 : P[k].params ≤ 2) :
    Calls Tryd.prog 17 #[.agg #[v], .agg #[.int .i64 17, .int .i64 dst, .int .i64 a, .int .i64 b', .int .i64 k]] w fun e w' => ∃ v', e = .returned (.tuple #[v', .int .i64 dst]) ∧ IntsVal w' v' ([a, b'].take P[k].params.toNat) ∧ Below w.heap.size w w' := by
  obtain ⟨ao, b, off, n, cap, rfl, ⟨hlen, haddr, hat⟩, hcap, hmax⟩ := hv
  obtain ⟨u, hu⟩ := hat k hk
  obtain rfl := haddr (by omega)
  have d0 := hu.params
  generalize P[k].params = pp at d0 p0 p1
  have hkn : (k : Int) < n := by omega
  have t0 := fun o1 => cell_alloc (cell_alloc d0 o1)
  have t1 := fun o1 o2 => cell_alloc (cell_alloc (cell_alloc d0 o1) o2)
  clear hat haddr hu d0 hlen
  rcases (show pp = 0 ∨ pp = 1 ∨ pp = 2 by omega) with rfl | rfl | rfl
  · go_enter Tryd.func17, Tryd.ntmps17
    go_wp2
    go_region
    go_wp2
    go_ret2
    exact ⟨_, rfl, ints_drew (ints_third w _ _ [a, b'] 0 _ (by simp) (by simp)), ((((Below.refl _ _).alloc (Nat.le_refl _) _).alloc (by simp) _).alloc (by simp; omega) _).drew⟩
  · go_enter Tryd.func17, Tryd.ntmps17
    go_wp2
    go_region
    go_wp2
    go_ret2
    exact ⟨_, rfl, ints_drew (ints_third w _ _ [a, b'] 1 _ (by simp) (by simp)), ((((Below.refl _ _).alloc (Nat.le_refl _) _).alloc (by simp) _).alloc (by simp; omega) _).drew⟩
  · go_enter Tryd.func17, Tryd.ntmps17
    go_wp2
    go_region
    go_wp2
    go_ret2
    exact ⟨_, rfl, ints_drew (ints_third w _ _ [a, b'] 2 _ (by simp) (by simp)), ((((Below.refl _ _).alloc (Nat.le_refl _) _).alloc (by simp) _).alloc (by simp; omega) _).drew⟩

theorem reads_keep (P : List Fn) (v : Value) (x : Ins) (w : World) (hv : ProgVal w v P) (hx : InsOk P x) :
    Calls Tryd.prog 17 #[.agg #[v], x.val] w fun e w' => ∃ v', e = .returned (.tuple #[v', .int .i64 (setsI x)]) ∧ IntsVal w' v' (readsL P x) ∧ Below w.heap.size w w' := by
  obtain ⟨op, dst, a, b', imm⟩ := x
  obtain ⟨o1, o2, _, _, _, _, _, _, hcall⟩ := hx
  dsimp only at o1 o2 hcall
  unfold Ins.val
  dsimp only
  by_cases h17 : op = 17
  · subst h17
    obtain ⟨i0, i1, p0, p1⟩ := hcall rfl
    obtain ⟨k, rfl⟩ := Int.eq_ofNat_of_zero_le i0
    have hk : k < P.length := by omega
    have hpa : paramsAt P (k : Int) = P[k].params := by simp [paramsAt, List.getD, hk]
    rw [hpa] at p0 p1
    have e : readsL P ⟨17, dst, a, b', k⟩ = [a, b'].take P[k].params.toNat := by
      simp only [readsL, rdA, rdB, hpa, if_true]
      rcases (show P[k].params = 0 ∨ P[k].params = 1 ∨ P[k].params = 2 by omega) with h | h | h <;> simp [h]
    rw [e]
    exact reads_call P dst a b' k v w hv hk p0 p1
  · have e : readsL P ⟨op, dst, a, b', imm⟩ = (if readsAB op = true then [a] else []) ++ (if readsBB op = true then [b'] else []) := by simp [readsL, rdA, rdB, h17]
    rw [e]
    by_cases h2 : 2 ≤ op ∧ op ≤ 12
    · have f1 : readsAB op = true := by simp [readsAB]; omega
      have f2 : readsBB op = true := by simp [readsBB]; omega
      have f3 : setsB op = true := by simp [setsB]; omega
      rw [f1, f2]
      simp only [setsI, f3, if_true]
      exact reads_two op h2.1 h2.2 dst a b' imm v w
    · rcases (show op = 1 ∨ op = 13 ∨ op = 14 ∨ op = 15 ∨ op = 16 ∨ op = 18 ∨ op = 19 by omega) with rfl | rfl | rfl | rfl | rfl | rfl | rfl
      · exact reads_set dst a b' imm v w
      · exact reads_load dst a b' imm v w
      · exact reads_store dst a b' imm v w
      · exact reads_jump dst a b' imm v w
      · exact reads_if dst a b' imm v w
      · exact reads_host dst a b' imm v w
      · exact reads_ret dst a b' imm v w

end Go.Proofs.YtdpaohmaafngkaaDoor
