/- Contracts of proof.onward, and of slices.Repeat of one number. -/
import Derived.Test.YtepnhemlhogmgaaDoorSureMath
import Derived.Test.YtepnhemlhogmgaaDoorInts
import Derived.OwnWalk
import Derived.Laws.CopyOwn
import Derived.WalkLawsBesides
namespace Go.Proofs.YtepnhemlhogmgaaDoor
open Go Go.RowKit

theorem ints_second (w : World) (o1 : Obj) (l : List Int) (t : Nat) (hm : l.length ≤ 10) : IntsVal ((w.alloc o1).alloc (.cells (i64s l).toArray t)) (.slice (some ⟨w.heap.size + 1, 0, none⟩) l.length l.length) l := by
  have hg : ((w.alloc o1).alloc (.cells (i64s l).toArray t)).heap[w.heap.size + 1]? = some (.cells (i64s l).toArray t) := by
    have := heap_alloc_new (w.alloc o1) (.cells (i64s l).toArray t)
    simpa using this
  refine ⟨_, w.heap.size + 1, 0, _, l.length, rfl, rfl, fun _ => rfl, fun k hk => ?_, ⟨Nat.le_refl _, fun e => by cases e⟩, by unfold maxLen; omega⟩
  rw [Nat.zero_add, cell_of_row _ _ k (i64s l).toArray t (0, 0) hg]
  simp [i64s, hk]

def behindI (x : Ins) (pc : Nat) : List Int := (behind x pc).map fun (n : Nat) => (n : Int)

set_option maxRecDepth 100000 in
theorem onward_any (x : Ins) (pc : Nat) (w : World) (h0 : x.op = 15 ∨ x.op = 16 → 0 ≤ x.imm) (hp : pc < 1000) :
    Calls Tryd.prog 73 #[x.val, .int .i64 pc] w fun e w' => ∃ v', e = .returned v' ∧ IntsVal w' v' (behindI x pc) ∧ (∀ b off n c, v' = .slice (some ⟨b, off, none⟩) n c → w.heap.size ≤ b) ∧ Below w.heap.size w w' := by
  obtain ⟨op, dst, a, b', imm⟩ := x
  dsimp only at h0
  unfold Ins.val
  dsimp only
  by_cases h15 : op = 15
  · subst h15
    have e : behindI ⟨15, dst, a, b', imm⟩ pc = [imm] := by have := h0 (Or.inl rfl); simp [behindI, behind]; omega
    rw [e]
    clear e h0
    go_enter Tryd.func73, Tryd.ntmps73
    go_wp2
    go_ret
    exact ⟨_, rfl, ints_second w _ [imm] _ (by simp), fun b off n c h => by simp at h; omega, ((Below.refl _ _).alloc (Nat.le_refl _) _).alloc (by simp) _⟩
  by_cases h16 : op = 16
  · subst h16
    have e : behindI ⟨16, dst, a, b', imm⟩ pc = [(pc : Int) + 1, imm] := by have := h0 (Or.inr rfl); simp [behindI, behind]; omega
    rw [e]
    clear e h0
    go_enter Tryd.func73, Tryd.ntmps73
    go_wp2
    go_ret
    exact ⟨_, rfl, ints_second w _ [(pc : Int) + 1, imm] _ (by simp), fun b off n c h => by simp at h; omega, ((Below.refl _ _).alloc (Nat.le_refl _) _).alloc (by simp) _⟩
  by_cases h19 : op = 19
  · subst h19
    have e : behindI ⟨19, dst, a, b', imm⟩ pc = [] := by simp [behindI, behind]
    rw [e]
    clear e h0
    go_enter Tryd.func73, Tryd.ntmps73
    go_wp2
    go_ret
    exact ⟨_, rfl, ints_nil _, fun b off n c h => by simp at h, (Below.refl _ _).alloc (Nat.le_refl _) _⟩
  · have e : behindI ⟨op, dst, a, b', imm⟩ pc = [(pc : Int) + 1] := by simp [behindI, behind, h15, h16, h19]
    have e1 : (op == 15) = false := by simpa using h15
    have e2 : (op == 16) = false := by simpa using h16
    have e3 : (op == 19) = false := by simpa using h19
    rw [e]
    clear e h0 h15 h16 h19
    go_enter Tryd.func73, Tryd.ntmps73
    go_wp2
    go_ret
    exact ⟨_, rfl, ints_second w _ [(pc : Int) + 1] _ (by simp), fun b off n c h => by simp at h; omega, ((Below.refl _ _).alloc (Nat.le_refl _) _).alloc (by simp) _⟩

theorem u64_mask (c : Nat) (h : c < 65536) : bits .and .u64 (c : Int) 4294967295 = (c : Int) := by
  show IntKind.u64.wrap ((BitVec.ofInt 64 (c : Int) &&& BitVec.ofInt 64 ((4294967295 : Nat) : Int)).toNat : Int) = _
  rw [BitVec.toNat_and]
  have e1 : (BitVec.ofInt 64 (c : Int)).toNat = c := by simp; omega
  have e2 : (BitVec.ofInt 64 ((4294967295 : Nat) : Int)).toNat = 2 ^ 32 - 1 := by decide
  rw [e1, e2, Nat.and_two_pow_sub_one_eq_mod, Nat.mod_eq_of_lt (by omega)]
  simp [IntKind.wrap, IntKind.bits, IntKind.signed]
  omega

set_option maxRecDepth 100000 in
set_option maxHeartbeats 400000 in
theorem mul64_any (c : Nat) (w : World) (h : c < 65536) :
    Calls Tryd.prog 85 #[.int .u64 1, .int .u64 c] w fun e w' => e = .returned (.tuple #[.int .u64 0, .int .u64 c]) ∧ w' = w := by
  have e1 : bits .and .u64 1 4294967295 = 1 := by decide
  have e2 := u64_mask c h
  have e3 : (c : Int) / 4294967296 = 0 := by omega
  have e4 : bits .and .u64 0 4294967295 = 0 := by decide
  go_enter Tryd.func85, Tryd.ntmps85
  go_wp2
  go_ret2
  exact ⟨rfl, rfl⟩

set_option maxRecDepth 100000 in
theorem mul_any (c : Nat) (w : World) (h : c < 65536) :
    Calls Tryd.prog 72 #[.int .u64 1, .int .u64 c] w fun e w' => e = .returned (.tuple #[.int .u64 0, .int .u64 c]) ∧ w' = w := by
  go_enter Tryd.func72, Tryd.ntmps72
  go_wp2_with (go_at_call 85; refine (mul64_any c _ h).mono ?_; rintro e w' ⟨rfl, hw'⟩; replace hw' := hw'.symm; subst hw')
  go_ret2
  exact ⟨rfl, rfl⟩

/-- A row of which the first ones are d, the rest 0. -/
def rowL (d : Int) (c k : Nat) : List Value := i64s (List.replicate k d ++ List.replicate (c - k) 0)
theorem rowL_length (d : Int) (c k : Nat) (h : k ≤ c) : (rowL d c k).length = c := by simp [rowL, i64s]; omega
theorem rowL_splice (d : Int) (c k m : Nat) (_h : k + m ≤ c) : splice (rowL d c k) k (i64s (List.replicate m d)) = rowL d c (k + m) := by
  unfold splice rowL i64s
  have e1 : (List.map (Value.int .i64) (List.replicate k d ++ List.replicate (c - k) 0)).take k = List.map (Value.int .i64) (List.replicate k d) := by
    rw [← List.map_take]; congr 1; simp
  have e2 : (List.map (Value.int .i64) (List.replicate k d ++ List.replicate (c - k) 0)).drop (k + (List.map (Value.int .i64) (List.replicate m d)).length) = List.map (Value.int .i64) (List.replicate (c - (k + m)) 0) := by
    rw [← List.map_drop]; congr 1
    simp [List.drop_append]
    omega
  rw [e1, e2, ← List.map_append, ← List.map_append, ← List.append_assoc, List.replicate_append_replicate]
theorem rowL_get (d : Int) (c k j : Nat) (h : j < k) : (rowL d c k)[j]? = some (.int .i64 d) := by
  unfold rowL i64s
  rw [List.getElem?_map, List.getElem?_append_left (by simpa using h)]
  simp [h]
theorem made_zero (c : Nat) : (madeCells (Value.int .i64 0).cells (c * 1)).toList = rowL 0 c 0 := by
  simp [madeCells, rowL, i64s, Value.cells]
  apply List.ext_getElem
  · simp
  · intro i h1 h2
    have : i % 1 = 0 := Nat.mod_one i
    simp [this]
theorem own_heap {w : World} {base t g n : Nat} {xs : List Value} (h : w.ownsRow base t 1 (.slice (some ⟨g, 0, none⟩) n n) n xs) : w.heap[g]? = some (.cells xs.toArray t (0, 0)) := by
  rcases h.2 with ⟨h2, _⟩ | ⟨g', cap, cur, hv, _, hg, _, _, hs, ht⟩
  · cases h2
  · simp at hv
    obtain ⟨rfl, rfl⟩ := hv
    rw [hg]
    have hl := h.1
    have : cur = xs.toArray := by
      apply Array.ext'
      have e : cur.toList.length = n := by simpa using hs
      have e2 : cur.toList.take n = xs := by simpa using ht
      rw [List.take_of_length_le (by omega)] at e2
      simpa using e2
    rw [this]
theorem one_size : (Tryd.prog.info? 3).map (·.size) = some 1 := by kernel_rfl

theorem copy_src {w : World} {g o : Nat} {d : Int} (h : w.cell? ⟨g, o, none⟩ = some (.int .i64 d)) : ∀ (j : Nat) (v : Value), (i64s (List.replicate 1 d))[j]? = some v → w.cell? ((⟨g, o, none⟩ : Addr).add j) = some v := by
  intro j v hj
  cases j with
  | zero => simp [i64s] at hj; subst hj; simpa [Addr.add] using h
  | succ j => simp [i64s] at hj

set_option maxRecDepth 100000 in
set_option maxHeartbeats 1000000 in
theorem repeat_any (c g0 o0 cap0 : Nat) (d : Int) (w : World) (h1 : 1 ≤ c) (h2 : c ≤ 1000) (hd : w.cell? ⟨g0, o0, none⟩ = some (.int .i64 d)) :
    Calls Tryd.prog 57 #[.slice (some ⟨g0, o0, none⟩) 1 cap0, .int .i64 c] w fun e w' => e = .returned (.slice (some ⟨w.heap.size, 0, none⟩) c c) ∧ w'.heap[w.heap.size]? = some (.cells (rowL d c c).toArray 3 (0, 0)) ∧ Below w.heap.size w w' := by
  obtain ⟨i64i, hi64, hz0, hz1, hz2⟩ := info_parts info64
  have hgl : g0 < w.heap.size := World.block_lt_of_cell? _ _ hd
  have hm0 := made_zero c
  have hn1 : Hid ((i64s (List.replicate 1 d)).length = Nat.min 1 c) := by
    show _ = _
    rw [show Nat.min 1 c = 1 from Nat.min_eq_left h1]; rfl
  have hf1 : Hid (0 + (i64s (List.replicate 1 d)).length ≤ (rowL 0 c 0).length) := by
    show _ ≤ _
    rw [rowL_length _ _ _ (Nat.zero_le _)]; simpa [i64s] using h1
  go_enter Tryd.func57, Tryd.ntmps57
  go_wp2_with (first
    | (go_at_call 72; refine (mul_any c _ (by omega)).mono ?_; rintro e w' ⟨rfl, hw'⟩; replace hw' := hw'.symm; subst hw')
    | (at_make; refine wpList_make_full _ rfl (.tmp 29) (.tmp 29) 25 rfl w.heap.size 3 i64i _ 1 Tryd.underlying25 hi64 hz0 hz1 .i64 .i64 c c c rfl rfl rfl rfl (by rw [hz2]; omega) (by unfold maxLen; omega) (Nat.le_refl _) ?_; intro w1 hown1 hg1; rw [hm0] at hown1; have hh1 := own_heap hown1; have hb1 := below_grown hg1; have hd1 := keeps_below hb1 _ _ hd)
    | (show wpList _ _ _ (Oper.mk (some 33) _ _ _ _ _ :: _) _ _; refine wpList_copy_splice rfl (.tmp 31) (.tmp 32) 25 25 rfl 3 Tryd.underlying25 one_size _ _ c c 1 cap0 rfl rfl w.heap.size 0 (rowL 0 c 0) 3 hh1 (i64s (List.replicate 1 d)) hn1.out (fun _ => ⟨rfl, _, rfl, copy_src hd1⟩) hf1.out (i64s_one _) w.heap.size w hb1 (Nat.le_refl _) ?_; intro w2 hg2 hb2))
  have HG2 : Hid (w2.heap[w.heap.size]? = some (.cells (rowL d c 1).toArray 3 (0, 0))) := by
    have h := hg2.out
    rw [show rowL 0 c 0 = rowL d c 0 from rfl, rowL_splice d c 0 1 (by omega)] at h
    exact h
  have HB2 : Hid (Below w.heap.size w w2) := hb2
  clear hg2 hb2 hd1 hb1 hh1 hg1 hown1 hm0 hn1 hf1 hd hgl
  go_loopw [8] (fun i wr => ∃ k : Nat, 1 ≤ k ∧ k ≤ c ∧ i = .int .i64 k ∧ wr.heap[w.heap.size]? = some (.cells (rowL d c k).toArray 3 (0, 0)) ∧ Below w.heap.size w wr) (fun i _ => c - (intOf i).toNat)
  case atStart => exact ⟨1, Nat.le_refl _, h1, rfl, HG2.out, HB2.out⟩
  case round =>
    obtain ⟨k, hk1, hk, rfl, hg, hb⟩ := hrel
    by_cases hlt : k < c
    · have hn : Hid ((i64s (List.replicate (min k (c - k)) d)).length = Nat.min k (c - k)) := by show _ = _; simp [i64s]
      have hf : Hid (k + (i64s (List.replicate (min k (c - k)) d)).length ≤ (rowL d c k).length) := by
        show _ ≤ _
        rw [rowL_length _ _ _ hk]; simp [i64s]; omega
      have hsrc : Hid (∀ (j : Nat) (v : Value), (i64s (List.replicate (min k (c - k)) d))[j]? = some v → wr.cell? ((⟨w.heap.size, 0, none⟩ : Addr).add j) = some v) := by
        intro j v hj
        have hj2 : j < min k (c - k) := by
          rcases Nat.lt_or_ge j (min k (c - k)) with h | h
          · exact h
          · rw [List.getElem?_eq_none (by simpa [i64s] using h)] at hj; cases hj
        have e : v = .int .i64 d := by simp [i64s, hj2] at hj; exact hj.symm
        have hadd : (⟨w.heap.size, 0, none⟩ : Addr).add j = ⟨w.heap.size, j, none⟩ := by unfold Addr.add; split <;> simp_all
        rw [hadd, e, cell_of_row wr w.heap.size j (rowL d c k).toArray 3 (0, 0) hg]
        simpa using rowL_get d c k j (by omega)
      have HG : Hid (wr.heap[w.heap.size]? = some (.cells (rowL d c k).toArray 3 (0, 0))) := hg
      have HB : Hid (Below w.heap.size w wr) := hb
      have hcI : (k : Int) < c := by omega
      have hck : ((c : Int) - k).toNat = c - k := by omega
      clear hg hb
      go_wp2_with fail
      go_region_law (refine step_copy_splice rfl (.tmp 41) (.tmp 44) 25 25 rfl 3 Tryd.underlying25 one_size (some ⟨w.heap.size, k, none⟩) (some ⟨w.heap.size, 0, none⟩) (c - k) (c - k) k c (by simp [Act.eval, Act.put]; omega) (by simp [Act.eval, Act.put]) w.heap.size k (rowL d c k) 3 HG.out (i64s (List.replicate (min k (c - k)) d)) hn.out (fun _ => ⟨rfl, _, rfl, hsrc.out⟩) hf.out (i64s_one _) w.heap.size w HB.out.drew (Nat.le_refl _) ?_; intro w4 hg4 hb4)
      have HG4 : Hid (w4.heap[w.heap.size]? = some (.cells (rowL d c (k + min k (c - k))).toArray 3 (0, 0))) := by
        have h := hg4.out
        rw [rowL_splice d c k _ (by omega)] at h
        exact h
      have HB4 : Hid (Below w.heap.size w w4) := hb4
      have HLE : Hid ((i64s (List.replicate (min k (c - k)) d)).length = min k (c - k)) := by show _ = _; simp [i64s]
      clear hg4 hb4
      generalize (i64s (List.replicate (min k (c - k)) d)).length = len at HLE
      have hlen : len ≤ c := by rw [HLE.out]; omega
      have HW : Hid (IntKind.i64.wrap ((k : Int) + (len : Int)) = ((k + min k (c - k) : Nat) : Int)) := by
        show _ = _
        rw [HLE.out, ← Int.natCast_add]; exact wrap_small _ (by omega)
      go_wp2
      go_roundw
      case rel => exact ⟨k + min k (c - k), by omega, by omega, by rw [HW.out], HG4.out, HB4.out⟩
      case measure => simp only [intOf]; simp; rw [HW.out]; omega
    · obtain rfl : k = c := by omega
      go_wp2
      go_ret
      exact ⟨rfl, hg, hb⟩

end Go.Proofs.YtepnhemlhogmgaaDoor
