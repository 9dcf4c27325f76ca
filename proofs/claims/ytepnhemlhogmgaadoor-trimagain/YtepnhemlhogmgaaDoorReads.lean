/- Contracts of proof.partsRead, readBits, setBit: what an instruction reads and sets, as bits. -/
import Derived.Test.YtepnhemlhogmgaaDoorRef
import Derived.Test.YtepnhemlhogmgaaDoorBits
namespace Go.Proofs.YtepnhemlhogmgaaDoor
open Go Go.RowKit

/-- The table of what a Call reads lies in memory. -/
def CallOk (w : World) : Prop := ∀ i : Nat, i < 3 → w.cell? ⟨1, i, none⟩ = some (.int .i64 (([0, 2, 6] : List Int).getD i 0))
theorem CallOk.pos {w : World} (h : CallOk w) : 1 < w.heap.size := World.block_lt_of_cell? _ _ (h 0 (by omega))
theorem CallOk.below {w w' : World} (h : CallOk w) (hb : Below w.heap.size w w') : CallOk w' := fun i hi => (hb.cell (p := ⟨1, i, none⟩) h.pos).trans (h i hi)

def paramsAt (P : List Fn) (i : Int) : Int := (P.getD i.toNat ⟨0, 0, []⟩).params
/-- Is the register A read, and B? -/
def rdA (P : List Fn) (x : Ins) : Bool := if x.op = 17 then decide (1 ≤ paramsAt P x.imm) else readsAB x.op
def rdB (P : List Fn) (x : Ins) : Bool := if x.op = 17 then decide (2 ≤ paramsAt P x.imm) else readsBB x.op
def partsI (P : List Fn) (x : Ins) : Int := (if rdA P x = true then 2 else 0) + (if rdB P x = true then 4 else 0)

/-- An instruction that may be, in a program that may be. -/
structure InsOk (P : List Fn) (x : Ins) : Prop where
  op1 : 1 ≤ x.op
  op2 : x.op ≤ 19
  dst0 : 0 ≤ x.dst
  dst1 : x.dst < 12
  a0 : 0 ≤ x.a
  a1 : x.a < 12
  b0 : 0 ≤ x.b
  b1 : x.b < 12
  call : x.op = 17 → 0 ≤ x.imm ∧ x.imm < P.length ∧ 0 ≤ paramsAt P x.imm ∧ paramsAt P x.imm ≤ 2

theorem ops19 {Q : Int → Prop} (h : ∀ k : Fin 20, 1 ≤ k.val → Q ((k.val : Nat) : Int)) (a : Int) (h0 : 1 ≤ a) (h1 : a ≤ 19) : Q a := by
  obtain ⟨k, rfl⟩ := Int.eq_ofNat_of_zero_le (show 0 ≤ a by omega)
  exact h ⟨k, by omega⟩ (by simp; omega)
theorem parts_has (op : Int) (h0 : 1 ≤ op) (h1 : op ≤ 19) (h : op ≠ 17) : bits .and .i64 (hasOf op) 6 = (if readsAB op = true then 2 else 0) + (if readsBB op = true then 4 else 0) :=
  ops19 (Q := fun op => op ≠ 17 → bits .and .i64 (hasOf op) 6 = (if readsAB op = true then 2 else 0) + (if readsBB op = true then 4 else 0)) (by decide) op h0 h1 h
theorem sets_has (op : Int) (h0 : 1 ≤ op) (h1 : op ≤ 19) : (bits .and .i64 (hasOf op) 1 == 0) = !(setsB op) :=
  ops19 (Q := fun op => (bits .and .i64 (hasOf op) 1 == 0) = !(setsB op)) (by decide) op h0 h1

set_option maxRecDepth 100000 in
set_option maxHeartbeats 1000000 in
theorem partsRead_any (P : List Fn) (v : Value) (x : Ins) (w : World) (ht : TabOk w) (hc : CallOk w) (hv : ProgVal w v P) (hx : InsOk P x) :
    Calls Tryd.prog 71 #[.agg #[v], x.val] w fun e w' => e = .returned (.int .i64 (partsI P x)) ∧ Below w.heap.size w w' := by
  obtain ⟨ao, b, off, n, cap, rfl, ⟨hlen, haddr, hat⟩, hcap, hmax⟩ := hv
  obtain ⟨op, dst, a, b', imm⟩ := x
  obtain ⟨o1, o2, _, _, _, _, _, _, hcall⟩ := hx
  dsimp only at o1 o2 hcall
  unfold Ins.val
  dsimp only
  by_cases h : op = 17
  · subst h
    obtain ⟨i0, i1, p0, p1⟩ := hcall rfl
    obtain ⟨k, rfl⟩ := Int.eq_ofNat_of_zero_le i0
    have hk : k < P.length := by omega
    obtain ⟨u, hu⟩ := hat k hk
    obtain rfl := haddr (by omega)
    have d0 := hu.params
    have hpa : paramsAt P (k : Int) = P[k].params := by simp [paramsAt, List.getD, hk]
    have hp : partsI P ⟨17, dst, a, b', k⟩ = (if 1 ≤ P[k].params then 2 else 0) + (if 2 ≤ P[k].params then 4 else 0) := by
      simp [partsI, rdA, rdB, hpa]
    rw [hpa] at p0 p1
    rw [hp]
    generalize P[k].params = pp at d0 p0 p1
    have hkn : (k : Int) < n := by omega
    have t0 := fun o1 => cell_alloc (cell_alloc d0 o1)
    clear hp hpa hat haddr hu hcall d0 i1 hlen
    have c0 := fun o1 => cell_alloc (cell_alloc (hc 0 (by omega)) o1)
    have c1 := fun o1 => cell_alloc (cell_alloc (hc 1 (by omega)) o1)
    have c2 := fun o1 => cell_alloc (cell_alloc (hc 2 (by omega)) o1)
    simp at c0 c1 c2
    clear hc ht
    rcases (show pp = 0 ∨ pp = 1 ∨ pp = 2 by omega) with rfl | rfl | rfl
    all_goals
      go_enter Tryd.func71, Tryd.ntmps71
      go_wp2
      go_ret
      exact ⟨rfl, ((Below.refl _ _).alloc (Nat.le_refl _) _).alloc (by simp) _⟩
  · have hp : partsI P ⟨op, dst, a, b', imm⟩ = bits .and .i64 (hasOf op) 6 := by rw [parts_has op o1 o2 h]; simp [partsI, rdA, rdB, h]
    have h' : (op == 17) = false := by simpa using h
    have hta : ∀ o o', TabOk ((w.alloc o).alloc o') := fun o o' => ht.below (((Below.refl _ _).alloc (Nat.le_refl _) _).alloc (by simp) _)
    rw [hp]
    clear hp h hcall hat haddr ht
    go_enter Tryd.func71, Tryd.ntmps71
    go_wp2_with (go_at_call 53; refine (has_any _ _ (hta _ _)).mono ?_; rintro e w' ⟨rfl, rfl⟩)
    go_ret
    exact ⟨rfl, ((Below.refl _ _).alloc (Nat.le_refl _) _).alloc (by simp) _⟩

def rdMask (P : List Fn) (x : Ins) : Nat := (if rdA P x = true then 2 ^ x.a.toNat else 0) ||| (if rdB P x = true then 2 ^ x.b.toNat else 0)
def setMask (x : Ins) : Nat := if setsB x.op = true then 2 ^ x.dst.toNat else 0
theorem setMask_lt {P : List Fn} {x : Ins} (hx : InsOk P x) : setMask x < 65536 := by
  unfold setMask
  have := two_lt x.dst.toNat (by have := hx.dst0; have := hx.dst1; omega)
  split <;> omega
theorem rdMask_lt {P : List Fn} {x : Ins} (hx : InsOk P x) : rdMask P x < 65536 := by
  unfold rdMask
  have h1 := two_lt x.a.toNat (by have := hx.a0; have := hx.a1; omega)
  have h2 := two_lt x.b.toNat (by have := hx.b0; have := hx.b1; omega)
  exact or_lt _ _ (by split <;> omega) (by split <;> omega)

set_option maxRecDepth 100000 in
theorem setBit_any (P : List Fn) (x : Ins) (w : World) (ht : TabOk w) (hx : InsOk P x) :
    Calls Tryd.prog 74 #[x.val] w fun e w' => e = .returned (.int .i64 (setMask x)) ∧ Below w.heap.size w w' := by
  obtain ⟨op, dst, a, b', imm⟩ := x
  obtain ⟨o1, o2, d0, d1, _, _, _, _, _⟩ := hx
  dsimp only at o1 o2 d0 d1
  unfold Ins.val
  dsimp only
  have hs := sets_has op o1 o2
  have hta : ∀ o, TabOk (w.alloc o) := fun o => ht.below ((Below.refl _ _).alloc (Nat.le_refl _) _)
  cases h : setsB op
  · have e : setMask ⟨op, dst, a, b', imm⟩ = 0 := by simp [setMask, h]
    rw [h] at hs
    rw [e]
    clear e h ht
    simp only [Bool.not_false] at hs
    go_enter Tryd.func74, Tryd.ntmps74
    go_wp2_with (go_at_call 53; refine (has_any _ _ (hta _)).mono ?_; rintro e w' ⟨rfl, rfl⟩)
    go_ret
    exact ⟨rfl, (Below.refl _ _).alloc (Nat.le_refl _) _⟩
  · have e : setMask ⟨op, dst, a, b', imm⟩ = 2 ^ dst.toNat := by simp [setMask, h]
    rw [h] at hs
    rw [e]
    clear e h ht
    simp only [Bool.not_true] at hs
    go_enter Tryd.func74, Tryd.ntmps74
    go_wp2_with (go_at_call 53; refine (has_any _ _ (hta _)).mono ?_; rintro e w' ⟨rfl, rfl⟩)
    go_ret
    exact ⟨ret_int (shl_one dst d0 d1), (Below.refl _ _).alloc (Nat.le_refl _) _⟩

theorem parts_lit (P : List Fn) (x : Ins) (p q : Bool) (hp : rdA P x = p) (hq : rdB P x = q) : partsI P x = (if p = true then 2 else 0) + (if q = true then 4 else 0) := by simp [partsI, hp, hq]

theorem mask_lit (P : List Fn) (x : Ins) (p q : Bool) (hp : rdA P x = p) (hq : rdB P x = q) : rdMask P x = (if p = true then 2 ^ x.a.toNat else 0) ||| (if q = true then 2 ^ x.b.toNat else 0) := by simp [rdMask, hp, hq]

set_option maxRecDepth 100000 in
set_option maxHeartbeats 1000000 in
theorem readBits_any (P : List Fn) (v : Value) (x : Ins) (w : World) (ht : TabOk w) (hc : CallOk w) (hv : ProgVal w v P) (hx : InsOk P x) :
    Calls Tryd.prog 56 #[.agg #[v], x.val] w fun e w' => e = .returned (.int .i64 (rdMask P x)) ∧ Below w.heap.size w w' := by
  have hbx : ∀ o o', Below w.heap.size w ((w.alloc o).alloc o') := fun o o' => ((Below.refl _ _).alloc (Nat.le_refl _) _).alloc (by simp) _
  have hP := fun o o' => partsRead_any P v x ((w.alloc o).alloc o') (ht.below (hbx o o')) (hc.below (hbx o o')) (hv.keeps (keeps_below (hbx o o'))) hx
  have e1 : (bits BinOp.and IntKind.i64 0 2 != 0) = false := by decide
  have e2 : (bits BinOp.and IntKind.i64 2 2 != 0) = true := by decide
  have e3 : (bits BinOp.and IntKind.i64 4 2 != 0) = false := by decide
  have e4 : (bits BinOp.and IntKind.i64 6 2 != 0) = true := by decide
  have f1 : (bits BinOp.and IntKind.i64 0 4 != 0) = false := by decide
  have f2 : (bits BinOp.and IntKind.i64 2 4 != 0) = false := by decide
  have f3 : (bits BinOp.and IntKind.i64 4 4 != 0) = true := by decide
  have f4 : (bits BinOp.and IntKind.i64 6 4 != 0) = true := by decide
  obtain ⟨ao, b, off, n, cap, rfl, _⟩ := hv
  have a0 := hx.a0
  have a1 := hx.a1
  have b0 := hx.b0
  have b1 := hx.b1
  have z1 := shl_one x.a a0 a1
  have z2 := shl_one x.b b0 b1
  have l1 := two_lt x.a.toNat (by omega)
  have l2 := two_lt x.b.toNat (by omega)
  have HA : Hid (bits .or .i64 0 (wrap64 (2 ^ x.a.toNat)) = ((2 ^ x.a.toNat : Nat) : Int)) := by
    show _ = _
    rw [z1]; exact (bits_or_nat 0 _ (by decide) l1).trans (by simp)
  have HB : Hid (bits .or .i64 0 (wrap64 (2 ^ x.b.toNat)) = ((2 ^ x.b.toNat : Nat) : Int)) := by
    show _ = _
    rw [z2]; exact (bits_or_nat 0 _ (by decide) l2).trans (by simp)
  have HC : Hid (bits .or .i64 (bits .or .i64 0 (wrap64 (2 ^ x.a.toNat))) (wrap64 (2 ^ x.b.toNat)) = ((2 ^ x.a.toNat ||| 2 ^ x.b.toNat : Nat) : Int)) := by
    show _ = _
    rw [HA.out, z2]; exact bits_or_nat _ _ l1 l2
  clear z1 z2 l1 l2 ht hc hbx
  cases hp : rdA P x <;> cases hq : rdB P x
  all_goals
    have hm := mask_lit P x _ _ hp hq
    have hz := parts_lit P x _ _ hp hq
    rw [hm]
    simp only [hz] at hP
    clear hm hz hp hq hx
    obtain ⟨op, dst, a, b', imm⟩ := x
    unfold Ins.val at hP ⊢
    dsimp only at a0 a1 b0 b1 HA HB HC hP ⊢
    go_enter Tryd.func56, Tryd.ntmps56
    go_wp2_with (go_at_call 71; refine (hP _ _).mono ?_; rintro e w1 ⟨rfl, hb1⟩; have k0 := keeps_below hb1 ⟨w.heap.size + 1, 2, none⟩ (.int .i64 a) (by simp); have k1 := keeps_below hb1 ⟨w.heap.size + 1, 3, none⟩ (.int .i64 b') (by simp))
    go_ret
    refine ⟨ret_int ?_, (((Below.refl _ _).alloc (Nat.le_refl _) _).alloc (by simp) _).trans (hb1.mono (by simp; omega))⟩
    first | exact HC.out | exact HB.out.trans (by simp) | exact HA.out.trans (by simp) | rfl

end Go.Proofs.YtepnhemlhogmgaaDoor
