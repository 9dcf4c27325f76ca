/- Contract of the engine's do, op by op (written by gen/mkdo.py). -/
import Derived.Test.YtgdmdlkhnokieaaDoorGroupD
namespace Go.Proofs.YtgdmdlkhnokieaaDoor
open Go Go.RowKit

/-- What do is handed: an engine whose last frame is at an instruction. -/
structure DoAt (w : World) (base g : Nat) (P : List Fn) (pv : Value) (S : St) (fb n cap : Nat) (ev av : Value) (fs : List Fr) (f : Fr) (x : Ins) : Prop where
  eng : EngAt w base g P pv S (.slice (some ⟨fb, 0, none⟩) n cap) ev av
  frs : S.frames = fs ++ [f]
  code : codeProg P = 0
  ins : InsOk P x
  p0 : 0 ≤ f.pc
  p1 : f.pc ≤ 1000000
/-- The two registers, read behind a box. -/
theorem DoAt.regs {w : World} {base g : Nat} {P : List Fn} {pv : Value} {S : St} {fb n cap : Nat} {ev av : Value} {fs : List Fr} {f : Fr} {x : Ins} (h : DoAt w base g P pv S fb n cap ev av fs f x) :
    ∃ ka kb : Nat, x.a = ka ∧ x.b = kb ∧ (ka : Int) < 12 ∧ (kb : Int) < 12 ∧ (∀ o, (w.alloc o).cell? ⟨fb, fs.length * 14 + 2 + ka, none⟩ = some (.int .i64 (regD f x.a))) ∧ (∀ o, (w.alloc o).cell? ⟨fb, fs.length * 14 + 2 + kb, none⟩ = some (.int .i64 (regD f x.b))) := by
  obtain ⟨ka, ha⟩ := Int.eq_ofNat_of_zero_le h.ins.a0
  obtain ⟨kb, hb⟩ := Int.eq_ofNat_of_zero_le h.ins.b0
  obtain ⟨-, -, -, -, -, l2, -⟩ := h.eng.lastCells h.frs
  have a1 := h.ins.a1
  have b1 := h.ins.b1
  refine ⟨ka, kb, ha, hb, by omega, by omega, fun o => ?_, fun o => ?_⟩
  · rw [cell_alloc (l2 ka (by omega)) o]; unfold regD; rw [ha]; rfl
  · rw [cell_alloc (l2 kb (by omega)) o]; unfold regD; rw [hb]; rfl
/-- The box of an instruction. -/
theorem box_ins (w : World) (v0 v1 v2 v3 v4 : Value) (t k : Nat) : ((w.alloc (.cells #[v0, v1, v2, v3, v4] t)).drewN k).cell? ⟨w.heap.size, 0, none⟩ = some v0 ∧ ((w.alloc (.cells #[v0, v1, v2, v3, v4] t)).drewN k).cell? ⟨w.heap.size, 1, none⟩ = some v1 ∧ ((w.alloc (.cells #[v0, v1, v2, v3, v4] t)).drewN k).cell? ⟨w.heap.size, 4, none⟩ = some v4 := by
  have e : ((w.alloc (.cells #[v0, v1, v2, v3, v4] t)).drewN k).heap[w.heap.size]? = some (.cells #[v0, v1, v2, v3, v4] t (0, 0)) :=
    ((below_drewN (Below.refl (w.heap.size + 1) (w.alloc (.cells #[v0, v1, v2, v3, v4] t))) k).block _ (Nat.lt_succ_self _)).trans (heap_alloc_last w _)
  exact ⟨by rw [cell_of_row _ _ _ _ _ _ e]; rfl, by rw [cell_of_row _ _ _ _ _ _ e]; rfl, by rw [cell_of_row _ _ _ _ _ _ e]; rfl⟩

set_option maxRecDepth 100000 in
set_option maxHeartbeats 4000000 in
theorem do_load (base g : Nat) (P : List Fn) (pv : Value) (S : St) (fb n cap : Nat) (ev av : Value) (fs : List Fr) (f : Fr) (x : Ins) (w : World) (h : DoAt w base g P pv S fb n cap ev av fs f x) (ho : x.op = 13) (m0 : 0 ≤ regD f x.a) (m1 : regD f x.a < 16) :
    Calls Tryd.prog 38 #[.pointer (some ⟨g, 0, none⟩), x.val, .pointer (some ⟨fb, fs.length * 14, none⟩)] w (EngPost base g P pv { S with frames := fs ++ [putF f x.dst (S.mem.getD (regD f x.a).toNat 0)] } w) := by
  obtain ⟨ka, kb, ha, hb, la, lb, ra, rb⟩ := h.regs
  have d0 := h.ins.dst0
  have d1 := h.ins.dst1
  have HD : Hid (∀ o k, EngAt ((w.alloc o).drewN k) base g P pv S (.slice (some ⟨fb, 0, none⟩) n cap) ev av) := fun o k => h.eng.below (below_drewN ((Below.refl _ _).alloc (Nat.le_refl _) o) k)
  have HS : Hid (S.frames = fs ++ [f]) := h.frs
  have HPC : Hid (0 ≤ f.pc ∧ f.pc ≤ 1000000) := ⟨h.p0, h.p1⟩
  have HB : Hid (∀ o k, Below base w ((w.alloc o).drewN k)) := fun o k => below_drewN ((Below.refl _ _).alloc h.eng.base o) k
  obtain ⟨va, hva⟩ := Int.eq_ofNat_of_zero_le m0
  have hvI : (va : Int) < 16 := by omega
  rw [hva] at ra ⊢
  rw [Int.toNat_natCast]
  generalize regD f x.b = vb at rb
  clear m0 m1 hva
  obtain ⟨xo, xd, xa, xb, xi⟩ := x
  dsimp only at ho ha hb d0 d1 ⊢
  subst ho ha hb
  unfold Ins.val
  dsimp only
  clear h
  go_enter Tryd.func38, Tryd.ntmps38
  go_wp2
  go_quiet (fail)
  have HW := HD.out (.cells #[.int .i64 13, .int .i64 xd, .int .i64 (ka : Int), .int .i64 (kb : Int), .int .i64 xi] 47) nq
  have HBW := HB.out (.cells #[.int .i64 13, .int .i64 xd, .int .i64 (ka : Int), .int .i64 (kb : Int), .int .i64 xi] 47) nq
  obtain ⟨b0, b1, b4⟩ := box_ins w (.int .i64 13) (.int .i64 xd) (.int .i64 (ka : Int)) (.int .i64 (kb : Int)) (.int .i64 xi) 47 nq
  generalize hWW : (w.alloc (.cells #[.int .i64 13, .int .i64 xd, .int .i64 (ka : Int), .int .i64 (kb : Int), .int .i64 xi] 47)).drewN nq = W at HW HBW b0 b1 b4
  have HZW : Hid (W.heap.size = w.heap.size + 1) := by show _ = _; rw [← hWW]; simp
  clear HD HB ra rb
  obtain ⟨-, -, -, -, -, qm, -⟩ := HW.own
  have hm := qm va (by omega)
  generalize hvm : S.mem.getD va 0 = vm at hm
  have HVM : Hid (S.mem.getD va 0 = vm) := hvm
  clear hvm
  have HE : Hid (EngAt W.drew base g P pv S (.slice (some ⟨fb, 0, none⟩) n cap) ev av) := HW.below ((Below.refl _ _).drew)
  have HBW2 : Hid (Below base w W.drew) := HBW.drew
  clear HW HBW qm hWW
  go_wp2
  go_region_with (go_at_call 50; refine (put_eng HE.out HS.out xd vm d0 d1 HPC.out.1 HPC.out.2).mono ?_; rintro e w4 ⟨rfl, he4, hb4⟩)
  all_goals
    try simp only [Exit.inBlock]
    go_end0
    rw [HVM.out]
    exact ⟨rfl, _, _, _, he4, HBW2.out.trans hb4⟩

set_option maxRecDepth 100000 in
set_option maxHeartbeats 4000000 in
theorem do_store (base g : Nat) (P : List Fn) (pv : Value) (S : St) (fb n cap : Nat) (ev av : Value) (fs : List Fr) (f : Fr) (x : Ins) (w : World) (h : DoAt w base g P pv S fb n cap ev av fs f x) (ho : x.op = 14) (m0 : 0 ≤ regD f x.a) (m1 : regD f x.a < 16) :
    Calls Tryd.prog 38 #[.pointer (some ⟨g, 0, none⟩), x.val, .pointer (some ⟨fb, fs.length * 14, none⟩)] w (EngPost base g P pv { S with mem := S.mem.set (regD f x.a).toNat (regD f x.b), frames := fs ++ [⟨f.fn, f.pc + 1, f.regs⟩] } w) := by
  obtain ⟨ka, kb, ha, hb, la, lb, ra, rb⟩ := h.regs
  have d0 := h.ins.dst0
  have d1 := h.ins.dst1
  have HD : Hid (∀ o k, EngAt ((w.alloc o).drewN k) base g P pv S (.slice (some ⟨fb, 0, none⟩) n cap) ev av) := fun o k => h.eng.below (below_drewN ((Below.refl _ _).alloc (Nat.le_refl _) o) k)
  have HS : Hid (S.frames = fs ++ [f]) := h.frs
  have HPC : Hid (0 ≤ f.pc ∧ f.pc ≤ 1000000) := ⟨h.p0, h.p1⟩
  have HB : Hid (∀ o k, Below base w ((w.alloc o).drewN k)) := fun o k => below_drewN ((Below.refl _ _).alloc h.eng.base o) k
  obtain ⟨va, hva⟩ := Int.eq_ofNat_of_zero_le m0
  have hvI : (va : Int) < 16 := by omega
  rw [hva] at ra ⊢
  rw [Int.toNat_natCast]
  generalize regD f x.b = vb at rb ⊢
  clear m0 m1 hva
  obtain ⟨xo, xd, xa, xb, xi⟩ := x
  dsimp only at ho ha hb d0 d1 ⊢
  subst ho ha hb
  unfold Ins.val
  dsimp only
  clear h
  go_enter Tryd.func38, Tryd.ntmps38
  go_wp2
  go_quiet (fail)
  have HW := HD.out (.cells #[.int .i64 14, .int .i64 xd, .int .i64 (ka : Int), .int .i64 (kb : Int), .int .i64 xi] 47) nq
  have HBW := HB.out (.cells #[.int .i64 14, .int .i64 xd, .int .i64 (ka : Int), .int .i64 (kb : Int), .int .i64 xi] 47) nq
  obtain ⟨b0, b1, b4⟩ := box_ins w (.int .i64 14) (.int .i64 xd) (.int .i64 (ka : Int)) (.int .i64 (kb : Int)) (.int .i64 xi) 47 nq
  generalize hWW : (w.alloc (.cells #[.int .i64 14, .int .i64 xd, .int .i64 (ka : Int), .int .i64 (kb : Int), .int .i64 xi] 47)).drewN nq = W at HW HBW b0 b1 b4
  have HZW : Hid (W.heap.size = w.heap.size + 1) := by show _ = _; rw [← hWW]; simp
  clear HD HB ra rb
  obtain ⟨-, -, -, -, -, qm, qf⟩ := HW.own
  have hm := qm va (by omega)
  have fm := qf (3 + va)
  have E1 := HW.put (3 + va) (.int .i64 vb) { S with mem := S.mem.set va vb } (engCells_mem _ _ _ _ va (by have := HW.mem; omega) vb) (by have := HW.mem; simpa using this) rfl rfl rfl
  obtain ⟨-, -, -, -, l1, -, cur, hcur, hsz⟩ := E1.1.lastCells HS.out
  have fp : (W.setCell ⟨g, 3 + va, none⟩ (.int .i64 vb)).frozen? ⟨fb, fs.length * 14 + 1, none⟩ = false := frozen_of_row _ _ _ _ _ hcur
  have E2 := E1.1.goes HS.out (f.pc + 1)
  have HE : Hid _ := E2.1
  have HBW2 : Hid _ := (HBW.trans E1.2).trans E2.2
  have q1 := HPC.out.1
  have q2 := HPC.out.2
  have hw : IntKind.i64.wrap (f.pc + 1) = f.pc + 1 := wrap_fits _ (by omega) (by omega)
  generalize hpc : f.pc = pc at l1 hw q1 q2 HE HBW2
  have HPE : Hid (f.pc = pc) := hpc
  clear hpc
  clear HW HBW qm qf E1 E2 hcur hsz hWW b1 b4 HPC
  go_wp2
  try simp only [Exit.inBlock, Exit.then]
  go_end0
  obtain rfl := HPE.out
  exact ⟨rfl, _, _, _, HE.out, HBW2.out⟩

set_option maxRecDepth 100000 in
set_option maxHeartbeats 4000000 in
theorem do_jump (base g : Nat) (P : List Fn) (pv : Value) (S : St) (fb n cap : Nat) (ev av : Value) (fs : List Fr) (f : Fr) (x : Ins) (w : World) (h : DoAt w base g P pv S fb n cap ev av fs f x) (ho : x.op = 15) :
    Calls Tryd.prog 38 #[.pointer (some ⟨g, 0, none⟩), x.val, .pointer (some ⟨fb, fs.length * 14, none⟩)] w (EngPost base g P pv { S with frames := fs ++ [⟨f.fn, x.imm, f.regs⟩] } w) := by
  obtain ⟨ka, kb, ha, hb, la, lb, ra, rb⟩ := h.regs
  have d0 := h.ins.dst0
  have d1 := h.ins.dst1
  have HD : Hid (∀ o k, EngAt ((w.alloc o).drewN k) base g P pv S (.slice (some ⟨fb, 0, none⟩) n cap) ev av) := fun o k => h.eng.below (below_drewN ((Below.refl _ _).alloc (Nat.le_refl _) o) k)
  have HS : Hid (S.frames = fs ++ [f]) := h.frs
  have HPC : Hid (0 ≤ f.pc ∧ f.pc ≤ 1000000) := ⟨h.p0, h.p1⟩
  have HB : Hid (∀ o k, Below base w ((w.alloc o).drewN k)) := fun o k => below_drewN ((Below.refl _ _).alloc h.eng.base o) k
  generalize regD f x.a = va at ra
  generalize regD f x.b = vb at rb
  obtain ⟨xo, xd, xa, xb, xi⟩ := x
  dsimp only at ho ha hb d0 d1 ⊢
  subst ho ha hb
  unfold Ins.val
  dsimp only
  clear h
  go_enter Tryd.func38, Tryd.ntmps38
  go_wp2
  go_quiet (fail)
  have HW := HD.out (.cells #[.int .i64 15, .int .i64 xd, .int .i64 (ka : Int), .int .i64 (kb : Int), .int .i64 xi] 47) nq
  have HBW := HB.out (.cells #[.int .i64 15, .int .i64 xd, .int .i64 (ka : Int), .int .i64 (kb : Int), .int .i64 xi] 47) nq
  obtain ⟨b0, b1, b4⟩ := box_ins w (.int .i64 15) (.int .i64 xd) (.int .i64 (ka : Int)) (.int .i64 (kb : Int)) (.int .i64 xi) 47 nq
  generalize hWW : (w.alloc (.cells #[.int .i64 15, .int .i64 xd, .int .i64 (ka : Int), .int .i64 (kb : Int), .int .i64 xi] 47)).drewN nq = W at HW HBW b0 b1 b4
  have HZW : Hid (W.heap.size = w.heap.size + 1) := by show _ = _; rw [← hWW]; simp
  clear HD HB ra rb
  obtain ⟨-, -, -, -, l1, -, cur, hcur, hsz⟩ := HW.lastCells HS.out
  have fp : W.frozen? ⟨fb, fs.length * 14 + 1, none⟩ = false := frozen_of_row _ _ _ _ _ hcur
  have E2 := HW.goes HS.out xi
  have HE : Hid _ := E2.1
  have HBW2 : Hid _ := HBW.trans E2.2
  clear HW HBW E2 hcur hsz hWW b1
  go_wp2
  try simp only [Exit.inBlock, Exit.then]
  go_end0
  exact ⟨rfl, _, _, _, HE.out, HBW2.out⟩

set_option maxRecDepth 100000 in
set_option maxHeartbeats 4000000 in
theorem do_if_no (base g : Nat) (P : List Fn) (pv : Value) (S : St) (fb n cap : Nat) (ev av : Value) (fs : List Fr) (f : Fr) (x : Ins) (w : World) (h : DoAt w base g P pv S fb n cap ev av fs f x) (ho : x.op = 16) (hz : regD f x.a = 0) :
    Calls Tryd.prog 38 #[.pointer (some ⟨g, 0, none⟩), x.val, .pointer (some ⟨fb, fs.length * 14, none⟩)] w (EngPost base g P pv { S with frames := fs ++ [⟨f.fn, f.pc + 1, f.regs⟩] } w) := by
  obtain ⟨ka, kb, ha, hb, la, lb, ra, rb⟩ := h.regs
  have d0 := h.ins.dst0
  have d1 := h.ins.dst1
  have HD : Hid (∀ o k, EngAt ((w.alloc o).drewN k) base g P pv S (.slice (some ⟨fb, 0, none⟩) n cap) ev av) := fun o k => h.eng.below (below_drewN ((Below.refl _ _).alloc (Nat.le_refl _) o) k)
  have HS : Hid (S.frames = fs ++ [f]) := h.frs
  have HPC : Hid (0 ≤ f.pc ∧ f.pc ≤ 1000000) := ⟨h.p0, h.p1⟩
  have HB : Hid (∀ o k, Below base w ((w.alloc o).drewN k)) := fun o k => below_drewN ((Below.refl _ _).alloc h.eng.base o) k
  rw [hz] at ra
  clear hz
  generalize regD f x.b = vb at rb
  obtain ⟨xo, xd, xa, xb, xi⟩ := x
  dsimp only at ho ha hb d0 d1 ⊢
  subst ho ha hb
  unfold Ins.val
  dsimp only
  clear h
  go_enter Tryd.func38, Tryd.ntmps38
  go_wp2
  go_quiet (fail)
  have HW := HD.out (.cells #[.int .i64 16, .int .i64 xd, .int .i64 (ka : Int), .int .i64 (kb : Int), .int .i64 xi] 47) nq
  have HBW := HB.out (.cells #[.int .i64 16, .int .i64 xd, .int .i64 (ka : Int), .int .i64 (kb : Int), .int .i64 xi] 47) nq
  obtain ⟨b0, b1, b4⟩ := box_ins w (.int .i64 16) (.int .i64 xd) (.int .i64 (ka : Int)) (.int .i64 (kb : Int)) (.int .i64 xi) 47 nq
  generalize hWW : (w.alloc (.cells #[.int .i64 16, .int .i64 xd, .int .i64 (ka : Int), .int .i64 (kb : Int), .int .i64 xi] 47)).drewN nq = W at HW HBW b0 b1 b4
  have HZW : Hid (W.heap.size = w.heap.size + 1) := by show _ = _; rw [← hWW]; simp
  clear HD HB ra rb
  obtain ⟨-, -, -, -, l1, -, cur, hcur, hsz⟩ := HW.lastCells HS.out
  have fp : W.frozen? ⟨fb, fs.length * 14 + 1, none⟩ = false := frozen_of_row _ _ _ _ _ hcur
  have E2 := HW.goes HS.out (f.pc + 1)
  have q1 := HPC.out.1
  have q2 := HPC.out.2
  have hw : IntKind.i64.wrap (f.pc + 1) = f.pc + 1 := wrap_fits _ (by omega) (by omega)
  have HE : Hid _ := E2.1
  have HBW2 : Hid _ := HBW.trans E2.2
  generalize hpc : f.pc = pc at l1 hw q1 q2 HE HBW2 
  have HPE : Hid (f.pc = pc) := hpc
  clear hpc
  clear HW HBW E2 hcur hsz hWW b1 HPC
  go_wp2
  try simp only [Exit.inBlock, Exit.then]
  go_end0
  obtain rfl := HPE.out
  exact ⟨rfl, _, _, _, HE.out, HBW2.out⟩

set_option maxRecDepth 100000 in
set_option maxHeartbeats 4000000 in
theorem do_if_yes (base g : Nat) (P : List Fn) (pv : Value) (S : St) (fb n cap : Nat) (ev av : Value) (fs : List Fr) (f : Fr) (x : Ins) (w : World) (h : DoAt w base g P pv S fb n cap ev av fs f x) (ho : x.op = 16) (hz : ¬ regD f x.a = 0) :
    Calls Tryd.prog 38 #[.pointer (some ⟨g, 0, none⟩), x.val, .pointer (some ⟨fb, fs.length * 14, none⟩)] w (EngPost base g P pv { S with frames := fs ++ [⟨f.fn, x.imm, f.regs⟩] } w) := by
  obtain ⟨ka, kb, ha, hb, la, lb, ra, rb⟩ := h.regs
  have d0 := h.ins.dst0
  have d1 := h.ins.dst1
  have HD : Hid (∀ o k, EngAt ((w.alloc o).drewN k) base g P pv S (.slice (some ⟨fb, 0, none⟩) n cap) ev av) := fun o k => h.eng.below (below_drewN ((Below.refl _ _).alloc (Nat.le_refl _) o) k)
  have HS : Hid (S.frames = fs ++ [f]) := h.frs
  have HPC : Hid (0 ≤ f.pc ∧ f.pc ≤ 1000000) := ⟨h.p0, h.p1⟩
  have HB : Hid (∀ o k, Below base w ((w.alloc o).drewN k)) := fun o k => below_drewN ((Below.refl _ _).alloc h.eng.base o) k
  have HFB : Hid (fb < w.heap.size) := (h.eng.frames.lt fb rfl).2
  generalize regD f x.a = va at ra hz
  generalize regD f x.b = vb at rb
  obtain ⟨xo, xd, xa, xb, xi⟩ := x
  dsimp only at ho ha hb d0 d1 ⊢
  subst ho ha hb
  unfold Ins.val
  dsimp only
  clear h
  go_enter Tryd.func38, Tryd.ntmps38
  go_wp2
  go_quiet (fail)
  have HW := HD.out (.cells #[.int .i64 16, .int .i64 xd, .int .i64 (ka : Int), .int .i64 (kb : Int), .int .i64 xi] 47) nq
  have HBW := HB.out (.cells #[.int .i64 16, .int .i64 xd, .int .i64 (ka : Int), .int .i64 (kb : Int), .int .i64 xi] 47) nq
  obtain ⟨b0, b1, b4⟩ := box_ins w (.int .i64 16) (.int .i64 xd) (.int .i64 (ka : Int)) (.int .i64 (kb : Int)) (.int .i64 xi) 47 nq
  generalize hWW : (w.alloc (.cells #[.int .i64 16, .int .i64 xd, .int .i64 (ka : Int), .int .i64 (kb : Int), .int .i64 xi] 47)).drewN nq = W at HW HBW b0 b1 b4
  have HZW : Hid (W.heap.size = w.heap.size + 1) := by show _ = _; rw [← hWW]; simp
  clear HD HB ra rb
  obtain ⟨-, -, -, -, l1, -, cur, hcur, hsz⟩ := HW.lastCells HS.out
  have fp : W.frozen? ⟨fb, fs.length * 14 + 1, none⟩ = false := frozen_of_row _ _ _ _ _ hcur
  have E2 := HW.goes HS.out (f.pc + 1)
  have q1 := HPC.out.1
  have q2 := HPC.out.2
  have hw : IntKind.i64.wrap (f.pc + 1) = f.pc + 1 := wrap_fits _ (by omega) (by omega)
  have HNB : Hid (w.heap.size ≠ fb) := by have := (HW.frames.lt fb rfl).2; have := HZW.out; have := HFB.out; show _ ≠ _; omega
  have E3 := E2.1.goes (fs := fs) (f := ⟨f.fn, f.pc + 1, f.regs⟩) rfl xi
  obtain ⟨-, -, -, -, k1, -, cur2, hcur2, -⟩ := E2.1.lastCells (fs := fs) (f := ⟨f.fn, f.pc + 1, f.regs⟩) rfl
  have fp2 : (W.setCell ⟨fb, fs.length * 14 + 1, none⟩ (.int .i64 (f.pc + 1))).frozen? ⟨fb, fs.length * 14 + 1, none⟩ = false := frozen_of_row _ _ _ _ _ hcur2
  have kb4 : (W.setCell ⟨fb, fs.length * 14 + 1, none⟩ (.int .i64 (f.pc + 1))).cell? ⟨w.heap.size, 4, none⟩ = some (.int .i64 xi) := cell_setCell_other b4 (by have := HNB.out; exact this)
  dsimp only at k1
  have HE : Hid _ := E3.1
  have HBW2 : Hid _ := (HBW.trans E2.2).trans E3.2
  generalize hpc : f.pc = pc at l1 hw q1 q2 HE HBW2 k1 fp2 kb4
  have HPE : Hid (f.pc = pc) := hpc
  clear hpc
  clear HW HBW E2 E3 hcur2 hcur hsz hWW b1 HPC
  go_wp2
  try simp only [Exit.inBlock, Exit.then]
  go_end0
  obtain rfl := HPE.out
  exact ⟨rfl, _, _, _, HE.out, HBW2.out⟩

set_option maxRecDepth 100000 in
set_option maxHeartbeats 4000000 in
theorem do_deep (base g : Nat) (P : List Fn) (pv : Value) (S : St) (fb n cap : Nat) (ev av : Value) (fs : List Fr) (f : Fr) (x : Ins) (w : World) (h : DoAt w base g P pv S fb n cap ev av fs f x) (ho : x.op = 17) (h8 : fs.length + 1 = 8) :
    Calls Tryd.prog 38 #[.pointer (some ⟨g, 0, none⟩), x.val, .pointer (some ⟨fb, fs.length * 14, none⟩)] w (EngPost base g P pv { S with status := 5 } w) := by
  obtain ⟨ka, kb, ha, hb, la, lb, ra, rb⟩ := h.regs
  have d0 := h.ins.dst0
  have d1 := h.ins.dst1
  have HD : Hid (∀ o k, EngAt ((w.alloc o).drewN k) base g P pv S (.slice (some ⟨fb, 0, none⟩) n cap) ev av) := fun o k => h.eng.below (below_drewN ((Below.refl _ _).alloc (Nat.le_refl _) o) k)
  have HS : Hid (S.frames = fs ++ [f]) := h.frs
  have HPC : Hid (0 ≤ f.pc ∧ f.pc ≤ 1000000) := ⟨h.p0, h.p1⟩
  have HB : Hid (∀ o k, Below base w ((w.alloc o).drewN k)) := fun o k => below_drewN ((Below.refl _ _).alloc h.eng.base o) k
  obtain ⟨i0, i1, -, -⟩ := h.ins.call ho
  have hlen : S.frames.length = fs.length + 1 := by rw [h.frs]; simp
  have hcode := h.code
  obtain ⟨k, hkk⟩ := Int.eq_ofNat_of_zero_le i0
  have hk : k < P.length := by omega
  have ef : fnD P x.imm = P[k] := by rw [hkk]; unfold fnD; simp [List.getD, hk]
  generalize regD f x.a = va at ra 
  generalize regD f x.b = vb at rb 
  clear ef
  obtain ⟨xo, xd, xa, xb, xi⟩ := x
  dsimp only at ho hkk ha hb d0 d1 ⊢
  subst ho ha hb hkk
  unfold Ins.val
  dsimp only
  clear h
  go_enter Tryd.func38, Tryd.ntmps38
  go_wp2
  go_quiet (fail)
  have HW := HD.out (.cells #[.int .i64 17, .int .i64 xd, .int .i64 (ka : Int), .int .i64 (kb : Int), .int .i64 (k : Int)] 47) nq
  have HBW := HB.out (.cells #[.int .i64 17, .int .i64 xd, .int .i64 (ka : Int), .int .i64 (kb : Int), .int .i64 (k : Int)] 47) nq
  obtain ⟨b0, b1, b4⟩ := box_ins w (.int .i64 17) (.int .i64 xd) (.int .i64 (ka : Int)) (.int .i64 (kb : Int)) (.int .i64 (k : Int)) 47 nq
  generalize hWW : (w.alloc (.cells #[.int .i64 17, .int .i64 xd, .int .i64 (ka : Int), .int .i64 (kb : Int), .int .i64 (k : Int)] 47)).drewN nq = W at HW HBW b0 b1 b4
  have HZW : Hid (W.heap.size = w.heap.size + 1) := by show _ = _; rw [← hWW]; simp
  clear HD HB ra rb
  have HE : Hid (EngAt W base g P pv S (.slice (some ⟨fb, 0, none⟩) n cap) ev av) := HW
  have HBW2 : Hid (Below base w W) := HBW
  have HK : Hid (S.frames.length = 8) := by show _ = _; omega
  clear HW HBW hWW b1 hcode hlen h8 i0 i1
  go_wp2_with (go_at_call 51; refine (call_deep base g P pv S _ ev av k va vb _ HE.out HK.out).mono ?_; rintro e w4 ⟨rfl, fv4, ev4, av4, he4, hb4⟩)
  try simp only [Exit.inBlock, Exit.then]
  go_end0
  exact ⟨rfl, _, _, _, he4, HBW2.out.trans hb4⟩

set_option maxRecDepth 100000 in
set_option maxHeartbeats 4000000 in
theorem do_call (base g : Nat) (P : List Fn) (pv : Value) (S : St) (fb n cap : Nat) (ev av : Value) (fs : List Fr) (f : Fr) (x : Ins) (w : World) (h : DoAt w base g P pv S fb n cap ev av fs f x) (ho : x.op = 17) (h8 : ¬ fs.length + 1 = 8) (h9 : S.frames.length ≤ 8) :
    Calls Tryd.prog 38 #[.pointer (some ⟨g, 0, none⟩), x.val, .pointer (some ⟨fb, fs.length * 14, none⟩)] w (EngPost base g P pv { S with frames := fs ++ [f, begunFr x.imm ([regD f x.a, regD f x.b].take (fnD P x.imm).params.toNat)] } w) := by
  obtain ⟨ka, kb, ha, hb, la, lb, ra, rb⟩ := h.regs
  have d0 := h.ins.dst0
  have d1 := h.ins.dst1
  have HD : Hid (∀ o k, EngAt ((w.alloc o).drewN k) base g P pv S (.slice (some ⟨fb, 0, none⟩) n cap) ev av) := fun o k => h.eng.below (below_drewN ((Below.refl _ _).alloc (Nat.le_refl _) o) k)
  have HS : Hid (S.frames = fs ++ [f]) := h.frs
  have HPC : Hid (0 ≤ f.pc ∧ f.pc ≤ 1000000) := ⟨h.p0, h.p1⟩
  have HB : Hid (∀ o k, Below base w ((w.alloc o).drewN k)) := fun o k => below_drewN ((Below.refl _ _).alloc h.eng.base o) k
  obtain ⟨i0, i1, -, -⟩ := h.ins.call ho
  have hlen : S.frames.length = fs.length + 1 := by rw [h.frs]; simp
  have hcode := h.code
  obtain ⟨k, hkk⟩ := Int.eq_ofNat_of_zero_le i0
  have hk : k < P.length := by omega
  have ef : fnD P x.imm = P[k] := by rw [hkk]; unfold fnD; simp [List.getD, hk]
  rw [ef]
  generalize regD f x.a = va at ra ⊢
  generalize regD f x.b = vb at rb ⊢
  clear ef
  obtain ⟨xo, xd, xa, xb, xi⟩ := x
  dsimp only at ho hkk ha hb d0 d1 ⊢
  subst ho ha hb hkk
  unfold Ins.val
  dsimp only
  clear h
  go_enter Tryd.func38, Tryd.ntmps38
  go_wp2
  go_quiet (fail)
  have HW := HD.out (.cells #[.int .i64 17, .int .i64 xd, .int .i64 (ka : Int), .int .i64 (kb : Int), .int .i64 (k : Int)] 47) nq
  have HBW := HB.out (.cells #[.int .i64 17, .int .i64 xd, .int .i64 (ka : Int), .int .i64 (kb : Int), .int .i64 (k : Int)] 47) nq
  obtain ⟨b0, b1, b4⟩ := box_ins w (.int .i64 17) (.int .i64 xd) (.int .i64 (ka : Int)) (.int .i64 (kb : Int)) (.int .i64 (k : Int)) 47 nq
  generalize hWW : (w.alloc (.cells #[.int .i64 17, .int .i64 xd, .int .i64 (ka : Int), .int .i64 (kb : Int), .int .i64 (k : Int)] 47)).drewN nq = W at HW HBW b0 b1 b4
  have HZW : Hid (W.heap.size = w.heap.size + 1) := by show _ = _; rw [← hWW]; simp
  clear HD HB ra rb
  have HE : Hid (EngAt W base g P pv S (.slice (some ⟨fb, 0, none⟩) n cap) ev av) := HW
  have HBW2 : Hid (Below base w W) := HBW
  have HK : Hid (codeProg P = 0 ∧ k < P.length ∧ ¬ S.frames.length = 8 ∧ S.frames.length ≤ 8) := ⟨hcode, hk, by omega, h9⟩
  clear h9
  clear HW HBW hWW b1 hcode hlen h8 i0 i1
  go_wp2_with (go_at_call 51; refine (call_more base g P pv S _ ev av k va vb _ HE.out HK.out.1 HK.out.2.1 HK.out.2.2.1 HK.out.2.2.2).mono ?_; rintro e w4 ⟨rfl, fv4, ev4, av4, he4, hb4⟩)
  try simp only [Exit.inBlock, Exit.then]
  go_end0
  have e : ∀ g0 : Fr, S.frames ++ [g0] = fs ++ [f, g0] := fun g0 => by rw [HS.out]; simp
  rw [e] at he4
  exact ⟨rfl, fv4, ev4, av4, he4, HBW2.out.trans hb4⟩

set_option maxRecDepth 100000 in
set_option maxHeartbeats 4000000 in
theorem do_host (base g : Nat) (P : List Fn) (pv : Value) (S : St) (fb n cap : Nat) (ev av : Value) (fs : List Fr) (f : Fr) (x : Ins) (w : World) (h : DoAt w base g P pv S fb n cap ev av fs f x) (ho : x.op = 18) (he : S.events.length * 8 + 8 ≤ 140737488355328) :
    Calls Tryd.prog 38 #[.pointer (some ⟨g, 0, none⟩), x.val, .pointer (some ⟨fb, fs.length * 14, none⟩)] w (EngPost base g P pv { S with events := S.events ++ [regD f x.a], answers := S.answers.tail, frames := fs ++ [putF f x.dst (S.answers.headD 0)] } w) := by
  obtain ⟨ka, kb, ha, hb, la, lb, ra, rb⟩ := h.regs
  have d0 := h.ins.dst0
  have d1 := h.ins.dst1
  have HD : Hid (∀ o k, EngAt ((w.alloc o).drewN k) base g P pv S (.slice (some ⟨fb, 0, none⟩) n cap) ev av) := fun o k => h.eng.below (below_drewN ((Below.refl _ _).alloc (Nat.le_refl _) o) k)
  have HS : Hid (S.frames = fs ++ [f]) := h.frs
  have HPC : Hid (0 ≤ f.pc ∧ f.pc ≤ 1000000) := ⟨h.p0, h.p1⟩
  have HB : Hid (∀ o k, Below base w ((w.alloc o).drewN k)) := fun o k => below_drewN ((Below.refl _ _).alloc h.eng.base o) k
  have HNE : Hid (w.heap.size ≠ g ∧ some w.heap.size ≠ ev.ownBlock) := ⟨by have := lt_of_block h.eng.cells; omega, fun e => by have := (h.eng.events.lt _ e.symm).2; omega⟩
  generalize regD f x.a = va at ra ⊢
  generalize regD f x.b = vb at rb
  obtain ⟨xo, xd, xa, xb, xi⟩ := x
  dsimp only at ho ha hb d0 d1 ⊢
  subst ho ha hb
  unfold Ins.val
  dsimp only
  clear h
  go_enter Tryd.func38, Tryd.ntmps38
  go_wp2
  go_quiet (fail)
  have HW := HD.out (.cells #[.int .i64 18, .int .i64 xd, .int .i64 (ka : Int), .int .i64 (kb : Int), .int .i64 xi] 47) nq
  have HBW := HB.out (.cells #[.int .i64 18, .int .i64 xd, .int .i64 (ka : Int), .int .i64 (kb : Int), .int .i64 xi] 47) nq
  obtain ⟨b0, b1, b4⟩ := box_ins w (.int .i64 18) (.int .i64 xd) (.int .i64 (ka : Int)) (.int .i64 (kb : Int)) (.int .i64 xi) 47 nq
  generalize hWW : (w.alloc (.cells #[.int .i64 18, .int .i64 xd, .int .i64 (ka : Int), .int .i64 (kb : Int), .int .i64 xi] 47)).drewN nq = W at HW HBW b0 b1 b4
  have HZW : Hid (W.heap.size = w.heap.size + 1) := by show _ = _; rw [← hWW]; simp
  clear HD HB ra rb
  have HE : Hid (EngAt W.drew base g P pv S (.slice (some ⟨fb, 0, none⟩) n cap) ev av) := HW.below ((Below.refl _ _).drew)
  have HBW2 : Hid (Below base w W.drew) := HBW.drew
  have HEV : Hid (S.events.length * 8 + 8 ≤ 140737488355328) := he
  clear HW HBW hWW he
  go_wp2
  go_region_with (first
    | (go_at_call 52; refine (tell_any base g P pv S _ ev av va _ HE.out HEV.out).mono ?_; rintro e w2 ⟨ev2, av2, rfl, he2, hb2, hk2⟩; have c1 : w2.cell? ⟨w.heap.size, 1, none⟩ = some (.int .i64 xd) := ((World.cell?_of_block (hk2 w.heap.size (by show w.heap.size < W.heap.size; have := HZW.out; omega) HNE.out.1 HNE.out.2)).trans b1); have HE2 : Hid _ := he2; have HB2 : Hid _ := hb2; clear hk2 he2 hb2)
    | (go_at_call 50; refine (put_eng HE2.out HS.out xd _ d0 d1 HPC.out.1 HPC.out.2).mono ?_; rintro e w4 ⟨rfl, he4, hb4⟩))
  all_goals
    try simp only [Exit.inBlock]
    go_end0
    rw [List.headD_eq_head?_getD]
    exact ⟨rfl, _, _, _, he4, (HBW2.out.trans HB2.out).trans hb4⟩

set_option maxRecDepth 100000 in
set_option maxHeartbeats 4000000 in
theorem do_ret (base g : Nat) (P : List Fn) (pv : Value) (S : St) (fb n cap : Nat) (ev av : Value) (fs : List Fr) (f : Fr) (x : Ins) (w : World) (h : DoAt w base g P pv S fb n cap ev av fs f x) (ho : x.op = 19) (hp : ∀ c, fs.getLast? = some c → placeB P c = true) :
    Calls Tryd.prog 38 #[.pointer (some ⟨g, 0, none⟩), x.val, .pointer (some ⟨fb, fs.length * 14, none⟩)] w (EngPost base g P pv (retS P S fs (regD f x.a)) w) := by
  obtain ⟨ka, kb, ha, hb, la, lb, ra, rb⟩ := h.regs
  have d0 := h.ins.dst0
  have d1 := h.ins.dst1
  have HD : Hid (∀ o k, EngAt ((w.alloc o).drewN k) base g P pv S (.slice (some ⟨fb, 0, none⟩) n cap) ev av) := fun o k => h.eng.below (below_drewN ((Below.refl _ _).alloc (Nat.le_refl _) o) k)
  have HS : Hid (S.frames = fs ++ [f]) := h.frs
  have HPC : Hid (0 ≤ f.pc ∧ f.pc ≤ 1000000) := ⟨h.p0, h.p1⟩
  have HB : Hid (∀ o k, Below base w ((w.alloc o).drewN k)) := fun o k => below_drewN ((Below.refl _ _).alloc h.eng.base o) k
  have hcode := h.code
  generalize regD f x.a = va at ra ⊢
  generalize regD f x.b = vb at rb
  obtain ⟨xo, xd, xa, xb, xi⟩ := x
  dsimp only at ho ha hb d0 d1 ⊢
  subst ho ha hb
  unfold Ins.val
  dsimp only
  clear h
  go_enter Tryd.func38, Tryd.ntmps38
  go_wp2
  go_quiet (fail)
  have HW := HD.out (.cells #[.int .i64 19, .int .i64 xd, .int .i64 (ka : Int), .int .i64 (kb : Int), .int .i64 xi] 47) nq
  have HBW := HB.out (.cells #[.int .i64 19, .int .i64 xd, .int .i64 (ka : Int), .int .i64 (kb : Int), .int .i64 xi] 47) nq
  obtain ⟨b0, b1, b4⟩ := box_ins w (.int .i64 19) (.int .i64 xd) (.int .i64 (ka : Int)) (.int .i64 (kb : Int)) (.int .i64 xi) 47 nq
  generalize hWW : (w.alloc (.cells #[.int .i64 19, .int .i64 xd, .int .i64 (ka : Int), .int .i64 (kb : Int), .int .i64 xi] 47)).drewN nq = W at HW HBW b0 b1 b4
  have HZW : Hid (W.heap.size = w.heap.size + 1) := by show _ = _; rw [← hWW]; simp
  clear HD HB ra rb
  have HE : Hid (EngAt W base g P pv S (.slice (some ⟨fb, 0, none⟩) n cap) ev av) := HW
  have HBW2 : Hid (Below base w W) := HBW
  have HRT : Hid (Calls Tryd.prog 53 #[.pointer (some ⟨g, 0, none⟩), .int .i64 va] W (EngPost base g P pv (retS P S fs va) W)) := by
    unfold retS
    cases hl : fs.getLast? with
    | none =>
      have hn : fs = [] := List.getLast?_eq_none_iff.1 hl
      have hSf := HS.out
      rw [hn] at hSf
      exact ret_last base g P pv S _ ev av f va W HW hSf
    | some c =>
      have hSf := HS.out
      have e := snoc_of_last hl
      generalize fs.dropLast = gs at e ⊢
      subst e
      exact ret_more base g P pv S _ ev av gs c f va W HW hSf hcode (hp c hl)
  clear HW HBW hWW b1 hcode hp
  go_wp2_with (go_at_call 53; refine HRT.out.mono ?_; rintro e w4 ⟨rfl, fv4, ev4, av4, he4, hb4⟩)
  try simp only [Exit.inBlock, Exit.then]
  go_end0
  exact ⟨rfl, _, _, _, he4, HBW2.out.trans hb4⟩

set_option maxRecDepth 100000 in
set_option maxHeartbeats 4000000 in
theorem do_make (base g : Nat) (P : List Fn) (pv : Value) (S : St) (fb n cap : Nat) (ev av : Value) (fs : List Fr) (f : Fr) (x : Ins) (w : World) (h : DoAt w base g P pv S fb n cap ev av fs f x) (n13 : ¬ x.op = 13) (n14 : ¬ x.op = 14) (n15 : ¬ x.op = 15) (n16 : ¬ x.op = 16) (n17 : ¬ x.op = 17) (n18 : ¬ x.op = 18) (n19 : ¬ x.op = 19) :
    Calls Tryd.prog 38 #[.pointer (some ⟨g, 0, none⟩), x.val, .pointer (some ⟨fb, fs.length * 14, none⟩)] w (EngPost base g P pv { S with frames := fs ++ [putF f x.dst (mk x.op (regD f x.a) (regD f x.b) x.imm)] } w) := by
  obtain ⟨ka, kb, ha, hb, la, lb, ra, rb⟩ := h.regs
  have d0 := h.ins.dst0
  have d1 := h.ins.dst1
  have HD : Hid (∀ o k, EngAt ((w.alloc o).drewN k) base g P pv S (.slice (some ⟨fb, 0, none⟩) n cap) ev av) := fun o k => h.eng.below (below_drewN ((Below.refl _ _).alloc (Nat.le_refl _) o) k)
  have HS : Hid (S.frames = fs ++ [f]) := h.frs
  have HPC : Hid (0 ≤ f.pc ∧ f.pc ≤ 1000000) := ⟨h.p0, h.p1⟩
  have HB : Hid (∀ o k, Below base w ((w.alloc o).drewN k)) := fun o k => below_drewN ((Below.refl _ _).alloc h.eng.base o) k
  generalize regD f x.a = va at ra ⊢
  generalize regD f x.b = vb at rb ⊢
  obtain ⟨xo, xd, xa, xb, xi⟩ := x
  dsimp only at n13 n14 n15 n16 n17 n18 n19 ha hb d0 d1 ⊢
  subst ha hb
  unfold Ins.val
  dsimp only
  clear h
  go_enter Tryd.func38, Tryd.ntmps38
  go_wp2
  go_quiet (fail)
  have HW := HD.out (.cells #[.int .i64 xo, .int .i64 xd, .int .i64 (ka : Int), .int .i64 (kb : Int), .int .i64 xi] 47) nq
  have HBW := HB.out (.cells #[.int .i64 xo, .int .i64 xd, .int .i64 (ka : Int), .int .i64 (kb : Int), .int .i64 xi] 47) nq
  obtain ⟨b0, b1, b4⟩ := box_ins w (.int .i64 xo) (.int .i64 xd) (.int .i64 (ka : Int)) (.int .i64 (kb : Int)) (.int .i64 xi) 47 nq
  generalize hWW : (w.alloc (.cells #[.int .i64 xo, .int .i64 xd, .int .i64 (ka : Int), .int .i64 (kb : Int), .int .i64 xi] 47)).drewN nq = W at HW HBW b0 b1 b4
  have HZW : Hid (W.heap.size = w.heap.size + 1) := by show _ = _; rw [← hWW]; simp
  clear HD HB ra rb
  have HE : Hid (EngAt W base g P pv S (.slice (some ⟨fb, 0, none⟩) n cap) ev av) := HW
  have HBW2 : Hid (Below base w W) := HBW
  clear HW HBW hWW
  go_wp2_with (first
    | (go_at_call 54; refine (make_any xo va vb xi _).mono ?_; rintro e w2 ⟨rfl, hw2⟩; replace hw2 := hw2.symm; subst hw2)
    | (go_at_call 50; refine (put_eng HE.out HS.out xd _ d0 d1 HPC.out.1 HPC.out.2).mono ?_; rintro e w4 ⟨rfl, he4, hb4⟩))
  try simp only [Exit.inBlock, Exit.then]
  go_end0
  exact ⟨rfl, _, _, _, he4, HBW2.out.trans hb4⟩

/-- The whole of it. -/
theorem do_any (base g : Nat) (P : List Fn) (pv : Value) (S : St) (fb n cap : Nat) (ev av : Value) (fs : List Fr) (f : Fr) (x : Ins) (w : World) (h : DoAt w base g P pv S fb n cap ev av fs f x) (hb : barredI x (regD f x.a) (regD f x.b) = 0) (h9 : S.frames.length ≤ 8) (he : S.events.length * 8 + 8 ≤ 140737488355328) (hp : ∀ c, fs.getLast? = some c → placeB P c = true) :
    Calls Tryd.prog 38 #[.pointer (some ⟨g, 0, none⟩), x.val, .pointer (some ⟨fb, fs.length * 14, none⟩)] w (EngPost base g P pv (doS P S fs f x) w) := by
  have hm : x.op = 13 ∨ x.op = 14 → 0 ≤ regD f x.a ∧ regD f x.a < 16 := by
    intro ho
    unfold barredI at hb
    rw [if_neg (by omega), if_pos ho] at hb
    by_cases hc : regD f x.a < 0 ∨ 16 ≤ regD f x.a
    · rw [if_pos hc] at hb; cases hb
    · omega
  unfold doS
  by_cases h13 : x.op = 13
  · rw [if_pos h13]; exact do_load base g P pv S fb n cap ev av fs f x w h h13 (hm (Or.inl h13)).1 (hm (Or.inl h13)).2
  rw [if_neg h13]
  by_cases h14 : x.op = 14
  · rw [if_pos h14]; exact do_store base g P pv S fb n cap ev av fs f x w h h14 (hm (Or.inr h14)).1 (hm (Or.inr h14)).2
  rw [if_neg h14]
  by_cases h15 : x.op = 15
  · rw [if_pos h15]; exact do_jump base g P pv S fb n cap ev av fs f x w h h15
  rw [if_neg h15]
  by_cases h16 : x.op = 16
  · rw [if_pos h16]
    by_cases hz : regD f x.a = 0
    · rw [if_pos hz]; exact do_if_no base g P pv S fb n cap ev av fs f x w h h16 hz
    · rw [if_neg hz]; exact do_if_yes base g P pv S fb n cap ev av fs f x w h h16 hz
  rw [if_neg h16]
  by_cases h17 : x.op = 17
  · rw [if_pos h17]
    by_cases h8 : fs.length + 1 = 8
    · rw [if_pos h8]; exact do_deep base g P pv S fb n cap ev av fs f x w h h17 h8
    · rw [if_neg h8]; exact do_call base g P pv S fb n cap ev av fs f x w h h17 h8 h9
  rw [if_neg h17]
  by_cases h18 : x.op = 18
  · rw [if_pos h18]; exact do_host base g P pv S fb n cap ev av fs f x w h h18 he
  rw [if_neg h18]
  by_cases h19 : x.op = 19
  · rw [if_pos h19]; exact do_ret base g P pv S fb n cap ev av fs f x w h h19 hp
  rw [if_neg h19]
  exact do_make base g P pv S fb n cap ev av fs f x w h h13 h14 h15 h16 h17 h18 h19
end Go.Proofs.YtgdmdlkhnokieaaDoor
