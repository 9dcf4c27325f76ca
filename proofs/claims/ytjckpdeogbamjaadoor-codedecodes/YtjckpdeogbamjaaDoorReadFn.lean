/- Contracts of code.reader's function: three bytes, and twelve for each instruction; where there are fewer it gives up. -/
import Derived.Test.YtjckpdeogbamjaaDoorReadIns
import Derived.Test.YtjckpdeogbamjaaDoorEncode
import Derived.Deep.RegionWith
import Derived.BigRegion
import Derived.Deep.RegionHeld3
import Derived.Deep.AppendLies
import Derived.Deep.RegionLaw
import Derived.Deep.DeepCutAuto
import Derived.Deep.LoopGhost
namespace Go.Proofs.YtjckpdeogbamjaaDoor
open Go Go.RowKit

def insList (l : List Int) (at_ k : Nat) : List Ins := (List.range k).map fun j => insOf l (at_ + 12 * j)
theorem insList_succ (l : List Int) (at_ k : Nat) : insList l at_ (k + 1) = insList l at_ k ++ [insOf l (at_ + 12 * k)] := by simp [insList, List.range_succ]
def fnOf (l : List Int) (at_ : Nat) : Fn := ⟨l.getD at_ 0, l.getD (at_ + 1) 0, insList l (at_ + 3) (l.getD (at_ + 2) 0).toNat⟩

/-- What a row owns stays, whatever the reader does. -/
theorem own_moved {w w' : World} {R base t size n : Nat} {v : Value} {xs : List Value} (h : w.ownsRow base t size v n xs) (hg : w.grownBy w' (some R)) (hR : R < base) : w'.ownsRow base t size v n xs :=
  h.kept hg (by
    cases hv : v.ownBlock with
    | none => exact Or.inl rfl
    | some k => right; have := (h.lt k hv).1; simp; omega)

/-- One instruction more was read, and laid beside the others. -/
theorem rf_step {w wr w1 w4 : World} {R F tI tF k : Nat} {p r vc v4 : Value} {xs ys : List Value} {o oZ : Obj} {ao : Option Addr} {b off n cap at' : Nat} {l : List Int} (hF : w.heap.size < F) (hRF : R < w.heap.size) (hbw : 0 < n → b < w.heap.size)
    (hz : wr.heap[w.heap.size]? = some oZ) (hf : wr.heap[F]? = some (.cells #[p, r, vc] tF)) (hown : wr.ownsRow (F + 1) tI 5 vc k xs) (hg : w.grownBy wr (some R)) (hg1 : wr.grownBy w1 (some R)) (hr1 : RD w1 R ao b off n cap at' l)
    (hg4 : (w1.alloc o).grownBy w4 vc.ownBlock) (hown4 : w4.ownsRow (F + 1) tI 5 v4 (k + 1) ys) :
    w4.heap[F]? = some (.cells #[p, r, vc] tF) ∧ (w4.setCell ⟨F, 2, none⟩ v4).heap[w.heap.size]? = some oZ ∧ (w4.setCell ⟨F, 2, none⟩ v4).heap[F]? = some (.cells #[p, r, v4] tF) ∧
      (w4.setCell ⟨F, 2, none⟩ v4).ownsRow (F + 1) tI 5 v4 (k + 1) ys ∧ w.grownBy (w4.setCell ⟨F, 2, none⟩ v4) (some R) ∧ RD (w4.setCell ⟨F, 2, none⟩ v4) R ao b off n cap at' l := by
  have hrow : ∀ j, vc.ownBlock = some j → F + 1 ≤ j := fun j hj => (hown.lt j hj).1
  have keep1 : ∀ j ob, j ≠ R → wr.heap[j]? = some ob → w1.heap[j]? = some ob := fun j ob hj hob => (hg1.block j (lt_of_block hob) (by simpa using hj)).trans hob
  have keep4 : ∀ j ob, j < F + 1 → w1.heap[j]? = some ob → w4.heap[j]? = some ob := fun j ob hj hob =>
    (hg4.block j (by have := lt_of_block hob; simp; omega) (fun e => by have := hrow j e.symm; omega)).trans ((heap_alloc_old _ _ (lt_of_block hob)).trans hob)
  have e4 := keep4 _ _ (by omega) (keep1 _ _ (by omega) hf)
  have g4 : w1.grownBy w4 vc.ownBlock := ⟨hg4.os, hg4.tape, hg4.output, Nat.le_trans (by simp) hg4.size, fun i hi hr => (hg4.block i (by simp; omega) hr).trans (heap_alloc_old _ _ hi)⟩
  refine ⟨e4, ?_, ?_, ownsRow_setCell_below hown4 (by simp) _, ?_, ?_⟩
  · rw [Below.heap_setCell _ _ _ _ (by simp; omega)]; exact keep4 _ _ (by omega) (keep1 _ _ (by omega) hz)
  · rw [heap_setCell_same w4 _ 2 _ tF v4 e4]; rfl
  · refine grown_setNew ?_ (by simp; omega) _
    have g1 := grown_trans hg hg1
    exact ⟨g4.os.trans g1.os, g4.tape.trans g1.tape, g4.output.trans g1.output, Nat.le_trans g1.size g4.size, fun i hi hr => (g4.block i (Nat.lt_of_lt_of_le hi g1.size) (fun e => by have := hrow i e.symm; omega)).trans (g1.block i hi hr)⟩
  · have hr4 : RD w4 R ao b off n cap at' l :=
      ⟨keep4 _ _ (by omega) hr1.blk, hr1.ne, hr1.len, hr1.small, hr1.addr, fun i hi => (World.cell?_of_block (w := w1) (g4.block b (by have := hr1.lt.2 (by omega); exact this) (fun e => by have := hrow b e.symm; have := hbw (by omega); omega))).trans (hr1.cell i hi), hr1.byte⟩
    exact hr4.setNew (by simp; omega) (fun hp => by have := hbw hp; simp; omega) _

set_option maxHeartbeats 1000000 in
theorem rfunction_ok {w : World} {R : Nat} {ao : Option Addr} {b off n cap at_ : Nat} {l : List Int} (h : RD w R ao b off n cap at_ l) (h3 : at_ + 3 ≤ n) (hs : at_ + 3 + 12 * (l.getD (at_ + 2) 0).toNat ≤ n) :
    Calls Tryd.prog 26 #[.pointer (some ⟨R, 0, none⟩)] w fun e w' => ∃ u, e = .returned (.agg #[.int .i64 (fnOf l at_).params, .int .i64 (fnOf l at_).regs, u]) ∧
      w'.ownsRow w.heap.size 44 5 u (fnOf l at_).code.length (codeCells (fnOf l at_).code) ∧ w.grownBy w' (some R) ∧ RD w' R ao b off n cap (at_ + 3 + 12 * (l.getD (at_ + 2) 0).toNat) l := by
  have hsm := h.small
  have hltw := h.lt
  have hby := h.byte (at_ + 2)
  obtain ⟨iI, hiI, hzI0, hzI1, hzI2⟩ := info_parts infoI
  have hb0 : Below w.heap.size w (w.alloc (.cells #[.int .i64 0, .int .i64 0, .slice none 0 0] 42)) := (Below.refl _ _).alloc (Nat.le_refl _) _
  have hr0 := h.kept hb0
  have hg0 := grown_below (some R) hb0
  have hz0 : (w.alloc (.cells #[.int .i64 0, .int .i64 0, .slice none 0 0] 42)).heap[w.heap.size]? = some (.cells #[.int .i64 0, .int .i64 0, .slice none 0 0] 42) := heap_alloc_new w _
  obtain ⟨C, hC⟩ : ∃ C : Nat, l.getD (at_ + 2) 0 = (C : Int) := ⟨(l.getD (at_ + 2) 0).toNat, by omega⟩
  have HFN : Hid (fnOf l at_ = ⟨l.getD at_ 0, l.getD (at_ + 1) 0, insList l (at_ + 3) C⟩) := by show _ = _; rw [fnOf, hC]; rfl
  have HC : Hid (l.getD (at_ + 2) 0 = (C : Int)) := hC
  have HT : Hid ((l.getD (at_ + 2) 0).toNat = C) := by show _ = _; rw [hC]; rfl
  rw [HT.out] at hs ⊢
  rw [HFN.out]
  dsimp only
  have hbyC : C ≤ 255 := by omega
  have HZ : Hid _ := hz0
  clear h hb0 hby hC hz0
  go_enter Tryd.func26, Tryd.ntmps26
  go_wp2_with (first
    | (go_at_call 25; refine (next_ok hr0 (by omega)).mono ?_; rintro e w1 ⟨rfl, hg1, hr1⟩)
    | (go_at_call 25; refine (next_ok hr1 (by omega)).mono ?_; rintro e w2 ⟨rfl, hg2, hr2⟩; have hb2 : Below w2.heap.size w2 (w2.alloc (.cells #[.int .i64 (l.getD at_ 0), .int .i64 (l.getD (at_ + 1) 0), .slice none 0 0] 42)) := (Below.refl _ _).alloc (Nat.le_refl _) _; have hr2' := hr2.kept hb2)
    | (go_at_call 25; refine (next_ok hr2' (by omega)).mono ?_; rintro e w3 ⟨rfl, hg3, hr3⟩; rw [HC.out]))
  obtain ⟨F, hFe⟩ : ∃ F, F = w2.heap.size := ⟨_, rfl⟩
  have z1 := hg1.size
  have z2 := hg2.size
  simp at z1
  have hF : w.heap.size < F := by omega
  have i1 : w3.heap[w.heap.size]? = some (.cells #[.int .i64 0, .int .i64 0, .slice none 0 0] 42) :=
    (hg3.block _ (by simp; omega) (by simp; omega)).trans ((heap_alloc_old _ _ (by omega)).trans ((hg2.block _ (by omega) (by simp; omega)).trans ((hg1.block _ (by simp) (by simp; omega)).trans HZ.out)))
  have i2 : w3.heap[F]? = some (.cells #[.int .i64 (l.getD at_ 0), .int .i64 (l.getD (at_ + 1) 0), .slice none 0 0] 42) :=
    (hg3.block _ (by simp; omega) (by simp; omega)).trans (by rw [hFe]; exact heap_alloc_new w2 _)
  have i3 : w.grownBy w3 (some R) := grown_trans (grown_trans (grown_trans (grown_trans hg0 hg1) hg2) (grown_below _ hb2)) hg3
  have HI : Hid (w3.heap[w.heap.size]? = some (.cells #[.int .i64 0, .int .i64 0, .slice none 0 0] 42) ∧ w3.heap[F]? = some (.cells #[.int .i64 (l.getD at_ 0), .int .i64 (l.getD (at_ + 1) 0), .slice none 0 0] 42) ∧ w.grownBy w3 (some R) ∧ RD w3 R ao b off n cap (at_ + 1 + 1 + 1) l) := ⟨i1, i2, i3, hr3⟩
  have HP0 : Hid (∃ P0, P0 = l.getD at_ 0) := ⟨_, rfl⟩
  rw [← hFe]
  clear i1 i2 i3 hr3 hg3 hr2' hb2 hr2 hg2 hr1 hg1 hr0 hg0 HZ z1 z2 hFe HP0
  go_loopg [11] C (fun m i wr => ∃ (k : Nat) (vc : Value), k + m = C ∧ i = .int .i64 k ∧ wr.heap[w.heap.size]? = some (.cells #[.int .i64 0, .int .i64 0, .slice none 0 0] 42) ∧ wr.heap[F]? = some (.cells #[.int .i64 (l.getD at_ 0), .int .i64 (l.getD (at_ + 1) 0), vc] 42) ∧ wr.ownsRow (F + 1) 44 5 vc k (codeCells (insList l (at_ + 3) k)) ∧ w.grownBy wr (some R) ∧ RD wr R ao b off n cap (at_ + 3 + 12 * k) l)
  case atStart => exact ⟨0, _, by omega, rfl, HI.out.1, HI.out.2.1, World.ownsRow_nil _ _ _ _, HI.out.2.2.1, HI.out.2.2.2⟩
  case round =>
    obtain ⟨k, vc, hkm, rfl, hz, hf, hown, hg, hr⟩ := hrel
    clear HI
    obtain ⟨aov, capv, rfl⟩ := own_shape hown
    have hzF := lt_of_block hf
    by_cases hlt : k < C
    · have c2 : wr.cell? ⟨F, 2, none⟩ = some (.slice aov k capv) := by simp [World.cell?, hf]
      have HZ : Hid _ := hz
      have HF : Hid _ := hf
      have HG : Hid _ := hg
      have HO : Hid _ := hown
      have hrd := hr.kept ((Below.refl _ wr).drew)
      have hdr := grown_below (some R) ((Below.refl wr.heap.size wr).drew)
      have hod : wr.drew.ownsRow (F + 1) 44 5 (.slice aov k capv) k (codeCells (insList l (at_ + 3) k)) := ownsRow_below hown ((Below.refl wr.heap.size wr).drew)
      have HTK : Hid (insList l (at_ + 3) (k + 1) = insList l (at_ + 3) k ++ [insOf l (at_ + 3 + 12 * k)]) := insList_succ _ _ _
      have HC : Hid (Calls Tryd.prog 31 #[.pointer (some ⟨R, 0, none⟩)] wr.drew fun e w' => e = .returned (insOf l (at_ + 3 + 12 * k)).val ∧ wr.drew.grownBy w' (some R) ∧ RD w' R ao b off n cap (at_ + 3 + 12 * k + 12) l) := instr_ok hrd (by omega)
      generalize hy : insOf l (at_ + 3 + 12 * k) = y at HTK HC
      obtain ⟨yo, yd, ya, yb, yi⟩ := y
      unfold Ins.val at HC
      dsimp only at HC
      generalize hcs : insList l (at_ + 3) k = cs at HTK HO hod
      clear hz hf hg hown hr hy hrd
      go_wp2_with fail
      go_region_law ((first
          | (refine step_append_lies _ (by rfl) (.tmp 14) (.tmp 17) 40 (by rfl) (F + 1) 44 iI _ 5 40 Tryd.underlying40 hiI hzI0 hzI1 hzI2 rfl (by decide) (.slice aov k capv) k (codeCells cs) (by rfl) (ho1.alloc _) ⟨w1.heap.size, 0, none⟩ 1 1 (insCells ⟨yo, yd, ya, yb, yi⟩) (by rfl) rfl (news_list _ _ _ _ rfl) (fun u hu => codeCells_one [⟨yo, yd, ya, yb, yi⟩] u (by simpa [codeCells] using hu)) (by omega) (by unfold maxLen; omega) (by omega) (by simp; omega) (w1.heap.size + 1) (by simp) ?_; intro g4 cap4 w4 hown4 hg4 hat4 hlt4; have Q := rf_step hF hltw.1 hltw.2 HZ.out HF.out HO.out HG.out (grown_trans hdr hg1) hr1 hg4 hown4; have q2 := Q.1; have qc : w4.cell? ⟨F, 2, none⟩ = some (.slice aov k capv) := (by simp [World.cell?, q2]); have qf : w4.frozen? ⟨F, 2, none⟩ = false := (by simp [World.frozen?, q2]))
          | (go_simp; go_at_call 31; refine HC.out.mono ?_; rintro e w1 ⟨rfl, hg1, hr1⟩; have s2 : w1.cell? ⟨F, 2, none⟩ = some (.slice aov k capv) := hg1.cell c2 (by simp; omega); have s3 := cell_alloc s2; have ho1 := own_moved hod hg1 (by omega); have z1 := hg1.size; dsimp only [World.drew] at z1; go_wp2_with fail)))
      all_goals
        go_wp2
        go_roundg (gk - 1)
        case measure => omega
        case rel => exact ⟨k + 1, _, by omega, by go_num, Q.2.1, Q.2.2.1, by rw [HTK.out, codeCells_append]; simpa [codeCells] using Q.2.2.2.1, Q.2.2.2.2.1, by rw [show at_ + 3 + 12 * (k + 1) = at_ + 3 + 12 * k + 12 by omega]; exact Q.2.2.2.2.2⟩
    · have hkC : k = C := by omega
      subst hkC
      have d0 : wr.cell? ⟨F, 0, none⟩ = some (.int .i64 (l.getD at_ 0)) := by simp [World.cell?, hf]
      have d1 : wr.cell? ⟨F, 1, none⟩ = some (.int .i64 (l.getD (at_ + 1) 0)) := by simp [World.cell?, hf]
      have d2 : wr.cell? ⟨F, 2, none⟩ = some (.slice aov k capv) := by simp [World.cell?, hf]
      have e0 : wr.cell? ⟨w.heap.size, 0, none⟩ = some (.int .i64 0) := by simp [World.cell?, hz]
      have e1 : wr.cell? ⟨w.heap.size, 1, none⟩ = some (.int .i64 0) := by simp [World.cell?, hz]
      have e2 : wr.cell? ⟨w.heap.size, 2, none⟩ = some (.slice none 0 0) := by simp [World.cell?, hz]
      have f0 : wr.frozen? ⟨w.heap.size, 0, none⟩ = false := by simp [World.frozen?, hz]
      have f1 : wr.frozen? ⟨w.heap.size, 1, none⟩ = false := by simp [World.frozen?, hz]
      have f2 : wr.frozen? ⟨w.heap.size, 2, none⟩ = false := by simp [World.frozen?, hz]
      have HZ : Hid _ := hz
      have HF : Hid _ := hf
      have HG : Hid _ := hg
      have HO : Hid _ := hown
      have HR : Hid _ := hr
      have HP : Hid (∃ P0 R0 : Int, P0 = l.getD at_ 0 ∧ R0 = l.getD (at_ + 1) 0) := ⟨_, _, rfl, rfl⟩
      clear hz hf hg hown hr
      go_wp2
      have n1 : w.heap.size ≠ R := by omega
      have n2 : 0 < n → w.heap.size ≠ b := fun hp => by have := hltw.2 hp; omega
      refine bodyPost_ret (v := .agg #[.int .i64 (l.getD at_ 0), .int .i64 (l.getD (at_ + 1) 0), .slice aov k capv]) (by simp [results, Tryd.results26, go_sem, e0, e1, e2]) rfl ⟨_, rfl, ?_, ?_, ?_⟩
      · have e : (insList l (at_ + 3) k).length = k := by simp [insList]
        rw [e]
        exact own_base (ownsRow_setCell_below (ownsRow_setCell_below (ownsRow_setCell_below HO.out (by simp; omega) _) (by simp; omega) _) (by simp; omega) _) (by omega)
      · exact grown_setNew (grown_setNew (grown_setNew HG.out (Nat.le_refl _) _) (Nat.le_refl _) _) (Nat.le_refl _) _
      · exact ((HR.out.setNew n1 n2 _).setNew n1 n2 _).setNew n1 n2 _

end Go.Proofs.YtjckpdeogbamjaaDoor
