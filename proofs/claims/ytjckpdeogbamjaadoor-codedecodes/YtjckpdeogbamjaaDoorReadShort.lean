/- Contract of code.reader's function where bytes are missing: it gives up by a panic with api.ErrShort. -/
import Derived.Test.YtjckpdeogbamjaaDoorReadFn
import Derived.RegionDies
namespace Go.Proofs.YtjckpdeogbamjaaDoor
open Go Go.RowKit

set_option maxHeartbeats 1000000 in
theorem rfunction_short {w : World} {R : Nat} {ao : Option Addr} {b off n cap at_ : Nat} {l : List Int} (h : RD w R ao b off n cap at_ l) (hat : at_ ≤ n) (hs : at_ + 3 ≤ n → n < at_ + 3 + 12 * (l.getD (at_ + 2) 0).toNat) :
    Calls Tryd.prog 26 #[.pointer (some ⟨R, 0, none⟩)] w fun e w' => e = .panicked [{ v := .iface 27 (.int .i64 4), recovered := false }] ∧ w.grownBy w' (some R) := by
  have hsm := h.small
  have hltw := h.lt
  have hby := h.byte (at_ + 2)
  obtain ⟨iI, hiI, hzI0, hzI1, hzI2⟩ := info_parts infoI
  have hb0 : Below w.heap.size w (w.alloc (.cells #[.int .i64 0, .int .i64 0, .slice none 0 0] 42)) := (Below.refl _ _).alloc (Nat.le_refl _) _
  have hr0 := h.kept hb0
  have hg0 := grown_below (some R) hb0
  have hz0 : (w.alloc (.cells #[.int .i64 0, .int .i64 0, .slice none 0 0] 42)).heap[w.heap.size]? = some (.cells #[.int .i64 0, .int .i64 0, .slice none 0 0] 42) := heap_alloc_new w _
  obtain ⟨C, hC⟩ : ∃ C : Nat, l.getD (at_ + 2) 0 = (C : Int) := ⟨(l.getD (at_ + 2) 0).toNat, by omega⟩
  have HC : Hid (l.getD (at_ + 2) 0 = (C : Int)) := hC
  have HT : Hid ((l.getD (at_ + 2) 0).toNat = C) := by show _ = _; rw [hC]; rfl
  rw [HT.out] at hs
  have hbyC : C ≤ 255 := by omega
  have HZ : Hid _ := hz0
  clear h hb0 hby hC hz0
  rcases (show n = at_ ∨ n = at_ + 1 ∨ n = at_ + 2 ∨ at_ + 3 ≤ n by omega) with e | e | e | h3
  · go_enter Tryd.func26, Tryd.ntmps26
    go_wp2_with (first | (go_at_call 25; refine (next_short hr0 (by omega)).mono ?_; rintro e w1 ⟨rfl, hg1⟩))
    exact ⟨rfl, rfl, grown_trans (hg0) hg1⟩
  · go_enter Tryd.func26, Tryd.ntmps26
    go_wp2_with (first | (go_at_call 25; refine (next_ok hr0 (by omega)).mono ?_; rintro e w1 ⟨rfl, hg1, hr1⟩) | (go_at_call 25; refine (next_short hr1 (by omega)).mono ?_; rintro e w2 ⟨rfl, hg2⟩))
    exact ⟨rfl, rfl, grown_trans (grown_trans (hg0) hg1) hg2⟩
  · go_enter Tryd.func26, Tryd.ntmps26
    go_wp2_with (first
      | (go_at_call 25; refine (next_ok hr0 (by omega)).mono ?_; rintro e w1 ⟨rfl, hg1, hr1⟩)
      | (go_at_call 25; refine (next_ok hr1 (by omega)).mono ?_; rintro e w2 ⟨rfl, hg2, hr2⟩; have hb2 : Below w2.heap.size w2 (w2.alloc (.cells #[.int .i64 (l.getD at_ 0), .int .i64 (l.getD (at_ + 1) 0), .slice none 0 0] 42)) := (Below.refl _ _).alloc (Nat.le_refl _) _; have hr2' := hr2.kept hb2)
      | (go_at_call 25; refine (next_short hr2' (by omega)).mono ?_; rintro e w3 ⟨rfl, hg3⟩))
    exact ⟨rfl, rfl, grown_trans (grown_trans (grown_trans (grown_trans hg0 hg1) hg2) (grown_below _ hb2)) hg3⟩
  · have hs := hs h3
    go_enter Tryd.func26, Tryd.ntmps26
    go_wp2_with (first
      | (go_at_call 25; refine (next_ok hr0 (by omega)).mono ?_; rintro e w1 ⟨rfl, hg1, hr1⟩)
      | (go_at_call 25; refine (next_ok hr1 (by omega)).mono ?_; rintro e w2 ⟨rfl, hg2, hr2⟩; have hb2 : Below w2.heap.size w2 (w2.alloc (.cells #[.int .i64 (l.getD at_ 0), .int .i64 (l.getD (at_ + 1) 0), .slice none 0 0] 42)) := (Below.refl _ _).alloc (Nat.le_refl _) _; have hr2' := hr2.kept hb2)
      | (go_at_call 25; refine (next_ok hr2' (by omega)).mono ?_; rintro e w3 ⟨rfl, hg3, hr3⟩; rw [HC.out]))
    obtain ⟨F, hFe⟩ : ∃ F, F = w2.heap.size := ⟨_, rfl⟩
    have z1 := hg1.size
    have z2 := hg2.size
    simp at z1
    have hF : w.heap.size < F := by omega
    have i1 : w3.heap[w.heap.size]? = some (.cells #[.int .i64 0, .int .i64 0, .slice none 0 0] 42) :=
      (hg3.block _ (by simp; omega) (by simp; omega)).trans ((heap_alloc_old _ _ (by omega)).trans ((hg2.block _ (by omega) (by simp; omega)).trans ((hg1.block _ (by simp) (by simp; omega)).trans HZ.out)))
    have i2 : w3.heap[F]? = some (.cells #[.int .i64 (l.getD at_ 0), .int .i64 (l.getD (at_ + 1) 0), .slice none 0 0] 42) :=
      (hg3.block _ (by simp; omega) (by simp; omega)).trans (by rw [hFe]; exact heap_alloc_new w2 _)
    have i3 : w.grownBy w3 (some R) := grown_trans (grown_trans (grown_trans (grown_trans hg0 hg1) hg2) (grown_below _ hb2)) hg3
    have HI : Hid (w3.heap[w.heap.size]? = some (.cells #[.int .i64 0, .int .i64 0, .slice none 0 0] 42) ∧ w3.heap[F]? = some (.cells #[.int .i64 (l.getD at_ 0), .int .i64 (l.getD (at_ + 1) 0), .slice none 0 0] 42) ∧ w.grownBy w3 (some R) ∧ RD w3 R ao b off n cap (at_ + 1 + 1 + 1) l) := ⟨i1, i2, i3, hr3⟩
    have HP0 : Hid (∃ P0, P0 = l.getD at_ 0) := ⟨_, rfl⟩
    rw [← hFe]
    clear i1 i2 i3 hr3 hg3 hr2' hb2 hr2 hg2 hr1 hg1 hr0 hg0 HZ z1 z2 hFe HP0
    go_loopg [11] C (fun m i wr => ∃ (k : Nat) (vc : Value), k + m = C ∧ at_ + 3 + 12 * k ≤ n ∧ i = .int .i64 k ∧ wr.heap[w.heap.size]? = some (.cells #[.int .i64 0, .int .i64 0, .slice none 0 0] 42) ∧ wr.heap[F]? = some (.cells #[.int .i64 (l.getD at_ 0), .int .i64 (l.getD (at_ + 1) 0), vc] 42) ∧ wr.ownsRow (F + 1) 44 5 vc k (codeCells (insList l (at_ + 3) k)) ∧ w.grownBy wr (some R) ∧ RD wr R ao b off n cap (at_ + 3 + 12 * k) l)
    case atStart => exact ⟨0, _, by omega, by omega, rfl, HI.out.1, HI.out.2.1, World.ownsRow_nil _ _ _ _, HI.out.2.2.1, HI.out.2.2.2⟩
    case round =>
      obtain ⟨k, vc, hkm, hkn, rfl, hz, hf, hown, hg, hr⟩ := hrel
      clear HI
      obtain ⟨aov, capv, rfl⟩ := own_shape hown
      have hzF := lt_of_block hf
      have hlt : k < C := by omega
      by_cases hen : at_ + 3 + 12 * k + 12 ≤ n
      · have c2 : wr.cell? ⟨F, 2, none⟩ = some (.slice aov k capv) := by simp [World.cell?, hf]
        have HZ : Hid _ := hz
        have HF : Hid _ := hf
        have HG : Hid _ := hg
        have HO : Hid _ := hown
        have hrd := hr.kept ((Below.refl _ wr).drew)
        have hdr := grown_below (some R) ((Below.refl wr.heap.size wr).drew)
        have hod : wr.drew.ownsRow (F + 1) 44 5 (.slice aov k capv) k (codeCells (insList l (at_ + 3) k)) := ownsRow_below hown ((Below.refl wr.heap.size wr).drew)
        have HTK : Hid (insList l (at_ + 3) (k + 1) = insList l (at_ + 3) k ++ [insOf l (at_ + 3 + 12 * k)]) := insList_succ _ _ _
        have HC : Hid (Calls Tryd.prog 31 #[.pointer (some ⟨R, 0, none⟩)] wr.drew fun e w' => e = .returned (insOf l (at_ + 3 + 12 * k)).val ∧ wr.drew.grownBy w' (some R) ∧ RD w' R ao b off n cap (at_ + 3 + 12 * k + 12) l) := instr_ok hrd (by omega)
        generalize hy : insOf l (at_ + 3 + 12 * k) = y at HTK HC
        obtain ⟨yo, yd, ya, yb, yi⟩ := y
        unfold Ins.val at HC
        dsimp only at HC
        generalize hcs : insList l (at_ + 3) k = cs at HTK HO hod
        clear hz hf hg hown hr hy hrd
        go_wp2_with fail
        go_region_law ((first
            | (refine step_append_lies _ (by rfl) (.tmp 14) (.tmp 17) 40 (by rfl) (F + 1) 44 iI _ 5 40 Tryd.underlying40 hiI hzI0 hzI1 hzI2 rfl (by decide) (.slice aov k capv) k (codeCells cs) (by rfl) (ho1.alloc _) ⟨w1.heap.size, 0, none⟩ 1 1 (insCells ⟨yo, yd, ya, yb, yi⟩) (by rfl) rfl (news_list _ _ _ _ rfl) (fun u hu => codeCells_one [⟨yo, yd, ya, yb, yi⟩] u (by simpa [codeCells] using hu)) (by omega) (by unfold maxLen; omega) (by omega) (by simp; omega) (w1.heap.size + 1) (by simp) ?_; intro g4 cap4 w4 hown4 hg4 hat4 hlt4; have Q := rf_step hF hltw.1 hltw.2 HZ.out HF.out HO.out HG.out (grown_trans hdr hg1) hr1 hg4 hown4; have q2 := Q.1; have qc : w4.cell? ⟨F, 2, none⟩ = some (.slice aov k capv) := (by simp [World.cell?, q2]); have qf : w4.frozen? ⟨F, 2, none⟩ = false := (by simp [World.frozen?, q2]))
            | (go_simp; go_at_call 31; refine HC.out.mono ?_; rintro e w1 ⟨rfl, hg1, hr1⟩; have s2 : w1.cell? ⟨F, 2, none⟩ = some (.slice aov k capv) := hg1.cell c2 (by simp; omega); have s3 := cell_alloc s2; have ho1 := own_moved hod hg1 (by omega); have z1 := hg1.size; dsimp only [World.drew] at z1; go_wp2_with fail)))
        all_goals
          go_wp2
          go_roundg (gk - 1)
          case measure => omega
          case rel => exact ⟨k + 1, _, by omega, by omega, by go_num, Q.2.1, Q.2.2.1, by rw [HTK.out, codeCells_append]; simpa [codeCells] using Q.2.2.2.1, Q.2.2.2.2.1, by rw [show at_ + 3 + 12 * (k + 1) = at_ + 3 + 12 * k + 12 by omega]; exact Q.2.2.2.2.2⟩
      · have c2 : wr.cell? ⟨F, 2, none⟩ = some (.slice aov k capv) := by simp [World.cell?, hf]
        have HG : Hid _ := hg
        have hrd := hr.kept ((Below.refl _ wr).drew)
        have hdr := grown_below (some R) ((Below.refl wr.heap.size wr).drew)
        clear hz hf hg hown hr
        go_wp2_with fail
        go_region_dies
        all_goals
          go_at_call 31
          refine (instr_short hrd (by omega) (by omega)).mono ?_
          rintro e w1 ⟨rfl, hg1⟩
          go_wp2
          exact ⟨rfl, rfl, grown_trans (grown_trans HG.out hdr) hg1⟩

end Go.Proofs.YtjckpdeogbamjaaDoor
