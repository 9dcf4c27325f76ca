/- Contracts of code.reader's program: one byte, and as many functions; where bytes are missing it gives up. -/
import Derived.Test.YtjckpdeogbamjaaDoorReadShort
namespace Go.Proofs.YtjckpdeogbamjaaDoor
open Go Go.RowKit

/-- Where function k begins. -/
def atK (l : List Int) : Nat → Nat
  | 0 => 1
  | k + 1 => atK l k + 3 + 12 * (l.getD (atK l k + 2) 0).toNat
theorem atK_mono (l : List Int) {j k : Nat} (h : j ≤ k) : atK l j ≤ atK l k := by
  induction h with
  | refl => exact Nat.le_refl _
  | step _ ih => rw [atK]; omega
def fnsPart (l : List Int) (k : Nat) : List Fn := (List.range k).map fun i => fnOf l (atK l i)
theorem fnsPart_length (l : List Int) (k : Nat) : (fnsPart l k).length = k := by simp [fnsPart]
theorem fnsPart_succ (l : List Int) (k : Nat) : fnsPart l (k + 1) = fnsPart l k ++ [fnOf l (atK l k)] := by simp [fnsPart, List.range_succ]
def progOf (l : List Int) : List Fn := fnsPart l (l.getD 0 0).toNat
def endOf (l : List Int) : Nat := atK l (l.getD 0 0).toNat

theorem Built.moved {w w' : World} {R base tF tI : Nat} {v : Value} {p : List Fn} {us : List Value} (h : Built w base tF tI v p us) (hg : w.grownBy w' (some R)) (hR : R < base) : Built w' base tF tI v p us :=
  ⟨h.len, own_moved h.row hg hR, fun i hi => own_moved (h.codes i hi) hg hR⟩

theorem built_base' {w : World} {base base' tF tI : Nat} {v : Value} {p : List Fn} {us : List Value} (h : Built w base tF tI v p us) (hb : base' ≤ base) : Built w base' tF tI v p us :=
  ⟨h.len, own_base h.row hb, fun i hi => own_base (h.codes i hi) hb⟩

/-- One function more was read, and laid beside the others. -/
theorem rp_step {w wr w1 w4 : World} {R O tI tF tP : Nat} {vo v4 u : Value} {P : List Fn} {us : List Value} {f : Fn} {o oZ : Obj} {ao : Option Addr} {b off n cap at' : Nat} {l : List Int} (ht : tI ≠ tF) (hO : w.heap.size < O) (hRF : R < w.heap.size) (hbw : 0 < n → b < w.heap.size)
    (hz : wr.heap[w.heap.size]? = some oZ) (hf : wr.heap[O]? = some (.cells #[vo] tP (0, 0))) (hbt : Built wr (O + 1) tF tI vo P us) (hg : w.grownBy wr (some R)) (hg1 : wr.grownBy w1 (some R)) (hr1 : RD w1 R ao b off n cap at' l)
    (hu : w1.ownsRow (O + 1) tI 5 u f.code.length (codeCells f.code)) (hg4 : (w1.alloc o).grownBy w4 vo.ownBlock) (hown4 : w4.ownsRow (O + 1) tF 3 v4 (P.length + 1) (fnsCells P us ++ fnCells f u)) :
    w4.heap[O]? = some (.cells #[vo] tP (0, 0)) ∧ (w4.setCell ⟨O, 0, none⟩ v4).heap[w.heap.size]? = some oZ ∧ (w4.setCell ⟨O, 0, none⟩ v4).heap[O]? = some (.cells #[v4] tP (0, 0)) ∧
      Built (w4.setCell ⟨O, 0, none⟩ v4) (O + 1) tF tI v4 (P ++ [f]) (us ++ [u]) ∧ w.grownBy (w4.setCell ⟨O, 0, none⟩ v4) (some R) ∧ RD (w4.setCell ⟨O, 0, none⟩ v4) R ao b off n cap at' l := by
  have hrow : ∀ j, vo.ownBlock = some j → O + 1 ≤ j := fun j hj => (hbt.row.lt j hj).1
  have keep1 : ∀ j ob, j ≠ R → wr.heap[j]? = some ob → w1.heap[j]? = some ob := fun j ob hj hob => (hg1.block j (lt_of_block hob) (by simpa using hj)).trans hob
  have keep4 : ∀ j ob, j < O + 1 → w1.heap[j]? = some ob → w4.heap[j]? = some ob := fun j ob hj hob =>
    (hg4.block j (by have := lt_of_block hob; simp; omega) (fun e => by have := hrow j e.symm; omega)).trans ((heap_alloc_old _ _ (lt_of_block hob)).trans hob)
  have e4 := keep4 _ _ (by omega) (keep1 _ _ (by omega) hf)
  have g4 : w1.grownBy w4 vo.ownBlock := ⟨hg4.os, hg4.tape, hg4.output, Nat.le_trans (by simp) hg4.size, fun i hi hr => (hg4.block i (by simp; omega) hr).trans (heap_alloc_old _ _ hi)⟩
  have hb1 := (hbt.moved hg1 (by omega)).alloc o
  refine ⟨e4, ?_, one_setCell e4, (hb1.snoc ht (hu.alloc o) hown4 hg4).setCell (by simp) _, ?_, ?_⟩
  · rw [Below.heap_setCell _ _ _ _ (by simp; omega)]; exact keep4 _ _ (by omega) (keep1 _ _ (by omega) hz)
  · refine grown_setNew ?_ (by simp; omega) _
    have g1 := grown_trans hg hg1
    exact ⟨g4.os.trans g1.os, g4.tape.trans g1.tape, g4.output.trans g1.output, Nat.le_trans g1.size g4.size, fun i hi hr => (g4.block i (Nat.lt_of_lt_of_le hi g1.size) (fun e => by have := hrow i e.symm; omega)).trans (g1.block i hi hr)⟩
  · have hr4 : RD w4 R ao b off n cap at' l :=
      ⟨keep4 _ _ (by omega) hr1.blk, hr1.ne, hr1.len, hr1.small, hr1.addr, fun i hi => (World.cell?_of_block (w := w1) (g4.block b (by have := hr1.lt.2 (by omega); exact this) (fun e => by have := hrow b e.symm; have := hbw (by omega); omega))).trans (hr1.cell i hi), hr1.byte⟩
    exact hr4.setNew (by simp; omega) (fun hp => by have := hbw hp; simp; omega) _

set_option maxHeartbeats 1000000 in
theorem program_ok {w : World} {R : Nat} {ao : Option Addr} {b off n cap : Nat} {l : List Int} (h : RD w R ao b off n cap 0 l) (hs : endOf l ≤ n) :
    Calls Tryd.prog 19 #[.pointer (some ⟨R, 0, none⟩)] w fun e w' => ∃ v us, e = .returned (.agg #[v]) ∧
      Built w' w.heap.size 42 44 v (progOf l) us ∧ w.grownBy w' (some R) ∧ RD w' R ao b off n cap (endOf l) l := by
  have hsm := h.small
  have hltw := h.lt
  have hby := h.byte 0
  obtain ⟨iF, hiF, hzF0, hzF1, hzF2⟩ := info_parts infoF
  obtain ⟨N, hN⟩ : ∃ N : Nat, l.getD 0 0 = (N : Int) := ⟨(l.getD 0 0).toNat, by omega⟩
  have HE : Hid (endOf l = atK l N) := by show _ = _; rw [endOf, hN]; rfl
  have HP : Hid (progOf l = fnsPart l N) := by show _ = _; rw [progOf, hN]; rfl
  have HC : Hid (l.getD 0 0 = (N : Int)) := hN
  rw [HE.out] at hs ⊢
  rw [HP.out]
  have hN255 : N ≤ 255 := by omega
  have h1n : 1 ≤ n := by have := atK_mono l (Nat.zero_le N); simp [atK] at this; omega
  have HM : Hid (∀ k, k < N → atK l k + 3 ≤ n ∧ atK l k + 3 + 12 * (l.getD (atK l k + 2) 0).toNat ≤ n) := fun k hk => by
    have h2 := atK_mono l (show k + 1 ≤ N from hk)
    rw [atK] at h2
    omega
  have hb0 : Below w.heap.size w ((w.alloc (.cells #[.slice none 0 0] 26)).alloc (.cells #[.slice none 0 0] 26)) := ((Below.refl _ _).alloc (Nat.le_refl _) _).alloc (by simp) _
  have hr0 := h.kept hb0
  have hg0 := grown_below (some R) hb0
  clear h hb0 hby hN hs
  go_enter Tryd.func19, Tryd.ntmps19
  go_wp2_with (first
    | (go_at_call 25; refine (next_ok hr0 (by omega)).mono ?_; rintro e w1 ⟨rfl, hg1, hr1⟩; rw [HC.out]))
  have z1 := hg1.size
  simp at z1
  have i1 : w1.heap[w.heap.size]? = some (.cells #[.slice none 0 0] 26 (0, 0)) := (hg1.block _ (by simp; omega) (by simp; omega)).trans ((heap_alloc_old _ _ (by simp)).trans (heap_alloc_new w _))
  have i2 : w1.heap[w.heap.size + 1]? = some (.cells #[.slice none 0 0] 26 (0, 0)) := (hg1.block _ (by simp) (by simp; omega)).trans (by
    have := heap_alloc_new (w.alloc (.cells #[.slice none 0 0] 26)) (.cells #[.slice none 0 0] 26)
    simpa only [World.size_alloc] using this)
  have HI : Hid (w1.heap[w.heap.size]? = some (.cells #[.slice none 0 0] 26 (0, 0)) ∧ w1.heap[w.heap.size + 1]? = some (.cells #[.slice none 0 0] 26 (0, 0)) ∧ w.grownBy w1 (some R) ∧ RD w1 R ao b off n cap (0 + 1) l) := ⟨i1, i2, grown_trans hg0 hg1, hr1⟩
  clear i1 i2 hr1 hg1 hr0 hg0 z1
  go_loopg [6] N (fun m i wr => ∃ (k : Nat) (vo : Value) (us : List Value), k + m = N ∧ i = .int .i64 k ∧ wr.heap[w.heap.size]? = some (.cells #[.slice none 0 0] 26 (0, 0)) ∧ wr.heap[w.heap.size + 1]? = some (.cells #[vo] 26 (0, 0)) ∧ Built wr (w.heap.size + 1 + 1) 42 44 vo (fnsPart l k) us ∧ w.grownBy wr (some R) ∧ RD wr R ao b off n cap (atK l k) l)
  case atStart => exact ⟨0, _, [], by omega, rfl, HI.out.1, HI.out.2.1, built_nil _ _ _ _, HI.out.2.2.1, HI.out.2.2.2⟩
  case round =>
    obtain ⟨k, vo, us, hkm, rfl, hz, hf, hbt, hg, hr⟩ := hrel
    clear HI
    obtain ⟨aov, capv, rfl⟩ := own_shape hbt.row
    rw [fnsPart_length] at hbt hf
    have hzF := lt_of_block hf
    by_cases hlt : k < N
    · have hm := HM.out k hlt
      have c0 := cell_of_one hf
      have HZ : Hid _ := hz
      have HF : Hid _ := hf
      have HG : Hid _ := hg
      have HBT : Hid _ := hbt
      have hrd := hr.kept ((Below.refl _ wr).drew)
      have hdr := grown_below (some R) ((Below.refl wr.heap.size wr).drew)
      have HTK : Hid (fnsPart l (k + 1) = fnsPart l k ++ [fnOf l (atK l k)]) := fnsPart_succ _ _
      have HPL : Hid ((fnsPart l k).length = k) := fnsPart_length _ _
      have HAT : Hid (atK l (k + 1) = atK l k + 3 + 12 * (l.getD (atK l k + 2) 0).toNat) := rfl
      have HC2 : Hid (Calls Tryd.prog 26 #[.pointer (some ⟨R, 0, none⟩)] wr.drew fun e w' => ∃ u, e = .returned (.agg #[.int .i64 (fnOf l (atK l k)).params, .int .i64 (fnOf l (atK l k)).regs, u]) ∧
          w'.ownsRow wr.drew.heap.size 44 5 u (fnOf l (atK l k)).code.length (codeCells (fnOf l (atK l k)).code) ∧ wr.drew.grownBy w' (some R) ∧ RD w' R ao b off n cap (atK l k + 3 + 12 * (l.getD (atK l k + 2) 0).toNat) l) := rfunction_ok hrd hm.1 hm.2
      rw [← HAT.out] at HC2
      generalize hy : fnOf l (atK l k) = f at HTK HC2
      generalize hat' : atK l (k + 1) = at1 at HC2
      have HA1 : Hid (atK l (k + 1) = at1) := hat'
      obtain ⟨fp, fr, fc⟩ := f
      dsimp only at HC2
      clear hz hf hg hbt hr hy hrd hat' HAT
      go_wp2_with fail
      go_region_law ((first
          | (refine step_append_lies _ (by rfl) (.tmp 9) (.tmp 12) 24 (by rfl) (w.heap.size + 1 + 1) 42 iF _ 3 40 Tryd.underlying24 hiF hzF0 hzF1 hzF2 rfl (by decide) (.slice aov k capv) k (fnsCells (fnsPart l k) us) (by rfl) (by have hh := ((HBT.out.moved (grown_trans hdr hg1) (by omega)).alloc (.cells #[.int .i64 fp, .int .i64 fr, .slice aou fc.length capu] 42)).row; rw [HPL.out] at hh; exact hh) ⟨w1.heap.size, 0, none⟩ 1 1 (fnCells ⟨fp, fr, fc⟩ (.slice aou fc.length capu)) (by rfl) rfl (news_list _ _ _ _ rfl) (fnCells_one _ _ _ _) (by omega) (by unfold maxLen; omega) (by omega) (by simp; omega) (w1.heap.size + 1) (by simp) ?_; intro g4 cap4 w4 hown4 hg4 hat4 hlt4; have Q := rp_step (f := ⟨fp, fr, fc⟩) (by decide) (by omega) hltw.1 hltw.2 HZ.out HF.out HBT.out HG.out (grown_trans hdr hg1) hr1 (own_base hu1 (by simp; omega)) hg4 (by rw [HPL.out]; exact hown4); have qc := cell_of_one Q.1; have qf := free_of_one Q.1)
          | (go_simp; go_at_call 26; refine HC2.out.mono ?_; rintro e w1 ⟨u, rfl, hu1, hg1, hr1⟩; obtain ⟨aou, capu, rfl⟩ := own_shape hu1; have s2 : w1.cell? ⟨w.heap.size + 1, 0, none⟩ = some (.slice aov k capv) := hg1.cell c0 (by simp; omega); have s3 := cell_alloc s2; have z1 := hg1.size; dsimp only [World.drew] at z1; go_wp2_with fail)))
      all_goals
        go_wp2
        go_roundg (gk - 1)
        case measure => omega
        case rel => exact ⟨k + 1, _, _, by omega, by go_num, Q.2.1, Q.2.2.1, by rw [HTK.out]; exact Q.2.2.2.1, Q.2.2.2.2.1, by rw [HA1.out]; exact Q.2.2.2.2.2⟩
    · have hkN : k = N := by omega
      subst hkN
      have d0 := cell_of_one hf
      have e0 := cell_of_one hz
      have f0 := free_of_one hz
      have HB2 : Hid (∀ v, Built (wr.setCell ⟨w.heap.size, 0, none⟩ v) (w.heap.size + 1 + 1) 42 44 (.slice aov k capv) (fnsPart l k) us) := fun v => hbt.setCell (by simp; omega) v
      have HG : Hid _ := hg
      have HR : Hid _ := hr
      clear hz hf hg hbt hr
      go_wp2
      have n1 : w.heap.size ≠ R := by omega
      have n2 : 0 < n → w.heap.size ≠ b := fun hp => by have := hltw.2 hp; omega
      exact bodyPost_ret (v := .agg #[.slice aov k capv]) (by simp [results, Tryd.results19, go_sem, e0]) rfl ⟨_, us, rfl, built_base' (HB2.out _) (by omega), grown_setNew HG.out (Nat.le_refl _) _, HR.out.setNew n1 n2 _⟩

set_option maxHeartbeats 1000000 in
theorem program_short {w : World} {R : Nat} {ao : Option Addr} {b off n cap : Nat} {l : List Int} (h : RD w R ao b off n cap 0 l) (hs : n < endOf l) :
    Calls Tryd.prog 19 #[.pointer (some ⟨R, 0, none⟩)] w fun e w' => e = .panicked [{ v := .iface 27 (.int .i64 4), recovered := false }] ∧ w.grownBy w' (some R) := by
  have hsm := h.small
  have hltw := h.lt
  have hby := h.byte 0
  obtain ⟨iF, hiF, hzF0, hzF1, hzF2⟩ := info_parts infoF
  obtain ⟨N, hN⟩ : ∃ N : Nat, l.getD 0 0 = (N : Int) := ⟨(l.getD 0 0).toNat, by omega⟩
  have HE : Hid (endOf l = atK l N) := by show _ = _; rw [endOf, hN]; rfl
  have HC : Hid (l.getD 0 0 = (N : Int)) := hN
  rw [HE.out] at hs
  have hN255 : N ≤ 255 := by omega
  have hb0 : Below w.heap.size w ((w.alloc (.cells #[.slice none 0 0] 26)).alloc (.cells #[.slice none 0 0] 26)) := ((Below.refl _ _).alloc (Nat.le_refl _) _).alloc (by simp) _
  have hr0 := h.kept hb0
  have hg0 := grown_below (some R) hb0
  clear h hb0 hby hN
  rcases Nat.eq_zero_or_pos n with h0 | h1n
  · go_enter Tryd.func19, Tryd.ntmps19
    go_wp2_with (first
      | (go_at_call 25; refine (next_short hr0 (by omega)).mono ?_; rintro e w1 ⟨rfl, hg1⟩))
    exact ⟨rfl, rfl, grown_trans hg0 hg1⟩
  · go_enter Tryd.func19, Tryd.ntmps19
    go_wp2_with (first
      | (go_at_call 25; refine (next_ok hr0 (by omega)).mono ?_; rintro e w1 ⟨rfl, hg1, hr1⟩; rw [HC.out]))
    have z1 := hg1.size
    simp at z1
    have i1 : w1.heap[w.heap.size]? = some (.cells #[.slice none 0 0] 26 (0, 0)) := (hg1.block _ (by simp; omega) (by simp; omega)).trans ((heap_alloc_old _ _ (by simp)).trans (heap_alloc_new w _))
    have i2 : w1.heap[w.heap.size + 1]? = some (.cells #[.slice none 0 0] 26 (0, 0)) := (hg1.block _ (by simp) (by simp; omega)).trans (by
      have := heap_alloc_new (w.alloc (.cells #[.slice none 0 0] 26)) (.cells #[.slice none 0 0] 26)
      simpa only [World.size_alloc] using this)
    have HI : Hid (w1.heap[w.heap.size]? = some (.cells #[.slice none 0 0] 26 (0, 0)) ∧ w1.heap[w.heap.size + 1]? = some (.cells #[.slice none 0 0] 26 (0, 0)) ∧ w.grownBy w1 (some R) ∧ RD w1 R ao b off n cap (0 + 1) l) := ⟨i1, i2, grown_trans hg0 hg1, hr1⟩
    clear i1 i2 hr1 hg1 hr0 hg0 z1
    go_loopg [6] N (fun m i wr => ∃ (k : Nat) (vo : Value) (us : List Value), k + m = N ∧ atK l k ≤ n ∧ i = .int .i64 k ∧ wr.heap[w.heap.size]? = some (.cells #[.slice none 0 0] 26 (0, 0)) ∧ wr.heap[w.heap.size + 1]? = some (.cells #[vo] 26 (0, 0)) ∧ Built wr (w.heap.size + 1 + 1) 42 44 vo (fnsPart l k) us ∧ w.grownBy wr (some R) ∧ RD wr R ao b off n cap (atK l k) l)
    case atStart => exact ⟨0, _, [], by omega, h1n, rfl, HI.out.1, HI.out.2.1, built_nil _ _ _ _, HI.out.2.2.1, HI.out.2.2.2⟩
    case round =>
      obtain ⟨k, vo, us, hkm, hkn, rfl, hz, hf, hbt, hg, hr⟩ := hrel
      clear HI
      obtain ⟨aov, capv, rfl⟩ := own_shape hbt.row
      rw [fnsPart_length] at hbt hf
      have hzF := lt_of_block hf
      have hlt : k < N := Nat.lt_of_not_le fun hc => by have := atK_mono l hc; omega
      by_cases hen : atK l (k + 1) ≤ n
      · have hen' := hen
        rw [atK] at hen'
        have c0 := cell_of_one hf
        have HZ : Hid _ := hz
        have HF : Hid _ := hf
        have HG : Hid _ := hg
        have HBT : Hid _ := hbt
        have hrd := hr.kept ((Below.refl _ wr).drew)
        have hdr := grown_below (some R) ((Below.refl wr.heap.size wr).drew)
        have HTK : Hid (fnsPart l (k + 1) = fnsPart l k ++ [fnOf l (atK l k)]) := fnsPart_succ _ _
        have HPL : Hid ((fnsPart l k).length = k) := fnsPart_length _ _
        have HAT : Hid (atK l (k + 1) = atK l k + 3 + 12 * (l.getD (atK l k + 2) 0).toNat) := rfl
        have HC2 : Hid (Calls Tryd.prog 26 #[.pointer (some ⟨R, 0, none⟩)] wr.drew fun e w' => ∃ u, e = .returned (.agg #[.int .i64 (fnOf l (atK l k)).params, .int .i64 (fnOf l (atK l k)).regs, u]) ∧
            w'.ownsRow wr.drew.heap.size 44 5 u (fnOf l (atK l k)).code.length (codeCells (fnOf l (atK l k)).code) ∧ wr.drew.grownBy w' (some R) ∧ RD w' R ao b off n cap (atK l k + 3 + 12 * (l.getD (atK l k + 2) 0).toNat) l) := rfunction_ok hrd (by omega) hen'
        rw [← HAT.out] at HC2
        generalize hy : fnOf l (atK l k) = f at HTK HC2
        generalize hat' : atK l (k + 1) = at1 at HC2
        have HA1 : Hid (atK l (k + 1) = at1) := hat'
        obtain ⟨fp, fr, fc⟩ := f
        dsimp only at HC2
        clear hz hf hg hbt hr hy hrd hat' HAT
        go_wp2_with fail
        go_region_law ((first
            | (refine step_append_lies _ (by rfl) (.tmp 9) (.tmp 12) 24 (by rfl) (w.heap.size + 1 + 1) 42 iF _ 3 40 Tryd.underlying24 hiF hzF0 hzF1 hzF2 rfl (by decide) (.slice aov k capv) k (fnsCells (fnsPart l k) us) (by rfl) (by have hh := ((HBT.out.moved (grown_trans hdr hg1) (by omega)).alloc (.cells #[.int .i64 fp, .int .i64 fr, .slice aou fc.length capu] 42)).row; rw [HPL.out] at hh; exact hh) ⟨w1.heap.size, 0, none⟩ 1 1 (fnCells ⟨fp, fr, fc⟩ (.slice aou fc.length capu)) (by rfl) rfl (news_list _ _ _ _ rfl) (fnCells_one _ _ _ _) (by omega) (by unfold maxLen; omega) (by omega) (by simp; omega) (w1.heap.size + 1) (by simp) ?_; intro g4 cap4 w4 hown4 hg4 hat4 hlt4; have Q := rp_step (f := ⟨fp, fr, fc⟩) (by decide) (by omega) hltw.1 hltw.2 HZ.out HF.out HBT.out HG.out (grown_trans hdr hg1) hr1 (own_base hu1 (by simp; omega)) hg4 (by rw [HPL.out]; exact hown4); have qc := cell_of_one Q.1; have qf := free_of_one Q.1)
            | (go_simp; go_at_call 26; refine HC2.out.mono ?_; rintro e w1 ⟨u, rfl, hu1, hg1, hr1⟩; obtain ⟨aou, capu, rfl⟩ := own_shape hu1; have s2 : w1.cell? ⟨w.heap.size + 1, 0, none⟩ = some (.slice aov k capv) := hg1.cell c0 (by simp; omega); have s3 := cell_alloc s2; have z1 := hg1.size; dsimp only [World.drew] at z1; go_wp2_with fail)))
        all_goals
          go_wp2
          go_roundg (gk - 1)
          case measure => omega
          case rel => exact ⟨k + 1, _, _, by omega, hen, by go_num, Q.2.1, Q.2.2.1, by rw [HTK.out]; exact Q.2.2.2.1, Q.2.2.2.2.1, by rw [HA1.out]; exact Q.2.2.2.2.2⟩
      · have hsh : n < atK l (k + 1) := by omega
        rw [atK] at hsh
        have c0 := cell_of_one hf
        have HG : Hid _ := hg
        have hrd := hr.kept ((Below.refl _ wr).drew)
        have hdr := grown_below (some R) ((Below.refl wr.heap.size wr).drew)
        have HC2 : Hid (Calls Tryd.prog 26 #[.pointer (some ⟨R, 0, none⟩)] wr.drew fun e w' => e = .panicked [{ v := .iface 27 (.int .i64 4), recovered := false }] ∧ wr.drew.grownBy w' (some R)) := rfunction_short hrd hkn (fun _ => hsh)
        clear hz hf hg hbt hr hrd hsh
        go_wp2_with fail
        go_region_dies
        all_goals
          go_at_call 26
          refine HC2.out.mono ?_
          rintro e w1 ⟨rfl, hg1⟩
          go_wp2
          exact ⟨rfl, rfl, grown_trans (grown_trans HG.out hdr) hg1⟩

end Go.Proofs.YtjckpdeogbamjaaDoor
