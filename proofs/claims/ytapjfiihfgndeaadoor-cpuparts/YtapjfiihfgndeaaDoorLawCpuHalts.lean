/- The walk of tierlinekeep.CpuHalts (written by gen/mkcpuhalt.py): at all raw numbers it says true, and nothing that was there has turned. -/
import Derived.Test.YtapjfiihfgndeaaDoorCpuIs
import Derived.Test.YtapjfiihfgndeaaDoorCpuEq
namespace Go.Proofs.YtapjfiihfgndeaaDoor
open Go Go.RowKit

theorem infoWd : (Tryd.prog.info? 48).map (·.size) = some 5 := by kernel_rfl
structure MiFit (x : Mi) : Prop where
  op : Fits x.op
  rd : Fits x.rd
  rs1 : Fits x.rs1
  rs2 : Fits x.rs2
  imm : Fits x.imm
/-- A list of raw instructions lies in memory. -/
structure WdsAt (w : World) (ao : Option Addr) (b off : Nat) (xs : List Mi) : Prop where
  at_ : 0 < xs.length → ao = some ⟨b, off, none⟩
  cells : ∀ k (h : k < xs.length), w.rangeAt b (off + k * 5) (miC xs[k]) ∧ b < w.heap.size
  fit : ∀ x ∈ xs, MiFit x
def CHalt (pc : Int) (h : Bool) : Cp := ⟨noRegs.set 9 5, pc, noData, h⟩
theorem chalt_ok (pc : Int) (h : Bool) : (CHalt pc h).Ok := ⟨rfl, rfl⟩
theorem chalt_begun (pc : Int) (h : Bool) : (CHalt pc h).begun = CHalt pc h := rfl
theorem built_h (pc : Int) : Tryd.prog.built 26 [(3, .bool true), (1, .int .i64 pc)] = some (cpuCells ⟨noRegs, pc, noData, true⟩).toArray := by kernel_rfl
theorem chalt_step (ws : List Int) (pc : Int) (hl : ws.length ≤ 12) : stepAns ws (CHalt pc true) = (CHalt pc true, 0) := by
  unfold stepAns
  rw [if_neg (by omega), if_pos (show (CHalt pc true).halted = true from rfl), chalt_begun]
theorem chalt_run (ws : List Int) (pc : Int) (hl : ws.length ≤ 12) : runAns ws (CHalt pc true) 3 = (CHalt pc true, 0, 0) := by
  rw [show (3 : Int) = ((3 : Nat) : Int) from rfl, runAns_eq 3 (by omega) (by decide), chalt_begun, runA_stop 3 0 rfl]; rfl
theorem chalt_far (ws : List Int) (q : Int) (hl : ws.length ≤ 12) (h0 : (ws.length : Int) ≤ q) : stepAns ws (CHalt q false) = (zeroCp, 8) := by
  have e : stepE ws (CHalt q false) = 8 := by unfold stepE; rw [if_pos (Or.inr (show (ws.length : Int) ≤ (CHalt q false).pc from h0))]
  unfold stepAns
  rw [if_neg (by omega), if_neg (show ¬ ((CHalt q false).halted = true) from fun h => by cases h), chalt_begun, e, if_neg (by decide)]
theorem CAt.set9 {w : World} {g : Nat} {pc : Int} (h : CAt w g ⟨noRegs, pc, noData, true⟩) : CAt (w.setCell ⟨g, 9, none⟩ (.int .i64 5)) g (CHalt pc true) := h.set 9 (by decide) 5
theorem CAt.setPc {w : World} {g : Nat} {c : Cp} (h : CAt w g c) (p : Int) : CAt (w.setCell ⟨g, 32, none⟩ (.int .i64 p)) g (c.go p) := by
  refine ⟨?_, h.ok.go p⟩
  rw [heap_setCell_same _ _ _ _ _ _ h.cells, List.setIfInBounds_toArray]
  have : (cpuCells c).set 32 (.int .i64 p) = cpuCells (c.go p) := by
    unfold cpuCells Cp.go
    rw [List.set_append_right _ _ (by simp [i64s, h.ok.r])]
    simp [i64s, h.ok.r]
  rw [this]
theorem CAt.other {w : World} {g g' i : Nat} {c : Cp} {u : Value} (h : CAt w g c) (hn : g ≠ g') : CAt (w.setCell ⟨g', i, none⟩ u) g c := ⟨(heap_setCell_other _ _ _ _ (by simpa using hn)).trans h.cells, h.ok⟩
theorem wpList_load_wantedH {P : Program} {ops : Array Oper} {rest : List Oper} {o : Oper} {a : Act} {w : World} {Q : Exit → Act → World → Prop} (hw : Region.wanted o (yielded ops a.tmps) = true) (ty : TypeId) (x : Operand) (ho : o.op = .load ty x)
    (g : Nat) (hx : a.eval x = .pointer (some ⟨g, 0, none⟩)) (t : TypeId) (cs : Array Value) (fr : Nat × Nat) (d : TypeDesc) (hg : w.heap[g]? = some (.cells cs t fr))
    (hu : P.underlying ty = some d) (hd : (match d with | .struct _ | .array _ _ => true | _ => false) = true) (hi : (P.info? ty).map (·.size) = some cs.size)
    (h : wpList P ops Q rest (a.put o.dst (.agg cs)) w) : wpList P ops Q (o :: rest) a w := by
  simp only [wpList, hw, if_true]
  exact Or.inl (wp_load_row ty x ho g hx t cs fr d hg hu hd hi h)
theorem CAt.setHalt {w : World} {g : Nat} {c : Cp} (h : CAt w g c) (b : Bool) : CAt (w.setCell ⟨g, 97, none⟩ (.bool b)) g { c with halted := b } := by
  refine ⟨?_, ⟨h.ok.r, h.ok.d⟩⟩
  rw [heap_setCell_same _ _ _ _ _ _ h.cells, List.setIfInBounds_toArray]
  have : (cpuCells c).set 97 (.bool b) = cpuCells { c with halted := b } := by
    unfold cpuCells
    dsimp only
    rw [List.set_append_right _ _ (by simp [i64s, h.ok.r]), show 97 - (i64s c.regs).length = 64 + 1 by simp [i64s, h.ok.r], List.set_cons_succ, List.set_append_right _ _ (by simp [i64s, h.ok.d])]
    simp [i64s, h.ok.d]
  rw [this]

set_option maxRecDepth 100000 in
set_option maxHeartbeats 4000000 in
theorem cpuHalts_walk (xs : List Mi) (ao : Option Addr) (b off cap : Nat) (pc : Int) (hpc : Fits pc) (w : World) (ht : RvTab w) (hv : WdsAt w ao b off xs) (hcap : xs.length ≤ cap ∧ cap ≤ 9223372036854775807) :
    Calls Tryd.prog 9 #[.slice ao xs.length cap, .int .i64 pc] w fun e w' => e = .returned (.bool true) ∧ Below w.heap.size w w' := by
  obtain ⟨i64i, hi64, hz0, hz1, hz2⟩ := info_parts info64
  have hpk := fun w => picked_big pc 9 w hpc (by decide)
  obtain ⟨pk0, pk1⟩ := pickB_bounds pc 9 (by decide)
  generalize pickB pc 9 = pk at *
  have HV : Hid (∀ V, Below w.heap.size w V → ∀ k (h : k < xs.length), V.rangeAt b (off + k * 5) (miC xs[k])) := fun V hV k h => range_below (hv.cells k h).1 hV (hv.cells k h).2
  have HT : Hid (∀ V, Below w.heap.size w V → RvTab V) := fun V hV => ht.below hV
  have HAO : Hid (0 < xs.length → ao = some ⟨b, off, none⟩) := hv.at_
  have HFX : Hid (∀ x ∈ xs, MiFit x) := hv.fit
  obtain ⟨ws, hws⟩ : ∃ ws, ws = (xs.map mkRv).map wordI := ⟨_, rfl⟩
  have HWS : Hid (ws = (xs.map mkRv).map wordI) := hws
  obtain ⟨n, hn⟩ : ∃ n, n = xs.length := ⟨_, rfl⟩
  have HL : Hid (xs.length = n) := hn.symm
  rw [← hn] at hcap ⊢
  obtain ⟨hc1, hc2⟩ := hcap
  clear hv ht hws hn hpc
  go_enter Tryd.func9, Tryd.ntmps9
  go_wp2
  go_loopw [5, 6] (fun o i wr => ∃ k : Nat, k ≤ n ∧ k ≤ 12 ∧ i = .int .i64 k ∧ wr.ownsRow w.heap.size 3 1 o k (i64s (ws.take k)) ∧ Below w.heap.size w wr) (fun _ i _ => 12 - (intOf i).toNat)
  case atStart => exact ⟨0, Nat.zero_le _, Nat.zero_le _, rfl, World.ownsRow_nil _ _ _ _, Below.refl _ _⟩
  case round =>
    obtain ⟨k, hk, hk12, rfl, hr, hb⟩ := hrel
    have hz : w.heap.size ≤ wr.heap.size := hb.size
    have HB : Hid (Below w.heap.size w wr) := hb
    obtain ⟨ao1, cap1, rfl⟩ := own_shape hr
    by_cases hlt : k < n ∧ k < 12
    · have hkl : k < xs.length := by rw [HL.out]; exact hlt.1
      obtain rfl := HAO.out (by omega)
      have HRG : Hid (wr.rangeAt b (off + k * 5) (miC xs[k])) := HV.out wr hb k hkl
      have hft := HFX.out _ (List.getElem_mem hkl)
      have HKR : Hid (Calls Tryd.prog 23 #[.agg (miC xs[k]).toArray] wr fun e w' => e = .returned (.agg (miC (mkRv xs[k])).toArray) ∧ Below wr.heap.size wr w') := krv_any xs[k] wr hft.op hft.rd hft.rs1 hft.rs2 hft.imm
      have hok := mkRv_ok xs[k]
      have HEN : Hid (∀ V, Below w.heap.size w V → Calls Tryd.prog 22 #[.agg (miC (mkRv xs[k])).toArray] V fun e w' => e = .returned (.tuple #[.int .i64 (wordI (mkRv xs[k])), .int .i64 0]) ∧ Below V.heap.size V w') := fun V hV => by
        have hen := rencode_any (mkRv xs[k]) V (HT.out V hV)
        rw [(enc_word hok).1, (enc_word hok).2] at hen
        exact hen
      have hkw : k < ws.length := by rw [HWS.out]; simpa using hkl
      have HTK : Hid (i64s (ws.take k) ++ i64s [wordI (mkRv xs[k])] = i64s (ws.take (k + 1))) := by
        show _ = _
        rw [← i64s_append, List.take_succ_eq_append_getElem hkw]
        congr 2
        simp [HWS.out]
      generalize wordI (mkRv xs[k]) = x at HEN HTK
      generalize mkRv xs[k] = Y at HKR HEN
      generalize xs[k] = X at HRG HKR
      have hkI : (k : Int) < n := by omega
      have hkI2 : (k : Int) < 12 := by omega
      have HR : Hid (wr.ownsRow w.heap.size 3 1 (.slice ao1 k cap1) k (i64s (ws.take k))) := hr
      clear hb hr hok hkl hft hkw HAO
      go_wp2_with (first
        | (refine wpList_load_mid rfl 48 _ rfl b (off + k * 5) rfl (miC X) _ HRG.out Tryd.underlying48 rfl infoWd ?_)
        | (go_at_call 23; refine HKR.out.mono ?_; rintro e w0 ⟨rfl, hb0⟩; have HB0 : Hid (Below wr.heap.size wr w0) := hb0; clear hb0)
        | (go_at_call 22; refine (HEN.out _ (HB.out.trans (HB0.out.mono hz))).mono ?_; rintro e w1 ⟨rfl, hb1⟩; have HB1 : Hid (Below wr.heap.size wr w1) := HB0.out.trans (hb1.mono HB0.out.size); have HR1 : Hid (w1.ownsRow w.heap.size 3 1 (.slice ao1 k cap1) k (i64s (ws.take k))) := ownsRow_below HR.out HB1.out; have hz1w := HB1.out.size; clear hb1)
        | (at_builtin; refine wpList_append_own _ rfl (.tmp 38) (.tmp 40) 22 rfl w.heap.size 3 i64i _ 1 8 Tryd.underlying22 hi64 hz0 hz1 hz2 rfl (by decide) _ _ _ rfl (HR1.out.alloc _) ⟨w1.heap.size, 0, none⟩ 1 1 (i64s [x]) rfl rfl (news_list _ _ _ _ rfl) (i64s_one _) (by unfold maxLen; omega) (by omega) (by simp; omega) ?_; intro v2 w2 hown2 hg2 _))
      rw [HTK.out] at hown2
      go_roundw
      case rel => exact ⟨k + 1, by omega, by omega, by go_num, hown2, ((HB.out.trans (HB1.out.mono hz)).alloc (by omega) _).trans (grown_base (HR1.out.alloc _) (by simp; omega) hg2)⟩
      case measure => simp [intOf]; omega
    · have hkw : (ws.take k).length = k := by
        have : ws.length = n := by rw [HWS.out]; simp [HL.out]
        rw [List.length_take]; omega
      have HI : Hid (∀ V, Below wr.heap.size wr V → IntsVal V (.slice ao1 k cap1) (ws.take k)) := fun V hV => (ints_of_own (base := w.heap.size) (l := ws.take k) (by rw [hkw]; exact hr)).keeps (keeps_below hV)
      have HST : Hid (∀ V, RvTab V → IntsVal V (.slice ao1 k cap1) (ws.take k) → Calls Tryd.prog 14 #[.slice ao1 k cap1, .agg (cpuCells (CHalt pc true)).toArray] V fun e w' => e = .returned (.tuple #[.agg (cpuCells (CHalt pc true)).toArray, .int .i64 0]) ∧ Below V.heap.size V w') := fun V hV hI => by
        have := cpuStep_any (CHalt pc true) (chalt_ok _ _) (ws.take k) ao1 cap1 V hV (by rw [hkw]; exact hI)
        rw [hkw, chalt_step _ _ (by omega)] at this
        exact this
      have HRU : Hid (∀ V, RvTab V → IntsVal V (.slice ao1 k cap1) (ws.take k) → Calls Tryd.prog 17 #[.slice ao1 k cap1, .agg (cpuCells (CHalt pc true)).toArray, .int .i64 3] V fun e w' => e = .returned (.tuple #[.agg (cpuCells (CHalt pc true)).toArray, .int .i64 0, .int .i64 0]) ∧ Below V.heap.size V w') := fun V hV hI => by
        have := cpuRun_any (CHalt pc true) (chalt_ok _ _) (ws.take k) ao1 cap1 3 V hV (by rw [hkw]; exact hI)
        rw [hkw, chalt_run _ _ (by omega)] at this
        exact this
      have HS3 : Hid (∀ V, RvTab V → IntsVal V (.slice ao1 k cap1) (ws.take k) → Calls Tryd.prog 14 #[.slice ao1 k cap1, .agg (cpuCells (CHalt ((k : Int) + pk) false)).toArray] V fun e w' => e = .returned (.tuple #[.agg (cpuCells zeroCp).toArray, .int .i64 8]) ∧ Below V.heap.size V w') := fun V hV hI => by
        have := cpuStep_any (CHalt ((k : Int) + pk) false) (chalt_ok _ _) (ws.take k) ao1 cap1 V hV (by rw [hkw]; exact hI)
        rw [hkw, chalt_far _ _ (by omega) (by omega)] at this
        exact this
      generalize ws.take k = wk at HI HST HRU HS3
      have hor : (¬ (k : Int) < n ∧ decide ((k : Int) < n) = false ∧ decide (k < n) = false ∧ True ∧ True) ∨ ((k : Int) < n ∧ decide ((k : Int) < n) = true ∧ decide (k < n) = true ∧ decide ((k : Int) < 12) = false ∧ decide (k < 12) = false) := by
        by_cases h1 : k < n
        · right
          have h2 : ¬ k < 12 := fun h2 => hlt ⟨h1, h2⟩
          exact ⟨by omega, by simp; omega, by simpa using h1, by simp; omega, by simpa using h2⟩
        · left
          exact ⟨by omega, by simp; omega, by simpa using h1, trivial, trivial⟩
      clear hr hb HV HFX HWS HAO hkw hlt
      rcases hor with ⟨-, dA, dN, -, -⟩ | ⟨-, dA, dN, dB, dM⟩
      all_goals
        go_upto_region 10 with (first | (refine wpList_build_to rfl _ _ rfl (cpuCells ⟨noRegs, pc, noData, true⟩).toArray (by simpa [Act.eval, Act.put] using built_h pc) ?_) | (refine wpList_store_row rfl _ _ _ rfl _ (cpuCells ⟨noRegs, pc, noData, true⟩).toArray rfl rfl _ _ (heap_alloc_last wr _) (infoCpC ⟨rfl, rfl⟩) (by rw [zc_cp, List.size_toArray, cp_len ⟨rfl, rfl⟩]) (cp_one _) ?_))
        have HCa : Hid (CAt ((wr.alloc (.cells Tryd.zeroCells26 26)).setRow wr.heap.size (cpuCells ⟨noRegs, pc, noData, true⟩).toArray) wr.heap.size ⟨noRegs, pc, noData, true⟩) := CAt.row ⟨rfl, rfl⟩ (heap_alloc_last wr _)
        have HGa : Hid (Below wr.heap.size wr ((wr.alloc (.cells Tryd.zeroCells26 26)).setRow wr.heap.size (cpuCells ⟨noRegs, pc, noData, true⟩).toArray)) := below_setRowR ((Below.refl _ _).alloc (Nat.le_refl _) _) (Nat.le_refl _) _
        generalize ((wr.alloc (.cells Tryd.zeroCells26 26)).setRow wr.heap.size (cpuCells ⟨noRegs, pc, noData, true⟩).toArray) = Wa at HCa HGa ⊢
        have ka := HCa.out.reg 9 (by decide)
        have fa := HCa.out.free 9
        have HCb : Hid (CAt (Wa.setCell ⟨wr.heap.size, 9, none⟩ (.int .i64 5)) wr.heap.size (CHalt pc true)) := HCa.out.set9
        have HGb : Hid (Below wr.heap.size wr (Wa.setCell ⟨wr.heap.size, 9, none⟩ (.int .i64 5))) := HGa.out.setCell (Nat.le_refl _) _
        go_upto_region 11 with fail
        generalize Wa.setCell ⟨wr.heap.size, 9, none⟩ (.int .i64 5) = Wb at HCb HGb ⊢
        clear ka fa HCa HGa
        generalize hgc : wr.heap.size = gc at *
        go_upto_region 12 with (first | (refine wpList_load_row rfl _ _ rfl _ rfl _ _ _ _ HCb.out.cells Tryd.underlying26 rfl (infoCpC HCb.out.ok) ?_) | (go_at_call 14; refine (HST.out _ (HT.out _ (HB.out.trans (HGb.out.mono hz))) (HI.out _ HGb.out)).mono ?_; rintro e w1 ⟨rfl, hbx⟩; have HX : Hid (Below Wb.heap.size Wb w1) := hbx; clear hbx) | (refine wpList_store_row rfl _ _ _ rfl _ (cpuCells (CHalt pc true)).toArray rfl rfl _ _ (heap_alloc_last w1 _) (infoCpC (chalt_ok _ _)) (by rw [zc_cp, List.size_toArray, cp_len (chalt_ok _ _)]) (cp_one _) ?_))
        have lb := HCb.out.lt
        have HGw : Hid (Below gc wr w1) := HGb.out.trans (HX.out.mono (Nat.le_of_lt lb))
        have hg1 : gc < w1.heap.size := Nat.lt_of_lt_of_le lb HX.out.size
        have HYc : Hid (Below w1.heap.size w1 ((w1.alloc (.cells Tryd.zeroCells26 26)).setRow w1.heap.size (cpuCells (CHalt pc true)).toArray)) := below_setRowR ((Below.refl _ _).alloc (Nat.le_refl _) _) (Nat.le_refl _) _
        have HCc : Hid (CAt ((w1.alloc (.cells Tryd.zeroCells26 26)).setRow w1.heap.size (cpuCells (CHalt pc true)).toArray) gc (CHalt pc true)) := (HCb.out.below HX.out lb).below HYc.out hg1
        have HDc : Hid (CAt ((w1.alloc (.cells Tryd.zeroCells26 26)).setRow w1.heap.size (cpuCells (CHalt pc true)).toArray) w1.heap.size (CHalt pc true)) := CAt.row (chalt_ok _ _) (heap_alloc_last w1 _)
        have HGc : Hid (Below gc wr ((w1.alloc (.cells Tryd.zeroCells26 26)).setRow w1.heap.size (cpuCells (CHalt pc true)).toArray)) := HGw.out.trans (HYc.out.mono (Nat.le_of_lt hg1))
        clear HYc HGw HX HCb HGb lb
        generalize ((w1.alloc (.cells Tryd.zeroCells26 26)).setRow w1.heap.size (cpuCells (CHalt pc true)).toArray) = Wc at HCc HDc HGc ⊢
        generalize w1.heap.size = gd at *
        go_upto_region 13 with (first | (refine wpList_load_row rfl _ _ rfl _ rfl _ _ _ _ HCc.out.cells Tryd.underlying26 rfl (infoCpC HCc.out.ok) ?_) | (go_at_call 17; refine (HRU.out _ (HT.out _ (HB.out.trans (HGc.out.mono hz))) (HI.out _ HGc.out)).mono ?_; rintro e w2 ⟨rfl, hbx⟩; have HX : Hid (Below Wc.heap.size Wc w2) := hbx; clear hbx) | (refine wpList_store_row rfl _ _ _ rfl _ (cpuCells (CHalt pc true)).toArray rfl rfl _ _ (heap_alloc_last w2 _) (infoCpC (chalt_ok _ _)) (by rw [zc_cp, List.size_toArray, cp_len (chalt_ok _ _)]) (cp_one _) ?_))
        have lc := HCc.out.lt
        have ldd := HDc.out.lt
        have hg2 : Wc.heap.size ≤ w2.heap.size := HX.out.size
        have HGw : Hid (Below gc wr w2) := HGc.out.trans (HX.out.mono (Nat.le_of_lt lc))
        have HYc : Hid (Below w2.heap.size w2 ((w2.alloc (.cells Tryd.zeroCells26 26)).setRow w2.heap.size (cpuCells (CHalt pc true)).toArray)) := below_setRowR ((Below.refl _ _).alloc (Nat.le_refl _) _) (Nat.le_refl _) _
        have HCd : Hid (CAt ((w2.alloc (.cells Tryd.zeroCells26 26)).setRow w2.heap.size (cpuCells (CHalt pc true)).toArray) gc (CHalt pc true)) := (HCc.out.below HX.out lc).below HYc.out (by omega)
        have HDd : Hid (CAt ((w2.alloc (.cells Tryd.zeroCells26 26)).setRow w2.heap.size (cpuCells (CHalt pc true)).toArray) gd (CHalt pc true)) := (HDc.out.below HX.out ldd).below HYc.out (by omega)
        have HRd : Hid (CAt ((w2.alloc (.cells Tryd.zeroCells26 26)).setRow w2.heap.size (cpuCells (CHalt pc true)).toArray) w2.heap.size (CHalt pc true)) := CAt.row (chalt_ok _ _) (heap_alloc_last w2 _)
        have HGd : Hid (Below gc wr ((w2.alloc (.cells Tryd.zeroCells26 26)).setRow w2.heap.size (cpuCells (CHalt pc true)).toArray)) := HGw.out.trans (HYc.out.mono (by omega))
        have hg3 : gc < w2.heap.size := by omega
        clear HYc HGw HX HCc HDc HGc lc ldd hg2
        generalize ((w2.alloc (.cells Tryd.zeroCells26 26)).setRow w2.heap.size (cpuCells (CHalt pc true)).toArray) = Wd at HCd HDd HRd HGd ⊢
        generalize w2.heap.size = gr at *
        have k97 := HCd.out.halt
        have f97 := HCd.out.free 97
        have hCe := HCd.out.setHalt false
        have k32 := hCe.pc
        have f32 := hCe.free 32
        replace k32 : (Wd.setCell ⟨gc, 97, none⟩ (.bool false)).cell? ⟨gc, 32, none⟩ = some (.int .i64 pc) := k32
        have HCf : Hid (CAt ((Wd.setCell ⟨gc, 97, none⟩ (.bool false)).setCell ⟨gc, 32, none⟩ (.int .i64 ((k : Int) + pk))) gc (CHalt ((k : Int) + pk) false)) := hCe.setPc _
        have HDf : Hid (CAt ((Wd.setCell ⟨gc, 97, none⟩ (.bool false)).setCell ⟨gc, 32, none⟩ (.int .i64 ((k : Int) + pk))) gd (CHalt pc true)) := (HDd.out.other (by omega)).other (by omega)
        have HRf : Hid (CAt ((Wd.setCell ⟨gc, 97, none⟩ (.bool false)).setCell ⟨gc, 32, none⟩ (.int .i64 ((k : Int) + pk))) gr (CHalt pc true)) := (HRd.out.other (by omega)).other (by omega)
        have HGf : Hid (Below gc wr ((Wd.setCell ⟨gc, 97, none⟩ (.bool false)).setCell ⟨gc, 32, none⟩ (.int .i64 ((k : Int) + pk)))) := (HGd.out.setCell (Nat.le_refl _) _).setCell (Nat.le_refl _) _
        clear hCe
        go_upto_region 15 with (go_at_call 19; refine (hpk _).mono ?_; rintro e w' ⟨rfl, hw'⟩; replace hw' := hw'.symm; subst hw')
        generalize (Wd.setCell ⟨gc, 97, none⟩ (.bool false)).setCell ⟨gc, 32, none⟩ (.int .i64 ((k : Int) + pk)) = Wf at HCf HDf HRf HGf ⊢
        clear k97 f97 k32 f32 HCd HDd HRd HGd
        go_upto_region 16 with (first | (refine wpList_load_row rfl _ _ rfl _ rfl _ _ _ _ HCf.out.cells Tryd.underlying26 rfl (infoCpC HCf.out.ok) ?_) | (go_at_call 14; refine (HS3.out _ (HT.out _ (HB.out.trans (HGf.out.mono hz))) (HI.out _ HGf.out)).mono ?_; rintro e w3 ⟨rfl, hbx⟩; have HX : Hid (Below Wf.heap.size Wf w3) := hbx; clear hbx) | (refine wpList_store_row rfl _ _ _ rfl _ (cpuCells zeroCp).toArray rfl rfl _ _ (heap_alloc_last w3 _) (infoCpC zero_ok) (by rw [zc_cp, List.size_toArray, cp_len zero_ok]) (cp_one _) ?_))
        have lc := HCf.out.lt
        have ldd := HDf.out.lt
        have lr := HRf.out.lt
        have hg4 : Wf.heap.size ≤ w3.heap.size := HX.out.size
        have HYc : Hid (Below w3.heap.size w3 ((w3.alloc (.cells Tryd.zeroCells26 26)).setRow w3.heap.size (cpuCells zeroCp).toArray)) := below_setRowR ((Below.refl _ _).alloc (Nat.le_refl _) _) (Nat.le_refl _) _
        have HCg : Hid (CAt ((w3.alloc (.cells Tryd.zeroCells26 26)).setRow w3.heap.size (cpuCells zeroCp).toArray) gc (CHalt ((k : Int) + pk) false)) := (HCf.out.below HX.out lc).below HYc.out (by omega)
        have HDg : Hid (CAt ((w3.alloc (.cells Tryd.zeroCells26 26)).setRow w3.heap.size (cpuCells zeroCp).toArray) gd (CHalt pc true)) := (HDf.out.below HX.out ldd).below HYc.out (by omega)
        have HRg : Hid (CAt ((w3.alloc (.cells Tryd.zeroCells26 26)).setRow w3.heap.size (cpuCells zeroCp).toArray) gr (CHalt pc true)) := (HRf.out.below HX.out lr).below HYc.out (by omega)
        have HGg : Hid (Below gc wr ((w3.alloc (.cells Tryd.zeroCells26 26)).setRow w3.heap.size (cpuCells zeroCp).toArray)) := (HGf.out.trans (HX.out.mono (Nat.le_of_lt lc))).trans (HYc.out.mono (by omega))
        clear HYc HX HCf HDf HRf HGf lc ldd lr hg4
        generalize ((w3.alloc (.cells Tryd.zeroCells26 26)).setRow w3.heap.size (cpuCells zeroCp).toArray) = Wg at HCg HDg HRg HGg ⊢
        have k97 := HCg.out.halt
        have f97 := HCg.out.free 97
        have hCe := HCg.out.setHalt true
        have k32 := hCe.pc
        have f32 := hCe.free 32
        replace k32 : (Wg.setCell ⟨gc, 97, none⟩ (.bool true)).cell? ⟨gc, 32, none⟩ = some (.int .i64 ((k : Int) + pk)) := k32
        have HCh : Hid (CAt ((Wg.setCell ⟨gc, 97, none⟩ (.bool true)).setCell ⟨gc, 32, none⟩ (.int .i64 pc)) gc (CHalt pc true)) := hCe.setPc _
        have HDh : Hid (CAt ((Wg.setCell ⟨gc, 97, none⟩ (.bool true)).setCell ⟨gc, 32, none⟩ (.int .i64 pc)) gd (CHalt pc true)) := (HDg.out.other (by omega)).other (by omega)
        have HRh : Hid (CAt ((Wg.setCell ⟨gc, 97, none⟩ (.bool true)).setCell ⟨gc, 32, none⟩ (.int .i64 pc)) gr (CHalt pc true)) := (HRg.out.other (by omega)).other (by omega)
        have HBh : Hid (Below w.heap.size w ((Wg.setCell ⟨gc, 97, none⟩ (.bool true)).setCell ⟨gc, 32, none⟩ (.int .i64 pc))) := HB.out.trans (((HGg.out.setCell (Nat.le_refl _) _).setCell (Nat.le_refl _) _).mono hz)
        clear hCe
        go_upto_region 18 with fail
        generalize (Wg.setCell ⟨gc, 97, none⟩ (.bool true)).setCell ⟨gc, 32, none⟩ (.int .i64 pc) = Wh at HCh HDh HRh HBh ⊢
        have qc := HCh.out.cells
        have qd := HDh.out.cells
        have qr := HRh.out.cells
        have hqq := equal_cp (CHalt pc true) (chalt_ok _ _)
        have HIC : Hid ((Tryd.prog.info? 26).map (·.size) = some (cpuCells (CHalt pc true)).toArray.size) := infoCpC (chalt_ok _ _)
        generalize (cpuCells (CHalt pc true)).toArray = CC at qc qd qr hqq HIC ⊢
        have QC : Hid (Wh.heap[gc]? = some (.cells CC 26 (0, 0))) := qc
        have QD : Hid (Wh.heap[gd]? = some (.cells CC 26 (0, 0))) := qd
        have QR : Hid (Wh.heap[gr]? = some (.cells CC 26 (0, 0))) := qr
        clear qc qd qr k97 f97 k32 f32 HCg HDg HRg HGg HCh HDh HRh HST HRU HS3 HI HT
        go_wp2_with (first | (refine wpList_load_wantedH rfl _ _ rfl gc rfl _ _ _ _ QC.out Tryd.underlying26 rfl HIC.out ?_) | (refine wpList_load_wantedH rfl _ _ rfl gd rfl _ _ _ _ QD.out Tryd.underlying26 rfl HIC.out ?_) | (refine wpList_load_wantedH rfl _ _ rfl gr rfl _ _ _ _ QR.out Tryd.underlying26 rfl HIC.out ?_))
        go_ret
        exact ⟨by simp, HBh.out⟩
end Go.Proofs.YtapjfiihfgndeaaDoor
