import Derived.Test.YtldbmdgpdolaaaaDoorPGroupA
import Derived.Test.YtldbmdgpdolaaaaDoorPXLineMath
namespace Go.Proofs.YtldbmdgpdolaaaaDoor
open Go Go.RowKit

theorem codeCells_snocL (xs : List Ins) (x : Ins) : codeCells (xs ++ [x]) = codeCells xs ++ insCells x := by simp [codeCells]
theorem insCells_oneL (x : Ins) : ∀ u ∈ insCells x, u.oneCell' = true := fun u hu => codeCells_one [x] u (by simpa [codeCells] using hu)
def lineS (q : Nat) : List Ins := (List.range q).map (fun (i : Nat) => (⟨1, (i : Int), 0, 0, (i : Int)⟩ : Ins))
theorem lineS_succ (q : Nat) : lineS (q + 1) = lineS q ++ [⟨1, (q : Int), 0, 0, (q : Int)⟩] := by simp [lineS, List.range_succ]
def lineA (k j : Nat) : List Ins := lineS k ++ (List.range (j - 1)).map (fun (i : Nat) => (⟨2, 0, 0, ((i + 1 : Nat) : Int), 0⟩ : Ins))
theorem lineA_succ (k j : Nat) (h : 1 ≤ j) : lineA k (j + 1) = lineA k j ++ [⟨2, 0, 0, (j : Int), 0⟩] := by
  unfold lineA
  rw [show j + 1 - 1 = (j - 1) + 1 by omega, List.range_succ, List.map_append, ← List.append_assoc]
  simp only [List.map_cons, List.map_nil]
  rw [show j - 1 + 1 = j by omega]
theorem lineA_one (k : Nat) : lineA k 1 = lineS k := by simp [lineA]
theorem lineC_eq (k : Nat) : lineC k = lineA k k ++ [⟨19, 0, 0, 0, 0⟩] := by
  unfold lineC lineA lineS; rw [List.append_assoc]
theorem grown_baseC {w w' : World} {base t n : Nat} {v : Value} {xs : List Value} (h : w.ownsRow base t 5 v n xs) (hb : base ≤ w.heap.size) (hg : w.grownBy w' v.ownBlock) : Below base w w' :=
  ⟨hg.os, hg.tape, hg.output, hg.size, fun i hi => hg.block i (by omega) (fun e => by have := World.ownsRow.lt h i e.symm; omega)⟩
theorem prog_built {w4 : World} {v : Value} {c : List Ins} (hc : CodeVal w4 v c) (pa rg : Int) : ProgVal ((w4.alloc (.cells #[.int .i64 pa, .int .i64 rg, v] 44)).alloc (.cells #[.slice (some ⟨w4.heap.size, 0, none⟩) 1 1] 25)) (.slice (some ⟨w4.heap.size, 0, none⟩) 1 1) [⟨pa, rg, c⟩] := by
  have r2 := heap_alloc_last w4 (.cells #[.int .i64 pa, .int .i64 rg, v] 44)
  have c2 := fun (j : Nat) => cell_of_row _ _ j _ _ _ r2
  have hk1 : Keeps w4 (w4.alloc (.cells #[.int .i64 pa, .int .i64 rg, v] 44)) := keeps_below ((Below.refl _ _).alloc (Nat.le_refl _) _)
  refine ProgVal.keeps ?_ (keeps_below ((Below.refl _ _).alloc (Nat.le_refl _) _))
  refine ⟨some ⟨w4.heap.size, 0, none⟩, w4.heap.size, 0, 1, 1, rfl, ⟨rfl, fun _ => rfl, fun k hk => ?_⟩, ⟨by decide, by simp⟩, by decide⟩
  obtain rfl : k = 0 := by have : k < 1 := hk; omega
  exact ⟨_, (c2 _).trans rfl, (c2 _).trans rfl, (c2 _).trans rfl, hc.keeps hk1⟩
set_option maxHeartbeats 8000000 in
set_option maxRecDepth 100000 in
theorem assignLine_walk (n : Int) (hn : I64 n) (w : World) (ht : TabOk w) (hc : CallOk w) :
    Calls Tryd.prog 4 #[.int .i64 n] w fun e w' => e = .returned (.bool true) ∧ Below w.heap.size w w' := by
  obtain ⟨iI, hiI, hzI0, hzI1, hzI2⟩ := info_parts infoI
  have HT : Hid (TabOk w) := ht
  have HCO : Hid (CallOk w) := hc
  clear ht hc
  have hpb := pickI_bounds n 11 (by omega)
  obtain ⟨p, hp⟩ := Int.eq_ofNat_of_zero_le hpb.1
  have hp11 : p < 11 := by omega
  clear hpb
  obtain ⟨k, hk⟩ : ∃ k, k = p + 2 := ⟨_, rfl⟩
  have h2 : 2 ≤ k := by omega
  have h12 : k ≤ 12 := by omega
  have hkw : IntKind.i64.wrap (2 + (p : Int)) = (k : Int) := by rw [show 2 + (p : Int) = (k : Int) by omega]; exact wrap_fits _ (by omega) (by omega)
  have hkv : (((p + 2 : Nat)) : Int) = (k : Int) := by omega
  have hpk : (p : Int) + 2 = (k : Int) := by omega
  go_enter Tryd.func4, Tryd.ntmps4
  go_upto_region 2 with (go_at_call 6; refine (picked_any _ _ _ hn (by omega) (by omega)).mono ?_; rintro e w' ⟨rfl, hw'⟩; replace hw' := hw'.symm; subst hw'; rw [hp])
  go_upto_region 4 with fail
  clear hk hp hp11 hpk hkw hkv
  go_loopw [4, 5] (fun v i wr => ∃ (q : Nat) (ao : Option Addr) (cap : Nat), q ≤ k ∧ i = .int .i64 q ∧ v = .slice ao q cap ∧ wr.ownsRow w.heap.size 42 5 v q (codeCells (lineS q)) ∧ Below w.heap.size w wr) (fun _ i _ => k - (intOf i).toNat)
  case atStart => exact ⟨0, none, 0, Nat.zero_le _, rfl, rfl, ⟨by simp [codeCells, lineS], Or.inl ⟨rfl, rfl⟩⟩, Below.refl _ _⟩
  case round =>
    obtain ⟨q, ao, cap, hq, rfl, rfl, hown, hbr⟩ := hrel
    rename World => wr
    have HBR : Hid (Below w.heap.size w wr) := hbr
    by_cases hlq : q < k
    · have hqI : (q : Int) < k := by omega
      have OW : Hid (wr.ownsRow w.heap.size 42 5 (.slice ao q cap) q (codeCells (lineS q))) := hown
      have a1 : q + 1 ≤ maxLen := by unfold maxLen; omega
      have a2 : (q + 1) * 40 ≤ 140737488355328 := by omega
      have hzz := hbr.size
      have a3 : ∀ ob, w.heap.size ≤ (wr.alloc ob).heap.size := fun ob => by simp; omega
      have a4 : ∀ ob, (wr.alloc ob).heap.size = wr.heap.size + 1 := fun ob => by simp
      have HGB : Hid (∀ ob W', (wr.alloc ob).grownBy W' (Value.slice ao q cap).ownBlock → Below w.heap.size w W') := fun ob W' h => HBR.out.trans (((Below.refl _ _).alloc hzz ob).trans (grown_baseC (OW.out.alloc ob) (by simp; omega) h))
      clear hown hbr hzz
      go_wp2_with (at_builtin; refine wpList_append_lies _ rfl (.tmp 22) (.tmp 26) 40 rfl w.heap.size 42 iI _ 5 40 Tryd.underlying40 hiI hzI0 hzI1 hzI2 rfl (by decide) (.slice ao q cap) q (codeCells (lineS q)) rfl (OW.out.alloc _) ⟨wr.heap.size, 0, none⟩ 1 1 (insCells ⟨1, (q : Int), 0, 0, (q : Int)⟩) rfl rfl (news_list _ _ _ _ rfl) (insCells_oneL _) (by decide) a1 a2 (a3 _) (wr.heap.size + 1) (a4 _) ?_; intro g4 cap4 w4 hown4 hg4 hat4 hlt4; have HB4 := HGB.out _ _ hg4)
      go_roundw
      case rel => exact ⟨q + 1, _, _, by omega, by go_num, rfl, by rw [lineS_succ, codeCells_snocL]; exact hown4, HB4⟩
      case measure => simp [intOf]; omega
    · obtain rfl : k = q := by omega
      have OW : Hid (wr.ownsRow w.heap.size 42 5 (.slice ao k cap) k (codeCells (lineS k))) := hown
      clear hown hbr hlq hq
      go_upto_region 8 with fail
      go_loopw [4, 6] (fun v i wr => ∃ (j : Nat) (ao : Option Addr) (cap : Nat), 1 ≤ j ∧ j ≤ k ∧ i = .int .i64 j ∧ v = .slice ao (k + j - 1) cap ∧ wr.ownsRow w.heap.size 42 5 v (k + j - 1) (codeCells (lineA k j)) ∧ Below w.heap.size w wr) (fun _ i _ => k - (intOf i).toNat)
      case atStart => exact ⟨1, ao, cap, Nat.le_refl _, by omega, rfl, rfl, by rw [lineA_one]; exact OW.out, HBR.out⟩
      case round =>
        clear HBR OW
        obtain ⟨j, ao, cap, hj1, hj, rfl, rfl, hown, hbr⟩ := hrel
        rename World => wr
        have HBR : Hid (Below w.heap.size w wr) := hbr
        by_cases hlj : j < k
        · have hjI : (j : Int) < k := by omega
          obtain ⟨m, hm⟩ : ∃ m, m = k + j - 1 := ⟨_, rfl⟩
          rw [← hm] at hown
          rw [← hm]
          have HLA : Hid (lineA k (j + 1) = lineA k j ++ [⟨2, 0, 0, (j : Int), 0⟩]) := lineA_succ k j hj1
          have HM : Hid (m + 1 = k + (j + 1) - 1) := by show _ = _; omega
          have hm24 : m ≤ 24 := by omega
          have OW : Hid (wr.ownsRow w.heap.size 42 5 (.slice ao m cap) m (codeCells (lineA k j))) := hown
          have a1 : m + 1 ≤ maxLen := by unfold maxLen; omega
          have a2 : (m + 1) * 40 ≤ 140737488355328 := by omega
          have hzz := hbr.size
          have a3 : ∀ ob, w.heap.size ≤ (wr.alloc ob).heap.size := fun ob => by simp; omega
          have a4 : ∀ ob, (wr.alloc ob).heap.size = wr.heap.size + 1 := fun ob => by simp
          have HGB : Hid (∀ ob W', (wr.alloc ob).grownBy W' (Value.slice ao m cap).ownBlock → Below w.heap.size w W') := fun ob W' h => HBR.out.trans (((Below.refl _ _).alloc hzz ob).trans (grown_baseC (OW.out.alloc ob) (by simp; omega) h))
          clear hown hbr hzz hm
          generalize lineA k j = cs at *
          go_wp2_with (at_builtin; refine wpList_append_lies _ rfl (.tmp 33) (.tmp 36) 40 rfl w.heap.size 42 iI _ 5 40 Tryd.underlying40 hiI hzI0 hzI1 hzI2 rfl (by decide) (.slice ao m cap) m (codeCells cs) rfl (OW.out.alloc _) ⟨wr.heap.size, 0, none⟩ 1 1 (insCells ⟨2, 0, 0, (j : Int), 0⟩) rfl rfl (news_list _ _ _ _ rfl) (insCells_oneL _) (by decide) a1 a2 (a3 _) (wr.heap.size + 1) (a4 _) ?_; intro g4 cap4 w4 hown4 hg4 hat4 hlt4; have HB4 := HGB.out _ _ hg4)
          go_roundw
          case rel => exact ⟨j + 1, _, _, by omega, by omega, by go_num, by rw [← HM.out], by rw [← HM.out, HLA.out, codeCells_snocL]; exact hown4, HB4⟩
          case measure => simp [intOf]; omega
        · obtain rfl : k = j := by omega
          obtain ⟨m, hm⟩ : ∃ m, m = k + k - 1 := ⟨_, rfl⟩
          rw [← hm] at hown
          rw [← hm]
          have hm24 : m ≤ 24 := by omega
          have HM : Hid (m + 1 = 2 * k) := by show _ = _; omega
          have OW : Hid (wr.ownsRow w.heap.size 42 5 (.slice ao m cap) m (codeCells (lineA k k))) := hown
          have a1 : m + 1 ≤ maxLen := by unfold maxLen; omega
          have a2 : (m + 1) * 40 ≤ 140737488355328 := by omega
          have hzz := hbr.size
          have a3 : ∀ ob, w.heap.size ≤ (wr.alloc ob).heap.size := fun ob => by simp; omega
          have a4 : ∀ ob, (wr.alloc ob).heap.size = wr.heap.size + 1 := fun ob => by simp
          have HGB : Hid (∀ ob W', (wr.alloc ob).grownBy W' (Value.slice ao m cap).ownBlock → Below w.heap.size w W') := fun ob W' h => HBR.out.trans (((Below.refl _ _).alloc hzz ob).trans (grown_baseC (OW.out.alloc ob) (by simp; omega) h))
          have HLC : Hid (lineC k = lineA k k ++ [⟨19, 0, 0, 0, 0⟩]) := lineC_eq k
          clear hown hbr hzz hm hlj hj hj1
          generalize lineA k k = cs at *
          go_upto_region 12 with (at_builtin; refine wpList_append_lies _ rfl (.tmp 38) (.tmp 40) 40 rfl w.heap.size 42 iI _ 5 40 Tryd.underlying40 hiI hzI0 hzI1 hzI2 rfl (by decide) (.slice ao m cap) m (codeCells cs) rfl (OW.out.alloc _) ⟨wr.heap.size, 0, none⟩ 1 1 (insCells ⟨19, 0, 0, 0, 0⟩) rfl rfl (news_list _ _ _ _ rfl) (insCells_oneL _) (by decide) a1 a2 (a3 _) (wr.heap.size + 1) (a4 _) ?_; intro g4 cap4 w4 hown4 hg4 hat4 hlt4; have HB4 : Hid (Below w.heap.size w w4) := HGB.out _ _ hg4)
          go_upto_region 13 with fail
          have hln : (lineC k).length = m + 1 := (line_len h2).trans HM.out.symm
          have hcd : CodeVal w4 (.slice (some ⟨g4, 0, none⟩) (m + 1) cap4) (lineC k) := code_of_own (base := w.heap.size) (t := 42) (by rw [hln, HLC.out, codeCells_snocL]; exact hown4)
          have HPV : ProgVal ((w4.alloc (.cells #[.int .i64 0, .int .i64 (k : Int), .slice (some ⟨g4, 0, none⟩) (m + 1) cap4] 44)).alloc (.cells #[.slice (some ⟨w4.heap.size, 0, none⟩) 1 1] 25)) (.slice (some ⟨w4.heap.size, 0, none⟩) 1 1) [lineF k] := prog_built hcd 0 (k : Int)
          have HB5 : Below w.heap.size w ((w4.alloc (.cells #[.int .i64 0, .int .i64 (k : Int), .slice (some ⟨g4, 0, none⟩) (m + 1) cap4] 44)).alloc (.cells #[.slice (some ⟨w4.heap.size, 0, none⟩) 1 1] 25)) := HB4.out.trans ((((Below.refl _ _).alloc (Nat.le_refl _) _).alloc (by simp) _).mono HB4.out.size)
          have q0 : ((w4.alloc (.cells #[.int .i64 0, .int .i64 (k : Int), .slice (some ⟨g4, 0, none⟩) (m + 1) cap4] 44)).alloc (.cells #[.slice (some ⟨w4.heap.size, 0, none⟩) 1 1] 25)).cell? ⟨w4.heap.size + 1, 0, none⟩ = some (.slice (some ⟨w4.heap.size, 0, none⟩) 1 1) := by
            have h := heap_alloc_last (w4.alloc (.cells #[.int .i64 0, .int .i64 (k : Int), .slice (some ⟨g4, 0, none⟩) (m + 1) cap4] 44)) (.cells #[.slice (some ⟨w4.heap.size, 0, none⟩) 1 1] 25)
            rw [show (w4.alloc (.cells #[.int .i64 0, .int .i64 (k : Int), .slice (some ⟨g4, 0, none⟩) (m + 1) cap4] 44)).heap.size = w4.heap.size + 1 by simp] at h
            rw [cell_of_row _ _ _ _ _ _ h]; rfl
          have hz1 := HB5.size
          clear hcd hln hown4 hg4 hat4 hlt4 HB4 HLC HGB OW HBR a1 a2 a3 a4
          generalize ((w4.alloc (.cells #[.int .i64 0, .int .i64 (k : Int), .slice (some ⟨g4, 0, none⟩) (m + 1) cap4] 44)).alloc (.cells #[.slice (some ⟨w4.heap.size, 0, none⟩) 1 1] 25)) = V1 at *
          have hR := line_right h2 h12
          have HUR : Hid (∀ q, q < (lineF k).code.length → Way (lineF k) 63 q → ∀ r, r < 12 → (rdMask [lineF k] (insD (lineF k) q)).testBit r = true → ¬ Way (lineF k) r q) := right_reads hR (by simp)
          have HAS : Hid (Calls Tryd.prog 10 #[.agg #[.slice (some ⟨w4.heap.size, 0, none⟩) 1 1], .int .i64 0] V1 (AssignPost V1 [lineF k] (lineF k))) := Assign_right [lineF k] hR 0 (by simp) _ V1 (HT.out.below HB5) (HCO.out.below HB5) HPV
          have HCA : Hid (∀ W, Below V1.heap.size V1 W → Calls Tryd.prog 7 #[.agg #[.slice (some ⟨w4.heap.size, 0, none⟩) 1 1], .int .i64 0] W (ClashPost W [lineF k] (lineF k))) := fun W hb => Clash_right [lineF k] hR 0 (by simp) _ W ((HT.out.below HB5).below hb) ((HCO.out.below HB5).below hb) (HPV.keeps (keeps_below hb))
          have OK : Hid (FlowOk [lineF k] (lineF k)) := line_ok h2 h12
          have HB5' : Hid (Below w.heap.size w V1) := HB5
          obtain ⟨vn, hvn⟩ : ∃ vn, vn = 2 * k - 1 := ⟨_, rfl⟩
          obtain ⟨m2, hm2⟩ : ∃ m2, m2 = 2 * k - 2 := ⟨_, rfl⟩
          have HVN : Hid (vn = 2 * k - 1 ∧ m2 = 2 * k - 2) := ⟨hvn, hm2⟩
          have hvk : k ≤ vn := by omega
          clear hvn hm2
          clear HB5 HPV hR
          go_upto_region 15 with (first
            | (go_at_call 10; refine HAS.out.mono ?_; rintro e w2 hp; obtain ⟨S, T, L, pn, g, D, ar, gP, A, rfl, hIS, hpl, hpc, hgp, hb2, hn3⟩ := hp; obtain ⟨hlen, hcl, -⟩ := line_all h2 h12 hIS HUR.out ar; have hmo := (hIS.clashOk OK.out HUR.out ar).1; rw [← HVN.out.1] at hlen; have HNE : Hid (∀ a b, a < k → b < a → A a ≠ A b) := (fun a b ha hb => PlOk.ne hpl hmo (by rw [hlen]; omega) (by rw [hlen]; omega) (hcl a b ha hb)); rw [hlen] at hpc; rw [hlen]; have q2 := keeps_below hb2 _ _ q0; have HB2 : Hid (Below V1.heap.size V1 w2) := hb2; have HPC : Hid (w2.heap[gP]? = some (.cells (i64s (plT A vn vn)).toArray 3 (0, 0))) := hpc; clear hIS hpl hpc hgp hb2 hn3 hlen hcl hmo HAS)
            | (go_at_call 7; refine (HCA.out _ HB2.out).mono ?_; rintro e w3 hp; obtain ⟨S2, T2, L2, pn2, g2, D2, ar2, gC0, VV, base, rfl, hIS2, hmt, hba, hb3, hn3, hs4⟩ := hp; obtain ⟨hlen, hcl, hno⟩ := line_all h2 h12 hIS2 HUR.out ar2; have hmo := hIS2.clashOk OK.out HUR.out ar2; rw [← HVN.out.1] at hlen; rw [hlen] at hmt hmo; rw [hlen]; have HCL : Hid ((∀ a b : Nat, a < k → b < a → (b : Int) ∈ clashL (lineF k) S2 L2 pn2 g2 D2 ar2 a) ∧ ¬ ((2 * k - 2 : Nat) : Int) ∈ clashL (lineF k) S2 L2 pn2 g2 D2 ar2 0) := ⟨hcl, hno⟩; have HMO : Hid (MetOk vn (clashL (lineF k) S2 L2 pn2 g2 D2 ar2) ∧ ∀ v, (clashL (lineF k) S2 L2 pn2 g2 D2 ar2 v).Pairwise (· < ·)) := hmo; have HMT : Hid (MtAt w3 base gC0 vn VV (clashL (lineF k) S2 L2 pn2 g2 D2 ar2)) := hmt; have HB3 : Hid (Below w2.heap.size w2 w3) := hb3; clear hIS2 hmt hba hb3 hn3 hs4 hlen hcl hno hmo HCA))
          have HBV : Hid (Below w.heap.size w w3) := HB5'.out.trans ((HB2.out.trans (HB3.out.mono HB2.out.size)).mono hz1)
          have HPV : Hid (∀ a, a < vn → w3.cell? ⟨gP, a, none⟩ = some (.int .i64 (A a : Int))) := fun a ha => by
            rw [cell_of_row _ _ _ _ _ _ ((HB3.out.block _ (lt_of_block HPC.out)).trans HPC.out), List.getElem?_toArray]
            simp [i64s, plT, ha]
          have HCF : Hid (∀ a, a < vn → ∃ (ao : Option Addr) (cap : Nat), ∀ W, Below w3.heap.size w3 W → W.cell? ⟨gC0, a, none⟩ = some (.slice ao (clashL (lineF k) S2 L2 pn2 g2 D2 ar2 a).length cap) ∧ IntsVal W (.slice ao (clashL (lineF k) S2 L2 pn2 g2 D2 ar2 a).length cap) (clashL (lineF k) S2 L2 pn2 g2 D2 ar2 a)) := fun a ha => by
            have hown := HMT.out.sl.own a ha
            obtain ⟨ao, q, cap, hv, hle, -, hat⟩ := own_lies hown
            exact ⟨ao, cap, fun W hW => ⟨by rw [← hv]; exact keeps_below hW _ _ (HMT.out.cell ha), by rw [← hv]; exact (ints_of_own hown).keeps (keeps_below hW)⟩⟩
          have HCN : Hid (¬ (m2 : Int) ∈ clashL (lineF k) S2 L2 pn2 g2 D2 ar2 0) := by show ¬ _; rw [HVN.out.2]; exact HCL.out.2
          have HCY : Hid (∀ a b : Nat, a < k → b < a → (b : Int) ∈ clashL (lineF k) S2 L2 pn2 g2 D2 ar2 a) := HCL.out.1
          clear HMT HCL HMO HPC q0 q2 HB2 HB3 HB5' hz1
          generalize clashL (lineF k) S2 L2 pn2 g2 D2 ar2 = CL at *
          have hw1 : IntKind.i64.wrap (2 * (k : Int)) = ((vn + 1 : Nat) : Int) := by have := HVN.out.1; rw [show 2 * (k : Int) = ((vn + 1 : Nat) : Int) by omega]; exact wrap_fits _ (by omega) (by omega)
          have hw2 : 2 * (k : Int) = (vn : Int) + 1 := by have := HVN.out.1; omega
          have hw3 : (vn : Int) + 1 - 1 = (vn : Int) := by omega
          have hw4 : (vn : Int) + 1 - 2 = (m2 : Int) := by have := HVN.out; omega
          go_upto_region 18 with fail
          go_loopw [12] (fun i wr => ∃ a : Nat, a ≤ k ∧ i = .int .i64 a ∧ Below w3.heap.size w3 wr) (fun i _ => k - (intOf i).toNat)
          case atStart => exact ⟨0, Nat.zero_le _, rfl, Below.refl _ _⟩
          case round =>
            obtain ⟨a, ha, rfl, hbo⟩ := hrel
            rename World => wo
            have HBO : Hid (Below w3.heap.size w3 wo) := hbo
            by_cases hak : a < k
            · have haI : (a : Int) < (k : Int) := by omega
              have haV : (a : Int) < (vn : Int) := by omega
              have haN : ¬ (a : Int) < 0 := by omega
              obtain ⟨aoa, capa, hca⟩ := HCF.out a (by omega)
              have HCE : Hid (∀ W, Below w3.heap.size w3 W → W.cell? ⟨gC0, a, none⟩ = some (.slice aoa (CL a).length capa) ∧ IntsVal W (.slice aoa (CL a).length capa) (CL a)) := hca
              clear hbo hca
              go_upto_region 21 with fail
              go_loopw [13] (fun i wr => ∃ b : Nat, b ≤ a ∧ i = .int .i64 b ∧ Below w3.heap.size w3 wr) (fun i _ => a - (intOf i).toNat)
              case atStart => exact ⟨0, Nat.zero_le _, rfl, HBO.out⟩
              case round =>
                clear HBO
                obtain ⟨b, hb, rfl, hbi⟩ := hrel
                rename World => wi
                have HBI : Hid (Below w3.heap.size w3 wi) := hbi
                by_cases hba : b < a
                · have hbI : (b : Int) < (a : Int) := by omega
                  have hbV : (b : Int) < (vn : Int) := by omega
                  have hbN : ¬ (b : Int) < 0 := by omega
                  obtain ⟨cc, hic⟩ := HCE.out wi hbi
                  have pa := keeps_below hbi _ _ (HPV.out a (by omega))
                  have pb := keeps_below hbi _ _ (HPV.out b (by omega))
                  have hn3 : ¬ A a = A b := HNE.out a b hak hba
                  have hn4 : (A a == A b) = false := beq_eq_false_iff_ne.2 hn3
                  have hn2 : ¬ (A a : Int) = (A b : Int) := by omega
                  have hn1 : ((A a : Int) == (A b : Int)) = false := beq_eq_false_iff_ne.2 hn2
                  have hH := fun m => hasList_any (CL a) (.slice aoa (CL a).length capa) (b : Int) (wi.drewN m) (hic.keeps (fun _ _ e => e))
                  rw [decide_eq_true (HCY.out a b hak hba)] at hH
                  clear hic hbi
                  go_wp2
                  go_quiet ((go_at_call 9; exact (hH _).mono fun _ _ h => ⟨h.1, _, h.2⟩))
                  go_wp2
                  go_roundw
                  case rel => exact ⟨b + 1, by omega, by go_num, below_drewN HBI.out _⟩
                  case measure => simp [intOf]; omega
                · obtain rfl : a = b := by omega
                  clear hbi hba hb
                  go_wp2
                  exact ⟨⟨a + 1, by omega, by go_num, HBI.out⟩, by simp [intOf]; omega⟩
            · obtain rfl : k = a := by omega
              have hv0 : 0 < vn := by omega
              have hv0I : (0 : Int) < (vn : Int) := by omega
              obtain ⟨ao0, cap0, hc0⟩ := HCF.out 0 hv0
              obtain ⟨c0, hi0⟩ := hc0 wo hbo
              have hhas := hasList_any (CL 0) (.slice ao0 (CL 0).length cap0) (m2 : Int) wo hi0
              rw [decide_eq_false HCN.out] at hhas
              clear hbo hak ha hc0 hi0
              go_upto_region 25 with fail
              go_wp2_with (go_at_call 9; refine hhas.mono ?_; rintro e w' ⟨rfl, hw'⟩; replace hw' := hw'.symm; subst hw')
              go_ret
              exact ⟨rfl, HBV.out.trans (HBO.out.mono HBV.out.size)⟩
end Go.Proofs.YtldbmdgpdolaaaaDoor
