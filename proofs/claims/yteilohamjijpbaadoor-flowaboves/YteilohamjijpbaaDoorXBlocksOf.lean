/- Contract of the document's BlocksOf (package tierlineref), of right programs. -/
import Derived.Test.YteilohamjijpbaaDoorXBlockRef
import Derived.Test.YteilohamjijpbaaDoorXLiveOfAll
import Derived.Test.YteilohamjijpbaaDoorXCalledAll
import Derived.Deep.DeepCutAuto
namespace Go.Proofs.YteilohamjijpbaaDoor
open Go Go.RowKit

def RefBlks (f : Fn) (w : World) (e : Ending) (w' : World) : Prop := ∃ v' S T, e = .returned (.tuple #[v', .int .i64 0]) ∧ BlkOk f S T ∧ BlocksVal w' v' f S T ∧ Below w.heap.size w w'
theorem bCells_more {F T T' : Nat → Int} {VV : Nat → Value} {k : Nat} {a b : Int} (hF : F k = a) (hT : T' k = b) (hs : ∀ i, i < k → T' i = T i) (h1 : VV (2 * k) = .slice none 0 0) (h2 : VV (2 * k + 1) = .slice none 0 0) : bCells F T VV k ++ [.int .i64 a, .int .i64 b, .slice none 0 0, .slice none 0 0] = bCells F T' VV (k + 1) := by
  rw [bCells, hF, hT, h1, h2, bCells_same (F := F) (F' := F) (T := T) (T' := T') (VV := VV) (VV' := VV) k (fun i hi => ⟨rfl, (hs i hi).symm, rfl, rfl⟩)]

set_option maxRecDepth 100000 in
set_option maxHeartbeats 16000000 in
theorem blocksOf_right (P : List Fn) (h0 : ProofAns P 0) (k : Nat) (hk : k < P.length) (v : Value) (w : World) (hv : ProgVal w v P) :
    Calls Tryd.prog 13 #[.agg #[v], .int .i64 k] w fun e w' => RefBlks P[k] w e w' := by
  have hbx : ∀ o, Below w.heap.size w (w.alloc o) := fun o => (Below.refl _ _).alloc (Nat.le_refl _) _
  obtain ⟨i64i, hi64, hz0, hz1', hz2⟩ := info_parts info64
  obtain ⟨iB, hiB, hzB0, hzB1, hzB2⟩ := info_parts infoBlk
  have hF := fun o => fault_zeroL P v k hk h0 (w.alloc o) (hv.keeps (keeps_below (hbx o)))
  have OK : Hid (FlowOk P P[k]) := flowOk_of h0 (List.getElem_mem hk)
  have hl1 := OK.out.ok.len1
  have hl2 := OK.out.ok.len2
  obtain ⟨S, hST⟩ := starts_exists OK.out
  have HST : Hid (Starts P[k] S) := hST
  have hSL := starts_len OK.out hST
  obtain ⟨hS0, hS00⟩ := hST.first
  have hS := fun W cv (hcv : CodeVal W cv P[k].code) => sureOf_any P P[k] OK.out.ok OK.out.ins cv W hcv
  obtain ⟨b, off, cap, u, rfl, d0, d1, d2, hcv, hm, hcc⟩ := prog_fn hv hk
  have hkI : (k : Int) < P.length := by omega
  clear hbx h0 hST
  generalize P[k] = f at hS hl1 hl2 d0 d1 hcv OK HST hSL
  have HCV : Hid (∀ W, Below w.heap.size w W → CodeVal W u f.code) := fun W hb => hcv.keeps (keeps_below hb)
  obtain ⟨ao1, b1, off1, n, cap1, rfl, ⟨hln, had1, hat⟩, hcp1, hmx1⟩ := hcv
  unfold maxLen at hmx1
  obtain rfl := had1 (by omega)
  have HAT : Hid (∀ W, Below w.heap.size w W → ∀ q (h : q < n), ∃ x : Ins, insD f q = x ∧ insAt W b1 (off1 + q * 5) x ∧ InsOk P x ∧ (x.op = 15 ∨ x.op = 16 → 0 ≤ x.imm)) := fun W hb q h =>
    ⟨f.code[q]'(by omega), insD_eq (by omega), (hat q (by omega)).keeps (keeps_below hb), OK.out.ins _ (List.getElem_mem _)⟩
  have HLN : Hid (f.code.length = n) := hln
  rw [hln] at hl1 hl2 hSL
  have hcap1 := hcp1.1
  clear hat had1 hln hcp1
  obtain ⟨fp, hfp⟩ : ∃ z, z = f.params := ⟨_, rfl⟩
  obtain ⟨fr, hfr⟩ : ∃ z, z = f.regs := ⟨_, rfl⟩
  rw [← hfp] at d0 hS
  rw [← hfr] at d1 hS
  clear hfp hfr
  generalize P.length = N at *
  have t0 := fun o => cell_alloc d0 o
  have t1 := fun o => cell_alloc d1 o
  have t2 := fun o => cell_alloc d2 o
  clear d0 d1 d2 hv
  go_enter Tryd.func13, Tryd.ntmps13
  go_wp2_with (first
    | (go_at_call 37; refine (hF _).mono ?_; rintro e w1 ⟨rfl, hb1⟩; have k0 := keeps_below hb1 ⟨w.heap.size, 0, none⟩ (.slice (some ⟨b, off, none⟩) N cap) (by simp); have k1 := keeps_below hb1 _ _ (t0 _); have k2 := keeps_below hb1 _ _ (t1 _); have k3 := keeps_below hb1 _ _ (t2 _); have HB1 : Hid (Below w.heap.size w w1) := ((Below.refl _ _).alloc (Nat.le_refl _) _).trans (hb1.mono (by simp)); have hz1 : w.heap.size < w1.heap.size := (by have := hb1.size; simp at this; omega); have hcv1 := fun o => HCV.out (w1.alloc o) (HB1.out.alloc (by omega) _))
    | (go_at_call 38; refine (hS _ _ (hcv1 _)).mono ?_; rintro e w2 ⟨v2, A, rfl, hsp, hI2, hb2⟩; obtain ⟨ao2, b2, off2, n2, cap2, rfl, hlA, haA, hcA, hcpA, hmA⟩ := ints_get hI2; have i0 := keeps_below hb2 _ _ (way_box w1 _ _ 0 (.int .i64 fp) rfl); have i1 := keeps_below hb2 _ _ (way_box w1 _ _ 1 (.int .i64 fr) rfl); have i2 := keeps_below hb2 _ _ (way_box w1 _ _ 2 (.slice (some ⟨b1, off1, none⟩) n cap1) rfl); have HB2 : Hid (Below w.heap.size w w2) := below_call (HB1.out.alloc (by omega) _) (by simp; omega) hb2; have hz2w : w1.heap.size < w2.heap.size := (by have := hb2.size; simp at this; omega)))
  have HSA : Hid (∀ q, q < n → (A.getD q 0 < 0 ∧ ¬ Way f 63 q) ∨ (¬ A.getD q 0 < 0 ∧ Way f 63 q)) := fun q hq => by
    rcases hsp.2 q (by rw [HLN.out]; omega) with ⟨h, e⟩ | ⟨h, m, _, e, _⟩
    · exact Or.inl ⟨by rw [e]; decide, h⟩
    · exact Or.inr ⟨by rw [e]; omega, h⟩
  have HTL : Hid (Tells f A) := ⟨by rw [hsp.1]; omega, fun q hq => HSA.out q (by rw [← HLN.out]; exact hq)⟩
  have hn2 : n + 1 = n2 := by rw [← hlA, hsp.1, HLN.out]
  obtain rfl := haA (by omega)
  have HCA : Hid (∀ W, Below w2.heap.size w2 W → ∀ q, q < n → W.cell? ⟨b2, off2 + q, none⟩ = some (.int .i64 (A.getD q 0))) := fun W hW q hq => keeps_below hW _ _ (hcA q (by omega))
  have HBX : Hid (∀ W, Below w2.heap.size w2 W → W.cell? ⟨w1.heap.size, 0, none⟩ = some (.int .i64 fp) ∧ W.cell? ⟨w1.heap.size, 1, none⟩ = some (.int .i64 fr) ∧ W.cell? ⟨w1.heap.size, 2, none⟩ = some (.slice (some ⟨b1, off1, none⟩) n cap1)) := fun W hW => ⟨keeps_below hW _ _ i0, keeps_below hW _ _ i1, keeps_below hW _ _ i2⟩
  have HBGY : Hid (∀ W pc, Below w2.heap.size w2 W → pc < n → pc ∈ S → Calls Tryd.prog 39 #[.agg #[.int .i64 fp, .int .i64 fr, .slice (some ⟨b1, off1, none⟩) n cap1], .slice (some ⟨b2, off2, none⟩) n2 cap2, .int .i64 ((pc : Nat) : Int)] W fun e w' => e = .returned (.bool true) ∧ Below W.heap.size W w') := fun W pc hW hpc hm => by
    refine (beginsBlock_any P f OK.out fp fr _ _ A pc W (HCV.out W (below_call HB2.out HB2.out.size hW)) (hI2.keeps (keeps_below hW)) HTL.out (by rw [HLN.out]; exact hpc)).mono ?_
    rintro e w' ⟨bb, rfl, hbb, hb⟩
    rw [hbb.2 ((HST.out.iff pc).1 hm)]
    exact ⟨rfl, hb⟩
  have HBGN : Hid (∀ W pc, Below w2.heap.size w2 W → pc < n → ¬ pc ∈ S → Calls Tryd.prog 39 #[.agg #[.int .i64 fp, .int .i64 fr, .slice (some ⟨b1, off1, none⟩) n cap1], .slice (some ⟨b2, off2, none⟩) n2 cap2, .int .i64 ((pc : Nat) : Int)] W fun e w' => e = .returned (.bool false) ∧ Below W.heap.size W w') := fun W pc hW hpc hm => by
    refine (beginsBlock_any P f OK.out fp fr _ _ A pc W (HCV.out W (below_call HB2.out HB2.out.size hW)) (hI2.keeps (keeps_below hW)) HTL.out (by rw [HLN.out]; exact hpc)).mono ?_
    rintro e w' ⟨bb, rfl, hbb, hb⟩
    cases bb
    · exact ⟨rfl, hb⟩
    · exact absurd ((HST.out.iff pc).2 (hbb.1 rfl)) hm
  clear hsp hI2 hlA haA hcA hcpA hS hF k0 k1 k2 k3 hcv1 hb1 hb2 i0 i1 i2
  generalize w1.heap.size = FB at *
  go_loopw [9, 10] (fun v i wr => ∃ (q : Nat) (T : Nat → Nat), q ≤ n ∧ i = .int .i64 q ∧ (∀ j (hj : j < S.length), j < rank S q → EndAt f S S[j] (T j)) ∧ wr.ownsRow w2.heap.size 68 4 v (rank S q) (bCells (fun i => ((S.getD i 0 : Nat) : Int)) (fun i => ((T i : Nat) : Int)) (fun _ => .slice none 0 0) (rank S q)) ∧ Below w2.heap.size w2 wr) (fun _ i _ => n - (intOf i).toNat)
  case atStart => exact ⟨0, fun _ => 0, Nat.zero_le _, rfl, fun j _ h => by rw [rank_zero] at h; omega, by rw [rank_zero]; exact World.ownsRow_nil _ _ _ _, Below.refl _ _⟩
  case round =>
    rename World => wa
    obtain ⟨q, T, hq, rfl, hT, hown, hba⟩ := hrel
    obtain ⟨i0, i1, i2⟩ := HBX.out wa hba
    have hza : w2.heap.size ≤ wa.heap.size := hba.size
    have HBA : Hid (Below w2.heap.size w2 wa) := hba
    have HT : Hid (∀ j (hj : j < S.length), j < rank S q → EndAt f S S[j] (T j)) := hT
    have HOWN : Hid (wa.ownsRow w2.heap.size 68 4 _ (rank S q) (bCells (fun i => ((S.getD i 0 : Nat) : Int)) (fun i => ((T i : Nat) : Int)) (fun _ => .slice none 0 0) (rank S q))) := hown
    obtain ⟨aov, capv, rfl⟩ := own_shape hown
    clear hT hba
    by_cases hlt : q < n
    · have c1 := HCA.out wa HBA.out q hlt
      have hqI : (q : Int) < n := by omega
      have hqI2 : (q : Int) < n2 := by omega
      have HRN : Hid (rank S (q + 1) = rank S q + (if q ∈ S then 1 else 0)) := rank_next HST.out.rises q
      rcases HSA.out q hlt with ⟨hs, hw⟩ | ⟨hs, hw⟩
      · have HR2 : Hid (rank S (q + 1) = rank S q) := by
          show _ = _
          rw [HRN.out, if_neg (fun h => hw (HST.out.reach OK.out h).1)]
          rfl
        clear hw hown
        generalize A.getD q 0 = aq at c1 hs
        go_wp2
        go_roundw
        case rel => exact ⟨q + 1, T, by omega, by go_num, by rw [HR2.out]; exact HT.out, by rw [HR2.out]; exact HOWN.out, HBA.out⟩
        case measure => simp [intOf]; omega
      · by_cases hqS : q ∈ S
        · have hBG := HBGY.out wa q HBA.out hlt hqS
          have HR2 : Hid (rank S (q + 1) = rank S q + 1) := by
            show _ = _
            rw [HRN.out, if_pos hqS]
          have HWQ : Hid (Way f 63 q) := hw
          obtain ⟨hrl, hrs⟩ := rank_lt HST.out.rises hqS
          have HRS : Hid (S[rank S q]'hrl = q) := hrs hrl
          clear hw hown hqS hrs
          generalize A.getD q 0 = aq at c1 hs
          go_wp2_with (go_at_call 39; refine hBG.mono ?_; rintro e w3 ⟨rfl, hb3⟩)
          have hz3 := hb3.size
          have HB3 : Hid (Below w2.heap.size w2 w3) := below_call HBA.out hza hb3
          have HOW3 : Hid (w3.ownsRow w2.heap.size 68 4 (.slice aov (rank S q) capv) (rank S q) (bCells (fun i => ((S.getD i 0 : Nat) : Int)) (fun i => ((T i : Nat) : Int)) (fun _ => .slice none 0 0) (rank S q))) := ownsRow_below HOWN.out hb3
          clear hb3 hBG i0 i1 i2 c1 hs HRN
          generalize hrk : rank S q = rk at *
          have HRK : Hid (rank S q = rk) := hrk
          clear hrk
          go_loopw [11] (fun i wr => ∃ t : Nat, i = .int .i64 ((t : Nat) : Int) ∧ q < t ∧ t ≤ n ∧ Way f 63 (t - 1) ∧ (∀ j, q < j → j < t → (insD f (j - 1)).op < 15 ∧ ¬ j ∈ S) ∧ Below w3.heap.size w3 wr) (fun i _ => n - (intOf i).toNat)
          case atStart => exact ⟨q + 1, by go_num, by omega, by omega, by rw [Nat.add_sub_cancel]; exact HWQ.out, fun j h1 h2 => by omega, Below.refl _ _⟩
          case round =>
            rename World => wt
            obtain ⟨t, rfl, ht1, ht2, hwy, hno, hbt⟩ := hrel
            obtain ⟨ut, rfl⟩ : ∃ ut, t = ut + 1 := ⟨t - 1, by omega⟩
            rw [Nat.add_sub_cancel] at hwy
            have hun : ut < n := by omega
            have huf : ut < f.code.length := by rw [HLN.out]; exact hun
            have HBT : Hid (Below w2.heap.size w2 wt) := below_call HB3.out (by omega) hbt
            have HBT3 : Hid (Below w3.heap.size w3 wt) := hbt
            obtain ⟨i0, i1, i2⟩ := HBX.out wt HBT.out
            have hzt := hbt.size
            have HOWT : Hid (wt.ownsRow w2.heap.size 68 4 (.slice aov rk capv) rk (bCells (fun i => ((S.getD i 0 : Nat) : Int)) (fun i => ((T i : Nat) : Int)) (fun _ => .slice none 0 0) rk)) := ownsRow_below HOW3.out hbt
            have HWY : Hid (Way f 63 ut) := hwy
            have HNO : Hid (∀ j, q < j → j < ut + 1 → (insD f (j - 1)).op < 15 ∧ ¬ j ∈ S) := hno
            have HGO : Hid ((insD f ut).op < 15 → Way f 63 (ut + 1) ∧ ut + 1 < n) := fun h => by
              have := OK.out.on huf hwy (t := ut + 1) (by rw [behind_on _ _ h]; simp)
              rw [HLN.out] at this
              exact this
            have HFI : Hid (15 ≤ (insD f ut).op ∨ ut + 1 ∈ S → ∀ j (hj : j < S.length), j < rank S (q + 1) → EndAt f S S[j] (upd T rk (ut + 1) j)) := fun h j hj hjr => by
              by_cases he : j = rk
              · subst he
                have hx : S[j] = q := HRS.out
                rw [upd_same, hx]
                exact ⟨ht1, by rw [HLN.out]; exact ht2, by rw [Nat.add_sub_cancel]; exact h, hno⟩
              · rw [upd_other _ he]
                exact HT.out j hj (by rw [HR2.out] at hjr; omega)
            have HBM : Hid (bCells (fun i => ((S.getD i 0 : Nat) : Int)) (fun i => ((T i : Nat) : Int)) (fun _ => .slice none 0 0) rk ++ [.int .i64 (q : Int), .int .i64 ((ut + 1 : Nat) : Int), .slice none 0 0, .slice none 0 0] = bCells (fun i => ((S.getD i 0 : Nat) : Int)) (fun i => ((upd T rk (ut + 1) i : Nat) : Int)) (fun _ => .slice none 0 0) (rk + 1)) := by
              refine bCells_more ?_ ?_ (fun i hi => ?_) rfl rfl
              · have hx : S[rk] = q := HRS.out
                simp [List.getD, hrl, hx]
              · rw [upd_same]
              · rw [upd_other _ (by omega)]
            obtain ⟨x, hxe, hins, hio, -⟩ := HAT.out wt (below_call HB2.out HB2.out.size HBT.out) ut hun
            rw [hxe] at HGO HFI
            have hw1 : IntKind.i64.wrap (((ut + 1 : Nat) : Int) - 1) = (ut : Int) := by rw [show ((ut + 1 : Nat) : Int) - 1 = ut by omega]; exact wrap_signed _ (by omega) (by omega)
            have huI : (ut : Int) < n := by omega
            have hEB := fun W => refEnds_any x.op W
            have hrk1 : rk ≤ 1000 := by omega
            have EXIT : Hid (∀ (W : World) (v2 : Value), W.ownsRow w2.heap.size 68 4 v2 (rk + 1) (bCells (fun i => ((S.getD i 0 : Nat) : Int)) (fun i => ((T i : Nat) : Int)) (fun _ => .slice none 0 0) rk ++ [.int .i64 (q : Int), .int .i64 ((ut + 1 : Nat) : Int), .slice none 0 0, .slice none 0 0]) → W.ownsRow w2.heap.size 68 4 v2 (rank S (q + 1)) (bCells (fun i => ((S.getD i 0 : Nat) : Int)) (fun i => ((upd T rk (ut + 1) i : Nat) : Int)) (fun _ => .slice none 0 0) (rank S (q + 1)))) := fun W v2 h => by
              rw [HBM.out] at h
              rw [HR2.out]
              exact h
            by_cases hop : 15 ≤ x.op
            · have hey := ends_yes hio hop
              rw [hey] at hEB
              have HE := HFI.out (Or.inl hop)
              have HEH : Hid (∀ j (hj : j < S.length), j < rank S (q + 1) → EndAt f S S[j] (upd T rk (ut + 1) j)) := HE
              clear hey hop HGO HFI HE hno hwy HNO hio hxe
              obtain ⟨d0, d1, d2, d3, d4⟩ := hins
              obtain ⟨xo, xd, xa, xb, xi⟩ := x
              dsimp only at d0 d1 d2 d3 d4 hEB
              generalize hU : ((ut + 1 : Nat) : Int) = U at *
              have hUn : U ≤ n := by omega
              have HU : Hid (((ut + 1 : Nat) : Int) = U) := hU
              clear hU
              by_cases hln : U < n
              · go_wp2_with (first
                  | (go_at_call 40; refine (hEB _).mono ?_; rintro e w' ⟨rfl, hw'⟩; replace hw' := hw'.symm; subst hw')
                  | (at_builtin; refine wpList_append_own _ rfl (.tmp 76) (.tmp 80) 26 rfl w2.heap.size 68 iB _ 4 64 Tryd.underlying26 hiB hzB0 hzB1 hzB2 rfl (by decide) _ _ _ rfl (HOWT.out.alloc _) ⟨_, 0, none⟩ 1 1 [.int .i64 (q : Int), .int .i64 U, .slice none 0 0, .slice none 0 0] rfl rfl (news_list _ _ _ _ rfl) (by simp [Value.oneCell']) (by unfold maxLen; omega) (by omega) (by simp; omega) ?_; intro v2 w4 hown2 hg2 _; have hb4 : Below w2.heap.size w2 w4 := (HBT.out.alloc (by omega) _).trans (grown_base (HOWT.out.alloc _) (by simp; omega) hg2)))
                go_roundw
                case rel => exact ⟨q + 1, _, by omega, by go_num, HEH.out, EXIT.out _ _ hown2, hb4⟩
                case measure => simp [intOf]; omega
              · go_wp2_with (at_builtin; refine wpList_append_own _ rfl (.tmp 76) (.tmp 80) 26 rfl w2.heap.size 68 iB _ 4 64 Tryd.underlying26 hiB hzB0 hzB1 hzB2 rfl (by decide) _ _ _ rfl (HOWT.out.alloc _) ⟨_, 0, none⟩ 1 1 [.int .i64 (q : Int), .int .i64 U, .slice none 0 0, .slice none 0 0] rfl rfl (news_list _ _ _ _ rfl) (by simp [Value.oneCell']) (by unfold maxLen; omega) (by omega) (by simp; omega) ?_; intro v2 w4 hown2 hg2 _; have hb4 : Below w2.heap.size w2 w4 := (HBT.out.alloc (by omega) _).trans (grown_base (HOWT.out.alloc _) (by simp; omega) hg2))
                go_roundw
                case rel => exact ⟨q + 1, _, by omega, by go_num, HEH.out, EXIT.out _ _ hown2, hb4⟩
                case measure => simp [intOf]; omega
            · have hen := ends_no hop
              rw [hen] at hEB
              obtain ⟨hwn, hln⟩ := HGO.out (by omega)
              have HWN : Hid (Way f 63 (ut + 1)) := hwn
              by_cases hjS : ut + 1 ∈ S
              · have hBG := HBGY.out wt (ut + 1) HBT.out hln hjS
                have HEH : Hid (∀ j (hj : j < S.length), j < rank S (q + 1) → EndAt f S S[j] (upd T rk (ut + 1) j)) := HFI.out (Or.inr hjS)
                clear hen hop HGO HFI hno hwy hwn hjS HNO hio hxe
                obtain ⟨d0, d1, d2, d3, d4⟩ := hins
                obtain ⟨xo, xd, xa, xb, xi⟩ := x
                dsimp only at d0 d1 d2 d3 d4 hEB
                have hlnU : ((ut + 1 : Nat) : Int) < n := by omega
                generalize hU : ((ut + 1 : Nat) : Int) = U at *
                have HU : Hid (((ut + 1 : Nat) : Int) = U) := hU
                clear hU
                go_wp2_with (first
                  | (go_at_call 40; refine (hEB _).mono ?_; rintro e w' ⟨rfl, hw'⟩; replace hw' := hw'.symm; subst hw')
                  | (go_at_call 39; refine hBG.mono ?_; rintro e w5 ⟨rfl, hb5⟩; have hz5 := hb5.size; have HOW5 : Hid (w5.ownsRow w2.heap.size 68 4 (.slice aov rk capv) rk (bCells (fun i => ((S.getD i 0 : Nat) : Int)) (fun i => ((T i : Nat) : Int)) (fun _ => .slice none 0 0) rk)) := ownsRow_below HOWT.out hb5; have HB5 : Hid (Below w2.heap.size w2 w5) := below_call HBT.out (by omega) hb5)
                  | (at_builtin; refine wpList_append_own _ rfl (.tmp 76) (.tmp 80) 26 rfl w2.heap.size 68 iB _ 4 64 Tryd.underlying26 hiB hzB0 hzB1 hzB2 rfl (by decide) _ _ _ rfl (HOW5.out.alloc _) ⟨_, 0, none⟩ 1 1 [.int .i64 (q : Int), .int .i64 U, .slice none 0 0, .slice none 0 0] rfl rfl (news_list _ _ _ _ rfl) (by simp [Value.oneCell']) (by unfold maxLen; omega) (by omega) (by simp; omega) ?_; intro v2 w4 hown2 hg2 _; have hb4 : Below w2.heap.size w2 w4 := (HB5.out.alloc (by omega) _).trans (grown_base (HOW5.out.alloc _) (by simp; omega) hg2)))
                go_roundw
                case rel => exact ⟨q + 1, _, by omega, by go_num, HEH.out, EXIT.out _ _ hown2, hb4⟩
                case measure => simp [intOf]; omega
              · have hBG := HBGN.out wt (ut + 1) HBT.out hln hjS
                have HNN : Hid (∀ j, q < j → j < ut + 1 + 1 → (insD f (j - 1)).op < 15 ∧ ¬ j ∈ S) := fun j h1 h2 => by
                  by_cases he : j = ut + 1
                  · subst he; rw [Nat.add_sub_cancel, hxe]; exact ⟨by omega, hjS⟩
                  · exact HNO.out j h1 (by omega)
                have hw2 : IntKind.i64.wrap (((ut + 1 : Nat) : Int) + 1) = ((ut + 1 + 1 : Nat) : Int) := by rw [show ((ut + 1 : Nat) : Int) + 1 = ((ut + 1 + 1 : Nat) : Int) by omega]; exact wrap_signed _ (by omega) (by omega)
                have hUI : ((ut + 1 : Nat) : Int) + 1 = ((ut + 1 + 1 : Nat) : Int) := by omega
                have hlnU : ((ut + 1 : Nat) : Int) < n := by omega
                clear hen hop HGO HFI hno hwy hwn hjS HNO hio hxe EXIT HBM
                obtain ⟨d0, d1, d2, d3, d4⟩ := hins
                obtain ⟨xo, xd, xa, xb, xi⟩ := x
                dsimp only at d0 d1 d2 d3 d4 hEB
                generalize hU : ((ut + 1 : Nat) : Int) = U at *
                generalize hVV : ((ut + 1 + 1 : Nat) : Int) = V at *
                have HUU : Hid (((ut + 1 : Nat) : Int) = U ∧ ((ut + 1 + 1 : Nat) : Int) = V) := ⟨hU, hVV⟩
                have HUI : Hid (U + 1 = V) := hUI
                clear hU hVV hUI
                go_wp2_with (first
                  | (go_at_call 40; refine (hEB _).mono ?_; rintro e w' ⟨rfl, hw'⟩; replace hw' := hw'.symm; subst hw')
                  | (go_at_call 39; refine hBG.mono ?_; rintro e w5 ⟨rfl, hb5⟩; have HB5 : Hid (Below w3.heap.size w3 w5) := below_call HBT3.out hzt hb5))
                go_roundw
                case rel => exact ⟨ut + 1 + 1, by rw [HUU.out.2], by omega, by omega, by rw [Nat.add_sub_cancel]; exact HWN.out, HNN.out, HB5.out⟩
                case measure => have h1 := HUU.out; simp [intOf]; omega
        · have hBG := HBGN.out wa q HBA.out hlt hqS
          have HR2 : Hid (rank S (q + 1) = rank S q) := by
            show _ = _
            rw [HRN.out, if_neg hqS]
            rfl
          clear hw hown hqS
          generalize A.getD q 0 = aq at c1 hs
          go_wp2_with (go_at_call 39; refine hBG.mono ?_; rintro e w3 ⟨rfl, hb3⟩)
          go_roundw
          case rel => exact ⟨q + 1, T, by omega, by go_num, by rw [HR2.out]; exact HT.out, by rw [HR2.out]; exact ownsRow_below HOWN.out hb3, below_call HBA.out hza hb3⟩
          case measure => simp [intOf]; omega
    · obtain rfl : q = n := by omega
      have hrn : rank S q = S.length := rank_all (fun x hx => by rw [← HLN.out]; exact (HST.out.reach OK.out hx).2)
      rw [hrn] at hown HT
      have HBO : Hid (BlkOk f S T) := ⟨HST.out, fun i hi => HT.out i hi hi⟩
      obtain ⟨g, capg, hve, hgb, hgl, hmg, hng⟩ := own_at hown hS0
      rw [hrn] at *
      simp only [Value.slice.injEq, true_and] at hve
      obtain ⟨rfl, rfl⟩ := hve
      have HROW0 : Hid (BlkRowC wa g S.length capv (fun i => ((S.getD i 0 : Nat) : Int)) (fun i => ((T i : Nat) : Int)) (fun _ => .slice none 0 0)) := own_mono hown (Nat.zero_le _)
      have HTI : Hid (∀ i, i < S.length → ∃ t, T i = t + 1 ∧ t < q) := fun i hi => by
        have h := HBO.out.ends i hi
        have := h.lt
        have := h.le
        rw [HLN.out] at this
        exact ⟨T i - 1, by omega, by omega⟩
      unfold maxLen at hmg
      clear hown HT HOWN hrn HBGY HBGN HSA HTL HCA
      go_wp2
      clear i0 i1 i2
      go_loopw [12] (fun i wr => ∃ (a : Nat) (VV : Nat → Value) (LL : Nat → List Int), a ≤ S.length ∧ i = .int .i64 a ∧ RefTo f S T a 0 0 LL ∧ BlkRowC wr g S.length capv (fun i => ((S.getD i 0 : Nat) : Int)) (fun i => ((T i : Nat) : Int)) VV ∧ Slots wr wa.heap.size (2 * S.length) VV LL ∧ wa.grownBy wr (some g)) (fun i _ => S.length - (intOf i).toNat)
      case atStart => exact ⟨0, _, _, Nat.zero_le _, rfl, RefTo.start f S T, HROW0.out, Slots.nils _ _ _, gb_below _ (Below.refl _ _)⟩
      case round =>
        rename World => wo
        obtain ⟨a, VV, LL, ha, rfl, href, hrow, hsl, hgr⟩ := hrel
        have HRF : Hid (RefTo f S T a 0 0 LL) := href
        have HRW : Hid (BlkRowC wo g S.length capv (fun i => ((S.getD i 0 : Nat) : Int)) (fun i => ((T i : Nat) : Int)) VV) := hrow
        have HSL : Hid (Slots wo wa.heap.size (2 * S.length) VV LL) := hsl
        have HGO : Hid (wa.grownBy wo (some g)) := hgr
        have hzo : wa.heap.size ≤ wo.heap.size := hgr.size
        clear href hrow hsl hgr
        by_cases hla : a < S.length
        · have haI : (a : Int) < S.length := by omega
          obtain ⟨ta, hta, htn⟩ := HTI.out a hla
          go_wp2
          go_loopg [13] S.length (fun m i wr => ∃ (c : Nat) (VV : Nat → Value) (LL : Nat → List Int), c + m = S.length ∧ i = .int .i64 c ∧ RefTo f S T a c c LL ∧ BlkRowC wr g S.length capv (fun i => ((S.getD i 0 : Nat) : Int)) (fun i => ((T i : Nat) : Int)) VV ∧ Slots wr wa.heap.size (2 * S.length) VV LL ∧ wa.grownBy wr (some g))
          case atStart => exact ⟨0, VV, LL, by omega, rfl, HRF.out, HRW.out, HSL.out, HGO.out⟩
          case round =>
            clear HRF HRW HSL HGO hzo
            clear VV LL
            rename World => wi
            obtain ⟨c, VV, LL, hcm, rfl, href, hrow, hsl, hgr⟩ := hrel
            have HRF : Hid (RefTo f S T a c c LL) := href
            have HRW : Hid (BlkRowC wi g S.length capv (fun i => ((S.getD i 0 : Nat) : Int)) (fun i => ((T i : Nat) : Int)) VV) := hrow
            have HSL : Hid (Slots wi wa.heap.size (2 * S.length) VV LL) := hsl
            have HGI : Hid (wa.grownBy wi (some g)) := hgr
            have hzi : wa.heap.size ≤ wi.heap.size := hgr.size
            clear href hrow hsl hgr
            by_cases hlc : c < S.length
            · have hcI : (c : Int) < S.length := by omega
              obtain ⟨tc, htc, htcn⟩ := HTI.out c hlc
              have HBI : Hid (Below w2.heap.size w2 wi) := below_gb HBA.out HGI.out hgb hza
              obtain ⟨k0, k1, k2⟩ := HBX.out wi HBI.out
              have ct := blkC_to HRW.out a hla
              obtain ⟨xa, hxa, hinsa, -, himma⟩ := HAT.out wi (below_call HB2.out HB2.out.size HBI.out) ta htn
              have hBH := fun W (hW : Below wi.heap.size wi W) => behind_any fp fr b1 off1 q cap1 ta xa W (hinsa.keeps (keeps_below hW)) himma htn (by omega)
              have HLK : Hid (lkB f S T a c = (behindI xa ta).contains ((S.getD c 0 : Nat) : Int)) := by
                show _ = _
                unfold lkB
                rw [hta, Nat.add_sub_cancel, hxa]
              have HLN1 : Hid ((LL (2 * a)).length ≤ S.length ∧ (LL (2 * a + 1)).length ≤ S.length) := HRF.out.len hla (by omega) (by omega)
              rw [hta] at ct
              have hwA : IntKind.i64.wrap (((ta + 1 : Nat) : Int) - 1) = (ta : Int) := by rw [show ((ta + 1 : Nat) : Int) - 1 = ta by omega]; exact wrap_signed _ (by omega) (by omega)
              generalize ((ta + 1 : Nat) : Int) = TA at ct hwA
              clear hta hxa hinsa himma
              go_upto_region 21 with fail
              refine wp_region_held_drew (S := fun W => Below wi.heap.size wi W) (by kernel_rfl) ((Below.refl _ _).drew) (fun hHeld => ?_)
              show wpAnyH _ _ _ _ _ 9 _ _ _
              refine wpAnyH_take (i := 0) (v := ?_) rfl (by kernel_rfl) (by kernel_rfl) (by kernel_rfl) (fun _ _ _ h => h) (Or.inl ⟨by rfl, ?_⟩) (by assumption) ?_
              rotate_left
              · (intro W hSW; have z0 := keeps_below hSW _ _ k0; have z1 := keeps_below hSW _ _ k1; have z2 := keeps_below hSW _ _ k2; go_simp; try (with_reducible rfl))
              (try simp only [Act.put, List.setIfInBounds_toArray])
              refine wpAnyH_take (i := 1) (v := ?_) rfl (by kernel_rfl) (by kernel_rfl) (by kernel_rfl) (fun _ _ _ h => h) (Or.inl ⟨by rfl, ?_⟩) (by assumption) ?_
              rotate_left
              · (intro W hSW; go_simp; try (with_reducible rfl))
              (try simp only [Act.put])
              refine wpAnyH_take (i := 2) (v := ?_) rfl (by kernel_rfl) (by kernel_rfl) (by kernel_rfl) (fun _ _ _ h => h) (Or.inl ⟨by rfl, ?_⟩) (by assumption) ?_
              rotate_left
              · (intro W hSW; go_simp; try (with_reducible rfl))
              (try simp only [Act.put])
              refine wpAnyH_take (i := 3) (v := ?_) rfl (by kernel_rfl) (by kernel_rfl) (by kernel_rfl) (fun _ _ _ h => h) (Or.inl ⟨by rfl, ?_⟩) (by assumption) ?_
              rotate_left
              · (intro W hSW; go_simp; try (with_reducible rfl))
              (try simp only [Act.put])
              refine wpAnyH_take (i := 4) (v := ?_) rfl (by kernel_rfl) (by kernel_rfl) (by kernel_rfl) (fun _ _ _ h => h) (Or.inl ⟨by rfl, ?_⟩) (by assumption) ?_
              rotate_left
              · (intro W hSW; go_simp; try (with_reducible rfl))
              (try simp only [Act.put])
              refine wpAnyH_take (i := 5) (v := ?_) rfl (by kernel_rfl) (by kernel_rfl) (by kernel_rfl) (fun _ _ _ h => h) (Or.inl ⟨by rfl, ?_⟩) (by assumption) ?_
              rotate_left
              · (intro W hSW; have z0 := keeps_below hSW _ _ ct; go_simp; try (with_reducible rfl))
              (try simp only [Act.put])
              refine wpAnyH_take (i := 6) (v := ?_) rfl (by kernel_rfl) (by kernel_rfl) (by kernel_rfl) (fun _ _ _ h => h) (Or.inl ⟨by rfl, ?_⟩) (by assumption) ?_
              rotate_left
              · (intro W hSW; go_simp; try (with_reducible rfl))
              (try simp only [Act.put])
              refine wpAnyH_ready (rs := [7]) (by kernel_rfl) (by simp) ?_
              refine AllReadyH.cons rfl (fun K hK => ?_) AllReadyH.nil
              go_simp
              go_at_call 41
              refine (hBH _ (Below.refl _ _).drew).mono ?_
              rintro e wb ⟨v7, rfl, hI7, -, hb7⟩
              obtain ⟨ao7, cap7, rfl⟩ := hI7.shape
              have HI7 : Hid _ := hI7
              dsimp only
              have HBb7 : Hid (Below wi.heap.size wi wb) := (Below.refl _ _).drew.trans hb7
              refine hK.out _ _ HBb7.out (fun _ => ?_)
              clear hK K hHeld hb7 hI7
              (try simp only [Act.put, List.setIfInBounds_toArray, List.set_cons_zero, List.set_cons_succ])
              have hHeld : Below wi.heap.size wi wb := HBb7.out
              refine wpAnyH_take (i := 8) (v := ?_) rfl (by kernel_rfl) (by kernel_rfl) (by kernel_rfl) (fun _ _ _ h => h) (Or.inl ⟨by rfl, ?_⟩) (by assumption) ?_
              rotate_left
              · (intro W hSW; go_simp; try (with_reducible rfl))
              (try simp only [Act.put, List.setIfInBounds_toArray])
              refine wpAnyH_done (by kernel_rfl) ?_ _
              clear hHeld
              clear k0 k1 k2 ct hwA hBH
              have HRWb : Hid (BlkRowC wb g S.length capv (fun i => ((S.getD i 0 : Nat) : Int)) (fun i => ((T i : Nat) : Int)) VV) := ownsRow_below HRW.out HBb7.out
              have HSLb : Hid (Slots wb wa.heap.size (2 * S.length) VV LL) := HSL.out.below HBb7.out
              have HGb : Hid (wa.grownBy wb (some g)) := gb_trans HGI.out (gb_below _ HBb7.out)
              have hzb : wa.heap.size ≤ wb.heap.size := HGb.out.size
              have cf := blkC_from HRWb.out c hlc
              have hIL := inList_any (behindI xa ta) _ ((S.getD c 0 : Nat) : Int) wb HI7.out
              rw [← HLK.out] at hIL
              have HYES : Hid (lkB f S T a c = true → RefTo f S T a (c + 1) c (upd LL (2 * a) (LL (2 * a) ++ [((c : Nat) : Int)]))) := fun h => HRF.out.nextYes hla h
              have HNOO : Hid (lkB f S T a c = false → RefTo f S T a (c + 1) c LL) := fun h => HRF.out.nextNo h
              have HLEN : Hid ((LL (2 * a)).length ≤ S.length) := HLN1.out.1
              clear HLK HRF
              generalize lkB f S T a c = lk at *
              generalize ((S.getD c 0 : Nat) : Int) = zc at cf hIL
              go_upto_if 108 with (go_at_call 42; refine hIL.mono ?_; rintro e w' ⟨rfl, hw'⟩; replace hw' := hw'.symm; subst hw')
              clear hIL cf
              go_cut [13] from 88 to 147 (fun s13 wx => s13 = .int .i64 c ∧ ∃ (VV' : Nat → Value) (LL' : Nat → List Int), RefTo f S T a (c + 1) c LL' ∧ BlkRowC wx g S.length capv (fun i => ((S.getD i 0 : Nat) : Int)) (fun i => ((T i : Nat) : Int)) VV' ∧ Slots wx wa.heap.size (2 * S.length) VV' LL' ∧ wa.grownBy wx (some g))
              case first =>
                cases lk
                · have HN := HNOO.out rfl
                  have HNH : Hid _ := HN
                  clear HN
                  go_wp2
                  go_meet
                  exact ⟨rfl, VV, LL, HNH.out, HRWb.out, HSLb.out, HGb.out⟩
                · have HN := HYES.out rfl
                  have HNH : Hid _ := HN
                  clear HN
                  have hownP := HSLb.out.own (2 * a) (by omega)
                  obtain ⟨aoP, capP, hvP⟩ := own_shape hownP
                  have HVP : Hid (VV (2 * a) = .slice aoP (LL (2 * a)).length capP) := hvP
                  have cP := blkC_next HRWb.out a hla
                  rw [hvP] at cP
                  have OWP : Hid (wb.ownsRow wa.heap.size 3 1 (.slice aoP (LL (2 * a)).length capP) (LL (2 * a)).length (i64s (LL (2 * a)))) := by
                    have h := hownP
                    rw [hvP] at h
                    exact h
                  have HPUT : Hid (∀ (o : Obj) (W' : World) (v : Value) (l : List Int), (wb.alloc o).grownBy W' (Value.slice aoP (LL (2 * a)).length capP).ownBlock → OwnI W' wa.heap.size v l → (v.ownBlock = (Value.slice aoP (LL (2 * a)).length capP).ownBlock ∨ ∃ q, v.ownBlock = some q ∧ wb.heap.size + 1 ≤ q) →
                      (W'.cell? ⟨g, a * 4 + 2, none⟩ = some (.slice aoP (LL (2 * a)).length capP) ∧ W'.frozen? ⟨g, a * 4 + 2, none⟩ = false) ∧ BlkRowC (W'.setCell ⟨g, a * 4 + 2, none⟩ v) g S.length capv (fun i => ((S.getD i 0 : Nat) : Int)) (fun i => ((T i : Nat) : Int)) (upd VV (2 * a) v) ∧ Slots (W'.setCell ⟨g, a * 4 + 2, none⟩ v) wa.heap.size (2 * S.length) (upd VV (2 * a) v) (upd LL (2 * a) l) ∧ wa.grownBy (W'.setCell ⟨g, a * 4 + 2, none⟩ v) (some g)) := fun o W' v l h2 ho hl => by
                    have h := slotC_put (s := 2 * a) hgl HGb.out HRWb.out HSLb.out ((Below.refl _ _).alloc (Nat.le_refl _) o) (by omega) (by rw [HVP.out]; exact h2) ho (by rw [HVP.out]; exact hl.imp id (fun ⟨q, h, hq⟩ => ⟨q, h, by simpa using hq⟩))
                    have h7 := h.2.2 (a * 4 + 2) (bCells_next _ _ _ _ _ hla _)
                    exact ⟨⟨by rw [blkC_next h.1 a hla, HVP.out], h.1.frozenAt _⟩, h7.1, h7.2.1, h7.2.2⟩
                  have hLP := HLEN.out
                  have a1 : (LL (2 * a)).length + 1 ≤ maxLen := by unfold maxLen; omega
                  have a2 : ((LL (2 * a)).length + 1) * 8 ≤ 140737488355328 := by omega
                  have a3 : ∀ o, wa.heap.size ≤ (wb.alloc o).heap.size := fun o => by simp; omega
                  have a4 : ∀ o, (wb.alloc o).heap.size = wb.heap.size + 1 := fun o => by simp
                  have cPa := fun o => cell_alloc cP o
                  clear hownP hvP hLP
                  generalize hLL : LL (2 * a) = lp at *
                  clear hLL
                  go_wp2_with (at_builtin; refine wpList_append_lies _ rfl (.tmp 115) (.tmp 117) 37 rfl wa.heap.size 3 i64i _ 1 8 Tryd.underlying37 hi64 hz0 hz1' hz2 rfl (by decide) (.slice aoP lp.length capP) lp.length (i64s lp) rfl (OWP.out.alloc _) ⟨wb.heap.size, 0, none⟩ 1 1 (i64s [((c : Nat) : Int)]) rfl rfl (news_list _ _ _ _ rfl) (i64s_one _) Nat.one_pos a1 a2 (a3 _) (wb.heap.size + 1) (a4 _) ?_; intro g4 cap4 w4 hown4 hg4 hat4 hlt4; have HOI := own_snoc rfl hown4; have HQ := HPUT.out _ _ _ _ hg4 HOI (lies_loc hat4); have q2 := HQ.1.1; have qf := HQ.1.2)
                  have HQH : Hid _ := HQ.2
                  clear HQ HOI hown4 hg4 hat4
                  go_meet
                  exact ⟨rfl, _, _, HNH.out, HQH.out.1, HQH.out.2.1, HQH.out.2.2⟩
              case rest =>
                obtain ⟨rfl, VV2, LL2, href, hrow, hsl, hgr⟩ := hcut
                clear HYES HNOO HLEN HLN1 HRWb HSLb HGb hzb HI7 HBb7 HRW HSL HGI hzi HBI
                clear lk
                rename World => wj
                have HRF : Hid (RefTo f S T a (c + 1) c LL2) := href
                have HRW : Hid (BlkRowC wj g S.length capv (fun i => ((S.getD i 0 : Nat) : Int)) (fun i => ((T i : Nat) : Int)) VV2) := hrow
                have HSL : Hid (Slots wj wa.heap.size (2 * S.length) VV2 LL2) := hsl
                have HGI : Hid (wa.grownBy wj (some g)) := hgr
                have hzi : wa.heap.size ≤ wj.heap.size := hgr.size
                clear href hrow hsl hgr
                clear VV LL
                obtain ⟨VV, hVV⟩ : ∃ VV, VV = VV2 := ⟨_, rfl⟩
                subst hVV
                obtain ⟨LL, hLL⟩ : ∃ LL, LL = LL2 := ⟨_, rfl⟩
                subst hLL
                have HBI : Hid (Below w2.heap.size w2 wj) := below_gb HBA.out HGI.out hgb hza
                obtain ⟨k0, k1, k2⟩ := HBX.out wj HBI.out
                have ct := blkC_to HRW.out c hlc
                obtain ⟨xc, hxc, hinsc, -, himmc⟩ := HAT.out wj (below_call HB2.out HB2.out.size HBI.out) tc htcn
                have hBH := fun W (hW : Below wj.heap.size wj W) => behind_any fp fr b1 off1 q cap1 tc xc W (hinsc.keeps (keeps_below hW)) himmc htcn (by omega)
                have HLK : Hid (lkB f S T c a = (behindI xc tc).contains ((S.getD a 0 : Nat) : Int)) := by
                  show _ = _
                  unfold lkB
                  rw [htc, Nat.add_sub_cancel, hxc]
                have HLN1 : Hid ((LL (2 * a)).length ≤ S.length ∧ (LL (2 * a + 1)).length ≤ S.length) := HRF.out.len hla (by omega) (by omega)
                rw [htc] at ct
                have hwC : IntKind.i64.wrap (((tc + 1 : Nat) : Int) - 1) = (tc : Int) := by rw [show ((tc + 1 : Nat) : Int) - 1 = tc by omega]; exact wrap_signed _ (by omega) (by omega)
                generalize ((tc + 1 : Nat) : Int) = TC at ct hwC
                clear htc hxc hinsc himmc
                go_upto_region 24 with fail
                refine wp_region_held_drew (S := fun W => Below wj.heap.size wj W) (by kernel_rfl) ((Below.refl _ _).drew) (fun hHeld => ?_)
                show wpAnyH _ _ _ _ _ 9 _ _ _
                refine wpAnyH_take (i := 0) (v := ?_) rfl (by kernel_rfl) (by kernel_rfl) (by kernel_rfl) (fun _ _ _ h => h) (Or.inl ⟨by rfl, ?_⟩) (by assumption) ?_
                rotate_left
                · (intro W hSW; have z0 := keeps_below hSW _ _ k0; have z1 := keeps_below hSW _ _ k1; have z2 := keeps_below hSW _ _ k2; go_simp; try (with_reducible rfl))
                (try simp only [Act.put, List.setIfInBounds_toArray])
                refine wpAnyH_take (i := 1) (v := ?_) rfl (by kernel_rfl) (by kernel_rfl) (by kernel_rfl) (fun _ _ _ h => h) (Or.inl ⟨by rfl, ?_⟩) (by assumption) ?_
                rotate_left
                · (intro W hSW; go_simp; try (with_reducible rfl))
                (try simp only [Act.put])
                refine wpAnyH_take (i := 2) (v := ?_) rfl (by kernel_rfl) (by kernel_rfl) (by kernel_rfl) (fun _ _ _ h => h) (Or.inl ⟨by rfl, ?_⟩) (by assumption) ?_
                rotate_left
                · (intro W hSW; go_simp; try (with_reducible rfl))
                (try simp only [Act.put])
                refine wpAnyH_take (i := 3) (v := ?_) rfl (by kernel_rfl) (by kernel_rfl) (by kernel_rfl) (fun _ _ _ h => h) (Or.inl ⟨by rfl, ?_⟩) (by assumption) ?_
                rotate_left
                · (intro W hSW; go_simp; try (with_reducible rfl))
                (try simp only [Act.put])
                refine wpAnyH_take (i := 4) (v := ?_) rfl (by kernel_rfl) (by kernel_rfl) (by kernel_rfl) (fun _ _ _ h => h) (Or.inl ⟨by rfl, ?_⟩) (by assumption) ?_
                rotate_left
                · (intro W hSW; go_simp; try (with_reducible rfl))
                (try simp only [Act.put])
                refine wpAnyH_take (i := 5) (v := ?_) rfl (by kernel_rfl) (by kernel_rfl) (by kernel_rfl) (fun _ _ _ h => h) (Or.inl ⟨by rfl, ?_⟩) (by assumption) ?_
                rotate_left
                · (intro W hSW; have z0 := keeps_below hSW _ _ ct; go_simp; try (with_reducible rfl))
                (try simp only [Act.put])
                refine wpAnyH_take (i := 6) (v := ?_) rfl (by kernel_rfl) (by kernel_rfl) (by kernel_rfl) (fun _ _ _ h => h) (Or.inl ⟨by rfl, ?_⟩) (by assumption) ?_
                rotate_left
                · (intro W hSW; go_simp; try (with_reducible rfl))
                (try simp only [Act.put])
                refine wpAnyH_ready (rs := [7]) (by kernel_rfl) (by simp) ?_
                refine AllReadyH.cons rfl (fun K hK => ?_) AllReadyH.nil
                go_simp
                go_at_call 41
                refine (hBH _ (Below.refl _ _).drew).mono ?_
                rintro e wb ⟨v8, rfl, hI8, -, hb8⟩
                obtain ⟨ao8, cap8, rfl⟩ := hI8.shape
                have HI8 : Hid _ := hI8
                dsimp only
                have HBb8 : Hid (Below wj.heap.size wj wb) := (Below.refl _ _).drew.trans hb8
                refine hK.out _ _ HBb8.out (fun _ => ?_)
                clear hK K hHeld hb8 hI8
                (try simp only [Act.put, List.setIfInBounds_toArray, List.set_cons_zero, List.set_cons_succ])
                have hHeld : Below wj.heap.size wj wb := HBb8.out
                refine wpAnyH_take (i := 8) (v := ?_) rfl (by kernel_rfl) (by kernel_rfl) (by kernel_rfl) (fun _ _ _ h => h) (Or.inl ⟨by rfl, ?_⟩) (by assumption) ?_
                rotate_left
                · (intro W hSW; go_simp; try (with_reducible rfl))
                (try simp only [Act.put, List.setIfInBounds_toArray])
                refine wpAnyH_done (by kernel_rfl) ?_ _
                clear hHeld
                clear k0 k1 k2 ct hwC hBH
                have HRWb : Hid (BlkRowC wb g S.length capv (fun i => ((S.getD i 0 : Nat) : Int)) (fun i => ((T i : Nat) : Int)) VV) := ownsRow_below HRW.out HBb8.out
                have HSLb : Hid (Slots wb wa.heap.size (2 * S.length) VV LL) := HSL.out.below HBb8.out
                have HGb : Hid (wa.grownBy wb (some g)) := gb_trans HGI.out (gb_below _ HBb8.out)
                have hzb : wa.heap.size ≤ wb.heap.size := HGb.out.size
                have cf := blkC_from HRWb.out a hla
                have hIL := inList_any (behindI xc tc) _ ((S.getD a 0 : Nat) : Int) wb HI8.out
                rw [← HLK.out] at hIL
                have HYES : Hid (lkB f S T c a = true → RefTo f S T a (c + 1) (c + 1) (upd LL (2 * a + 1) (LL (2 * a + 1) ++ [((c : Nat) : Int)]))) := fun h => HRF.out.prevYes hla h
                have HNOO : Hid (lkB f S T c a = false → RefTo f S T a (c + 1) (c + 1) LL) := fun h => HRF.out.prevNo h
                have HLEN : Hid ((LL (2 * a + 1)).length ≤ S.length) := HLN1.out.2
                clear HLK HRF
                generalize lkB f S T c a = lk at *
                generalize ((S.getD a 0 : Nat) : Int) = za at cf hIL
                go_upto_if 135 with (go_at_call 42; refine hIL.mono ?_; rintro e w' ⟨rfl, hw'⟩; replace hw' := hw'.symm; subst hw')
                clear hIL cf
                cases lk
                · have HN := HNOO.out rfl
                  have HNH : Hid _ := HN
                  clear HN
                  go_wp2
                  go_roundg (gk - 1)
                  case measure => omega
                  case rel => exact ⟨c + 1, VV, LL, by omega, by go_num, HNH.out, HRWb.out, HSLb.out, HGb.out⟩
                · have HN := HYES.out rfl
                  have HNH : Hid _ := HN
                  clear HN
                  have hownP := HSLb.out.own (2 * a + 1) (by omega)
                  obtain ⟨aoP, capP, hvP⟩ := own_shape hownP
                  have HVP : Hid (VV (2 * a + 1) = .slice aoP (LL (2 * a + 1)).length capP) := hvP
                  have cP := blkC_prev HRWb.out a hla
                  rw [hvP] at cP
                  have OWP : Hid (wb.ownsRow wa.heap.size 3 1 (.slice aoP (LL (2 * a + 1)).length capP) (LL (2 * a + 1)).length (i64s (LL (2 * a + 1)))) := by
                    have h := hownP
                    rw [hvP] at h
                    exact h
                  have HPUT : Hid (∀ (o : Obj) (W' : World) (v : Value) (l : List Int), (wb.alloc o).grownBy W' (Value.slice aoP (LL (2 * a + 1)).length capP).ownBlock → OwnI W' wa.heap.size v l → (v.ownBlock = (Value.slice aoP (LL (2 * a + 1)).length capP).ownBlock ∨ ∃ q, v.ownBlock = some q ∧ wb.heap.size + 1 ≤ q) →
                      (W'.cell? ⟨g, a * 4 + 3, none⟩ = some (.slice aoP (LL (2 * a + 1)).length capP) ∧ W'.frozen? ⟨g, a * 4 + 3, none⟩ = false) ∧ BlkRowC (W'.setCell ⟨g, a * 4 + 3, none⟩ v) g S.length capv (fun i => ((S.getD i 0 : Nat) : Int)) (fun i => ((T i : Nat) : Int)) (upd VV (2 * a + 1) v) ∧ Slots (W'.setCell ⟨g, a * 4 + 3, none⟩ v) wa.heap.size (2 * S.length) (upd VV (2 * a + 1) v) (upd LL (2 * a + 1) l) ∧ wa.grownBy (W'.setCell ⟨g, a * 4 + 3, none⟩ v) (some g)) := fun o W' v l h2 ho hl => by
                    have h := slotC_put (s := 2 * a + 1) hgl HGb.out HRWb.out HSLb.out ((Below.refl _ _).alloc (Nat.le_refl _) o) (by omega) (by rw [HVP.out]; exact h2) ho (by rw [HVP.out]; exact hl.imp id (fun ⟨q, h, hq⟩ => ⟨q, h, by simpa using hq⟩))
                    have h7 := h.2.2 (a * 4 + 3) (bCells_prev _ _ _ _ _ hla _)
                    exact ⟨⟨by rw [blkC_prev h.1 a hla, HVP.out], h.1.frozenAt _⟩, h7.1, h7.2.1, h7.2.2⟩
                  have hLP := HLEN.out
                  have a1 : (LL (2 * a + 1)).length + 1 ≤ maxLen := by unfold maxLen; omega
                  have a2 : ((LL (2 * a + 1)).length + 1) * 8 ≤ 140737488355328 := by omega
                  have a3 : ∀ o, wa.heap.size ≤ (wb.alloc o).heap.size := fun o => by simp; omega
                  have a4 : ∀ o, (wb.alloc o).heap.size = wb.heap.size + 1 := fun o => by simp
                  have cPa := fun o => cell_alloc cP o
                  clear hownP hvP hLP
                  generalize hLL : LL (2 * a + 1) = lp at *
                  clear hLL
                  go_wp2_with (at_builtin; refine wpList_append_lies _ rfl (.tmp 142) (.tmp 144) 37 rfl wa.heap.size 3 i64i _ 1 8 Tryd.underlying37 hi64 hz0 hz1' hz2 rfl (by decide) (.slice aoP lp.length capP) lp.length (i64s lp) rfl (OWP.out.alloc _) ⟨wb.heap.size, 0, none⟩ 1 1 (i64s [((c : Nat) : Int)]) rfl rfl (news_list _ _ _ _ rfl) (i64s_one _) Nat.one_pos a1 a2 (a3 _) (wb.heap.size + 1) (a4 _) ?_; intro g4 cap4 w4 hown4 hg4 hat4 hlt4; have HOI := own_snoc rfl hown4; have HQ := HPUT.out _ _ _ _ hg4 HOI (lies_loc hat4); have q2 := HQ.1.1; have qf := HQ.1.2)
                  have HQH : Hid _ := HQ.2
                  clear HQ HOI hown4 hg4 hat4
                  go_roundg (gk - 1)
                  case measure => omega
                  case rel => exact ⟨c + 1, _, _, by omega, by go_num, HNH.out, HQH.out.1, HQH.out.2.1, HQH.out.2.2⟩
            · obtain rfl : c = S.length := by omega
              have HRX : Hid (RefTo f S T (a + 1) 0 0 LL) := HRF.out.done
              go_wp2
              go_roundw
              case rel => exact ⟨a + 1, VV, LL, by omega, by go_num, HRX.out, HRW.out, HSL.out, HGI.out⟩
              case measure => simp [intOf]; omega
        · have hae : a = S.length := by omega
          have HALL : Hid (∀ j, j < S.length → LL (2 * j) = rNx f S T S.length j ∧ LL (2 * j + 1) = rPv f S T S.length j) := fun j hj => by
            have h := HRF.out
            rw [hae] at h
            exact h.all hj
          have hl0 : (LL 1).length ≤ S.length := by
            have h := (HALL.out 0 hS0).2
            rw [show 2 * 0 + 1 = 1 from rfl] at h
            rw [h]
            exact filt_len _ _
          have haN : ¬ ((a : Int) < S.length) := by omega
          have hownP := HSL.out.own 1 (by omega)
          obtain ⟨aoP, capP, hvP, hno2, hns2⟩ := ints_slice (own_ints hownP)
          have cP := blkC_prev HRW.out 0 hS0
          rw [show 2 * 0 + 1 = 1 from rfl, hvP] at cP
          simp only [Nat.zero_mul, Nat.zero_add] at cP
          have cPa := fun o => cell_alloc cP o
          have OWF : Hid ((wo.alloc (.cells #[.int .i64 (-1)] 3)).ownsRow wo.heap.size 3 1 (.slice (some ⟨wo.heap.size, 0, none⟩) 1 1) 1 (i64s [-1])) := own_newF (Nat.le_refl _) [-1] (by simp)
          have HNS : Hid (∀ ad, aoP = some ad → ∀ j u, (i64s (LL 1))[j]? = some u → (wo.alloc (.cells #[.int .i64 (-1)] 3)).cell? (ad.add j) = some u) := fun ad h j u hu => cell_alloc (hns2 ad h j u hu) _
          have HNO : Hid (aoP = none → (LL 1).length = 0 ∧ capP = 0) := hno2
          have HV1 : Hid (VV 1 = .slice aoP (LL 1).length capP) := hvP
          have HFIN : Hid (∀ (W' : World) (v : Value), W'.ownsRow wo.heap.size 3 1 v (1 + (LL 1).length) (i64s [-1] ++ i64s (LL 1)) → (wo.alloc (.cells #[.int .i64 (-1)] 3)).grownBy W' (some wo.heap.size) →
              (W'.cell? ⟨g, 3, none⟩ = some (.slice aoP (LL 1).length capP) ∧ W'.frozen? ⟨g, 3, none⟩ = false) ∧ BlkRowC (W'.setCell ⟨g, 3, none⟩ v) g S.length capv (fun i => ((S.getD i 0 : Nat) : Int)) (fun i => ((T i : Nat) : Int)) (upd VV 1 v) ∧ Slots (W'.setCell ⟨g, 3, none⟩ v) wa.heap.size (2 * S.length) (upd VV 1 v) (upd LL 1 ([-1] ++ LL 1)) ∧ wa.grownBy (W'.setCell ⟨g, 3, none⟩ v) (some g)) := fun W' v ho hg => by
            have hb : Below wo.heap.size wo W' := ((Below.refl _ _).alloc (Nat.le_refl _) _).grown hg (by simp) (fun k hk => by cases hk; exact Nat.le_refl _)
            have hoI : OwnI W' wo.heap.size v ([-1] ++ LL 1) := by
              show World.ownsRow _ _ _ _ _ ([-1] ++ LL 1).length (i64s ([-1] ++ LL 1))
              rw [i64s_append, List.length_append]
              exact ho
            have hloc : v.ownBlock = (VV 1).ownBlock ∨ ∃ q, v.ownBlock = some q ∧ wo.heap.size ≤ q := by
              obtain ⟨g9, cap9, rfl, hg9, -⟩ := own_at ho (by omega)
              exact Or.inr ⟨g9, rfl, hg9⟩
            have h := slotC_put (s := 1) hgl HGO.out HRW.out HSL.out (Below.refl _ _) (by omega) (gb_below _ hb) (own_mono hoI hzo) hloc
            have e0 := bCells_prev (fun i => ((S.getD i 0 : Nat) : Int)) (fun i => ((T i : Nat) : Int)) VV S.length 0 hS0 v
            have h7 := h.2.2 3 (by simpa using e0)
            have c9 := blkC_prev h.1 0 hS0
            rw [show 2 * 0 + 1 = 1 from rfl, HV1.out] at c9
            exact ⟨⟨by simpa using c9, h.1.frozenAt _⟩, h7.1, h7.2.1, h7.2.2⟩
          clear HRF hownP hvP hno2 hns2 hae HTI HST
          generalize hlp : LL 1 = lp at *
          have HLP : Hid (LL 1 = lp) := hlp
          clear hlp
          have hS0I : (0 : Int) < S.length := by omega
          go_wp2_with (at_builtin; refine wpList_append_slice rfl (.tmp 150) (.tmp 154) 37 rfl wo.heap.size 3 i64i _ 1 8 Tryd.underlying37 hi64 hz0 hz1' hz2 rfl (by decide) _ 1 (i64s [-1]) rfl OWF.out aoP lp.length capP (i64s lp) rfl HNO.out (by simp [i64s]) HNS.out (i64s_one _) (by unfold maxLen; omega) (by omega) (by simp) ?_; intro v9 w9 hown9 hg9; have HQ := HFIN.out _ _ hown9 hg9; obtain ⟨ao9, cap9, rfl⟩ := own_shape hown9; have q2 := HQ.1.1; have qf := HQ.1.2)
          have HQH : Hid _ := HQ.2
          clear HQ hown9 hg9 HFIN
          go_ret2
          have hbF := below_gb (below_call HB2.out HB2.out.size HBA.out) HQH.out.2.2 (Nat.le_trans HB2.out.size hgb) (Nat.le_trans HB2.out.size hza)
          refine ⟨_, S, T, rfl, HBO.out, ⟨g, capv, _, rfl, ⟨hng, by simpa using hmg, fun i hi => ⟨blkC_from HQH.out.1 i hi, blkC_to HQH.out.1 i hi, blkC_next HQH.out.1 i hi, blkC_prev HQH.out.1 i hi⟩, fun i hi => ?_⟩⟩, hbF⟩
          have o1 := own_ints (HQH.out.2.1.own (2 * i) (by omega))
          have o2 := own_ints (HQH.out.2.1.own (2 * i + 1) (by omega))
          rw [upd_other LL (by omega), (HALL.out i hi).1, rNx_all OK.out HBO.out hi] at o1
          refine ⟨o1, ?_⟩
          rw [← rPv_all OK.out HBO.out hi]
          by_cases hi0 : i = 0
          · subst hi0
            have h := (HALL.out 0 hi).2
            rw [show 2 * 0 + 1 = 1 from rfl] at h o2 ⊢
            have e : lp = rPv f S T S.length 0 := HLP.out.symm.trans h
            rw [upd_same LL] at o2
            rw [if_pos rfl, ← e]
            exact o2
          · rw [upd_other LL (by omega), (HALL.out i hi).2] at o2
            rw [if_neg hi0]
            exact o2
end Go.Proofs.YteilohamjijpbaaDoor
