/- The walk of tierlinekeep.LoopsNone: at all raw numbers it says true, and nothing that was there has turned. -/
import Derived.Test.YtpkgibdbmmhgdaaDoorXNoneMath
import Derived.Test.YtpkgibdbmmhgdaaDoorXRightRaw
namespace Go.Proofs.YtpkgibdbmmhgdaaDoor
open Go Go.RowKit

theorem fnsCells_code : ∀ (p : List Fn) (us : List Value) (k : Nat) (h : k < us.length), us.length = p.length → (fnsCells p us)[k * 3 + 2]? = some us[k]
  | f :: p, u :: us, 0, _, _ => rfl
  | f :: p, u :: us, k + 1, h, hl => by
    have h2 : k < us.length := by simpa using h
    have := fnsCells_code p us k h2 (by simpa using hl)
    show (fnCells f u ++ fnsCells p us)[(k + 1) * 3 + 2]? = some us[k]
    have hc : (fnCells f u).length = 3 := rfl
    rw [List.getElem?_append_right (by rw [hc]; omega), hc, show (k + 1) * 3 + 2 - 3 = k * 3 + 2 by omega]
    exact this
  | [], _ :: _, _, _, hl => by cases hl
theorem codeCells_at : ∀ (xs : List Ins) (q c : Nat) (_ : q < xs.length) (_ : c < 5), (codeCells xs)[q * 5 + c]? = (insCells (xs.getD q ⟨0, 0, 0, 0, 0⟩))[c]?
  | x :: xs, 0, c, _, hc => by
    show (insCells x ++ codeCells xs)[0 * 5 + c]? = (insCells x)[c]?
    rw [List.getElem?_append_left (by simp [insCells]; omega)]
    congr 1; omega
  | x :: xs, q + 1, c, h, hc => by
    have := codeCells_at xs q c (by simpa using h) hc
    show (insCells x ++ codeCells xs)[(q + 1) * 5 + c]? = (insCells (xs.getD q ⟨0, 0, 0, 0, 0⟩))[c]?
    rw [List.getElem?_append_right (by simp [insCells]; omega), ← this]
    congr 1; simp [insCells]; omega
/-- What holds of the program along the stores. -/
structure NoneAt (w : World) (base k n q : Nat) (v : Value) (us : List Value) (P2 : List Fn) (N : Nat) : Prop where
  built : Built w base 41 46 v P2 us
  size : P2.length = N
  code : (P2.getD k ⟨0, 0, []⟩).code.length = n
  fwd : Fwd (P2.getD k ⟨0, 0, []⟩) q
theorem NoneAt.cells {w : World} {base k n q g cap gc cc N : Nat} {us : List Value} {P2 : List Fn} (h : NoneAt w base k n q (.slice (some ⟨g, 0, none⟩) N cap) us P2 N) (hk : k < N) (hu : us.getD k default = .slice (some ⟨gc, 0, none⟩) n cc) (hq : q < n) :
    w.cell? ⟨g, k * 3 + 2, none⟩ = some (.slice (some ⟨gc, 0, none⟩) n cc) ∧ w.cell? ⟨gc, q * 5, none⟩ = some (.int .i64 (insD (P2.getD k ⟨0, 0, []⟩) q).op) ∧ w.cell? ⟨gc, q * 5 + 4, none⟩ = some (.int .i64 (insD (P2.getD k ⟨0, 0, []⟩) q).imm) ∧ w.frozen? ⟨gc, q * 5 + 4, none⟩ = false := by
  have hl := h.built.len
  have hs := h.size
  have hkP : k < P2.length := by omega
  have hkU : k < us.length := by omega
  have eu : us[k] = .slice (some ⟨gc, 0, none⟩) n cc := by rw [← hu]; simp [List.getD, hkU]
  have eP : P2.getD k ⟨0, 0, []⟩ = P2[k] := by simp [List.getD, hkP]
  have hc := h.built.codes k hkP
  have hcl := h.code
  rw [eP] at hcl ⊢
  rw [eu, hcl] at hc
  have hr := h.built.row
  rw [hs] at hr
  refine ⟨?_, ?_, ?_, hc.frozenAt _⟩
  · rw [hr.cellAt (k * 3 + 2) (by omega), fnsCells_code P2 us k hkU hl, eu]
  · rw [hc.cellAt (q * 5) (by omega)]
    exact codeCells_at P2[k].code q 0 (by omega) (by omega)
  · rw [hc.cellAt (q * 5 + 4) (by omega)]
    exact codeCells_at P2[k].code q 4 (by omega) (by omega)
theorem NoneAt.cellsRow {w : World} {base k n q g cap gc cc N : Nat} {us : List Value} {P2 : List Fn} (h : NoneAt w base k n q (.slice (some ⟨g, 0, none⟩) N cap) us P2 N) (hk : k < N) (hu : us.getD k default = .slice (some ⟨gc, 0, none⟩) n cc) : w.cell? ⟨g, k * 3 + 2, none⟩ = some (.slice (some ⟨gc, 0, none⟩) n cc) := by
  have hl := h.built.len
  have hs := h.size
  have hkU : k < us.length := by omega
  have eu : us[k] = .slice (some ⟨gc, 0, none⟩) n cc := by rw [← hu]; simp [List.getD, hkU]
  have hr := h.built.row
  rw [hs] at hr
  rw [hr.cellAt (k * 3 + 2) (by omega), fnsCells_code P2 us k hkU hl, eu]
theorem NoneAt.on {w : World} {base k n q N : Nat} {v : Value} {us : List Value} {P2 : List Fn} (h : NoneAt w base k n q v us P2 N) (ho : ((insD (P2.getD k ⟨0, 0, []⟩) q).op = 15 ∨ (insD (P2.getD k ⟨0, 0, []⟩) q).op = 16) → (q : Int) < (insD (P2.getD k ⟨0, 0, []⟩) q).imm) : NoneAt w base k n (q + 1) v us P2 N :=
  ⟨h.built, h.size, h.code, fun pc hpc h2 => by
    by_cases e : pc = q
    · subst e; exact ho h2
    · exact h.fwd pc (by omega) h2⟩
theorem NoneAt.put {w : World} {base k n q gc cc N : Nat} {v : Value} {us : List Value} {P2 : List Fn} (h : NoneAt w base k n q v us P2 N) (hk : k < N) (hu : us.getD k default = .slice (some ⟨gc, 0, none⟩) n cc) (hq : q < n) :
    (∃ P3, NoneAt (w.setCell ⟨gc, q * 5 + 4, none⟩ (.int .i64 ((q : Int) + 1))) base k n (q + 1) v us P3 N) ∧ w.grownBy (w.setCell ⟨gc, q * 5 + 4, none⟩ (.int .i64 ((q : Int) + 1))) (some gc) ∧ base ≤ gc := by
  have hl := h.built.len
  have hs := h.size
  have hkP : k < P2.length := by omega
  have hkU : k < us.length := by omega
  have eu : us[k] = .slice (some ⟨gc, 0, none⟩) n cc := by rw [← hu]; simp [List.getD, hkU]
  have eP : P2.getD k ⟨0, 0, []⟩ = P2[k] := by simp [List.getD, hkP]
  obtain ⟨h1, h2, h3⟩ := h.built.imm (by decide) hkP eu q ((q : Int) + 1)
  have hkI : k < (immAll gc q ((q : Int) + 1) P2 us).length := by rw [immAll_len]; exact hkP
  have e3 : (immAll gc q ((q : Int) + 1) P2 us).getD k ⟨0, 0, []⟩ = immFn (P2.getD k ⟨0, 0, []⟩) q ((q : Int) + 1) := by
    rw [eP]
    have : (immAll gc q ((q : Int) + 1) P2 us).getD k ⟨0, 0, []⟩ = (immAll gc q ((q : Int) + 1) P2 us)[k] := by simp [List.getD, hkI]
    rw [this, immAll_get _ _ _ _ _ _ hkP hkU, eu]
    exact if_pos rfl
  refine ⟨⟨_, h1, by rw [immAll_len]; exact hs, ?_, fun pc hpc ho => ?_⟩, h2, h3⟩
  · rw [e3]; show (immAt _ _ _).length = n; rw [immAt_len]; exact h.code
  · rw [e3, immFn_ins] at ho ⊢
    by_cases e : pc = q
    · subst e
      rw [if_pos ⟨rfl, by rw [h.code]; exact hq⟩]
      show (pc : Int) < (pc : Int) + 1
      omega
    · rw [if_neg (fun h => e h.1)] at ho ⊢
      exact h.fwd pc (by omega) ho

set_option maxHeartbeats 8000000 in
set_option maxRecDepth 100000 in
theorem loopsNone_walk (l : List Fn) (v : Value) (fn : Int) (w : World) (ht : TabOk w) (hc : CallOk w) (hv : ProgVal w v l) (hwf : ∀ f ∈ l, f.wf) (hfn : I64 fn) :
    Calls Tryd.prog 11 #[v, .int .i64 fn] w fun e w' => e = .returned (.bool true) ∧ Below w.heap.size w w' := by
  have hSh := program_raw l v w ht hc hv hwf
  obtain ⟨aol, nl, capl, rfl⟩ := hv.shape
  have HT : Hid (TabOk w) := ht
  have HCO : Hid (CallOk w) := hc
  clear hv hwf ht hc
  go_enter Tryd.func11, Tryd.ntmps11
  go_upto_region 2 with (go_at_call 14; refine hSh.mono ?_; rintro e w1 ⟨v1, P, us, rfl, hpi, hbt, hb1⟩; have hcp := progIs_code hpi; obtain ⟨hn1, hn4, -⟩ := codeProg_zero hcp; obtain ⟨k, hk, ek⟩ := pick_some fn P.length hn1; obtain ⟨g, cap, rfl, hgb, hgl, hgm, hgc⟩ := own_at hbt.row (by omega))
  have OK : Hid (FlowOk P P[k]) := flowOk_of (progIs_ans hpi) (List.getElem_mem hk)
  have hl1 := OK.out.ok.len1
  have hl2 := OK.out.ok.len2
  have hkU : k < us.length := by have := hbt.len; omega
  obtain ⟨gc, cc, eu, hcb, hcl, hcm, hcc⟩ := own_at (hbt.codes k hk) (by omega)
  have HU : Hid (us.getD k default = .slice (some ⟨gc, 0, none⟩) P[k].code.length cc) := by show _ = _; rw [← eu]; simp [List.getD, hkU]
  have HNA : Hid (NoneAt (w1.alloc (.cells #[.slice (some ⟨g, 0, none⟩) P.length cap] 29)) w.heap.size k P[k].code.length 0 (.slice (some ⟨g, 0, none⟩) P.length cap) us P P.length) := ⟨hbt.alloc _, rfl, by simp [List.getD, hk], fun pc h => by omega⟩
  have HB1 : Hid (Below w.heap.size w (w1.alloc (.cells #[.slice (some ⟨g, 0, none⟩) P.length cap] 29))) := hb1.alloc hb1.size _
  have kp : (w1.alloc (.cells #[.slice (some ⟨g, 0, none⟩) P.length cap] 29)).cell? ⟨w1.heap.size, 0, none⟩ = some (.slice (some ⟨g, 0, none⟩) P.length cap) := by simp
  have hz1 : w.heap.size ≤ w1.heap.size := hb1.size
  have hkI : (k : Int) < P.length := by omega
  unfold maxLen at hgm hcm
  clear hbt hb1 hpi hcp hSh eu hkU OK
  generalize P[k].code.length = n at *
  generalize P.length = N at *
  go_upto_region 5 with (go_at_call 21; refine (picked_any _ _ _ hfn (by omega) (by omega)).mono ?_; rintro e w' ⟨rfl, hw'⟩; replace hw' := hw'.symm; subst hw')
  have KP : Hid ((w1.alloc (.cells #[.slice (some ⟨g, 0, none⟩) N cap] 29)).cell? ⟨w1.heap.size, 0, none⟩ = some (.slice (some ⟨g, 0, none⟩) N cap)) := kp
  clear kp
  generalize (w1.alloc (.cells #[.slice (some ⟨g, 0, none⟩) N cap] 29)) = WA at *
  obtain ⟨PB, hPB⟩ : ∃ PB, PB = w1.heap.size := ⟨_, rfl⟩
  rw [← hPB] at KP hz1 hgl hcl ⊢
  clear hPB
  go_loopw [8] (fun i wr => ∃ (q : Nat) (P2 : List Fn), q ≤ n ∧ i = .int .i64 q ∧ NoneAt wr w.heap.size k n q (.slice (some ⟨g, 0, none⟩) N cap) us P2 N ∧ wr.cell? ⟨PB, 0, none⟩ = some (.slice (some ⟨g, 0, none⟩) N cap) ∧ Below w.heap.size w wr) (fun i _ => n - (intOf i).toNat)
  case atStart => exact ⟨0, P, Nat.zero_le _, rfl, HNA.out, KP.out, HB1.out⟩
  case round =>
    clear HNA KP HB1
    obtain ⟨q, P2, hq, rfl, hna, kp, hbr⟩ := hrel
    have HN2 : Hid (NoneAt wr w.heap.size k n q (.slice (some ⟨g, 0, none⟩) N cap) us P2 N) := hna
    have HBR : Hid (Below w.heap.size w wr) := hbr
    by_cases hlt : q < n
    · have hqI : (q : Int) < n := by omega
      obtain ⟨c2, e0, e4, f4⟩ := hna.cells hk HU.out hlt
      obtain ⟨hput, hgr, hgb2⟩ := hna.put hk HU.out hlt
      have HPUT : Hid (∃ P3, NoneAt (wr.setCell ⟨gc, q * 5 + 4, none⟩ (.int .i64 ((q : Int) + 1))) w.heap.size k n (q + 1) (.slice (some ⟨g, 0, none⟩) N cap) us P3 N) := hput
      have HGR : Hid (wr.grownBy (wr.setCell ⟨gc, q * 5 + 4, none⟩ (.int .i64 ((q : Int) + 1))) (some gc)) := hgr
      have HON : Hid ((((insD (P2.getD k ⟨0, 0, []⟩) q).op = 15 ∨ (insD (P2.getD k ⟨0, 0, []⟩) q).op = 16) → (q : Int) < (insD (P2.getD k ⟨0, 0, []⟩) q).imm) → NoneAt wr w.heap.size k n (q + 1) (.slice (some ⟨g, 0, none⟩) N cap) us P2 N) := fun h => hna.on h
      have HB2 : Hid (Below w.heap.size w (wr.setCell ⟨gc, q * 5 + 4, none⟩ (.int .i64 ((q : Int) + 1)))) := below_gb hbr hgr hgb2 hbr.size
      have HKP : Hid ((wr.setCell ⟨gc, q * 5 + 4, none⟩ (.int .i64 ((q : Int) + 1))).cell? ⟨PB, 0, none⟩ = some (.slice (some ⟨g, 0, none⟩) N cap)) := gb_cell hgr kp (by show PB ≠ gc; omega)
      have hw1 : IntKind.i64.wrap ((q : Int) + 1) = (q : Int) + 1 := wrap_signed _ (by omega) (by omega)
      clear hna hbr hput hgr
      generalize (insD (P2.getD k ⟨0, 0, []⟩) q).op = op at *
      generalize (insD (P2.getD k ⟨0, 0, []⟩) q).imm = imm at *
      by_cases hle : imm ≤ (q : Int)
      · have hd : decide (imm ≤ (q : Int)) = true := by simpa using hle
        by_cases h15 : op = 15
        · subst h15
          go_wp2
          obtain ⟨P3, h3⟩ := HPUT.out
          go_roundw
          case rel => exact ⟨q + 1, P3, by omega, by go_num, h3, HKP.out, HB2.out⟩
          case measure => simp [intOf]; omega
        · by_cases h16 : op = 16
          · subst h16
            go_wp2
            obtain ⟨P3, h3⟩ := HPUT.out
            go_roundw
            case rel => exact ⟨q + 1, P3, by omega, by go_num, h3, HKP.out, HB2.out⟩
            case measure => simp [intOf]; omega
          · have h15b : (op == 15) = false := by simpa using h15
            have h16b : (op == 16) = false := by simpa using h16
            have HN3 : Hid (NoneAt wr w.heap.size k n (q + 1) (.slice (some ⟨g, 0, none⟩) N cap) us P2 N) := HON.out (fun h => by rcases h with h | h; exact absurd h h15; exact absurd h h16)
            go_wp2
            go_roundw
            case rel => exact ⟨q + 1, P2, by omega, by go_num, HN3.out, by assumption, HBR.out⟩
            case measure => simp [intOf]; omega
      · have hd : decide (imm ≤ (q : Int)) = false := by simpa using hle
        have HN3 : Hid (NoneAt wr w.heap.size k n (q + 1) (.slice (some ⟨g, 0, none⟩) N cap) us P2 N) := HON.out (fun _ => by omega)
        by_cases h15 : op = 15
        · subst h15
          go_wp2
          go_roundw
          case rel => exact ⟨q + 1, P2, by omega, by go_num, HN3.out, by assumption, HBR.out⟩
          case measure => simp [intOf]; omega
        · have h15b : (op == 15) = false := by simpa using h15
          by_cases h16 : op = 16
          · subst h16
            go_wp2
            go_roundw
            case rel => exact ⟨q + 1, P2, by omega, by go_num, HN3.out, by assumption, HBR.out⟩
            case measure => simp [intOf]; omega
          · have h16b : (op == 16) = false := by simpa using h16
            go_wp2
            go_roundw
            case rel => exact ⟨q + 1, P2, by omega, by go_num, HN3.out, by assumption, HBR.out⟩
            case measure => simp [intOf]; omega
    · obtain rfl : q = n := by omega
      have c2 : wr.cell? ⟨g, k * 3 + 2, none⟩ = some (.slice (some ⟨gc, 0, none⟩) q cc) := (hna.cellsRow hk HU.out)
      have hpv : ProgVal wr (.slice (some ⟨g, 0, none⟩) N cap) P2 := hna.built.prog
      have HPV : Hid (ProgVal wr (.slice (some ⟨g, 0, none⟩) N cap) P2) := hpv
      have hPC := pcheck_any P2 _ wr (HT.out.below hbr) (HCO.out.below hbr) hpv
      have hkP : k < P2.length := by rw [hna.size]; exact hk
      have HFW : Hid (P2[k].code.length = q ∧ Fwd P2[k] q) := by
        have eP : P2.getD k ⟨0, 0, []⟩ = P2[k] := by simp [List.getD, hkP]
        exact ⟨by rw [← eP]; exact hna.code, by rw [← eP]; exact hna.fwd⟩
      have HLB : Hid (ProofAns P2 0 → ∀ W, Below wr.heap.size wr W → (Calls Tryd.prog 30 #[.agg #[.slice (some ⟨g, 0, none⟩) N cap], .int .i64 k] W fun e w' => ∃ ao c, e = .returned (.tuple #[.slice ao 0 c, .int .i64 0]) ∧ Below W.heap.size W w') ∧ (Calls Tryd.prog 32 #[.agg #[.slice (some ⟨g, 0, none⟩) N cap], .int .i64 k] W fun e w' => ∃ gb K, e = .returned (.tuple #[.slice (some ⟨gb, 0, none⟩) K K, .int .i64 0]) ∧ 0 < K ∧ Below W.heap.size W w')) := fun hR W hW => by
        have hbW := HBR.out.trans (hW.mono HBR.out.size)
        refine ⟨(Loops_right P2 hR k hkP _ W (HT.out.below hbW) (HCO.out.below hbW) (HPV.out.keeps (keeps_below hW))).mono ?_, (Blocks_right P2 hR k hkP _ W (HT.out.below hbW) (HCO.out.below hbW) (HPV.out.keeps (keeps_below hW))).mono ?_⟩
        · rintro e w' ⟨v', vs, Ls, rfl, hLO, hRA, hb⟩
          have e0 := fwd_none (flowOk_of hR (List.getElem_mem hkP)) (by rw [HFW.out.1]; exact HFW.out.2) hLO
          have hlen := hRA.len
          rw [e0] at hlen
          obtain ⟨ao, c, rfl⟩ := own_shape hRA.row
          exact ⟨ao, c, by rw [hlen]; rfl, hb⟩
        · rintro e w' ⟨gb, S, T, VV, LL, rfl, hB, -, hb⟩
          obtain ⟨hk0, -⟩ := hB.starts.first
          exact ⟨gb, S.length, rfl, hk0, hb⟩
      clear hna hbr hpv
      go_upto_region 9 with fail
      by_cases hE : ProofAns P2 0
      · have hPC0 : Calls Tryd.prog 16 #[.agg #[.slice (some ⟨g, 0, none⟩) N cap]] wr fun e w' => e = .returned (.int .i64 0) ∧ Below wr.heap.size wr w' := hPC.mono (by
          rintro e w' ⟨E, rfl, hE2, hb⟩
          obtain rfl := proofAns_unique hE2 hE
          exact ⟨rfl, hb⟩)
        have HLB2 : Hid _ := HLB.out hE
        clear hPC HLB
        go_wp2_with (first
          | (go_at_call 16; refine hPC0.mono ?_; rintro e w5 ⟨rfl, hb5⟩; have kp5 := keeps_below hb5 _ _ kp; have hLP := (HLB2.out w5 hb5).1)
          | (go_at_call 30; refine hLP.mono ?_; rintro e w6 ⟨ao6, c6, rfl, hb6⟩; have kp6 := keeps_below hb6 _ _ kp5; have hb56 := hb5.trans (hb6.mono hb5.size); have hBL := (HLB2.out w6 hb56).2)
          | (go_at_call 32; refine hBL.mono ?_; rintro e w7 ⟨gb, K, rfl, hK0, hb7⟩; have hK1 : decide ((0 : Int) < (K : Int)) = true := (by simp only [decide_eq_true_eq]; omega); have hK2 : decide (0 < K) = true := (by simp only [decide_eq_true_eq]; omega)))
        go_ret
        exact ⟨rfl, HBR.out.trans ((hb56.trans (hb7.mono hb56.size)).mono HBR.out.size)⟩
      · have hPC1 : Calls Tryd.prog 16 #[.agg #[.slice (some ⟨g, 0, none⟩) N cap]] wr fun e w' => ∃ E, e = .returned (.int .i64 E) ∧ (E != 0) = true ∧ Below wr.heap.size wr w' := hPC.mono (by
          rintro e w' ⟨E, rfl, hE2, hb⟩
          refine ⟨E, rfl, ?_, hb⟩
          by_cases h0 : E = 0
          · rw [h0] at hE2; exact absurd hE2 hE
          · simpa using h0)
        clear hPC HLB
        go_wp2_with (go_at_call 16; refine hPC1.mono ?_; rintro e w5 ⟨E, rfl, hE0, hb5⟩)
        go_ret
        exact ⟨rfl, HBR.out.trans (hb5.mono HBR.out.size)⟩
end Go.Proofs.YtpkgibdbmmhgdaaDoor
