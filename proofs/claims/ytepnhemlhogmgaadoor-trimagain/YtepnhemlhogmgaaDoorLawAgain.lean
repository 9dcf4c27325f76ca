/- The walk of tierlinekeep.TrimAgain: at all raw numbers it says true, and nothing that was there has turned. -/
import Derived.Test.YtepnhemlhogmgaaDoorAgainMore
import Derived.Test.YtepnhemlhogmgaaDoorSameK
namespace Go.Proofs.YtepnhemlhogmgaaDoor
open Go Go.RowKit

theorem Trim_left (P : List Fn) (hR : Right P) (v : Value) (w : World) (ht : TabOk w) (hc : CallOk w) (hv : ProgVal w v P) :
    Calls Tryd.prog 16 #[.agg #[v]] w fun e w' => ∃ v' c Q us, e = .returned (.tuple #[.agg #[v'], .int .i64 0]) ∧ Left P c Q ∧ Built w' w.heap.size 44 70 v' Q us ∧ Below w.heap.size w w' :=
  (Trim_any P v w ht hc hv).mono fun _ _ ⟨v', E, Q, us, he, hA, hb, hbl⟩ => by
    rcases hA with ⟨a, b, _⟩ | ⟨h0, rfl, c, hc, hk⟩
    · rw [hR.2 E b] at a; cases a
    · exact ⟨v', c, Q, us, he, ⟨h0, hc, hk⟩, hb, hbl⟩
theorem Trim_again {P Q : List Fn} {c : List Bool} (hL : Left P c Q) (v : Value) (w : World) (ht : TabOk w) (hc : CallOk w) (hv : ProgVal w v Q) :
    Calls Tryd.prog 16 #[.agg #[v]] w fun e w' => ∃ v', e = .returned (.tuple #[.agg #[v'], .int .i64 0]) ∧ ProgVal w' v' Q ∧ Below w.heap.size w w' :=
  (Trim_right Q hL.rightQ v w ht hc hv).mono fun _ _ ⟨v', c', R, us, he, hcs, hk, hb, hbl⟩ => by
    rw [hL.calledQ hcs] at hk
    have := hL.again hk (Nat.le_refl _)
    rw [List.take_length] at this
    subst this
    exact ⟨v', he, hb.prog, hbl⟩
theorem Called_again {P Q : List Fn} {c : List Bool} (hL : Left P c Q) (v : Value) (w : World) (ht : TabOk w) (hc : CallOk w) (hv : ProgVal w v Q) :
    Calls Tryd.prog 13 #[.agg #[v]] w fun e w' => ∃ g, e = .returned (.tuple #[.slice (some ⟨g, 0, none⟩) Q.length Q.length, .int .i64 0]) ∧ BoolRow w' g Q.length (List.replicate Q.length true) ∧ Below w.heap.size w w' :=
  (Called_any Q v w ht hc hv).mono fun e w' h => by
    rcases h with ⟨E, hE, _, h1, _⟩ | ⟨_, g, c', he, hcs, hr, _, hb⟩
    · rw [hL.rightQ.2 E h1] at hE; cases hE
    · rw [hL.calledQ hcs] at hr
      exact ⟨g, he, hr, hb⟩
theorem Where_again {P Q : List Fn} {c : List Bool} (hL : Left P c Q) (k : Nat) (hk : k < Q.length) (v : Value) (w : World) (ht : TabOk w) (hc : CallOk w) (hv : ProgVal w v Q) :
    Calls Tryd.prog 9 #[.agg #[v], .int .i64 k] w fun e w' => ∃ ao b off cap, e = .returned (.tuple #[.slice ao Q[k].code.length cap, .int .i64 0]) ∧ (0 < Q[k].code.length → ao = some ⟨b, off, none⟩) ∧ (∀ j, j < Q[k].code.length → w'.cell? ⟨b, off + j, none⟩ = some (.int .i64 (j : Int))) ∧ Below w.heap.size w w' :=
  (Where_right Q hL.rightQ k hk v w ht hc hv).mono fun _ _ ⟨v', s, he, _, hs, hI, hb⟩ => by
    rw [hL.reachQ hk hs] at hI
    obtain ⟨ao, b, off, n, cap, rfl, hl, ha, hc, _⟩ := ints_get hI
    rw [whereL_length, List.length_replicate] at hl
    subst hl
    exact ⟨ao, b, off, cap, he, ha, fun j hj => by rw [hc j hj, where_all _ j hj], hb⟩
theorem Check_again {P Q : List Fn} {c : List Bool} (hL : Left P c Q) (v : Value) (w : World) (ht : TabOk w) (hc : CallOk w) (hv : ProgVal w v Q) :
    Calls Tryd.prog 21 #[.agg #[v]] w fun e w' => e = .returned (.int .i64 0) ∧ Below w.heap.size w w' :=
  (pcheck_any Q v w ht hc hv).mono fun _ _ ⟨E, he, hE, hb⟩ => ⟨by rw [he, hL.rightQ.2 E hE], hb⟩

set_option maxHeartbeats 8000000 in
set_option maxRecDepth 100000 in
theorem trimAgain_walk (l : List Fn) (v : Value) (w : World) (ht : TabOk w) (hc : CallOk w) (hv : ProgVal w v l) (hwf : ∀ f ∈ l, f.wf) :
    Calls Tryd.prog 6 #[v] w fun e w' => e = .returned (.bool true) ∧ Below w.heap.size w w' := by
  have hSh := program_raw l v w ht hc hv hwf
  obtain ⟨aol, nl, capl, rfl⟩ := hv.shape
  have HT : Hid (∀ W, Below w.heap.size w W → TabOk W ∧ CallOk W) := fun W hb => ⟨ht.below hb, hc.below hb⟩
  clear hv hwf ht hc
  go_enter Tryd.func6, Tryd.ntmps6
  go_upto_region 3 with (first
    | (go_at_call 19; refine hSh.mono ?_; rintro e w1 ⟨v1, P, us, rfl, hpi, hbt, hb1⟩; have hp1 := hbt.prog; have hRi := progIs_right hpi; obtain ⟨ao1, n1, cap1, rfl⟩ := hp1.shape; have HA1 : Hid (∀ o, Below w.heap.size w (w1.alloc o)) := (fun o => hb1.alloc hb1.size o); have hTr := (fun o => Trim_left P hRi (.slice ao1 n1 cap1) (w1.alloc o) (HT.out _ (HA1.out o)).1 (HT.out _ (HA1.out o)).2 (hp1.keeps (keeps_below ((Below.refl _ _).alloc (Nat.le_refl _) o)))); clear hpi hbt hp1 hRi)
    | (go_at_call 16; refine (hTr _).mono ?_; rintro e w2 ⟨v2, c, Q, us2, rfl, hL, hbt2, hb2⟩; have HL : Hid (Left P c Q) := hL; have hq2 := hbt2.prog; obtain ⟨g2, cap2, rfl, hgb2, hgl2, -, -⟩ := own_at hbt2.row hL.len1; have HQV : Hid (ProgVal w2 (.slice (some ⟨g2, 0, none⟩) Q.length cap2) Q) := hq2; clear hL hbt2 hq2))
  have hz1 := hb1.size
  have HB2 : Hid (Below w.heap.size w w2) := below_step hb1 hz1 hb2
  have hz2 := HB2.out.size
  have hQ1 := HL.out.len1
  have hQ4 := (codeProg_zero HL.out.codeQ).2.1
  have HBQ : Hid (∀ W, Below w2.heap.size w2 W → Below w.heap.size w W ∧ ProgVal W (.slice (some ⟨g2, 0, none⟩) Q.length cap2) Q) := fun W hb => ⟨below_call HB2.out hz2 hb, HQV.out.keeps (keeps_below hb)⟩
  have hA2 : ∀ o, Below w2.heap.size w2 (w2.alloc o) := fun o => (Below.refl _ _).alloc (Nat.le_refl _) _
  have hTr2 := fun o => Trim_again HL.out _ (w2.alloc o) (HT.out _ (HBQ.out _ (hA2 o)).1).1 (HT.out _ (HBQ.out _ (hA2 o)).1).2 (HBQ.out _ (hA2 o)).2
  have HCA : Hid (∀ W, Below w2.heap.size w2 W → Calls Tryd.prog 13 #[.agg #[.slice (some ⟨g2, 0, none⟩) Q.length cap2]] W fun e w' => ∃ g, e = .returned (.tuple #[.slice (some ⟨g, 0, none⟩) Q.length Q.length, .int .i64 0]) ∧ BoolRow w' g Q.length (List.replicate Q.length true) ∧ Below W.heap.size W w') := fun W hb => Called_again HL.out _ W (HT.out _ (HBQ.out _ hb).1).1 (HT.out _ (HBQ.out _ hb).1).2 (HBQ.out _ hb).2
  have HWH : Hid (∀ W, Below w2.heap.size w2 W → ∀ k (hk : k < Q.length), Calls Tryd.prog 9 #[.agg #[.slice (some ⟨g2, 0, none⟩) Q.length cap2], .int .i64 k] W fun e w' => ∃ ao b off cap, e = .returned (.tuple #[.slice ao Q[k].code.length cap, .int .i64 0]) ∧ (0 < Q[k].code.length → ao = some ⟨b, off, none⟩) ∧ (∀ j, j < Q[k].code.length → w'.cell? ⟨b, off + j, none⟩ = some (.int .i64 (j : Int))) ∧ Below W.heap.size W w') := fun W hb k hk => Where_again HL.out k hk _ W (HT.out _ (HBQ.out _ hb).1).1 (HT.out _ (HBQ.out _ hb).1).2 (HBQ.out _ hb).2
  have HCK : Hid (∀ W, Below w2.heap.size w2 W → Calls Tryd.prog 21 #[.agg #[.slice (some ⟨g2, 0, none⟩) Q.length cap2]] W fun e w' => e = .returned (.int .i64 0) ∧ Below W.heap.size W w') := fun W hb => Check_again HL.out _ W (HT.out _ (HBQ.out _ hb).1).1 (HT.out _ (HBQ.out _ hb).1).2 (HBQ.out _ hb).2
  have HFN : Hid (∀ k (hk : k < Q.length), 1 ≤ Q[k].code.length ∧ Q[k].code.length ≤ 40) := fun k hk => ⟨(fnOk_of HL.out.codeQ (List.getElem_mem hk)).1.len1, (fnOk_of HL.out.codeQ (List.getElem_mem hk)).1.len2⟩
  have hQne : ((Q.length : Int) == 0) = false := by simp only [beq_eq_false_iff_ne, ne_eq]; omega
  have hQnn : ¬ Q = [] := fun e => by rw [e] at hQ1; simp at hQ1
  clear hA2 hTr hSh hb1 hb2
  go_wp2_with (first
    | (go_at_call 16; refine (hTr2 _).mono ?_; rintro e w3 ⟨v3, rfl, hq3, hb3⟩; have HB3 : Hid (Below w2.heap.size w2 w3) := ((Below.refl _ _).alloc (Nat.le_refl _) _).trans (hb3.mono (by simp)); have hz3 : w2.heap.size < w3.heap.size := (by have := hb3.size; simp at this; omega); have k3 := keeps_below hb3 ⟨w2.heap.size, 0, none⟩ (.slice (some ⟨g2, 0, none⟩) Q.length cap2) (by simp); have k3a := (fun o => cell_alloc k3 o); obtain ⟨ao3, n3, cap3, rfl⟩ := hq3.shape; have hca := (fun o => HCA.out (w3.alloc o) (HB3.out.alloc (by omega) o)); have HQ3 : Hid (ProgVal w3 (.slice ao3 n3 cap3) Q) := hq3; clear hq3 hb3)
    | (go_at_call 13; refine (hca _).mono ?_; rintro e w4 ⟨g4, rfl, hrow4, hb4⟩; have HB4 : Hid (Below w2.heap.size w2 w4) := below_step HB3.out (by omega) hb4; have hz4 : w3.heap.size < w4.heap.size := (by have := hb4.size; simp at this; omega); have k4 := keeps_below hb4 _ _ (k3a _); have k5 := keeps_below hb4 ⟨w3.heap.size, 0, none⟩ (.slice ao3 n3 cap3) (by simp); have hsm := sameK_true Q _ _ w4 ((HBQ.out _ HB4.out).2) ((HQ3.out.keeps (keeps_below ((Below.refl _ _).alloc (Nat.le_refl _) _))).keeps (keeps_below hb4)); have HROW4 : Hid (BoolRow w4 g4 Q.length (List.replicate Q.length true)) := hrow4; clear hrow4 hb4 hca)
    | (go_at_call 20; refine hsm.mono ?_; rintro e w5 ⟨rfl, hb5⟩; have HB5 : Hid (Below w2.heap.size w2 w5) := HB4.out.trans (hb5.mono (by omega)); have k6 := keeps_below hb5 _ _ k4; have hz5 := hb5.size; have HROW5 : Hid (BoolRow w5 g4 Q.length (List.replicate Q.length true)) := ownsRow_below HROW4.out hb5; clear hb5 hsm))
  have hz25 := HB5.out.size
  clear hTr2
  go_loopw [10] (fun i wr => ∃ k : Nat, k ≤ Q.length ∧ i = .int .i64 k ∧ Below w5.heap.size w5 wr) (fun i _ => Q.length - (intOf i).toNat)
  case atStart => exact ⟨0, Nat.zero_le _, rfl, Below.refl _ _⟩
  case round =>
    rename World => wa
    obtain ⟨k, hk, rfl, hba⟩ := hrel
    have HBA : Hid (Below w5.heap.size w5 wa) := hba
    have HB2A : Hid (Below w2.heap.size w2 wa) := HB5.out.trans (hba.mono hz25)
    have j6 := keeps_below hba _ _ k6
    have hza := hba.size
    by_cases hlt : k < Q.length
    · have hkI : (k : Int) < Q.length := by omega
      have hwh := HWH.out wa HB2A.out k hlt
      have cb : wa.cell? ⟨g4, k, none⟩ = some (.bool true) := by
        have := keeps_below hba _ _ (bool_cell HROW5.out (by simp) k hlt)
        rw [this]; simp [List.getD, hlt]
      obtain ⟨b6, off6, cap6, u6, e6, -, -, y2, hcv6, -, -⟩ := prog_fn (HBQ.out _ HB2A.out).2 hlt
      obtain ⟨eg, eo, ec⟩ : g2 = b6 ∧ 0 = off6 ∧ cap2 = cap6 := by
        have := e6
        simp only [Value.slice.injEq, Option.some.injEq, Addr.mk.injEq] at this
        exact ⟨this.1.1, this.1.2.1, this.2.2⟩
      subst eg eo ec
      obtain ⟨hl1, hl2⟩ := HFN.out k hlt
      obtain ⟨ao7, b7, off7, n, cap7, rfl, ⟨hl7, -, -⟩, -, -⟩ := hcv6
      simp only [hl7] at hwh
      rw [hl7] at hl1 hl2
      rw [Nat.zero_add] at y2
      clear hl7 e6 hba
      go_wp2_with (go_at_call 9; refine hwh.mono ?_; rintro e w6 ⟨ao8, b8, off8, cap8, rfl, ha8, hc8, hb6⟩; obtain rfl := ha8 (by omega); have cb6 := keeps_below hb6 _ _ cb; have m6 := keeps_below hb6 _ _ j6; have m2 := keeps_below hb6 _ _ y2; have HC8 : Hid (∀ j, j < n → w6.cell? ⟨b8, off8 + j, none⟩ = some (.int .i64 (j : Int))) := hc8; have HB6 : Hid (Below w5.heap.size w5 w6) := HBA.out.trans (hb6.mono hza); clear hc8 ha8 hb6)
      go_loopw [13] (fun i wr => ∃ j : Nat, j ≤ n ∧ i = .int .i64 j ∧ wr = w6) (fun i _ => n - (intOf i).toNat)
      case atStart => exact ⟨0, Nat.zero_le _, rfl, rfl⟩
      case round =>
        obtain ⟨j, hj, rfl, rfl⟩ := hrel
        by_cases hjn : j < n
        · have cj := HC8.out j hjn
          have hjI : (j : Int) < n := by omega
          go_wp2
          go_roundw
          case rel => exact ⟨j + 1, by omega, by go_num, trivial⟩
          case measure => simp [intOf]; omega
        · go_wp2
          go_roundw
          case rel => exact ⟨k + 1, by omega, by go_num, HB6.out⟩
          case measure => simp [intOf]; omega
    · have hck := HCK.out wa HB2A.out
      obtain rfl : k = Q.length := by omega
      clear hba
      go_wp2_with (go_at_call 21; refine hck.mono ?_; rintro e w7 ⟨rfl, hb7⟩)
      go_ret
      exact ⟨rfl, (HBQ.out _ (HB2A.out.trans (hb7.mono HB2A.out.size))).1⟩

end Go.Proofs.YtepnhemlhogmgaaDoor
