/- Contract of flow.loop. -/
import Derived.Test.YteilohamjijpbaaDoorXFlowAboves
import Derived.Test.YteilohamjijpbaaDoorXLoopMath
import Derived.Test.YteilohamjijpbaaDoorXCalledAll
namespace Go.Proofs.YteilohamjijpbaaDoor
open Go Go.RowKit

/-- The members of a loop: the head, then all others that are marked, in their order. -/
def memL (I : List Bool) (head q : Nat) : List Int := (head : Int) :: ((List.range q).filter fun b => I.getD b false && b != head).map fun b => ((b : Nat) : Int)
theorem memL_zero (I : List Bool) (head : Nat) : memL I head 0 = [(head : Int)] := rfl
theorem memL_skip {I : List Bool} {head q : Nat} (h : (I.getD q false && q != head) = false) : memL I head (q + 1) = memL I head q := by
  unfold memL
  rw [List.range_succ, List.filter_append, List.filter_cons, if_neg (by rw [h]; decide), List.filter_nil, List.append_nil]
theorem memL_add {I : List Bool} {head q : Nat} (h : (I.getD q false && q != head) = true) : memL I head (q + 1) = memL I head q ++ [(q : Int)] := by
  unfold memL
  rw [List.range_succ, List.filter_append, List.filter_cons, if_pos h, List.filter_nil, List.map_append]
  rfl
theorem memL_len (I : List Bool) (head q : Nat) : (memL I head q).length ≤ q + 1 := by
  unfold memL
  have := List.length_filter_le (fun b => I.getD b false && b != head) (List.range q)
  rw [List.length_range] at this
  simp only [List.length_cons, List.length_map]
  omega

set_option maxRecDepth 100000 in
set_option maxHeartbeats 8000000 in
theorem loop_any (P : List Fn) (f : Fn) (ok : FlowOk P f) (base g : Nat) (S : List Nat) (T : Nat → Nat) (VV : Nat → Value) (LL : Nat → List Int) (w : World) (hB : BlocksAt w base g f S T VV LL) (head closing : Nat) (hh : head < S.length) (hcl : closing < S.length) (hd : Dom (pvN f S T) head closing) :
    Calls Tryd.prog 66 #[.slice (some ⟨g, 0, none⟩) S.length S.length, .int .i64 head, .int .i64 closing] w fun e w' => ∃ v I, e = .returned v ∧ LWork (pvN f S T) S.length head closing I [] ∧ OwnI w' w.heap.size v (memL I head S.length) ∧ Below w.heap.size w w' := by
  obtain ⟨iB, hiB, hzB0, hzB1, hzB2⟩ := info_parts infoBool
  obtain ⟨i64i, hi64, hz0, hz1', hz2⟩ := info_parts info64
  have hkn : S.length ≤ 40 := Nat.le_trans (starts_len ok hB.starts) ok.ok.len2
  have HPL : Hid (∀ b p, p ∈ pvN f S T b → p < S.length) := fun b p hp => (hB.ok.pvN_lt ok b p hp).1
  have HPN : Hid (∀ b, (pvN f S T b).length ≤ S.length) := fun b => by
    unfold pvN
    have := List.length_filter_le (fun j => decide (((b : Nat) : Int) ∈ nxI f S (T j))) (List.range S.length)
    rw [List.length_range] at this
    exact this
  have HPV : Hid (∀ W, Below w.heap.size w W → ∀ b, 1 ≤ b → b < S.length → W.cell? ⟨g, b * 4 + 3, none⟩ = some (VV (2 * b + 1)) ∧ IntsVal W (VV (2 * b + 1)) ((pvN f S T b).map fun j => ((j : Nat) : Int))) := fun W hW b h1 hb => by
    have h := (hB.below hW).next b hb
    rw [pvN_pvI f S T b (by omega)] at h
    exact ⟨((hB.below hW).cells b hb).2.2.2, h.2⟩
  have hgl : g < w.heap.size := (hB.row.lt g rfl).2
  have HD : Hid (Dom (pvN f S T) head closing) := hd
  have HST : Hid (LWork (pvN f S T) S.length head closing ((List.replicate S.length false).set head true) [closing]) := LWork.start _ hh hcl
  clear hB hd
  generalize pvN f S T = pv at *
  generalize S.length = K at *
  have hm0 := made_false K
  have hhI : (head : Int) < K := by omega
  go_enter Tryd.func66, Tryd.ntmps66
  go_upto_region 2 with (at_make; refine wpList_make_full _ rfl (.tmp 14) (.tmp 14) 77 rfl 0 4 iB _ 1 Tryd.underlying77 hiB hzB0 hzB1 .i64 .i64 _ _ K rfl rfl (by simp) (by simp) (by rw [hzB2]; omega) (by unfold maxLen; omega) (Nat.zero_le _) ?_; intro w1 hown1 hg1; rw [hm0] at hown1; have hb1 := below_grown hg1)
  have hz1 : w.heap.size < w1.heap.size := (hown1.lt w.heap.size rfl).2
  have c0 := bool_cell hown1 (by simp) head hh
  have f0 := hown1.frozenAt head
  have HSTO := bool_store hown1 head true
  have HR1 : Hid (BoolRow (w1.setCell ⟨w.heap.size, head, none⟩ (.bool true)) w.heap.size K ((List.replicate K false).set head true)) := HSTO.1
  have HB1 : Hid (Below w.heap.size w (w1.setCell ⟨w.heap.size, head, none⟩ (.bool true))) := below_gb hb1 HSTO.2 (Nat.le_refl _) (by omega)
  have hz2w : w.heap.size < (w1.setCell ⟨w.heap.size, head, none⟩ (.bool true)).heap.size := by simpa using hz1
  clear hown1 hg1 hb1 HSTO
  go_upto_region 3 with fail
  generalize (w1.setCell ⟨w.heap.size, head, none⟩ (.bool true)) = WB at *
  clear c0 f0 hz1
  have HR2 : Hid (BoolRow (WB.alloc (.cells #[.int .i64 closing] 3)) w.heap.size K ((List.replicate K false).set head true)) := HR1.out.alloc _
  have HW0 : Hid ((WB.alloc (.cells #[.int .i64 closing] 3)).ownsRow (w.heap.size + 1) 3 1 (.slice (some ⟨WB.heap.size, 0, none⟩) 1 1) 1 (i64s [(closing : Int)])) := World.ownsRow_lit WB #[.int .i64 closing] 1 (by omega) (by unfold maxLen; omega) (by simp)
  have HB2 : Hid (Below w.heap.size w (WB.alloc (.cells #[.int .i64 closing] 3))) := HB1.out.alloc (by omega) _
  go_wp2
  have HU0 : Hid (unseen ((List.replicate K false).set head true) * 41 + [closing].length ≤ 1641) := by
    show _ ≤ _
    have : unseen ((List.replicate K false).set head true) ≤ K := by
      have := List.count_le_length (a := false) (l := (List.replicate K false).set head true)
      rw [List.length_set, List.length_replicate] at this
      exact this
    simp only [List.length_cons, List.length_nil]
    omega
  go_loopg [8] (unseen ((List.replicate K false).set head true) * 41 + 1) (fun m v wr => ∃ (W : List Nat) (I : List Bool), m = unseen I * 41 + W.length ∧ unseen I * 41 + W.length ≤ 1641 ∧ LWork pv K head closing I W ∧ BoolRow wr w.heap.size K I ∧ wr.ownsRow (w.heap.size + 1) 3 1 v W.length (i64s (W.map fun b => ((b : Nat) : Int))) ∧ Below w.heap.size w wr)
  case atStart => exact ⟨[closing], _, rfl, HU0.out, HST.out, HR2.out, HW0.out, HB2.out⟩
  case round =>
    obtain ⟨W, I, hm, hw2000, hlw, hrow, hown, hbr⟩ := hrel
    have hil := hlw.len
    have HM : Hid (gk = unseen I * 41 + W.length) := hm
    have HBR : Hid (Below w.heap.size w wr) := hbr
    have hzr : w.heap.size < wr.heap.size := (hrow.lt w.heap.size rfl).2
    clear hm hbr
    rcases List.eq_nil_or_concat W with rfl | ⟨W', z, rfl⟩
    · have HLW : Hid (LWork pv K head closing I []) := hlw
      have hown0 : wr.ownsRow (w.heap.size + 1) 3 1 _ 0 (i64s ([].map fun b : Nat => ((b : Nat) : Int))) := hown
      obtain ⟨aov, cpv, rfl⟩ := own_shape hown0
      have HC : Hid (∀ q, q < K → wr.cell? ⟨w.heap.size, q, none⟩ = some (.bool (I.getD q false))) := fun q hq => bool_cell hrow hil q hq
      have HB4 : Hid (Below w.heap.size w (wr.alloc (.cells #[.int .i64 head] 3))) := HBR.out.alloc (by omega) _
      have HW4 : Hid ((wr.alloc (.cells #[.int .i64 head] 3)).ownsRow (w.heap.size + 1) 3 1 (.slice (some ⟨wr.heap.size, 0, none⟩) 1 1) 1 (i64s [(head : Int)])) := World.ownsRow_lit wr #[.int .i64 head] 1 (by omega) (by unfold maxLen; omega) (by simp)
      have HC4 : Hid (∀ q, q < K → (wr.alloc (.cells #[.int .i64 head] 3)).cell? ⟨w.heap.size, q, none⟩ = some (.bool (I.getD q false))) := fun q hq => cell_alloc (HC.out q hq) _
      have hz4 : w.heap.size + 1 ≤ (wr.alloc (.cells #[.int .i64 head] 3)).heap.size := by simp; omega
      clear hlw hrow hown hown0 hil
      go_wp2
      generalize (wr.alloc (.cells #[.int .i64 head] 3)) = WC at *
      go_loopw [10, 54] (fun v i wv => ∃ q : Nat, q ≤ K ∧ i = .int .i64 q ∧ wv.ownsRow (w.heap.size + 1) 3 1 v (memL I head q).length (i64s (memL I head q)) ∧ Below (w.heap.size + 1) WC wv) (fun _ i _ => K - (intOf i).toNat)
      case atStart => exact ⟨0, Nat.zero_le _, rfl, HW4.out, Below.refl _ _⟩
      case round =>
        obtain ⟨q, hq, rfl, hown, hbv⟩ := hrel
        rename World => wv
        have HBV : Hid (Below (w.heap.size + 1) WC wv) := hbv
        have HBW : Hid (Below w.heap.size w wv) := HB4.out.trans (hbv.mono (by omega))
        have hzv : w.heap.size + 1 ≤ wv.heap.size := Nat.le_trans hz4 hbv.size
        have hml := memL_len I head q
        by_cases hlt : q < K
        · have c1 : wv.cell? ⟨w.heap.size, q, none⟩ = some (.bool (I.getD q false)) := (World.cell?_of_block (hbv.block _ (Nat.lt_succ_self _))).trans (HC4.out q hlt)
          have hqI : (q : Int) < K := by omega
          obtain ⟨aov, capv, rfl⟩ := own_shape hown
          have HOW : Hid (wv.ownsRow (w.heap.size + 1) 3 1 (.slice aov (memL I head q).length capv) (memL I head q).length (i64s (memL I head q))) := hown
          clear hbv hown
          cases hI : I.getD q false
          · rw [hI] at c1
            have HN : Hid (memL I head (q + 1) = memL I head q) := memL_skip (by rw [hI]; rfl)
            clear hI
            go_wp2
            go_roundw
            case rel => exact ⟨q + 1, by omega, by go_num, by rw [HN.out]; exact HOW.out, HBV.out⟩
            case measure => simp [intOf]; omega
          · rw [hI] at c1
            by_cases hqh : q = head
            · have hne : ((q : Int) != (head : Int)) = false := by rw [hqh]; simp
              have HN : Hid (memL I head (q + 1) = memL I head q) := memL_skip (by rw [hqh]; simp)
              clear hI hqh
              go_wp2
              go_roundw
              case rel => exact ⟨q + 1, by omega, by go_num, by rw [HN.out]; exact HOW.out, HBV.out⟩
              case measure => simp [intOf]; omega
            · have hne : ((q : Int) != (head : Int)) = true := by simp only [bne_iff_ne, ne_eq]; omega
              have HN : Hid (memL I head (q + 1) = memL I head q ++ [(q : Int)]) := memL_add (by rw [hI]; simpa using hqh)
              clear hI hqh
              generalize memL I head q = L at *
              go_wp2_with (at_builtin; refine wpList_append_own _ rfl (.tmp 65) (.tmp 67) 37 rfl (w.heap.size + 1) 3 i64i _ 1 8 Tryd.underlying37 hi64 hz0 hz1' hz2 rfl (by decide) _ _ _ rfl (HOW.out.alloc _) ⟨_, 0, none⟩ 1 1 (i64s [(q : Int)]) rfl rfl (news_list _ _ _ _ (by simp)) (i64s_one _) (by unfold maxLen; omega) (by omega) (by simp; omega) ?_; intro v2 w3 hown2 hg2 _; rw [← i64s_append] at hown2; have hb2 : Below (w.heap.size + 1) WC w3 := (HBV.out.alloc (by omega) _).trans (grown_base (HOW.out.alloc _) (by simp; omega) hg2))
              go_roundw
              case rel => exact ⟨q + 1, by omega, by go_num, by rw [HN.out]; simpa using hown2, hb2⟩
              case measure => simp [intOf]; omega
        · obtain rfl : q = K := by omega
          have HOW : Hid (OwnI wv w.heap.size _ (memL I head q)) := own_mono hown (by omega)
          obtain ⟨aov, capv, rfl⟩ := own_shape hown
          clear hbv hown
          go_wp2
          go_ret
          exact ⟨_, I, rfl, HLW.out, HOW.out, HBW.out⟩
    · rw [List.concat_eq_append] at *
      obtain ⟨hzK, hzB⟩ := hlw.work z (by simp)
      have hzI : (z : Int) < K := by omega
      have hlw1 : (W' ++ [z]).length = W'.length + 1 := by simp
      have HLW : Hid (LWork pv K head closing I (W' ++ [z])) := hlw
      have HLE : Hid ((W' ++ [z]).length = W'.length + 1) := hlw1
      rw [hlw1] at hown hw2000
      rw [List.map_append] at hown
      obtain ⟨gw, cp, rfl, hg1, hg2, -, -⟩ := own_at hown (by omega)
      have hml : (W'.map fun b => ((b : Nat) : Int)).length = W'.length := by simp
      have c1 : wr.cell? ⟨gw, W'.length, none⟩ = some (.int .i64 (z : Int)) := by
        have := row_cell hown W'.length (by omega)
        rw [this]; simp [List.getD]
      have HPOP : Hid (wr.ownsRow (w.heap.size + 1) 3 1 (.slice (some ⟨gw, 0, none⟩) W'.length cp) W'.length (i64s (W'.map fun b => ((b : Nat) : Int)))) := row_pop hml hown
      have hcp : W'.length + 1 ≤ cp ∧ cp ≤ 9223372036854775807 := by
        rcases hown.2 with ⟨e, _⟩ | ⟨g', cap', cur, e, _, _, hn, hm, _⟩
        · cases e
        · obtain ⟨rfl, rfl⟩ : gw = g' ∧ cp = cap' := by simpa using e
          exact ⟨hn, by simpa [maxLen] using hm⟩
      obtain ⟨hcp1, hcp2⟩ := hcp
      have c2 := bool_cell hrow hil z hzK
      have cf := hrow.frozenAt z
      have HSTO := bool_store hrow z true
      have HX1 : Hid (BoolRow (wr.setCell ⟨w.heap.size, z, none⟩ (.bool true)) w.heap.size K (I.set z true)) := HSTO.1
      have HX2 : Hid (wr.grownBy (wr.setCell ⟨w.heap.size, z, none⟩ (.bool true)) (some w.heap.size)) := HSTO.2
      have HROW : Hid (BoolRow wr w.heap.size K I) := hrow
      have HIL : Hid (I.length = K) := hil
      have HZB : Hid (Back pv head closing z) := hzB
      clear hlw hown hrow HSTO hlw1 hil hml hzB
      cases hc : I.getD z false
      · rw [hc] at c2
        have HX3 : Hid (Below w.heap.size w (wr.setCell ⟨w.heap.size, z, none⟩ (.bool true))) := below_gb HBR.out HX2.out (Nat.le_refl _) (by omega)
        have HPOP2 : Hid ((wr.setCell ⟨w.heap.size, z, none⟩ (.bool true)).ownsRow (w.heap.size + 1) 3 1 (.slice (some ⟨gw, 0, none⟩) W'.length cp) W'.length (i64s (W'.map fun b => ((b : Nat) : Int)))) := HPOP.out.kept HX2.out (Or.inr (by simp [Value.ownBlock]; omega))
        have hz1b : 1 ≤ z := by
          rcases Nat.eq_zero_or_pos z with h0 | h0
          · exfalso
            subst h0
            have := HZB.out.first HD.out
            subst this
            have := HLW.out.top
            rw [this] at hc; cases hc
          · exact h0
        obtain ⟨p1, pI⟩ := HPV.out _ HX3.out z hz1b hzK
        obtain ⟨ao2, cap2, hvv, hno2, hns2⟩ := ints_slice pI
        rw [hvv] at p1
        rw [List.length_map] at p1
        have HNO : Hid (ao2 = none → (pv z).length = 0 ∧ cap2 = 0) := fun h => by have := hno2 h; simpa using this
        have HNS : Hid (∀ ad, ao2 = some ad → ∀ j u, (i64s ((pv z).map fun j => ((j : Nat) : Int)))[j]? = some u → (wr.setCell ⟨w.heap.size, z, none⟩ (.bool true)).cell? (ad.add j) = some u) := hns2
        have HMK : Hid (LWork pv K head closing (I.set z true) (W' ++ pv z)) := HLW.out.mark HPL.out hc
        have hus := unseen_set I z (by rw [HIL.out]; exact hzK) hc
        have hpn := HPN.out z
        have HUS : Hid (unseen (I.set z true) + 1 = unseen I) := hus
        have HPZ : Hid ((pv z).length ≤ 40) := by show _ ≤ _; omega
        have hp40 : (pv z).length ≤ 40 := by omega
        have hwl : W'.length ≤ 1641 := by omega
        clear hc pI hno2 hns2 hvv hus hpn
        go_wp2_with (at_builtin; refine wpList_append_slice rfl (.tmp 43) (.tmp 48) 37 rfl (w.heap.size + 1) 3 i64i _ 1 8 Tryd.underlying37 hi64 hz0 hz1' hz2 rfl (by decide) _ _ _ rfl HPOP2.out ao2 (pv z).length cap2 (i64s ((pv z).map fun j => ((j : Nat) : Int))) rfl HNO.out (by simp [i64s]) HNS.out (i64s_one _) (by unfold maxLen; omega) (by omega) (by simp; omega) ?_; intro v3 w3 hown3 hg3; rw [← i64s_append, ← List.map_append, ← List.length_append] at hown3)
        have hg3' : (wr.setCell ⟨w.heap.size, z, none⟩ (.bool true)).grownBy w3 (some gw) := hg3
        have HB3 : Hid (Below w.heap.size w w3) := below_gb HX3.out hg3' (by omega) (by simp; omega)
        have HR3 : Hid (BoolRow w3 w.heap.size K (I.set z true)) := HX1.out.kept hg3' (Or.inr (by simp [Value.ownBlock]; omega))
        have hus := HUS.out
        go_roundg (unseen (I.set z true) * 41 + (W' ++ pv z).length)
        case measure => rw [HM.out, HLE.out, List.length_append]; omega
        case rel => exact ⟨_, _, rfl, by rw [List.length_append]; omega, HMK.out, HR3.out, hown3, HB3.out⟩
      · rw [hc] at c2
        have HOLD : Hid (LWork pv K head closing I W') := HLW.out.skip hc
        clear hc
        go_wp2
        go_roundg (unseen I * 41 + W'.length)
        case measure => rw [HM.out, HLE.out]; omega
        case rel => exact ⟨W', I, rfl, by omega, HOLD.out, HROW.out, HPOP.out, HBR.out⟩
end Go.Proofs.YteilohamjijpbaaDoor
