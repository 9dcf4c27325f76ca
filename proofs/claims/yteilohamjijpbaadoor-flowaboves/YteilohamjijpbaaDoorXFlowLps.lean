/- Contracts of flow.loops and of flow.Loops of right programs. -/
import Derived.Test.YteilohamjijpbaaDoorXFlowLoop
namespace Go.Proofs.YteilohamjijpbaaDoor
open Go Go.RowKit

theorem infoInts : (Tryd.prog.info? 37).map (fun i => (i.zero, i.size, i.bytes)) = some (some (.slice none 0 0), 1, 24) := by kernel_rfl
/-- What one loop is: its head, and what comes to the closing block without it. -/
def LoopIs (pv : Nat → List Nat) (K head closing : Nat) (L : List Int) : Prop := ∃ I, LWork pv K head closing I [] ∧ L = memL I head K
/-- The loops of so many ways, in their order. -/
inductive LoopsTo (pv : Nat → List Nat) (K : Nat) : List (Nat × Nat) → List (List Int) → Prop
  | nil : LoopsTo pv K [] []
  | skip {ps : List (Nat × Nat)} {Ls : List (List Int)} {b h : Nat} (hp : LoopsTo pv K ps Ls) (hn : ¬ Dom pv h b) : LoopsTo pv K (ps ++ [(b, h)]) Ls
  | add {ps : List (Nat × Nat)} {Ls : List (List Int)} {b h : Nat} {L : List Int} (hp : LoopsTo pv K ps Ls) (hd : Dom pv h b) (hL : LoopIs pv K h b L) : LoopsTo pv K (ps ++ [(b, h)]) (Ls ++ [L])
/-- All ways from the blocks ahead of one. -/
def pairsOf (nx : Nat → List Nat) : Nat → List (Nat × Nat)
  | 0 => []
  | b + 1 => pairsOf nx b ++ (nx b).map fun h => (b, h)
theorem pairsOf_mem (nx : Nat → List Nat) (b h : Nat) : ∀ k, (b, h) ∈ pairsOf nx k → b < k ∧ h ∈ nx b
  | 0, hm => by cases hm
  | k + 1, hm => by
    rw [pairsOf] at hm
    rcases List.mem_append.1 hm with h1 | h1
    · have := pairsOf_mem nx b h k h1; exact ⟨by omega, this.2⟩
    · obtain ⟨x, hx, e⟩ := List.mem_map.1 h1
      cases e
      exact ⟨Nat.lt_succ_self _, hx⟩
/-- Each of them is one of a way. -/
theorem LoopsTo.each {pv : Nat → List Nat} {K : Nat} {ps : List (Nat × Nat)} {Ls : List (List Int)} (h : LoopsTo pv K ps Ls) : ∀ L ∈ Ls, ∃ b hd, (b, hd) ∈ ps ∧ Dom pv hd b ∧ LoopIs pv K hd b L := by
  induction h with
  | nil => intro L hL; cases hL
  | skip _ _ ih => intro L hL; obtain ⟨b, hd, h1, h2⟩ := ih L hL; exact ⟨b, hd, List.mem_append.2 (Or.inl h1), h2⟩
  | add _ hd hL ih =>
    intro L hm
    rcases List.mem_append.1 hm with h1 | h1
    · obtain ⟨b, hd', h1, h2⟩ := ih L h1; exact ⟨b, hd', List.mem_append.2 (Or.inl h1), h2⟩
    · rw [List.mem_singleton.1 h1]; exact ⟨_, _, List.mem_append.2 (Or.inr (List.mem_singleton.2 rfl)), hd, hL⟩
theorem LoopsTo.none {pv : Nat → List Nat} {K : Nat} {ps : List (Nat × Nat)} {Ls : List (List Int)} (h : LoopsTo pv K ps Ls) (hn : ∀ b hd, (b, hd) ∈ ps → ¬ Dom pv hd b) : Ls = [] := by
  cases Ls with
  | nil => rfl
  | cons L Ls => obtain ⟨b, hd, h1, h2, _⟩ := h.each L (by simp); exact absurd h2 (hn b hd h1)
/-- The blocks behind one. -/
def nxN (f : Fn) (S : List Nat) (T : Nat → Nat) (b : Nat) : List Nat := (nxI f S (T b)).map Int.toNat
theorem nxN_nxI (f : Fn) (S : List Nat) (T : Nat → Nat) (b : Nat) : nxI f S (T b) = (nxN f S T b).map fun j => ((j : Nat) : Int) := by
  unfold nxN
  rw [List.map_map]
  have : ∀ z ∈ nxI f S (T b), ((fun j : Nat => (j : Int)) ∘ Int.toNat) z = z := fun z hz => by
    obtain ⟨q, _, rfl⟩ := (nxI_mem f S (T b) z).1 hz
    simp
  rw [List.map_congr_left this]
  simp
theorem BlkOk.nxN_lt {P : List Fn} {f : Fn} (ok : FlowOk P f) {S : List Nat} {T : Nat → Nat} (h : BlkOk f S T) {b p : Nat} (hb : b < S.length) (hp : p ∈ nxN f S T b) : p < S.length := by
  have hz : ((p : Nat) : Int) ∈ nxI f S (T b) := by rw [nxN_nxI]; exact List.mem_map.2 ⟨p, hp, rfl⟩
  obtain ⟨q, hq, e⟩ := (nxI_mem f S (T b) _).1 hz
  have hw : Way f 63 S[b] := (h.starts.reach ok (List.getElem_mem hb)).1
  have := (rank_lt h.starts.rises ((h.ends b hb).leads ok h.starts hw hq)).1
  omega
theorem nxN_len (f : Fn) (S : List Nat) (T : Nat → Nat) (b : Nat) : (nxN f S T b).length ≤ 2 := by unfold nxN; rw [List.length_map]; exact nxI_len f S (T b)
/-- Lists of numbers in a row that the call has built. -/
structure RowsAt (w : World) (base : Nat) (v : Value) (vs : List Value) (Ls : List (List Int)) : Prop where
  row : w.ownsRow base 37 1 v vs.length vs
  len : vs.length = Ls.length
  own : ∀ i (hi : i < vs.length), OwnI w base vs[i] (Ls.getD i [])
theorem RowsAt.nil (w : World) (base : Nat) : RowsAt w base (.slice none 0 0) [] [] := ⟨World.ownsRow_nil _ _ _ _, rfl, fun i hi => by cases hi⟩
theorem RowsAt.below {w w' : World} {base : Nat} {v : Value} {vs : List Value} {Ls : List (List Int)} (h : RowsAt w base v vs Ls) (hb : Below w.heap.size w w') : RowsAt w' base v vs Ls :=
  ⟨ownsRow_below h.row hb, h.len, fun i hi => ownsRow_below (h.own i hi) hb⟩
theorem RowsAt.add {w w' : World} {base : Nat} {v v' u : Value} {vs : List Value} {Ls : List (List Int)} {L : List Int} (h : RowsAt w base v vs Ls) (hu : OwnI w base u L) (hr : w'.ownsRow base 37 1 v' (vs ++ [u]).length (vs ++ [u])) (hg : w.grownBy w' v.ownBlock) : RowsAt w' base v' (vs ++ [u]) (Ls ++ [L]) := by
  refine ⟨hr, by simp [h.len], fun i hi => ?_⟩
  have hl := h.len
  by_cases hiv : i < vs.length
  · have e1 : (vs ++ [u])[i] = vs[i] := List.getElem_append_left hiv
    have e2 : (Ls ++ [L]).getD i [] = Ls.getD i [] := by simp [List.getD, List.getElem?_append_left (show i < Ls.length by omega)]
    rw [e1, e2]
    exact (h.own i hiv).kept hg (own_apart (h.own i hiv) h.row (by decide))
  · obtain rfl : i = vs.length := by simp at hi; omega
    have e1 : (vs ++ [u])[vs.length] = u := by simp
    have e2 : (Ls ++ [L]).getD vs.length [] = L := by rw [hl]; simp [List.getD]
    rw [e1, e2]
    exact hu.kept hg (own_apart hu h.row (by decide))
theorem OwnI.one {w : World} {base : Nat} {v : Value} {l : List Int} (h : OwnI w base v l) : v.oneCell' = true := by
  obtain ⟨ao, cap, rfl⟩ := own_shape h; rfl

set_option maxRecDepth 100000 in
set_option maxHeartbeats 8000000 in
theorem loops_any (P : List Fn) (f : Fn) (ok : FlowOk P f) (base g : Nat) (S : List Nat) (T : Nat → Nat) (VV : Nat → Value) (LL : Nat → List Int) (R : Nat) (w : World) (hB : BlocksAt w base g f S T VV LL) (hS : Stands (pvN f S T) S.length w R) :
    Calls Tryd.prog 43 #[.slice (some ⟨g, 0, none⟩) S.length S.length, .func (.func 69) #[] #[.pointer (some ⟨R, 0, none⟩)]] w fun e w' => ∃ v vs Ls, e = .returned v ∧ LoopsTo (pvN f S T) S.length (pairsOf (nxN f S T) S.length) Ls ∧ RowsAt w' w.heap.size v vs Ls ∧ Below w.heap.size w w' := by
  obtain ⟨iI, hiI, hzI0, hzI1, hzI2⟩ := info_parts infoInts
  have hkn : S.length ≤ 40 := Nat.le_trans (starts_len ok hB.starts) ok.ok.len2
  have HNL : Hid (∀ b p, b < S.length → p ∈ nxN f S T b → p < S.length) := fun b p hb hp => hB.ok.nxN_lt ok hb hp
  have HN2 : Hid (∀ b, (nxN f S T b).length ≤ 2) := fun b => nxN_len f S T b
  have HBK : Hid (∀ b, b < S.length → ∃ F, (∀ W, Below w.heap.size w W → W.rangeAt g (b * 4) [.int .i64 F, .int .i64 ((T b : Nat) : Int), VV (2 * b), VV (2 * b + 1)]) ∧ IntsVal w (VV (2 * b)) ((nxN f S T b).map fun j => ((j : Nat) : Int)) ∧ (∃ ao n c, VV (2 * b + 1) = .slice ao n c)) := fun b hb => by
    have h2 := hB.next b hb
    obtain ⟨pa, pc, hpv⟩ := h2.2.shape
    refine ⟨((S[b] : Nat) : Int), fun W hW => ?_, by rw [← nxN_nxI]; exact h2.1, pa, _, pc, hpv⟩
    intro j u hu
    obtain ⟨c0, c1, c2, c3⟩ := (hB.below hW).cells b hb
    rcases (show j = 0 ∨ j = 1 ∨ j = 2 ∨ j = 3 by have := (List.getElem?_eq_some_iff.1 hu).1; simp at this; omega) with rfl | rfl | rfl | rfl <;> simp at hu <;> subst hu <;> assumption
  have HLP : Hid (∀ W, Below w.heap.size w W → ∀ head closing, head < S.length → closing < S.length → Dom (pvN f S T) head closing → Calls Tryd.prog 66 #[.slice (some ⟨g, 0, none⟩) S.length S.length, .int .i64 head, .int .i64 closing] W fun e w' => ∃ v L, e = .returned v ∧ LoopIs (pvN f S T) S.length head closing L ∧ OwnI w' W.heap.size v L ∧ L.length ≤ 41 ∧ Below W.heap.size W w') := fun W hW head closing h1 h2 h3 => by
    refine (loop_any P f ok base g S T VV LL W (hB.below hW) head closing h1 h2 h3).mono ?_
    rintro e w' ⟨v, I, rfl, hI, ho, hb⟩
    exact ⟨v, _, rfl, ⟨I, hI, rfl⟩, ho, by have := memL_len I head S.length; omega, hb⟩
  have HSC : Hid (∀ W, Below w.heap.size w W → Stands (pvN f S T) S.length W R) := fun W hb => hS.keeps (keeps_below hb)
  have infoB : (Tryd.prog.info? 68).map (·.size) = some 4 := by kernel_rfl
  clear hB hS
  generalize pvN f S T = pv at *
  generalize nxN f S T = nx at *
  generalize S.length = K at *
  go_enter Tryd.func43, Tryd.ntmps43
  go_wp2
  go_loopw [5, 12] (fun v i wr => ∃ (b : Nat) (vs : List Value) (Ls : List (List Int)), b ≤ K ∧ i = .int .i64 b ∧ LoopsTo pv K (pairsOf nx b) Ls ∧ RowsAt wr w.heap.size v vs Ls ∧ Ls.length ≤ 2 * b ∧ Below w.heap.size w wr) (fun _ i _ => K - (intOf i).toNat)
  case atStart => exact ⟨0, [], [], Nat.zero_le _, rfl, LoopsTo.nil, RowsAt.nil _ _, Nat.le_refl _, Below.refl _ _⟩
  case round =>
    obtain ⟨b, vs, Ls, hb, rfl, hLs, hra, hll, hbr⟩ := hrel
    have HBR : Hid (Below w.heap.size w wr) := hbr
    have HLS : Hid (LoopsTo pv K (pairsOf nx b) Ls) := hLs
    have hzr : w.heap.size ≤ wr.heap.size := hbr.size
    by_cases hlt : b < K
    · obtain ⟨F, hrg0, hnI, pa, pn, pc, hpv⟩ := HBK.out b hlt
      have hrg := hrg0 wr hbr
      obtain ⟨na, nb, noff, nn, ncap, hnv, hnl, hna, hnc, hncp, hnm⟩ := ints_get hnI
      rw [List.length_map] at hnl
      rw [hnv, hpv] at hrg
      have hn2 := HN2.out b
      obtain ⟨aov, capv, rfl⟩ := own_shape hra.row
      have hbI : (b : Int) < K := by omega
      have HNC : Hid (∀ q, q < nn → ∃ h : Nat, na = some ⟨nb, noff, none⟩ ∧ (nx b)[q]? = some h ∧ h < K ∧ ∀ W, Below w.heap.size w W → W.cell? ⟨nb, noff + q, none⟩ = some (.int .i64 (h : Int))) := fun q hq => by
        have hql : q < (nx b).length := by omega
        refine ⟨(nx b)[q], hna (by omega), List.getElem?_eq_getElem hql, HNL.out b _ hlt (List.getElem_mem hql), fun W hW => ?_⟩
        refine keeps_below hW _ _ ?_
        rw [hnc q hq]; simp [List.getD, hql]
      have HNN : Hid ((nx b).length = nn) := by show _ = _; omega
      have hnn2 : nn ≤ 2 := by omega
      have HW1 : Hid (Below w.heap.size w (wr.alloc (.cells #[.int .i64 F, .int .i64 ((T b : Nat) : Int), .slice na nn ncap, .slice pa pn pc] 68))) := HBR.out.alloc (by omega) _
      have HRA1 : Hid (RowsAt (wr.alloc (.cells #[.int .i64 F, .int .i64 ((T b : Nat) : Int), .slice na nn ncap, .slice pa pn pc] 68)) w.heap.size (.slice aov vs.length capv) vs Ls) := hra.below ((Below.refl _ _).alloc (Nat.le_refl _) _)
      clear hLs hra hbr hnI hnc hnl hna hnv hpv hn2 hrg0 HBR
      go_upto_region 5 with (first
        | (refine wpList_load_mid rfl _ _ rfl g (b * 4) rfl [.int .i64 F, .int .i64 ((T b : Nat) : Int), .slice na nn ncap, .slice pa pn pc] _ hrg Tryd.underlying68 rfl infoB ?_)
        | (refine wpList_store_row rfl _ _ _ rfl _ #[.int .i64 F, .int .i64 ((T b : Nat) : Int), .slice na nn ncap, .slice pa pn pc] rfl rfl _ _ (heap_alloc_last wr _) infoB rfl (by decide) ?_; rw [World.setRow_alloc_new]))
      have k2 : (wr.alloc (.cells #[.int .i64 F, .int .i64 ((T b : Nat) : Int), .slice na nn ncap, .slice pa pn pc] 68)).cell? ⟨wr.heap.size, 2, none⟩ = some (.slice na nn ncap) := by rw [cell_of_row _ _ _ _ _ _ (heap_alloc_last wr _)]; rfl
      generalize (wr.alloc (.cells #[.int .i64 F, .int .i64 ((T b : Nat) : Int), .slice na nn ncap, .slice pa pn pc] 68)) = WB at *
      clear hrg
      go_wp2
      go_loopw [5, 20] (fun v i wi => ∃ (q : Nat) (vs : List Value) (Ls : List (List Int)), q ≤ nn ∧ i = .int .i64 q ∧ LoopsTo pv K (pairsOf nx b ++ ((nx b).take q).map fun h => (b, h)) Ls ∧ RowsAt wi w.heap.size v vs Ls ∧ Ls.length ≤ 2 * b + q ∧ Below w.heap.size w wi) (fun _ i _ => nn - (intOf i).toNat)
      case atStart => exact ⟨0, vs, Ls, Nat.zero_le _, rfl, by simpa using HLS.out, HRA1.out, by omega, HW1.out⟩
      case round =>
        clear k2 HW1 HRA1 HLS hll
        obtain ⟨q, vs, Ls, hq, rfl, hLs, hra, hll, hbi⟩ := hrel
        rename World => wi
        have HBI : Hid (Below w.heap.size w wi) := hbi
        have HLS : Hid (LoopsTo pv K (pairsOf nx b ++ ((nx b).take q).map fun h => (b, h)) Ls) := hLs
        obtain ⟨aov, capv, rfl⟩ := own_shape hra.row
        have HRA : Hid (RowsAt wi w.heap.size (.slice aov vs.length capv) vs Ls) := hra
        have hzi : w.heap.size ≤ wi.heap.size := hbi.size
        have hvb : vs.length ≤ 2 * b + q := by have := hra.len; omega
        by_cases hqn : q < nn
        · obtain ⟨h, hna, hqh, hhK, hcell⟩ := HNC.out q hqn
          subst hna
          have c1 := hcell wi hbi
          have hqI : (q : Int) < nn := by omega
          have HTK : Hid ((pairsOf nx b ++ ((nx b).take (q + 1)).map fun h => (b, h)) = (pairsOf nx b ++ ((nx b).take q).map fun h => (b, h)) ++ [(b, h)]) := by
            show _ = _
            rw [List.take_add_one, hqh, List.map_append, ← List.append_assoc]; rfl
          obtain ⟨B, hB, g1⟩ := (HSC.out wi hbi).call h b hhK hlt
          have HB : Hid (B = true ↔ Dom pv h b) := hB
          have hLC := HLP.out wi hbi h b hhK hlt
          have HLC : Hid _ := hLC
          clear hLs hra hbi hB hcell hqh hLC
          cases B
          · have HN : Hid (LoopsTo pv K (pairsOf nx b ++ ((nx b).take (q + 1)).map fun h => (b, h)) Ls) := by show LoopsTo _ _ _ _; rw [HTK.out]; exact HLS.out.skip (fun hd => by have := HB.out.2 hd; cases this)
            go_wp2_with (go_at_call 69; refine g1.mono ?_; rintro e w1 ⟨rfl, hw1⟩; replace hw1 := hw1.symm; subst hw1)
            go_roundw
            case rel => exact ⟨q + 1, vs, Ls, by omega, by go_num, HN.out, HRA.out, by omega, HBI.out⟩
            case measure => simp [intOf]; omega
          · have HN : Hid (∀ L, LoopIs pv K h b L → LoopsTo pv K (pairsOf nx b ++ ((nx b).take (q + 1)).map fun h => (b, h)) (Ls ++ [L])) := fun L hL => by rw [HTK.out]; exact HLS.out.add (HB.out.1 rfl) hL
            have hLC := HLC.out (HB.out.1 rfl)
            go_wp2_with (first
              | (go_at_call 69; refine g1.mono ?_; rintro e w1 ⟨rfl, hw1⟩; replace hw1 := hw1.symm; subst hw1)
              | (go_at_call 66; refine hLC.mono ?_; rintro e w2 ⟨u, L, rfl, hLI, hou, hl41, hb2⟩; obtain ⟨ua, uc, rfl⟩ := own_shape hou; have hz2 := hb2.size; have HLI : Hid (LoopIs pv K h b L) := hLI; have HRA2 : Hid (RowsAt (w2.alloc (.cells #[.slice ua L.length uc] 37)) w.heap.size (.slice aov vs.length capv) vs Ls) := (HRA.out.below hb2).below ((Below.refl _ _).alloc (Nat.le_refl _) _); have HOU : Hid (OwnI (w2.alloc (.cells #[.slice ua L.length uc] 37)) w.heap.size (.slice ua L.length uc) L) := own_mono (World.ownsRow.alloc hou _) (by omega); have HB2 : Hid (Below w.heap.size w (w2.alloc (.cells #[.slice ua L.length uc] 37))) := (HBI.out.trans (hb2.mono (by omega))).alloc (by omega) _; clear hLI hou hb2)
              | (at_builtin; refine wpList_append_own _ rfl (.tmp 28) (.tmp 33) 33 rfl w.heap.size 37 iI _ 1 24 Tryd.underlying33 hiI hzI0 hzI1 hzI2 rfl (by decide) _ _ _ rfl HRA2.out.row ⟨_, 0, none⟩ 1 1 [.slice ua L.length uc] rfl rfl (news_list _ _ _ _ (by simp)) (by simp [Value.oneCell']) (by unfold maxLen; omega) (by omega) (by simp; omega) ?_; intro v2 w3 hown2 hg2 _; have HRA3 : Hid (RowsAt w3 w.heap.size v2 (vs ++ [.slice ua L.length uc]) (Ls ++ [L])) := HRA2.out.add HOU.out (by simpa using hown2) hg2; have HB3 : Hid (Below w.heap.size w w3) := HB2.out.trans (grown_base HRA2.out.row (by simp; omega) hg2)))
            go_roundw
            case rel => exact ⟨q + 1, _, _, by omega, by go_num, HN.out L HLI.out, HRA3.out, by simp; omega, HB3.out⟩
            case measure => simp [intOf]; omega
        · obtain rfl : q = nn := by omega
          have HN : Hid (LoopsTo pv K (pairsOf nx (b + 1)) Ls) := by
            show LoopsTo _ _ _ _
            have := HLS.out
            rw [List.take_of_length_le (by rw [HNN.out]; exact Nat.le_refl _)] at this
            exact this
          clear hLs hra hbi
          go_wp2
          go_roundw
          case rel => exact ⟨b + 1, vs, Ls, by omega, by go_num, HN.out, HRA.out, by omega, HBI.out⟩
          case measure => simp [intOf]; omega
    · obtain rfl : b = K := by omega
      obtain ⟨aov, capv, rfl⟩ := own_shape hra.row
      have HRA : Hid (RowsAt wr w.heap.size (.slice aov vs.length capv) vs Ls) := hra
      clear hLs hra hbr
      go_wp2
      go_ret
      exact ⟨_, vs, Ls, rfl, HLS.out, HRA.out, HBR.out⟩

/-- What flow.Loops answers of a right program's function. -/
def LoopsOk (f : Fn) (Ls : List (List Int)) : Prop := ∃ S T, BlkOk f S T ∧ LoopsTo (pvN f S T) S.length (pairsOf (nxN f S T) S.length) Ls
theorem LoopsOk.of {f : Fn} {Ls : List (List Int)} (h : LoopsOk f Ls) {S : List Nat} {T : Nat → Nat} (hB : BlkOk f S T) : LoopsTo (pvN f S T) S.length (pairsOf (nxN f S T) S.length) Ls := by
  obtain ⟨S', T', h1, h2⟩ := h
  obtain rfl := h1.starts.unique hB.starts
  have hT : ∀ i, i < S'.length → T' i = T i := fun i hi => (h1.ends i hi).unique (hB.ends i hi)
  have e : pvN f S' T' = pvN f S' T := funext fun b => pvN_congr f S' hT b
  have e2 : ∀ k, k ≤ S'.length → pairsOf (nxN f S' T') k = pairsOf (nxN f S' T) k := by
    intro k
    induction k with
    | zero => intro _; rfl
    | succ k ih => intro hk; rw [pairsOf, pairsOf, ih (by omega)]; unfold nxN; rw [hT k (by omega)]
  rw [e, e2 _ (Nat.le_refl _)] at h2
  exact h2

set_option maxRecDepth 100000 in
set_option maxHeartbeats 4000000 in
theorem Loops_right (P : List Fn) (hR : ProofAns P 0) (k : Nat) (hk : k < P.length) (v : Value) (w : World) (ht : TabOk w) (hc : CallOk w) (hv : ProgVal w v P) :
    Calls Tryd.prog 16 #[.agg #[v], .int .i64 k] w fun e w' => ∃ v' vs Ls, e = .returned (.tuple #[v', .int .i64 0]) ∧ LoopsOk P[k] Ls ∧ RowsAt w' w.heap.size v' vs Ls ∧ Below w.heap.size w w' := by
  have hbx : ∀ o, Below w.heap.size w (w.alloc o) := fun o => (Below.refl _ _).alloc (Nat.le_refl _) _
  have hC := fun o => flowCheck_any P v k (w.alloc o) (ht.below (hbx o)) (hc.below (hbx o)) (hv.keeps (keeps_below (hbx o)))
  have HLV : Hid (∀ W, Below w.heap.size w W → Calls Tryd.prog 36 #[.agg #[v], .int .i64 k] W fun e w' => ∃ g S T VV LL, e = .returned (.slice (some ⟨g, 0, none⟩) S.length S.length) ∧ BlocksAt w' W.heap.size g P[k] S T VV LL ∧ W.heap.size ≤ g ∧ Below W.heap.size W w') := fun W hb => blocks_any P hR k hk v W (ht.below hb) (hc.below hb) (hv.keeps (keeps_below hb))
  have HE0 : Hid (∀ E, FlowErr P k E → E = 0) := fun E h => flowErr_right h hR (by omega) (by omega)
  have OK : Hid (FlowOk P P[k]) := flowOk_of hR (List.getElem_mem hk)
  obtain ⟨ao, n, cap, rfl⟩ := hv.shape
  clear ht hc hbx
  generalize P[k] = f at *
  go_enter Tryd.func16, Tryd.ntmps16
  go_wp2_with (first
    | (go_at_call 35; refine (hC _).mono ?_; rintro e w1 ⟨E, rfl, hE, hb1⟩; obtain rfl := HE0.out E hE; have k0 := keeps_below hb1 ⟨w.heap.size, 0, none⟩ (.slice ao n cap) (by simp); have HB1 : Hid (Below w.heap.size w w1) := ((Below.refl _ _).alloc (Nat.le_refl _) _).trans (hb1.mono (by simp)); clear hE)
    | (go_at_call 36; refine (HLV.out _ HB1.out).mono ?_; rintro e w2 ⟨g, S, T, VV, LL, rfl, hB, hgw, hb2⟩; have HBB : Hid (BlkOk f S T) := hB.ok; have hSt := standing_any P f OK.out _ g S T VV LL w2 hB; have HBA : Hid (BlocksAt w2 w1.heap.size g f S T VV LL) := hB; have HB2 : Hid (Below w.heap.size w w2) := HB1.out.trans (hb2.mono HB1.out.size); clear hB hb2)
    | (go_at_call 44; refine hSt.mono ?_; rintro e w3 ⟨R, rfl, hst, hb3⟩; have hLp := loops_any P f OK.out _ g S T VV LL R w3 (HBA.out.below hb3) hst; have HB3 : Hid (Below w.heap.size w w3) := HB2.out.trans (hb3.mono HB2.out.size); clear hst hb3)
    | (go_at_call 43; refine hLp.mono ?_; rintro e w4 ⟨v4, vs, Ls, rfl, hLs, hra, hb4⟩; obtain ⟨a4, c4, rfl⟩ := own_shape hra.row))
  go_ret2
  exact ⟨_, vs, Ls, rfl, ⟨S, T, HBB.out, hLs⟩, ⟨own_mono hra.row HB3.out.size, hra.len, fun i hi => own_mono (hra.own i hi) HB3.out.size⟩, HB3.out.trans (hb4.mono HB3.out.size)⟩
end Go.Proofs.YteilohamjijpbaaDoor
