import Derived.Test.YtldbmdgpdolaaaaDoorPXSsaSettle
namespace Go.Proofs.YtldbmdgpdolaaaaDoor
open Go Go.RowKit

structure NumMap (ids : List Int) (D : Dat) : Prop where
  has : ∀ z : Int, Maps.has D (.int .i64 z) = decide (z ∈ ids)
  key : ∀ z ∈ ids, ∀ zd : Dat, D.atKey (.int .i64 z) zd = .lit (.int .i64 ((ids.idxOf z : Nat) : Int))
  size : Maps.size D = ids.length
theorem NumMap.nil : NumMap [] (.map [] : Dat) := ⟨fun z => by simp [Maps.has], fun z hz => (by cases hz), rfl⟩
theorem NumMap.add {ids : List Int} {D : Dat} (h : NumMap ids D) (hT : Maps.Tidy D) {v : Int} (hv : v ∉ ids) : NumMap (ids ++ [v]) (D.put (.int .i64 v) (.lit (.int .i64 (ids.length : Int)))) := by
  refine ⟨fun z => ?_, fun z hz zd => ?_, ?_⟩
  · rw [has_put hT.isMap, h.has]
    by_cases e : z = v
    · simp [e]
    · simp [e]
  · by_cases e : z = v
    · subst e
      rw [Maps.atKey_put_same hT.isMap (show WideAt.IsKeyLit (.int .i64 z) from trivial), List.idxOf_append, if_neg hv]
      simp
    · rw [Maps.atKey_put_other (by simpa using e)]
      have hz : z ∈ ids := by
        rcases List.mem_append.1 hz with hz | hz
        · exact hz
        · exact absurd (by simpa using hz) e
      rw [h.key z hz, List.idxOf_append, if_pos hz]
  · rw [Maps.size_put hT, h.has, h.size]; simp [hv]
structure NumAt (w : World) (R B : Nat) (ids : List Int) : Prop where
  cell : w.cell? ⟨R, 0, none⟩ = some (.map (some B))
  map : ∃ D, MapAt w B ids.length D ∧ NumMap ids D
theorem NumAt.kept {w w' : World} {R B : Nat} {ids : List Int} (h : NumAt w R B ids) {row : Option Nat} (hg : w.grownBy w' row) (h1 : some R ≠ row) (h2 : some B ≠ row) : NumAt w' R B ids := by
  obtain ⟨D, hM, hD⟩ := h.map
  exact ⟨hg.cell h.cell h1, ⟨D, hM.kept hg h2, hD⟩⟩
theorem NumAt.below {w w' : World} {R B : Nat} {ids : List Int} (h : NumAt w R B ids) (hb : Below w.heap.size w w') : NumAt w' R B ids := h.kept (gb_below none hb) (by simp) (by simp)
theorem NumAt.ltB {w : World} {R B : Nat} {ids : List Int} (h : NumAt w R B ids) : B < w.heap.size := by obtain ⟨D, hM, -⟩ := h.map; exact hM.lt
set_option maxRecDepth 100000 in
theorem next_any1 {R B : Nat} {ids : List Int} (w : World) (h : NumAt w R B ids) (v : Int) (hv : Fit2 v) (hn : v ∉ ids) (hl : ids.length ≤ 100000) :
    Calls Tryd.prog 53 #[.int .i64 v, .pointer (some ⟨R, 0, none⟩)] w fun e w' => e = .returned (.tuple #[]) ∧ NumAt w' R B (ids ++ [v]) ∧ w.grownBy w' (some B) := by
  obtain ⟨D, hM, hD⟩ := h.map
  have cR := h.cell
  have HD : Hid (NumMap ids D) := hD
  have HC : Hid (w.cell? ⟨R, 0, none⟩ = some (.map (some B))) := cR
  have hsz := hD.size
  have HN : Hid (v ∉ ids) := hn
  have wfv := hv.wf
  have wfl : (Lit.int .i64 (ids.length : Int)).wf = true := WalkArith.wf_i64 (by omega)
  clear hD h hv hn
  go_enter Tryd.func53, Tryd.ntmps53
  go_wp2_with (first
    | (at_len; refine wpList_len_own _ rfl _ 82 rfl 3 3 Tryd.underlying82 _ B _ D rfl hM ?_)
    | (at_mapUpdate; refine wpList_mapUpdate_own _ rfl _ _ _ 82 rfl 3 3 mlaw Tryd.underlying82 (plainElem Tryd.prog 3) B ids.length D rfl hM (by unfold maxLen; omega) _ _ _ rfl rfl (Maps.keyOf_int_mk Tryd.underlying3 wfv) _ [] (plainElem_int Tryd.underlying3 wfl) ?_; intro w3 hown3 hg3))
  go_end0
  exact ⟨rfl, ⟨keeps_map hM hg3 _ _ HC.out, ⟨_, by simpa using hown3, HD.out.add (hM.tidy mlaw) HN.out⟩⟩, hg3⟩
def idsP (ps : List PhiD) (xs : List InsD) : List Int := ps.map (·.id) ++ (xs.map (·.id)).filter (fun z => decide (z ≠ -1))
def idsTo (params : Nat) (PH : Nat → List PhiD) (IN : Nat → List InsD) : Nat → List Int
  | 0 => (List.range params).map (fun r => ((r : Nat) : Int))
  | b + 1 => idsTo params PH IN b ++ idsP (PH b) (IN b)
theorem idsTo_pre (params : Nat) (PH : Nat → List PhiD) (IN : Nat → List InsD) {b n : Nat} (h : b ≤ n) : ∃ rest, idsTo params PH IN n = idsTo params PH IN b ++ rest := by
  induction n with
  | zero => exact ⟨[], by obtain rfl : b = 0 := by omega
                          simp⟩
  | succ n ih =>
    by_cases e : b = n + 1
    · subst e; exact ⟨[], by simp⟩
    · obtain ⟨rest, hr⟩ := ih (by omega)
      exact ⟨rest ++ idsP (PH n) (IN n), by rw [idsTo, hr, List.append_assoc]⟩
theorem not_before {l cur rest : List Int} {v : Int} (hn : l.Nodup) (e : l = cur ++ v :: rest) : v ∉ cur := by
  rw [e, List.nodup_append] at hn
  exact fun hm => hn.2.2 v hm v List.mem_cons_self rfl
theorem len_before {l cur rest : List Int} (e : l = cur ++ rest) : cur.length ≤ l.length := by rw [e, List.length_append]; omega
theorem idsTo_phi {params n : Nat} {PH : Nat → List PhiD} {IN : Nat → List InsD} {b k : Nat} (hb : b < n) (hk : k < (PH b).length) : ∃ rest, idsTo params PH IN n = (idsTo params PH IN b ++ ((PH b).take k).map (·.id)) ++ (PH b)[k].id :: rest := by
  obtain ⟨rest, hr⟩ := idsTo_pre params PH IN (show b + 1 ≤ n from hb)
  have e : (PH b).map (·.id) = ((PH b).take k).map (·.id) ++ (PH b)[k].id :: ((PH b).drop (k + 1)).map (·.id) := by
    rw [← List.map_cons (f := fun p : PhiD => p.id), ← List.drop_eq_getElem_cons hk, ← List.map_append, List.take_append_drop]
  refine ⟨((PH b).drop (k + 1)).map (·.id) ++ ((IN b).map (·.id)).filter (fun z => decide (z ≠ -1)) ++ rest, ?_⟩
  rw [hr, idsTo, idsP, e]
  simp
def insTo (xs : List InsD) (k : Nat) : List Int := ((xs.take k).map (·.id)).filter (fun z => decide (z ≠ -1))
theorem insTo_step {xs : List InsD} {k : Nat} (hk : k < xs.length) : insTo xs (k + 1) = insTo xs k ++ (if xs[k].id ≠ -1 then [xs[k].id] else []) := by
  unfold insTo
  rw [List.take_succ_eq_append_getElem hk, List.map_append, List.filter_append]
  congr 1
  by_cases h : xs[k].id = -1 <;> simp [h]
theorem idsTo_ins {params n : Nat} {PH : Nat → List PhiD} {IN : Nat → List InsD} {b k : Nat} (hb : b < n) (hk : k < (IN b).length) (h : (IN b)[k].id ≠ -1) : ∃ rest, idsTo params PH IN n = (idsTo params PH IN b ++ (PH b).map (·.id) ++ insTo (IN b) k) ++ (IN b)[k].id :: rest := by
  obtain ⟨rest, hr⟩ := idsTo_pre params PH IN (show b + 1 ≤ n from hb)
  have e : ((IN b).map (·.id)).filter (fun z => decide (z ≠ -1)) = insTo (IN b) k ++ (IN b)[k].id :: (((IN b).drop (k + 1)).map (·.id)).filter (fun z => decide (z ≠ -1)) := by
    have e1 : (IN b).map (·.id) = ((IN b).take k).map (·.id) ++ (IN b)[k].id :: ((IN b).drop (k + 1)).map (·.id) := by
      rw [← List.map_cons (f := fun p : InsD => p.id), ← List.drop_eq_getElem_cons hk, ← List.map_append, List.take_append_drop]
    rw [e1, List.filter_append, List.filter_cons, if_pos (by simpa using h)]; rfl
  refine ⟨(((IN b).drop (k + 1)).map (·.id)).filter (fun z => decide (z ≠ -1)) ++ rest, ?_⟩
  rw [hr, idsTo, idsP, e]
  simp
theorem idsTo_par {params n k : Nat} {PH : Nat → List PhiD} {IN : Nat → List InsD} (hk : k < params) : ∃ rest, idsTo params PH IN n = (List.range k).map (fun r => ((r : Nat) : Int)) ++ ((k : Nat) : Int) :: rest := by
  obtain ⟨rest, hr⟩ := idsTo_pre params PH IN (Nat.zero_le n)
  refine ⟨((List.range' (k + 1) (params - (k + 1))).map (fun r => ((r : Nat) : Int))) ++ rest, ?_⟩
  have e : List.range params = List.range k ++ k :: List.range' (k + 1) (params - (k + 1)) := by
    rw [List.range_eq_range', List.range_eq_range', ← List.range'_succ, show params - (k + 1) + 1 = params - k by omega]
    have := List.range'_append_1 (s := 0) (m := k) (n := params - k)
    rw [Nat.zero_add, show k + (params - k) = params by omega] at this
    exact this.symm
  rw [hr, idsTo, e]
  simp
theorem insTo_all (xs : List InsD) : insTo xs xs.length = (xs.map (·.id)).filter (fun z => decide (z ≠ -1)) := by unfold insTo; rw [List.take_length]
theorem PartsAt.cells15 {w : World} {base g n : Nat} {D : PDat} {L : PLay} (h : PartsAt w base g n D L) {b : Nat} (hb : b < n) : ∃ x0 x1 x2 x3 x4 x5 x6 x7 x8 x9 x10 x11 : Int,
    w.rangeAt g (b * 15) [.int .i64 (D.bk b), L.vp b, L.vi b, .int .i64 x0, .int .i64 x1, .int .i64 x2, .int .i64 x3, .int .i64 x4, .int .i64 x5, .int .i64 x6, .int .i64 x7, .int .i64 x8, .int .i64 x9, .int .i64 x10, .int .i64 x11] := by
  have hr := h.rlen b hb
  have hc := fun c hc => h.cell hb (c := c) hc
  have hp : pC D L b = [.int .i64 (D.bk b), L.vp b, L.vi b] ++ i64s (D.rg b) := rfl
  rcases hrg : D.rg b with _ | ⟨x0, _ | ⟨x1, _ | ⟨x2, _ | ⟨x3, _ | ⟨x4, _ | ⟨x5, _ | ⟨x6, _ | ⟨x7, _ | ⟨x8, _ | ⟨x9, _ | ⟨x10, _ | ⟨x11, _ | ⟨x12, t⟩⟩⟩⟩⟩⟩⟩⟩⟩⟩⟩⟩⟩ <;> rw [hrg] at hr <;> simp at hr
  refine ⟨x0, x1, x2, x3, x4, x5, x6, x7, x8, x9, x10, x11, fun j v hv => ?_⟩
  have hj : j < 15 := by
    rcases Nat.lt_or_ge j 15 with h | h
    · exact h
    · rw [List.getElem?_eq_none (by simpa using h)] at hv; cases hv
  rw [hc j hj, hp, hrg]
  exact hv
theorem infoPart : (Tryd.prog.info? 74).map (·.size) = some 15 := by kernel_rfl
theorem infoPhi3 : (Tryd.prog.info? 86).map (·.size) = some 3 := by kernel_rfl
theorem infoIns6 : (Tryd.prog.info? 90).map (·.size) = some 6 := by kernel_rfl
theorem PartsAt.phAt {w : World} {base g n : Nat} {D : PDat} {L : PLay} (h : PartsAt w base g n D L) {b k q c : Nat} (hb : b < n) (hk : k < (D.ph b).length) (hq : L.vp b = .slice (some ⟨q, 0, none⟩) (D.ph b).length c) : w.rangeAt q (k * 3) (phC L.va b (D.ph b)[k]) := fun j v hv => by
  have hj : j < 3 := by
    rcases Nat.lt_or_ge j 3 with h | h
    · exact h
    · rw [List.getElem?_eq_none (by simpa [phC] using h)] at hv; cases hv
  have hown := h.phis.own b hb
  rw [hq] at hown
  rw [hown.cellAt (k * 3 + j) (at_lt hk hj)]
  exact (flat_get (phC_len L.va b) (D.ph b) k j hk hj).trans hv
theorem PartsAt.insAt {w : World} {base g n : Nat} {D : PDat} {L : PLay} (h : PartsAt w base g n D L) {b k q c : Nat} (hb : b < n) (hk : k < (D.ins b).length) (hq : L.vi b = .slice (some ⟨q, 0, none⟩) (D.ins b).length c) : w.rangeAt q (k * 6) (inC (D.ins b)[k]) := fun j v hv => by
  have hj : j < 6 := by
    rcases Nat.lt_or_ge j 6 with h | h
    · exact h
    · rw [List.getElem?_eq_none (by simpa [inC] using h)] at hv; cases hv
  have hown := h.ins.own b hb
  rw [hq] at hown
  rw [hown.cellAt (k * 6 + j) (at_lt hk hj)]
  exact (flat_get inC_len (D.ins b) k j hk hj).trans hv
def CountPost (w : World) (ids : List Int) (e : Ending) (w' : World) : Prop :=
  ∃ B D, e = .returned (.map (some B)) ∧ MapAt w' B ids.length D ∧ NumMap ids D ∧ w.heap.size ≤ B ∧ Below w.heap.size w w'
set_option maxRecDepth 100000 in
set_option maxHeartbeats 8000000 in
theorem count_any (w : World) (base gp n params : Nat) (D : PDat) (L : PLay) (h : PartsAt w base gp n D L) (hn : n ≤ 1000) (hpr : params ≤ 1000) (hnd : (idsTo params D.ph D.ins n).Nodup) (hft : ∀ z ∈ idsTo params D.ph D.ins n, Fit2 z) (hln : (idsTo params D.ph D.ins n).length ≤ 50000) (hpl : ∀ b, b < n → (D.ph b).length ≤ 50000 ∧ (D.ins b).length ≤ 50000) :
    Calls Tryd.prog 30 #[.int .i64 (params : Int), .slice (some ⟨gp, 0, none⟩) n n] w (CountPost w (idsTo params D.ph D.ins n)) := by
  have hmm := @run_makeMap Tryd.prog
  have hmf : ∀ (fn : Go.Fn) (first cap : Array Value) (w : World), (Instr.makeFunc fn first cap).run Tryd.prog w = .ok (.func fn first cap) w := fun _ _ _ _ => rfl
  have HPOST : Hid (∀ e w', (∃ B D', e = .returned (.map (some B)) ∧ MapAt w' B (idsTo params D.ph D.ins n).length D' ∧ NumMap (idsTo params D.ph D.ins n) D' ∧ w.heap.size ≤ B ∧ Below w.heap.size w w') → CountPost w (idsTo params D.ph D.ins n) e w') := fun e w' h => h
  have HND : Hid ((idsTo params D.ph D.ins n).Nodup) := hnd
  have HFT : Hid (∀ z ∈ idsTo params D.ph D.ins n, Fit2 z) := hft
  have HLN : Hid ((idsTo params D.ph D.ins n).length ≤ 50000) := hln
  have HPL : Hid (∀ b, b < n → (D.ph b).length ≤ 50000 ∧ (D.ins b).length ≤ 50000) := hpl
  have HPA : Hid (PartsAt w base gp n D L) := h
  -- what one call of the closure does
  have HNX : Hid (∀ (W : World) (R B : Nat) (cur rest : List Int) (v : Int), NumAt W R B cur → idsTo params D.ph D.ins n = cur ++ v :: rest → Calls Tryd.prog 53 #[.int .i64 v, .pointer (some ⟨R, 0, none⟩)] W fun e w' => e = .returned (.tuple #[]) ∧ NumAt w' R B (cur ++ [v]) ∧ W.grownBy w' (some B)) := fun W R B cur rest v hA e =>
    next_any1 W hA v (hft v (by rw [e]; exact List.mem_append_right _ List.mem_cons_self)) (not_before hnd e) (by have := len_before e; omega)
  have HB0 : Hid (Below w.heap.size w ((w.alloc (.map #[] 0)).alloc (.cells #[.map (some w.heap.size)] 82))) := ((Below.refl _ _).alloc (Nat.le_refl _) _).alloc (by simp) _
  have HN0 : Hid (NumAt ((w.alloc (.map #[] 0)).alloc (.cells #[.map (some w.heap.size)] 82)) (w.heap.size + 1) w.heap.size []) :=
    ⟨by rw [cell_of_row _ _ _ _ _ _ (heap_alloc2_new _ _ _)]; rfl, ⟨_, (World.ownsMap_made w _ _ _).alloc _, NumMap.nil⟩⟩
  have hnI : (n : Int) ≤ 1000 := by omega
  have hprI : (params : Int) ≤ 1000 := by omega
  clear hnd hft hln h hpl
  go_enter Tryd.func30, Tryd.ntmps30
  go_upto_region 4 with fail
  generalize ((w.alloc (.map #[] 0)).alloc (.cells #[.map (some w.heap.size)] 82)) = W1 at *
  clear hmm hmf
  generalize hR : w.heap.size + 1 = R at *
  obtain ⟨B, hB⟩ : ∃ B, w.heap.size = B := ⟨_, rfl⟩
  rw [hB] at HN0 hR
  have HBE : Hid (w.heap.size = B ∧ R = B + 1) := ⟨hB, hR.symm⟩
  have HWB : Hid (w.heap.size ≤ B) := Nat.le_of_eq hB
  clear hB hR
  go_loopw [17] (fun i wr => ∃ q : Nat, q ≤ params ∧ i = .int .i64 q ∧ NumAt wr R B ((List.range q).map (fun r => ((r : Nat) : Int))) ∧ Below w.heap.size w wr) (fun i _ => params - (intOf i).toNat)
  case atStart => exact ⟨0, Nat.zero_le _, rfl, HN0.out, HB0.out⟩
  case round =>
    obtain ⟨q, hq, rfl, hna, hbr⟩ := hrel
    have HNA : Hid (NumAt wr R B ((List.range q).map (fun r => ((r : Nat) : Int)))) := hna
    have HBR : Hid (Below w.heap.size w wr) := hbr
    clear hna hbr
    by_cases hlt : q < params
    · have hqI : (q : Int) < (params : Int) := by omega
      obtain ⟨rest, hrest⟩ := idsTo_par (n := n) (PH := D.ph) (IN := D.ins) hlt
      have hnx := HNX.out wr R B _ rest _ HNA.out hrest
      have HS : Hid ((List.range q).map (fun r => ((r : Nat) : Int)) ++ [((q : Nat) : Int)] = (List.range (q + 1)).map (fun r => ((r : Nat) : Int))) := by show _ = _; rw [List.range_succ, List.map_append]; rfl
      clear hrest
      go_wp2_with (go_at_call 53; refine hnx.mono ?_; rintro e w2 ⟨rfl, hna2, hg2⟩)
      go_roundw
      case rel => exact ⟨q + 1, by omega, by go_num, by rw [← HS.out]; exact hna2, HBR.out.grown hg2 HBR.out.size (fun k hk => Option.some.inj hk ▸ HWB.out)⟩
      case measure => simp [intOf]; omega
    · obtain rfl : q = params := by omega
      have HNB : Hid (NumAt wr R B (idsTo q D.ph D.ins 0)) := HNA.out
      clear HNA
      go_upto_region 9 with fail
      go_loopw [26] (fun i wr => ∃ b : Nat, b ≤ n ∧ i = .int .i64 b ∧ NumAt wr R B (idsTo q D.ph D.ins b) ∧ Below w.heap.size w wr) (fun i _ => n - (intOf i).toNat)
      case atStart => exact ⟨0, Nat.zero_le _, rfl, HNB.out, HBR.out⟩
      case round =>
        clear HNB HBR
        obtain ⟨b, hb, rfl, hna, hbr⟩ := hrel
        rename World => wo
        have HNA : Hid (NumAt wo R B (idsTo q D.ph D.ins b)) := hna
        have HBR : Hid (Below w.heap.size w wo) := hbr
        clear hna hbr
        by_cases hbn : b < n
        · have hbI : (b : Int) < (n : Int) := by omega
          have hpo := HPA.out.below HBR.out
          obtain ⟨x0, x1, x2, x3, x4, x5, x6, x7, x8, x9, x10, x11, hr15⟩ := hpo.cells15 hbn
          obtain ⟨aoP, cP, eP⟩ := own_shape (hpo.phis.own b hbn)
          obtain ⟨aoI, cI, eI⟩ := own_shape (hpo.ins.own b hbn)
          have HEP : Hid (L.vp b = .slice aoP (D.ph b).length cP) := eP
          have HEI : Hid (L.vi b = .slice aoI (D.ins b).length cI) := eI
          rw [eP, eI] at hr15
          have hpl1 := (HPL.out b hbn).1
          have hpl2 := (HPL.out b hbn).2
          have HBB : Hid (B < wo.heap.size) := HNA.out.ltB
          clear eP eI hpo
          go_upto_region 11 with (refine wpList_load_mid rfl 74 _ rfl gp (b * 15) rfl _ _ hr15 Tryd.underlying74 rfl infoPart ?_)
          have r9 : (wo.alloc (.cells #[.int .i64 (D.bk b), .slice aoP (D.ph b).length cP, .slice aoI (D.ins b).length cI, .int .i64 x0, .int .i64 x1, .int .i64 x2, .int .i64 x3, .int .i64 x4, .int .i64 x5, .int .i64 x6, .int .i64 x7, .int .i64 x8, .int .i64 x9, .int .i64 x10, .int .i64 x11] 74)).heap[wo.heap.size]? = some (.cells #[.int .i64 (D.bk b), .slice aoP (D.ph b).length cP, .slice aoI (D.ins b).length cI, .int .i64 x0, .int .i64 x1, .int .i64 x2, .int .i64 x3, .int .i64 x4, .int .i64 x5, .int .i64 x6, .int .i64 x7, .int .i64 x8, .int .i64 x9, .int .i64 x10, .int .i64 x11] 74 (0, 0)) := heap_alloc_last wo _
          have HBV : Hid (Below wo.heap.size wo (wo.alloc (.cells #[.int .i64 (D.bk b), .slice aoP (D.ph b).length cP, .slice aoI (D.ins b).length cI, .int .i64 x0, .int .i64 x1, .int .i64 x2, .int .i64 x3, .int .i64 x4, .int .i64 x5, .int .i64 x6, .int .i64 x7, .int .i64 x8, .int .i64 x9, .int .i64 x10, .int .i64 x11] 74))) := (Below.refl _ _).alloc (Nat.le_refl _) _
          have k1 := cell_of_row _ _ 1 _ _ _ r9
          have k2 := cell_of_row _ _ 2 _ _ _ r9
          simp only [List.getElem?_toArray, List.getElem?_cons_succ, List.getElem?_cons_zero] at k1 k2
          have HNV : Hid (NumAt (wo.alloc (.cells #[.int .i64 (D.bk b), .slice aoP (D.ph b).length cP, .slice aoI (D.ins b).length cI, .int .i64 x0, .int .i64 x1, .int .i64 x2, .int .i64 x3, .int .i64 x4, .int .i64 x5, .int .i64 x6, .int .i64 x7, .int .i64 x8, .int .i64 x9, .int .i64 x10, .int .i64 x11] 74)) R B (idsTo q D.ph D.ins b ++ ((D.ph b).take 0).map (·.id))) := by have := HNA.out.below HBV.out; show NumAt _ _ _ _; simpa using this
          have HBW : Hid (Below w.heap.size w (wo.alloc (.cells #[.int .i64 (D.bk b), .slice aoP (D.ph b).length cP, .slice aoI (D.ins b).length cI, .int .i64 x0, .int .i64 x1, .int .i64 x2, .int .i64 x3, .int .i64 x4, .int .i64 x5, .int .i64 x6, .int .i64 x7, .int .i64 x8, .int .i64 x9, .int .i64 x10, .int .i64 x11] 74))) := HBR.out.trans (HBV.out.mono HBR.out.size)
          generalize (wo.alloc (.cells #[.int .i64 (D.bk b), .slice aoP (D.ph b).length cP, .slice aoI (D.ins b).length cI, .int .i64 x0, .int .i64 x1, .int .i64 x2, .int .i64 x3, .int .i64 x4, .int .i64 x5, .int .i64 x6, .int .i64 x7, .int .i64 x8, .int .i64 x9, .int .i64 x10, .int .i64 x11] 74)) = V at *
          clear hr15 r9
          have HGN : Hid (wo.heap.size ≠ B) := by have := HBB.out; show _ ≠ _; omega
          generalize wo.heap.size = G9 at *
          go_upto_region 12 with fail
          clear k1
          go_loopw [33] (fun i wi => ∃ k : Nat, k ≤ (D.ph b).length ∧ i = .int .i64 k ∧ NumAt wi R B (idsTo q D.ph D.ins b ++ ((D.ph b).take k).map (·.id)) ∧ Below w.heap.size w wi ∧ wi.cell? ⟨G9, 2, none⟩ = some (.slice aoI (D.ins b).length cI)) (fun i _ => (D.ph b).length - (intOf i).toNat)
          case atStart => exact ⟨0, Nat.zero_le _, rfl, HNV.out, HBW.out, k2⟩
          case round =>
            clear HNV HBW k2 HNA HBR HBV HBB
            obtain ⟨k, hk, rfl, hna, hbr, hk2⟩ := hrel
            rename World => wi
            have HNA : Hid (NumAt wi R B (idsTo q D.ph D.ins b ++ ((D.ph b).take k).map (·.id))) := hna
            have HBR : Hid (Below w.heap.size w wi) := hbr
            have HK2 : Hid (wi.cell? ⟨G9, 2, none⟩ = some (.slice aoI (D.ins b).length cI)) := hk2
            clear hna hbr
            by_cases hkn : k < (D.ph b).length
            · have hkI : (k : Int) < ((D.ph b).length : Int) := by omega
              have hpo := HPA.out.below HBR.out
              obtain ⟨gq, cap', e, -, -⟩ := (hpo.phis.own b hbn).form (by omega)
              have e1 : aoP = some ⟨gq, 0, none⟩ := by rw [HEP.out] at e; simpa using (show aoP = some ⟨gq, 0, none⟩ ∧ cP = cap' by simpa using e).1
              subst e1
              have hrk := hpo.phAt hbn hkn HEP.out
              obtain ⟨aA, cA, eA⟩ := own_shape (hpo.args.own (12 * b + (D.ph b)[k].reg) (by have := (hpo.fit b hbn _ (List.getElem_mem hkn)).1; omega))
              have HPC : phC L.va b (D.ph b)[k] = [.int .i64 ((D.ph b)[k].reg : Int), .int .i64 (D.ph b)[k].id, .slice aA (D.ar (12 * b + (D.ph b)[k].reg)).length cA] := by rw [← eA]; rfl
              rw [HPC] at hrk
              obtain ⟨rest, hrest⟩ := idsTo_phi (params := q) (IN := D.ins) hbn hkn
              have HNX1 : Hid (∀ W, NumAt W R B (idsTo q D.ph D.ins b ++ ((D.ph b).take k).map (·.id)) → Calls Tryd.prog 53 #[.int .i64 (D.ph b)[k].id, .pointer (some ⟨R, 0, none⟩)] W fun e w' => e = .returned (.tuple #[]) ∧ NumAt w' R B ((idsTo q D.ph D.ins b ++ ((D.ph b).take k).map (·.id)) ++ [(D.ph b)[k].id]) ∧ W.grownBy w' (some B)) := fun W hA => HNX.out W R B _ rest _ hA hrest
              have HS : Hid ((idsTo q D.ph D.ins b ++ ((D.ph b).take k).map (·.id)) ++ [(D.ph b)[k].id] = idsTo q D.ph D.ins b ++ ((D.ph b).take (k + 1)).map (·.id)) := by show _ = _; rw [List.take_succ_eq_append_getElem hkn, List.map_append, List.append_assoc]; rfl
              have HBB : Hid (B < wi.heap.size) := HNA.out.ltB
              clear hpo e eA HPC hrest
              generalize (D.ph b)[k].id = id at *
              generalize ((D.ph b)[k].reg : Int) = rr at *
              generalize (D.ar (12 * b + (D.ph b)[k].reg)).length = nA at *
              generalize idsTo q D.ph D.ins b ++ ((D.ph b).take k).map (·.id) = cur at *
              go_upto_region 14 with (refine wpList_load_mid rfl 86 _ rfl gq (k * 3) rfl _ _ hrk Tryd.underlying86 rfl infoPhi3 ?_)
              have r11 : (wi.alloc (.cells #[.int .i64 rr, .int .i64 id, .slice aA nA cA] 86)).heap[wi.heap.size]? = some (.cells #[.int .i64 rr, .int .i64 id, .slice aA nA cA] 86 (0, 0)) := heap_alloc_last wi _
              have HBV : Hid (Below wi.heap.size wi (wi.alloc (.cells #[.int .i64 rr, .int .i64 id, .slice aA nA cA] 86))) := (Below.refl _ _).alloc (Nat.le_refl _) _
              have k1 := cell_of_row _ _ 1 _ _ _ r11
              simp only [List.getElem?_toArray, List.getElem?_cons_succ, List.getElem?_cons_zero] at k1
              have hnx := HNX1.out _ (HNA.out.below HBV.out)
              generalize (wi.alloc (.cells #[.int .i64 rr, .int .i64 id, .slice aA nA cA] 86)) = V2 at *
              clear hrk r11 hk2
              go_wp2_with (go_at_call 53; refine hnx.mono ?_; rintro e w2 ⟨rfl, hna2, hg2⟩)
              go_roundw
              case rel =>
                refine ⟨k + 1, by omega, by go_num, by rw [← HS.out]; exact hna2, (HBR.out.trans (HBV.out.mono HBR.out.size)).grown hg2 (by have := HBR.out.size; have := HBV.out.size; omega) (fun k hk => Option.some.inj hk ▸ HWB.out), hg2.cell (keeps_below HBV.out _ _ HK2.out) (by simpa using HGN.out)⟩
              case measure => simp [intOf]; omega
            · obtain rfl : k = (D.ph b).length := by omega
              have HNI : Hid (NumAt wi R B (idsTo q D.ph D.ins b ++ (D.ph b).map (·.id) ++ insTo (D.ins b) 0)) := by
                have := HNA.out
                rw [List.take_length] at this
                show NumAt _ _ _ _
                simpa [insTo] using this
              clear HNA
              go_upto_region 17 with fail
              clear hk2 HK2
              go_loopw [45] (fun i wj => ∃ k : Nat, k ≤ (D.ins b).length ∧ i = .int .i64 k ∧ NumAt wj R B (idsTo q D.ph D.ins b ++ (D.ph b).map (·.id) ++ insTo (D.ins b) k) ∧ Below w.heap.size w wj) (fun i _ => (D.ins b).length - (intOf i).toNat)
              case atStart => exact ⟨0, Nat.zero_le _, rfl, HNI.out, HBR.out⟩
              case round =>
                clear HNI HBR
                obtain ⟨k, hk, rfl, hna, hbr⟩ := hrel
                rename World => wj
                have HNA : Hid (NumAt wj R B (idsTo q D.ph D.ins b ++ (D.ph b).map (·.id) ++ insTo (D.ins b) k)) := hna
                have HBR : Hid (Below w.heap.size w wj) := hbr
                clear hna hbr
                by_cases hkn : k < (D.ins b).length
                · have hkI : (k : Int) < ((D.ins b).length : Int) := by omega
                  have hpo := HPA.out.below HBR.out
                  obtain ⟨gq, cap', e, -, -⟩ := (hpo.ins.own b hbn).form (by omega)
                  have e1 : aoI = some ⟨gq, 0, none⟩ := by rw [HEI.out] at e; simpa using (show aoI = some ⟨gq, 0, none⟩ ∧ cI = cap' by simpa using e).1
                  subst e1
                  have hrk := hpo.insAt hbn hkn HEI.out
                  have HXC : inC (D.ins b)[k] = [.int .i64 (D.ins b)[k].op, .int .i64 (D.ins b)[k].id, .int .i64 (D.ins b)[k].a, .int .i64 (D.ins b)[k].b, .int .i64 (D.ins b)[k].imm, .int .i64 (D.ins b)[k].pc] := rfl
                  rw [HXC] at hrk
                  have HBB : Hid (B < wj.heap.size) := HNA.out.ltB
                  clear hpo e HXC
                  by_cases hid : (D.ins b)[k].id = -1
                  · have eid : ((D.ins b)[k].id != -1) = false := by simpa using hid
                    have HS : Hid (idsTo q D.ph D.ins b ++ (D.ph b).map (·.id) ++ insTo (D.ins b) k = idsTo q D.ph D.ins b ++ (D.ph b).map (·.id) ++ insTo (D.ins b) (k + 1)) := by show _ = _; rw [insTo_step hkn, if_neg (fun h => h hid), List.append_nil]
                    clear hid
                    generalize (D.ins b)[k].id = id at *
                    generalize (D.ins b)[k].op = y1 at *
                    generalize (D.ins b)[k].a = y2 at *
                    generalize (D.ins b)[k].b = y3 at *
                    generalize (D.ins b)[k].imm = y4 at *
                    generalize (D.ins b)[k].pc = y5 at *
                    go_upto_region 19 with (refine wpList_load_mid rfl 90 _ rfl gq (k * 6) rfl _ _ hrk Tryd.underlying90 rfl infoIns6 ?_)
                    have r11 : (wj.alloc (.cells #[.int .i64 y1, .int .i64 id, .int .i64 y2, .int .i64 y3, .int .i64 y4, .int .i64 y5] 90)).heap[wj.heap.size]? = some (.cells #[.int .i64 y1, .int .i64 id, .int .i64 y2, .int .i64 y3, .int .i64 y4, .int .i64 y5] 90 (0, 0)) := heap_alloc_last wj _
                    have HBV : Hid (Below wj.heap.size wj (wj.alloc (.cells #[.int .i64 y1, .int .i64 id, .int .i64 y2, .int .i64 y3, .int .i64 y4, .int .i64 y5] 90))) := (Below.refl _ _).alloc (Nat.le_refl _) _
                    have k1 := cell_of_row _ _ 1 _ _ _ r11
                    simp only [List.getElem?_toArray, List.getElem?_cons_succ, List.getElem?_cons_zero] at k1
                    generalize (wj.alloc (.cells #[.int .i64 y1, .int .i64 id, .int .i64 y2, .int .i64 y3, .int .i64 y4, .int .i64 y5] 90)) = V2 at *
                    clear hrk r11
                    go_wp2
                    go_roundw
                    case rel => exact ⟨k + 1, by omega, by go_num, by rw [← HS.out]; exact HNA.out.below HBV.out, HBR.out.trans (HBV.out.mono HBR.out.size)⟩
                    case measure => simp [intOf]; omega
                  · have eid : ((D.ins b)[k].id != -1) = true := by simpa using hid
                    obtain ⟨rest, hrest⟩ := idsTo_ins (params := q) (PH := D.ph) hbn hkn hid
                    have HNX1 : Hid (∀ W, NumAt W R B (idsTo q D.ph D.ins b ++ (D.ph b).map (·.id) ++ insTo (D.ins b) k) → Calls Tryd.prog 53 #[.int .i64 (D.ins b)[k].id, .pointer (some ⟨R, 0, none⟩)] W fun e w' => e = .returned (.tuple #[]) ∧ NumAt w' R B ((idsTo q D.ph D.ins b ++ (D.ph b).map (·.id) ++ insTo (D.ins b) k) ++ [(D.ins b)[k].id]) ∧ W.grownBy w' (some B)) := fun W hA => HNX.out W R B _ rest _ hA hrest
                    have HS : Hid ((idsTo q D.ph D.ins b ++ (D.ph b).map (·.id) ++ insTo (D.ins b) k) ++ [(D.ins b)[k].id] = idsTo q D.ph D.ins b ++ (D.ph b).map (·.id) ++ insTo (D.ins b) (k + 1)) := by show _ = _; rw [insTo_step hkn, if_pos hid, ← List.append_assoc]
                    clear hid hrest
                    generalize (D.ins b)[k].id = id at *
                    generalize (D.ins b)[k].op = y1 at *
                    generalize (D.ins b)[k].a = y2 at *
                    generalize (D.ins b)[k].b = y3 at *
                    generalize (D.ins b)[k].imm = y4 at *
                    generalize (D.ins b)[k].pc = y5 at *
                    go_upto_region 19 with (refine wpList_load_mid rfl 90 _ rfl gq (k * 6) rfl _ _ hrk Tryd.underlying90 rfl infoIns6 ?_)
                    have r11 : (wj.alloc (.cells #[.int .i64 y1, .int .i64 id, .int .i64 y2, .int .i64 y3, .int .i64 y4, .int .i64 y5] 90)).heap[wj.heap.size]? = some (.cells #[.int .i64 y1, .int .i64 id, .int .i64 y2, .int .i64 y3, .int .i64 y4, .int .i64 y5] 90 (0, 0)) := heap_alloc_last wj _
                    have HBV : Hid (Below wj.heap.size wj (wj.alloc (.cells #[.int .i64 y1, .int .i64 id, .int .i64 y2, .int .i64 y3, .int .i64 y4, .int .i64 y5] 90))) := (Below.refl _ _).alloc (Nat.le_refl _) _
                    have k1 := cell_of_row _ _ 1 _ _ _ r11
                    simp only [List.getElem?_toArray, List.getElem?_cons_succ, List.getElem?_cons_zero] at k1
                    have hnx := HNX1.out _ (HNA.out.below HBV.out)
                    generalize (wj.alloc (.cells #[.int .i64 y1, .int .i64 id, .int .i64 y2, .int .i64 y3, .int .i64 y4, .int .i64 y5] 90)) = V2 at *
                    clear hrk r11
                    go_wp2_with (go_at_call 53; refine hnx.mono ?_; rintro e w2 ⟨rfl, hna2, hg2⟩)
                    go_roundw
                    case rel => exact ⟨k + 1, by omega, by go_num, by rw [← HS.out]; exact hna2, (HBR.out.trans (HBV.out.mono HBR.out.size)).grown hg2 (by have := HBR.out.size; have := HBV.out.size; omega) (fun k hk => Option.some.inj hk ▸ HWB.out)⟩
                    case measure => simp [intOf]; omega
                · obtain rfl : k = (D.ins b).length := by omega
                  have HNB : Hid (NumAt wj R B (idsTo q D.ph D.ins (b + 1))) := by
                    have := HNA.out
                    rw [insTo_all] at this
                    show NumAt _ _ _ _
                    rw [idsTo, idsP, ← List.append_assoc]; exact this
                  clear HNA
                  go_wp2
                  go_roundw
                  case rel => exact ⟨b + 1, by omega, by go_num, HNB.out, HBR.out⟩
                  case measure => simp [intOf]; omega
        · obtain rfl : b = n := by omega
          have hna := HNA.out
          have cR := hna.cell
          obtain ⟨D', hM, hD⟩ := hna.map
          have HD' : Hid (MapAt wo B (idsTo q D.ph D.ins b).length D' ∧ NumMap (idsTo q D.ph D.ins b) D') := ⟨hM, hD⟩
          clear hna hM hD
          go_wp2
          go_ret
          exact HPOST.out _ _ ⟨B, D', rfl, HD'.out.1, HD'.out.2, HWB.out, HBR.out⟩
end Go.Proofs.YtldbmdgpdolaaaaDoor
