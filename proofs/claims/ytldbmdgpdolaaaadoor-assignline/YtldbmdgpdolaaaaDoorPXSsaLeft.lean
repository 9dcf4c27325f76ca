import Derived.Test.YtldbmdgpdolaaaaDoorPXSsaPartM
import Derived.Test.YtldbmdgpdolaaaaDoorPXSsaRow
namespace Go.Proofs.YtldbmdgpdolaaaaDoor
open Go Go.RowKit

theorem map_cell {w : World} {B m : Nat} {D : Dat} (h : MapAt w B m D) (a : Addr) (ha : a.block = B) : w.cell? a = none := by
  obtain ⟨es, cl, hh, -⟩ := h
  simp [World.cell?, ha, hh]
theorem keeps_map {w w' : World} {B m : Nat} {D : Dat} (h : MapAt w B m D) (hg : w.grownBy w' (some B)) : Keeps w w' := fun a v hc => by
  refine hg.cell hc fun e => ?_
  have e : a.block = B := by simpa using e
  have := map_cell h a e
  rw [hc] at this
  cases this
theorem own_notmap {w : World} {base t s n B m : Nat} {v : Value} {xs : List Value} {D : Dat} (h : w.ownsRow base t s v n xs) (hm : MapAt w B m D) : v.ownBlock = none ∨ v.ownBlock ≠ some B := by
  rcases h.2 with ⟨e, -⟩ | ⟨g, cap, cur, e, -, hg, -⟩
  · rw [e]; exact Or.inl rfl
  · right
    rw [e]
    intro e2
    obtain rfl : g = B := by simpa [Value.ownBlock] using e2
    obtain ⟨es, cl, hh, -⟩ := hm
    rw [hg] at hh
    cases hh
theorem GoneAt.kept {w w' : World} {R B m : Nat} {g : List (Int × Int)} (h : GoneAt w R B m g) {row : Option Nat} (hg : w.grownBy w' row) (h1 : some R ≠ row) (h2 : some B ≠ row) : GoneAt w' R B m g := by
  obtain ⟨D, hM, hD⟩ := h.map
  exact ⟨hg.cell h.cell h1, ⟨D, hM.kept hg h2, hD⟩, h.ok, h.fit⟩
theorem GoneAt.ltR {w : World} {R B m : Nat} {g : List (Int × Int)} (h : GoneAt w R B m g) : R < w.heap.size := World.block_lt_of_cell? _ _ h.cell
theorem GoneAt.ltB {w : World} {R B m : Nat} {g : List (Int × Int)} (h : GoneAt w R B m g) : B < w.heap.size := by obtain ⟨D, hM, -⟩ := h.map; exact hM.lt
theorem infoPhi : (Tryd.prog.info? 86).map (fun i => (i.zero, i.size, i.bytes)) = some (some (.agg #[.int .i64 0, .int .i64 0, .slice none 0 0]), 3, 40) := by kernel_rfl
theorem loneG_fit {g : List (Int × Int)} (h : FitG g) {id : Int} : ∀ {args : List Int} {one : Int}, Fit2 one → (∀ a ∈ args, Fit2 a) → Fit2 (loneG g id one args)
  | [], one, h1, _ => h1
  | a :: t, one, h1, h2 => by
    rw [loneG]
    have ht : ∀ x ∈ t, Fit2 x := fun x hx => h2 x (List.mem_cons_of_mem _ hx)
    split
    · exact loneG_fit h h1 ht
    · split
      · exact ⟨by omega, by omega⟩
      · exact loneG_fit h (stG_fit h (h2 a List.mem_cons_self)) ht
theorem gb_step {w a c : World} {B : Nat} {row : Option Nat} (h : w.grownBy a (some B)) (k : a.grownBy c row) (hr : ∀ g, row = some g → w.heap.size ≤ g) : w.grownBy c (some B) :=
  ⟨k.os.trans h.os, k.tape.trans h.tape, k.output.trans h.output, Nat.le_trans h.size k.size, fun i hi hne => (k.block i (Nat.lt_of_lt_of_le hi h.size) (fun e => by have := hr i e.symm; omega)).trans (h.block i hi hne)⟩
def phiFit (all : List PhiD) : Prop := ∀ p ∈ all, Fit2 p.id ∧ ∀ a ∈ p.args, Fit2 a ∧ a ≠ -1
def LeftPost (w : World) (R B : Nat) (VA : Nat → Value) (b : Nat) (g : List (Int × Int)) (ps : List PhiD) (e : Ending) (w' : World) : Prop :=
  ∃ v', e = .returned v' ∧ w'.ownsRow w.heap.size 86 3 v' (leftG g ps).2.length ((leftG g ps).2.flatMap (phC VA b)) ∧ GoneAt w' R B (leftG g ps).1.length (leftG g ps).1 ∧ w.grownBy w' (some B)
set_option maxRecDepth 100000 in
set_option maxHeartbeats 4000000 in
theorem left_any {all : List PhiD} {g : List (Int × Int)} {R B Rs : Nat} (w : World) (h : GoneAt w R B g.length g) (hs : w.cell? ⟨Rs, 0, none⟩ = some (standsV R)) (v : Value) (VA : Nat → Value) (b : Nat) (ps : List PhiD)
    (hrow : w.ownsRow 0 86 3 v ps.length (ps.flatMap (phC VA b))) (hva : ∀ p ∈ ps, IntsVal w (VA (12 * b + p.reg)) p.args) (hfit : phiFit all) (A C : List PhiD) (hI : SInv all g (A ++ (ps ++ C))) (hN : g.length + ps.length ≤ 100000) :
    Calls Tryd.prog 51 #[v, .pointer (some ⟨Rs, 0, none⟩), .pointer (some ⟨R, 0, none⟩)] w (LeftPost w R B VA b g ps) := by
  obtain ⟨iP, hiP, hz0, hz1, hz2⟩ := info_parts infoPhi
  obtain ⟨ao, cap, rfl⟩ := own_shape hrow
  have HPOST : Hid (∀ e w', (∃ v', e = .returned v' ∧ w'.ownsRow w.heap.size 86 3 v' (leftG g ps).2.length ((leftG g ps).2.flatMap (phC VA b)) ∧ GoneAt w' R B (leftG g ps).1.length (leftG g ps).1 ∧ w.grownBy w' (some B)) → LeftPost w R B VA b g ps e w') := fun e w' h => h
  have hn63 : ps.length ≤ 100000 := by omega
  have HN : Hid (g.length + ps.length ≤ 100000) := hN
  have HA : Hid (0 < ps.length → ∃ gP, ao = some ⟨gP, 0, none⟩ ∧ ∀ q (hq : q < ps.length), w.cell? ⟨gP, q * 3, none⟩ = some (.int .i64 (ps[q].reg : Int)) ∧ w.cell? ⟨gP, q * 3 + 1, none⟩ = some (.int .i64 ps[q].id) ∧ w.cell? ⟨gP, q * 3 + 2, none⟩ = some (VA (12 * b + ps[q].reg))) := fun h0 => by
    obtain ⟨gP, cap', e, -, -⟩ := hrow.form h0
    have e1 : ao = some ⟨gP, 0, none⟩ := by simp at e; exact e.1
    subst e1
    refine ⟨gP, rfl, fun q hq => ?_⟩
    have hc : ∀ c, c < 3 → w.cell? ⟨gP, q * 3 + c, none⟩ = (phC VA b ps[q])[c]? := fun c hc => by
      rw [hrow.cellAt (q * 3 + c) (at_lt hq hc)]
      exact flat_get (phC_len VA b) ps q c hq hc
    exact ⟨hc 0 (by omega), hc 1 (by omega), hc 2 (by omega)⟩
  have HVA : Hid (∀ q (hq : q < ps.length), IntsVal w (VA (12 * b + ps[q].reg)) ps[q].args) := fun q hq => hva _ (List.getElem_mem hq)
  have HFIT : Hid (phiFit all) := hfit
  have HALL : Hid (∀ q (hq : q < ps.length), ps[q] ∈ all) := fun q hq => (hI.sub ps[q] (by rw [List.mem_append, List.mem_append]; exact Or.inr (Or.inl (List.getElem_mem hq)))).1
  have HVAL : Hid (∀ p ∈ all, ∀ a ∈ p.args, a ≠ -1) := fun p hp a ha => ((hfit p hp).2 a ha).2
  have HI : Hid (∃ A' : List PhiD, SInv all g (A' ++ (ps.drop 0 ++ C))) := ⟨A, hI⟩
  have HG : Hid (GoneAt w R B g.length g) := h
  have HS : Hid (w.cell? ⟨Rs, 0, none⟩ = some (standsV R)) := hs
  clear h hs hrow hva hfit hI hN
  go_enter Tryd.func51, Tryd.ntmps51
  go_upto_region 3 with fail
  go_loopw [5, 11] (fun lv i wr => ∃ (q : Nat) (g' : List (Int × Int)) (dn : List PhiD) (v' : Value), q ≤ ps.length ∧ i = .int .i64 q ∧ lv = v' ∧ leftG g ps = ((leftG g' (ps.drop q)).1, dn ++ (leftG g' (ps.drop q)).2) ∧ (∃ A' : List PhiD, SInv all g' (A' ++ (ps.drop q ++ C))) ∧ g'.length ≤ g.length + q ∧ dn.length ≤ q ∧ wr.ownsRow w.heap.size 86 3 v' dn.length (dn.flatMap (phC VA b)) ∧ GoneAt wr R B g'.length g' ∧ w.grownBy wr (some B) ∧ Keeps w wr) (fun _ i _ => ps.length - (intOf i).toNat)
  case atStart => exact ⟨0, g, [], _, Nat.zero_le _, rfl, rfl, by rw [List.drop_zero, List.nil_append], HI.out, by omega, Nat.le_refl _, World.ownsRow_nil _ _ _ _, HG.out, gb_refl _ _, Keeps.refl _⟩
  case round =>
    obtain ⟨q, g', dn, v', hq, rfl, hlv, hlg, hinv, hgl, hdl, hown, hgo, hgr, hkp⟩ := hrel
    have HLG : Hid (leftG g ps = ((leftG g' (ps.drop q)).1, dn ++ (leftG g' (ps.drop q)).2)) := hlg
    have HIV : Hid (∃ A' : List PhiD, SInv all g' (A' ++ (ps.drop q ++ C))) := hinv
    have HGL : Hid (g'.length ≤ g.length + q) := hgl
    have HDL : Hid (dn.length ≤ q) := hdl
    have HOW : Hid (wr.ownsRow w.heap.size 86 3 v' dn.length (dn.flatMap (phC VA b))) := hown
    have HGO : Hid (GoneAt wr R B g'.length g') := hgo
    have HGR : Hid (w.grownBy wr (some B)) := hgr
    have HKP : Hid (Keeps w wr) := hkp
    replace hlv := hlv.symm
    subst hlv
    clear hlg hinv hgl hdl hown hgo hgr hkp
    by_cases hlt : q < ps.length
    · obtain ⟨gP, rfl, hcs⟩ := HA.out (by omega)
      obtain ⟨c0, c1, c2⟩ := hcs q hlt
      replace c0 := HKP.out _ _ c0
      replace c1 := HKP.out _ _ c1
      replace c2 := HKP.out _ _ c2
      have HPA : Hid (IntsVal wr (VA (12 * b + ps[q].reg)) ps[q].args) := (HVA.out q hlt).keeps HKP.out
      have HPC : Hid (phC VA b ps[q] = [.int .i64 (ps[q].reg : Int), .int .i64 ps[q].id, VA (12 * b + ps[q].reg)]) := rfl
      obtain ⟨aA, nA, cA, eA⟩ : ∃ aA nA cA, VA (12 * b + ps[q].reg) = .slice aA nA cA := by obtain ⟨a1, a2, a3, a4, a5, e, -⟩ := ints_get HPA.out; exact ⟨_, _, _, e⟩
      have HDR : Hid (ps.drop q = ps[q] :: ps.drop (q + 1)) := List.drop_eq_getElem_cons hlt
      have HPM : Hid (ps[q] ∈ all) := HALL.out q hlt
      have hqI : (q : Int) < (ps.length : Int) := by omega
      obtain ⟨pq, hpq⟩ : ∃ pq, pq = ps[q] := ⟨_, rfl⟩
      rw [eA] at c2 HPA HPC
      rw [← hpq] at c0 c1 HPA HPC HDR HPM
      have HLO : Hid (∀ W, Below wr.heap.size wr W → Calls Tryd.prog 52 #[.agg #[.int .i64 (pq.reg : Int), .int .i64 pq.id, .slice aA nA cA], standsV R] W fun e w' => e = .returned (.int .i64 (loneG g' pq.id (-1) pq.args)) ∧ Below W.heap.size W w') := fun W hW => lone_any W (HGO.out.below hW) _ _ _ _ (HPA.out.keeps (keeps_below hW)) (fun a ha => ((HFIT.out _ HPM.out).2 a ha).1)
      have HST : Hid (wr.cell? ⟨Rs, 0, none⟩ = some (standsV R)) := HKP.out _ _ HS.out
      have hzB : B < wr.heap.size := HGO.out.ltB
      have hzR : R < wr.heap.size := HGO.out.ltR
      have HFI : Hid (Fit2 pq.id) := (HFIT.out _ HPM.out).1
      have HFL : Hid (Fit2 (loneG g' pq.id (-1) pq.args)) := loneG_fit HGO.out.fit ⟨by omega, by omega⟩ (fun a ha => ((HFIT.out _ HPM.out).2 a ha).1)
      clear hpq eA hcs
      have r7 : (wr.alloc (.cells #[.int .i64 (pq.reg : Int), .int .i64 pq.id, .slice aA nA cA] 86)).heap[wr.heap.size]? = some (.cells #[.int .i64 (pq.reg : Int), .int .i64 pq.id, .slice aA nA cA] 86 (0, 0)) := heap_alloc_last wr _
      have HBA : Hid (Below wr.heap.size wr (wr.alloc (.cells #[.int .i64 (pq.reg : Int), .int .i64 pq.id, .slice aA nA cA] 86))) := (Below.refl _ _).alloc (Nat.le_refl _) _
      obtain ⟨rr, hrr⟩ : ∃ rr : Int, rr = (pq.reg : Int) := ⟨_, rfl⟩
      obtain ⟨id, hid⟩ : ∃ id : Int, id = pq.id := ⟨_, rfl⟩
      obtain ⟨z, hz⟩ : ∃ z : Int, z = loneG g' pq.id (-1) pq.args := ⟨_, rfl⟩
      have HZ : Hid (z = loneG g' pq.id (-1) pq.args) := hz
      have HID : Hid (id = pq.id) := hid
      have HRR : Hid (rr = (pq.reg : Int)) := hrr
      rw [← hz, ← hrr, ← hid] at HLO
      rw [← hz] at HFL
      rw [← hrr, ← hid] at HPC r7 HBA
      rw [← hrr] at c0
      rw [← hid] at c1 HFI
      clear hz hrr hid
      go_upto_region 5 with fail
      generalize (wr.alloc (.cells #[.int .i64 rr, .int .i64 id, .slice aA nA cA] 86)) = V at *
      have k0 : V.cell? ⟨wr.heap.size, 0, none⟩ = some (.int .i64 rr) := by rw [cell_of_row _ _ _ _ _ _ r7]; rfl
      have k1 : V.cell? ⟨wr.heap.size, 1, none⟩ = some (.int .i64 id) := by rw [cell_of_row _ _ _ _ _ _ r7]; rfl
      have k2 : V.cell? ⟨wr.heap.size, 2, none⟩ = some (.slice aA nA cA) := by rw [cell_of_row _ _ _ _ _ _ r7]; rfl
      have cst := keeps_below HBA.out _ _ HST.out
      have hlo := HLO.out V HBA.out
      clear c0 c1 c2 HLO
      go_upto_region 6 with (go_at_call 52; refine hlo.mono ?_; rintro e w2 ⟨rfl, hb2⟩)
      have HB2 : Hid (Below wr.heap.size wr w2) := HBA.out.trans (hb2.mono HBA.out.size)
      have r72 := (hb2.block _ (lt_of_block r7)).trans r7
      have k0' : w2.cell? ⟨wr.heap.size, 0, none⟩ = some (.int .i64 rr) := by rw [cell_of_row _ _ _ _ _ _ r72]; rfl
      have k1' : w2.cell? ⟨wr.heap.size, 1, none⟩ = some (.int .i64 id) := by rw [cell_of_row _ _ _ _ _ _ r72]; rfl
      have k2' : w2.cell? ⟨wr.heap.size, 2, none⟩ = some (.slice aA nA cA) := by rw [cell_of_row _ _ _ _ _ _ r72]; rfl
      clear k0 k1 k2 cst hlo hb2 r7 HBA HST
      by_cases hzn : z = -1
      · have ez : (z != -1) = false := by simpa using hzn
        have HLN : Hid (leftG g ps = ((leftG g' (ps.drop (q + 1))).1, (dn ++ [pq]) ++ (leftG g' (ps.drop (q + 1))).2)) := by
          show _ = _
          rw [HLG.out, HDR.out, leftG, if_pos (by rw [← HZ.out]; exact hzn)]; simp
        have HIN : Hid (∃ A' : List PhiD, SInv all g' (A' ++ (ps.drop (q + 1) ++ C))) := by
          obtain ⟨A', h'⟩ := HIV.out
          rw [HDR.out] at h'
          exact ⟨A' ++ [pq], by simpa using h'⟩
        have hdl := HDL.out
        have hnb := HN.out
        clear hzn
        go_wp2_with (at_builtin; refine wpList_append_own _ rfl (.tmp 24) (.tmp 26) 70 rfl w.heap.size 86 iP _ 3 40 Tryd.underlying70 hiP hz0 hz1 hz2 rfl (by decide) _ _ _ rfl ((ownsRow_below HOW.out HB2.out).alloc _) ⟨_, 0, none⟩ 1 1 [.int .i64 rr, .int .i64 id, .slice aA nA cA] rfl rfl (news_list _ _ _ _ rfl) (by simp [Value.oneCell']) (by unfold maxLen; omega) (by omega) (by have := HGR.out.size; have := HB2.out.size; simp; omega) ?_; intro v2 w3 hown2 hg2 _)
        go_roundw
        case rel =>
          have hlt2 := HOW.out.lt
          have hw2 : w.grownBy w3 (some B) := gb_step (gb_step HGR.out (gb_below none (HB2.out.alloc HB2.out.size _)) (fun g e => by cases e)) hg2 (fun g e => (hlt2 g e).1)
          obtain ⟨D0, hM0, -⟩ := HG.out.map
          refine ⟨q + 1, g', dn ++ [pq], v2, by omega, by go_num, rfl, HLN.out, HIN.out, by have := HGL.out; omega, by simp; omega, ?_, ?_, hw2, keeps_map hM0 hw2⟩
          · rw [List.flatMap_append, List.length_append]
            simp only [List.flatMap_cons, List.flatMap_nil, List.append_nil, HPC.out]
            exact hown2
          · refine (HGO.out.below (HB2.out.alloc HB2.out.size _)).kept hg2 (fun e => ?_) (fun e => ?_)
            · have := (hlt2 _ e.symm).1; have := HG.out.ltR; omega
            · have := (hlt2 _ e.symm).1; have := HG.out.ltB; omega
        case measure => simp [intOf]; omega
      · have ez : (z != -1) = true := by simpa using hzn
        have hgo2 := HGO.out.below HB2.out
        obtain ⟨D, hM, hD⟩ := hgo2.map
        have cR := hgo2.cell
        have HD : Hid (GoneMap g' D) := hD
        have HCR : Hid (w2.cell? ⟨R, 0, none⟩ = some (.map (some B))) := cR
        have wfi := HFI.out.wf
        have wfz := HFL.out.wf
        have hzn2 : loneG g' pq.id (-1) pq.args ≠ -1 := by rw [← HZ.out]; exact hzn
        have HLN : Hid (leftG g ps = ((leftG (g' ++ [(pq.id, loneG g' pq.id (-1) pq.args)]) (ps.drop (q + 1))).1, dn ++ (leftG (g' ++ [(pq.id, loneG g' pq.id (-1) pq.args)]) (ps.drop (q + 1))).2)) := by
          show _ = _
          rw [HLG.out, HDR.out, leftG, if_neg hzn2]
        have HIN : Hid (∃ A' : List PhiD, SInv all (g' ++ [(pq.id, loneG g' pq.id (-1) pq.args)]) (A' ++ (ps.drop (q + 1) ++ C)) ∧ ∀ p ∈ g', p.1 ≠ pq.id) := by
          obtain ⟨A', h'⟩ := HIV.out
          rw [HDR.out] at h'
          refine ⟨A', h'.go HVAL.out hzn2, (h'.sub pq (by simp)).2⟩
        have hgl := HGL.out
        have hnb := HN.out
        clear hzn hzn2 hgo2 hD k0' k2'
        go_wp2_with (at_mapUpdate; refine wpList_mapUpdate_own _ rfl _ _ _ 82 rfl 3 3 mlaw Tryd.underlying82 (plainElem Tryd.prog 3) B g'.length D rfl hM (by unfold maxLen; omega) _ _ _ rfl rfl (Maps.keyOf_int_mk Tryd.underlying3 wfi) _ [] (plainElem_int Tryd.underlying3 wfz) ?_; intro w3 hown3 hg3)
        go_roundw
        case rel =>
          have hw2 : w.grownBy w3 (some B) := gb_trans (gb_step HGR.out (gb_below none HB2.out) (fun g e => by cases e)) hg3
          obtain ⟨D0, hM0, -⟩ := HG.out.map
          obtain ⟨A', hA1, hA2⟩ := HIN.out
          refine ⟨q + 1, g' ++ [(pq.id, loneG g' pq.id (-1) pq.args)], dn, v', by omega, by go_num, rfl, HLN.out, ⟨A', hA1⟩, by simp; omega, by have := HDL.out; omega, (ownsRow_below HOW.out HB2.out).kept hg3 (own_notmap (ownsRow_below HOW.out HB2.out) hM), ⟨keeps_map hM hg3 _ _ HCR.out, ⟨_, by simpa using hown3, ?_⟩, hA1.ok, ?_⟩, hw2, keeps_map hM0 hw2⟩
          · rw [HID.out, HZ.out]
            exact HD.out.add (hM.tidy mlaw) hA2
          · intro x hx
            rcases List.mem_append.1 hx with hx | hx
            · exact HGO.out.fit x hx
            · obtain rfl : x = _ := by simpa using hx
              have h1 := HFI.out
              have h2 := HFL.out
              rw [HID.out] at h1
              rw [HZ.out] at h2
              exact ⟨h1, h2⟩
        case measure => simp [intOf]; omega
    · obtain rfl : q = ps.length := by omega
      have HQ : leftG g ps = (g', dn) := by rw [HLG.out, List.drop_length]; simp [leftG]
      have HQ1 : Hid ((leftG g ps).2 = dn ∧ (leftG g ps).1 = g') := ⟨by rw [HQ], by rw [HQ]⟩
      clear HQ
      go_wp2
      go_ret
      exact HPOST.out _ _ ⟨v', rfl, by rw [HQ1.out.1]; exact HOW.out, by rw [HQ1.out.2]; exact HGO.out, HGR.out⟩
theorem PartsAt.keptM {w w' : World} {base g n B m : Nat} {D : PDat} {L : PLay} {M : Dat} (h : PartsAt w base g n D L) (hm : MapAt w B m M) (hg : w.grownBy w' (some B)) : PartsAt w' base g n D L :=
  h.kept hg fun q cs t e hh => by
    obtain ⟨es, cl, hh2, -⟩ := hm
    obtain rfl : B = q := by simpa using e
    rw [hh2] at hh
    exact absurd hh (by simp)
theorem GoneAt.keptP {w w' : World} {base g n R B m : Nat} {D : PDat} {L : PLay} {G : List (Int × Int)} (h : PartsAt w base g n D L) (hg : GoneAt w R B m G) (hr : w.grownBy w' (some B)) : PartsAt w' base g n D L := by
  obtain ⟨M, hM, -⟩ := hg.map
  exact h.keptM hM hr
end Go.Proofs.YtldbmdgpdolaaaaDoor
