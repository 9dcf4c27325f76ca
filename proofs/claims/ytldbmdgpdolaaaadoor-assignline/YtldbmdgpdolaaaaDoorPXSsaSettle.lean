import Derived.Deep.LoopGhost
import Derived.Laws.EntriesVeiled
import Derived.Test.YtldbmdgpdolaaaaDoorPGroupP
import Derived.Test.YtldbmdgpdolaaaaDoorPXPlaceMeet
import Derived.Test.YtldbmdgpdolaaaaDoorPXSsaLeft
namespace Go.Proofs.YtldbmdgpdolaaaaDoor
open Go Go.RowKit

theorem leftG_sub : ∀ (ps : List PhiD) (g : List (Int × Int)), ∀ p ∈ (leftG g ps).2, p ∈ ps
  | [], g, p, h => by simp [leftG] at h
  | x :: t, g, p, h => by
    rw [leftG] at h
    split at h
    · have h : p ∈ x :: (leftG g t).2 := h
      rcases List.mem_cons.1 h with rfl | h
      · exact List.mem_cons_self
      · exact List.mem_cons_of_mem _ (leftG_sub t g p h)
    · exact List.mem_cons_of_mem _ (leftG_sub t _ p h)
def phsOf (PH : Nat → List PhiD) (n : Nat) : List (List PhiD) := (List.range n).map PH
theorem phsOf_len (PH : Nat → List PhiD) (n : Nat) : (phsOf PH n).length = n := by simp [phsOf]
theorem phsOf_cons {PH : Nat → List PhiD} {n q : Nat} (hq : q < n) : (phsOf PH n).drop q = PH q :: (phsOf PH n).drop (q + 1) := by
  rw [List.drop_eq_getElem_cons (by rw [phsOf_len]; exact hq)]
  simp [phsOf]
theorem phsOf_upd {PH : Nat → List PhiD} {n q : Nat} (hq : q < n) (ps : List PhiD) : phsOf (upd PH q ps) n = (phsOf PH n).take q ++ ps :: (phsOf PH n).drop (q + 1) := by
  apply List.ext_getElem
  · simp [phsOf]; omega
  · intro i h1 h2
    have hi : i < n := by simpa [phsOf] using h1
    rcases Nat.lt_trichotomy i q with h | h | h
    · rw [List.getElem_append_left (by simp [phsOf]; omega)]
      simp [phsOf, upd_other PH (show i ≠ q by omega)]
    · subst h
      rw [List.getElem_append_right (by simp [phsOf]; omega)]
      simp [phsOf, upd_same, Nat.min_eq_left (Nat.le_of_lt hi)]
    · rw [List.getElem_append_right (by simp [phsOf]; omega)]
      have : i - ((phsOf PH n).take q).length = (i - q - 1) + 1 := by simp [phsOf]; omega
      simp only [this, List.getElem_cons_succ, List.getElem_drop]
      simp only [phsOf, List.getElem_map, List.getElem_range]
      rw [upd_other PH (by omega)]
      congr 1; omega
structure RMid (g0 : List (Int × Int)) (ps0 : List (List PhiD)) (n q : Nat) (g : List (Int × Int)) (PH : Nat → List PhiD) : Prop where
  eq : roundG g0 ps0 = ((roundG g ((phsOf PH n).drop q)).1, (phsOf PH n).take q ++ (roundG g ((phsOf PH n).drop q)).2)
theorem RMid.start (g0 : List (Int × Int)) (PH : Nat → List PhiD) (n : Nat) : RMid g0 (phsOf PH n) n 0 g0 PH := ⟨by rw [List.drop_zero, List.take_zero, List.nil_append]⟩
theorem RMid.step {g0 : List (Int × Int)} {ps0 : List (List PhiD)} {n q : Nat} {g : List (Int × Int)} {PH : Nat → List PhiD} (h : RMid g0 ps0 n q g PH) (hq : q < n) : RMid g0 ps0 n (q + 1) (leftG g (PH q)).1 (upd PH q (leftG g (PH q)).2) := by
  have e1 : (phsOf (upd PH q (leftG g (PH q)).2) n).drop (q + 1) = (phsOf PH n).drop (q + 1) := by
    rw [phsOf_upd hq, List.append_cons, List.drop_append_of_le_length (by simp [phsOf]; omega), List.drop_of_length_le (by simp [phsOf]; omega), List.nil_append]
  have e2 : (phsOf (upd PH q (leftG g (PH q)).2) n).take (q + 1) = (phsOf PH n).take q ++ [(leftG g (PH q)).2] := by
    rw [phsOf_upd hq, List.append_cons, List.take_append_of_le_length (by simp [phsOf]; omega), List.take_of_length_le (by simp [phsOf]; omega)]
  refine ⟨?_⟩
  rw [h.eq, e1, e2, phsOf_cons hq, roundG]
  simp
theorem RMid.done {g0 : List (Int × Int)} {ps0 : List (List PhiD)} {n : Nat} {g : List (Int × Int)} {PH : Nat → List PhiD} (h : RMid g0 ps0 n n g PH) : roundG g0 ps0 = (g, phsOf PH n) := by
  have hl := phsOf_len PH n
  rw [h.eq, List.drop_of_length_le (by omega), List.take_of_length_le (by omega)]
  simp [roundG]
def Owed (ps0 : List (List PhiD)) (z : Int) (g : List (Int × Int)) (ps : List (List PhiD)) : Prop :=
  (z < g.length → ∀ g' ps', SettleTo g ps g' ps' → SettleTo [] ps0 g' ps') ∧ (¬ z < g.length → SettleTo [] ps0 g ps)
theorem Owed.start (ps0 : List (List PhiD)) : Owed ps0 (-1) [] ps0 := ⟨fun _ g' ps' h => h, fun h => absurd (by decide) h⟩
theorem Owed.round {ps0 : List (List PhiD)} {z : Int} {g g1 : List (Int × Int)} {ps ps1 : List (List PhiD)} (h : Owed ps0 z g ps) (hz : z < g.length) (he : roundG g ps = (g1, ps1)) : Owed ps0 g.length g1 ps1 := by
  have e1 : (roundG g ps).1 = g1 := by rw [he]
  have e2 : (roundG g ps).2 = ps1 := by rw [he]
  refine ⟨fun hl g' ps' h' => h.1 hz g' ps' ?_, fun hl => ?_⟩
  · refine .on (by rw [e1]; omega) ?_
    rw [e1, e2]; exact h'
  · have hc := (roundG_count ps g).1
    rw [e1] at hc
    refine h.1 hz _ _ ?_
    have := SettleTo.stop (g := g) (ps := ps) (by rw [e1]; omega)
    rw [e1, e2] at this
    exact this
def owedN (z : Int) (g : List (Int × Int)) (ps : List (List PhiD)) : Nat := phisLen ps + if z < g.length then 1 else 0
theorem owed_less {z : Int} {g g1 : List (Int × Int)} {ps ps1 : List (List PhiD)} (hz : z < g.length) (he : roundG g ps = (g1, ps1)) : owedN g.length g1 ps1 < owedN z g ps := by
  have h2 := (roundG_count ps g).2.1
  have h1 := (roundG_count ps g).1
  rw [he] at h2 h1
  have h1 : g.length ≤ g1.length := h1
  have h2 : g1.length + phisLen ps1 = g.length + phisLen ps := h2
  unfold owedN
  rw [if_pos hz]
  split <;> omega
theorem sinv_left {all : List PhiD} (hv : ∀ p ∈ all, ∀ a ∈ p.args, a ≠ -1) {g : List (Int × Int)} {PH : Nat → List PhiD} {n q : Nat} (hq : q < n) (h : SInv all g (phsOf PH n).flatten) : SInv all (leftG g (PH q)).1 (phsOf (upd PH q (leftG g (PH q)).2) n).flatten := by
  have e : (phsOf PH n).flatten = ((phsOf PH n).take q).flatten ++ (PH q ++ ((phsOf PH n).drop (q + 1)).flatten) := by
    rw [← List.flatten_cons, ← phsOf_cons hq, ← List.flatten_append, List.take_append_drop]
  rw [e] at h
  have := SInv.left hv (PH q) g _ _ h
  rw [phsOf_upd hq, List.flatten_append, List.flatten_cons]
  exact this
theorem phisLen_at {PH : Nat → List PhiD} {n q : Nat} (hq : q < n) : (PH q).length ≤ phisLen (phsOf PH n) := by
  have e : phsOf PH n = (phsOf PH n).take q ++ PH q :: (phsOf PH n).drop (q + 1) := by rw [← phsOf_cons hq, List.take_append_drop]
  rw [e, phisLen, List.map_append, List.sum_append, List.map_cons, List.sum_cons]
  omega
theorem phisLen_upd {PH : Nat → List PhiD} {n q : Nat} (hq : q < n) (ps : List PhiD) : phisLen (phsOf (upd PH q ps) n) + (PH q).length = phisLen (phsOf PH n) + ps.length := by
  have e : phisLen (phsOf PH n) = phisLen ((phsOf PH n).take q ++ PH q :: (phsOf PH n).drop (q + 1)) := by rw [← phsOf_cons hq, List.take_append_drop]
  rw [e, phsOf_upd hq]
  simp only [phisLen, List.map_append, List.sum_append, List.map_cons, List.sum_cons]
  omega
def SettlePost (w : World) (base gp n : Nat) (D : PDat) (L : PLay) (e : Ending) (w' : World) : Prop :=
  ∃ R B g PH VP, e = .returned (standsV R) ∧ SettleTo [] (phsOf D.ph n) g (phsOf PH n) ∧ (phsOf PH n).flatten.length + g.length = phisLen (phsOf D.ph n) ∧ PartsAt w' base gp n { D with ph := PH } { L with vp := VP } ∧ GoneAt w' R B g.length g ∧ w'.heap[R]? = some (.cells #[.map (some B)] 82 (0, 0)) ∧ w.heap.size ≤ R ∧ w.heap.size ≤ B ∧ w.grownBy w' (some gp)
theorem flat_phisLen (ps : List (List PhiD)) : ps.flatten.length = phisLen ps := by rw [List.length_flatten]; rfl
set_option maxRecDepth 100000 in
set_option maxHeartbeats 4000000 in
theorem settle_any (w : World) (base gp n : Nat) (D : PDat) (L : PLay) (h : PartsAt w base gp n D L) (hbase : base ≤ w.heap.size) (hn : n ≤ 1000) (hK : phisLen (phsOf D.ph n) ≤ 50000) (hnd : (phsOf D.ph n).flatten.Pairwise (fun p q => p.id ≠ q.id)) (hfit : phiFit (phsOf D.ph n).flatten) :
    Calls Tryd.prog 29 #[.slice (some ⟨gp, 0, none⟩) n n] w (SettlePost w base gp n D L) := by
  have hmm := @run_makeMap Tryd.prog
  have hmf : ∀ (fn : Go.Fn) (first cap : Array Value) (w : World), (Instr.makeFunc fn first cap).run Tryd.prog w = .ok (.func fn first cap) w := fun _ _ _ _ => rfl
  have HPOST : Hid (∀ e w', (∃ R B g PH VP, e = .returned (standsV R) ∧ SettleTo [] (phsOf D.ph n) g (phsOf PH n) ∧ (phsOf PH n).flatten.length + g.length = phisLen (phsOf D.ph n) ∧ PartsAt w' base gp n { D with ph := PH } { L with vp := VP } ∧ GoneAt w' R B g.length g ∧ w'.heap[R]? = some (.cells #[.map (some B)] 82 (0, 0)) ∧ w.heap.size ≤ R ∧ w.heap.size ≤ B ∧ w.grownBy w' (some gp)) → SettlePost w base gp n D L e w') := fun e w' h => h
  obtain ⟨W3, hW3⟩ : ∃ W3, W3 = (((w.alloc (.map #[] 0)).alloc (.cells #[.map (some w.heap.size)] 82)).alloc (.cells #[standsV (w.heap.size + 1)] 59)) := ⟨_, rfl⟩
  have HGP : Hid (gp < w.heap.size) := (h.row.lt gp rfl).2
  have HB0 : Hid (Below w.heap.size w W3) := by rw [hW3]; exact (((Below.refl _ _).alloc (Nat.le_refl _) _).alloc (by simp) _).alloc (by simp; omega) _
  have HM0 : Hid (GoneAt W3 (w.heap.size + 1) w.heap.size 0 []) := by
    rw [hW3]
    refine ⟨?_, ⟨_, ((World.ownsMap_made w _ _ _).alloc _).alloc _, GoneMap.nil⟩, .nil, fun q hq => by cases hq⟩
    exact cell_alloc (by rw [cell_of_row _ _ _ _ _ _ (heap_alloc2_new _ _ _)]; rfl) _
  have HC0 : Hid (W3.cell? ⟨w.heap.size + 1 + 1, 0, none⟩ = some (standsV (w.heap.size + 1)) ∧ W3.heap[w.heap.size + 1]? = some (.cells #[.map (some w.heap.size)] 82 (0, 0))) := by
    rw [hW3, cell_of_row _ _ _ _ _ _ (heap_alloc3_newS _ _ _ _)]
    exact ⟨rfl, (heap_alloc_old _ _ (by simp)).trans (heap_alloc2_new _ _ _)⟩
  have HP0 : Hid (PartsAt W3 base gp n { D with ph := D.ph } { L with vp := L.vp }) := h.below HB0.out
  have HND : Hid (SInv (phsOf D.ph n).flatten [] (phsOf D.ph n).flatten) := SInv.new hnd
  have HFIT : Hid (phiFit (phsOf D.ph n).flatten) := hfit
  have HVAL : Hid (∀ p ∈ (phsOf D.ph n).flatten, ∀ a ∈ p.args, a ≠ -1) := fun p hp a ha => ((hfit p hp).2 a ha).2
  have HK : Hid (phisLen (phsOf D.ph n) ≤ 50000) := hK
  have HBS : Hid (base ≤ w.heap.size) := hbase
  clear hnd hfit hK h hbase
  go_enter Tryd.func29, Tryd.ntmps29
  go_upto_region 5 with fail
  rw [show (((w.alloc (.map #[] 0)).alloc (.cells #[.map (some w.heap.size)] 82)).alloc (.cells #[standsV (w.heap.size + 1)] 59)) = W3 from hW3.symm]
  clear hW3 hmm hmf
  have HGL : Hid (w.heap.size = w.heap.size) := rfl
  generalize hRs : w.heap.size + 1 + 1 = Rs at *
  generalize hR : w.heap.size + 1 = R at *
  obtain ⟨B, hB⟩ : ∃ B, w.heap.size = B := ⟨_, rfl⟩
  rw [hB] at HB0 HM0 hR HGP HC0
  have HBE : Hid (w.heap.size = B ∧ R = B + 1 ∧ Rs = B + 1 + 1) := ⟨hB, by omega, by omega⟩
  have hnI : (n : Int) ≤ 1000 := by omega
  clear hRs hR hB HGL
  go_loopg [6] (owedN (-1) [] (phsOf D.ph n)) (fun m bz wr => ∃ (z : Int) (g : List (Int × Int)) (PH : Nat → List PhiD) (VP : Nat → Value), m = owedN z g (phsOf PH n) ∧ bz = .int .i64 z ∧ z ≤ g.length ∧ Owed (phsOf D.ph n) z g (phsOf PH n) ∧ SInv (phsOf D.ph n).flatten g (phsOf PH n).flatten ∧ phisLen (phsOf PH n) + g.length = phisLen (phsOf D.ph n) ∧ PartsAt wr base gp n { D with ph := PH } { L with vp := VP } ∧ GoneAt wr R B g.length g ∧ (wr.cell? ⟨Rs, 0, none⟩ = some (standsV R) ∧ wr.heap[R]? = some (.cells #[.map (some B)] 82 (0, 0))) ∧ w.grownBy wr (some gp))
  case atStart => exact ⟨-1, [], D.ph, L.vp, rfl, rfl, by simp, Owed.start _, HND.out, rfl, HP0.out, HM0.out, HC0.out, gb_below (some gp) (by rw [HBE.out.1]; exact HB0.out)⟩
  case round =>
    obtain ⟨z, g, PH, VP, hm', rfl, hzg, how, hin, hcn, hpa, hgo, hcs, hgr⟩ := hrel
    have HM : Hid (gk = owedN z g (phsOf PH n)) := hm'
    have HOW : Hid (Owed (phsOf D.ph n) z g (phsOf PH n)) := how
    have HIN : Hid (SInv (phsOf D.ph n).flatten g (phsOf PH n).flatten) := hin
    have HCN : Hid (phisLen (phsOf PH n) + g.length = phisLen (phsOf D.ph n)) := hcn
    have HPA : Hid (PartsAt wr base gp n { D with ph := PH } { L with vp := VP }) := hpa
    have HGO : Hid (GoneAt wr R B g.length g) := hgo
    have HCS : Hid (wr.cell? ⟨Rs, 0, none⟩ = some (standsV R) ∧ wr.heap[R]? = some (.cells #[.map (some B)] 82 (0, 0))) := hcs
    have HGR : Hid (w.grownBy wr (some gp)) := hgr
    have cR := hgo.cell
    obtain ⟨Dm, hM, hD⟩ := hgo.map
    have hsz := hD.size
    have hgl : (g.length : Int) ≤ 50000 := by have := HK.out; omega
    clear hm' how hin hcn hpa hgo hgr hD
    by_cases hlt : z < g.length
    · have HLT : Hid (z < g.length) := hlt
      go_upto_region 8 with (at_len; refine wpList_len_own _ rfl _ 82 rfl 3 3 Tryd.underlying82 _ B _ Dm rfl hM ?_)
      clear cR hM hsz hcs
      go_loopw [19] (fun i wi => ∃ (q : Nat) (g' : List (Int × Int)) (PH' : Nat → List PhiD) (VP' : Nat → Value), q ≤ n ∧ i = .int .i64 q ∧ RMid g (phsOf PH n) n q g' PH' ∧ SInv (phsOf D.ph n).flatten g' (phsOf PH' n).flatten ∧ phisLen (phsOf PH' n) + g'.length = phisLen (phsOf D.ph n) ∧ PartsAt wi base gp n { D with ph := PH' } { L with vp := VP' } ∧ GoneAt wi R B g'.length g' ∧ (wi.cell? ⟨Rs, 0, none⟩ = some (standsV R) ∧ wi.heap[R]? = some (.cells #[.map (some B)] 82 (0, 0))) ∧ w.grownBy wi (some gp)) (fun i _ => n - (intOf i).toNat)
      case atStart => exact ⟨0, g, PH, VP, Nat.zero_le _, rfl, RMid.start _ _ _, HIN.out, HCN.out, HPA.out, HGO.out, HCS.out, HGR.out⟩
      case round =>
        obtain ⟨q, g', PH', VP', hq, rfl, hmid, hin, hcn, hpa, hgo, hcs, hgr⟩ := hrel
        rename World => wi
        have HMI : Hid (RMid g (phsOf PH n) n q g' PH') := hmid
        have HIN' : Hid (SInv (phsOf D.ph n).flatten g' (phsOf PH' n).flatten) := hin
        have HCN' : Hid (phisLen (phsOf PH' n) + g'.length = phisLen (phsOf D.ph n)) := hcn
        have HPA' : Hid (PartsAt wi base gp n { D with ph := PH' } { L with vp := VP' }) := hpa
        have HGO' : Hid (GoneAt wi R B g'.length g') := hgo
        have HCS' : Hid (wi.cell? ⟨Rs, 0, none⟩ = some (standsV R) ∧ wi.heap[R]? = some (.cells #[.map (some B)] 82 (0, 0))) := hcs
        have HGR' : Hid (w.grownBy wi (some gp)) := hgr
        clear hmid hin hcn hgr
        by_cases hlt : q < n
        · have hqI : (q : Int) < (n : Int) := by omega
          have cP := hpa.cellP hlt
          have hpl := phisLen_at (PH := PH') hlt
          have hleft : Calls Tryd.prog 51 #[VP' q, .pointer (some ⟨Rs, 0, none⟩), .pointer (some ⟨R, 0, none⟩)] wi (LeftPost wi R B L.va q g' (PH' q)) := by
            refine left_any (all := (phsOf D.ph n).flatten) wi hgo hcs.1 (VP' q) L.va q (PH' q) (ownsRow_monoR (hpa.phis.own q hlt) (Nat.zero_le _)) (fun p hp => ?_) HFIT.out (((phsOf PH' n).take q).flatten) (((phsOf PH' n).drop (q + 1)).flatten) ?_ (by have := HK.out; have := HCN'.out; omega)
            · obtain ⟨h1, h2⟩ := hpa.fit q hlt p hp
              have := ints_of_own (hpa.args.own (12 * q + p.reg) (by omega))
              rw [← h2]; exact this
            · have e : (phsOf PH' n).flatten = ((phsOf PH' n).take q).flatten ++ (PH' q ++ ((phsOf PH' n).drop (q + 1)).flatten) := by
                rw [← List.flatten_cons, ← phsOf_cons hlt, ← List.flatten_append, List.take_append_drop]
              rw [← e]; exact HIN'.out
          have HCP : Hid (wi.cell? ⟨gp, q * 15 + 1, none⟩ = some (VP' q)) := cP
          clear hpl hpa hgo hcs
          go_wp2_with (go_at_call 51; refine hleft.mono ?_; rintro e w2 hp; obtain ⟨v2, rfl, ho2, hg2, hgr2⟩ := hp; have hp2 := GoneAt.keptP HPA'.out HGO'.out hgr2; have cP2 := hp2.cellP hlt; have fP2 := hp2.row.frozenAt (q * 15 + 1); obtain ⟨ao2, c2, rfl⟩ := own_shape ho2)
          go_roundw
          case rel =>
            have hzi : B ≤ wi.heap.size := Nat.le_of_lt HGO'.out.ltB
            have hbw : base ≤ wi.heap.size := Nat.le_trans HBS.out (by rw [HBE.out.1]; exact hzi)
            obtain ⟨s1, s2⟩ := hp2.setP (b := q) hlt (v := .slice ao2 (leftG g' (PH' q)).2.length c2) (ps := (leftG g' (PH' q)).2) (ownsRow_monoR ho2 hbw) (fun x hx j hj _ => fun e => by have h1 := (ho2.lt x hx).1; have h2 := ((HPA'.out.phis.own j hj).lt x e).2; omega) (fun p hp => leftG_sub _ _ p hp)
            have hR2 : R ≠ gp := by have := HBE.out; have := HGP.out; omega
            have hB2 : B ≠ gp := by have := HGP.out; omega
            have hwB : w.heap.size ≤ B := Nat.le_of_eq HBE.out.1
            have hw2 : w.grownBy (w2.setCell ⟨gp, q * 15 + 1, none⟩ (.slice ao2 (leftG g' (PH' q)).2.length c2)) (some gp) := gb_trans (gb_step HGR'.out hgr2 (fun x hx => (Option.some.inj hx) ▸ hwB)) s2
            refine ⟨q + 1, (leftG g' (PH' q)).1, upd PH' q (leftG g' (PH' q)).2, upd VP' q (.slice ao2 (leftG g' (PH' q)).2.length c2), by omega, by go_num, HMI.out.step hlt, sinv_left HVAL.out hlt HIN'.out, ?_, s1, hg2.kept s2 (by simpa using hR2) (by simpa using hB2), ?_, hw2⟩
            · have h1 := phisLen_upd (PH := PH') hlt (leftG g' (PH' q)).2
              have h2 := (leftG_count (PH' q) g').2
              have h3 := HCN'.out
              omega
            · have hRs : Rs ≠ gp := by have := HBE.out; have := HGP.out; omega
              have hrb : Rs ≠ B := by have := HBE.out; omega
              have hrb2 : R ≠ B := by have := HBE.out; omega
              have k1 := (hgr2.block R (lt_of_block HCS'.out.2) (by simpa using hrb2)).trans HCS'.out.2
              exact ⟨s2.cell (hgr2.cell HCS'.out.1 (by simpa using hrb)) (by simpa using hRs), (s2.block R (lt_of_block k1) (by simpa using hR2)).trans k1⟩
          case measure => simp [intOf]; omega
        · obtain rfl : q = n := by omega
          have hdn := HMI.out.done
          have HX : Hid (Owed (phsOf D.ph q) g.length g' (phsOf PH' q)) := HOW.out.round HLT.out hdn
          have HY : Hid (owedN g.length g' (phsOf PH' q) < owedN z g (phsOf PH q)) := owed_less HLT.out hdn
          have HZ : Hid (g.length ≤ g'.length) := by have := (roundG_count (phsOf PH q) g).1; rw [hdn] at this; exact this
          clear hdn hpa hcs
          go_wp2
          go_roundg (owedN g.length g' (phsOf PH' q))
          case measure => rw [HM.out]; exact HY.out
          case rel => exact ⟨g.length, g', PH', VP', rfl, rfl, by have := HZ.out; omega, HX.out, HIN'.out, HCN'.out, HPA'.out, HGO'.out, HCS'.out, HGR'.out⟩
    · have HX : Hid (SettleTo [] (phsOf D.ph n) g (phsOf PH n)) := HOW.out.2 hlt
      replace hcs := hcs.1
      go_wp2_with (at_len; refine wpList_len_own _ rfl _ 82 rfl 3 3 Tryd.underlying82 _ B _ Dm rfl hM ?_)
      go_ret
      exact HPOST.out _ _ ⟨R, B, g, PH, VP, rfl, HX.out, by rw [flat_phisLen]; exact HCN.out, HPA.out, HGO.out, HCS.out.2, by have := HBE.out; omega, by have := HBE.out; omega, HGR.out⟩
end Go.Proofs.YtldbmdgpdolaaaaDoor
