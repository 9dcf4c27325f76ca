/- Contract of tierlinelaw.programs: it answers a program of new memory that reads as the one that was handed in, and nothing that was there has turned. -/
import Derived.Test.YtiaammieldfkcaaDoorProg
import Derived.Test.YtiaammieldfkcaaDoorGroupA
namespace Go.Proofs.YtiaammieldfkcaaDoor
open Go Go.RowKit

set_option maxRecDepth 100000 in
set_option maxHeartbeats 1000000 in
theorem programs_any (p : List Fn) (v : Value) (w : World) (hv : ProgVal w v p) (hs : p.length * 40 ≤ 140737488355328) (hs' : ∀ f ∈ p, f.code.length * 40 ≤ 140737488355328) :
    Calls Tryd.prog 9 #[.agg #[v]] w fun e w' => ∃ v', e = .returned (.agg #[v']) ∧ ProgVal w' v' p ∧ Below w.heap.size w w' := by
  obtain ⟨ao, b, off, n, cap, rfl, ⟨hlen, haddr, hat⟩, hcap, hmax⟩ := hv
  have HL : Hid (p.length = n) := hlen
  obtain ⟨iF, hiF, hzF0, hzF1, hzF2⟩ := info_parts infoF
  obtain ⟨iI, hiI, hzI0, hzI1, hzI2⟩ := info_parts infoI
  have h47 : n * 40 ≤ 140737488355328 := by rw [← hlen]; exact hs
  clear hlen hs
  go_enter Tryd.func9, Tryd.ntmps9
  go_wp2_with fail
  go_loopw [4] (fun i wr => ∃ k : Nat, k ≤ n ∧ i = .int .i64 k ∧ Below (w.heap.size + 2) (((w.alloc (.cells #[.slice ao n cap] 24)).alloc (.cells #[.slice none 0 0] 24)).alloc (.cells #[.slice none 0 0] 24)) wr ∧
      ∃ vo us, wr.heap[w.heap.size + 1 + 1]? = some (.cells #[vo] 24 (0, 0)) ∧ Built wr (w.heap.size + 3) 49 66 vo (p.take k) us) (fun i _ => n - (intOf i).toNat)
  case atStart => exact ⟨0, Nat.zero_le _, rfl, Below.refl _ _, .slice none 0 0, [], by
    have := heap_alloc_new ((w.alloc (.cells #[.slice ao n cap] 24)).alloc (.cells #[.slice none 0 0] 24)) (.cells #[.slice none 0 0] 24)
    simpa only [World.size_alloc] using this, built_nil _ _ _ _⟩
  case round =>
    obtain ⟨k, hk, rfl, hb, vo, us, ho, hbt⟩ := hrel
    have hbw : Below w.heap.size w wr := ((((Below.refl _ _).alloc (Nat.le_refl _) _).alloc (by simp) _).alloc (by simp; omega) _).trans (hb.mono (by omega))
    have c0 : wr.cell? ⟨w.heap.size, 0, none⟩ = some (.slice ao n cap) := (hb.cell (p := ⟨w.heap.size, 0, none⟩) (by simp)).trans (cell_alloc (cell_alloc (by simp) _) _)
    have co := cell_of_one ho
    have cf := free_of_one ho
    have hz : w.heap.size + 1 + 1 < wr.heap.size := lt_of_block ho
    by_cases hlt : k < n
    · have hkx : k < p.length := by rw [HL.out]; exact hlt
      obtain rfl := haddr (by omega)
      obtain ⟨u, hfn⟩ := hat k hkx
      obtain ⟨d0, d1, d2, hu⟩ := hfn.keeps (keeps_below hbw)
      have hsk := hs' p[k] (List.getElem_mem hkx)
      have htk : p.take (k + 1) = p.take k ++ [p[k]] := by rw [List.take_succ_eq_append_getElem hkx]
      generalize hx : p[k] = x at d0 d1 d2 hu hsk htk
      obtain ⟨params, regs, xs⟩ := x
      obtain ⟨ao1, b1, off1, n1, cap1, rfl, hci, hcap1, hmax1⟩ := hu
      dsimp only at d0 d1 d2 hci hsk
      have hlen1 := hci.len
      have hcc := codeIn_cells hci
      have HB : Hid (Below (w.heap.size + 2) (((w.alloc (.cells #[.slice (some ⟨b, off, none⟩) n cap] 24)).alloc (.cells #[.slice none 0 0] 24)).alloc (.cells #[.slice none 0 0] 24)) wr) := hb
      have HT : Hid (p.take (k + 1) = p.take k ++ [⟨params, regs, xs⟩]) := htk
      have HBT : Hid (Built wr (w.heap.size + 3) 49 66 vo (p.take k) us) := hbt
      have HO : Hid (wr.heap[w.heap.size + 1 + 1]? = some (.cells #[vo] 24 (0, 0))) := ho
      have HCA : Hid (∀ o, ∀ ad, ao1 = some ad → ∀ j u, (codeCells xs)[j]? = some u → (wr.alloc o).cell? (ad.add j) = some u) := fun o ad ha j u hj => by
        have hpos : 0 < n1 := by
          rw [← hci.len]
          rcases Nat.eq_zero_or_pos xs.length with h0 | h0
          · rw [List.length_eq_zero_iff.1 h0] at hj; simp [codeCells] at hj
          · exact h0
        obtain rfl : ad = ⟨b1, off1, none⟩ := Option.some.inj (ha.symm.trans (hci.addr hpos))
        exact cell_alloc (hcc j u hj) o
      have HNN : Hid (ao1 = none → n1 = 0 ∧ cap1 = 0) := fun h => ⟨by have := hcap1.2 h; have := hcap1.1; omega, hcap1.2 h⟩
      have HLX : Hid (xs.length = n1) := hlen1
      have hsn : n1 * 40 ≤ 140737488355328 := by rw [← hlen1]; exact hsk
      have HK1 : Hid ((p.take k).length + 1 ≤ maxLen) := by show _ ≤ _; simp only [List.length_take, maxLen]; omega
      have HK2 : Hid (((p.take k).length + 1) * 40 ≤ 140737488355328) := by show _ ≤ _; simp only [List.length_take]; omega
      clear hat haddr hx hb hfn htk hbt ho hci hs' hsk hlen1 hcc
      go_wp2_with (first
        | (at_builtin; refine wpList_append_slice rfl (.const (.slice none 0 0)) (.tmp 19) 47 rfl (w.heap.size + 3) 66 iI _ 5 40 Tryd.underlying47 hiI hzI0 hzI1 hzI2 rfl (by decide) (.slice none 0 0) 0 [] rfl (World.ownsRow_nil _ _ _ _) ao1 n1 cap1 (codeCells xs) rfl HNN.out (by rw [codeCells_length, HLX.out]) (HCA.out _) (codeCells_one xs) (by unfold maxLen; omega) (by omega) (by simp; omega) ?_; intro u1 w1 hown1 hg1; simp only [Nat.zero_add, List.nil_append] at hown1; obtain ⟨ao2, cap2, rfl⟩ := own_shape hown1; have hb1 := below_grown hg1; have k0 : w1.cell? ⟨wr.heap.size, 0, none⟩ = some (.int .i64 params) := (hb1.cell (p := ⟨wr.heap.size, 0, none⟩) (by simp)).trans (by simp); have k1 : w1.cell? ⟨wr.heap.size, 1, none⟩ = some (.int .i64 regs) := (hb1.cell (p := ⟨wr.heap.size, 1, none⟩) (by simp)).trans (by simp); have k2 : w1.cell? ⟨wr.heap.size, 2, none⟩ = some (.slice ao1 n1 cap1) := (hb1.cell (p := ⟨wr.heap.size, 2, none⟩) (by simp)).trans (by simp); have kf : w1.frozen? ⟨wr.heap.size, 2, none⟩ = false := (hb1.frozen (p := ⟨wr.heap.size, 2, none⟩) (by simp)).trans (by simp); have ko : w1.cell? ⟨w.heap.size + 1 + 1, 0, none⟩ = some vo := (hb1.cell (p := ⟨w.heap.size + 1 + 1, 0, none⟩) (by simp; omega)).trans (cell_alloc co _); have kz : wr.heap.size < w1.heap.size := by (have := hb1.size; simp at this; omega))
        | (at_builtin; refine wpList_append_own _ rfl (.tmp 23) (.tmp 25) 22 rfl (w.heap.size + 3) 49 iF _ 3 40 Tryd.underlying22 hiF hzF0 hzF1 hzF2 rfl (by decide) vo (p.take k).length (fnsCells (p.take k) us) rfl ((HBT.out.below ((((Below.refl _ _).alloc (Nat.le_refl _) _).trans (hb1.mono (by simp))).setCell (Nat.le_refl _) _)).alloc _).row ⟨w1.heap.size, 0, none⟩ 1 1 (fnCells ⟨params, regs, xs⟩ (.slice ao2 n1 cap2)) rfl rfl (news_three _ _ _ _ _ _ (by simp)) (fnCells_one _ _ _ _) HK1.out HK2.out (by simp; omega) ?_; intro v3 w3 hown3 hg3 _; obtain ⟨ao3, cap3, rfl⟩ := own_shape hown3; have R := built_step (f := ⟨params, regs, xs⟩) (by decide) (by omega) hz HBT.out HO.out hg1 (by rw [HLX.out]; exact hown1) hg3 hown3; have ho3 := R.1; have co3 := cell_of_one ho3; have cf3 := free_of_one ho3))
      rw [List.length_take] at R
      have HR := R
      go_roundw
      case rel => exact ⟨k + 1, by omega, by go_num, HR.2.2.2 _ _ (by omega) HB.out, _, _, HR.2.2.1, by rw [HT.out]; exact HR.2.1⟩
      case measure => simp [intOf]; omega
    · have htk : p.take k = p := List.take_of_length_le (by rw [HL.out]; omega)
      rw [htk] at hbt
      obtain ⟨ao3, cap3, rfl⟩ := own_shape hbt.row
      have hbr : Below w.heap.size w wr := hbw
      have HP : Hid (∀ a, a.block < w.heap.size + 3 → ∀ u, ProgVal (wr.setCell a u) (.slice ao3 p.length cap3) p) := fun a ha u => (hbt.setCell ha u).prog
      have g1 : wr.heap[w.heap.size + 1]? = some (.cells #[.slice none 0 0] 24 (0, 0)) := (hb.block _ (by omega)).trans ((heap_alloc_old _ _ (by simp)).trans (by
        have := heap_alloc_new (w.alloc (.cells #[.slice ao n cap] 24)) (.cells #[.slice none 0 0] 24)
        simpa only [World.size_alloc] using this))
      have c1 := cell_of_one g1
      have f1 := free_of_one g1
      clear hat haddr hb htk hbt hs' g1
      go_wp2
      exact bodyPost_ret (v := .agg #[.slice ao3 p.length cap3]) (by simp [results, Tryd.results9, go_sem, c1]) rfl ⟨_, rfl, HP.out ⟨w.heap.size + 1, 0, none⟩ (by simp) _, hbr.setCell (by simp) _⟩

end Go.Proofs.YtiaammieldfkcaaDoor
