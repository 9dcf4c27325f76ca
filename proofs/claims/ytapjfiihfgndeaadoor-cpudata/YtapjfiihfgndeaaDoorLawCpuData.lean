/- The walk of tierlinekeep.CpuData (written by gen/mkcpudata.py): at all numbers it says true, and nothing that was there has turned. -/
import Derived.Test.YtapjfiihfgndeaaDoorCpuIs
import Derived.ChangeKeysEq
import Derived.Laws.StructEq
namespace Go.Proofs.YtapjfiihfgndeaaDoor
open Go Go.RowKit

theorem plain_int_cpu : Tryd.prog.plainKey 3 = true := by kernel_rfl
theorem cells_int_cpu : Tryd.prog.cellsOf 3 = 1 := by kernel_rfl
theorem equal_items_cpu (d : Nat) (l : List Int) (w : World) : ∀ is : List Nat, (∀ i ∈ is, i < l.length) → (Op.eqItems (d + 1) 3 1 (i64s l).toArray (i64s l).toArray is).run Tryd.prog w = .ok true w := by
  intro is
  induction is with
  | nil => intro _; simp [Op.eqItems]
  | cons i is ih =>
    intro h
    have hi : i < l.length := h i (List.mem_cons_self)
    have hg : (i64s l).toArray[i * 1]? = some (.int .i64 l[i]) := by simp [i64s, hi]
    simp only [Op.eqItems, Sem.run_bind, run_part_plain w plain_int_cpu hg, Result.andThen_ok, run_equalIn_int w d 3 .i64 .i64 l[i] l[i] Tryd.underlying3]
    simp
    exact ih (fun j hj => h j (List.mem_cons_of_mem _ hj))
theorem equal_ints_cpu (t : TypeId) (l : List Int) (d : Nat) (w : World) (hu : Tryd.prog.underlying t = some (.array l.length 3)) : (Op.equalIn (d + 2) t (.agg (i64s l).toArray) (.agg (i64s l).toArray)).run Tryd.prog w = .ok true w := by
  obtain ⟨i, hi, _⟩ := info_parts info64
  rw [run_equalIn_array w (d + 1) _ _ hu hi, cells_int_cpu]
  exact equal_items_cpu d l w _ (fun j hj => by simpa using hj)
theorem wpList_load_wantedR {P : Program} {ops : Array Oper} {rest : List Oper} {o : Oper} {a : Act} {w : World} {Q : Exit → Act → World → Prop} (hw : Region.wanted o (yielded ops a.tmps) = true) (ty : TypeId) (x : Operand) (ho : o.op = .load ty x)
    (g : Nat) (hx : a.eval x = .pointer (some ⟨g, 0, none⟩)) (t : TypeId) (cs : Array Value) (fr : Nat × Nat) (d : TypeDesc) (hg : w.heap[g]? = some (.cells cs t fr))
    (hu : P.underlying ty = some d) (hd : (match d with | .struct _ | .array _ _ => true | _ => false) = true) (hi : (P.info? ty).map (·.size) = some cs.size)
    (h : wpList P ops Q rest (a.put o.dst (.agg cs)) w) : wpList P ops Q (o :: rest) a w := by
  simp only [wpList, hw, if_true]
  exact Or.inl (wp_load_row ty x ho g hx t cs fr d hg hu hd hi h)
theorem wpList_load_mid_wanted {P : Program} {ops : Array Oper} {rest : List Oper} {o : Oper} {a : Act} {w : World} {Q : Exit → Act → World → Prop} (hw : Region.wanted o (yielded ops a.tmps) = true) (ty : TypeId) (x : Operand) (ho : o.op = .load ty x)
    (b f : Nat) (hx : a.eval x = .pointer (some ⟨b, f, none⟩)) (cs : List Value) (d : TypeDesc) (hc : w.rangeAt b f cs)
    (hu : P.underlying ty = some d) (hd : d.isRow = true) (hi : (P.info? ty).map (·.size) = some cs.length)
    (h : wpList P ops Q rest (a.put o.dst (.agg cs.toArray)) w) : wpList P ops Q (o :: rest) a w := by
  simp only [wpList, hw, if_true]
  exact Or.inl (wp_load_mid ty x ho b f hx cs d hc hu hd hi h)
theorem data_ok : ∀ z ∈ ([⟨21, 0, 5, 6, -8⟩, ⟨20, 7, 5, 0, -8⟩, ⟨29, 0, 0, 0, 0⟩] : List Mi), MiOk z := by
  intro z hz
  simp only [List.mem_cons, List.not_mem_nil, or_false] at hz
  rcases hz with rfl | rfl | rfl
  all_goals exact ⟨by decide, by decide, by decide⟩
theorem data_run (k : Nat) (hk : k < 64) (n : Int) : ∃ D : Cp, runAns (([⟨21, 0, 5, 6, -8⟩, ⟨20, 7, 5, 0, -8⟩, ⟨29, 0, 0, 0, 0⟩] : List Mi).map wordI) ((zeroCp.set 5 (8 * (k : Int) + 8)).set 6 n) 9 = (D, 3, 0) ∧ D.Ok ∧ D.reg 7 = n ∧ D.data = noData.set k n := by
  have ok := data_ok
  obtain ⟨ws, hws⟩ : ∃ ws, ws = ([⟨21, 0, 5, 6, -8⟩, ⟨20, 7, 5, 0, -8⟩, ⟨29, 0, 0, 0, 0⟩] : List Mi).map wordI := ⟨_, rfl⟩
  have hC := (zero_ok.set 5 (8 * (k : Int) + 8)).set 6 n
  have h0 := Is.begun hC rfl rfl
  have f5 : (((zeroCp.set 5 (8 * (k : Int) + 8)).set 6 n)).reg 5 = 8 * (k : Int) + 8 := by rw [reg_set (zero_ok.set _ _) n (by decide) (by decide) (by decide), if_neg (by decide), reg_set zero_ok _ (by decide) (by decide) (by decide), if_pos rfl]
  have f6 : (((zeroCp.set 5 (8 * (k : Int) + 8)).set 6 n)).reg 6 = n := by rw [reg_set (zero_ok.set _ _) n (by decide) (by decide) (by decide), if_pos rfl]
  obtain ⟨c1, e1, h1⟩ := is_sd (ws := ws) h0 5 6 (-8) k hk (by simp [f5]; omega) (by rw [hws]; rfl) (ok _ (by simp))
  obtain ⟨c2, e2, h2⟩ := is_ld (ws := ws) h1 7 5 (-8) k hk (by simp [f5]; omega) (by rw [hws]; rfl) (ok _ (by simp))
  obtain ⟨D, e3, hD, hr, hp, hh, hd⟩ := is_end (ws := ws) h2 6 2 (by rw [hws]; rfl)
  have hdat : (((zeroCp.set 5 (8 * (k : Int) + 8)).set 6 n)).data = noData := rfl
  refine ⟨D, ?_, hD, ?_, ?_⟩
  · rw [← hws, show (9 : Int) = ((9 : Nat) : Int) from rfl, runAns_eq 9 (by rw [hws]; simp) (by decide), e1, e2, e3]; rfl
  · rw [hr 7 (by decide) (by decide)]
    simp [upd, f6, hdat, noData, List.getD, hk]
  · rw [hd, hdat]; simp [f6]
theorem data_bad (k : Nat) (n b : Int) (b0 : -100 ≤ b) (b1 : b ≤ 1099511627776) (hb : isW b = false) : runAns (([⟨21, 0, 5, 6, -8⟩, ⟨20, 7, 5, 0, -8⟩, ⟨29, 0, 0, 0, 0⟩] : List Mi).map wordI) (((zeroCp.set 5 (8 * (k : Int) + 8)).set 6 n).set 5 (8 + b)) 9 = (zeroCp, 0, 2) := by
  have ok := data_ok
  have hC := ((zero_ok.set 5 (8 * (k : Int) + 8)).set 6 n).set 5 (8 + b)
  have h0 := Is.begun hC rfl rfl
  have f5 : (((zeroCp.set 5 (8 * (k : Int) + 8)).set 6 n).set 5 (8 + b)).reg 5 = 8 + b := by rw [reg_set ((zero_ok.set _ _).set _ _) _ (by decide) (by decide) (by decide), if_pos rfl]
  have he : doE ⟨21, 0, 5, 6, -8⟩ (8 + b) = 2 := by
    unfold doE
    dsimp only
    rw [if_pos (Or.inr rfl), wrap64_small _ (by omega) (by omega), show 8 + b + -8 = b by omega, hb]; rfl
  have := is_bad (ws := ([⟨21, 0, 5, 6, -8⟩, ⟨20, 7, 5, 0, -8⟩, ⟨29, 0, 0, 0, 0⟩] : List Mi).map wordI) h0 ⟨21, 0, 5, 6, -8⟩ 8 0 rfl (ok _ (by simp)) (by simp [f5, he])
  rw [show (9 : Int) = ((9 : Nat) : Int) from rfl, runAns_eq 9 (by simp) (by decide)]
  simp only [f5, show ¬ (5 : Int) = 0 by decide, if_false] at this
  rw [this, he]
theorem bads_at (i : Nat) (hi : i < 6) : ∃ b : Int, ([-8, 512, 4, 1, -1, 1099511627776] : List Int)[i]? = some b ∧ -100 ≤ b ∧ b ≤ 1099511627776 ∧ isW b = false := by
  rcases (show i = 0 ∨ i = 1 ∨ i = 2 ∨ i = 3 ∨ i = 4 ∨ i = 5 by omega) with rfl | rfl | rfl | rfl | rfl | rfl
  all_goals exact ⟨_, rfl, by decide, by decide, by decide⟩

set_option maxRecDepth 100000 in
set_option maxHeartbeats 4000000 in
theorem cpuData_at (x n y : Int) (k i : Nat) (b : Int) (hk : k < 64) (hi : i < 6) (hpx : pickB x 64 = (k : Int)) (hpy : pickB y 6 = (i : Int)) (hb : ([-8, 512, 4, 1, -1, 1099511627776] : List Int)[i]? = some b) (b0 : -100 ≤ b) (b1 : b ≤ 1099511627776) (hw : isW b = false) (hx : Fits x) (hy : Fits y) (w : World) (ht : RvTab w) :
    Calls Tryd.prog 7 #[.int .i64 x, .int .i64 n, .int .i64 y] w fun e w' => e = .returned (.bool true) ∧ Below w.heap.size w w' := by
  have hpr := fun w => picked_big x 64 w hx (by decide)
  have hpq := fun w => picked_big y 6 w hy (by decide)
  rw [hpx] at hpr
  rw [hpy] at hpq
  obtain ⟨D, hR, hD, d7, dd⟩ := data_run k hk n
  have hR2 := data_bad k n b b0 b1 hw
  have HOK : Hid (∀ z ∈ ([⟨21, 0, 5, 6, -8⟩, ⟨20, 7, 5, 0, -8⟩, ⟨29, 0, 0, 0, 0⟩] : List Mi), MiOk z) := data_ok
  have HT : Hid (∀ V, Below w.heap.size w V → RvTab V) := fun V hV => ht.below hV
  have HRUN : Hid (∀ ao cap V, RvTab V → IntsVal V (.slice ao 3 cap) (([⟨21, 0, 5, 6, -8⟩, ⟨20, 7, 5, 0, -8⟩, ⟨29, 0, 0, 0, 0⟩] : List Mi).map wordI) → Calls Tryd.prog 17 #[.slice ao 3 cap, .agg (cpuCells ((zeroCp.set 5 (8 * (k : Int) + 8)).set 6 n)).toArray, .int .i64 (9)] V fun e w' => e = .returned (.tuple #[.agg (cpuCells D).toArray, .int .i64 (3), .int .i64 (0)]) ∧ Below V.heap.size V w') := fun ao cap V hV hI => by
    have := cpuRun_any ((zeroCp.set 5 (8 * (k : Int) + 8)).set 6 n) ((zero_ok.set _ _).set _ _) (([⟨21, 0, 5, 6, -8⟩, ⟨20, 7, 5, 0, -8⟩, ⟨29, 0, 0, 0, 0⟩] : List Mi).map wordI) ao cap (9) V hV hI
    rw [hR] at this
    exact this
  have HRUN2 : Hid (∀ ao cap V, RvTab V → IntsVal V (.slice ao 3 cap) (([⟨21, 0, 5, 6, -8⟩, ⟨20, 7, 5, 0, -8⟩, ⟨29, 0, 0, 0, 0⟩] : List Mi).map wordI) → Calls Tryd.prog 17 #[.slice ao 3 cap, .agg (cpuCells (((zeroCp.set 5 (8 * (k : Int) + 8)).set 6 n).set 5 (8 + b))).toArray, .int .i64 (9)] V fun e w' => e = .returned (.tuple #[.agg (cpuCells zeroCp).toArray, .int .i64 (0), .int .i64 (2)]) ∧ Below V.heap.size V w') := fun ao cap V hV hI => by
    have := cpuRun_any (((zeroCp.set 5 (8 * (k : Int) + 8)).set 6 n).set 5 (8 + b)) (((zero_ok.set _ _).set _ _).set _ _) (([⟨21, 0, 5, 6, -8⟩, ⟨20, 7, 5, 0, -8⟩, ⟨29, 0, 0, 0, 0⟩] : List Mi).map wordI) ao cap (9) V hV hI
    rw [hR2] at this
    exact this
  have HD7 : Hid (D.reg 7 = n) := d7
  have HDD : Hid (D.data = noData.set k n) := dd
  have hkI : (k : Int) < 64 := by omega
  have hiI : (i : Int) < 6 := by omega
  clear hR hR2 ht d7 dd hpx hpy hw
  go_enter Tryd.func7, Tryd.ntmps7
  go_upto_region 7 with (first
    | (go_at_call 19; first | (with_reducible refine (hpr _).mono ?_; rintro e w' ⟨rfl, hw'⟩; replace hw' := hw'.symm; subst hw'))
    | (go_at_call 20; refine (words_any ([⟨21, 0, 5, 6, -8⟩, ⟨20, 7, 5, 0, -8⟩, ⟨29, 0, 0, 0, 0⟩] : List Mi) HOK.out (by simp) w.heap.size 3 (w.alloc (.cells (List.flatMap miC ([⟨21, 0, 5, 6, -8⟩, ⟨20, 7, 5, 0, -8⟩, ⟨29, 0, 0, 0, 0⟩] : List Mi)).toArray 41)) (HT.out _ ((Below.refl _ _).alloc (Nat.le_refl _) _)) (rvs_new w ([⟨21, 0, 5, 6, -8⟩, ⟨20, 7, 5, 0, -8⟩, ⟨29, 0, 0, 0, 0⟩] : List Mi)) (by simp)).mono ?_; rintro e w1 ⟨v1, rfl, hown1, hb1⟩; obtain ⟨ao1, cap1, rfl⟩ := own_shape hown1; have HI1 : Hid (∀ V, Below w1.heap.size w1 V → IntsVal V (.slice ao1 3 cap1) (([⟨21, 0, 5, 6, -8⟩, ⟨20, 7, 5, 0, -8⟩, ⟨29, 0, 0, 0, 0⟩] : List Mi).map wordI)) := (fun V hV => (ints_of_own (base := w.heap.size + 1) (l := ([⟨21, 0, 5, 6, -8⟩, ⟨20, 7, 5, 0, -8⟩, ⟨29, 0, 0, 0, 0⟩] : List Mi).map wordI) (by simpa using hown1)).keeps (keeps_below hV)); have HB1 : Hid (Below w.heap.size w w1) := ((Below.refl _ _).alloc (Nat.le_refl _) _).trans (hb1.mono (by simp)); clear hown1 hb1; have hC0 := CAt.new w1; have HCM : Hid (CAt (w1.alloc (.cells ((Tryd.zeroCells26.setIfInBounds 5 (.int .i64 (8 * (k : Int) + 8))).setIfInBounds 6 (.int .i64 (n))) 26)) w1.heap.size ((zeroCp.set 5 (8 * (k : Int) + 8)).set 6 (n))) := CAt.new2 w1 5 6 (by decide) (by decide) _ _; have HBV : Hid (Below w1.heap.size w1 (w1.alloc (.cells ((Tryd.zeroCells26.setIfInBounds 5 (.int .i64 (8 * (k : Int) + 8))).setIfInBounds 6 (.int .i64 (n))) 26))) := (Below.refl _ _).alloc (Nat.le_refl _) _; clear hC0)
    | (refine wpList_load_row rfl _ _ rfl _ rfl _ _ _ _ HCM.out.cells Tryd.underlying26 rfl (infoCpC HCM.out.ok) ?_)
    | (go_at_call 17; refine (HRUN.out _ _ _ (HT.out _ (HB1.out.trans (HBV.out.mono HB1.out.size))) (HI1.out _ HBV.out)).mono ?_; rintro e w2 ⟨rfl, hb2'⟩; have HB2 : Hid (Below w.heap.size w w2) := (HB1.out.trans (HBV.out.mono HB1.out.size)).trans (hb2'.mono (HB1.out.trans (HBV.out.mono HB1.out.size)).size); have HBX : Hid (Below (w1.alloc (.cells ((Tryd.zeroCells26.setIfInBounds 5 (.int .i64 (8 * (k : Int) + 8))).setIfInBounds 6 (.int .i64 (n))) 26)).heap.size (w1.alloc (.cells ((Tryd.zeroCells26.setIfInBounds 5 (.int .i64 (8 * (k : Int) + 8))).setIfInBounds 6 (.int .i64 (n))) 26)) w2) := hb2'; have HLTX : Hid (w1.heap.size < w2.heap.size) := Nat.lt_of_lt_of_le HCM.out.lt hb2'.size; have HBW2 : Hid (Below w1.heap.size w1 w2) := HBV.out.trans (hb2'.mono HBV.out.size); clear hb2'; have HLT : Hid (w1.heap.size < w2.heap.size) := HLTX.out; have HI2 : Hid (∀ V, Below w2.heap.size w2 V → IntsVal V (.slice ao1 3 cap1) (([⟨21, 0, 5, 6, -8⟩, ⟨20, 7, 5, 0, -8⟩, ⟨29, 0, 0, 0, 0⟩] : List Mi).map wordI)) := (fun V hV => HI1.out V (HBW2.out.trans (hV.mono HBW2.out.size))); have HCM2 : Hid (CAt w2 w1.heap.size ((zeroCp.set 5 (8 * (k : Int) + 8)).set 6 n)) := HCM.out.below HBX.out HCM.out.lt; clear HRUN)
    | (refine wpList_store_row rfl _ _ _ rfl _ (cpuCells D).toArray rfl rfl _ _ (heap_alloc_last w2 _) (infoCpC hD) (by rw [zc_cp, List.size_toArray, cp_len hD]) (cp_one _) ?_; have hC : CAt ((w2.alloc (.cells Tryd.zeroCells26 26)).setRow w2.heap.size (cpuCells D).toArray) w2.heap.size D := CAt.row hD (heap_alloc_last w2 _); have HC3 : Hid (CAt ((w2.alloc (.cells Tryd.zeroCells26 26)).setRow w2.heap.size (cpuCells D).toArray) w2.heap.size D) := hC; have HCM3 : Hid (CAt ((w2.alloc (.cells Tryd.zeroCells26 26)).setRow w2.heap.size (cpuCells D).toArray) w1.heap.size ((zeroCp.set 5 (8 * (k : Int) + 8)).set 6 n)) := (HCM2.out.below (below_setRowR ((Below.refl _ _).alloc (Nat.le_refl _) _) (Nat.le_refl _) _) HCM2.out.lt); have HI3 : Hid (∀ V, Below (((w2.alloc (.cells Tryd.zeroCells26 26)).setRow w2.heap.size (cpuCells D).toArray)).heap.size ((w2.alloc (.cells Tryd.zeroCells26 26)).setRow w2.heap.size (cpuCells D).toArray) V → IntsVal V (.slice ao1 3 cap1) (([⟨21, 0, 5, 6, -8⟩, ⟨20, 7, 5, 0, -8⟩, ⟨29, 0, 0, 0, 0⟩] : List Mi).map wordI)) := (fun V hV => HI2.out V ((below_setRowR ((Below.refl _ _).alloc (Nat.le_refl _) _) (Nat.le_refl _) _).trans (hV.mono (below_setRowR ((Below.refl _ _).alloc (Nat.le_refl _) (.cells Tryd.zeroCells26 26)) (Nat.le_refl _) (cpuCells D).toArray).size))); clear HCM HCM2; clear hC))
  have HB6 : Hid (Below w.heap.size w ((w2.alloc (.cells Tryd.zeroCells26 26)).setRow w2.heap.size (cpuCells D).toArray)) := below_setRowR (HB2.out.alloc HB2.out.size _) HB2.out.size _
  have HCd : Hid (CAt ((w2.alloc (.cells Tryd.zeroCells26 26)).setRow w2.heap.size (cpuCells D).toArray) w2.heap.size D) := HC3.out
  have HCc : Hid (CAt ((w2.alloc (.cells Tryd.zeroCells26 26)).setRow w2.heap.size (cpuCells D).toArray) w1.heap.size ((zeroCp.set 5 (8 * (k : Int) + 8)).set 6 n)) := HCM3.out
  have HG6 : Hid (Below w1.heap.size w1 ((w2.alloc (.cells Tryd.zeroCells26 26)).setRow w2.heap.size (cpuCells D).toArray)) := below_setRowR (HBW2.out.alloc HBW2.out.size _) HBW2.out.size _
  have hgc0 : w.heap.size ≤ w1.heap.size := HB1.out.size
  have hne : w1.heap.size < w2.heap.size := HLT.out
  clear HB1 HB2 HC3 HCM3 HI2 HI3 HLT HBV HBX HBW2
  generalize ((w2.alloc (.cells Tryd.zeroCells26 26)).setRow w2.heap.size (cpuCells D).toArray) = W6 at HB6 HCd HCc HG6 ⊢
  generalize w1.heap.size = gc at *
  generalize w2.heap.size = gd at *
  have HRD : Hid (W6.rangeAt gc 33 (i64s noData)) := range_of_row HCc.out.cells 33 _ (cp_data HCc.out.ok)
  have HI64 : Hid ((Tryd.prog.info? 24).map (·.size) = some (i64s noData).length) := infoD64
  have HI64' : Hid ((Tryd.prog.info? 24).map (·.size) = some (i64s noData).toArray.size) := infoD64
  go_upto_region 8 with (first
    | (refine wpList_load_mid rfl 24 _ rfl gc 33 rfl (i64s noData) _ HRD.out Tryd.underlying24 rfl HI64.out ?_)
    | (refine wpList_store_row rfl _ _ _ rfl _ (i64s noData).toArray rfl rfl _ _ (heap_alloc_last W6 _) HI64'.out rfl (all_one _ (i64s_one _)) ?_))
  have G7 : ((W6.alloc (.cells #[.int .i64 0, .int .i64 0, .int .i64 0, .int .i64 0, .int .i64 0, .int .i64 0, .int .i64 0, .int .i64 0, .int .i64 0, .int .i64 0, .int .i64 0, .int .i64 0, .int .i64 0, .int .i64 0, .int .i64 0, .int .i64 0, .int .i64 0, .int .i64 0, .int .i64 0, .int .i64 0, .int .i64 0, .int .i64 0, .int .i64 0, .int .i64 0, .int .i64 0, .int .i64 0, .int .i64 0, .int .i64 0, .int .i64 0, .int .i64 0, .int .i64 0, .int .i64 0, .int .i64 0, .int .i64 0, .int .i64 0, .int .i64 0, .int .i64 0, .int .i64 0, .int .i64 0, .int .i64 0, .int .i64 0, .int .i64 0, .int .i64 0, .int .i64 0, .int .i64 0, .int .i64 0, .int .i64 0, .int .i64 0, .int .i64 0, .int .i64 0, .int .i64 0, .int .i64 0, .int .i64 0, .int .i64 0, .int .i64 0, .int .i64 0, .int .i64 0, .int .i64 0, .int .i64 0, .int .i64 0, .int .i64 0, .int .i64 0, .int .i64 0, .int .i64 0] 24)).setRow W6.heap.size (i64s noData).toArray).heap[W6.heap.size]? = some (.cells (i64s noData).toArray 24 (0, 0)) := setRow_heap _ _ _ _ _ _ (heap_alloc_last W6 _)
  have B7 : Below W6.heap.size W6 ((W6.alloc (.cells #[.int .i64 0, .int .i64 0, .int .i64 0, .int .i64 0, .int .i64 0, .int .i64 0, .int .i64 0, .int .i64 0, .int .i64 0, .int .i64 0, .int .i64 0, .int .i64 0, .int .i64 0, .int .i64 0, .int .i64 0, .int .i64 0, .int .i64 0, .int .i64 0, .int .i64 0, .int .i64 0, .int .i64 0, .int .i64 0, .int .i64 0, .int .i64 0, .int .i64 0, .int .i64 0, .int .i64 0, .int .i64 0, .int .i64 0, .int .i64 0, .int .i64 0, .int .i64 0, .int .i64 0, .int .i64 0, .int .i64 0, .int .i64 0, .int .i64 0, .int .i64 0, .int .i64 0, .int .i64 0, .int .i64 0, .int .i64 0, .int .i64 0, .int .i64 0, .int .i64 0, .int .i64 0, .int .i64 0, .int .i64 0, .int .i64 0, .int .i64 0, .int .i64 0, .int .i64 0, .int .i64 0, .int .i64 0, .int .i64 0, .int .i64 0, .int .i64 0, .int .i64 0, .int .i64 0, .int .i64 0, .int .i64 0, .int .i64 0, .int .i64 0, .int .i64 0] 24)).setRow W6.heap.size (i64s noData).toArray) := below_setRowR ((Below.refl _ _).alloc (Nat.le_refl _) _) (Nat.le_refl _) _
  generalize (W6.alloc (.cells #[.int .i64 0, .int .i64 0, .int .i64 0, .int .i64 0, .int .i64 0, .int .i64 0, .int .i64 0, .int .i64 0, .int .i64 0, .int .i64 0, .int .i64 0, .int .i64 0, .int .i64 0, .int .i64 0, .int .i64 0, .int .i64 0, .int .i64 0, .int .i64 0, .int .i64 0, .int .i64 0, .int .i64 0, .int .i64 0, .int .i64 0, .int .i64 0, .int .i64 0, .int .i64 0, .int .i64 0, .int .i64 0, .int .i64 0, .int .i64 0, .int .i64 0, .int .i64 0, .int .i64 0, .int .i64 0, .int .i64 0, .int .i64 0, .int .i64 0, .int .i64 0, .int .i64 0, .int .i64 0, .int .i64 0, .int .i64 0, .int .i64 0, .int .i64 0, .int .i64 0, .int .i64 0, .int .i64 0, .int .i64 0, .int .i64 0, .int .i64 0, .int .i64 0, .int .i64 0, .int .i64 0, .int .i64 0, .int .i64 0, .int .i64 0, .int .i64 0, .int .i64 0, .int .i64 0, .int .i64 0, .int .i64 0, .int .i64 0, .int .i64 0, .int .i64 0] 24)).setRow W6.heap.size (i64s noData).toArray = W7 at G7 B7 ⊢
  have lc : gc < W6.heap.size := HCc.out.lt
  have ld : gd < W6.heap.size := HCd.out.lt
  generalize hgw : W6.heap.size = gw at *
  have k8 : W7.cell? ⟨gw, k, none⟩ = some (.int .i64 0) := by rw [cell_of_row _ _ _ _ _ _ G7, List.getElem?_toArray]; unfold i64s noData; rw [List.getElem?_map, List.getElem?_replicate, if_pos hk]; rfl
  have f8 : W7.frozen? ⟨gw, k, none⟩ = false := frozen_of_row _ _ _ _ _ G7
  have G8 : (W7.setCell ⟨gw, k, none⟩ (.int .i64 n)).heap[gw]? = some (.cells (i64s (noData.set k n)).toArray 24 (0, 0)) := by
    rw [heap_setCell_same _ _ _ _ _ _ G7, List.setIfInBounds_toArray]
    congr 2
    simp [i64s, List.map_set]
  have B8 : Below gw W6 (W7.setCell ⟨gw, k, none⟩ (.int .i64 n)) := B7.setCell (Nat.le_refl _) _
  go_upto_region 9 with fail
  generalize W7.setCell ⟨gw, k, none⟩ (.int .i64 n) = W8 at G8 B8 ⊢
  have HC8 : Hid (CAt W8 gc ((zeroCp.set 5 (8 * (k : Int) + 8)).set 6 n)) := HCc.out.below B8 lc
  have HD8 : Hid (CAt W8 gd D) := HCd.out.below B8 ld
  have HB8 : Hid (Below w.heap.size w W8) := HB6.out.trans (B8.mono (by have := HB6.out.size; omega))
  have HG8 : Hid (W8.heap[gw]? = some (.cells (i64s (noData.set k n)).toArray 24 (0, 0))) := G8
  have HBG8 : Hid (Below gc w1 W8) := HG6.out.trans (B8.mono (by omega))
  have kc : W8.cell? ⟨gc, 5, none⟩ = some (.int .i64 ((((zeroCp.set 5 (8 * (k : Int) + 8)).set 6 n)).reg 5)) := HC8.out.reg 5 (by decide)
  have fc : W8.frozen? ⟨gc, 5, none⟩ = false := HC8.out.free 5
  have hC9 : CAt (W8.alloc (.cells #[.int .i64 (-8), .int .i64 512, .int .i64 4, .int .i64 1, .int .i64 (-1), .int .i64 1099511627776] 3)) gc ((zeroCp.set 5 (8 * (k : Int) + 8)).set 6 n) := HC8.out.below ((Below.refl _ _).alloc (Nat.le_refl _) _) HC8.out.lt
  have kc9 := hC9.reg 5 (by decide)
  have fc9 := hC9.free 5
  clear hC9
  have kb : (W8.alloc (.cells #[.int .i64 (-8), .int .i64 512, .int .i64 4, .int .i64 1, .int .i64 (-1), .int .i64 1099511627776] 3)).cell? ⟨W8.heap.size, i, none⟩ = some (.int .i64 b) := by
    rw [cell_of_row _ _ _ _ _ _ (heap_alloc_last W8 _)]
    have := congrArg (Option.map (Value.int .i64)) hb
    rw [← List.getElem?_map] at this
    simpa using this
  clear G7 B7 k8 f8 G8 B8 HCc HCd HRD HG6 HB6 hb
  go_upto_region 10 with (go_at_call 19; first | (with_reducible refine (hpq _).mono ?_; rintro e w' ⟨rfl, hw'⟩; replace hw' := hw'.symm; subst hw'))
  have hl8 : gc ≤ W8.heap.size := Nat.le_of_lt HC8.out.lt
  have B9 : Below gc W8 ((W8.alloc (.cells #[.int .i64 (-8), .int .i64 512, .int .i64 4, .int .i64 1, .int .i64 (-1), .int .i64 1099511627776] 3)).setCell ⟨gc, 5, none⟩ (.int .i64 (8 + b))) := ((Below.refl _ _).alloc hl8 _).setCell (Nat.le_refl _) _
  have HC9 : Hid (CAt ((W8.alloc (.cells #[.int .i64 (-8), .int .i64 512, .int .i64 4, .int .i64 1, .int .i64 (-1), .int .i64 1099511627776] 3)).setCell ⟨gc, 5, none⟩ (.int .i64 (8 + b))) gc (((zeroCp.set 5 (8 * (k : Int) + 8)).set 6 n).set 5 (8 + b))) := (HC8.out.below ((Below.refl _ _).alloc (Nat.le_refl _) _) HC8.out.lt).set 5 (by decide) (8 + b)
  have hoth : ∀ g', g' ≠ gc → g' < W8.heap.size → ((W8.alloc (.cells #[.int .i64 (-8), .int .i64 512, .int .i64 4, .int .i64 1, .int .i64 (-1), .int .i64 1099511627776] 3)).setCell ⟨gc, 5, none⟩ (.int .i64 (8 + b))).heap[g']? = W8.heap[g']? := fun g' h1 h2 => (heap_setCell_other _ _ _ _ (by simpa using h1)).trans (heap_alloc_old _ _ h2)
  have HD9 : Hid (CAt ((W8.alloc (.cells #[.int .i64 (-8), .int .i64 512, .int .i64 4, .int .i64 1, .int .i64 (-1), .int .i64 1099511627776] 3)).setCell ⟨gc, 5, none⟩ (.int .i64 (8 + b))) gd D) := ⟨(hoth gd (by omega) HD8.out.lt).trans HD8.out.cells, hD⟩
  have HG9 : Hid (((W8.alloc (.cells #[.int .i64 (-8), .int .i64 512, .int .i64 4, .int .i64 1, .int .i64 (-1), .int .i64 1099511627776] 3)).setCell ⟨gc, 5, none⟩ (.int .i64 (8 + b))).heap[gw]? = some (.cells (i64s (noData.set k n)).toArray 24 (0, 0))) := (hoth gw (by omega) (lt_of_block HG8.out)).trans HG8.out
  have HB9 : Hid (Below w.heap.size w ((W8.alloc (.cells #[.int .i64 (-8), .int .i64 512, .int .i64 4, .int .i64 1, .int .i64 (-1), .int .i64 1099511627776] 3)).setCell ⟨gc, 5, none⟩ (.int .i64 (8 + b)))) := HB8.out.trans (B9.mono hgc0)
  have HI9 : Hid (IntsVal ((W8.alloc (.cells #[.int .i64 (-8), .int .i64 512, .int .i64 4, .int .i64 1, .int .i64 (-1), .int .i64 1099511627776] 3)).setCell ⟨gc, 5, none⟩ (.int .i64 (8 + b))) (.slice ao1 3 cap1) (([⟨21, 0, 5, 6, -8⟩, ⟨20, 7, 5, 0, -8⟩, ⟨29, 0, 0, 0, 0⟩] : List Mi).map wordI)) := HI1.out _ (HBG8.out.trans B9)
  clear hl8 hoth B9 HC8 HD8 HG8 HB8 HBG8 kc fc kc9 fc9 kb HI1
  generalize (W8.alloc (.cells #[.int .i64 (-8), .int .i64 512, .int .i64 4, .int .i64 1, .int .i64 (-1), .int .i64 1099511627776] 3)).setCell ⟨gc, 5, none⟩ (.int .i64 (8 + b)) = W9 at HC9 HD9 HG9 HB9 HI9 ⊢
  go_upto_region 11 with (first
    | (refine wpList_load_row rfl _ _ rfl _ rfl _ _ _ _ HC9.out.cells Tryd.underlying26 rfl (infoCpC HC9.out.ok) ?_)
    | (go_at_call 17; refine (HRUN2.out _ _ _ (HT.out _ HB9.out) HI9.out).mono ?_; rintro e w5 ⟨rfl, hb5⟩; have HB5 : Hid (Below w.heap.size w w5) := HB9.out.trans (hb5.mono HB9.out.size); have HD5 : Hid (CAt w5 gd D) := HD9.out.below hb5 HD9.out.lt; have HG5 : Hid (w5.heap[gw]? = some (.cells (i64s (noData.set k n)).toArray 24 (0, 0))) := (hb5.block _ (lt_of_block HG9.out)).trans HG9.out; clear hb5)
    | (refine wpList_store_row rfl _ _ _ rfl _ (cpuCells zeroCp).toArray rfl rfl _ _ (heap_alloc_last w5 _) infoCp0 (by rw [zc_cp]; rfl) (cp_one _) ?_))
  have HBE : Hid (Below w.heap.size w ((w5.alloc (.cells Tryd.zeroCells26 26)).setRow w5.heap.size (cpuCells zeroCp).toArray)) := below_setRowR (HB5.out.alloc HB5.out.size _) HB5.out.size _
  have hbe := below_setRowR ((Below.refl _ _).alloc (Nat.le_refl w5.heap.size) (.cells Tryd.zeroCells26 26)) (Nat.le_refl _) (cpuCells zeroCp).toArray
  have HDE : Hid (CAt ((w5.alloc (.cells Tryd.zeroCells26 26)).setRow w5.heap.size (cpuCells zeroCp).toArray) gd D) := HD5.out.below hbe HD5.out.lt
  have HGE : Hid (((w5.alloc (.cells Tryd.zeroCells26 26)).setRow w5.heap.size (cpuCells zeroCp).toArray).heap[gw]? = some (.cells (i64s (noData.set k n)).toArray 24 (0, 0))) := (hbe.block _ (lt_of_block HG5.out)).trans HG5.out
  clear hbe HD5 HG5 HB5 HC9 HD9 HG9 HB9 HI9
  generalize (w5.alloc (.cells Tryd.zeroCells26 26)).setRow w5.heap.size (cpuCells zeroCp).toArray = WE at HBE HDE HGE ⊢
  have c7 := HDE.out.regv 7 (by decide) HD7.out rfl
  have hl64 : (noData.set k n).length = 64 := by simp [noData]
  have HRE : Hid (WE.rangeAt gd 33 (i64s (noData.set k n))) := by
    have := range_of_row HDE.out.cells 33 _ (cp_data HDE.out.ok)
    rw [HDD.out] at this
    exact this
  have HIE : Hid ((Tryd.prog.info? 24).map (·.size) = some (i64s (noData.set k n)).length) := by show _ = _; rw [i64s_length, hl64]; exact infoD64
  have HIE' : Hid ((Tryd.prog.info? 24).map (·.size) = some (i64s (noData.set k n)).toArray.size) := by show _ = _; rw [List.size_toArray, i64s_length, hl64]; exact infoD64
  have hq64 : ∀ w, (Op.equalIn 10000 24 (.agg (i64s (noData.set k n)).toArray) (.agg (i64s (noData.set k n)).toArray)).run Tryd.prog w = .ok true w := fun w => equal_ints_cpu 24 (noData.set k n) 9998 w (by rw [hl64]; exact Tryd.underlying24)
  generalize i64s (noData.set k n) = LD at HRE HIE HIE' hq64 HGE
  clear HDE hl64
  go_wp2_with (first
    | (refine wpList_load_mid_wanted rfl 24 _ rfl gd 33 rfl LD _ HRE.out Tryd.underlying24 rfl HIE.out ?_)
    | (refine wpList_load_wantedR rfl _ _ rfl gw rfl _ _ _ _ HGE.out Tryd.underlying24 rfl HIE'.out ?_))
  go_ret
  exact ⟨by simp, HBE.out⟩
theorem cpuData_walk (x n y : Int) (hx : Fits x) (_hn : Fits n) (hy : Fits y) (w : World) (ht : RvTab w) :
    Calls Tryd.prog 7 #[.int .i64 x, .int .i64 n, .int .i64 y] w fun e w' => e = .returned (.bool true) ∧ Below w.heap.size w w' := by
  have hb := pickB_bounds x 64 (by decide)
  have hc := pickB_bounds y 6 (by decide)
  obtain ⟨k, hk⟩ := Int.eq_ofNat_of_zero_le hb.1
  obtain ⟨i, hi⟩ := Int.eq_ofNat_of_zero_le hc.1
  obtain ⟨b, h1, h2, h3, h4⟩ := bads_at i (by omega)
  exact cpuData_at x n y k i b (by omega) (by omega) hk hi h1 h2 h3 h4 hx hy w ht
end Go.Proofs.YtapjfiihfgndeaaDoor
