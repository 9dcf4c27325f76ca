/- The walk of tierlinekeep.CodeBad: at all raw numbers it says true, and nothing that was there has turned. -/
import Derived.Test.YtjckpdeogbamjaaDoorBadMath
import Derived.Test.YtjckpdeogbamjaaDoorTail
import Derived.Deep.AppendLies
import Derived.Deep.RegionHeld3
import Derived.Deep.DeepCutAuto
namespace Go.Proofs.YtjckpdeogbamjaaDoor
open Go Go.RowKit

theorem bad_len (l : List Fn) : ∀ f ∈ shapedP l, f.code.length ≤ 24 := by
  intro f hf
  obtain ⟨i, _, rfl⟩ := List.mem_map.1 hf
  simp [mkFn]; omega

/-- What is seen of the first function of a built program. -/
theorem built_first {w : World} {base tF tI n cap : Nat} {ao : Option Addr} {f0 : Fn} {rest : List Fn} {us : List Value} (h : Built w base tF tI (.slice ao n cap) (f0 :: rest) us) :
    ∃ g u0 us', ao = some ⟨g, 0, none⟩ ∧ us = u0 :: us' ∧ n = rest.length + 1 ∧ base ≤ g ∧ g < w.heap.size ∧ w.frozen? ⟨g, 2, none⟩ = false ∧
      w.cell? ⟨g, 0, none⟩ = some (.int .i64 f0.params) ∧ w.cell? ⟨g, 1, none⟩ = some (.int .i64 f0.regs) ∧ w.cell? ⟨g, 2, none⟩ = some u0 ∧ w.ownsRow base tI 5 u0 f0.code.length (codeCells f0.code) := by
  obtain ⟨u0, us', rfl⟩ : ∃ u0 us', us = u0 :: us' := by
    have := h.len
    match us, this with
    | u0 :: us', _ => exact ⟨u0, us', rfl⟩
  have hc := @World.ownsRow.cells _ _ _ _ _ _ _ h.row
  rcases h.row.2 with ⟨h0, h1⟩ | ⟨g, cap', cur, he, hb, hg, hn, _, hs, _⟩
  · simp at h1
  simp only [Value.slice.injEq] at he
  obtain ⟨rfl, rfl, rfl⟩ := he
  have cell : ∀ j u, (fnsCells (f0 :: rest) (u0 :: us'))[j]? = some u → w.cell? ⟨g, j, none⟩ = some u := fun j u hu => by
    have := hc (g := g) rfl j u hu
    rwa [Addr.add_lit, Nat.zero_add] at this
  refine ⟨g, u0, us', rfl, rfl, by simp, hb, lt_of_block hg, by simp [World.frozen?, hg], cell 0 _ rfl, cell 1 _ rfl, cell 2 _ rfl, ?_⟩
  exact h.codes 0 (by simp)

set_option maxRecDepth 100000 in
set_option maxHeartbeats 4000000 in
theorem codeBad_walk (l : List Fn) (v : Value) (which : Int) (w : World) (ht : TabOk w) (hv : ProgVal w v l) (hwf : ∀ f ∈ l, f.wf) (hwh : I64 which) :
    Calls Tryd.prog 5 #[v, .int .i64 which] w fun e w' => e = .returned (.bool true) ∧ Below w.heap.size w w' := by
  obtain ⟨iI, hiI, hzI0, hzI1, hzI2⟩ := info_parts infoI
  have hok := shaped_ok l
  have hlen := bad_len l
  have HSH : Hid (∀ W, Below w.heap.size w W → Calls Tryd.prog 13 #[v] W fun e w' => ∃ v' us, e = .returned (.agg #[v']) ∧ Built w' W.heap.size 42 44 v' (shapedP l) us ∧ CodesApart us ∧ Below W.heap.size W w') := fun W hW => shaped_apart l v W (hv.keeps (keeps_below hW)) hwf
  obtain ⟨ao, n, cap, rfl⟩ := hv.shape
  generalize shapedP l = P at hok hlen HSH
  obtain ⟨hp1, hp4, _⟩ := codeProg_zero hok
  obtain ⟨f0, rest, rfl⟩ : ∃ f0 rest, P = f0 :: rest := by
    match P, hp1 with
    | f0 :: rest, _ => exact ⟨f0, rest, rfl⟩
  have hl24 := hlen f0 (by simp)
  obtain ⟨fp, fr, fc⟩ := f0
  dsimp only at hl24
  simp only [List.length_cons] at hp4
  have HOK : Hid (codeProg (⟨fp, fr, fc⟩ :: rest) = 0) := hok
  have HT : Hid (TabOk w) := ht
  have hB0 : Hid (Below w.heap.size w w) := Below.refl _ _
  clear hv hwf hok hlen ht hp1
  go_enter Tryd.func5, Tryd.ntmps5
  go_wp2_with (go_at_call 13; refine (HSH.out _ hB0.out).mono ?_; rintro e w1 ⟨v1, us1, rfl, hbt1, hca1, hb1⟩; obtain ⟨ao1, cap1, rfl⟩ := own_shape hbt1.row; obtain ⟨g1, u1, us1', rfl, rfl, _, hg1, hgl1, hfz1, x0, x1, x2, hu1⟩ := built_first hbt1; obtain ⟨aoc1, capc1, rfl⟩ := own_shape hu1; dsimp only at x0 x1 x2 hu1; have HBT1 : Hid _ := hbt1; have B1 : Hid (Below w.heap.size w w1) := hb1; clear hbt1 hca1 hb1 hfz1 hu1 hB0; have y0 := cell_alloc x0; have y1 := cell_alloc x1; have y2 := cell_alloc x2)
  have hz1 : (w1.alloc (.cells #[.slice (some ⟨g1, 0, none⟩) (rest.length + 1) cap1] 26)).heap.size = w1.heap.size + 1 := by simp
  have q1 : (w1.alloc (.cells #[.slice (some ⟨g1, 0, none⟩) (rest.length + 1) cap1] 26)).heap[w1.heap.size]? = some (.cells #[.slice (some ⟨g1, 0, none⟩) (rest.length + 1) cap1] 26 (0, 0)) := heap_alloc_new w1 _
  have z0 := y0 (.cells #[.slice (some ⟨g1, 0, none⟩) (rest.length + 1) cap1] 26)
  have z1 := y1 (.cells #[.slice (some ⟨g1, 0, none⟩) (rest.length + 1) cap1] 26)
  have z2 := y2 (.cells #[.slice (some ⟨g1, 0, none⟩) (rest.length + 1) cap1] 26)
  have HB1' : Hid (Below w1.heap.size w1 (w1.alloc (.cells #[.slice (some ⟨g1, 0, none⟩) (rest.length + 1) cap1] 26))) := (Below.refl _ _).alloc (Nat.le_refl _) _
  generalize w1.alloc (.cells #[.slice (some ⟨g1, 0, none⟩) (rest.length + 1) cap1] 26) = W1 at hz1 q1 z0 z1 z2 HB1' ⊢
  clear x0 x1 x2 y0 y1 y2
  have zp := cell_of_one q1
  have HQ1 : Hid _ := q1
  clear q1
  have wr1 : IntKind.i64.wrap ((fc.length : Int) + 1) = (fc.length : Int) + 1 := by rw [IntKind.wrap_i64]; omega
  have n1 := World.new_ne W1 _ z1
  have n2 := World.new_ne W1 _ z2
  have n3 := World.new_ne W1 _ zp
  go_cut [7] (fun s7 wx => ∃ bb, s7 = .slice (some ⟨bb, 0, none⟩) 6 6 ∧ W1.heap.size ≤ bb ∧ wx.heap[bb]? = some (.cells (codeCells (badIns fr fc.length (rest.length + 1))).toArray 44 (0, 0)) ∧ Below W1.heap.size W1 wx)
  case first =>
    go_region_held3 (fun w' => w'.cell? ⟨g1, 1, none⟩ = some (.int .i64 fr) ∧ w'.cell? ⟨g1, 2, none⟩ = some (.slice aoc1 fc.length capc1) ∧ w'.cell? ⟨w1.heap.size, 0, none⟩ = some (.slice (some ⟨g1, 0, none⟩) (rest.length + 1) cap1)) (go_keep) (fail)
    all_goals
      go_wp2_with fail
      go_meet
      exact ⟨w1.heap.size + 1, rfl, by omega, (by have h := heap_alloc_new W1 (.cells (codeCells (badIns fr fc.length (rest.length + 1))).toArray 44); rw [hz1] at h; exact h), ((Below.refl _ W1).alloc (Nat.le_refl _) _).drew⟩
  case rest =>
    obtain ⟨bb, rfl, hbb, hbk, hbw⟩ := hcut
    have HW2 : Hid (Below w1.heap.size w1 wc) := HB1'.out.trans (hbw.mono (by omega))
    have BW2 : Hid (Below w.heap.size w wc) := B1.out.trans (HW2.out.mono B1.out.size)
    have HQ2 : Hid (wc.heap[w1.heap.size]? = some (.cells #[.slice (some ⟨g1, 0, none⟩) (rest.length + 1) cap1] 26 (0, 0))) := (hbw.block _ (by omega)).trans HQ1.out
    have HBK : Hid _ := hbk
    have hbl := lt_of_block hbk
    clear z0 z1 z2 zp n1 n2 n3 hbk hbw wr1 HB1' HQ1
    go_wp2_with (go_at_call 13; refine (HSH.out _ BW2.out).mono ?_; rintro e w3 ⟨v3, us3, rfl, hbt3, hca3, hb3⟩; obtain ⟨ao3, cap3, rfl⟩ := own_shape hbt3.row; obtain ⟨g3, u3, us3', rfl, rfl, _, hg3, hgl3, hfz3, x0, x1, x2, hu3⟩ := built_first hbt3; have HFZ3 : Hid _ := hfz3; obtain ⟨aoc3, capc3, rfl⟩ := own_shape hu3; dsimp only at x0 x1 x2 hu3; have HBT3 : Hid _ := hbt3; have HCA3 : Hid _ := hca3; have B3 : Hid (Below wc.heap.size wc w3) := hb3; clear hbt3 hca3 hb3 hfz3 hu3; have y0 := cell_alloc x0; have y1 := cell_alloc x1; have y2 := cell_alloc x2)
    have HK : Hid (∃ k : Nat, k < 6 ∧ pickI which 6 = (k : Int)) := ⟨(pickI which 6).toNat, by have := pickI_bounds which 6 (by decide); omega, by have := pickI_bounds which 6 (by decide); omega⟩
    obtain ⟨k, hk6, hkk⟩ := HK.out
    have HKK : Hid (pickI which 6 = (k : Int)) := hkk
    have hbl6 : k < (badIns fr fc.length (rest.length + 1)).length := by simpa [badIns] using hk6
    have HX : Hid (∃ x, (badIns fr fc.length (rest.length + 1))[k]? = some x) := ⟨_, List.getElem?_eq_getElem hbl6⟩
    obtain ⟨x, hx⟩ := HX.out
    have HXX : Hid ((badIns fr fc.length (rest.length + 1))[k]? = some x) := hx
    have cellB : ∀ j u, (insCells x)[j]? = some u → j < 5 → wc.cell? ⟨bb, k * 5 + j, none⟩ = some u := fun j u hu hj => by
      have h1 := codeCells_get (badIns fr fc.length (rest.length + 1)) k j hbl6 hj
      have h2 : (badIns fr fc.length (rest.length + 1))[k] = x := by rw [List.getElem?_eq_getElem hbl6] at hx; exact Option.some.inj hx
      rw [h2, hu] at h1
      rw [cell_of_row _ _ (k * 5 + j) _ _ (0, 0) HBK.out]
      simpa using h1
    obtain ⟨xo, xd, xa, xb, xi⟩ := x
    have b0 := cellB 0 _ rfl (by omega)
    have b1 := cellB 1 _ rfl (by omega)
    have b2 := cellB 2 _ rfl (by omega)
    have b3 := cellB 3 _ rfl (by omega)
    have b4 := cellB 4 _ rfl (by omega)
    dsimp only at b0 b1 b2 b3 b4
    have HB3' : Hid (Below wc.heap.size wc (w3.alloc (.cells #[.slice (some ⟨g3, 0, none⟩) (rest.length + 1) cap3] 26))) := B3.out.alloc B3.out.size _
    have e0 := keeps_below HB3'.out _ _ b0
    have e1 := keeps_below HB3'.out _ _ b1
    have e2 := keeps_below HB3'.out _ _ b2
    have e3 := keeps_below HB3'.out _ _ b3
    have e4 := keeps_below HB3'.out _ _ b4
    have hz3 : (w3.alloc (.cells #[.slice (some ⟨g3, 0, none⟩) (rest.length + 1) cap3] 26)).heap.size = w3.heap.size + 1 := by simp
    have q3 : (w3.alloc (.cells #[.slice (some ⟨g3, 0, none⟩) (rest.length + 1) cap3] 26)).heap[w3.heap.size]? = some (.cells #[.slice (some ⟨g3, 0, none⟩) (rest.length + 1) cap3] 26 (0, 0)) := heap_alloc_new w3 _
    have z2 := y2 (.cells #[.slice (some ⟨g3, 0, none⟩) (rest.length + 1) cap3] 26)
    have HBG : Hid (Below w3.heap.size w3 (w3.alloc (.cells #[.slice (some ⟨g3, 0, none⟩) (rest.length + 1) cap3] 26))) := (Below.refl _ _).alloc (Nat.le_refl _) _
    have hbz := B3.out.size
    generalize w3.alloc (.cells #[.slice (some ⟨g3, 0, none⟩) (rest.length + 1) cap3] 26) = W3 at hz3 q3 z2 HB3' HBG e0 e1 e2 e3 e4 ⊢
    clear x0 x1 x2 y0 y1 y2 b0 b1 b2 b3 b4 cellB hx hkk
    have zq := cell_of_one q3
    have hki : (k : Int) < 6 := by omega
    refine wp_region_last (S := fun w' => w'.cell? ⟨w3.heap.size, 0, none⟩ = some (.slice (some ⟨g3, 0, none⟩) (rest.length + 1) cap3) ∧ w'.cell? ⟨g3, 2, none⟩ = some (.slice aoc3 fc.length capc3) ∧ w'.cell? ⟨bb, k * 5, none⟩ = some (.int .i64 xo) ∧ w'.cell? ⟨bb, k * 5 + 1, none⟩ = some (.int .i64 xd) ∧ w'.cell? ⟨bb, k * 5 + 2, none⟩ = some (.int .i64 xa) ∧ w'.cell? ⟨bb, k * 5 + 3, none⟩ = some (.int .i64 xb) ∧ w'.cell? ⟨bb, k * 5 + 4, none⟩ = some (.int .i64 xi)) _ 18 (by kernel_rfl) (by kernel_rfl) rfl ⟨zq, z2, e0, e1, e2, e3, e4⟩ (fun hHeld => ?_)
    simp only [List.pop_toArray, List.dropLast]
    refine wpAnyH_take (i := 0) (v := ?_) rfl (by kernel_rfl) (by kernel_rfl) (by kernel_rfl) (fun _ _ _ h => h) (Or.inl ⟨by rfl, ?_⟩) (by assumption) ?_
    rotate_left
    · (intro w hSw; (try dsimp only at hSw); go_simp; try (with_reducible rfl))
    (try simp only [Act.put, List.setIfInBounds_toArray])
    refine wpAnyH_take (i := 1) (v := ?_) rfl (by kernel_rfl) (by kernel_rfl) (by kernel_rfl) (fun _ _ _ h => h) (Or.inl ⟨by rfl, ?_⟩) (by assumption) ?_
    rotate_left
    · (intro w hSw; (try dsimp only at hSw); go_simp; try (with_reducible rfl))
    (try simp only [Act.put])
    refine wpAnyH_take (i := 2) (v := ?_) rfl (by kernel_rfl) (by kernel_rfl) (by kernel_rfl) (fun _ _ _ h => h) (Or.inl ⟨by rfl, ?_⟩) (by assumption) ?_
    rotate_left
    · (intro w hSw; (try dsimp only at hSw); go_simp; try (with_reducible rfl))
    (try simp only [Act.put])
    refine wpAnyH_take (i := 3) (v := ?_) rfl (by kernel_rfl) (by kernel_rfl) (by kernel_rfl) (fun _ _ _ h => h) (Or.inl ⟨by rfl, ?_⟩) (by assumption) ?_
    rotate_left
    · (intro w hSw; (try dsimp only at hSw); go_simp; try (with_reducible rfl))
    (try simp only [Act.put])
    refine wpAnyH_take (i := 4) (v := ?_) rfl (by kernel_rfl) (by kernel_rfl) (by kernel_rfl) (fun _ _ _ h => h) (Or.inl ⟨by rfl, ?_⟩) (by assumption) ?_
    rotate_left
    · (intro w hSw; (try dsimp only at hSw); go_simp; try (with_reducible rfl))
    (try simp only [Act.put])
    refine wpAnyH_take (i := 5) (v := ?_) rfl (by kernel_rfl) (by kernel_rfl) (by kernel_rfl) (fun _ _ _ h => h) (Or.inl ⟨by rfl, ?_⟩) (by assumption) ?_
    rotate_left
    · (intro w hSw; (try dsimp only at hSw); go_simp; try (with_reducible rfl))
    (try simp only [Act.put])
    refine wpAnyH_take (i := 6) (v := ?_) rfl (by kernel_rfl) (by kernel_rfl) (by kernel_rfl) (fun _ _ _ h => h) (Or.inl ⟨by rfl, ?_⟩) (by assumption) ?_
    rotate_left
    · (intro w hSw; (try dsimp only at hSw); go_simp; try (with_reducible rfl))
    (try simp only [Act.put])
    refine wpAnyH_take (i := 7) (v := ?_) rfl (by kernel_rfl) (by kernel_rfl) (by kernel_rfl) (fun _ _ _ h => h) (Or.inl ⟨by rfl, ?_⟩) (by assumption) ?_
    rotate_left
    · (intro w hSw; (try dsimp only at hSw); go_simp; try (with_reducible rfl))
    (try simp only [Act.put])
    refine wpAnyH_take (i := 8) (v := ?_) rfl (by kernel_rfl) (by kernel_rfl) (by kernel_rfl) (fun _ _ _ h => h) (Or.inl ⟨by rfl, ?_⟩) (by assumption) ?_
    rotate_left
    · (intro w hSw; (try dsimp only at hSw); go_simp; try (with_reducible rfl))
    (try simp only [Act.put])
    refine wpAnyH_take (i := 9) (v := ?_) rfl (by kernel_rfl) (by kernel_rfl) (by kernel_rfl) (fun _ _ _ h => h) (Or.inl ⟨by rfl, ?_⟩) (by assumption) ?_
    rotate_left
    · (intro w hSw; (try dsimp only at hSw); go_simp; try (with_reducible rfl))
    (try simp only [Act.put])
    refine wpAnyH_take (i := 10) (v := ?_) rfl (by kernel_rfl) (by kernel_rfl) (by kernel_rfl) (fun _ _ _ h => h) (Or.inl ⟨by rfl, ?_⟩) (by assumption) ?_
    rotate_left
    · (intro w hSw; (try dsimp only at hSw); go_simp; try (with_reducible rfl))
    (try simp only [Act.put])
    refine wpAnyH_ready (rs := [11]) (by kernel_rfl) (by simp) ?_
    refine AllReadyH.cons rfl (fun K hK => ?_) AllReadyH.nil
    go_simp
    go_at_call 17
    refine (picked_any which 6 _ hwh (by omega) (by omega)).mono ?_
    rintro e w' ⟨rfl, hw'⟩
    rw [hw', HKK.out]
    clear hw' w'
    refine hK.out _ _ (by assumption) (fun hHeld => ?_)
    clear hK K
    (try simp only [Act.put, List.setIfInBounds_toArray, List.set_cons_zero, List.set_cons_succ])
    refine wpAnyH_take (i := 12) (v := ?_) rfl (by kernel_rfl) (by kernel_rfl) (by kernel_rfl) (fun _ _ _ h => h) (Or.inl ⟨by rfl, ?_⟩) (by assumption) ?_
    rotate_left
    · (intro w hSw; (try dsimp only at hSw); go_simp; try (with_reducible rfl))
    (try simp only [Act.put, List.setIfInBounds_toArray])
    refine wpAnyH_take (i := 13) (v := ?_) rfl (by kernel_rfl) (by kernel_rfl) (by kernel_rfl) (fun _ _ _ h => h) (Or.inl ⟨by rfl, ?_⟩) (by assumption) ?_
    rotate_left
    · (intro w hSw; (try dsimp only at hSw); go_simp; try (with_reducible rfl))
    (try simp only [Act.put])
    have o0 := cell_alloc (show W3.drew.cell? _ = _ from zq)
    have o1 := cell_alloc (show W3.drew.cell? _ = _ from z2)
    have d0 := cell_alloc (show W3.drew.cell? _ = _ from e0)
    have d1 := cell_alloc (show W3.drew.cell? _ = _ from e1)
    have d2 := cell_alloc (show W3.drew.cell? _ = _ from e2)
    have d3 := cell_alloc (show W3.drew.cell? _ = _ from e3)
    have d4 := cell_alloc (show W3.drew.cell? _ = _ from e4)
    refine wpAnyH_ready (rs := [14]) (by kernel_rfl) (by simp) ?_
    refine AllReadyH.cons rfl (fun K hK => ?_) AllReadyH.nil
    go_simp
    refine hK.out _ _ ⟨o0 _, o1 _, d0 _, d1 _, d2 _, d3 _, d4 _⟩ (fun hHeld => ?_)
    clear hK K
    (try simp only [Act.put, List.setIfInBounds_toArray, List.set_cons_zero, List.set_cons_succ])
    refine wpAnyH_ready (rs := [15]) (by kernel_rfl) (by simp) ?_
    refine AllReadyH.cons rfl (fun K hK => ?_) AllReadyH.nil
    have HBW : Hid (Built (W3.alloc (.cells #[.int .i64 xo, .int .i64 xd, .int .i64 xa, .int .i64 xb, .int .i64 xi] 44)).drew wc.heap.size 42 44 (.slice (some ⟨g3, 0, none⟩) (rest.length + 1) cap3) (⟨fp, fr, fc⟩ :: rest) (.slice aoc3 fc.length capc3 :: us3')) := HBT3.out.below ((HBG.out.alloc (by omega) _).drew)
    have own' : (W3.alloc (.cells #[.int .i64 xo, .int .i64 xd, .int .i64 xa, .int .i64 xb, .int .i64 xi] 44)).drew.ownsRow wc.heap.size 44 5 (.slice aoc3 fc.length capc3) fc.length (codeCells fc) := HBW.out.codes 0 (by simp)
    have news' : ∀ (i : Nat) (u : Value), (insCells ⟨xo, xd, xa, xb, xi⟩)[i]? = some u → (W3.alloc (.cells #[.int .i64 xo, .int .i64 xd, .int .i64 xa, .int .i64 xb, .int .i64 xi] 44)).drew.cell? ((⟨W3.heap.size, 0, none⟩ : Addr).add i) = some u := news_list W3 (insCells ⟨xo, xd, xa, xb, xi⟩) _ _ rfl
    rw [hz3] at news'
    have hown3 := HBT3.out.codes 0 (by simp)
    refine step_append_lies _ (by rfl) (.tmp 43) (.tmp 51) 40 (by rfl) wc.heap.size 44 iI _ 5 40 Tryd.underlying40 hiI hzI0 hzI1 hzI2 rfl (by decide) (.slice aoc3 fc.length capc3) fc.length (codeCells fc) (by rfl) own' ⟨w3.heap.size + 1, 0, none⟩ 1 1 (insCells ⟨xo, xd, xa, xb, xi⟩) (by rfl) rfl news' (fun u hu => codeCells_one [⟨xo, xd, xa, xb, xi⟩] u (by simpa [codeCells] using hu)) (by omega) (by unfold maxLen; omega) (by omega) (by simp; omega) (w3.heap.size + 2) (by simp; omega) ?_
    intro g4 cap4 w4 hown4 hg4 hat4 hlt4
    have BP := bad_prog (by decide) HBW.out HCA3.out hg4 hown4
    have hrow : ∀ j, (Value.slice aoc3 fc.length capc3).ownBlock = some j → wc.heap.size ≤ j ∧ j < w3.heap.size := fun j hj => hown3.lt j hj
    have hneQ : some w3.heap.size ≠ (Value.slice aoc3 fc.length capc3).ownBlock := fun e => by have := hrow _ e.symm; omega
    have hneB : some bb ≠ (Value.slice aoc3 fc.length capc3).ownBlock := fun e => by have := hrow _ e.symm; omega
    have r0 := hg4.cell (o0 _) hneQ
    have r1 : w4.cell? ⟨g3, 2, none⟩ = some (.slice aoc3 fc.length capc3) := (World.cell?_of_block BP.1).trans (o1 _)
    have s0 := hg4.cell (d0 _) hneB
    have s1 := hg4.cell (d1 _) hneB
    have s2 := hg4.cell (d2 _) hneB
    have s3 := hg4.cell (d3 _) hneB
    have s4 := hg4.cell (d4 _) hneB
    have qf : w4.frozen? ⟨g3, 2, none⟩ = false := by
      have h1 : W3.heap[g3]? = w3.heap[g3]? := HBG.out.block g3 hgl3
      have h2 : (W3.alloc (.cells #[.int .i64 xo, .int .i64 xd, .int .i64 xa, .int .i64 xb, .int .i64 xi] 44)).drew.heap[g3]? = W3.heap[g3]? := heap_alloc_old W3 _ (by omega)
      have h3 := (BP.1.trans h2).trans h1
      have h4 := HFZ3.out
      simp only [World.frozen?] at h4 ⊢
      rw [h3]
      exact h4
    refine hK.out _ _ ⟨r0, r1, s0, s1, s2, s3, s4⟩ (fun hHeld => ?_)
    clear hK K
    (try simp only [List.getElem_toArray, List.getElem_cons_succ, List.getElem_cons_zero])
    (try simp only [Act.put, List.setIfInBounds_toArray, List.set_cons_zero, List.set_cons_succ])
    refine wpAnyH_take (i := 16) (v := ?_) rfl (by kernel_rfl) (by kernel_rfl) (by kernel_rfl) (fun _ _ _ h => h) (Or.inl ⟨by rfl, ?_⟩) (by assumption) ?_
    rotate_left
    · (intro w hSw; (try dsimp only at hSw); go_simp; try (with_reducible rfl))
    (try simp only [Act.put, List.setIfInBounds_toArray])
    refine wpAnyH_take (i := 17) (v := ?_) rfl (by kernel_rfl) (by kernel_rfl) (by kernel_rfl) (fun _ _ _ h => h) (Or.inl ⟨by rfl, ?_⟩) (by assumption) ?_
    rotate_left
    · (intro w hSw; (try dsimp only at hSw); go_simp; try (with_reducible rfl))
    (try simp only [Act.put])
    refine wpAnyH_done (by kernel_rfl) ?_ _
    refine Or.inl ?_
    (try simp only [List.getElem_toArray, List.getElem_cons_succ, List.getElem_cons_zero])
    go_simp
    have HP5 : Hid (ProgVal (w4.setCell ⟨g3, 2, none⟩ (.slice (some ⟨g4, 0, none⟩) (fc.length + 1) cap4)) (.slice (some ⟨g3, 0, none⟩) (rest.length + 1) cap3) (⟨fp, fr, fc ++ [⟨xo, xd, xa, xb, xi⟩]⟩ :: rest)) := BP.2
    have HB5 : Hid (Below wc.heap.size wc (w4.setCell ⟨g3, 2, none⟩ (.slice (some ⟨g4, 0, none⟩) (fc.length + 1) cap4))) := (((HB3'.out.alloc (by omega) _).drew).grown hg4 (by simp; omega) (fun j hj => (hrow j hj).1)).setCell hg3 _
    have HQ5 : Hid ((w4.setCell ⟨g3, 2, none⟩ (.slice (some ⟨g4, 0, none⟩) (fc.length + 1) cap4)).heap[w3.heap.size]? = some (.cells #[.slice (some ⟨g3, 0, none⟩) (rest.length + 1) cap3] 26 (0, 0))) :=
      (Below.heap_setCell _ _ _ _ (by simp; omega)).trans ((hg4.block _ (by simp; omega) hneQ).trans ((heap_alloc_old W3 _ (by omega)).trans q3))
    have HC5 : Hid (codeProg (⟨fp, fr, fc ++ [⟨xo, xd, xa, xb, xi⟩]⟩ :: rest) = 2) := bad_code (f0 := ⟨fp, fr, fc⟩) HOK.out (by show fc.length ≤ 39; omega) (badIns_code fr fc.length (rest.length + 1) k _ HXX.out) (by omega)
    clear BP hHeld r0 r1 s0 s1 s2 s3 s4 qf o0 o1 d0 d1 d2 d3 d4 own' news' HBW hown3 hown4 hg4 hat4 hlt4 hrow hneQ hneB e0 e1 e2 e3 e4 z2 zq q3 HBG HB3' hz3 HBT3 HCA3 HFZ3 B3 hgl3 hg3 HBK hbb hbl hbl6 hki hk6 HXX HKK HK HX hbz
    generalize w4.setCell ⟨g3, 2, none⟩ (.slice (some ⟨g4, 0, none⟩) (fc.length + 1) cap4) = W5 at HP5 HB5 HQ5 ⊢
    have BW5 : Hid (Below w.heap.size w W5) := BW2.out.trans (HB5.out.mono BW2.out.size)
    go_wp2_with (go_at_call 13; refine (HSH.out _ BW5.out).mono ?_; rintro e w6 ⟨v6, us6, rfl, hbt6, hca6, hb6⟩; obtain ⟨ao6, cap6, rfl⟩ := own_shape hbt6.row; obtain ⟨g6, u6, us6', rfl, rfl, _, hg6, hgl6, hfz6, x0, x1, x2, hu6⟩ := built_first hbt6; have HFZ6 : Hid _ := hfz6; obtain ⟨aoc6, capc6, rfl⟩ := own_shape hu6; dsimp only at x0 x1 x2 hu6; have HBT6 : Hid _ := hbt6; have HCA6 : Hid _ := hca6; have B6 : Hid (Below W5.heap.size W5 w6) := hb6; clear hbt6 hca6 hb6 hfz6 hu6; have y2 := cell_alloc x2)
    have HB6' : Hid (Below W5.heap.size W5 (w6.alloc (.cells #[.slice (some ⟨g6, 0, none⟩) (rest.length + 1) cap6] 26))) := B6.out.alloc B6.out.size _
    have hz6 : (w6.alloc (.cells #[.slice (some ⟨g6, 0, none⟩) (rest.length + 1) cap6] 26)).heap.size = w6.heap.size + 1 := by simp
    have q6 : (w6.alloc (.cells #[.slice (some ⟨g6, 0, none⟩) (rest.length + 1) cap6] 26)).heap[w6.heap.size]? = some (.cells #[.slice (some ⟨g6, 0, none⟩) (rest.length + 1) cap6] 26 (0, 0)) := heap_alloc_new w6 _
    have z2 := y2 (.cells #[.slice (some ⟨g6, 0, none⟩) (rest.length + 1) cap6] 26)
    have HBG : Hid (Below w6.heap.size w6 (w6.alloc (.cells #[.slice (some ⟨g6, 0, none⟩) (rest.length + 1) cap6] 26))) := (Below.refl _ _).alloc (Nat.le_refl _) _
    have hbz := B6.out.size
    generalize w6.alloc (.cells #[.slice (some ⟨g6, 0, none⟩) (rest.length + 1) cap6] 26) = W6 at hz6 q6 z2 HB6' HBG ⊢
    clear x0 x1 x2 y2
    have zq := cell_of_one q6
    have pb := pickI_bounds which 9 (by decide)
    have w20 : IntKind.i64.wrap (20 + pickI which 9) = 20 + pickI which 9 := by rw [IntKind.wrap_i64]; omega
    refine wp_region_last (S := fun w' => w'.cell? ⟨w6.heap.size, 0, none⟩ = some (.slice (some ⟨g6, 0, none⟩) (rest.length + 1) cap6) ∧ w'.cell? ⟨g6, 2, none⟩ = some (.slice aoc6 fc.length capc6)) _ 15 (by kernel_rfl) (by kernel_rfl) rfl ⟨zq, z2⟩ (fun hHeld => ?_)
    simp only [List.pop_toArray, List.dropLast]
    refine wpAnyH_take (i := 0) (v := ?_) rfl (by kernel_rfl) (by kernel_rfl) (by kernel_rfl) (fun _ _ _ h => h) (Or.inl ⟨by rfl, ?_⟩) (by assumption) ?_
    rotate_left
    · (intro w hSw; (try dsimp only at hSw); go_simp; try (with_reducible rfl))
    (try simp only [Act.put, List.setIfInBounds_toArray])
    refine wpAnyH_take (i := 1) (v := ?_) rfl (by kernel_rfl) (by kernel_rfl) (by kernel_rfl) (fun _ _ _ h => h) (Or.inl ⟨by rfl, ?_⟩) (by assumption) ?_
    rotate_left
    · (intro w hSw; (try dsimp only at hSw); go_simp; try (with_reducible rfl))
    (try simp only [Act.put])
    refine wpAnyH_take (i := 2) (v := ?_) rfl (by kernel_rfl) (by kernel_rfl) (by kernel_rfl) (fun _ _ _ h => h) (Or.inl ⟨by rfl, ?_⟩) (by assumption) ?_
    rotate_left
    · (intro w hSw; (try dsimp only at hSw); go_simp; try (with_reducible rfl))
    (try simp only [Act.put])
    refine wpAnyH_take (i := 3) (v := ?_) rfl (by kernel_rfl) (by kernel_rfl) (by kernel_rfl) (fun _ _ _ h => h) (Or.inl ⟨by rfl, ?_⟩) (by assumption) ?_
    rotate_left
    · (intro w hSw; (try dsimp only at hSw); go_simp; try (with_reducible rfl))
    (try simp only [Act.put])
    refine wpAnyH_take (i := 4) (v := ?_) rfl (by kernel_rfl) (by kernel_rfl) (by kernel_rfl) (fun _ _ _ h => h) (Or.inl ⟨by rfl, ?_⟩) (by assumption) ?_
    rotate_left
    · (intro w hSw; (try dsimp only at hSw); go_simp; try (with_reducible rfl))
    (try simp only [Act.put])
    refine wpAnyH_take (i := 5) (v := ?_) rfl (by kernel_rfl) (by kernel_rfl) (by kernel_rfl) (fun _ _ _ h => h) (Or.inl ⟨by rfl, ?_⟩) (by assumption) ?_
    rotate_left
    · (intro w hSw; (try dsimp only at hSw); go_simp; try (with_reducible rfl))
    (try simp only [Act.put])
    refine wpAnyH_take (i := 6) (v := ?_) rfl (by kernel_rfl) (by kernel_rfl) (by kernel_rfl) (fun _ _ _ h => h) (Or.inl ⟨by rfl, ?_⟩) (by assumption) ?_
    rotate_left
    · (intro w hSw; (try dsimp only at hSw); go_simp; try (with_reducible rfl))
    (try simp only [Act.put])
    refine wpAnyH_take (i := 7) (v := ?_) rfl (by kernel_rfl) (by kernel_rfl) (by kernel_rfl) (fun _ _ _ h => h) (Or.inl ⟨by rfl, ?_⟩) (by assumption) ?_
    rotate_left
    · (intro w hSw; (try dsimp only at hSw); go_simp; try (with_reducible rfl))
    (try simp only [Act.put])
    refine wpAnyH_ready (rs := [8]) (by kernel_rfl) (by simp) ?_
    refine AllReadyH.cons rfl (fun K hK => ?_) AllReadyH.nil
    go_simp
    go_at_call 17
    refine (picked_any which 9 _ hwh (by omega) (by omega)).mono ?_
    rintro e w' ⟨rfl, hw'⟩
    rw [hw']
    clear hw' w'
    refine hK.out _ _ (by assumption) (fun hHeld => ?_)
    clear hK K
    (try simp only [Act.put, List.setIfInBounds_toArray, List.set_cons_zero, List.set_cons_succ])
    refine wpAnyH_take (i := 9) (v := ?_) rfl (by kernel_rfl) (by kernel_rfl) (by kernel_rfl) (fun _ _ _ h => h) (Or.inl ⟨by rfl, ?_⟩) (by assumption) ?_
    rotate_left
    · (intro w hSw; (try dsimp only at hSw); go_simp; try (with_reducible rfl))
    (try simp only [Act.put, List.setIfInBounds_toArray])
    refine wpAnyH_take (i := 10) (v := ?_) rfl (by kernel_rfl) (by kernel_rfl) (by kernel_rfl) (fun _ _ _ h => h) (Or.inl ⟨by rfl, ?_⟩) (by assumption) ?_
    rotate_left
    · (intro w hSw; (try dsimp only at hSw); go_simp; try (with_reducible rfl))
    (try simp only [Act.put])
    have o0 := cell_alloc (show W6.drew.cell? _ = _ from zq)
    have o1 := cell_alloc (show W6.drew.cell? _ = _ from z2)
    refine wpAnyH_ready (rs := [11]) (by kernel_rfl) (by simp) ?_
    refine AllReadyH.cons rfl (fun K hK => ?_) AllReadyH.nil
    go_simp
    refine hK.out _ _ ⟨o0 _, o1 _⟩ (fun hHeld => ?_)
    clear hK K
    (try simp only [Act.put, List.setIfInBounds_toArray, List.set_cons_zero, List.set_cons_succ])
    refine wpAnyH_ready (rs := [12]) (by kernel_rfl) (by simp) ?_
    refine AllReadyH.cons rfl (fun K hK => ?_) AllReadyH.nil
    have HBW : Hid (Built (W6.alloc (.cells #[.int .i64 (20 + pickI which 9), .int .i64 0, .int .i64 0, .int .i64 0, .int .i64 0] 44)).drew W5.heap.size 42 44 (.slice (some ⟨g6, 0, none⟩) (rest.length + 1) cap6) (⟨fp, fr, fc⟩ :: rest) (.slice aoc6 fc.length capc6 :: us6')) := HBT6.out.below ((HBG.out.alloc (by omega) _).drew)
    have own' : (W6.alloc (.cells #[.int .i64 (20 + pickI which 9), .int .i64 0, .int .i64 0, .int .i64 0, .int .i64 0] 44)).drew.ownsRow W5.heap.size 44 5 (.slice aoc6 fc.length capc6) fc.length (codeCells fc) := HBW.out.codes 0 (by simp)
    have news' : ∀ (i : Nat) (u : Value), (insCells ⟨20 + pickI which 9, 0, 0, 0, 0⟩)[i]? = some u → (W6.alloc (.cells #[.int .i64 (20 + pickI which 9), .int .i64 0, .int .i64 0, .int .i64 0, .int .i64 0] 44)).drew.cell? ((⟨W6.heap.size, 0, none⟩ : Addr).add i) = some u := news_list W6 (insCells ⟨20 + pickI which 9, 0, 0, 0, 0⟩) _ _ rfl
    rw [hz6] at news'
    have hown6 := HBT6.out.codes 0 (by simp)
    refine step_append_lies _ (by rfl) (.tmp 63) (.tmp 68) 40 (by rfl) W5.heap.size 44 iI _ 5 40 Tryd.underlying40 hiI hzI0 hzI1 hzI2 rfl (by decide) (.slice aoc6 fc.length capc6) fc.length (codeCells fc) (by rfl) own' ⟨w6.heap.size + 1, 0, none⟩ 1 1 (insCells ⟨20 + pickI which 9, 0, 0, 0, 0⟩) (by rfl) rfl news' (fun u hu => codeCells_one [⟨20 + pickI which 9, 0, 0, 0, 0⟩] u (by simpa [codeCells] using hu)) (by omega) (by unfold maxLen; omega) (by omega) (by simp; omega) (w6.heap.size + 2) (by simp; omega) ?_
    intro g7 cap7 w7 hown7 hg7 hat7 hlt7
    have BP := bad_prog (by decide) HBW.out HCA6.out hg7 hown7
    have hrow : ∀ j, (Value.slice aoc6 fc.length capc6).ownBlock = some j → W5.heap.size ≤ j ∧ j < w6.heap.size := fun j hj => hown6.lt j hj
    have hneQ : some w6.heap.size ≠ (Value.slice aoc6 fc.length capc6).ownBlock := fun e => by have := hrow _ e.symm; omega
    have r0 := hg7.cell (o0 _) hneQ
    have r1 : w7.cell? ⟨g6, 2, none⟩ = some (.slice aoc6 fc.length capc6) := (World.cell?_of_block BP.1).trans (o1 _)
    have qf : w7.frozen? ⟨g6, 2, none⟩ = false := by
      have h1 : W6.heap[g6]? = w6.heap[g6]? := HBG.out.block g6 hgl6
      have h2 : (W6.alloc (.cells #[.int .i64 (20 + pickI which 9), .int .i64 0, .int .i64 0, .int .i64 0, .int .i64 0] 44)).drew.heap[g6]? = W6.heap[g6]? := heap_alloc_old W6 _ (by omega)
      have h3 := (BP.1.trans h2).trans h1
      have h4 := HFZ6.out
      simp only [World.frozen?] at h4 ⊢
      rw [h3]
      exact h4
    refine hK.out _ _ ⟨r0, r1⟩ (fun hHeld => ?_)
    clear hK K
    (try simp only [List.getElem_toArray, List.getElem_cons_succ, List.getElem_cons_zero])
    (try simp only [Act.put, List.setIfInBounds_toArray, List.set_cons_zero, List.set_cons_succ])
    refine wpAnyH_take (i := 13) (v := ?_) rfl (by kernel_rfl) (by kernel_rfl) (by kernel_rfl) (fun _ _ _ h => h) (Or.inl ⟨by rfl, ?_⟩) (by assumption) ?_
    rotate_left
    · (intro w hSw; (try dsimp only at hSw); go_simp; try (with_reducible rfl))
    (try simp only [Act.put, List.setIfInBounds_toArray])
    refine wpAnyH_take (i := 14) (v := ?_) rfl (by kernel_rfl) (by kernel_rfl) (by kernel_rfl) (fun _ _ _ h => h) (Or.inl ⟨by rfl, ?_⟩) (by assumption) ?_
    rotate_left
    · (intro w hSw; (try dsimp only at hSw); go_simp; try (with_reducible rfl))
    (try simp only [Act.put])
    refine wpAnyH_done (by kernel_rfl) ?_ _
    refine Or.inl ?_
    (try simp only [List.getElem_toArray, List.getElem_cons_succ, List.getElem_cons_zero])
    go_simp
    have HP7 : Hid (ProgVal (w7.setCell ⟨g6, 2, none⟩ (.slice (some ⟨g7, 0, none⟩) (fc.length + 1) cap7)) (.slice (some ⟨g6, 0, none⟩) (rest.length + 1) cap6) (⟨fp, fr, fc ++ [⟨20 + pickI which 9, 0, 0, 0, 0⟩]⟩ :: rest)) := BP.2
    have HB7 : Hid (Below W5.heap.size W5 (w7.setCell ⟨g6, 2, none⟩ (.slice (some ⟨g7, 0, none⟩) (fc.length + 1) cap7))) := (((HB6'.out.alloc (by omega) _).drew).grown hg7 (by simp; omega) (fun j hj => (hrow j hj).1)).setCell hg6 _
    have HQ7 : Hid ((w7.setCell ⟨g6, 2, none⟩ (.slice (some ⟨g7, 0, none⟩) (fc.length + 1) cap7)).heap[w6.heap.size]? = some (.cells #[.slice (some ⟨g6, 0, none⟩) (rest.length + 1) cap6] 26 (0, 0))) :=
      (Below.heap_setCell _ _ _ _ (by simp; omega)).trans ((hg7.block _ (by simp; omega) hneQ).trans ((heap_alloc_old W6 _ (by omega)).trans q6))
    have HC7 : Hid (codeProg (⟨fp, fr, fc ++ [⟨20 + pickI which 9, 0, 0, 0, 0⟩]⟩ :: rest) = 3) := bad_code (f0 := ⟨fp, fr, fc⟩) HOK.out (by show fc.length ≤ 39; omega) (badOp_code _ _ _ _ pb.1) (by omega)
    clear BP hHeld r0 r1 qf o0 o1 own' news' HBW hown6 hown7 hg7 hat7 hlt7 hrow hneQ z2 zq q6 HBG HB6' hz6 HBT6 HCA6 HFZ6 B6 hgl6 hg6 hbz w20 pb
    generalize w7.setCell ⟨g6, 2, none⟩ (.slice (some ⟨g7, 0, none⟩) (fc.length + 1) cap7) = W7 at HP7 HB7 HQ7 ⊢
    have BW7 : Hid (Below w.heap.size w W7) := BW5.out.trans (HB7.out.mono BW5.out.size)
    have hb5 := lt_of_block HQ2.out
    have hb6 := lt_of_block HQ5.out
    have HW7 : Hid (Below w1.heap.size w1 W7) := (HW2.out.trans (HB5.out.mono HW2.out.size)).trans (HB7.out.mono (Nat.le_trans HW2.out.size HB5.out.size))
    have HPp : Hid (ProgVal W7 (.slice (some ⟨g1, 0, none⟩) (rest.length + 1) cap1) (⟨fp, fr, fc⟩ :: rest)) := HBT1.out.prog.keeps (keeps_below HW7.out)
    have HPq : Hid (ProgVal W7 (.slice (some ⟨g3, 0, none⟩) (rest.length + 1) cap3) (⟨fp, fr, fc ++ [⟨xo, xd, xa, xb, xi⟩]⟩ :: rest)) := ProgVal.keeps HP5.out (keeps_below HB7.out)
    have kp : W7.cell? ⟨w1.heap.size, 0, none⟩ = some (.slice (some ⟨g1, 0, none⟩) (rest.length + 1) cap1) := cell_of_one ((HB7.out.block _ (Nat.lt_of_lt_of_le hb5 HB5.out.size)).trans ((HB5.out.block _ hb5).trans HQ2.out))
    have kq : W7.cell? ⟨w3.heap.size, 0, none⟩ = some (.slice (some ⟨g3, 0, none⟩) (rest.length + 1) cap3) := cell_of_one ((HB7.out.block _ hb6).trans HQ5.out)
    have kr := cell_of_one HQ7.out
    have HCp : Hid (∀ W, Below W7.heap.size W7 W → Calls Tryd.prog 16 #[.agg #[.slice (some ⟨g1, 0, none⟩) (rest.length + 1) cap1]] W fun e w' => e = .returned (.int .i64 0) ∧ Below W.heap.size W w') := fun W hW => by
      have h := check_any _ _ W ((HT.out.below BW7.out).below hW) (ProgVal.keeps HPp.out (keeps_below hW))
      rw [HOK.out] at h
      exact h
    have HCq : Hid (∀ W, Below W7.heap.size W7 W → Calls Tryd.prog 16 #[.agg #[.slice (some ⟨g3, 0, none⟩) (rest.length + 1) cap3]] W fun e w' => e = .returned (.int .i64 2) ∧ Below W.heap.size W w') := fun W hW => by
      have h := check_any _ _ W ((HT.out.below BW7.out).below hW) (ProgVal.keeps HPq.out (keeps_below hW))
      rw [HC5.out] at h
      exact h
    have HCr : Hid (∀ W, Below W7.heap.size W7 W → Calls Tryd.prog 16 #[.agg #[.slice (some ⟨g6, 0, none⟩) (rest.length + 1) cap6]] W fun e w' => e = .returned (.int .i64 3) ∧ Below W.heap.size W w') := fun W hW => by
      have h := check_any _ _ W ((HT.out.below BW7.out).below hW) (ProgVal.keeps HP7.out (keeps_below hW))
      rw [HC7.out] at h
      exact h
    clear HPp HPq HP5 HP7 HC5 HC7 HB5 HB7 HQ2 HQ5 HQ7 HBT1 HW2 HW7 BW2 BW5 HSH HOK HT B1 hb5 hb6
    have B0 : Hid (Below W7.heap.size W7 W7) := Below.refl _ _
    go_wp2_with (first
      | (go_at_call 16; have h := HCp.out; refine (h _ B0.out).mono ?_; clear h HCp; rintro e w8 ⟨rfl, hb8⟩; have B8 : Hid (Below W7.heap.size W7 w8) := hb8; have kq8 := keeps_below hb8 _ _ kq; have kr8 := keeps_below hb8 _ _ kr; clear hb8)
      | (go_at_call 16; have h := HCq.out; refine (h _ B8.out).mono ?_; clear h HCq; rintro e w9 ⟨rfl, hb9⟩; have B9 : Hid (Below W7.heap.size W7 w9) := B8.out.trans (hb9.mono B8.out.size); have kr9 := keeps_below hb9 _ _ kr8; clear hb9)
      | (go_at_call 16; have h := HCr.out; refine (h _ B9.out).mono ?_; clear h HCr; rintro e w10 ⟨rfl, hb10⟩; have B10 : Hid (Below W7.heap.size W7 w10) := B9.out.trans (hb10.mono B9.out.size); clear hb10))
    go_ret
    exact ⟨rfl, BW7.out.trans (B10.out.mono BW7.out.size)⟩

end Go.Proofs.YtjckpdeogbamjaaDoor
