import Derived.Test.YtldbmdgpdolaaaaGreatDoorPXBrief
import Derived.Test.YtldbmdgpdolaaaaGreatDoorPXFoldRound
namespace Go.Proofs.YtldbmdgpdolaaaaGreatDoor
open Go Go.RowKit

theorem infoFactL : (Tryz.prog.info? 65).map (fun i => (i.zero, i.size, i.bytes)) = some (some (.agg #[.int .i64 0, .int .i64 0]), 2, 16) := by kernel_rfl
theorem own_heapG {w : World} {base t g n s : Nat} {xs : List Value} (h : w.ownsRow base t s (.slice (some ⟨g, 0, none⟩) n n) n xs) : w.heap[g]? = some (.cells xs.toArray t (0, 0)) := by
  rcases h.2 with ⟨h2, _⟩ | ⟨g', cap, cur, hv, _, hg, _, _, hs, ht⟩
  · cases h2
  · simp at hv
    obtain ⟨rfl, rfl⟩ := hv
    rw [hg]
    have : cur = xs.toArray := by
      apply Array.ext'
      rw [← ht, List.take_of_length_le (by simp [hs])]
    rw [this]
theorem made_facts (k : Nat) : (madeCells (Value.agg #[.int .i64 0, .int .i64 0]).cells (k * 2)).toList = gC (fun _ => factC .never) k := by
  refine gC_ext (fun i _ => factC_len _) (by simp [madeCells]) fun i c hi hc => ?_
  simp only [madeCells, Value.cells]
  have h1 : i * 2 + c < k * 2 := by omega
  have h2 : (i * 2 + c) % 2 = c := by omega
  simp [h1, h2]
  rcases (show c = 0 ∨ c = 1 by omega) with rfl | rfl <;> rfl
theorem ready_make {P : Program} {w : World} {o : Oper} {a : Act} {Kk : Act → World → Prop} {Q : Exit → Act → World → Prop} {X : Prop} {ys : Nat → Option Bool} (hw : Region.wanted o ys = true) (l c : Operand) (t : TypeId) (hop : o.op = Op.makeSlice t l c)
    (e : TypeId) (i : TypeInfo) (z : Value) (size : Nat) (h1 : P.underlying t = some (.slice e)) (h2 : P.info? e = some i) (h3 : i.zero = some z) (h4 : i.size = size) (n : Nat) (hl : a.eval l = .int .i64 (n : Int)) (hc : a.eval c = .int .i64 (n : Int)) (b2 : i.bytes * n ≤ 281474976710656) (b3 : n ≤ maxLen)
    (hK : ∀ w', w'.ownsRow 0 e size (.slice (some ⟨w.heap.size, 0, none⟩) n n) n (madeCells z.cells (n * size)).toList → w.grownBy w' none → Kk (a.put o.dst (.slice (some ⟨w.heap.size, 0, none⟩) n n)) w') : if Region.wanted o ys = true then Oper.wp P o a w Kk Q else X := by
  rw [if_pos hw]
  obtain ⟨w', hrun, r1, r2⟩ := run_make_full (P := P) w 0 t e i z size h1 h2 h3 h4 .i64 .i64 n b2 b3 (Nat.zero_le _)
  unfold Oper.wp
  simp [execOp, hop, hl, hc, hrun, Result.andThen]
  exact hK _ r1 r2
theorem ready_makeMap {P : Program} {w : World} {o : Oper} {a : Act} {Kk : Act → World → Prop} {Q : Exit → Act → World → Prop} {X : Prop} {ys : Nat → Option Bool} (hw : Region.wanted o ys = true) (t : TypeId) (hop : o.op = Op.makeMap t none)
    (hK : Kk (a.put o.dst (.map (some w.heap.size))) (w.alloc (.map #[] 0))) : if Region.wanted o ys = true then Oper.wp P o a w Kk Q else X := by
  rw [if_pos hw]
  have hrun := run_makeMap (P := P) t w
  unfold Oper.wp
  simp [execOp, hop, hrun, Result.andThen]
  exact hK
theorem ready_insert {H : Type} {P : Program} {w : World} {o : Oper} {a : Act} {Kk : Act → World → Prop} {Q : Exit → Act → World → Prop} {X : Prop} {ys : Nat → Option Bool} (hw : Region.wanted o ys = true) (m x v : Operand) (t : TypeId) (hop : o.op = Op.insert t m x v)
    (k e : TypeId) (K : Maps.Keyed P k) (ht : P.underlying t = some (.map k e)) (R : Value → Option (DataW H × List MemPlace)) (b n : Nat) (D : DataW H)
    (hm : a.eval m = .map (some b)) (hown : w.ownsMap P k R b n D) (hn : n < maxLen) (key val : Value) (kl : Lit) (hx : a.eval x = key) (hv : a.eval v = val) (hkey : keyOf P k key = some kl)
    (d : DataW H) (ps : List MemPlace) (hval : R val = some (d, ps))
    (hK : ∀ w', w'.ownsMap P k R b (n + 1) (D.put kl d) → w.grownBy w' (some b) → Kk (a.put o.dst undef) w') : if Region.wanted o ys = true then Oper.wp P o a w Kk Q else X := by
  rw [if_pos hw]
  obtain ⟨w', hrun, r1, r2⟩ := hown.update K ht hn hkey hval
  unfold Oper.wp
  simp [execOp, hop, hm, hx, hv, hrun, Result.andThen]
  exact hK _ r1 r2
def LearnPost (w : World) (c : FC) (gp gB : Nat) (e : Ending) (w' : World) : Prop :=
  ∃ (K FB MB : Nat) (F : Facts) (G : Ways), e = .returned (.pointer (some ⟨K, 0, none⟩)) ∧ KnAt w' K gp c.n gB c.VN FB MB F G ∧ Below w.heap.size w w' ∧ GOk G ∧ c.know.Inv F G ∧ c.know.Closed F G ∧ w.heap.size ≤ FB
set_option maxRecDepth 100000 in
set_option maxHeartbeats 8000000 in
theorem learn_any {gB gp : Nat} {c : FC} {FF TT : Nat → Int} {VV : Nat → Value} (w : World) (hc : c.Ok) (HMEM : FcMem c gp gB FF TT VV w) (hG : KnowG w) (hpar : c.par ≤ c.VN) :
    Calls Tryz.prog 30 #[.agg #[.int .i64 (c.par : Int), .int .i64 (c.VN : Int), .slice (some ⟨gp, 0, none⟩) c.n c.n], .slice (some ⟨gB, 0, none⟩) c.n c.n] w (LearnPost w c gp gB) := by
  have HP : Hid (∀ e w', (∃ (K FB MB : Nat) (F : Facts) (G : Ways), e = .returned (.pointer (some ⟨K, 0, none⟩)) ∧ KnAt w' K gp c.n gB c.VN FB MB F G ∧ Below w.heap.size w w' ∧ GOk G ∧ c.know.Inv F G ∧ c.know.Closed F G ∧ w.heap.size ≤ FB) → LearnPost w c gp gB e w') := fun _ _ h => h
  have HB0 : Hid (Below w.heap.size w (w.alloc (.cells #[.int .i64 (c.par : Int), .int .i64 (c.VN : Int), .slice (some ⟨gp, 0, none⟩) c.n c.n] 55))) := (Below.refl _ _).alloc (Nat.le_refl _) _
  have r2 : (w.alloc (.cells #[.int .i64 (c.par : Int), .int .i64 (c.VN : Int), .slice (some ⟨gp, 0, none⟩) c.n c.n] 55)).heap[w.heap.size]? = some (.cells #[.int .i64 (c.par : Int), .int .i64 (c.VN : Int), .slice (some ⟨gp, 0, none⟩) c.n c.n] 55 (0, 0)) := heap_alloc_last _ _
  have HC : Hid c.Ok := hc
  have HM0 : Hid (FcMem c gp gB FF TT VV w) := HMEM
  have HGG : Hid (KnowG w) := hG
  have hn40 := hc.n40
  have hvn := hc.vn
  clear hc HMEM hG
  go_enter Tryz.func30, Tryz.ntmps30
  go_upto_region 1 with fail
  generalize (w.alloc (.cells #[.int .i64 (c.par : Int), .int .i64 (c.VN : Int), .slice (some ⟨gp, 0, none⟩) c.n c.n] 55)) = V at *
  have s0 : V.cell? ⟨w.heap.size, 0, none⟩ = some (.int .i64 (c.par : Int)) := by rw [cell_of_row _ _ _ _ _ _ r2]; rfl
  have s1 : V.cell? ⟨w.heap.size, 1, none⟩ = some (.int .i64 (c.VN : Int)) := by rw [cell_of_row _ _ _ _ _ _ r2]; rfl
  have s2 : V.cell? ⟨w.heap.size, 2, none⟩ = some (.slice (some ⟨gp, 0, none⟩) c.n c.n) := by rw [cell_of_row _ _ _ _ _ _ r2]; rfl
  obtain ⟨iF, hiF, hzF0, hzF1, hzF2⟩ := info_parts infoFactL
  have hkey : keyOf Tryz.prog 124 (.agg #[.int .i64 (-1), .int .i64 0]) = some (wayL (-1) 0) := keyOf_way ⟨by omega, by omega⟩ ⟨by omega, by omega⟩
  refine wp_region_held_drew (S := fun W => Below V.heap.size V W) (by kernel_rfl) ((Below.refl _ _).drew) (fun hHeld => ?_)
  show wpAnyH _ _ _ _ _ 14 _ _ _
  refine wpAnyH_take (i := 0) (v := ?_) rfl (by kernel_rfl) (by kernel_rfl) (by kernel_rfl) (fun _ _ _ h => h) (Or.inl ⟨by rfl, ?_⟩) (by assumption) ?_
  rotate_left
  · (intro W hSW; go_simp; try (with_reducible rfl))
  (try simp only [zB])
  (try simp only [zA])
  refine wpAnyH_take (i := 1) (v := ?_) rfl (by kernel_rfl) (by kernel_rfl) (by kernel_rfl) (fun _ _ _ h => h) (Or.inl ⟨by rfl, ?_⟩) (by assumption) ?_
  rotate_left
  · (intro W hSW; have z0 := keeps_below hSW _ _ s2; go_simp; try (with_reducible rfl))
  (try simp only [zB])
  (try simp only [zA])
  refine wpAnyH_take (i := 2) (v := ?_) rfl (by kernel_rfl) (by kernel_rfl) (by kernel_rfl) (fun _ _ _ h => h) (Or.inl ⟨by rfl, ?_⟩) (by assumption) ?_
  rotate_left
  · (intro W hSW; go_simp; try (with_reducible rfl))
  (try simp only [zB])
  (try simp only [zA])
  refine wpAnyH_take (i := 3) (v := ?_) rfl (by kernel_rfl) (by kernel_rfl) (by kernel_rfl) (fun _ _ _ h => h) (Or.inl ⟨by rfl, ?_⟩) (by assumption) ?_
  rotate_left
  · (intro W hSW; go_simp; try (with_reducible rfl))
  (try simp only [zB])
  (try simp only [zA])
  refine wpAnyH_take (i := 4) (v := ?_) rfl (by kernel_rfl) (by kernel_rfl) (by kernel_rfl) (fun _ _ _ h => h) (Or.inl ⟨by rfl, ?_⟩) (by assumption) ?_
  rotate_left
  · (intro W hSW; have z0 := keeps_below hSW _ _ s1; go_simp; try (with_reducible rfl))
  (try simp only [zB])
  (try simp only [zA])
  refine wpAnyH_take (i := 7) (v := ?_) rfl (by kernel_rfl) (by kernel_rfl) (by kernel_rfl) (fun _ _ _ h => h) (Or.inl ⟨by rfl, ?_⟩) (by assumption) ?_
  rotate_left
  · (intro W hSW; go_simp; try (with_reducible rfl))
  (try simp only [zB])
  (try simp only [zA])
  refine wpAnyH_take (i := 8) (v := ?_) rfl (by kernel_rfl) (by kernel_rfl) (by kernel_rfl) (fun _ _ _ h => h) (Or.inl ⟨by rfl, ?_⟩) (by assumption) ?_
  rotate_left
  · (intro W hSW; go_simp; try (with_reducible rfl))
  (try simp only [zB])
  (try simp only [zA])
  refine wpAnyH_ready (rs := [5, 6]) (by kernel_rfl) (by simp) ?_
  refine AllReadyH.cons rfl (fun Kk hK => ?_) (AllReadyH.cons rfl (fun Kk hK => ?_) AllReadyH.nil)
  · refine ready_make (by kernel_rfl) (.tmp 11) (.tmp 11) 50 rfl 65 iF _ 2 Tryz.underlying50 hiF hzF0 hzF1 c.VN rfl rfl (by rw [hzF2]; omega) (by unfold maxLen; omega) ?_
    intro wM hownM hgM
    have hBM : Below V.heap.size V wM := hHeld.trans ((below_grown hgM).mono hHeld.size)
    have hFB : wM.heap[V.drew.heap.size]? = some (.cells (gC (fun _ => factC .never) c.VN).toArray 65 (0, 0)) := by have := own_heapG hownM; rw [made_facts] at this; exact this
    refine hK.out _ _ hBM (fun _ => ?_)
    clear hK Kk
    (try clear hHeld)
    have hHeld := hBM
    (try simp only [zA])
    refine wpAnyH_ready (rs := [6]) (by kernel_rfl) (by simp) ?_
    refine AllReadyH.cons rfl (fun Kk hK => ?_) AllReadyH.nil
    refine ready_makeMap (by kernel_rfl) 101 rfl ?_
    have hBP : Below V.heap.size V (wM.alloc (.map #[] 0)) := hHeld.alloc hHeld.size _
    have hMP : WMapAt (wM.alloc (.map #[] 0)) wM.heap.size 0 (.map [] : Dat) := World.ownsMap_made _ _ _ _
    have hFP := (((Below.refl wM.heap.size wM).alloc (Nat.le_refl _) (.map #[] 0)).block _ (lt_of_block hFB)).trans hFB
    refine hK.out _ _ hBP (fun _ => ?_)
    clear hK Kk
    (try clear hHeld)
    have hHeld := hBP
    (try simp only [Act.put])
    refine wpAnyH_ready (rs := [9]) (by kernel_rfl) (by simp) ?_
    refine AllReadyH.cons rfl (fun Kk hK => ?_) AllReadyH.nil
    refine ready_insert (by kernel_rfl) (.tmp 13) (.tmp 14) (.tmp 15) 101 rfl 124 125 lawWay Tryz.underlying101 emptyR (wM.heap.size) 0 (.map [] : Dat) rfl hMP (by unfold maxLen; omega) _ _ _ rfl rfl hkey _ [] emptyR_ok ?_
    intro wI hownI hgI
    have hBI : Below V.heap.size V wI := below_grownK hHeld hgI hBM.size hHeld.size
    refine hK.out _ _ hBI (fun _ => ?_)
    clear hK Kk
    (try clear hHeld)
    have hHeld := hBI
    (try simp only [Act.put])
    refine wpAnyH_take (i := 10) (v := ?_) rfl (by kernel_rfl) (by kernel_rfl) (by kernel_rfl) (fun _ _ _ h => h) (Or.inl ⟨by rfl, ?_⟩) (by assumption) ?_
    rotate_left
    · (intro W hSW; go_simp; try (with_reducible rfl))
    (try simp only [zB])
    (try simp only [zA])
    refine wpAnyH_take (i := 11) (v := ?_) rfl (by kernel_rfl) (by kernel_rfl) (by kernel_rfl) (fun _ _ _ h => h) (Or.inl ⟨by rfl, ?_⟩) (by assumption) ?_
    rotate_left
    · (intro W hSW; go_simp; try (with_reducible rfl))
    (try simp only [zB])
    (try simp only [zA])
    refine wpAnyH_ready (rs := [12]) (by kernel_rfl) (by simp) ?_
    refine AllReadyH.cons rfl (fun Kk hK => ?_) AllReadyH.nil
    go_simp
    obtain ⟨WX, hWX⟩ : ∃ WX, WX = (wI.alloc (.cells #[.slice (some ⟨gp, 0, none⟩) c.n c.n, .slice (some ⟨gB, 0, none⟩) c.n c.n, .slice (some ⟨V.drew.heap.size, 0, none⟩) c.VN c.VN, .map (some (wM.heap.size))] 103)) := ⟨_, rfl⟩
    have hbx : Below wI.heap.size wI WX := by rw [hWX]; exact (Below.refl _ _).alloc (Nat.le_refl _) _
    have HBX : Below V.heap.size V WX := hHeld.trans (hbx.mono hHeld.size)
    have hwm := WaysMap.nil.add Maps.tidy_empty (a := -1) (b := 0) ⟨by omega, by omega⟩ ⟨by omega, by omega⟩ (.agg [])
    rw [show addW [] ((-1 : Int), (0 : Int)) = [(-1, 0)] by simp [addW]] at hwm
    have hex : ∃ FB MB, KnAt WX wI.heap.size gp c.n gB c.VN FB MB (fun _ => .never) [(-1, 0)] ∧ V.heap.size ≤ FB ∧ V.heap.size ≤ MB ∧ wI.heap.size ≠ FB := ⟨V.drew.heap.size, wM.heap.size, ⟨by rw [hWX]; exact heap_alloc_last _ _, (hbx.block _ (lt_of_block (gblock hgI hFP (Nat.ne_of_lt (lt_of_block hFB))))).trans (gblock hgI hFP (Nat.ne_of_lt (lt_of_block hFB))), _, by rw [hWX]; exact World.ownsMap.alloc (hownI) _, hwm⟩, Nat.le_refl _, hBM.size, Nat.ne_of_gt (lt_of_block (gblock hgI hFP (Nat.ne_of_lt (lt_of_block hFB))))⟩
    show Kk _ (wI.alloc (.cells #[.slice (some ⟨gp, 0, none⟩) c.n c.n, .slice (some ⟨gB, 0, none⟩) c.n c.n, .slice (some ⟨V.drew.heap.size, 0, none⟩) c.VN c.VN, .map (some (wM.heap.size))] 103))
    rw [← hWX]
    clear hWX
    refine hK.out _ _ HBX (fun _ => ?_)
    clear hK Kk
    (try clear hHeld)
    have hHeld := HBX
    (try simp only [zA])
    refine wpAnyH_take (i := 13) (v := ?_) rfl (by kernel_rfl) (by kernel_rfl) (by kernel_rfl) (fun _ _ _ h => h) (Or.inl ⟨by rfl, ?_⟩) (by assumption) ?_
    rotate_left
    · (intro W hSW; go_simp; try (with_reducible rfl))
    (try simp only [zB])
    (try simp only [zA])
    refine wpAnyH_done (by kernel_rfl) ?_ _
    have HBV : Hid (Below w.heap.size w WX) := HB0.out.trans (HBX.mono HB0.out.size)
    have HBV0 : V.heap.size ≤ WX.heap.size := HBX.size
    have s0x := keeps_below HBX _ _ s0
    obtain ⟨FB, MB, hkn, hfb, hmb, hne⟩ := hex
    have HKN : Hid (KnAt WX wI.heap.size gp c.n gB c.VN FB MB (fun _ => .never) [(-1, 0)]) := hkn
    have HNE : Hid (w.heap.size ≤ FB ∧ w.heap.size ≤ MB ∧ wI.heap.size ≠ FB) := ⟨Nat.le_trans HB0.out.size hfb, Nat.le_trans HB0.out.size hmb, hne⟩
    clear hkn hfb hmb hne hHeld HBX hbx hwm s0 s1 s2 hkey hiF hzF0 hzF1 hzF2 r2
    (try clear hownM hgM hBM hFB)
    (try clear hownI hgI hBI)
    (try clear hMP)
    (try clear hMPM)
    (try clear hBP)
    (try clear hFP)
    (try clear hFB)
    (try clear hF1)
    generalize wI.heap.size = K at *
    go_upto_region 3 with fail
    clear s0x
    go_loopw [21] (fun i wr => ∃ q : Nat, q ≤ c.par ∧ i = .int .i64 q ∧ KnAt wr K gp c.n gB c.VN FB MB (fun v => if v < q then .many else .never) [(-1, 0)] ∧ Below w.heap.size w wr) (fun i _ => c.par - (intOf i).toNat)
    case atStart =>
      have h := HKN.out
      rw [show (fun _ : Nat => FV.never) = (fun v : Nat => if v < 0 then FV.many else FV.never) from funext fun v => (if_neg (Nat.not_lt_zero v)).symm] at h
      exact ⟨0, Nat.zero_le _, rfl, h, HBV.out⟩
    case round =>
      clear HKN HBV HBV0
      obtain ⟨q, hq, rfl, hk1, hw1⟩ := hrel
      rename World => V1
      have HK1 : Hid (KnAt V1 K gp c.n gB c.VN FB MB (fun v => if v < q then .many else .never) [(-1, 0)]) := hk1
      have HW1 : Hid (Below w.heap.size w V1) := hw1
      clear hk1 hw1
      by_cases hlq : q < c.par
      · have hqI : (q : Int) < c.par := by omega
        have hqV : (q : Int) < c.VN := by omega
        have HQV : Hid (q < c.VN) := by show _ < _; omega
        have HTH : Hid (∀ W, Below V1.heap.size V1 W → W.there FB (q * 2) 2) := fun W hW => (HK1.out.below hW).there HQV.out
        have k2 : V1.cell? ⟨K, 2, none⟩ = some (.slice (some ⟨FB, 0, none⟩) c.VN c.VN) := by rw [cell_of_row _ _ _ _ _ _ HK1.out.box]; rfl
        obtain ⟨-, hgm⟩ := HGG.out.below HW1.out
        go_upto_region 5 with fail
        refine wp_region_last (S := fun W => Below V1.heap.size V1 W) _ 7 (by kernel_rfl) (by kernel_rfl) rfl ((Below.refl _ _).drew) (fun hHeld => ?_)
        simp only [List.pop_toArray, List.dropLast]
        refine wpAnyH_take (i := 0) (v := ?_) rfl (by kernel_rfl) (by kernel_rfl) (by kernel_rfl) (fun _ _ _ h => h) (Or.inl ⟨by rfl, ?_⟩) (by assumption) ?_
        rotate_left
        · (intro W hSW; go_simp; try (with_reducible rfl))
        (try simp only [zB])
        (try simp only [zA])
        refine wpAnyH_take (i := 1) (v := ?_) rfl (by kernel_rfl) (by kernel_rfl) (by kernel_rfl) (fun _ _ _ h => h) (Or.inl ⟨by rfl, ?_⟩) (by assumption) ?_
        rotate_left
        · (intro W hSW; go_simp; try (with_reducible rfl))
        (try simp only [zB])
        (try simp only [zA])
        refine wpAnyH_take (i := 2) (v := ?_) rfl (by kernel_rfl) (by kernel_rfl) (by kernel_rfl) (fun _ _ _ h => h) (Or.inl ⟨by rfl, ?_⟩) (by assumption) ?_
        rotate_left
        · (intro W hSW; go_simp; try (with_reducible rfl))
        (try simp only [zB])
        (try simp only [zA])
        refine wpAnyH_take (i := 3) (v := ?_) rfl (by kernel_rfl) (by kernel_rfl) (by kernel_rfl) (fun _ _ _ h => h) (Or.inl ⟨by rfl, ?_⟩) (by assumption) ?_
        rotate_left
        · (intro W hSW; have z0 := keeps_below hSW _ _ k2; go_simp; try (with_reducible rfl))
        (try simp only [zB])
        (try simp only [zA])
        refine wpAnyH_take (i := 4) (v := ?_) rfl (by kernel_rfl) (by kernel_rfl) (by kernel_rfl) (fun _ _ _ h => h) (Or.inl ⟨by rfl, ?_⟩) (by assumption) ?_
        rotate_left
        · (intro W hSW; go_simp; try (with_reducible rfl))
        (try simp only [zB])
        (try simp only [zA])
        refine wpAnyH_take (i := 5) (v := .agg [.int .i64 2, .int .i64 0].toArray) rfl (by kernel_rfl) (by kernel_rfl) (by kernel_rfl) (fun _ _ _ h => h) (yieldsIf_load_mid (by rfl) 65 _ rfl (0) (0) rfl [.int .i64 2, .int .i64 0] _ (fun W hSW j u hu => keeps_below hSW _ _ (hgm j u hu)) Tryz.underlying65 rfl infoFact) (by assumption) ?_
        (try simp only [zB])
        (try simp only [zA])
        refine wpAnyH_take (i := 6) (v := ?_) rfl (by kernel_rfl) (by kernel_rfl) (by kernel_rfl) (fun _ _ _ h => h) (Or.inl ⟨by rfl, ?_⟩) (by assumption) ?_
        rotate_left
        · (intro W hSW; go_simp; try (with_reducible rfl))
        (try simp only [zB])
        (try simp only [zA])
        refine wpAnyH_done (by kernel_rfl) ?_ _
        refine Or.inl ?_
        refine wp_store_mid 65 _ _ rfl FB (q * 2) #[.int .i64 2, .int .i64 0] rfl rfl (HTH.out _ hHeld) infoFact (by simp [Value.oneCell']) ?_
        (try simp only [Act.put])
        have HKW := ((HK1.out.below hHeld).set HQV.out HNE.out.2.2 .many)
        have HW2 := HW1.out.trans (hHeld.mono HW1.out.size)
        have HW3 := below_grownK HW2 HKW.2 HNE.out.1 HW2.size
        have hkw := HKW.1
        rw [show updF (fun v : Nat => if v < q then FV.many else FV.never) q .many = (fun v : Nat => if v < q + 1 then FV.many else FV.never) from funext fun v => by
          by_cases e : v = q
          · rw [e, updF_same, if_pos (by omega)]
          · rw [updF_other _ _ e]
            by_cases h : v < q
            · rw [if_pos h, if_pos (by omega)]
            · rw [if_neg h, if_neg (by omega)]] at hkw
        have HFIN := fun (j : Nat) (h : j = q + 1) => (⟨by omega, hkw, HW3⟩ : q + 1 ≤ c.par ∧ KnAt _ K gp c.n gB c.VN FB MB (fun v => if v < q + 1 then .many else .never) [(-1, 0)] ∧ Below w.heap.size w _)
        have HFIN : Hid (∀ j : Nat, j = q + 1 → _) := HFIN
        clear HKW HW2 HW3 hkw hHeld k2 hgm
        go_wp2
        go_roundw
        case rel => exact ⟨q + 1, (HFIN.out _ rfl).1, by go_num, (HFIN.out _ rfl).2⟩
        case measure => simp [intOf]; omega
      · obtain rfl : q = c.par := by omega
        have HI0 : Hid (c.know.Inv (fun v => if v < c.par then .many else .never) [(-1, 0)]) := Know.Inv.new HC.out.know
        have HG0 : Hid (GOk [((-1 : Int), (0 : Int))]) := ⟨by simp, fun x hx => by rw [List.mem_singleton.1 hx]; exact ⟨⟨by omega, by omega⟩, ⟨by omega, by omega⟩⟩⟩
        have hs2 := sumF_two (fun v => if v < c.par then FV.many else FV.never) c.VN
        clear hlq hq
        go_wp2
        go_loopg [33] (2 * c.VN + 4100002 - (sumF (fun v => if v < c.par then FV.many else FV.never) c.VN + 1)) (fun m _ wr => ∃ (F : Facts) (G : Ways), m + (sumF F c.VN + G.length) = 2 * c.VN + 4100002 ∧ KnAt wr K gp c.n gB c.VN FB MB F G ∧ Below w.heap.size w wr ∧ GOk G ∧ c.know.Inv F G)
        case atStart => exact ⟨_, _, by simp only [List.length_singleton]; omega, HK1.out, HW1.out, HG0.out, HI0.out⟩
        case round =>
          clear HK1 HW1 HG0 HI0 hs2
          obtain ⟨F, G, hm, hk2, hw2, hg2, hi2⟩ := hrel
          rename World => V2
          have hr := round_any V2 HC.out HM0.out hw2 hk2 hg2 hi2 HNE.out.2.2 HNE.out.1 HNE.out.2.1
          have HMM : Hid (_ + (sumF F c.VN + G.length) = 2 * c.VN + 4100002) := hm
          clear hm hk2 hw2 hg2 hi2
          go_wp2_with (go_at_call 52; refine hr.mono ?_; rintro e V3 hP3; obtain ⟨r, F', G', rfl, hk3, hw3, hg3, hi3, hmore, hcl⟩ := hP3; have HR : Hid (KnAt V3 K gp c.n gB c.VN FB MB F' G' ∧ Below w.heap.size w V3 ∧ GOk G' ∧ c.know.Inv F' G' ∧ (r = true → sumF F c.VN + G.length < sumF F' c.VN + G'.length) ∧ (r = false → F' = F ∧ G' = G ∧ c.know.Closed F G)) := ⟨hk3, hw3, hg3, hi3, hmore, hcl⟩; clear hk3 hw3 hg3 hi3 hmore hcl)
          · have hrt : r = true := by assumption
            have hm1 := HMM.out
            have hm2 := HR.out.2.2.2.2.1 hrt
            have hm3 := sumF_two F' c.VN
            have hm4 := HR.out.2.2.1.len
            go_roundg (2 * c.VN + 4100002 - (sumF F' c.VN + G'.length))
            case measure => omega
            case rel => exact ⟨F', G', by omega, HR.out.1, HR.out.2.1, HR.out.2.2.1, HR.out.2.2.2.1⟩
          · have hrf : r = false := by assumption
            go_ret
            exact HP.out _ _ ⟨K, FB, MB, F', G', rfl, HR.out.1, HR.out.2.1, HR.out.2.2.1, HR.out.2.2.2.1, by obtain ⟨e1, e2, h⟩ := HR.out.2.2.2.2.2 hrf; rw [e1, e2]; exact h, HNE.out.1⟩
  · refine ready_makeMap (by kernel_rfl) 101 rfl ?_
    have hBP : Below V.heap.size V (V.drew.alloc (.map #[] 0)) := hHeld.alloc hHeld.size _
    have hMP : WMapAt (V.drew.alloc (.map #[] 0)) V.drew.heap.size 0 (.map [] : Dat) := World.ownsMap_made _ _ _ _
    refine hK.out _ _ hBP (fun _ => ?_)
    clear hK Kk
    (try clear hHeld)
    have hHeld := hBP
    (try simp only [zA])
    refine wpAnyH_ready (rs := [5, 9]) (by kernel_rfl) (by simp) ?_
    refine AllReadyH.cons rfl (fun Kk hK => ?_) (AllReadyH.cons rfl (fun Kk hK => ?_) AllReadyH.nil)
    · refine ready_make (by kernel_rfl) (.tmp 11) (.tmp 11) 50 rfl 65 iF _ 2 Tryz.underlying50 hiF hzF0 hzF1 c.VN rfl rfl (by rw [hzF2]; omega) (by unfold maxLen; omega) ?_
      intro wM hownM hgM
      have hBM : Below V.heap.size V wM := hHeld.trans ((below_grown hgM).mono hHeld.size)
      have hFB : wM.heap[(V.drew.alloc (.map #[] 0)).heap.size]? = some (.cells (gC (fun _ => factC .never) c.VN).toArray 65 (0, 0)) := by have := own_heapG hownM; rw [made_facts] at this; exact this
      have hMPM := hMP.kept hgM (by simp)
      refine hK.out _ _ hBM (fun _ => ?_)
      clear hK Kk
      (try clear hHeld)
      have hHeld := hBM
      (try simp only [Act.put])
      refine wpAnyH_ready (rs := [9]) (by kernel_rfl) (by simp) ?_
      refine AllReadyH.cons rfl (fun Kk hK => ?_) AllReadyH.nil
      refine ready_insert (by kernel_rfl) (.tmp 13) (.tmp 14) (.tmp 15) 101 rfl 124 125 lawWay Tryz.underlying101 emptyR (V.drew.heap.size) 0 (.map [] : Dat) rfl hMPM (by unfold maxLen; omega) _ _ _ rfl rfl hkey _ [] emptyR_ok ?_
      intro wI hownI hgI
      have hBI : Below V.heap.size V wI := below_grownK hHeld hgI (Nat.le_refl _) hHeld.size
      refine hK.out _ _ hBI (fun _ => ?_)
      clear hK Kk
      (try clear hHeld)
      have hHeld := hBI
      (try simp only [Act.put])
      have hF1 : wI.heap[V.heap.size + 1]? = some (.cells (gC (fun _ => factC .never) c.VN).toArray 65 (0, 0)) := by
        have h := gblock hgI hFB (by simp)
        rw [show (V.drew.alloc (.map #[] 0)).heap.size = V.heap.size + 1 by simp] at h
        exact h
      refine wpAnyH_take (i := 10) (v := ?_) rfl (by kernel_rfl) (by kernel_rfl) (by kernel_rfl) (fun _ _ _ h => h) (Or.inl ⟨by rfl, ?_⟩) (by assumption) ?_
      rotate_left
      · (intro W hSW; go_simp; try (with_reducible rfl))
      (try simp only [zB])
      (try simp only [zA])
      refine wpAnyH_take (i := 11) (v := ?_) rfl (by kernel_rfl) (by kernel_rfl) (by kernel_rfl) (fun _ _ _ h => h) (Or.inl ⟨by rfl, ?_⟩) (by assumption) ?_
      rotate_left
      · (intro W hSW; go_simp; try (with_reducible rfl))
      (try simp only [zB])
      (try simp only [zA])
      refine wpAnyH_ready (rs := [12]) (by kernel_rfl) (by simp) ?_
      refine AllReadyH.cons rfl (fun Kk hK => ?_) AllReadyH.nil
      go_simp
      obtain ⟨WX, hWX⟩ : ∃ WX, WX = (wI.alloc (.cells #[.slice (some ⟨gp, 0, none⟩) c.n c.n, .slice (some ⟨gB, 0, none⟩) c.n c.n, .slice (some ⟨V.heap.size + 1, 0, none⟩) c.VN c.VN, .map (some (V.drew.heap.size))] 103)) := ⟨_, rfl⟩
      have hbx : Below wI.heap.size wI WX := by rw [hWX]; exact (Below.refl _ _).alloc (Nat.le_refl _) _
      have HBX : Below V.heap.size V WX := hHeld.trans (hbx.mono hHeld.size)
      have hwm := WaysMap.nil.add Maps.tidy_empty (a := -1) (b := 0) ⟨by omega, by omega⟩ ⟨by omega, by omega⟩ (.agg [])
      rw [show addW [] ((-1 : Int), (0 : Int)) = [(-1, 0)] by simp [addW]] at hwm
      have hex : ∃ FB MB, KnAt WX wI.heap.size gp c.n gB c.VN FB MB (fun _ => .never) [(-1, 0)] ∧ V.heap.size ≤ FB ∧ V.heap.size ≤ MB ∧ wI.heap.size ≠ FB := ⟨V.heap.size + 1, V.drew.heap.size, ⟨by rw [hWX]; exact heap_alloc_last _ _, (hbx.block _ (lt_of_block (hF1))).trans (hF1), _, by rw [hWX]; exact World.ownsMap.alloc (hownI) _, hwm⟩, Nat.le_succ _, Nat.le_refl _, Nat.ne_of_gt (lt_of_block (hF1))⟩
      show Kk _ (wI.alloc (.cells #[.slice (some ⟨gp, 0, none⟩) c.n c.n, .slice (some ⟨gB, 0, none⟩) c.n c.n, .slice (some ⟨V.heap.size + 1, 0, none⟩) c.VN c.VN, .map (some (V.drew.heap.size))] 103))
      rw [← hWX]
      clear hWX
      refine hK.out _ _ HBX (fun _ => ?_)
      clear hK Kk
      (try clear hHeld)
      have hHeld := HBX
      (try simp only [zA])
      refine wpAnyH_take (i := 13) (v := ?_) rfl (by kernel_rfl) (by kernel_rfl) (by kernel_rfl) (fun _ _ _ h => h) (Or.inl ⟨by rfl, ?_⟩) (by assumption) ?_
      rotate_left
      · (intro W hSW; go_simp; try (with_reducible rfl))
      (try simp only [zB])
      (try simp only [zA])
      refine wpAnyH_done (by kernel_rfl) ?_ _
      have HBV : Hid (Below w.heap.size w WX) := HB0.out.trans (HBX.mono HB0.out.size)
      have HBV0 : V.heap.size ≤ WX.heap.size := HBX.size
      have s0x := keeps_below HBX _ _ s0
      obtain ⟨FB, MB, hkn, hfb, hmb, hne⟩ := hex
      have HKN : Hid (KnAt WX wI.heap.size gp c.n gB c.VN FB MB (fun _ => .never) [(-1, 0)]) := hkn
      have HNE : Hid (w.heap.size ≤ FB ∧ w.heap.size ≤ MB ∧ wI.heap.size ≠ FB) := ⟨Nat.le_trans HB0.out.size hfb, Nat.le_trans HB0.out.size hmb, hne⟩
      clear hkn hfb hmb hne hHeld HBX hbx hwm s0 s1 s2 hkey hiF hzF0 hzF1 hzF2 r2
      (try clear hownM hgM hBM hFB)
      (try clear hownI hgI hBI)
      (try clear hMP)
      (try clear hMPM)
      (try clear hBP)
      (try clear hFP)
      (try clear hFB)
      (try clear hF1)
      generalize wI.heap.size = K at *
      go_upto_region 3 with fail
      clear s0x
      go_loopw [21] (fun i wr => ∃ q : Nat, q ≤ c.par ∧ i = .int .i64 q ∧ KnAt wr K gp c.n gB c.VN FB MB (fun v => if v < q then .many else .never) [(-1, 0)] ∧ Below w.heap.size w wr) (fun i _ => c.par - (intOf i).toNat)
      case atStart =>
        have h := HKN.out
        rw [show (fun _ : Nat => FV.never) = (fun v : Nat => if v < 0 then FV.many else FV.never) from funext fun v => (if_neg (Nat.not_lt_zero v)).symm] at h
        exact ⟨0, Nat.zero_le _, rfl, h, HBV.out⟩
      case round =>
        clear HKN HBV HBV0
        obtain ⟨q, hq, rfl, hk1, hw1⟩ := hrel
        rename World => V1
        have HK1 : Hid (KnAt V1 K gp c.n gB c.VN FB MB (fun v => if v < q then .many else .never) [(-1, 0)]) := hk1
        have HW1 : Hid (Below w.heap.size w V1) := hw1
        clear hk1 hw1
        by_cases hlq : q < c.par
        · have hqI : (q : Int) < c.par := by omega
          have hqV : (q : Int) < c.VN := by omega
          have HQV : Hid (q < c.VN) := by show _ < _; omega
          have HTH : Hid (∀ W, Below V1.heap.size V1 W → W.there FB (q * 2) 2) := fun W hW => (HK1.out.below hW).there HQV.out
          have k2 : V1.cell? ⟨K, 2, none⟩ = some (.slice (some ⟨FB, 0, none⟩) c.VN c.VN) := by rw [cell_of_row _ _ _ _ _ _ HK1.out.box]; rfl
          obtain ⟨-, hgm⟩ := HGG.out.below HW1.out
          go_upto_region 5 with fail
          refine wp_region_last (S := fun W => Below V1.heap.size V1 W) _ 7 (by kernel_rfl) (by kernel_rfl) rfl ((Below.refl _ _).drew) (fun hHeld => ?_)
          simp only [List.pop_toArray, List.dropLast]
          refine wpAnyH_take (i := 0) (v := ?_) rfl (by kernel_rfl) (by kernel_rfl) (by kernel_rfl) (fun _ _ _ h => h) (Or.inl ⟨by rfl, ?_⟩) (by assumption) ?_
          rotate_left
          · (intro W hSW; go_simp; try (with_reducible rfl))
          (try simp only [zB])
          (try simp only [zA])
          refine wpAnyH_take (i := 1) (v := ?_) rfl (by kernel_rfl) (by kernel_rfl) (by kernel_rfl) (fun _ _ _ h => h) (Or.inl ⟨by rfl, ?_⟩) (by assumption) ?_
          rotate_left
          · (intro W hSW; go_simp; try (with_reducible rfl))
          (try simp only [zB])
          (try simp only [zA])
          refine wpAnyH_take (i := 2) (v := ?_) rfl (by kernel_rfl) (by kernel_rfl) (by kernel_rfl) (fun _ _ _ h => h) (Or.inl ⟨by rfl, ?_⟩) (by assumption) ?_
          rotate_left
          · (intro W hSW; go_simp; try (with_reducible rfl))
          (try simp only [zB])
          (try simp only [zA])
          refine wpAnyH_take (i := 3) (v := ?_) rfl (by kernel_rfl) (by kernel_rfl) (by kernel_rfl) (fun _ _ _ h => h) (Or.inl ⟨by rfl, ?_⟩) (by assumption) ?_
          rotate_left
          · (intro W hSW; have z0 := keeps_below hSW _ _ k2; go_simp; try (with_reducible rfl))
          (try simp only [zB])
          (try simp only [zA])
          refine wpAnyH_take (i := 4) (v := ?_) rfl (by kernel_rfl) (by kernel_rfl) (by kernel_rfl) (fun _ _ _ h => h) (Or.inl ⟨by rfl, ?_⟩) (by assumption) ?_
          rotate_left
          · (intro W hSW; go_simp; try (with_reducible rfl))
          (try simp only [zB])
          (try simp only [zA])
          refine wpAnyH_take (i := 5) (v := .agg [.int .i64 2, .int .i64 0].toArray) rfl (by kernel_rfl) (by kernel_rfl) (by kernel_rfl) (fun _ _ _ h => h) (yieldsIf_load_mid (by rfl) 65 _ rfl (0) (0) rfl [.int .i64 2, .int .i64 0] _ (fun W hSW j u hu => keeps_below hSW _ _ (hgm j u hu)) Tryz.underlying65 rfl infoFact) (by assumption) ?_
          (try simp only [zB])
          (try simp only [zA])
          refine wpAnyH_take (i := 6) (v := ?_) rfl (by kernel_rfl) (by kernel_rfl) (by kernel_rfl) (fun _ _ _ h => h) (Or.inl ⟨by rfl, ?_⟩) (by assumption) ?_
          rotate_left
          · (intro W hSW; go_simp; try (with_reducible rfl))
          (try simp only [zB])
          (try simp only [zA])
          refine wpAnyH_done (by kernel_rfl) ?_ _
          refine Or.inl ?_
          refine wp_store_mid 65 _ _ rfl FB (q * 2) #[.int .i64 2, .int .i64 0] rfl rfl (HTH.out _ hHeld) infoFact (by simp [Value.oneCell']) ?_
          (try simp only [Act.put])
          have HKW := ((HK1.out.below hHeld).set HQV.out HNE.out.2.2 .many)
          have HW2 := HW1.out.trans (hHeld.mono HW1.out.size)
          have HW3 := below_grownK HW2 HKW.2 HNE.out.1 HW2.size
          have hkw := HKW.1
          rw [show updF (fun v : Nat => if v < q then FV.many else FV.never) q .many = (fun v : Nat => if v < q + 1 then FV.many else FV.never) from funext fun v => by
            by_cases e : v = q
            · rw [e, updF_same, if_pos (by omega)]
            · rw [updF_other _ _ e]
              by_cases h : v < q
              · rw [if_pos h, if_pos (by omega)]
              · rw [if_neg h, if_neg (by omega)]] at hkw
          have HFIN := fun (j : Nat) (h : j = q + 1) => (⟨by omega, hkw, HW3⟩ : q + 1 ≤ c.par ∧ KnAt _ K gp c.n gB c.VN FB MB (fun v => if v < q + 1 then .many else .never) [(-1, 0)] ∧ Below w.heap.size w _)
          have HFIN : Hid (∀ j : Nat, j = q + 1 → _) := HFIN
          clear HKW HW2 HW3 hkw hHeld k2 hgm
          go_wp2
          go_roundw
          case rel => exact ⟨q + 1, (HFIN.out _ rfl).1, by go_num, (HFIN.out _ rfl).2⟩
          case measure => simp [intOf]; omega
        · obtain rfl : q = c.par := by omega
          have HI0 : Hid (c.know.Inv (fun v => if v < c.par then .many else .never) [(-1, 0)]) := Know.Inv.new HC.out.know
          have HG0 : Hid (GOk [((-1 : Int), (0 : Int))]) := ⟨by simp, fun x hx => by rw [List.mem_singleton.1 hx]; exact ⟨⟨by omega, by omega⟩, ⟨by omega, by omega⟩⟩⟩
          have hs2 := sumF_two (fun v => if v < c.par then FV.many else FV.never) c.VN
          clear hlq hq
          go_wp2
          go_loopg [33] (2 * c.VN + 4100002 - (sumF (fun v => if v < c.par then FV.many else FV.never) c.VN + 1)) (fun m _ wr => ∃ (F : Facts) (G : Ways), m + (sumF F c.VN + G.length) = 2 * c.VN + 4100002 ∧ KnAt wr K gp c.n gB c.VN FB MB F G ∧ Below w.heap.size w wr ∧ GOk G ∧ c.know.Inv F G)
          case atStart => exact ⟨_, _, by simp only [List.length_singleton]; omega, HK1.out, HW1.out, HG0.out, HI0.out⟩
          case round =>
            clear HK1 HW1 HG0 HI0 hs2
            obtain ⟨F, G, hm, hk2, hw2, hg2, hi2⟩ := hrel
            rename World => V2
            have hr := round_any V2 HC.out HM0.out hw2 hk2 hg2 hi2 HNE.out.2.2 HNE.out.1 HNE.out.2.1
            have HMM : Hid (_ + (sumF F c.VN + G.length) = 2 * c.VN + 4100002) := hm
            clear hm hk2 hw2 hg2 hi2
            go_wp2_with (go_at_call 52; refine hr.mono ?_; rintro e V3 hP3; obtain ⟨r, F', G', rfl, hk3, hw3, hg3, hi3, hmore, hcl⟩ := hP3; have HR : Hid (KnAt V3 K gp c.n gB c.VN FB MB F' G' ∧ Below w.heap.size w V3 ∧ GOk G' ∧ c.know.Inv F' G' ∧ (r = true → sumF F c.VN + G.length < sumF F' c.VN + G'.length) ∧ (r = false → F' = F ∧ G' = G ∧ c.know.Closed F G)) := ⟨hk3, hw3, hg3, hi3, hmore, hcl⟩; clear hk3 hw3 hg3 hi3 hmore hcl)
            · have hrt : r = true := by assumption
              have hm1 := HMM.out
              have hm2 := HR.out.2.2.2.2.1 hrt
              have hm3 := sumF_two F' c.VN
              have hm4 := HR.out.2.2.1.len
              go_roundg (2 * c.VN + 4100002 - (sumF F' c.VN + G'.length))
              case measure => omega
              case rel => exact ⟨F', G', by omega, HR.out.1, HR.out.2.1, HR.out.2.2.1, HR.out.2.2.2.1⟩
            · have hrf : r = false := by assumption
              go_ret
              exact HP.out _ _ ⟨K, FB, MB, F', G', rfl, HR.out.1, HR.out.2.1, HR.out.2.2.1, HR.out.2.2.2.1, by obtain ⟨e1, e2, h⟩ := HR.out.2.2.2.2.2 hrf; rw [e1, e2]; exact h, HNE.out.1⟩
    · refine ready_insert (by kernel_rfl) (.tmp 13) (.tmp 14) (.tmp 15) 101 rfl 124 125 lawWay Tryz.underlying101 emptyR (V.drew.heap.size) 0 (.map [] : Dat) rfl hMP (by unfold maxLen; omega) _ _ _ rfl rfl hkey _ [] emptyR_ok ?_
      intro wI hownI hgI
      have hBI : Below V.heap.size V wI := below_grownK hHeld hgI (Nat.le_refl _) hHeld.size
      refine hK.out _ _ hBI (fun _ => ?_)
      clear hK Kk
      (try clear hHeld)
      have hHeld := hBI
      (try simp only [Act.put])
      refine wpAnyH_take (i := 10) (v := ?_) rfl (by kernel_rfl) (by kernel_rfl) (by kernel_rfl) (fun _ _ _ h => h) (Or.inl ⟨by rfl, ?_⟩) (by assumption) ?_
      rotate_left
      · (intro W hSW; go_simp; try (with_reducible rfl))
      (try simp only [zB])
      (try simp only [zA])
      refine wpAnyH_ready (rs := [5]) (by kernel_rfl) (by simp) ?_
      refine AllReadyH.cons rfl (fun Kk hK => ?_) AllReadyH.nil
      refine ready_make (by kernel_rfl) (.tmp 11) (.tmp 11) 50 rfl 65 iF _ 2 Tryz.underlying50 hiF hzF0 hzF1 c.VN rfl rfl (by rw [hzF2]; omega) (by unfold maxLen; omega) ?_
      intro wM hownM hgM
      have hBM : Below V.heap.size V wM := hHeld.trans ((below_grown hgM).mono hHeld.size)
      have hFB : wM.heap[wI.heap.size]? = some (.cells (gC (fun _ => factC .never) c.VN).toArray 65 (0, 0)) := by have := own_heapG hownM; rw [made_facts] at this; exact this
      refine hK.out _ _ hBM (fun _ => ?_)
      clear hK Kk
      (try clear hHeld)
      have hHeld := hBM
      (try simp only [zA])
      refine wpAnyH_take (i := 11) (v := ?_) rfl (by kernel_rfl) (by kernel_rfl) (by kernel_rfl) (fun _ _ _ h => h) (Or.inl ⟨by rfl, ?_⟩) (by assumption) ?_
      rotate_left
      · (intro W hSW; go_simp; try (with_reducible rfl))
      (try simp only [zB])
      (try simp only [zA])
      refine wpAnyH_ready (rs := [12]) (by kernel_rfl) (by simp) ?_
      refine AllReadyH.cons rfl (fun Kk hK => ?_) AllReadyH.nil
      go_simp
      obtain ⟨WX, hWX⟩ : ∃ WX, WX = (wM.alloc (.cells #[.slice (some ⟨gp, 0, none⟩) c.n c.n, .slice (some ⟨gB, 0, none⟩) c.n c.n, .slice (some ⟨wI.heap.size, 0, none⟩) c.VN c.VN, .map (some (V.drew.heap.size))] 103)) := ⟨_, rfl⟩
      have hbx : Below wM.heap.size wM WX := by rw [hWX]; exact (Below.refl _ _).alloc (Nat.le_refl _) _
      have HBX : Below V.heap.size V WX := hHeld.trans (hbx.mono hHeld.size)
      have hwm := WaysMap.nil.add Maps.tidy_empty (a := -1) (b := 0) ⟨by omega, by omega⟩ ⟨by omega, by omega⟩ (.agg [])
      rw [show addW [] ((-1 : Int), (0 : Int)) = [(-1, 0)] by simp [addW]] at hwm
      have hex : ∃ FB MB, KnAt WX wM.heap.size gp c.n gB c.VN FB MB (fun _ => .never) [(-1, 0)] ∧ V.heap.size ≤ FB ∧ V.heap.size ≤ MB ∧ wM.heap.size ≠ FB := ⟨wI.heap.size, V.drew.heap.size, ⟨by rw [hWX]; exact heap_alloc_last _ _, (hbx.block _ (lt_of_block (hFB))).trans (hFB), _, by rw [hWX]; exact World.ownsMap.alloc (hownI.kept hgM (by simp)) _, hwm⟩, hBI.size, Nat.le_refl _, Nat.ne_of_gt (lt_of_block (hFB))⟩
      show Kk _ (wM.alloc (.cells #[.slice (some ⟨gp, 0, none⟩) c.n c.n, .slice (some ⟨gB, 0, none⟩) c.n c.n, .slice (some ⟨wI.heap.size, 0, none⟩) c.VN c.VN, .map (some (V.drew.heap.size))] 103))
      rw [← hWX]
      clear hWX
      refine hK.out _ _ HBX (fun _ => ?_)
      clear hK Kk
      (try clear hHeld)
      have hHeld := HBX
      (try simp only [zA])
      refine wpAnyH_take (i := 13) (v := ?_) rfl (by kernel_rfl) (by kernel_rfl) (by kernel_rfl) (fun _ _ _ h => h) (Or.inl ⟨by rfl, ?_⟩) (by assumption) ?_
      rotate_left
      · (intro W hSW; go_simp; try (with_reducible rfl))
      (try simp only [zB])
      (try simp only [zA])
      refine wpAnyH_done (by kernel_rfl) ?_ _
      have HBV : Hid (Below w.heap.size w WX) := HB0.out.trans (HBX.mono HB0.out.size)
      have HBV0 : V.heap.size ≤ WX.heap.size := HBX.size
      have s0x := keeps_below HBX _ _ s0
      obtain ⟨FB, MB, hkn, hfb, hmb, hne⟩ := hex
      have HKN : Hid (KnAt WX wM.heap.size gp c.n gB c.VN FB MB (fun _ => .never) [(-1, 0)]) := hkn
      have HNE : Hid (w.heap.size ≤ FB ∧ w.heap.size ≤ MB ∧ wM.heap.size ≠ FB) := ⟨Nat.le_trans HB0.out.size hfb, Nat.le_trans HB0.out.size hmb, hne⟩
      clear hkn hfb hmb hne hHeld HBX hbx hwm s0 s1 s2 hkey hiF hzF0 hzF1 hzF2 r2
      (try clear hownM hgM hBM hFB)
      (try clear hownI hgI hBI)
      (try clear hMP)
      (try clear hMPM)
      (try clear hBP)
      (try clear hFP)
      (try clear hFB)
      (try clear hF1)
      generalize wM.heap.size = K at *
      go_upto_region 3 with fail
      clear s0x
      go_loopw [21] (fun i wr => ∃ q : Nat, q ≤ c.par ∧ i = .int .i64 q ∧ KnAt wr K gp c.n gB c.VN FB MB (fun v => if v < q then .many else .never) [(-1, 0)] ∧ Below w.heap.size w wr) (fun i _ => c.par - (intOf i).toNat)
      case atStart =>
        have h := HKN.out
        rw [show (fun _ : Nat => FV.never) = (fun v : Nat => if v < 0 then FV.many else FV.never) from funext fun v => (if_neg (Nat.not_lt_zero v)).symm] at h
        exact ⟨0, Nat.zero_le _, rfl, h, HBV.out⟩
      case round =>
        clear HKN HBV HBV0
        obtain ⟨q, hq, rfl, hk1, hw1⟩ := hrel
        rename World => V1
        have HK1 : Hid (KnAt V1 K gp c.n gB c.VN FB MB (fun v => if v < q then .many else .never) [(-1, 0)]) := hk1
        have HW1 : Hid (Below w.heap.size w V1) := hw1
        clear hk1 hw1
        by_cases hlq : q < c.par
        · have hqI : (q : Int) < c.par := by omega
          have hqV : (q : Int) < c.VN := by omega
          have HQV : Hid (q < c.VN) := by show _ < _; omega
          have HTH : Hid (∀ W, Below V1.heap.size V1 W → W.there FB (q * 2) 2) := fun W hW => (HK1.out.below hW).there HQV.out
          have k2 : V1.cell? ⟨K, 2, none⟩ = some (.slice (some ⟨FB, 0, none⟩) c.VN c.VN) := by rw [cell_of_row _ _ _ _ _ _ HK1.out.box]; rfl
          obtain ⟨-, hgm⟩ := HGG.out.below HW1.out
          go_upto_region 5 with fail
          refine wp_region_last (S := fun W => Below V1.heap.size V1 W) _ 7 (by kernel_rfl) (by kernel_rfl) rfl ((Below.refl _ _).drew) (fun hHeld => ?_)
          simp only [List.pop_toArray, List.dropLast]
          refine wpAnyH_take (i := 0) (v := ?_) rfl (by kernel_rfl) (by kernel_rfl) (by kernel_rfl) (fun _ _ _ h => h) (Or.inl ⟨by rfl, ?_⟩) (by assumption) ?_
          rotate_left
          · (intro W hSW; go_simp; try (with_reducible rfl))
          (try simp only [zB])
          (try simp only [zA])
          refine wpAnyH_take (i := 1) (v := ?_) rfl (by kernel_rfl) (by kernel_rfl) (by kernel_rfl) (fun _ _ _ h => h) (Or.inl ⟨by rfl, ?_⟩) (by assumption) ?_
          rotate_left
          · (intro W hSW; go_simp; try (with_reducible rfl))
          (try simp only [zB])
          (try simp only [zA])
          refine wpAnyH_take (i := 2) (v := ?_) rfl (by kernel_rfl) (by kernel_rfl) (by kernel_rfl) (fun _ _ _ h => h) (Or.inl ⟨by rfl, ?_⟩) (by assumption) ?_
          rotate_left
          · (intro W hSW; go_simp; try (with_reducible rfl))
          (try simp only [zB])
          (try simp only [zA])
          refine wpAnyH_take (i := 3) (v := ?_) rfl (by kernel_rfl) (by kernel_rfl) (by kernel_rfl) (fun _ _ _ h => h) (Or.inl ⟨by rfl, ?_⟩) (by assumption) ?_
          rotate_left
          · (intro W hSW; have z0 := keeps_below hSW _ _ k2; go_simp; try (with_reducible rfl))
          (try simp only [zB])
          (try simp only [zA])
          refine wpAnyH_take (i := 4) (v := ?_) rfl (by kernel_rfl) (by kernel_rfl) (by kernel_rfl) (fun _ _ _ h => h) (Or.inl ⟨by rfl, ?_⟩) (by assumption) ?_
          rotate_left
          · (intro W hSW; go_simp; try (with_reducible rfl))
          (try simp only [zB])
          (try simp only [zA])
          refine wpAnyH_take (i := 5) (v := .agg [.int .i64 2, .int .i64 0].toArray) rfl (by kernel_rfl) (by kernel_rfl) (by kernel_rfl) (fun _ _ _ h => h) (yieldsIf_load_mid (by rfl) 65 _ rfl (0) (0) rfl [.int .i64 2, .int .i64 0] _ (fun W hSW j u hu => keeps_below hSW _ _ (hgm j u hu)) Tryz.underlying65 rfl infoFact) (by assumption) ?_
          (try simp only [zB])
          (try simp only [zA])
          refine wpAnyH_take (i := 6) (v := ?_) rfl (by kernel_rfl) (by kernel_rfl) (by kernel_rfl) (fun _ _ _ h => h) (Or.inl ⟨by rfl, ?_⟩) (by assumption) ?_
          rotate_left
          · (intro W hSW; go_simp; try (with_reducible rfl))
          (try simp only [zB])
          (try simp only [zA])
          refine wpAnyH_done (by kernel_rfl) ?_ _
          refine Or.inl ?_
          refine wp_store_mid 65 _ _ rfl FB (q * 2) #[.int .i64 2, .int .i64 0] rfl rfl (HTH.out _ hHeld) infoFact (by simp [Value.oneCell']) ?_
          (try simp only [Act.put])
          have HKW := ((HK1.out.below hHeld).set HQV.out HNE.out.2.2 .many)
          have HW2 := HW1.out.trans (hHeld.mono HW1.out.size)
          have HW3 := below_grownK HW2 HKW.2 HNE.out.1 HW2.size
          have hkw := HKW.1
          rw [show updF (fun v : Nat => if v < q then FV.many else FV.never) q .many = (fun v : Nat => if v < q + 1 then FV.many else FV.never) from funext fun v => by
            by_cases e : v = q
            · rw [e, updF_same, if_pos (by omega)]
            · rw [updF_other _ _ e]
              by_cases h : v < q
              · rw [if_pos h, if_pos (by omega)]
              · rw [if_neg h, if_neg (by omega)]] at hkw
          have HFIN := fun (j : Nat) (h : j = q + 1) => (⟨by omega, hkw, HW3⟩ : q + 1 ≤ c.par ∧ KnAt _ K gp c.n gB c.VN FB MB (fun v => if v < q + 1 then .many else .never) [(-1, 0)] ∧ Below w.heap.size w _)
          have HFIN : Hid (∀ j : Nat, j = q + 1 → _) := HFIN
          clear HKW HW2 HW3 hkw hHeld k2 hgm
          go_wp2
          go_roundw
          case rel => exact ⟨q + 1, (HFIN.out _ rfl).1, by go_num, (HFIN.out _ rfl).2⟩
          case measure => simp [intOf]; omega
        · obtain rfl : q = c.par := by omega
          have HI0 : Hid (c.know.Inv (fun v => if v < c.par then .many else .never) [(-1, 0)]) := Know.Inv.new HC.out.know
          have HG0 : Hid (GOk [((-1 : Int), (0 : Int))]) := ⟨by simp, fun x hx => by rw [List.mem_singleton.1 hx]; exact ⟨⟨by omega, by omega⟩, ⟨by omega, by omega⟩⟩⟩
          have hs2 := sumF_two (fun v => if v < c.par then FV.many else FV.never) c.VN
          clear hlq hq
          go_wp2
          go_loopg [33] (2 * c.VN + 4100002 - (sumF (fun v => if v < c.par then FV.many else FV.never) c.VN + 1)) (fun m _ wr => ∃ (F : Facts) (G : Ways), m + (sumF F c.VN + G.length) = 2 * c.VN + 4100002 ∧ KnAt wr K gp c.n gB c.VN FB MB F G ∧ Below w.heap.size w wr ∧ GOk G ∧ c.know.Inv F G)
          case atStart => exact ⟨_, _, by simp only [List.length_singleton]; omega, HK1.out, HW1.out, HG0.out, HI0.out⟩
          case round =>
            clear HK1 HW1 HG0 HI0 hs2
            obtain ⟨F, G, hm, hk2, hw2, hg2, hi2⟩ := hrel
            rename World => V2
            have hr := round_any V2 HC.out HM0.out hw2 hk2 hg2 hi2 HNE.out.2.2 HNE.out.1 HNE.out.2.1
            have HMM : Hid (_ + (sumF F c.VN + G.length) = 2 * c.VN + 4100002) := hm
            clear hm hk2 hw2 hg2 hi2
            go_wp2_with (go_at_call 52; refine hr.mono ?_; rintro e V3 hP3; obtain ⟨r, F', G', rfl, hk3, hw3, hg3, hi3, hmore, hcl⟩ := hP3; have HR : Hid (KnAt V3 K gp c.n gB c.VN FB MB F' G' ∧ Below w.heap.size w V3 ∧ GOk G' ∧ c.know.Inv F' G' ∧ (r = true → sumF F c.VN + G.length < sumF F' c.VN + G'.length) ∧ (r = false → F' = F ∧ G' = G ∧ c.know.Closed F G)) := ⟨hk3, hw3, hg3, hi3, hmore, hcl⟩; clear hk3 hw3 hg3 hi3 hmore hcl)
            · have hrt : r = true := by assumption
              have hm1 := HMM.out
              have hm2 := HR.out.2.2.2.2.1 hrt
              have hm3 := sumF_two F' c.VN
              have hm4 := HR.out.2.2.1.len
              go_roundg (2 * c.VN + 4100002 - (sumF F' c.VN + G'.length))
              case measure => omega
              case rel => exact ⟨F', G', by omega, HR.out.1, HR.out.2.1, HR.out.2.2.1, HR.out.2.2.2.1⟩
            · have hrf : r = false := by assumption
              go_ret
              exact HP.out _ _ ⟨K, FB, MB, F', G', rfl, HR.out.1, HR.out.2.1, HR.out.2.2.1, HR.out.2.2.2.1, by obtain ⟨e1, e2, h⟩ := HR.out.2.2.2.2.2 hrf; rw [e1, e2]; exact h, HNE.out.1⟩
end Go.Proofs.YtldbmdgpdolaaaaGreatDoor
