import Derived.Test.YtldbmdgpdolaaaaGreatDoorPXBrief
import Derived.Test.YtldbmdgpdolaaaaGreatDoorPXSsaBuild
import Derived.Test.YtldbmdgpdolaaaaGreatDoorPXFoldRead
namespace Go.Proofs.YtldbmdgpdolaaaaGreatDoor
open Go Go.RowKit

def goesF (F : Facts) (op a : Int) (NX : List Int) (i1 i2 : Nat) : List Int :=
  if op ≠ 16 then NX else match F a.toNat with
    | .never => []
    | .many => NX
    | .known z => if z = 0 then [(i1 : Int)] else [(i2 : Int)]
def GoesPost (w : World) (l : List Int) (e : Ending) (w' : World) : Prop := ∃ v, e = .returned v ∧ IntsVal w' v l ∧ Below w.heap.size w w'
theorem ints_one (w : World) (z : Int) : IntsVal (w.alloc (.cells #[.int .i64 z] 3)) (.slice (some ⟨w.heap.size, 0, none⟩) 1 1) [z] := by
  have := own_newF (w := w) (base := w.heap.size) (Nat.le_refl _) [z] (by simp)
  exact ints_of_own this
theorem infoInsG : (Tryz.prog.info? 67).map (·.size) = some 6 := by kernel_rfl
set_option maxRecDepth 100000 in
set_option maxHeartbeats 8000000 in
theorem goes_any {K gp n gB VN FB MB : Nat} {F : Facts} {G : Ways} (w : World) (h : KnAt w K gp n gB VN FB MB F G) (hG : KnowG w) (b : Nat) (hbn : b < n) (hn : n ≤ 1000) (FF TT : Nat → Int) (VV : Nat → Value) (hr : BlkRow w gB n FF TT VV)
    (aI : Option Addr) (q nI cI : Nat) (x : InsD) (hI : w.cell? ⟨gp, b * 15 + 2, none⟩ = some (.slice aI (nI + 1) cI)) (haI : aI = some ⟨q, 0, none⟩) (hnI : nI ≤ 1000) (hx : w.rangeAt q (nI * 6) (inC x))
    (NX : List Int) (hNX : IntsVal w (VV (2 * b)) NX) (hA : x.op = 16 → 0 ≤ x.a ∧ x.a < (VN : Int)) (i1 i2 : Nat) (h1 : x.op = 16 → i1 < n ∧ FF i1 = TT b ∧ ∀ j, j < i1 → FF j ≠ TT b) (h2 : x.op = 16 → i2 < n ∧ FF i2 = x.imm ∧ ∀ j, j < i2 → FF j ≠ x.imm) :
    Calls Tryz.prog 88 #[.pointer (some ⟨K, 0, none⟩), .int .i64 b] w (GoesPost w (goesF F x.op x.a NX i1 i2)) := by
  have HP : Hid (∀ e w', (∃ v, e = .returned v ∧ IntsVal w' v (goesF F x.op x.a NX i1 i2) ∧ Below w.heap.size w w') → GoesPost w (goesF F x.op x.a NX i1 i2) e w') := fun _ _ h => h
  subst haI
  obtain ⟨aN, bN, oN, nN, cN, eN, -⟩ := ints_get hNX
  rw [eN] at hNX
  have k0 : w.cell? ⟨K, 0, none⟩ = some (.slice (some ⟨gp, 0, none⟩) n n) := by rw [cell_of_row _ _ _ _ _ _ h.box]; rfl
  have k1w : w.cell? ⟨K, 1, none⟩ = some (.slice (some ⟨gB, 0, none⟩) n n) := by rw [cell_of_row _ _ _ _ _ _ h.box]; rfl
  have k2w : w.cell? ⟨K, 2, none⟩ = some (.slice (some ⟨FB, 0, none⟩) VN VN) := by rw [cell_of_row _ _ _ _ _ _ h.box]; rfl
  have cNx : w.cell? ⟨gB, b * 4 + 2, none⟩ = some (.slice aN nN cN) := by rw [← eN]; exact blk_next hr b hbn
  have cTo : w.cell? ⟨gB, b * 4 + 1, none⟩ = some (.int .i64 (TT b)) := blk_to hr b hbn
  have hbI : (b : Int) < (n : Int) := by omega
  have hwn : IntKind.i64.wrap (((nI + 1 : Nat) : Int) - 1) = (nI : Int) := by rw [show ((nI + 1 : Nat) : Int) - 1 = nI by omega]; exact wrap_signed _ (by omega) (by omega)
  have hnII : (nI : Int) < ((nI + 1 : Nat) : Int) := by omega
  have HBX : Hid (Below w.heap.size w (w.alloc (.cells (inC x).toArray 67))) := (Below.refl _ _).alloc (Nat.le_refl _) _
  have r6 : (w.alloc (.cells (inC x).toArray 67)).heap[w.heap.size]? = some (.cells (inC x).toArray 67 (0, 0)) := heap_alloc_last _ _
  have HKN : Hid (∀ W, Below w.heap.size w W → KnAt W K gp n gB VN FB MB F G) := fun W hW => h.below hW
  have HK1w : Hid (∀ W, Below w.heap.size w W → W.cell? ⟨K, 1, none⟩ = some (.slice (some ⟨gB, 0, none⟩) n n)) := fun W hW => keeps_below hW _ _ k1w
  have HGw : Hid (∀ W, Below w.heap.size w W → KnowG W) := fun W hW => hG.below hW
  have HDw : Hid (∀ W, Below w.heap.size w W → W.cell? ⟨gB, b * 4 + 1, none⟩ = some (.int .i64 (TT b)) ∧ W.cell? ⟨gB, b * 4 + 2, none⟩ = some (.slice aN nN cN) ∧ IntsVal W (.slice aN nN cN) NX) := fun W hW => ⟨keeps_below hW _ _ cTo, keeps_below hW _ _ cNx, hNX.keeps (keeps_below hW)⟩
  have HBw1 : Hid (x.op = 16 → ∀ W, Below w.heap.size w W → Calls Tryz.prog 113 #[.pointer (some ⟨K, 0, none⟩), .int .i64 (TT b)] W fun e w' => e = .returned (.int .i64 (i1 : Int)) ∧ Below W.heap.size W w') := fun ho W hW => begunK_any W (h.below hW) FF TT VV (ownsRow_below hr hW) hn _ i1 (h1 ho).1 (h1 ho).2.1 (h1 ho).2.2
  have HBw2 : Hid (x.op = 16 → ∀ W, Below w.heap.size w W → Calls Tryz.prog 113 #[.pointer (some ⟨K, 0, none⟩), .int .i64 x.imm] W fun e w' => e = .returned (.int .i64 (i2 : Int)) ∧ Below W.heap.size W w') := fun ho W hW => begunK_any W (h.below hW) FF TT VV (ownsRow_below hr hW) hn _ i2 (h2 ho).1 (h2 ho).2.1 (h2 ho).2.2
  have HGD : Hid (goesF F x.op x.a NX i1 i2 = if x.op ≠ 16 then NX else match F x.a.toNat with | .never => [] | .many => NX | .known z => if z = 0 then [(i1 : Int)] else [(i2 : Int)]) := rfl
  have HAX : Hid (x.op = 16 → 0 ≤ x.a ∧ x.a < (VN : Int)) := hA
  clear h hG hr hNX k1w cNx cTo hA h1 h2 eN
  obtain ⟨xo, xid, xa, xb, xi, xp⟩ := x
  dsimp only at *
  unfold inC at *
  dsimp only at *
  go_enter Tryz.func88, Tryz.ntmps88
  go_upto_region 3 with (refine wpList_load_mid rfl 67 _ rfl q (nI * 6) rfl _ _ hx Tryz.underlying67 rfl infoInsG ?_)
  clear k0 hx hI hwn hnII
  have HBW : Hid (Below w.heap.size w (w.alloc (.cells [.int .i64 xo, .int .i64 xid, .int .i64 xa, .int .i64 xb, .int .i64 xi, .int .i64 xp].toArray 67))) := HBX.out
  have HK1 : Hid (∀ W, Below (w.alloc (.cells [.int .i64 xo, .int .i64 xid, .int .i64 xa, .int .i64 xb, .int .i64 xi, .int .i64 xp].toArray 67)).heap.size (w.alloc (.cells [.int .i64 xo, .int .i64 xid, .int .i64 xa, .int .i64 xb, .int .i64 xi, .int .i64 xp].toArray 67)) W → W.cell? ⟨K, 1, none⟩ = some (.slice (some ⟨gB, 0, none⟩) n n)) := fun W hW => HK1w.out W (HBW.out.trans (hW.mono HBW.out.size))
  have HGG : Hid (∀ W, Below (w.alloc (.cells [.int .i64 xo, .int .i64 xid, .int .i64 xa, .int .i64 xb, .int .i64 xi, .int .i64 xp].toArray 67)).heap.size (w.alloc (.cells [.int .i64 xo, .int .i64 xid, .int .i64 xa, .int .i64 xb, .int .i64 xi, .int .i64 xp].toArray 67)) W → KnowG W) := fun W hW => HGw.out W (HBW.out.trans (hW.mono HBW.out.size))
  have HWW : Hid (∀ W, Below (w.alloc (.cells [.int .i64 xo, .int .i64 xid, .int .i64 xa, .int .i64 xb, .int .i64 xi, .int .i64 xp].toArray 67)).heap.size (w.alloc (.cells [.int .i64 xo, .int .i64 xid, .int .i64 xa, .int .i64 xb, .int .i64 xi, .int .i64 xp].toArray 67)) W → Below w.heap.size w W) := fun W hW => HBW.out.trans (hW.mono HBW.out.size)
  generalize (w.alloc (.cells [.int .i64 xo, .int .i64 xid, .int .i64 xa, .int .i64 xb, .int .i64 xi, .int .i64 xp].toArray 67)) = V at *
  have x0 : V.cell? ⟨w.heap.size, 0, none⟩ = some (.int .i64 xo) := by rw [cell_of_row _ _ _ _ _ _ r6]; rfl
  have x2 : V.cell? ⟨w.heap.size, 2, none⟩ = some (.int .i64 xa) := by rw [cell_of_row _ _ _ _ _ _ r6]; rfl
  have x4 : V.cell? ⟨w.heap.size, 4, none⟩ = some (.int .i64 xi) := by rw [cell_of_row _ _ _ _ _ _ r6]; rfl
  clear r6
  have HDT : Hid (∀ W, Below V.heap.size V W → W.cell? ⟨gB, b * 4 + 1, none⟩ = some (.int .i64 (TT b)) ∧ W.cell? ⟨gB, b * 4 + 2, none⟩ = some (.slice aN nN cN) ∧ W.cell? ⟨w.heap.size, 4, none⟩ = some (.int .i64 xi) ∧ IntsVal W (.slice aN nN cN) NX) := fun W hW => ⟨(HDw.out W (HWW.out W hW)).1, (HDw.out W (HWW.out W hW)).2.1, keeps_below hW _ _ x4, (HDw.out W (HWW.out W hW)).2.2⟩
  by_cases ho : xo = 16
  · have hoo : (xo != 16) = false := by simpa using ho
    obtain ⟨an, rfl⟩ : ∃ an : Nat, xa = (an : Int) := ⟨xa.toNat, by have := (HAX.out ho).1; omega⟩
    have han : an < VN := by have := (HAX.out ho).2; omega
    have hanI : (an : Int) < (VN : Int) := by omega
    have HKV := HKN.out V (HWW.out V (Below.refl _ _))
    have hf := HKV.fact han
    have k2 : V.cell? ⟨K, 2, none⟩ = some (.slice (some ⟨FB, 0, none⟩) VN VN) := by rw [cell_of_row _ _ _ _ _ _ HKV.box]; rfl
    have HB1 : Hid (∀ W, Below V.heap.size V W → Calls Tryz.prog 113 #[.pointer (some ⟨K, 0, none⟩), .int .i64 (TT b)] W fun e w' => e = .returned (.int .i64 (i1 : Int)) ∧ Below W.heap.size W w') := fun W hW => HBw1.out ho W (HWW.out W hW)
    have HB2 : Hid (∀ W, Below V.heap.size V W → Calls Tryz.prog 113 #[.pointer (some ⟨K, 0, none⟩), .int .i64 xi] W fun e w' => e = .returned (.int .i64 (i2 : Int)) ∧ Below W.heap.size W w') := fun W hW => HBw2.out ho W (HWW.out W hW)
    have HOO : Hid (xo = 16) := ho
    clear HKV han ho HBw1 HBw2 HAX
    go_upto_region 5 with fail
    have xa := x2
    clear x0 x2 x4
    cases hF : F an with
    | never =>
      rw [hF] at hf
      have HGL : Hid (goesF F xo (an : Int) NX i1 i2 = []) := by show _ = _; rw [HGD.out, if_neg (fun h => h HOO.out), Int.toNat_natCast, hF]
      clear hF
      have hf : V.rangeAt FB (an * 2) [.int .i64 0, .int .i64 0] := hf
      refine wp_region_held_drew (S := fun W => Below V.heap.size V W) (by kernel_rfl) ((Below.refl _ _).drew) (fun hHeld => ?_)
      show wpAnyH _ _ _ _ _ 10 _ _ _
      refine wpAnyH_take (i := 0) (v := ?_) rfl (by kernel_rfl) (by kernel_rfl) (by kernel_rfl) (fun _ _ _ h => h) (Or.inl ⟨by rfl, ?_⟩) (by assumption) ?_
      rotate_left
      · (intro W hSW; go_simp; try (with_reducible rfl))
      (try simp only [zB])
      (try simp only [zA])
      refine wpAnyH_take (i := 1) (v := ?_) rfl (by kernel_rfl) (by kernel_rfl) (by kernel_rfl) (fun _ _ _ h => h) (Or.inl ⟨by rfl, ?_⟩) (by assumption) ?_
      rotate_left
      · (intro W hSW; go_simp; try (with_reducible rfl))
      (try simp only [zB])
      (try simp only [zA])
      refine wpAnyH_take (i := 2) (v := ?_) rfl (by kernel_rfl) (by kernel_rfl) (by kernel_rfl) (fun _ _ _ h => h) (Or.inl ⟨by rfl, ?_⟩) (by assumption) ?_
      rotate_left
      · (intro W hSW; go_simp; try (with_reducible rfl))
      (try simp only [zB])
      (try simp only [zA])
      refine wpAnyH_take (i := 3) (v := ?_) rfl (by kernel_rfl) (by kernel_rfl) (by kernel_rfl) (fun _ _ _ h => h) (Or.inl ⟨by rfl, ?_⟩) (by assumption) ?_
      rotate_left
      · (intro W hSW; have z0 := keeps_below hSW _ _ k2; go_simp; try (with_reducible rfl))
      (try simp only [zB])
      (try simp only [zA])
      refine wpAnyH_take (i := 4) (v := ?_) rfl (by kernel_rfl) (by kernel_rfl) (by kernel_rfl) (fun _ _ _ h => h) (Or.inl ⟨by rfl, ?_⟩) (by assumption) ?_
      rotate_left
      · (intro W hSW; go_simp; try (with_reducible rfl))
      (try simp only [zB])
      (try simp only [zA])
      refine wpAnyH_take (i := 5) (v := ?_) rfl (by kernel_rfl) (by kernel_rfl) (by kernel_rfl) (fun _ _ _ h => h) (Or.inl ⟨by rfl, ?_⟩) (by assumption) ?_
      rotate_left
      · (intro W hSW; have z0 := keeps_below hSW _ _ xa; go_simp; try (with_reducible rfl))
      (try simp only [zB])
      (try simp only [zA])
      refine wpAnyH_take (i := 6) (v := ?_) rfl (by kernel_rfl) (by kernel_rfl) (by kernel_rfl) (fun _ _ _ h => h) (Or.inl ⟨by rfl, ?_⟩) (by assumption) ?_
      rotate_left
      · (intro W hSW; go_simp; try (with_reducible rfl))
      (try simp only [zB])
      (try simp only [zA])
      refine wpAnyH_take (i := 7) (v := .agg [.int .i64 0, .int .i64 0].toArray) rfl (by kernel_rfl) (by kernel_rfl) (by kernel_rfl) (fun _ _ _ h => h) (yieldsIf_load_mid (by rfl) 65 _ rfl (FB) (an * 2) rfl [.int .i64 0, .int .i64 0] _ (fun W hSW j u hu => keeps_below hSW _ _ (hf j u hu)) Tryz.underlying65 rfl infoFact) (by assumption) ?_
      (try simp only [zB])
      (try simp only [zA])
      refine wpAnyH_ready (rs := [8]) (by kernel_rfl) (by simp) ?_
      refine AllReadyH.cons rfl (fun K hK => ?_) AllReadyH.nil
      go_simp
      have HBA0 : Below V.heap.size V (V.drew.alloc (.cells #[.int .i64 0, .int .i64 0] 65)) := Below.alloc hHeld (Below.size hHeld) _
      refine hK.out _ _ HBA0 (fun _ => ?_)
      clear hK K
      (try simp only [zA])
      have rowA : (V.drew.alloc (.cells #[.int .i64 0, .int .i64 0] 65)).heap[V.drew.heap.size]? = some (.cells #[.int .i64 0, .int .i64 0] 65 (0, 0)) := heap_alloc_last V.drew _
      refine wpAnyH_ready (rs := [9]) (by kernel_rfl) (by simp) ?_
      refine AllReadyH.cons rfl (fun K hK => ?_) AllReadyH.nil
      refine wp_store_row 65 _ _ rfl (V.drew.heap.size) #[.int .i64 0, .int .i64 0] rfl rfl 65 #[.int .i64 0, .int .i64 0] rowA infoFact rfl (by simp [Value.oneCell']) ?_
      have BN : Below V.heap.size V (World.setRow (V.drew.alloc (.cells #[.int .i64 0, .int .i64 0] 65)) (V.drew.heap.size) #[.int .i64 0, .int .i64 0]) := belowSK HBA0 (Below.size hHeld) _
      refine hK.out _ _ BN (fun _ => ?_)
      clear hK K
      (try simp only [zB])
      (try simp only [Act.put])
      refine wpAnyH_done (by kernel_rfl) ?_ _
      (try simp only [zB])
      (try simp only [zA])
      have r7 : (World.setRow ((V.alloc (.cells #[.int .i64 0, .int .i64 0] 65)).drew) V.drew.heap.size #[.int .i64 0, .int .i64 0]).heap[V.heap.size]? = some (.cells #[.int .i64 0, .int .i64 0] 65 (0, 0)) := setRow_heap _ _ _ (#[.int .i64 0, .int .i64 0] : Array Value) _ _ rowA
      replace BN : Below V.heap.size V (World.setRow ((V.alloc (.cells #[.int .i64 0, .int .i64 0] 65)).drew) V.drew.heap.size #[.int .i64 0, .int .i64 0]) := BN
      generalize (World.setRow ((V.alloc (.cells #[.int .i64 0, .int .i64 0] 65)).drew) V.drew.heap.size #[.int .i64 0, .int .i64 0]) = V5 at *
      have HBV : Hid (Below V.heap.size V V5) := BN
      (try clear hHeld)
      (try clear rowA)
      (try clear HBA0)
      clear hf k2 xa BN
      obtain ⟨hgn, hgm⟩ := HGG.out V5 HBV.out
      have he1 : ∀ W, _ := fun W => equal_fact 0 0 0 0 W
      rw [show (((0 : Int) == 0) && ((0 : Int) == 0)) = true from rfl] at he1
      go_wp2_with (first | (refine wpList_load_row rfl 65 (.tmp 7) rfl _ rfl _ _ _ _ r7 Tryz.underlying65 rfl infoFact ?_) | (refine wpList_load_mid rfl 65 (.global 1) rfl 1 0 rfl _ _ hgn Tryz.underlying65 rfl infoFact ?_) | (refine wpList_load_mid rfl 65 (.global 0) rfl 0 0 rfl _ _ hgm Tryz.underlying65 rfl infoFact ?_))
      go_ret
      exact HP.out _ _ ⟨_, rfl, by rw [HGL.out]; exact ints_nil _, HBW.out.trans (HBV.out.mono HBW.out.size)⟩
    | many =>
      rw [hF] at hf
      have HGL : Hid (goesF F xo (an : Int) NX i1 i2 = NX) := by show _ = _; rw [HGD.out, if_neg (fun h => h HOO.out), Int.toNat_natCast, hF]
      clear hF
      have hf : V.rangeAt FB (an * 2) [.int .i64 2, .int .i64 0] := hf
      refine wp_region_held_drew (S := fun W => Below V.heap.size V W) (by kernel_rfl) ((Below.refl _ _).drew) (fun hHeld => ?_)
      show wpAnyH _ _ _ _ _ 10 _ _ _
      refine wpAnyH_take (i := 0) (v := ?_) rfl (by kernel_rfl) (by kernel_rfl) (by kernel_rfl) (fun _ _ _ h => h) (Or.inl ⟨by rfl, ?_⟩) (by assumption) ?_
      rotate_left
      · (intro W hSW; go_simp; try (with_reducible rfl))
      (try simp only [zB])
      (try simp only [zA])
      refine wpAnyH_take (i := 1) (v := ?_) rfl (by kernel_rfl) (by kernel_rfl) (by kernel_rfl) (fun _ _ _ h => h) (Or.inl ⟨by rfl, ?_⟩) (by assumption) ?_
      rotate_left
      · (intro W hSW; go_simp; try (with_reducible rfl))
      (try simp only [zB])
      (try simp only [zA])
      refine wpAnyH_take (i := 2) (v := ?_) rfl (by kernel_rfl) (by kernel_rfl) (by kernel_rfl) (fun _ _ _ h => h) (Or.inl ⟨by rfl, ?_⟩) (by assumption) ?_
      rotate_left
      · (intro W hSW; go_simp; try (with_reducible rfl))
      (try simp only [zB])
      (try simp only [zA])
      refine wpAnyH_take (i := 3) (v := ?_) rfl (by kernel_rfl) (by kernel_rfl) (by kernel_rfl) (fun _ _ _ h => h) (Or.inl ⟨by rfl, ?_⟩) (by assumption) ?_
      rotate_left
      · (intro W hSW; have z0 := keeps_below hSW _ _ k2; go_simp; try (with_reducible rfl))
      (try simp only [zB])
      (try simp only [zA])
      refine wpAnyH_take (i := 4) (v := ?_) rfl (by kernel_rfl) (by kernel_rfl) (by kernel_rfl) (fun _ _ _ h => h) (Or.inl ⟨by rfl, ?_⟩) (by assumption) ?_
      rotate_left
      · (intro W hSW; go_simp; try (with_reducible rfl))
      (try simp only [zB])
      (try simp only [zA])
      refine wpAnyH_take (i := 5) (v := ?_) rfl (by kernel_rfl) (by kernel_rfl) (by kernel_rfl) (fun _ _ _ h => h) (Or.inl ⟨by rfl, ?_⟩) (by assumption) ?_
      rotate_left
      · (intro W hSW; have z0 := keeps_below hSW _ _ xa; go_simp; try (with_reducible rfl))
      (try simp only [zB])
      (try simp only [zA])
      refine wpAnyH_take (i := 6) (v := ?_) rfl (by kernel_rfl) (by kernel_rfl) (by kernel_rfl) (fun _ _ _ h => h) (Or.inl ⟨by rfl, ?_⟩) (by assumption) ?_
      rotate_left
      · (intro W hSW; go_simp; try (with_reducible rfl))
      (try simp only [zB])
      (try simp only [zA])
      refine wpAnyH_take (i := 7) (v := .agg [.int .i64 2, .int .i64 0].toArray) rfl (by kernel_rfl) (by kernel_rfl) (by kernel_rfl) (fun _ _ _ h => h) (yieldsIf_load_mid (by rfl) 65 _ rfl (FB) (an * 2) rfl [.int .i64 2, .int .i64 0] _ (fun W hSW j u hu => keeps_below hSW _ _ (hf j u hu)) Tryz.underlying65 rfl infoFact) (by assumption) ?_
      (try simp only [zB])
      (try simp only [zA])
      refine wpAnyH_ready (rs := [8]) (by kernel_rfl) (by simp) ?_
      refine AllReadyH.cons rfl (fun K hK => ?_) AllReadyH.nil
      go_simp
      have HBA0 : Below V.heap.size V (V.drew.alloc (.cells #[.int .i64 0, .int .i64 0] 65)) := Below.alloc hHeld (Below.size hHeld) _
      refine hK.out _ _ HBA0 (fun _ => ?_)
      clear hK K
      (try simp only [zA])
      have rowA : (V.drew.alloc (.cells #[.int .i64 0, .int .i64 0] 65)).heap[V.drew.heap.size]? = some (.cells #[.int .i64 0, .int .i64 0] 65 (0, 0)) := heap_alloc_last V.drew _
      refine wpAnyH_ready (rs := [9]) (by kernel_rfl) (by simp) ?_
      refine AllReadyH.cons rfl (fun K hK => ?_) AllReadyH.nil
      refine wp_store_row 65 _ _ rfl (V.drew.heap.size) #[.int .i64 2, .int .i64 0] rfl rfl 65 #[.int .i64 0, .int .i64 0] rowA infoFact rfl (by simp [Value.oneCell']) ?_
      have BN : Below V.heap.size V (World.setRow (V.drew.alloc (.cells #[.int .i64 0, .int .i64 0] 65)) (V.drew.heap.size) #[.int .i64 2, .int .i64 0]) := belowSK HBA0 (Below.size hHeld) _
      refine hK.out _ _ BN (fun _ => ?_)
      clear hK K
      (try simp only [zB])
      (try simp only [Act.put])
      refine wpAnyH_done (by kernel_rfl) ?_ _
      (try simp only [zB])
      (try simp only [zA])
      have r7 : (World.setRow ((V.alloc (.cells #[.int .i64 0, .int .i64 0] 65)).drew) V.drew.heap.size #[.int .i64 2, .int .i64 0]).heap[V.heap.size]? = some (.cells #[.int .i64 2, .int .i64 0] 65 (0, 0)) := setRow_heap _ _ _ (#[.int .i64 2, .int .i64 0] : Array Value) _ _ rowA
      replace BN : Below V.heap.size V (World.setRow ((V.alloc (.cells #[.int .i64 0, .int .i64 0] 65)).drew) V.drew.heap.size #[.int .i64 2, .int .i64 0]) := BN
      generalize (World.setRow ((V.alloc (.cells #[.int .i64 0, .int .i64 0] 65)).drew) V.drew.heap.size #[.int .i64 2, .int .i64 0]) = V5 at *
      have HBV : Hid (Below V.heap.size V V5) := BN
      (try clear hHeld)
      (try clear rowA)
      (try clear HBA0)
      clear hf k2 xa BN
      obtain ⟨hgn, hgm⟩ := HGG.out V5 HBV.out
      have he1 : ∀ W, _ := fun W => equal_fact 2 0 0 0 W
      have he2 : ∀ W, _ := fun W => equal_fact 2 0 2 0 W
      rw [show (((2 : Int) == 0) && ((0 : Int) == 0)) = false from rfl] at he1
      rw [show (((2 : Int) == 2) && ((0 : Int) == 0)) = true from rfl] at he2
      obtain ⟨-, cn, -, hnx⟩ := HDT.out V5 HBV.out
      have HNX : Hid (IntsVal V5 (.slice aN nN cN) NX) := hnx
      have k1 := (HK1.out V5 HBV.out)
      clear hnx
      go_wp2_with (first | (refine wpList_load_row rfl 65 (.tmp 7) rfl _ rfl _ _ _ _ r7 Tryz.underlying65 rfl infoFact ?_) | (refine wpList_load_mid rfl 65 (.global 1) rfl 1 0 rfl _ _ hgn Tryz.underlying65 rfl infoFact ?_) | (refine wpList_load_mid rfl 65 (.global 0) rfl 0 0 rfl _ _ hgm Tryz.underlying65 rfl infoFact ?_))
      go_ret
      exact HP.out _ _ ⟨_, rfl, by rw [HGL.out]; exact HNX.out, HBW.out.trans (HBV.out.mono HBW.out.size)⟩
    | known z =>
      rw [hF] at hf
      by_cases hz0 : z = 0
      · subst hz0
        have HGL : Hid (goesF F xo (an : Int) NX i1 i2 = [(i1 : Int)]) := by show _ = _; rw [HGD.out, if_neg (fun h => h HOO.out), Int.toNat_natCast, hF]; exact if_pos rfl
        clear hF
        have hf : V.rangeAt FB (an * 2) [.int .i64 1, .int .i64 0] := hf
        refine wp_region_held_drew (S := fun W => Below V.heap.size V W) (by kernel_rfl) ((Below.refl _ _).drew) (fun hHeld => ?_)
        show wpAnyH _ _ _ _ _ 10 _ _ _
        refine wpAnyH_take (i := 0) (v := ?_) rfl (by kernel_rfl) (by kernel_rfl) (by kernel_rfl) (fun _ _ _ h => h) (Or.inl ⟨by rfl, ?_⟩) (by assumption) ?_
        rotate_left
        · (intro W hSW; go_simp; try (with_reducible rfl))
        (try simp only [zB])
        (try simp only [zA])
        refine wpAnyH_take (i := 1) (v := ?_) rfl (by kernel_rfl) (by kernel_rfl) (by kernel_rfl) (fun _ _ _ h => h) (Or.inl ⟨by rfl, ?_⟩) (by assumption) ?_
        rotate_left
        · (intro W hSW; go_simp; try (with_reducible rfl))
        (try simp only [zB])
        (try simp only [zA])
        refine wpAnyH_take (i := 2) (v := ?_) rfl (by kernel_rfl) (by kernel_rfl) (by kernel_rfl) (fun _ _ _ h => h) (Or.inl ⟨by rfl, ?_⟩) (by assumption) ?_
        rotate_left
        · (intro W hSW; go_simp; try (with_reducible rfl))
        (try simp only [zB])
        (try simp only [zA])
        refine wpAnyH_take (i := 3) (v := ?_) rfl (by kernel_rfl) (by kernel_rfl) (by kernel_rfl) (fun _ _ _ h => h) (Or.inl ⟨by rfl, ?_⟩) (by assumption) ?_
        rotate_left
        · (intro W hSW; have z0 := keeps_below hSW _ _ k2; go_simp; try (with_reducible rfl))
        (try simp only [zB])
        (try simp only [zA])
        refine wpAnyH_take (i := 4) (v := ?_) rfl (by kernel_rfl) (by kernel_rfl) (by kernel_rfl) (fun _ _ _ h => h) (Or.inl ⟨by rfl, ?_⟩) (by assumption) ?_
        rotate_left
        · (intro W hSW; go_simp; try (with_reducible rfl))
        (try simp only [zB])
        (try simp only [zA])
        refine wpAnyH_take (i := 5) (v := ?_) rfl (by kernel_rfl) (by kernel_rfl) (by kernel_rfl) (fun _ _ _ h => h) (Or.inl ⟨by rfl, ?_⟩) (by assumption) ?_
        rotate_left
        · (intro W hSW; have z0 := keeps_below hSW _ _ xa; go_simp; try (with_reducible rfl))
        (try simp only [zB])
        (try simp only [zA])
        refine wpAnyH_take (i := 6) (v := ?_) rfl (by kernel_rfl) (by kernel_rfl) (by kernel_rfl) (fun _ _ _ h => h) (Or.inl ⟨by rfl, ?_⟩) (by assumption) ?_
        rotate_left
        · (intro W hSW; go_simp; try (with_reducible rfl))
        (try simp only [zB])
        (try simp only [zA])
        refine wpAnyH_take (i := 7) (v := .agg [.int .i64 1, .int .i64 0].toArray) rfl (by kernel_rfl) (by kernel_rfl) (by kernel_rfl) (fun _ _ _ h => h) (yieldsIf_load_mid (by rfl) 65 _ rfl (FB) (an * 2) rfl [.int .i64 1, .int .i64 0] _ (fun W hSW j u hu => keeps_below hSW _ _ (hf j u hu)) Tryz.underlying65 rfl infoFact) (by assumption) ?_
        (try simp only [zB])
        (try simp only [zA])
        refine wpAnyH_ready (rs := [8]) (by kernel_rfl) (by simp) ?_
        refine AllReadyH.cons rfl (fun K hK => ?_) AllReadyH.nil
        go_simp
        have HBA0 : Below V.heap.size V (V.drew.alloc (.cells #[.int .i64 0, .int .i64 0] 65)) := Below.alloc hHeld (Below.size hHeld) _
        refine hK.out _ _ HBA0 (fun _ => ?_)
        clear hK K
        (try simp only [zA])
        have rowA : (V.drew.alloc (.cells #[.int .i64 0, .int .i64 0] 65)).heap[V.drew.heap.size]? = some (.cells #[.int .i64 0, .int .i64 0] 65 (0, 0)) := heap_alloc_last V.drew _
        refine wpAnyH_ready (rs := [9]) (by kernel_rfl) (by simp) ?_
        refine AllReadyH.cons rfl (fun K hK => ?_) AllReadyH.nil
        refine wp_store_row 65 _ _ rfl (V.drew.heap.size) #[.int .i64 1, .int .i64 0] rfl rfl 65 #[.int .i64 0, .int .i64 0] rowA infoFact rfl (by simp [Value.oneCell']) ?_
        have BN : Below V.heap.size V (World.setRow (V.drew.alloc (.cells #[.int .i64 0, .int .i64 0] 65)) (V.drew.heap.size) #[.int .i64 1, .int .i64 0]) := belowSK HBA0 (Below.size hHeld) _
        refine hK.out _ _ BN (fun _ => ?_)
        clear hK K
        (try simp only [zB])
        (try simp only [Act.put])
        refine wpAnyH_done (by kernel_rfl) ?_ _
        (try simp only [zB])
        (try simp only [zA])
        have r7 : (World.setRow ((V.alloc (.cells #[.int .i64 0, .int .i64 0] 65)).drew) V.drew.heap.size #[.int .i64 1, .int .i64 0]).heap[V.heap.size]? = some (.cells #[.int .i64 1, .int .i64 0] 65 (0, 0)) := setRow_heap _ _ _ (#[.int .i64 1, .int .i64 0] : Array Value) _ _ rowA
        replace BN : Below V.heap.size V (World.setRow ((V.alloc (.cells #[.int .i64 0, .int .i64 0] 65)).drew) V.drew.heap.size #[.int .i64 1, .int .i64 0]) := BN
        generalize (World.setRow ((V.alloc (.cells #[.int .i64 0, .int .i64 0] 65)).drew) V.drew.heap.size #[.int .i64 1, .int .i64 0]) = V5 at *
        have HBV : Hid (Below V.heap.size V V5) := BN
        (try clear hHeld)
        (try clear rowA)
        (try clear HBA0)
        clear hf k2 xa BN
        obtain ⟨hgn, hgm⟩ := HGG.out V5 HBV.out
        have he1 : ∀ W, _ := fun W => equal_fact 1 0 0 0 W
        have he2 : ∀ W, _ := fun W => equal_fact 1 0 2 0 W
        have he3 : ∀ W, _ := fun W => equal_fact 1 0 1 0 W
        rw [show (((1 : Int) == 0) && ((0 : Int) == 0)) = false from rfl] at he1
        rw [show (((1 : Int) == 2) && ((0 : Int) == 0)) = false from rfl] at he2
        rw [show (((1 : Int) == 1) && ((0 : Int) == 0)) = true from rfl] at he3
        go_upto_region 10 with (first | (refine wpList_load_row rfl 65 (.tmp 7) rfl _ rfl _ _ _ _ r7 Tryz.underlying65 rfl infoFact ?_) | (refine wpList_load_mid rfl 65 (.global 1) rfl 1 0 rfl _ _ hgn Tryz.underlying65 rfl infoFact ?_) | (refine wpList_load_mid rfl 65 (.global 0) rfl 0 0 rfl _ _ hgm Tryz.underlying65 rfl infoFact ?_))
        refine wp_region_held_drew (S := fun W => Below V5.heap.size V5 W) (by kernel_rfl) ((Below.refl _ _).drew) (fun hHeld => ?_)
        show wpAnyH _ _ _ _ _ 4 _ _ _
        refine wpAnyH_take (i := 0) (v := .agg [.int .i64 1, .int .i64 0].toArray) rfl (by kernel_rfl) (by kernel_rfl) (by kernel_rfl) (fun _ _ _ h => h) (yieldsIf_load_mid (by rfl) 65 _ rfl (V.heap.size) 0 rfl [.int .i64 1, .int .i64 0] _ (fun W hSW j u hu => by rw [cell_of_row _ _ _ _ _ _ ((hSW.block _ (lt_of_block r7)).trans r7)]; simpa using hu) Tryz.underlying65 rfl infoFact) (by assumption) ?_
        (try simp only [zB])
        (try simp only [zA])
        refine wpAnyH_ready (rs := [1]) (by kernel_rfl) (by simp) ?_
        refine AllReadyH.cons rfl (fun K hK => ?_) AllReadyH.nil
        go_simp
        go_at_call 111
        refine (known_any 0 _).mono ?_
        rintro e V6 ⟨rfl, hbc⟩
        have HBV6 : Below V5.heap.size V5 V6 := Below.trans hHeld (Below.mono hbc (Below.size hHeld))
        dsimp only
        refine hK.out _ _ HBV6 (fun _ => ?_)
        clear hK K hbc hHeld
        have hHeld := HBV6
        (try simp only [zA])
        refine wpAnyH_take (i := 2) (v := ?_) rfl (by kernel_rfl) (by kernel_rfl) (by kernel_rfl) (fun _ _ _ h => h) (Or.inl ⟨by rfl, ?_⟩) (by assumption) ?_
        rotate_left
        · (intro W hSW; go_simp; try (with_reducible rfl))
        (try simp only [zB])
        (try simp only [zA])
        refine wpAnyH_take (i := 3) (v := ?_) rfl (by kernel_rfl) (by kernel_rfl) (by kernel_rfl) (fun _ _ _ h => h) (Or.inl ⟨by rfl, ?_⟩) (by assumption) ?_
        rotate_left
        · (intro W hSW; go_simp; try (with_reducible rfl))
        (try simp only [zB])
        (try simp only [zA])
        refine wpAnyH_done (by kernel_rfl) ?_ _
        have HB6 : Hid (Below V.heap.size V V6) := HBV.out.trans (hHeld.mono HBV.out.size)
        obtain ⟨ct, -, xm, -⟩ := HDT.out V6 HB6.out
        have k1 := (HK1.out V6 HB6.out)
        clear hHeld r7 hgn hgm he1 he2 he3
        have hbg := HB1.out V6 HB6.out
        go_wp2_with (go_at_call 113; refine hbg.mono ?_; rintro e V7 ⟨rfl, hb7⟩)
        go_ret
        refine HP.out _ _ ⟨_, rfl, ?_, HBW.out.trans ((HB6.out.trans ((hb7.trans ((Below.refl _ _).alloc (Nat.le_refl _) _ |>.mono hb7.size)).mono HB6.out.size)).mono HBW.out.size)⟩
        rw [HGL.out]
        exact ints_one _ _
      · have hz : (z == 0) = false := by simpa using hz0
        have HGL : Hid (goesF F xo (an : Int) NX i1 i2 = [(i2 : Int)]) := by show _ = _; rw [HGD.out, if_neg (fun h => h HOO.out), Int.toNat_natCast, hF]; exact if_neg hz0
        clear hF hz0
        have hf : V.rangeAt FB (an * 2) [.int .i64 1, .int .i64 z] := hf
        refine wp_region_held_drew (S := fun W => Below V.heap.size V W) (by kernel_rfl) ((Below.refl _ _).drew) (fun hHeld => ?_)
        show wpAnyH _ _ _ _ _ 10 _ _ _
        refine wpAnyH_take (i := 0) (v := ?_) rfl (by kernel_rfl) (by kernel_rfl) (by kernel_rfl) (fun _ _ _ h => h) (Or.inl ⟨by rfl, ?_⟩) (by assumption) ?_
        rotate_left
        · (intro W hSW; go_simp; try (with_reducible rfl))
        (try simp only [zB])
        (try simp only [zA])
        refine wpAnyH_take (i := 1) (v := ?_) rfl (by kernel_rfl) (by kernel_rfl) (by kernel_rfl) (fun _ _ _ h => h) (Or.inl ⟨by rfl, ?_⟩) (by assumption) ?_
        rotate_left
        · (intro W hSW; go_simp; try (with_reducible rfl))
        (try simp only [zB])
        (try simp only [zA])
        refine wpAnyH_take (i := 2) (v := ?_) rfl (by kernel_rfl) (by kernel_rfl) (by kernel_rfl) (fun _ _ _ h => h) (Or.inl ⟨by rfl, ?_⟩) (by assumption) ?_
        rotate_left
        · (intro W hSW; go_simp; try (with_reducible rfl))
        (try simp only [zB])
        (try simp only [zA])
        refine wpAnyH_take (i := 3) (v := ?_) rfl (by kernel_rfl) (by kernel_rfl) (by kernel_rfl) (fun _ _ _ h => h) (Or.inl ⟨by rfl, ?_⟩) (by assumption) ?_
        rotate_left
        · (intro W hSW; have z0 := keeps_below hSW _ _ k2; go_simp; try (with_reducible rfl))
        (try simp only [zB])
        (try simp only [zA])
        refine wpAnyH_take (i := 4) (v := ?_) rfl (by kernel_rfl) (by kernel_rfl) (by kernel_rfl) (fun _ _ _ h => h) (Or.inl ⟨by rfl, ?_⟩) (by assumption) ?_
        rotate_left
        · (intro W hSW; go_simp; try (with_reducible rfl))
        (try simp only [zB])
        (try simp only [zA])
        refine wpAnyH_take (i := 5) (v := ?_) rfl (by kernel_rfl) (by kernel_rfl) (by kernel_rfl) (fun _ _ _ h => h) (Or.inl ⟨by rfl, ?_⟩) (by assumption) ?_
        rotate_left
        · (intro W hSW; have z0 := keeps_below hSW _ _ xa; go_simp; try (with_reducible rfl))
        (try simp only [zB])
        (try simp only [zA])
        refine wpAnyH_take (i := 6) (v := ?_) rfl (by kernel_rfl) (by kernel_rfl) (by kernel_rfl) (fun _ _ _ h => h) (Or.inl ⟨by rfl, ?_⟩) (by assumption) ?_
        rotate_left
        · (intro W hSW; go_simp; try (with_reducible rfl))
        (try simp only [zB])
        (try simp only [zA])
        refine wpAnyH_take (i := 7) (v := .agg [.int .i64 1, .int .i64 z].toArray) rfl (by kernel_rfl) (by kernel_rfl) (by kernel_rfl) (fun _ _ _ h => h) (yieldsIf_load_mid (by rfl) 65 _ rfl (FB) (an * 2) rfl [.int .i64 1, .int .i64 z] _ (fun W hSW j u hu => keeps_below hSW _ _ (hf j u hu)) Tryz.underlying65 rfl infoFact) (by assumption) ?_
        (try simp only [zB])
        (try simp only [zA])
        refine wpAnyH_ready (rs := [8]) (by kernel_rfl) (by simp) ?_
        refine AllReadyH.cons rfl (fun K hK => ?_) AllReadyH.nil
        go_simp
        have HBA0 : Below V.heap.size V (V.drew.alloc (.cells #[.int .i64 0, .int .i64 0] 65)) := Below.alloc hHeld (Below.size hHeld) _
        refine hK.out _ _ HBA0 (fun _ => ?_)
        clear hK K
        (try simp only [zA])
        have rowA : (V.drew.alloc (.cells #[.int .i64 0, .int .i64 0] 65)).heap[V.drew.heap.size]? = some (.cells #[.int .i64 0, .int .i64 0] 65 (0, 0)) := heap_alloc_last V.drew _
        refine wpAnyH_ready (rs := [9]) (by kernel_rfl) (by simp) ?_
        refine AllReadyH.cons rfl (fun K hK => ?_) AllReadyH.nil
        refine wp_store_row 65 _ _ rfl (V.drew.heap.size) #[.int .i64 1, .int .i64 z] rfl rfl 65 #[.int .i64 0, .int .i64 0] rowA infoFact rfl (by simp [Value.oneCell']) ?_
        have BN : Below V.heap.size V (World.setRow (V.drew.alloc (.cells #[.int .i64 0, .int .i64 0] 65)) (V.drew.heap.size) #[.int .i64 1, .int .i64 z]) := belowSK HBA0 (Below.size hHeld) _
        refine hK.out _ _ BN (fun _ => ?_)
        clear hK K
        (try simp only [zB])
        (try simp only [Act.put])
        refine wpAnyH_done (by kernel_rfl) ?_ _
        (try simp only [zB])
        (try simp only [zA])
        have r7 : (World.setRow ((V.alloc (.cells #[.int .i64 0, .int .i64 0] 65)).drew) V.drew.heap.size #[.int .i64 1, .int .i64 z]).heap[V.heap.size]? = some (.cells #[.int .i64 1, .int .i64 z] 65 (0, 0)) := setRow_heap _ _ _ (#[.int .i64 1, .int .i64 z] : Array Value) _ _ rowA
        replace BN : Below V.heap.size V (World.setRow ((V.alloc (.cells #[.int .i64 0, .int .i64 0] 65)).drew) V.drew.heap.size #[.int .i64 1, .int .i64 z]) := BN
        generalize (World.setRow ((V.alloc (.cells #[.int .i64 0, .int .i64 0] 65)).drew) V.drew.heap.size #[.int .i64 1, .int .i64 z]) = V5 at *
        have HBV : Hid (Below V.heap.size V V5) := BN
        (try clear hHeld)
        (try clear rowA)
        (try clear HBA0)
        clear hf k2 xa BN
        obtain ⟨hgn, hgm⟩ := HGG.out V5 HBV.out
        have he1 : ∀ W, _ := fun W => equal_fact 1 z 0 0 W
        have he2 : ∀ W, _ := fun W => equal_fact 1 z 2 0 W
        have he3 : ∀ W, _ := fun W => equal_fact 1 z 1 0 W
        rw [show (((1 : Int) == 0) && ((z : Int) == 0)) = false from rfl] at he1
        rw [show (((1 : Int) == 2) && ((z : Int) == 0)) = false from rfl] at he2
        rw [show (((1 : Int) == 1) && ((z : Int) == 0)) = (z == 0) from rfl, hz] at he3
        go_upto_region 10 with (first | (refine wpList_load_row rfl 65 (.tmp 7) rfl _ rfl _ _ _ _ r7 Tryz.underlying65 rfl infoFact ?_) | (refine wpList_load_mid rfl 65 (.global 1) rfl 1 0 rfl _ _ hgn Tryz.underlying65 rfl infoFact ?_) | (refine wpList_load_mid rfl 65 (.global 0) rfl 0 0 rfl _ _ hgm Tryz.underlying65 rfl infoFact ?_))
        refine wp_region_held_drew (S := fun W => Below V5.heap.size V5 W) (by kernel_rfl) ((Below.refl _ _).drew) (fun hHeld => ?_)
        show wpAnyH _ _ _ _ _ 4 _ _ _
        refine wpAnyH_take (i := 0) (v := .agg [.int .i64 1, .int .i64 z].toArray) rfl (by kernel_rfl) (by kernel_rfl) (by kernel_rfl) (fun _ _ _ h => h) (yieldsIf_load_mid (by rfl) 65 _ rfl (V.heap.size) 0 rfl [.int .i64 1, .int .i64 z] _ (fun W hSW j u hu => by rw [cell_of_row _ _ _ _ _ _ ((hSW.block _ (lt_of_block r7)).trans r7)]; simpa using hu) Tryz.underlying65 rfl infoFact) (by assumption) ?_
        (try simp only [zB])
        (try simp only [zA])
        refine wpAnyH_ready (rs := [1]) (by kernel_rfl) (by simp) ?_
        refine AllReadyH.cons rfl (fun K hK => ?_) AllReadyH.nil
        go_simp
        go_at_call 111
        refine (known_any 0 _).mono ?_
        rintro e V6 ⟨rfl, hbc⟩
        have HBV6 : Below V5.heap.size V5 V6 := Below.trans hHeld (Below.mono hbc (Below.size hHeld))
        dsimp only
        refine hK.out _ _ HBV6 (fun _ => ?_)
        clear hK K hbc hHeld
        have hHeld := HBV6
        (try simp only [zA])
        refine wpAnyH_take (i := 2) (v := ?_) rfl (by kernel_rfl) (by kernel_rfl) (by kernel_rfl) (fun _ _ _ h => h) (Or.inl ⟨by rfl, ?_⟩) (by assumption) ?_
        rotate_left
        · (intro W hSW; go_simp; try (with_reducible rfl))
        (try simp only [zB])
        (try simp only [zA])
        refine wpAnyH_take (i := 3) (v := ?_) rfl (by kernel_rfl) (by kernel_rfl) (by kernel_rfl) (fun _ _ _ h => h) (Or.inl ⟨by rfl, ?_⟩) (by assumption) ?_
        rotate_left
        · (intro W hSW; go_simp; try (with_reducible rfl))
        (try simp only [zB])
        (try simp only [zA])
        refine wpAnyH_done (by kernel_rfl) ?_ _
        have HB6 : Hid (Below V.heap.size V V6) := HBV.out.trans (hHeld.mono HBV.out.size)
        obtain ⟨ct, -, xm, -⟩ := HDT.out V6 HB6.out
        have k1 := (HK1.out V6 HB6.out)
        clear hHeld r7 hgn hgm he1 he2 he3
        have hbg := HB2.out V6 HB6.out
        go_wp2_with (go_at_call 113; refine hbg.mono ?_; rintro e V7 ⟨rfl, hb7⟩)
        go_ret
        refine HP.out _ _ ⟨_, rfl, ?_, HBW.out.trans ((HB6.out.trans ((hb7.trans ((Below.refl _ _).alloc (Nat.le_refl _) _ |>.mono hb7.size)).mono HB6.out.size)).mono HBW.out.size)⟩
        rw [HGL.out]
        exact ints_one _ _
  · have hoo : (xo != 16) = true := by simpa using ho
    have HGL : Hid (goesF F xo xa NX i1 i2 = NX) := by show _ = _; rw [HGD.out, if_pos ho]
    have k1 := HK1.out V (Below.refl _ _)
    obtain ⟨-, cn, -, hnx⟩ := HDT.out V (Below.refl _ _)
    have HNX : Hid (IntsVal V (.slice aN nN cN) NX) := hnx
    clear ho hnx
    go_wp2
    go_ret
    exact HP.out _ _ ⟨_, rfl, by rw [HGL.out]; exact HNX.out, HBW.out⟩
end Go.Proofs.YtldbmdgpdolaaaaGreatDoor
