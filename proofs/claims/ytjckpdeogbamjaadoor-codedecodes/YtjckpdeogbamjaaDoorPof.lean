/- Contract of tierlineref.ProgramOf, the document's answer to P1.5. -/
import Derived.Test.YtjckpdeogbamjaaDoorDecode
import Derived.Test.YtjckpdeogbamjaaDoorByteAt
import Derived.Test.YtjckpdeogbamjaaDoorRefWalk
import Derived.Test.YtjckpdeogbamjaaDoorTail
namespace Go.Proofs.YtjckpdeogbamjaaDoor
open Go Go.RowKit

/-- One function more, laid beside the others; the variable that leads to them was set. -/
theorem pof_more {wx w3 : World} {base tF tI tP O : Nat} {vo u v3 : Value} {P : List Fn} {us : List Value} {f : Fn} (ht : tI ≠ tF) (hO : O < base)
    (hbt : Built wx base tF tI vo P us) (ho : wx.heap[O]? = some (.cells #[vo] tP (0, 0))) (hu : wx.ownsRow base tI 5 u f.code.length (codeCells f.code)) (hB : base ≤ wx.heap.size)
    (hg : wx.grownBy w3 vo.ownBlock) (hown3 : w3.ownsRow base tF 3 v3 (P.length + 1) (fnsCells P us ++ fnCells f u)) :
    w3.heap[O]? = some (.cells #[vo] tP (0, 0)) ∧ Built (w3.setCell ⟨O, 0, none⟩ v3) base tF tI v3 (P ++ [f]) (us ++ [u]) ∧ (w3.setCell ⟨O, 0, none⟩ v3).heap[O]? = some (.cells #[v3] tP (0, 0)) ∧
      (∀ j ob, j < O → wx.heap[j]? = some ob → (w3.setCell ⟨O, 0, none⟩ v3).heap[j]? = some ob) ∧ ∀ B' W0, B' ≤ O → Below B' W0 wx → Below B' W0 (w3.setCell ⟨O, 0, none⟩ v3) := by
  have hrow : ∀ k, vo.ownBlock = some k → base ≤ k := fun k hk => (hbt.row.lt k hk).1
  have ho3 : w3.heap[O]? = some (.cells #[vo] tP (0, 0)) := (hg.block O (lt_of_block ho) (fun e => by have := hrow O e.symm; omega)).trans ho
  refine ⟨ho3, (hbt.snoc ht hu hown3 hg).setCell hO _, one_setCell ho3, fun j ob hj hob => ?_, fun B' W0 hB' h => ?_⟩
  · rw [Below.heap_setCell _ _ _ _ (by simp; omega)]
    exact (hg.block j (lt_of_block hob) (fun e => by have := hrow j e.symm; omega)).trans hob
  · exact (h.grown hg (by omega) (fun k hk => by have := hrow k hk; omega)).setCell hB' _

/-- One instruction more of the document's answer: it was laid beside the others. -/
theorem pf_step {wo wr w4 : World} {F tI tF j : Nat} {p r vc v4 : Value} {xs ys : List Value} {o : Obj} (hF : F = wo.heap.size) (hf : wr.heap[F]? = some (.cells #[p, r, vc] tF)) (hown : wr.ownsRow (F + 1) tI 5 vc j xs) (hb : Below wo.heap.size wo wr)
    (hg4 : (wr.alloc o).drew.grownBy w4 vc.ownBlock) (hown4 : w4.ownsRow (F + 1) tI 5 v4 (j + 1) ys) :
    w4.heap[F]? = some (.cells #[p, r, vc] tF) ∧ (w4.setCell ⟨F, 2, none⟩ v4).heap[F]? = some (.cells #[p, r, v4] tF) ∧ (w4.setCell ⟨F, 2, none⟩ v4).ownsRow (F + 1) tI 5 v4 (j + 1) ys ∧ Below wo.heap.size wo (w4.setCell ⟨F, 2, none⟩ v4) := by
  subst hF
  have hrow : ∀ k, vc.ownBlock = some k → wo.heap.size + 1 ≤ k := fun k hk => (hown.lt k hk).1
  have hz := lt_of_block hf
  have e4 : w4.heap[wo.heap.size]? = some (.cells #[p, r, vc] tF) :=
    (hg4.block _ (by simp; omega) (fun e => by have := hrow _ e.symm; omega)).trans ((heap_alloc_old wr o hz).trans hf)
  refine ⟨e4, ?_, ownsRow_setCell_below hown4 (by simp) _, ?_⟩
  · rw [heap_setCell_same w4 _ 2 _ tF v4 e4]; rfl
  · exact (((hb.alloc (by omega) o).drew).grown hg4 (by simp; omega) (fun k hk => by have := hrow k hk; omega)).setCell (Nat.le_refl _) _

set_option maxRecDepth 100000 in
set_option maxHeartbeats 4000000 in
theorem pof_some (l : List Int) (v : Value) (w : World) (hv : BytesVal w v l) (hby : ∀ i, 0 ≤ l.getD i 0 ∧ l.getD i 0 ≤ 255) (h1 : 1 ≤ l.length) (h4 : l.length ≤ 4000) :
    Calls Tryd.prog 10 #[v] w fun e w' => ∃ u us, e = .returned (.tuple #[.agg #[u], .int .i64 (decErr l)]) ∧ Built w' w.heap.size 42 44 u (decProg l) us ∧ Below w.heap.size w w' := by
  obtain ⟨iF, hiF, hzF0, hzF1, hzF2⟩ := info_parts infoF
  obtain ⟨iI, hiI, hzI0, hzI1, hzI2⟩ := info_parts infoI
  obtain ⟨ao, n, cap, rfl, hlen, h0, hc0⟩ := hv
  obtain ⟨b, off, rfl, hc⟩ := hc0 (by omega)
  have HV : Hid (∀ W, Below w.heap.size w W → BytesVal W (.slice (some ⟨b, off, none⟩) n cap) l) := fun W hb => BytesVal.keeps ⟨_, n, cap, rfl, hlen, h0, hc0⟩ (keeps_below hb)
  have hbw := World.block_lt_of_cell? _ _ (hc 0 (by omega))
  dsimp only at hbw
  have HBY : Hid (∀ i, 0 ≤ l.getD i 0 ∧ l.getD i 0 ≤ 255) := hby
  have HC : Hid (∀ W, Below w.heap.size w W → ∀ i, i < n → W.cell? ⟨b, off + i, none⟩ = some (.int .u8 (l.getD i 0))) := fun W hb i hi => keeps_below hb _ _ (hc i hi)
  have hb00 := hby 0
  obtain ⟨N, hN⟩ : ∃ N : Nat, l.getD 0 0 = (N : Int) := ⟨(l.getD 0 0).toNat, by omega⟩
  have HNN : Hid (l.getD 0 0 = (N : Int)) := hN
  have hN255 : N ≤ 255 := by omega
  have HL : Hid (l.length = n) := hlen
  have HB0 : Hid (byteAtZ l 0 = (N : Int)) := by show _ = _; unfold byteAtZ byteAtI; rw [if_pos (by omega)]; exact hN
  rw [hlen] at h1 h4
  clear hc hc0 h0 hby hlen hb00 hN
  go_enter Tryd.func10, Tryd.ntmps10
  go_wp2_with fail
  go_loopg [5, 6] N (fun m at_ i wr => ∃ (k : Nat) (vo : Value) (us : List Value), k + m = N ∧ i = .int .i64 k ∧ at_ = .int .i64 (atK l k) ∧ atK l k ≤ n ∧ wr.heap[w.heap.size]? = some (.cells #[.slice none 0 0] 26 (0, 0)) ∧ wr.heap[w.heap.size + 1]? = some (.cells #[vo] 26 (0, 0)) ∧ Built wr (w.heap.size + 2) 42 44 vo (fnsPart l k) us ∧ Below w.heap.size w wr)
  case atStart =>
    have e1 := heap_alloc_new w (.cells #[.slice none 0 0] 26)
    have e2 := heap_alloc_new (w.alloc (.cells #[.slice none 0 0] 26)) (.cells #[.slice none 0 0] 26)
    simp only [World.size_alloc] at e2
    exact ⟨0, _, [], by omega, rfl, rfl, h1, (heap_alloc_old _ _ (by simp)).trans e1, e2, built_nil _ _ _ _, ((Below.refl _ _).alloc (Nat.le_refl _) _).alloc (by simp) _⟩
  case round =>
    rename Nat => gko
    obtain ⟨k, vo, us, hkm, rfl, rfl, hkn, hz, hp, hbt, hbl⟩ := hrel
    have hv0 : Hid (BytesVal wr (.slice (some ⟨b, off, none⟩) n cap) l) := HV.out wr hbl
    have HZ : Hid _ := hz
    have HPP : Hid _ := hp
    have HBT : Hid _ := hbt
    have HBL : Hid _ := hbl
    clear hz hp hbt hbl
    by_cases hlt : k < N
    · obtain ⟨A, hA⟩ : ∃ A, A = atK l k := ⟨_, rfl⟩
      have HA : Hid (A = atK l k) := hA
      have HAT : Hid (atK l (k + 1) = A + 3 + 12 * (l.getD (A + 2) 0).toNat) := by show _ = _; rw [atK, hA]
      rw [← hA] at hkn ⊢
      have hb2 := HBY.out (A + 2)
      obtain ⟨C, hC⟩ : ∃ C : Nat, l.getD (A + 2) 0 = (C : Int) := ⟨(l.getD (A + 2) 0).toNat, by omega⟩
      have HCC : Hid (l.getD (A + 2) 0 = (C : Int)) := hC
      have hC255 : C ≤ 255 := by omega
      rw [hC, Int.toNat_natCast] at HAT
      clear hA hC hb2
      by_cases hfit : A + 3 + 12 * C ≤ n
      · have HBA : Hid (byteAtZ l ((A : Int) + 2) = (C : Int)) := by show _ = _; unfold byteAtZ byteAtI; rw [show ((A : Int) + 2).toNat = A + 2 by omega, if_pos (by rw [HL.out]; omega)]; exact HCC.out
        go_wp2_with (go_at_call 20; refine (byteAt_z l _ n cap _ _ hv0.out HBY.out (by omega) (by omega) (by omega)).mono ?_; rintro e w' ⟨rfl, hw'⟩; rw [hw']; clear hw' w'; first | rw [HB0.out] | rw [HBA.out])
        have cA := HC.out wr HBL.out A (by omega)
        have cA1 := HC.out wr HBL.out (A + 1) (by omega)
        have bA := HBY.out A
        have bA1 := HBY.out (A + 1)
        have HFN : Hid (fnOf l A = ⟨l.getD A 0, l.getD (A + 1) 0, insList l (A + 3) C⟩) := by show _ = _; rw [fnOf, HCC.out]; rfl
        generalize l.getD A 0 = P0 at cA bA HFN
        generalize l.getD (A + 1) 0 = R0 at cA1 bA1 HFN
        have i1 : (A : Int) < (n : Int) := by omega
        have i2 : (A : Int) + 1 < (n : Int) := by omega
        have i3 : (0 : Int) ≤ (A : Int) + 1 := by omega
        have i4 : IntKind.i64.wrap ((A : Int) + 1) = (A : Int) + 1 := by rw [IntKind.wrap_i64]; omega
        have i5 : ((A : Int) + 1).toNat = A + 1 := by omega
        have i6 : IntKind.i64.wrap P0 = P0 := by rw [IntKind.wrap_i64]; omega
        have i7 : IntKind.i64.wrap R0 = R0 := by rw [IntKind.wrap_i64]; omega
        have n1 := World.new_ne wr _ cA
        have n2 := World.new_ne wr _ cA1
        go_region_held3 (fun w' => w'.cell? ⟨b, off + A, none⟩ = some (.int .u8 P0) ∧ w'.cell? ⟨b, off + (A + 1), none⟩ = some (.int .u8 R0)) (go_keep) (fail)
        clear cA cA1 n1 n2 i1 i2 i3 i4 i5 i6 i7
        go_wp2_with fail
        obtain ⟨F, hF⟩ : ∃ F, F = wr.heap.size := ⟨_, rfl⟩
        have HF : Hid (F = wr.heap.size) := hF
        have HF0 : Hid ((wr.alloc (.cells #[.int .i64 P0, .int .i64 R0, .slice none 0 0] 42)).drew.heap[F]? = some (.cells #[.int .i64 P0, .int .i64 R0, .slice none 0 0] 42)) := by show _ = _; rw [hF]; exact heap_alloc_new wr _
        have HW0 : Hid (Below wr.heap.size wr (wr.alloc (.cells #[.int .i64 P0, .int .i64 R0, .slice none 0 0] 42)).drew) := ((Below.refl _ _).alloc (Nat.le_refl _) _).drew
        rw [← hF]
        clear hF
        rename World => wo
        go_loopg [5, 9] C (fun m at_ i wi => ∃ (j : Nat) (vc : Value), j + m = C ∧ i = .int .i64 j ∧ at_ = .int .i64 ((A + 3 + 12 * j : Nat) : Int) ∧ wi.heap[F]? = some (.cells #[.int .i64 P0, .int .i64 R0, vc] 42) ∧ wi.ownsRow (F + 1) 44 5 vc j (codeCells (insList l (A + 3) j)) ∧ Below wo.heap.size wo wi)
        case atStart => exact ⟨0, _, by omega, rfl, by simp, HF0.out, World.ownsRow_nil _ _ _ _, HW0.out⟩
        case round =>
          obtain ⟨j, vc, hjm, rfl, rfl, hf, hown, hbi⟩ := hrel
          clear HF0 HW0
          have HFF : Hid _ := hf
          have HOW : Hid (wr.ownsRow (F + 1) 44 5 vc j (codeCells (insList l (A + 3) j))) := hown
          have HBI : Hid _ := hbi
          have HCW : Hid (∀ i, i < n → wr.cell? ⟨b, off + i, none⟩ = some (.int .u8 (l.getD i 0))) := HC.out wr (HBL.out.trans (hbi.mono HBL.out.size))
          obtain ⟨B, hB⟩ : ∃ B, B = A + 3 + 12 * j := ⟨_, rfl⟩
          have HB : Hid (B = A + 3 + 12 * j) := hB
          rw [← hB]
          by_cases hjC : j < C
          · have hBn : B + 12 ≤ n := by omega
            obtain ⟨aov, capv, rfl⟩ := own_shape hown
            clear hf hown hbi hB
            go_wp2_with fail
            go_loop [10, 11] (fun m i => ∃ q : Nat, q ≤ 8 ∧ i = .int .i64 ((4 + q : Nat) : Int) ∧ m = .int .i64 (wrap64 (beNum l (B + 4) q))) (fun _ i => 12 - (intOf i).toNat)
            case atStart => exact ⟨0, by omega, rfl, by simp [beNum, wrap64]⟩
            case round =>
              obtain ⟨q, hq, rfl, rfl⟩ := hrel
              by_cases hq8 : q < 8
              · have cq := HCW.out (B + (4 + q)) (by omega)
                have bq := HBY.out (B + (4 + q))
                have HS : Hid (wrap64 (beNum l (B + 4) (q + 1)) = wrap64 (wrap64 (beNum l (B + 4) q) * 256 + l.getD (B + (4 + q)) 0)) := by
                  show _ = _
                  rw [beNum, show B + 4 + q = B + (4 + q) by omega]
                  unfold wrap64
                  omega
                generalize l.getD (B + (4 + q)) 0 = x at cq bq HS
                generalize wrap64 (beNum l (B + 4) q) = y at HS
                have j1 : ((B : Int) + ((4 + q : Nat) : Int)) < (n : Int) := by omega
                go_wp2
                go_round
                case rel => exact ⟨q + 1, by omega, by go_num, congrArg (Value.int .i64) (by rw [HS.out]; unfold wrap64; omega)⟩
                case measure => simp [intOf]; omega
              · have hq9 : q = 8 := by omega
                subst hq9
                go_wp2_with fail
                have hBi : (B : Int) < (n : Int) := by omega
                have k1 : (B : Int) + 1 < (n : Int) := by omega
                have k2 : (B : Int) + 2 < (n : Int) := by omega
                have k3 : (B : Int) + 3 < (n : Int) := by omega
                have m1 : (0 : Int) ≤ (B : Int) + 1 := by omega
                have m2 : (0 : Int) ≤ (B : Int) + 2 := by omega
                have m3 : (0 : Int) ≤ (B : Int) + 3 := by omega
                have w1 : IntKind.i64.wrap ((B : Int) + 1) = (B : Int) + 1 := by rw [IntKind.wrap_i64]; omega
                have w2 : IntKind.i64.wrap ((B : Int) + 2) = (B : Int) + 2 := by rw [IntKind.wrap_i64]; omega
                have w3 : IntKind.i64.wrap ((B : Int) + 3) = (B : Int) + 3 := by rw [IntKind.wrap_i64]; omega
                have t1 : ((B : Int) + 1).toNat = B + 1 := by omega
                have t2 : ((B : Int) + 2).toNat = B + 2 := by omega
                have t3 : ((B : Int) + 3).toNat = B + 3 := by omega
                have cF : wr.cell? ⟨F, 2, none⟩ = some (.slice aov j capv) := by simp [World.cell?, HFF.out]
                have c0 := HCW.out B (by omega)
                have c1 := HCW.out (B + 1) (by omega)
                have c2 := HCW.out (B + 2) (by omega)
                have c3 := HCW.out (B + 3) (by omega)
                have b0 := HBY.out B
                have b1 := HBY.out (B + 1)
                have b2 := HBY.out (B + 2)
                have b3 := HBY.out (B + 3)
                have HY : Hid (insOf l B = ⟨l.getD B 0, l.getD (B + 1) 0, l.getD (B + 2) 0, l.getD (B + 3) 0, wrap64 (beNum l (B + 4) 8)⟩) := rfl
                generalize l.getD B 0 = y0 at c0 b0 HY
                generalize l.getD (B + 1) 0 = y1 at c1 b1 HY
                generalize l.getD (B + 2) 0 = y2 at c2 b2 HY
                generalize l.getD (B + 3) 0 = y3 at c3 b3 HY
                generalize wrap64 (beNum l (B + 4) 8) = y4 at HY
                have v0 : IntKind.i64.wrap y0 = y0 := by rw [IntKind.wrap_i64]; omega
                have v1 : IntKind.i64.wrap y1 = y1 := by rw [IntKind.wrap_i64]; omega
                have v2 : IntKind.i64.wrap y2 = y2 := by rw [IntKind.wrap_i64]; omega
                have v3 : IntKind.i64.wrap y3 = y3 := by rw [IntKind.wrap_i64]; omega
                refine wp_region_last (S := fun w' => w'.cell? ⟨F, 2, none⟩ = some (.slice aov j capv) ∧ w'.cell? ⟨b, off + B, none⟩ = some (.int .u8 y0) ∧ w'.cell? ⟨b, off + (B + 1), none⟩ = some (.int .u8 y1) ∧ w'.cell? ⟨b, off + (B + 2), none⟩ = some (.int .u8 y2) ∧ w'.cell? ⟨b, off + (B + 3), none⟩ = some (.int .u8 y3)) _ 30 (by kernel_rfl) (by kernel_rfl) rfl ⟨cF, c0, c1, c2, c3⟩ (fun hHeld => ?_)
                simp only [List.pop_toArray, List.dropLast]
                refine wpAnyH_take (i := 0) (v := ?_) rfl (by kernel_rfl) (by kernel_rfl) (by kernel_rfl) (fun _ _ _ h => h) (Or.inl ⟨by rfl, ?_⟩) (by assumption) ?_
                rotate_left
                · (intro w hSw; (try dsimp only at hSw); go_simp; try (with_reducible rfl))
                (try simp only [Act.put, List.setIfInBounds_toArray])
                refine wpAnyH_take (i := 1) (v := ?_) rfl (by kernel_rfl) (by kernel_rfl) (by kernel_rfl) (fun _ _ _ h => h) (Or.inl ⟨by rfl, ?_⟩) (by assumption) ?_
                rotate_left
                · (intro w hSw; (try dsimp only at hSw); go_simp; try (with_reducible rfl))
                (try simp only [Act.put])
                refine wpAnyH_take (i := 2) (v := ?_) rfl (by kernel_rfl) (by kernel_rfl) (by kernel_rfl) (fun _ _ _ h => h) (Or.inl ⟨by rfl, ?_⟩) (by assumption) ?_
                rotate_left
                · (intro w hSw; (try dsimp only at hSw); go_simp; try (with_reducible rfl))
                (try simp only [Act.put])
                refine wpAnyH_take (i := 3) (v := ?_) rfl (by kernel_rfl) (by kernel_rfl) (by kernel_rfl) (fun _ _ _ h => h) (Or.inl ⟨by rfl, ?_⟩) (by assumption) ?_
                rotate_left
                · (intro w hSw; (try dsimp only at hSw); go_simp; try (with_reducible rfl))
                (try simp only [Act.put])
                refine wpAnyH_take (i := 4) (v := ?_) rfl (by kernel_rfl) (by kernel_rfl) (by kernel_rfl) (fun _ _ _ h => h) (Or.inl ⟨by rfl, ?_⟩) (by assumption) ?_
                rotate_left
                · (intro w hSw; (try dsimp only at hSw); go_simp; try (with_reducible rfl))
                (try simp only [Act.put])
                refine wpAnyH_take (i := 5) (v := ?_) rfl (by kernel_rfl) (by kernel_rfl) (by kernel_rfl) (fun _ _ _ h => h) (Or.inl ⟨by rfl, ?_⟩) (by assumption) ?_
                rotate_left
                · (intro w hSw; (try dsimp only at hSw); go_simp; try (with_reducible rfl))
                (try simp only [Act.put])
                refine wpAnyH_take (i := 6) (v := ?_) rfl (by kernel_rfl) (by kernel_rfl) (by kernel_rfl) (fun _ _ _ h => h) (Or.inl ⟨by rfl, ?_⟩) (by assumption) ?_
                rotate_left
                · (intro w hSw; (try dsimp only at hSw); go_simp; try (with_reducible rfl))
                (try simp only [Act.put])
                refine wpAnyH_take (i := 7) (v := ?_) rfl (by kernel_rfl) (by kernel_rfl) (by kernel_rfl) (fun _ _ _ h => h) (Or.inl ⟨by rfl, ?_⟩) (by assumption) ?_
                rotate_left
                · (intro w hSw; (try dsimp only at hSw); go_simp; try (with_reducible rfl))
                (try simp only [Act.put])
                refine wpAnyH_take (i := 8) (v := ?_) rfl (by kernel_rfl) (by kernel_rfl) (by kernel_rfl) (fun _ _ _ h => h) (Or.inl ⟨by rfl, ?_⟩) (by assumption) ?_
                rotate_left
                · (intro w hSw; (try dsimp only at hSw); go_simp; try (with_reducible rfl))
                (try simp only [Act.put])
                refine wpAnyH_take (i := 9) (v := ?_) rfl (by kernel_rfl) (by kernel_rfl) (by kernel_rfl) (fun _ _ _ h => h) (Or.inl ⟨by rfl, ?_⟩) (by assumption) ?_
                rotate_left
                · (intro w hSw; (try dsimp only at hSw); go_simp; try (with_reducible rfl))
                (try simp only [Act.put])
                refine wpAnyH_take (i := 10) (v := ?_) rfl (by kernel_rfl) (by kernel_rfl) (by kernel_rfl) (fun _ _ _ h => h) (Or.inl ⟨by rfl, ?_⟩) (by assumption) ?_
                rotate_left
                · (intro w hSw; (try dsimp only at hSw); go_simp; try (with_reducible rfl))
                (try simp only [Act.put])
                refine wpAnyH_take (i := 11) (v := ?_) rfl (by kernel_rfl) (by kernel_rfl) (by kernel_rfl) (fun _ _ _ h => h) (Or.inl ⟨by rfl, ?_⟩) (by assumption) ?_
                rotate_left
                · (intro w hSw; (try dsimp only at hSw); go_simp; try (with_reducible rfl))
                (try simp only [Act.put])
                refine wpAnyH_take (i := 12) (v := ?_) rfl (by kernel_rfl) (by kernel_rfl) (by kernel_rfl) (fun _ _ _ h => h) (Or.inl ⟨by rfl, ?_⟩) (by assumption) ?_
                rotate_left
                · (intro w hSw; (try dsimp only at hSw); go_simp; try (with_reducible rfl))
                (try simp only [Act.put])
                refine wpAnyH_take (i := 13) (v := ?_) rfl (by kernel_rfl) (by kernel_rfl) (by kernel_rfl) (fun _ _ _ h => h) (Or.inl ⟨by rfl, ?_⟩) (by assumption) ?_
                rotate_left
                · (intro w hSw; (try dsimp only at hSw); go_simp; try (with_reducible rfl))
                (try simp only [Act.put])
                refine wpAnyH_take (i := 14) (v := ?_) rfl (by kernel_rfl) (by kernel_rfl) (by kernel_rfl) (fun _ _ _ h => h) (Or.inl ⟨by rfl, ?_⟩) (by assumption) ?_
                rotate_left
                · (intro w hSw; (try dsimp only at hSw); go_simp; try (with_reducible rfl))
                (try simp only [Act.put])
                refine wpAnyH_take (i := 15) (v := ?_) rfl (by kernel_rfl) (by kernel_rfl) (by kernel_rfl) (fun _ _ _ h => h) (Or.inl ⟨by rfl, ?_⟩) (by assumption) ?_
                rotate_left
                · (intro w hSw; (try dsimp only at hSw); go_simp; try (with_reducible rfl))
                (try simp only [Act.put])
                refine wpAnyH_take (i := 16) (v := ?_) rfl (by kernel_rfl) (by kernel_rfl) (by kernel_rfl) (fun _ _ _ h => h) (Or.inl ⟨by rfl, ?_⟩) (by assumption) ?_
                rotate_left
                · (intro w hSw; (try dsimp only at hSw); go_simp; try (with_reducible rfl))
                (try simp only [Act.put])
                refine wpAnyH_take (i := 17) (v := ?_) rfl (by kernel_rfl) (by kernel_rfl) (by kernel_rfl) (fun _ _ _ h => h) (Or.inl ⟨by rfl, ?_⟩) (by assumption) ?_
                rotate_left
                · (intro w hSw; (try dsimp only at hSw); go_simp; try (with_reducible rfl))
                (try simp only [Act.put])
                refine wpAnyH_take (i := 18) (v := ?_) rfl (by kernel_rfl) (by kernel_rfl) (by kernel_rfl) (fun _ _ _ h => h) (Or.inl ⟨by rfl, ?_⟩) (by assumption) ?_
                rotate_left
                · (intro w hSw; (try dsimp only at hSw); go_simp; try (with_reducible rfl))
                (try simp only [Act.put])
                refine wpAnyH_take (i := 19) (v := ?_) rfl (by kernel_rfl) (by kernel_rfl) (by kernel_rfl) (fun _ _ _ h => h) (Or.inl ⟨by rfl, ?_⟩) (by assumption) ?_
                rotate_left
                · (intro w hSw; (try dsimp only at hSw); go_simp; try (with_reducible rfl))
                (try simp only [Act.put])
                refine wpAnyH_take (i := 20) (v := ?_) rfl (by kernel_rfl) (by kernel_rfl) (by kernel_rfl) (fun _ _ _ h => h) (Or.inl ⟨by rfl, ?_⟩) (by assumption) ?_
                rotate_left
                · (intro w hSw; (try dsimp only at hSw); go_simp; try (with_reducible rfl))
                (try simp only [Act.put])
                refine wpAnyH_take (i := 21) (v := ?_) rfl (by kernel_rfl) (by kernel_rfl) (by kernel_rfl) (fun _ _ _ h => h) (Or.inl ⟨by rfl, ?_⟩) (by assumption) ?_
                rotate_left
                · (intro w hSw; (try dsimp only at hSw); go_simp; try (with_reducible rfl))
                (try simp only [Act.put])
                refine wpAnyH_take (i := 22) (v := ?_) rfl (by kernel_rfl) (by kernel_rfl) (by kernel_rfl) (fun _ _ _ h => h) (Or.inl ⟨by rfl, ?_⟩) (by assumption) ?_
                rotate_left
                · (intro w hSw; (try dsimp only at hSw); go_simp; try (with_reducible rfl))
                (try simp only [Act.put])
                refine wpAnyH_take (i := 23) (v := ?_) rfl (by kernel_rfl) (by kernel_rfl) (by kernel_rfl) (fun _ _ _ h => h) (Or.inl ⟨by rfl, ?_⟩) (by assumption) ?_
                rotate_left
                · (intro w hSw; (try dsimp only at hSw); go_simp; try (with_reducible rfl))
                (try simp only [Act.put])
                refine wpAnyH_take (i := 24) (v := ?_) rfl (by kernel_rfl) (by kernel_rfl) (by kernel_rfl) (fun _ _ _ h => h) (Or.inl ⟨by rfl, ?_⟩) (by assumption) ?_
                rotate_left
                · (intro w hSw; (try dsimp only at hSw); go_simp; try (with_reducible rfl))
                (try simp only [Act.put])
                refine wpAnyH_take (i := 25) (v := ?_) rfl (by kernel_rfl) (by kernel_rfl) (by kernel_rfl) (fun _ _ _ h => h) (Or.inl ⟨by rfl, ?_⟩) (by assumption) ?_
                rotate_left
                · (intro w hSw; (try dsimp only at hSw); go_simp; try (with_reducible rfl))
                (try simp only [Act.put])
                refine wpAnyH_take (i := 26) (v := ?_) rfl (by kernel_rfl) (by kernel_rfl) (by kernel_rfl) (fun _ _ _ h => h) (Or.inl ⟨by rfl, ?_⟩) (by assumption) ?_
                rotate_left
                · (intro w hSw; (try dsimp only at hSw); go_simp; try (with_reducible rfl))
                (try simp only [Act.put])
                have ad := cell_alloc (show wr.drew.cell? ⟨F, 2, none⟩ = some (.slice aov j capv) from cF)
                have a0 := cell_alloc (show wr.drew.cell? _ = _ from c0)
                have a1 := cell_alloc (show wr.drew.cell? _ = _ from c1)
                have a2 := cell_alloc (show wr.drew.cell? _ = _ from c2)
                have a3 := cell_alloc (show wr.drew.cell? _ = _ from c3)
                refine wpAnyH_ready (rs := [27]) (by kernel_rfl) (by simp) ?_
                refine AllReadyH.cons rfl (fun K hK => ?_) AllReadyH.nil
                go_simp
                refine hK.out _ _ ⟨ad _, a0 _, a1 _, a2 _, a3 _⟩ (fun hHeld => ?_)
                clear hK K
                (try simp only [Act.put, List.setIfInBounds_toArray, List.set_cons_zero, List.set_cons_succ])
                refine wpAnyH_ready (rs := [28]) (by kernel_rfl) (by simp) ?_
                refine AllReadyH.cons rfl (fun K hK => ?_) AllReadyH.nil
                have zF := lt_of_block HFF.out
                have own' : (wr.alloc (.cells #[.int .i64 y0, .int .i64 y1, .int .i64 y2, .int .i64 y3, .int .i64 y4] 44)).drew.ownsRow (F + 1) 44 5 (.slice aov j capv) j (codeCells (insList l (A + 3) j)) := HOW.out.alloc _
                have news' : ∀ (i : Nat) (u : Value), (insCells ⟨y0, y1, y2, y3, y4⟩)[i]? = some u → (wr.alloc (.cells #[.int .i64 y0, .int .i64 y1, .int .i64 y2, .int .i64 y3, .int .i64 y4] 44)).drew.cell? ((⟨wr.heap.size, 0, none⟩ : Addr).add i) = some u := news_list wr (insCells ⟨y0, y1, y2, y3, y4⟩) _ _ rfl
                refine step_append_lies _ (by rfl) (.tmp 74) (.tmp 100) 40 (by rfl) (F + 1) 44 iI _ 5 40 Tryd.underlying40 hiI hzI0 hzI1 hzI2 rfl (by decide) (.slice aov j capv) j (codeCells (insList l (A + 3) j)) (by rfl) own' ⟨wr.heap.size, 0, none⟩ 1 1 (insCells ⟨y0, y1, y2, y3, y4⟩) (by rfl) rfl news' (fun u hu => codeCells_one [⟨y0, y1, y2, y3, y4⟩] u (by simpa [codeCells] using hu)) (by omega) (by unfold maxLen; omega) (by omega) (by simp; omega) (wr.heap.size + 1) (by simp) ?_
                intro g4 cap4 w4 hown4 hg4 hat4 hlt4
                have Q4 := pf_step HF.out HFF.out HOW.out HBI.out hg4 hown4
                have qc : w4.cell? ⟨F, 2, none⟩ = some (.slice aov j capv) := by simp [World.cell?, Q4.1]
                have qf : w4.frozen? ⟨F, 2, none⟩ = false := by simp [World.frozen?, Q4.1]
                have hne : some b ≠ (Value.slice aov j capv).ownBlock := fun e => by have h1 := (HOW.out.lt b e.symm).1; have h2 := HBL.out.size; have h3 := HF.out; omega
                have d0 := hg4.cell (a0 _) hne
                have d1 := hg4.cell (a1 _) hne
                have d2 := hg4.cell (a2 _) hne
                have d3 := hg4.cell (a3 _) hne
                refine hK.out _ _ ⟨qc, d0, d1, d2, d3⟩ (fun hHeld => ?_)
                clear hK K
                (try simp only [List.getElem_toArray, List.getElem_cons_succ, List.getElem_cons_zero])
                (try simp only [Act.put, List.setIfInBounds_toArray, List.set_cons_zero, List.set_cons_succ])
                refine wpAnyH_take (i := 29) (v := ?_) rfl (by kernel_rfl) (by kernel_rfl) (by kernel_rfl) (fun _ _ _ h => h) (Or.inl ⟨by rfl, ?_⟩) (by assumption) ?_
                rotate_left
                · (intro w hSw; (try dsimp only at hSw); go_simp; try (with_reducible rfl))
                (try simp only [Act.put, List.setIfInBounds_toArray])
                refine wpAnyH_done (by kernel_rfl) ?_ _
                refine Or.inl ?_
                (try simp only [List.getElem_toArray, List.getElem_cons_succ, List.getElem_cons_zero])
                go_simp
                clear hHeld d0 d1 d2 d3 a0 a1 a2 a3 ad qc qf c0 c1 c2 c3 cF own' news'
                go_wp2_with fail
                go_roundg (gk - 1)
                case measure => omega
                case rel => exact ⟨j + 1, _, by omega, by go_num, congrArg (Value.int .i64) (by have := HB.out; omega), Q4.2.1, by rw [insList_succ, ← HB.out, HY.out, codeCells_append]; simpa [codeCells] using Q4.2.2.1, Q4.2.2.2⟩
          · have hjC' : j = C := by omega
            subst hjC'
            obtain ⟨aov, capv, rfl⟩ := own_shape hown
            obtain ⟨aop, capp, rfl⟩ := own_shape HBT.out.row
            have hfl := fnsPart_length l k
            have HBT2 : Hid (Built wr (w.heap.size + 2) 42 44 (.slice aop (fnsPart l k).length capp) (fnsPart l k) us) := HBT.out.below hbi
            have hP2 := (hbi.block _ (lt_of_block HPP.out)).trans HPP.out
            have HP2 : Hid _ := hP2
            rw [hfl] at HBT2 hP2 HP2
            have cp := cell_of_one hP2
            have g0 : wr.cell? ⟨F, 0, none⟩ = some (.int .i64 P0) := by simp [World.cell?, hf]
            have g1 : wr.cell? ⟨F, 1, none⟩ = some (.int .i64 R0) := by simp [World.cell?, hf]
            have g2 : wr.cell? ⟨F, 2, none⟩ = some (.slice aov j capv) := by simp [World.cell?, hf]
            have zF := lt_of_block hf
            have zo := HBL.out.size
            have HPL : Hid ((fnsPart l k).length = k) := hfl
            have HFN2 : Hid (fnsPart l (k + 1) = fnsPart l k ++ [⟨P0, R0, insList l (A + 3) j⟩]) := by show _ = _; rw [fnsPart_succ, ← HA.out, HFN.out]
            have HU : Hid (wr.ownsRow (w.heap.size + 2) 44 5 (.slice aov j capv) (insList l (A + 3) j).length (codeCells (insList l (A + 3) j))) := by
              have e : (insList l (A + 3) j).length = j := by simp [insList]
              show World.ownsRow _ _ _ _ _ _ _
              rw [e]
              have h3 := HF.out
              have h4 := lt_of_block HPP.out
              exact own_base hown (by omega)
            have hzP := lt_of_block HPP.out
            have hFo : wo.heap.size ≤ F := Nat.le_of_eq HF.out.symm
            clear hf hown hbi hB hfl hP2 HPP HBT
            go_wp2_with (at_builtin; (refine wpList_append_own _ rfl (.tmp 106) (.tmp 108) 24 rfl (w.heap.size + 2) 42 iF _ 3 40 Tryd.underlying24 hiF hzF0 hzF1 hzF2 rfl (by decide) (.slice aop k capp) k (fnsCells (fnsPart l k) us) rfl (by have h := (HBT2.out.alloc (.cells #[.int .i64 P0, .int .i64 R0, .slice aov j capv] 42)).row; rw [HPL.out] at h; exact h) ⟨wr.heap.size, 0, none⟩ 1 1 (fnCells ⟨P0, R0, insList l (A + 3) j⟩ (.slice aov j capv)) rfl rfl (news_list _ _ _ _ rfl) (fnCells_one _ _ _ _) (by unfold maxLen; omega) (by omega) (by simp; omega) ?_; intro v3 w3 hown3 hg3 _; obtain ⟨ao3, cap3, rfl⟩ := own_shape hown3; have RR := pof_more (f := ⟨P0, R0, insList l (A + 3) j⟩) (O := w.heap.size + 1) (by decide) (by omega) (HBT2.out.alloc _) ((heap_alloc_old _ _ (by omega)).trans HP2.out) (HU.out.alloc _) (by simp; omega) hg3 (by rw [HPL.out]; exact hown3); have co3 := cell_of_one RR.1; have cf3 := free_of_one RR.1))
            have RR2 := RR.2
            have HBX : Hid (Below w.heap.size w (w3.setCell ⟨w.heap.size + 1, 0, none⟩ (.slice ao3 (k + 1) cap3))) := RR2.2.2.2 w.heap.size w (by omega) ((HBL.out.trans (HBI.out.mono HBL.out.size)).alloc (by omega) _)
            have HZX : Hid ((w3.setCell ⟨w.heap.size + 1, 0, none⟩ (.slice ao3 (k + 1) cap3)).heap[w.heap.size]? = some (.cells #[.slice none 0 0] 26 (0, 0))) := RR2.2.2.1 w.heap.size _ (by omega) ((heap_alloc_old _ _ (by omega)).trans ((HBI.out.block _ (lt_of_block HZ.out)).trans HZ.out))
            clear RR co3 cf3 cp g0 g1 g2
            go_roundg (gko - 1)
            case measure => omega
            case rel => exact ⟨k + 1, _, _, by omega, by go_num, congrArg (Value.int .i64) (by rw [HAT.out, ← HB.out]), by rw [HAT.out]; exact hfit, HZX.out, RR2.2.1, by rw [HFN2.out]; exact RR2.1, HBX.out⟩
      · have HER : Hid (decErr l = 4) := by
          show _ = _
          have h2 := atK_mono l (show k + 1 ≤ N from hlt)
          have h3 : endOf l = atK l N := by rw [endOf, HNN.out]; rfl
          rw [HAT.out] at h2
          unfold decErr
          rw [if_neg (by rw [HL.out]; omega), if_pos (by rw [HL.out, h3]; omega)]
        have HDP : Hid (decProg l = []) := by show _ = _; simp [decProg, HER.out]
        have e0 := cell_of_one HZ.out
        have f0 := free_of_one HZ.out
        by_cases hx : A + 2 < n
        · have HBA : Hid (byteAtZ l ((A : Int) + 2) = (C : Int)) := by show _ = _; unfold byteAtZ byteAtI; rw [show ((A : Int) + 2).toNat = A + 2 by omega, if_pos (by rw [HL.out]; omega)]; exact HCC.out
          go_wp2_with (go_at_call 20; refine (byteAt_z l _ n cap _ _ hv0.out HBY.out (by omega) (by omega) (by omega)).mono ?_; rintro e w' ⟨rfl, hw'⟩; rw [hw']; clear hw' w'; first | rw [HB0.out] | rw [HBA.out])
          exact bodyPost_ret (v := .tuple #[.agg #[.slice none 0 0], .int .i64 4]) (by simp [results, Tryd.results10, go_sem, e0]) rfl ⟨.slice none 0 0, [], by rw [HER.out], by rw [HDP.out]; exact built_nil _ _ _ _, HBL.out.setCell (Nat.le_refl _) _⟩
        · have HBA : Hid (byteAtZ l ((A : Int) + 2) = -1) := by show _ = _; unfold byteAtZ byteAtI; rw [show ((A : Int) + 2).toNat = A + 2 by omega, if_neg (by rw [HL.out]; omega)]
          go_wp2_with (go_at_call 20; refine (byteAt_z l _ n cap _ _ hv0.out HBY.out (by omega) (by omega) (by omega)).mono ?_; rintro e w' ⟨rfl, hw'⟩; rw [hw']; clear hw' w'; first | rw [HB0.out] | rw [HBA.out])
          exact bodyPost_ret (v := .tuple #[.agg #[.slice none 0 0], .int .i64 4]) (by simp [results, Tryd.results10, go_sem, e0]) rfl ⟨.slice none 0 0, [], by rw [HER.out], by rw [HDP.out]; exact built_nil _ _ _ _, HBL.out.setCell (Nat.le_refl _) _⟩
    · have hkN : k = N := by omega
      subst hkN
      have HEE : Hid (endOf l = atK l k) := by show _ = _; rw [endOf, HNN.out]; rfl
      have HPO : Hid (progOf l = fnsPart l k) := by show _ = _; rw [progOf, HNN.out]; rfl
      obtain ⟨aov, capv, rfl⟩ := own_shape HBT.out.row
      have e0 := cell_of_one HZ.out
      have f0 := free_of_one HZ.out
      have e1 := cell_of_one HPP.out
      have HPV : Hid (ProgVal wr (.slice aov (fnsPart l k).length capv) (fnsPart l k)) := HBT.out.prog
      generalize hE : atK l k = E at HEE hkn
      clear hE
      by_cases hen : E < n
      · have HER : Hid (decErr l = 5) := by show _ = _; unfold decErr; rw [HL.out, HEE.out, if_neg (by omega), if_neg (by omega), if_pos hen]
        have HDP : Hid (decProg l = []) := by show _ = _; simp [decProg, HER.out]
        go_wp2_with (go_at_call 20; refine (byteAt_z l _ n cap _ _ hv0.out HBY.out (by omega) (by omega) (by omega)).mono ?_; rintro e w' ⟨rfl, hw'⟩; rw [hw']; clear hw' w'; rw [HB0.out])
        exact bodyPost_ret (v := .tuple #[.agg #[.slice none 0 0], .int .i64 5]) (by simp [results, Tryd.results10, go_sem, e0]) rfl ⟨.slice none 0 0, [], by rw [HER.out], by rw [HDP.out]; exact built_nil _ _ _ _, HBL.out.setCell (Nat.le_refl _) _⟩
      · have HER : Hid (decErr l = refProg (fnsPart l k)) := by show _ = _; unfold decErr; rw [HL.out, HEE.out, if_neg (by omega), if_neg (by omega), if_neg hen, HPO.out, prog_same]
        have HDP : Hid (decProg l = if refProg (fnsPart l k) = 0 then fnsPart l k else []) := by show _ = _; rw [decProg, HER.out, HPO.out]
        have HBT3 : Hid (∀ W, Below wr.heap.size wr W → ∀ (a : Addr) (u : Value), a.block < w.heap.size + 2 → Built (W.setCell a u) (w.heap.size + 2) 42 44 (.slice aov (fnsPart l k).length capv) (fnsPart l k) us) := fun W hW a u ha => (HBT.out.below hW).setCell ha u
        have HPF : Hid (Calls Tryd.prog 21 #[.agg #[.slice aov (fnsPart l k).length capv]] wr fun e w' => e = .returned (.int .i64 (refProg (fnsPart l k))) ∧ Below wr.heap.size wr w') := programFault_any _ _ _ HPV.out
        generalize fnsPart l k = PP at HBT3 HPF HER HDP HPV e1
        have hzz := lt_of_block HPP.out
        by_cases hr : refProg PP = 0
        · rw [hr] at HER HDP HPF
          rw [if_pos rfl] at HDP
          clear hr
          go_wp2_with (first
            | (go_at_call 20; refine (byteAt_z l _ n cap _ _ hv0.out HBY.out (by omega) (by omega) (by omega)).mono ?_; rintro e w' ⟨rfl, hw'⟩; rw [hw']; clear hw' w'; rw [HB0.out])
            | (go_at_call 21; refine HPF.out.mono ?_; rintro e w2 ⟨rfl, hb2⟩; have HB2 : Hid _ := hb2; have k1 := keeps_below hb2 _ _ e1; have G0 := (hb2.block _ (lt_of_block HZ.out)).trans HZ.out; have k0 := cell_of_one G0; have l0 := free_of_one G0; have J0 : Hid _ := G0; clear G0 hb2))
          exact bodyPost_ret (v := .tuple #[.agg #[.slice aov PP.length capv], .int .i64 0]) (by simp [results, Tryd.results10, go_sem, k0]) rfl ⟨_, us, by rw [HER.out], by rw [HDP.out]; exact built_base' (HBT3.out w2 HB2.out ⟨w.heap.size, 0, none⟩ _ (by simp)) (by omega), (HBL.out.trans (HB2.out.mono HBL.out.size)).setCell (Nat.le_refl _) _⟩
        · rw [if_neg hr] at HDP
          generalize refProg PP = c at hr HER HPF
          go_wp2_with (first
            | (go_at_call 20; refine (byteAt_z l _ n cap _ _ hv0.out HBY.out (by omega) (by omega) (by omega)).mono ?_; rintro e w' ⟨rfl, hw'⟩; rw [hw']; clear hw' w'; rw [HB0.out])
            | (go_at_call 21; refine HPF.out.mono ?_; rintro e w2 ⟨rfl, hb2⟩; have HB2 : Hid _ := hb2; have G0 := (hb2.block _ (lt_of_block HZ.out)).trans HZ.out; have k0 := cell_of_one G0; have l0 := free_of_one G0; have J0 : Hid _ := G0; clear G0 hb2))
          exact bodyPost_ret (v := .tuple #[.agg #[.slice none 0 0], .int .i64 c]) (by simp [results, Tryd.results10, go_sem, k0]) rfl ⟨.slice none 0 0, [], by rw [HER.out], by rw [HDP.out]; exact built_nil _ _ _ _, (HBL.out.trans (HB2.out.mono HBL.out.size)).setCell (Nat.le_refl _) _⟩

end Go.Proofs.YtjckpdeogbamjaaDoor
