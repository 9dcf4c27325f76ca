import Derived.Deep.AppendLies
import Derived.Test.YtldbmdgpdolaaaaGreatDoorPXFoldFacts
import Derived.Test.YtldbmdgpdolaaaaGreatDoorPXLoopMath
import Derived.Test.YtldbmdgpdolaaaaGreatDoorPGroupC
import Derived.Test.YtldbmdgpdolaaaaGreatDoorPGroupB
namespace Go.Proofs.YtldbmdgpdolaaaaGreatDoor
open Go Go.RowKit

theorem loop_built (n m : Int) (w : World) :
    ProgVal (((w.alloc (.cells #[.int .i64 1, .int .i64 1, .int .i64 0, .int .i64 0, .int .i64 n, .int .i64 1, .int .i64 2, .int .i64 0, .int .i64 0, .int .i64 m, .int .i64 1, .int .i64 3, .int .i64 0, .int .i64 0, .int .i64 (-1), .int .i64 16, .int .i64 0, .int .i64 0, .int .i64 0, .int .i64 5, .int .i64 19, .int .i64 0, .int .i64 1, .int .i64 0, .int .i64 0, .int .i64 2, .int .i64 2, .int .i64 2, .int .i64 3, .int .i64 0, .int .i64 7, .int .i64 1, .int .i64 1, .int .i64 1, .int .i64 0, .int .i64 2, .int .i64 0, .int .i64 0, .int .i64 2, .int .i64 0, .int .i64 15, .int .i64 0, .int .i64 0, .int .i64 0, .int .i64 3] 49)).alloc (.cells #[.int .i64 1, .int .i64 4, .slice (some ⟨w.heap.size, 0, none⟩) 9 9] 47)).alloc (.cells #[.slice (some ⟨w.heap.size + 1, 0, none⟩) 1 1] 29))
      (.slice (some ⟨w.heap.size + 1, 0, none⟩) 1 1) [loopF n m] := by
  have r1 := heap_alloc_last w (.cells #[.int .i64 1, .int .i64 1, .int .i64 0, .int .i64 0, .int .i64 n, .int .i64 1, .int .i64 2, .int .i64 0, .int .i64 0, .int .i64 m, .int .i64 1, .int .i64 3, .int .i64 0, .int .i64 0, .int .i64 (-1), .int .i64 16, .int .i64 0, .int .i64 0, .int .i64 0, .int .i64 5, .int .i64 19, .int .i64 0, .int .i64 1, .int .i64 0, .int .i64 0, .int .i64 2, .int .i64 2, .int .i64 2, .int .i64 3, .int .i64 0, .int .i64 7, .int .i64 1, .int .i64 1, .int .i64 1, .int .i64 0, .int .i64 2, .int .i64 0, .int .i64 0, .int .i64 2, .int .i64 0, .int .i64 15, .int .i64 0, .int .i64 0, .int .i64 0, .int .i64 3] 49)
  have z1 : (w.alloc (.cells #[.int .i64 1, .int .i64 1, .int .i64 0, .int .i64 0, .int .i64 n, .int .i64 1, .int .i64 2, .int .i64 0, .int .i64 0, .int .i64 m, .int .i64 1, .int .i64 3, .int .i64 0, .int .i64 0, .int .i64 (-1), .int .i64 16, .int .i64 0, .int .i64 0, .int .i64 0, .int .i64 5, .int .i64 19, .int .i64 0, .int .i64 1, .int .i64 0, .int .i64 0, .int .i64 2, .int .i64 2, .int .i64 2, .int .i64 3, .int .i64 0, .int .i64 7, .int .i64 1, .int .i64 1, .int .i64 1, .int .i64 0, .int .i64 2, .int .i64 0, .int .i64 0, .int .i64 2, .int .i64 0, .int .i64 15, .int .i64 0, .int .i64 0, .int .i64 0, .int .i64 3] 49)).heap.size = w.heap.size + 1 := by simp
  generalize w.alloc (.cells #[.int .i64 1, .int .i64 1, .int .i64 0, .int .i64 0, .int .i64 n, .int .i64 1, .int .i64 2, .int .i64 0, .int .i64 0, .int .i64 m, .int .i64 1, .int .i64 3, .int .i64 0, .int .i64 0, .int .i64 (-1), .int .i64 16, .int .i64 0, .int .i64 0, .int .i64 0, .int .i64 5, .int .i64 19, .int .i64 0, .int .i64 1, .int .i64 0, .int .i64 0, .int .i64 2, .int .i64 2, .int .i64 2, .int .i64 3, .int .i64 0, .int .i64 7, .int .i64 1, .int .i64 1, .int .i64 1, .int .i64 0, .int .i64 2, .int .i64 0, .int .i64 0, .int .i64 2, .int .i64 0, .int .i64 15, .int .i64 0, .int .i64 0, .int .i64 0, .int .i64 3] 49) = W1 at *
  have r2 := heap_alloc_last W1 (.cells #[.int .i64 1, .int .i64 4, .slice (some ⟨w.heap.size, 0, none⟩) 9 9] 47)
  rw [z1] at r2
  have c1 := fun (j : Nat) => cell_of_row W1 w.heap.size j _ _ _ r1
  have c2 := fun (j : Nat) => cell_of_row _ _ j _ _ _ r2
  have hk1 : Keeps W1 (W1.alloc (.cells #[.int .i64 1, .int .i64 4, .slice (some ⟨w.heap.size, 0, none⟩) 9 9] 47)) := keeps_below ((Below.refl _ _).alloc (Nat.le_refl _) _)
  have hk2 := keeps_below ((Below.refl _ _).alloc (Nat.le_refl (W1.alloc (.cells #[.int .i64 1, .int .i64 4, .slice (some ⟨w.heap.size, 0, none⟩) 9 9] 47)).heap.size) (.cells #[.slice (some ⟨w.heap.size + 1, 0, none⟩) 1 1] 29))
  have hcode : CodeVal W1 (.slice (some ⟨w.heap.size, 0, none⟩) 9 9) (loopF n m).code := by
    refine ⟨some ⟨w.heap.size, 0, none⟩, w.heap.size, 0, 9, 9, rfl, ⟨rfl, fun _ => rfl, fun k hk => ?_⟩, ⟨by decide, by simp⟩, by decide⟩
    have hk9 : k < 9 := hk
    rcases nine hk9 with rfl | rfl | rfl | rfl | rfl | rfl | rfl | rfl | rfl <;> exact ⟨(c1 _).trans rfl, (c1 _).trans rfl, (c1 _).trans rfl, (c1 _).trans rfl, (c1 _).trans rfl⟩
  refine ProgVal.keeps ?_ hk2
  refine ⟨some ⟨w.heap.size + 1, 0, none⟩, w.heap.size + 1, 0, 1, 1, rfl, ⟨rfl, fun _ => rfl, fun k hk => ?_⟩, ⟨by decide, by simp⟩, by decide⟩
  obtain rfl : k = 0 := by have : k < 1 := hk; omega
  exact ⟨_, (c2 _).trans rfl, (c2 _).trans rfl, (c2 _).trans rfl, hcode.keeps hk1⟩
set_option maxHeartbeats 8000000 in
set_option maxRecDepth 100000 in
theorem factsLoop_walk (n m : Int) (hn : I64 n) (_ : I64 m) (w : World) (ht : TabOk w) (hc : CallOk w) (hg : KnowG w) :
    Calls Tryz.prog 8 #[.int .i64 n, .int .i64 m] w fun e w' => e = .returned (.bool true) ∧ Below w.heap.size w w' := by
  have HT : Hid (TabOk w) := ht
  have HCO : Hid (CallOk w) := hc
  have HGK : Hid (KnowG w) := hg
  clear hg ht hc
  go_enter Tryz.func8, Tryz.ntmps8
  go_upto_region 1 with fail
  go_upto_region 2 with fail
  have HPV := loop_built n m w
  have HB1 : Below w.heap.size w (((w.alloc (.cells #[.int .i64 1, .int .i64 1, .int .i64 0, .int .i64 0, .int .i64 n, .int .i64 1, .int .i64 2, .int .i64 0, .int .i64 0, .int .i64 m, .int .i64 1, .int .i64 3, .int .i64 0, .int .i64 0, .int .i64 (-1), .int .i64 16, .int .i64 0, .int .i64 0, .int .i64 0, .int .i64 5, .int .i64 19, .int .i64 0, .int .i64 1, .int .i64 0, .int .i64 0, .int .i64 2, .int .i64 2, .int .i64 2, .int .i64 3, .int .i64 0, .int .i64 7, .int .i64 1, .int .i64 1, .int .i64 1, .int .i64 0, .int .i64 2, .int .i64 0, .int .i64 0, .int .i64 2, .int .i64 0, .int .i64 15, .int .i64 0, .int .i64 0, .int .i64 0, .int .i64 3] 49)).alloc (.cells #[.int .i64 1, .int .i64 4, .slice (some ⟨w.heap.size, 0, none⟩) 9 9] 47)).alloc (.cells #[.slice (some ⟨w.heap.size + 1, 0, none⟩) 1 1] 29)) := (((Below.refl _ _).alloc (Nat.le_refl _) _).alloc (by simp) _).alloc (by simp; omega) _
  have q0 : (((w.alloc (.cells #[.int .i64 1, .int .i64 1, .int .i64 0, .int .i64 0, .int .i64 n, .int .i64 1, .int .i64 2, .int .i64 0, .int .i64 0, .int .i64 m, .int .i64 1, .int .i64 3, .int .i64 0, .int .i64 0, .int .i64 (-1), .int .i64 16, .int .i64 0, .int .i64 0, .int .i64 0, .int .i64 5, .int .i64 19, .int .i64 0, .int .i64 1, .int .i64 0, .int .i64 0, .int .i64 2, .int .i64 2, .int .i64 2, .int .i64 3, .int .i64 0, .int .i64 7, .int .i64 1, .int .i64 1, .int .i64 1, .int .i64 0, .int .i64 2, .int .i64 0, .int .i64 0, .int .i64 2, .int .i64 0, .int .i64 15, .int .i64 0, .int .i64 0, .int .i64 0, .int .i64 3] 49)).alloc (.cells #[.int .i64 1, .int .i64 4, .slice (some ⟨w.heap.size, 0, none⟩) 9 9] 47)).alloc (.cells #[.slice (some ⟨w.heap.size + 1, 0, none⟩) 1 1] 29)).cell? ⟨w.heap.size + 1 + 1, 0, none⟩ = some (.slice (some ⟨w.heap.size + 1, 0, none⟩) 1 1) := by
    have h := heap_alloc_last ((w.alloc (.cells #[.int .i64 1, .int .i64 1, .int .i64 0, .int .i64 0, .int .i64 n, .int .i64 1, .int .i64 2, .int .i64 0, .int .i64 0, .int .i64 m, .int .i64 1, .int .i64 3, .int .i64 0, .int .i64 0, .int .i64 (-1), .int .i64 16, .int .i64 0, .int .i64 0, .int .i64 0, .int .i64 5, .int .i64 19, .int .i64 0, .int .i64 1, .int .i64 0, .int .i64 0, .int .i64 2, .int .i64 2, .int .i64 2, .int .i64 3, .int .i64 0, .int .i64 7, .int .i64 1, .int .i64 1, .int .i64 1, .int .i64 0, .int .i64 2, .int .i64 0, .int .i64 0, .int .i64 2, .int .i64 0, .int .i64 15, .int .i64 0, .int .i64 0, .int .i64 0, .int .i64 3] 49)).alloc (.cells #[.int .i64 1, .int .i64 4, .slice (some ⟨w.heap.size, 0, none⟩) 9 9] 47)) (.cells #[.slice (some ⟨w.heap.size + 1, 0, none⟩) 1 1] 29)
    rw [show ((w.alloc (.cells #[.int .i64 1, .int .i64 1, .int .i64 0, .int .i64 0, .int .i64 n, .int .i64 1, .int .i64 2, .int .i64 0, .int .i64 0, .int .i64 m, .int .i64 1, .int .i64 3, .int .i64 0, .int .i64 0, .int .i64 (-1), .int .i64 16, .int .i64 0, .int .i64 0, .int .i64 0, .int .i64 5, .int .i64 19, .int .i64 0, .int .i64 1, .int .i64 0, .int .i64 0, .int .i64 2, .int .i64 2, .int .i64 2, .int .i64 3, .int .i64 0, .int .i64 7, .int .i64 1, .int .i64 1, .int .i64 1, .int .i64 0, .int .i64 2, .int .i64 0, .int .i64 0, .int .i64 2, .int .i64 0, .int .i64 15, .int .i64 0, .int .i64 0, .int .i64 0, .int .i64 3] 49)).alloc (.cells #[.int .i64 1, .int .i64 4, .slice (some ⟨w.heap.size, 0, none⟩) 9 9] 47)).heap.size = w.heap.size + 1 + 1 by simp] at h
    rw [cell_of_row _ _ _ _ _ _ h]; rfl
  have hz1 := HB1.size
  generalize (((w.alloc (.cells #[.int .i64 1, .int .i64 1, .int .i64 0, .int .i64 0, .int .i64 n, .int .i64 1, .int .i64 2, .int .i64 0, .int .i64 0, .int .i64 m, .int .i64 1, .int .i64 3, .int .i64 0, .int .i64 0, .int .i64 (-1), .int .i64 16, .int .i64 0, .int .i64 0, .int .i64 0, .int .i64 5, .int .i64 19, .int .i64 0, .int .i64 1, .int .i64 0, .int .i64 0, .int .i64 2, .int .i64 2, .int .i64 2, .int .i64 3, .int .i64 0, .int .i64 7, .int .i64 1, .int .i64 1, .int .i64 1, .int .i64 0, .int .i64 2, .int .i64 0, .int .i64 0, .int .i64 2, .int .i64 0, .int .i64 15, .int .i64 0, .int .i64 0, .int .i64 0, .int .i64 3] 49)).alloc (.cells #[.int .i64 1, .int .i64 4, .slice (some ⟨w.heap.size, 0, none⟩) 9 9] 47)).alloc (.cells #[.slice (some ⟨w.heap.size + 1, 0, none⟩) 1 1] 29)) = V1 at *
  have hR := loop_right n m
  have HUR : Hid (∀ q, q < (loopF n m).code.length → Way (loopF n m) 63 q → ∀ r, r < 12 → (rdMask [loopF n m] (insD (loopF n m) q)).testBit r = true → ¬ Way (loopF n m) r q) := right_reads hR (by simp)
  have HFA : Hid (Calls Tryz.prog 14 #[.agg #[.slice (some ⟨w.heap.size + 1, 0, none⟩) 1 1], .int .i64 0] V1 (FactsPost V1 [loopF n m] (loopF n m))) := Facts_right [loopF n m] hR 0 (by simp) _ V1 (HT.out.below HB1) (HCO.out.below HB1) (HGK.out.below HB1) HPV
  have HBD : Hid (∀ W, Below V1.heap.size V1 W → Calls Tryz.prog 15 #[.agg #[.slice (some ⟨w.heap.size + 1, 0, none⟩) 1 1], .int .i64 0] W (BuildPost W [loopF n m] (loopF n m))) := fun W hb => Build_right [loopF n m] hR 0 (by simp) _ W ((HT.out.below HB1).below hb) ((HCO.out.below HB1).below hb) (HPV.keeps (keeps_below hb))
  have OK : Hid (FlowOk [loopF n m] (loopF n m)) := loop_ok n m
  have HB1' : Hid (Below w.heap.size w V1) := HB1
  clear HB1 HPV hR
  go_upto_region 4 with (first
    | (go_at_call 14; refine HFA.out.mono ?_; rintro e w2 hp; obtain ⟨S, T, L, pn, g0, D, ar, FB, MR, F, G, rfl, hIS, hinv, hclo, hF, hM, hfb, hmr, hne, hb2⟩ := hp; have q2 := keeps_below hb2 _ _ q0; have HB2 : Hid (Below V1.heap.size V1 w2) := hb2; obtain ⟨hS4, hM4, hPH⟩ := loop_all n m hn hIS HUR.out hinv hclo; have HIS : Hid (SsaIs [loopF n m] (loopF n m) S T L pn g0 D) := hIS; have HPH : Hid (∃ v0 v1 v2 v3 : Nat, newI g0 (idsD pn S.length D) (phiI 1 0) = (v0 : Int) ∧ newI g0 (idsD pn S.length D) (phiI 1 1) = (v1 : Int) ∧ newI g0 (idsD pn S.length D) (phiI 1 2) = (v2 : Int) ∧ newI g0 (idsD pn S.length D) (phiI 1 3) = (v3 : Int) ∧ v0 < (idsD pn S.length D).length ∧ v1 < (idsD pn S.length D).length ∧ v2 < (idsD pn S.length D).length ∧ v3 < (idsD pn S.length D).length ∧ F v0 = .many ∧ F v1 = .known n ∧ F v2 = .many ∧ F v3 = .known (-1)) := hPH; have HM4 : Hid (∀ b, b < 4 → metB G (prevs (loopF n m) S T b) (b : Int) = true) := hM4; have HFM : Hid (w2.heap[FB]? = some (.cells (gC (fun v => factC (F v)) (idsD pn S.length D).length).toArray 65 (0, 0)) ∧ w2.heap[MR]? = some (.cells (metL G (prevs (loopF n m) S T) S.length S.length).toArray 4 (0, 0))) := ⟨hF, hM⟩; clear hIS hPH hM4 hinv hclo hF hM hfb hmr hne hb2 HFA)
    | (go_at_call 15; refine (HBD.out _ HB2.out).mono ?_; rintro e w3 hp; obtain ⟨S2, T2, L2, pn2, g2, D2, ar2, gp, Ly, rfl, hIS2, hPA, hb3⟩ := hp; obtain ⟨rfl, hTT, rfl, rfl, rfl, hph, hin, hid⟩ := HIS.out.same OK.out hIS2; have HIS2 : Hid (SsaIs [loopF n m] (loopF n m) S T2 L pn g0 D2) := hIS2; have HPA : Hid (PartsAt w3 _ gp S.length (finD pn S.length g0 D2 ar2) Ly) := hPA; have HSM : Hid (∀ b, b < S.length → D.ph b = D2.ph b) := hph; have HB3 : Hid (Below w2.heap.size w2 w3) := hb3; rw [← hid]; have HID : Hid (idsD pn S.length D = idsD pn S.length D2) := hid; clear hIS2 hPA hph hin hTT hb3 hid))
  have HZ4 : Hid (S.length = 4) := hS4
  obtain ⟨v0, v1, v2, v3, N0, N1, N2, N3, b0, b1, b2, b3, F0, F1, F2, F3⟩ := HPH.out
  have r10 : (w3.alloc (.cells #[.int .i64 (pn : Int), .int .i64 ((idsD pn 4 D).length : Int), .slice (some ⟨gp, 0, none⟩) 4 4] 55)).heap[w3.heap.size]? = some (.cells #[.int .i64 (pn : Int), .int .i64 ((idsD pn 4 D).length : Int), .slice (some ⟨gp, 0, none⟩) 4 4] 55 (0, 0)) := heap_alloc_last _ _
  have hbb : Below w3.heap.size w3 (w3.alloc (.cells #[.int .i64 (pn : Int), .int .i64 ((idsD pn 4 D).length : Int), .slice (some ⟨gp, 0, none⟩) 4 4] 55)) := (Below.refl _ _).alloc (Nat.le_refl _) _
  have hb23 := HB3.out.trans (hbb.mono HB3.out.size)
  have HBV : Hid (Below w.heap.size w (w3.alloc (.cells #[.int .i64 (pn : Int), .int .i64 ((idsD pn 4 D).length : Int), .slice (some ⟨gp, 0, none⟩) 4 4] 55))) := HB1'.out.trans ((HB2.out.trans (hb23.mono HB2.out.size)).mono hz1)
  have HPV := HPA.out.below hbb
  have hFB := (hb23.block _ (lt_of_block HFM.out.1)).trans HFM.out.1
  have hMR := (hb23.block _ (lt_of_block HFM.out.2)).trans HFM.out.2
  have hrg := loop_rg n m HIS2.out ar2
  rw [← HID.out, N0, N1, N2, N3] at hrg
  have hcr := fun (r : Nat) (hr : r < 12) => HPV.cellR (b := 1) (by omega) hr
  rw [hrg] at hcr
  have s2 : (w3.alloc (.cells #[.int .i64 (pn : Int), .int .i64 ((idsD pn 4 D).length : Int), .slice (some ⟨gp, 0, none⟩) 4 4] 55)).cell? ⟨w3.heap.size, 2, none⟩ = some (.slice (some ⟨gp, 0, none⟩) 4 4) := by rw [cell_of_row _ _ _ _ _ _ r10]; rfl
  have HMT : Hid (∀ i, i < 4 → (w3.alloc (.cells #[.int .i64 (pn : Int), .int .i64 ((idsD pn 4 D).length : Int), .slice (some ⟨gp, 0, none⟩) 4 4] 55)).cell? ⟨MR, i, none⟩ = some (.bool true)) := fun i hi => by
    rw [cell_of_row _ _ _ _ _ _ hMR, List.getElem?_toArray, metL_get _ _ _ _ _ (by omega), if_pos (by omega), HM4.out i hi]
  have hfc : ∀ v j, v < (idsD pn S.length D).length → j < 2 → (w3.alloc (.cells #[.int .i64 (pn : Int), .int .i64 ((idsD pn 4 D).length : Int), .slice (some ⟨gp, 0, none⟩) 4 4] 55)).cell? ⟨FB, v * 2 + j, none⟩ = (factC (F v))[j]? := fun v j hv hj => by
    rw [cell_of_row _ _ _ _ _ _ hFB, List.getElem?_toArray, gC_get (s := 2) (C := fun v => factC (F v)) (fun i _ => factC_len _) v j hv hj]
  have f0 := hfc v0 0 b0 (by omega)
  have f1 := hfc v1 0 b1 (by omega)
  have f1' := hfc v1 1 b1 (by omega)
  have f2 := hfc v2 0 b2 (by omega)
  have f3 := hfc v3 0 b3 (by omega)
  have f3' := hfc v3 1 b3 (by omega)
  rw [F0] at f0
  rw [F1] at f1 f1'
  rw [F2] at f2
  rw [F3] at f3 f3'
  have HFC : Hid ((w3.alloc (.cells #[.int .i64 (pn : Int), .int .i64 ((idsD pn 4 D).length : Int), .slice (some ⟨gp, 0, none⟩) 4 4] 55)).cell? ⟨FB, v0 * 2, none⟩ = some (.int .i64 2) ∧ (w3.alloc (.cells #[.int .i64 (pn : Int), .int .i64 ((idsD pn 4 D).length : Int), .slice (some ⟨gp, 0, none⟩) 4 4] 55)).cell? ⟨FB, v1 * 2, none⟩ = some (.int .i64 1) ∧ (w3.alloc (.cells #[.int .i64 (pn : Int), .int .i64 ((idsD pn 4 D).length : Int), .slice (some ⟨gp, 0, none⟩) 4 4] 55)).cell? ⟨FB, v1 * 2 + 1, none⟩ = some (.int .i64 n) ∧ (w3.alloc (.cells #[.int .i64 (pn : Int), .int .i64 ((idsD pn 4 D).length : Int), .slice (some ⟨gp, 0, none⟩) 4 4] 55)).cell? ⟨FB, v2 * 2, none⟩ = some (.int .i64 2) ∧ (w3.alloc (.cells #[.int .i64 (pn : Int), .int .i64 ((idsD pn 4 D).length : Int), .slice (some ⟨gp, 0, none⟩) 4 4] 55)).cell? ⟨FB, v3 * 2, none⟩ = some (.int .i64 1) ∧ (w3.alloc (.cells #[.int .i64 (pn : Int), .int .i64 ((idsD pn 4 D).length : Int), .slice (some ⟨gp, 0, none⟩) 4 4] 55)).cell? ⟨FB, v3 * 2 + 1, none⟩ = some (.int .i64 (-1))) := ⟨f0, f1, f1', f2, f3, f3'⟩
  have HRG : Hid ((w3.alloc (.cells #[.int .i64 (pn : Int), .int .i64 ((idsD pn 4 D).length : Int), .slice (some ⟨gp, 0, none⟩) 4 4] 55)).rangeAt gp 18 [.int .i64 (v0 : Int), .int .i64 (v1 : Int), .int .i64 (v2 : Int), .int .i64 (v3 : Int), .int .i64 (-1), .int .i64 (-1), .int .i64 (-1), .int .i64 (-1), .int .i64 (-1), .int .i64 (-1), .int .i64 (-1), .int .i64 (-1)]) := fun j u hu => by
    have hj : j < 12 := by
      rcases Nat.lt_or_ge j 12 with h | h
      · exact h
      · rw [List.getElem?_eq_none (by simpa using h)] at hu; cases hu
    refine (hcr j hj).trans ?_
    rcases (show j = 0 ∨ j = 1 ∨ j = 2 ∨ j = 3 ∨ j = 4 ∨ j = 5 ∨ j = 6 ∨ j = 7 ∨ j = 8 ∨ j = 9 ∨ j = 10 ∨ j = 11 by omega) with rfl | rfl | rfl | rfl | rfl | rfl | rfl | rfl | rfl | rfl | rfl | rfl <;> exact hu
  rw [hS4] at b0 b1 b2 b3
  clear hfc f0 f1 f1' f2 f3 f3' F0 F1 F2 F3 N0 N1 N2 N3 hcr hrg hFB hMR HPV hb23 hbb r10 hS4 q0 q2
  generalize (w3.alloc (.cells #[.int .i64 (pn : Int), .int .i64 ((idsD pn 4 D).length : Int), .slice (some ⟨gp, 0, none⟩) 4 4] 55)) = V at *
  generalize w3.heap.size = P10 at *
  generalize (idsD pn 4 D).length = vn at *
  have i0 : (v0 : Int) < vn := by omega
  have i1 : (v1 : Int) < vn := by omega
  have i2 : (v2 : Int) < vn := by omega
  have i3 : (v3 : Int) < vn := by omega
  go_upto_region 6 with fail
  go_upto_region 7 with fail
  go_loopw [11] (fun i wr => ∃ q : Nat, q ≤ 4 ∧ i = .int .i64 q ∧ Below V.heap.size V wr) (fun i _ => 4 - (intOf i).toNat)
  case atStart => exact ⟨0, Nat.zero_le _, rfl, Below.refl _ _⟩
  case round =>
    obtain ⟨q, hq, rfl, hbo⟩ := hrel
    rename World => wo
    have HBO : Hid (Below V.heap.size V wo) := hbo
    clear hbo
    by_cases hlq : q < 4
    · have hqI : (q : Int) < 4 := by omega
      have mq := keeps_below HBO.out _ _ (HMT.out q hlq)
      go_wp2
      go_roundw
      case rel => exact ⟨q + 1, by omega, by go_num, HBO.out⟩
      case measure => simp [intOf]; omega
    · obtain rfl : q = 4 := by omega
      clear hlq hq
      have s2o := keeps_below HBO.out _ _ s2
      have HW : Hid (Below w.heap.size w wo) := HBV.out.trans (HBO.out.mono HBV.out.size)
      have rg := fun j u hu => keeps_below HBO.out _ _ (HRG.out j u hu)
      have c0 := rg 0 _ rfl
      have c1 := rg 1 _ rfl
      have c2 := rg 2 _ rfl
      have c3 := rg 3 _ rfl
      have c4 := rg 4 _ rfl
      have c5 := rg 5 _ rfl
      have c6 := rg 6 _ rfl
      have c7 := rg 7 _ rfl
      have c8 := rg 8 _ rfl
      have c9 := rg 9 _ rfl
      have c10 := rg 10 _ rfl
      have c11 := rg 11 _ rfl
      clear rg
      go_upto_region 12 with fail
      have hl := heap_alloc_last wo (.cells #[.int .i64 (v0 : Int), .int .i64 (v1 : Int), .int .i64 (v2 : Int), .int .i64 (v3 : Int), .int .i64 (-1), .int .i64 (-1), .int .i64 (-1), .int .i64 (-1), .int .i64 (-1), .int .i64 (-1), .int .i64 (-1), .int .i64 (-1)] 40)
      have k0 : (wo.alloc (.cells #[.int .i64 (v0 : Int), .int .i64 (v1 : Int), .int .i64 (v2 : Int), .int .i64 (v3 : Int), .int .i64 (-1), .int .i64 (-1), .int .i64 (-1), .int .i64 (-1), .int .i64 (-1), .int .i64 (-1), .int .i64 (-1), .int .i64 (-1)] 40)).cell? ⟨wo.heap.size, 0, none⟩ = some (.int .i64 (v0 : Int)) := by rw [cell_of_row _ _ _ _ _ _ hl]; rfl
      have k1 : (wo.alloc (.cells #[.int .i64 (v0 : Int), .int .i64 (v1 : Int), .int .i64 (v2 : Int), .int .i64 (v3 : Int), .int .i64 (-1), .int .i64 (-1), .int .i64 (-1), .int .i64 (-1), .int .i64 (-1), .int .i64 (-1), .int .i64 (-1), .int .i64 (-1)] 40)).cell? ⟨wo.heap.size, 1, none⟩ = some (.int .i64 (v1 : Int)) := by rw [cell_of_row _ _ _ _ _ _ hl]; rfl
      have k2 : (wo.alloc (.cells #[.int .i64 (v0 : Int), .int .i64 (v1 : Int), .int .i64 (v2 : Int), .int .i64 (v3 : Int), .int .i64 (-1), .int .i64 (-1), .int .i64 (-1), .int .i64 (-1), .int .i64 (-1), .int .i64 (-1), .int .i64 (-1), .int .i64 (-1)] 40)).cell? ⟨wo.heap.size, 2, none⟩ = some (.int .i64 (v2 : Int)) := by rw [cell_of_row _ _ _ _ _ _ hl]; rfl
      have k3 : (wo.alloc (.cells #[.int .i64 (v0 : Int), .int .i64 (v1 : Int), .int .i64 (v2 : Int), .int .i64 (v3 : Int), .int .i64 (-1), .int .i64 (-1), .int .i64 (-1), .int .i64 (-1), .int .i64 (-1), .int .i64 (-1), .int .i64 (-1), .int .i64 (-1)] 40)).cell? ⟨wo.heap.size, 3, none⟩ = some (.int .i64 (v3 : Int)) := by rw [cell_of_row _ _ _ _ _ _ hl]; rfl
      have HW2 : Hid (Below w.heap.size w (wo.alloc (.cells #[.int .i64 (v0 : Int), .int .i64 (v1 : Int), .int .i64 (v2 : Int), .int .i64 (v3 : Int), .int .i64 (-1), .int .i64 (-1), .int .i64 (-1), .int .i64 (-1), .int .i64 (-1), .int .i64 (-1), .int .i64 (-1), .int .i64 (-1)] 40))) := HW.out.alloc HW.out.size _
      have hkp : Keeps V (wo.alloc (.cells #[.int .i64 (v0 : Int), .int .i64 (v1 : Int), .int .i64 (v2 : Int), .int .i64 (v3 : Int), .int .i64 (-1), .int .i64 (-1), .int .i64 (-1), .int .i64 (-1), .int .i64 (-1), .int .i64 (-1), .int .i64 (-1), .int .i64 (-1)] 40)) := (keeps_below HBO.out).trans (keeps_below ((Below.refl _ _).alloc (Nat.le_refl _) _))
      obtain ⟨f0, f1, f1', f2, f3, f3'⟩ := HFC.out
      replace f0 := hkp _ _ f0
      replace f1 := hkp _ _ f1
      replace f1' := hkp _ _ f1'
      replace f2 := hkp _ _ f2
      replace f3 := hkp _ _ f3
      replace f3' := hkp _ _ f3'
      clear hl hkp HW c0 c1 c2 c3 c4 c5 c6 c7 c8 c9 c10 c11 s2o s2
      generalize (wo.alloc (.cells #[.int .i64 (v0 : Int), .int .i64 (v1 : Int), .int .i64 (v2 : Int), .int .i64 (v3 : Int), .int .i64 (-1), .int .i64 (-1), .int .i64 (-1), .int .i64 (-1), .int .i64 (-1), .int .i64 (-1), .int .i64 (-1), .int .i64 (-1)] 40)) = V2 at *
      generalize wo.heap.size = VH at *
      have z0 : ¬ (v0 : Int) < 0 := by omega
      have z1 : ¬ (v1 : Int) < 0 := by omega
      have z2 : ¬ (v2 : Int) < 0 := by omega
      have z3 : ¬ (v3 : Int) < 0 := by omega
      go_upto_region 14 with fail
      go_wp2
      go_ret
      exact ⟨rfl, HW2.out⟩
end Go.Proofs.YtldbmdgpdolaaaaGreatDoor
