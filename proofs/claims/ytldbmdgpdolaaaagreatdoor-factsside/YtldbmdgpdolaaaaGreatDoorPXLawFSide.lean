import Derived.Deep.AppendLies
import Derived.Test.YtldbmdgpdolaaaaGreatDoorPXFoldFacts
import Derived.Test.YtldbmdgpdolaaaaGreatDoorPGroupC
import Derived.Test.YtldbmdgpdolaaaaGreatDoorPGroupB
import Derived.Test.YtldbmdgpdolaaaaGreatDoorPXSideMath
namespace Go.Proofs.YtldbmdgpdolaaaaGreatDoor
open Go Go.RowKit

theorem side_built (n m : Int) (w : World) :
    ProgVal (((w.alloc (.cells #[.int .i64 1, .int .i64 0, .int .i64 0, .int .i64 0, .int .i64 n, .int .i64 16, .int .i64 0, .int .i64 0, .int .i64 0, .int .i64 4, .int .i64 1, .int .i64 1, .int .i64 0, .int .i64 0, .int .i64 m, .int .i64 15, .int .i64 0, .int .i64 0, .int .i64 0, .int .i64 5, .int .i64 1, .int .i64 1, .int .i64 0, .int .i64 0, .int .i64 8, .int .i64 19, .int .i64 0, .int .i64 1, .int .i64 0, .int .i64 0] 49)).alloc (.cells #[.int .i64 0, .int .i64 2, .slice (some ⟨w.heap.size, 0, none⟩) 6 6] 47)).alloc (.cells #[.slice (some ⟨w.heap.size + 1, 0, none⟩) 1 1] 29))
      (.slice (some ⟨w.heap.size + 1, 0, none⟩) 1 1) [sideF n m] := by
  have r1 := heap_alloc_last w (.cells #[.int .i64 1, .int .i64 0, .int .i64 0, .int .i64 0, .int .i64 n, .int .i64 16, .int .i64 0, .int .i64 0, .int .i64 0, .int .i64 4, .int .i64 1, .int .i64 1, .int .i64 0, .int .i64 0, .int .i64 m, .int .i64 15, .int .i64 0, .int .i64 0, .int .i64 0, .int .i64 5, .int .i64 1, .int .i64 1, .int .i64 0, .int .i64 0, .int .i64 8, .int .i64 19, .int .i64 0, .int .i64 1, .int .i64 0, .int .i64 0] 49)
  have z1 : (w.alloc (.cells #[.int .i64 1, .int .i64 0, .int .i64 0, .int .i64 0, .int .i64 n, .int .i64 16, .int .i64 0, .int .i64 0, .int .i64 0, .int .i64 4, .int .i64 1, .int .i64 1, .int .i64 0, .int .i64 0, .int .i64 m, .int .i64 15, .int .i64 0, .int .i64 0, .int .i64 0, .int .i64 5, .int .i64 1, .int .i64 1, .int .i64 0, .int .i64 0, .int .i64 8, .int .i64 19, .int .i64 0, .int .i64 1, .int .i64 0, .int .i64 0] 49)).heap.size = w.heap.size + 1 := by simp
  generalize w.alloc (.cells #[.int .i64 1, .int .i64 0, .int .i64 0, .int .i64 0, .int .i64 n, .int .i64 16, .int .i64 0, .int .i64 0, .int .i64 0, .int .i64 4, .int .i64 1, .int .i64 1, .int .i64 0, .int .i64 0, .int .i64 m, .int .i64 15, .int .i64 0, .int .i64 0, .int .i64 0, .int .i64 5, .int .i64 1, .int .i64 1, .int .i64 0, .int .i64 0, .int .i64 8, .int .i64 19, .int .i64 0, .int .i64 1, .int .i64 0, .int .i64 0] 49) = W1 at *
  have r2 := heap_alloc_last W1 (.cells #[.int .i64 0, .int .i64 2, .slice (some ⟨w.heap.size, 0, none⟩) 6 6] 47)
  rw [z1] at r2
  have c1 := fun (j : Nat) => cell_of_row W1 w.heap.size j _ _ _ r1
  have c2 := fun (j : Nat) => cell_of_row _ _ j _ _ _ r2
  have hk1 : Keeps W1 (W1.alloc (.cells #[.int .i64 0, .int .i64 2, .slice (some ⟨w.heap.size, 0, none⟩) 6 6] 47)) := keeps_below ((Below.refl _ _).alloc (Nat.le_refl _) _)
  have hk2 := keeps_below ((Below.refl _ _).alloc (Nat.le_refl (W1.alloc (.cells #[.int .i64 0, .int .i64 2, .slice (some ⟨w.heap.size, 0, none⟩) 6 6] 47)).heap.size) (.cells #[.slice (some ⟨w.heap.size + 1, 0, none⟩) 1 1] 29))
  have hcode : CodeVal W1 (.slice (some ⟨w.heap.size, 0, none⟩) 6 6) (sideF n m).code := by
    refine ⟨some ⟨w.heap.size, 0, none⟩, w.heap.size, 0, 6, 6, rfl, ⟨rfl, fun _ => rfl, fun k hk => ?_⟩, ⟨by decide, by simp⟩, by decide⟩
    have hk6 : k < 6 := hk
    rcases (show k = 0 ∨ k = 1 ∨ k = 2 ∨ k = 3 ∨ k = 4 ∨ k = 5 by omega) with rfl | rfl | rfl | rfl | rfl | rfl <;> exact ⟨(c1 _).trans rfl, (c1 _).trans rfl, (c1 _).trans rfl, (c1 _).trans rfl, (c1 _).trans rfl⟩
  refine ProgVal.keeps ?_ hk2
  refine ⟨some ⟨w.heap.size + 1, 0, none⟩, w.heap.size + 1, 0, 1, 1, rfl, ⟨rfl, fun _ => rfl, fun k hk => ?_⟩, ⟨by decide, by simp⟩, by decide⟩
  obtain rfl : k = 0 := by have : k < 1 := hk; omega
  exact ⟨_, (c2 _).trans rfl, (c2 _).trans rfl, (c2 _).trans rfl, hcode.keeps hk1⟩
set_option maxHeartbeats 8000000 in
set_option maxRecDepth 100000 in
theorem factsSide_walk (n m : Int) (hn : I64 n) (_ : I64 m) (w : World) (ht : TabOk w) (hc : CallOk w) (hg : KnowG w) :
    Calls Tryz.prog 7 #[.int .i64 n, .int .i64 m] w fun e w' => e = .returned (.bool true) ∧ Below w.heap.size w w' := by
  have HT : Hid (TabOk w) := ht
  have HCO : Hid (CallOk w) := hc
  have HGK : Hid (KnowG w) := hg
  clear hg ht hc
  go_enter Tryz.func7, Tryz.ntmps7
  go_upto_region 1 with fail
  go_upto_region 2 with fail
  have HPV := side_built n m w
  have HB1 : Below w.heap.size w (((w.alloc (.cells #[.int .i64 1, .int .i64 0, .int .i64 0, .int .i64 0, .int .i64 n, .int .i64 16, .int .i64 0, .int .i64 0, .int .i64 0, .int .i64 4, .int .i64 1, .int .i64 1, .int .i64 0, .int .i64 0, .int .i64 m, .int .i64 15, .int .i64 0, .int .i64 0, .int .i64 0, .int .i64 5, .int .i64 1, .int .i64 1, .int .i64 0, .int .i64 0, .int .i64 8, .int .i64 19, .int .i64 0, .int .i64 1, .int .i64 0, .int .i64 0] 49)).alloc (.cells #[.int .i64 0, .int .i64 2, .slice (some ⟨w.heap.size, 0, none⟩) 6 6] 47)).alloc (.cells #[.slice (some ⟨w.heap.size + 1, 0, none⟩) 1 1] 29)) := (((Below.refl _ _).alloc (Nat.le_refl _) _).alloc (by simp) _).alloc (by simp; omega) _
  have q0 : (((w.alloc (.cells #[.int .i64 1, .int .i64 0, .int .i64 0, .int .i64 0, .int .i64 n, .int .i64 16, .int .i64 0, .int .i64 0, .int .i64 0, .int .i64 4, .int .i64 1, .int .i64 1, .int .i64 0, .int .i64 0, .int .i64 m, .int .i64 15, .int .i64 0, .int .i64 0, .int .i64 0, .int .i64 5, .int .i64 1, .int .i64 1, .int .i64 0, .int .i64 0, .int .i64 8, .int .i64 19, .int .i64 0, .int .i64 1, .int .i64 0, .int .i64 0] 49)).alloc (.cells #[.int .i64 0, .int .i64 2, .slice (some ⟨w.heap.size, 0, none⟩) 6 6] 47)).alloc (.cells #[.slice (some ⟨w.heap.size + 1, 0, none⟩) 1 1] 29)).cell? ⟨w.heap.size + 1 + 1, 0, none⟩ = some (.slice (some ⟨w.heap.size + 1, 0, none⟩) 1 1) := by
    have h := heap_alloc_last ((w.alloc (.cells #[.int .i64 1, .int .i64 0, .int .i64 0, .int .i64 0, .int .i64 n, .int .i64 16, .int .i64 0, .int .i64 0, .int .i64 0, .int .i64 4, .int .i64 1, .int .i64 1, .int .i64 0, .int .i64 0, .int .i64 m, .int .i64 15, .int .i64 0, .int .i64 0, .int .i64 0, .int .i64 5, .int .i64 1, .int .i64 1, .int .i64 0, .int .i64 0, .int .i64 8, .int .i64 19, .int .i64 0, .int .i64 1, .int .i64 0, .int .i64 0] 49)).alloc (.cells #[.int .i64 0, .int .i64 2, .slice (some ⟨w.heap.size, 0, none⟩) 6 6] 47)) (.cells #[.slice (some ⟨w.heap.size + 1, 0, none⟩) 1 1] 29)
    rw [show ((w.alloc (.cells #[.int .i64 1, .int .i64 0, .int .i64 0, .int .i64 0, .int .i64 n, .int .i64 16, .int .i64 0, .int .i64 0, .int .i64 0, .int .i64 4, .int .i64 1, .int .i64 1, .int .i64 0, .int .i64 0, .int .i64 m, .int .i64 15, .int .i64 0, .int .i64 0, .int .i64 0, .int .i64 5, .int .i64 1, .int .i64 1, .int .i64 0, .int .i64 0, .int .i64 8, .int .i64 19, .int .i64 0, .int .i64 1, .int .i64 0, .int .i64 0] 49)).alloc (.cells #[.int .i64 0, .int .i64 2, .slice (some ⟨w.heap.size, 0, none⟩) 6 6] 47)).heap.size = w.heap.size + 1 + 1 by simp] at h
    rw [cell_of_row _ _ _ _ _ _ h]; rfl
  have hz1 := HB1.size
  generalize (((w.alloc (.cells #[.int .i64 1, .int .i64 0, .int .i64 0, .int .i64 0, .int .i64 n, .int .i64 16, .int .i64 0, .int .i64 0, .int .i64 0, .int .i64 4, .int .i64 1, .int .i64 1, .int .i64 0, .int .i64 0, .int .i64 m, .int .i64 15, .int .i64 0, .int .i64 0, .int .i64 0, .int .i64 5, .int .i64 1, .int .i64 1, .int .i64 0, .int .i64 0, .int .i64 8, .int .i64 19, .int .i64 0, .int .i64 1, .int .i64 0, .int .i64 0] 49)).alloc (.cells #[.int .i64 0, .int .i64 2, .slice (some ⟨w.heap.size, 0, none⟩) 6 6] 47)).alloc (.cells #[.slice (some ⟨w.heap.size + 1, 0, none⟩) 1 1] 29)) = V1 at *
  have hR := side_right n m
  have HUR : Hid (∀ q, q < (sideF n m).code.length → Way (sideF n m) 63 q → ∀ r, r < 12 → (rdMask [sideF n m] (insD (sideF n m) q)).testBit r = true → ¬ Way (sideF n m) r q) := right_reads hR (by simp)
  have HFA : Hid (Calls Tryz.prog 14 #[.agg #[.slice (some ⟨w.heap.size + 1, 0, none⟩) 1 1], .int .i64 0] V1 (FactsPost V1 [sideF n m] (sideF n m))) := Facts_right [sideF n m] hR 0 (by simp) _ V1 (HT.out.below HB1) (HCO.out.below HB1) (HGK.out.below HB1) HPV
  have HBD : Hid (∀ W, Below V1.heap.size V1 W → Calls Tryz.prog 15 #[.agg #[.slice (some ⟨w.heap.size + 1, 0, none⟩) 1 1], .int .i64 0] W (BuildPost W [sideF n m] (sideF n m))) := fun W hb => Build_right [sideF n m] hR 0 (by simp) _ W ((HT.out.below HB1).below hb) ((HCO.out.below HB1).below hb) (HPV.keeps (keeps_below hb))
  have OK : Hid (FlowOk [sideF n m] (sideF n m)) := side_ok n m
  have HB1' : Hid (Below w.heap.size w V1) := HB1
  clear HB1 HPV hR
  go_upto_region 4 with (first
    | (go_at_call 14; refine HFA.out.mono ?_; rintro e w2 hp; obtain ⟨S, T, L, pn, g0, D, ar, FB, MR, F, G, rfl, hIS, hinv, hclo, hF, hM, hfb, hmr, hne, hb2⟩ := hp; have q2 := keeps_below hb2 _ _ q0; have HB2 : Hid (Below V1.heap.size V1 w2) := hb2; obtain ⟨hS4, hPH, hM4⟩ := side_all n m hIS HUR.out hinv hclo; have HIS : Hid (SsaIs [sideF n m] (sideF n m) S T L pn g0 D) := hIS; have HPH : Hid (∃ v : Nat, ∃ args, (finD pn S.length g0 D ar).ph 3 = [⟨1, (v : Int), args⟩] ∧ v < (idsD pn S.length D).length ∧ F v = .known (if n = 0 then m else 8)) := hPH; have HM4 : Hid (metB G (prevs (sideF n m) S T 0) 0 = true ∧ metB G (prevs (sideF n m) S T 1) 1 = decide (n = 0) ∧ metB G (prevs (sideF n m) S T 2) 2 = decide (n ≠ 0) ∧ metB G (prevs (sideF n m) S T 3) 3 = true) := hM4; have HFM : Hid (w2.heap[FB]? = some (.cells (gC (fun v => factC (F v)) (idsD pn S.length D).length).toArray 65 (0, 0)) ∧ w2.heap[MR]? = some (.cells (metL G (prevs (sideF n m) S T) S.length S.length).toArray 4 (0, 0))) := ⟨hF, hM⟩; clear hIS hPH hM4 hinv hclo hF hM hfb hmr hne hb2 HFA)
    | (go_at_call 15; refine (HBD.out _ HB2.out).mono ?_; rintro e w3 hp; obtain ⟨S2, T2, L2, pn2, g2, D2, ar2, gp, Ly, rfl, hIS2, hPA, hb3⟩ := hp; obtain ⟨rfl, hTT, rfl, rfl, rfl, hph, hin, hid⟩ := HIS.out.same OK.out hIS2; have HPA : Hid (PartsAt w3 _ gp S.length (finD pn S.length g0 D2 ar2) Ly) := hPA; have HSM : Hid (∀ b, b < S.length → D.ph b = D2.ph b) := hph; have HB3 : Hid (Below w2.heap.size w2 w3) := hb3; rw [← hid]; have HID : Hid (idsD pn S.length D = idsD pn S.length D2) := hid; clear hIS2 hPA hph hin hTT hb3 hid))
  have HZ4 : Hid (S.length = 4) := hS4
  obtain ⟨v, args, hPH, hv, hFv⟩ := HPH.out
  have r10 : (w3.alloc (.cells #[.int .i64 (pn : Int), .int .i64 ((idsD pn 4 D).length : Int), .slice (some ⟨gp, 0, none⟩) 4 4] 55)).heap[w3.heap.size]? = some (.cells #[.int .i64 (pn : Int), .int .i64 ((idsD pn 4 D).length : Int), .slice (some ⟨gp, 0, none⟩) 4 4] 55 (0, 0)) := heap_alloc_last _ _
  have hbb : Below w3.heap.size w3 (w3.alloc (.cells #[.int .i64 (pn : Int), .int .i64 ((idsD pn 4 D).length : Int), .slice (some ⟨gp, 0, none⟩) 4 4] 55)) := (Below.refl _ _).alloc (Nat.le_refl _) _
  have hb23 := HB3.out.trans (hbb.mono HB3.out.size)
  have HBV : Hid (Below w.heap.size w (w3.alloc (.cells #[.int .i64 (pn : Int), .int .i64 ((idsD pn 4 D).length : Int), .slice (some ⟨gp, 0, none⟩) 4 4] 55))) := HB1'.out.trans ((HB2.out.trans (hb23.mono HB2.out.size)).mono hz1)
  have HPV := HPA.out.below hbb
  have hFB := (hb23.block _ (lt_of_block HFM.out.1)).trans HFM.out.1
  have hMR := (hb23.block _ (lt_of_block HFM.out.2)).trans HFM.out.2
  have e3 : (finD pn S.length g0 D2 ar2).ph 3 = [⟨1, (v : Int), args⟩] := by
    rw [← hPH, finD_ph _ _ _ _ _ (by omega), finD_ph _ _ _ _ _ (by omega), HSM.out 3 (by omega), HID.out]
  obtain ⟨ao, q, c, hvp, -, hao, hcl⟩ := HPV.phs (b := 3) (by omega)
  have hcl := hcl _ (Below.refl _ _)
  have hcp := HPV.cellP (b := 3) (by omega)
  rw [hvp, e3] at hcp
  rw [e3] at hao hcl
  obtain rfl := hao (by simp)
  have pid := (hcl 0 (by simp)).2.1
  have pid : (w3.alloc (.cells #[.int .i64 (pn : Int), .int .i64 ((idsD pn 4 D).length : Int), .slice (some ⟨gp, 0, none⟩) 4 4] 55)).cell? ⟨q, 1, none⟩ = some (.int .i64 (v : Int)) := pid
  have p46 : (w3.alloc (.cells #[.int .i64 (pn : Int), .int .i64 ((idsD pn 4 D).length : Int), .slice (some ⟨gp, 0, none⟩) 4 4] 55)).cell? ⟨gp, 46, none⟩ = some (.slice (some ⟨q, 0, none⟩) 1 c) := hcp
  have s2 : (w3.alloc (.cells #[.int .i64 (pn : Int), .int .i64 ((idsD pn 4 D).length : Int), .slice (some ⟨gp, 0, none⟩) 4 4] 55)).cell? ⟨w3.heap.size, 2, none⟩ = some (.slice (some ⟨gp, 0, none⟩) 4 4) := by rw [cell_of_row _ _ _ _ _ _ r10]; rfl
  have hmt : ∀ i, i < 4 → (w3.alloc (.cells #[.int .i64 (pn : Int), .int .i64 ((idsD pn 4 D).length : Int), .slice (some ⟨gp, 0, none⟩) 4 4] 55)).cell? ⟨MR, i, none⟩ = some (.bool (metB G (prevs (sideF n m) S T i) i)) := fun i hi => by
    rw [cell_of_row _ _ _ _ _ _ hMR, List.getElem?_toArray, metL_get _ _ _ _ _ (by omega), if_pos (by omega)]
  have hfc : ∀ j, j < 2 → (w3.alloc (.cells #[.int .i64 (pn : Int), .int .i64 ((idsD pn 4 D).length : Int), .slice (some ⟨gp, 0, none⟩) 4 4] 55)).cell? ⟨FB, v * 2 + j, none⟩ = (factC (.known (if n = 0 then m else 8)))[j]? := fun j hj => by
    rw [cell_of_row _ _ _ _ _ _ hFB, List.getElem?_toArray, gC_get (s := 2) (C := fun v => factC (F v)) (fun i _ => factC_len _) v j hv hj, hFv]
  have f0 : (w3.alloc (.cells #[.int .i64 (pn : Int), .int .i64 ((idsD pn 4 D).length : Int), .slice (some ⟨gp, 0, none⟩) 4 4] 55)).cell? ⟨FB, v * 2, none⟩ = some (.int .i64 1) := hfc 0 (by omega)
  have f1 : (w3.alloc (.cells #[.int .i64 (pn : Int), .int .i64 ((idsD pn 4 D).length : Int), .slice (some ⟨gp, 0, none⟩) 4 4] 55)).cell? ⟨FB, v * 2 + 1, none⟩ = some (.int .i64 (if n = 0 then m else 8)) := hfc 1 (by omega)
  have m0 := hmt 0 (by omega)
  have m1 := hmt 1 (by omega)
  have m2 := hmt 2 (by omega)
  have m3 := hmt 3 (by omega)
  obtain ⟨g0', g1', g2', g3'⟩ := HM4.out
  rw [show metB G (prevs (sideF n m) S T 0) ((0 : Nat) : Int) = true from g0'] at m0
  rw [show metB G (prevs (sideF n m) S T 1) ((1 : Nat) : Int) = _ from g1'] at m1
  rw [show metB G (prevs (sideF n m) S T 2) ((2 : Nat) : Int) = _ from g2'] at m2
  rw [show metB G (prevs (sideF n m) S T 3) ((3 : Nat) : Int) = true from g3'] at m3
  have hv4 : v < (idsD pn 4 D).length := by rw [← hS4]; exact hv
  clear hfc g0' g1' g2' g3' hmt hFB hMR hcl hcp e3 HPV hb23 hbb r10 hPH hFv hv hvp hS4 hao q0 q2
  generalize (w3.alloc (.cells #[.int .i64 (pn : Int), .int .i64 ((idsD pn 4 D).length : Int), .slice (some ⟨gp, 0, none⟩) 4 4] 55)) = V at *
  generalize w3.heap.size = P10 at *
  generalize (idsD pn 4 D).length = vn at *
  have hvI : (v : Int) < vn := by omega
  by_cases hn0 : n = 0
  · subst hn0
    rw [if_pos rfl] at f1
    go_upto_region 6 with fail
    go_upto_region 10 with fail
    have k0 := cell_alloc m0 (.cells #[.int .i64 1, .int .i64 m] 65)
    have k1 := cell_alloc m1 (.cells #[.int .i64 1, .int .i64 m] 65)
    have k2 := cell_alloc m2 (.cells #[.int .i64 1, .int .i64 m] 65)
    have k3 := cell_alloc m3 (.cells #[.int .i64 1, .int .i64 m] 65)
    have hl := heap_alloc_last V (.cells #[.int .i64 1, .int .i64 m] 65)
    have l0 : (V.alloc (.cells #[.int .i64 1, .int .i64 m] 65)).cell? ⟨V.heap.size, 0, none⟩ = some (.int .i64 1) := by rw [cell_of_row _ _ _ _ _ _ hl]; rfl
    have l1 : (V.alloc (.cells #[.int .i64 1, .int .i64 m] 65)).cell? ⟨V.heap.size, 1, none⟩ = some (.int .i64 m) := by rw [cell_of_row _ _ _ _ _ _ hl]; rfl
    have HBW : Hid (Below w.heap.size w (V.alloc (.cells #[.int .i64 1, .int .i64 m] 65))) := HBV.out.alloc HBV.out.size _
    clear hl m0 m1 m2 m3 f0 f1 p46 pid s2
    generalize V.alloc (.cells #[.int .i64 1, .int .i64 m] 65) = V2 at *
    generalize V.heap.size = VH at *
    go_wp2
    go_ret
    exact ⟨rfl, HBW.out⟩
  · rw [if_neg hn0] at f1
    rw [decide_eq_false hn0] at m1
    rw [decide_eq_true hn0] at m2
    have hn1 : (n == 0) = false := beq_eq_false_iff_ne.2 hn0
    have hn2 : decide (n = 0) = false := decide_eq_false hn0
    go_upto_region 6 with fail
    go_upto_region 10 with fail
    have k0 := cell_alloc m0 (.cells #[.int .i64 1, .int .i64 8] 65)
    have k1 := cell_alloc m1 (.cells #[.int .i64 1, .int .i64 8] 65)
    have k2 := cell_alloc m2 (.cells #[.int .i64 1, .int .i64 8] 65)
    have k3 := cell_alloc m3 (.cells #[.int .i64 1, .int .i64 8] 65)
    have hl := heap_alloc_last V (.cells #[.int .i64 1, .int .i64 8] 65)
    have l0 : (V.alloc (.cells #[.int .i64 1, .int .i64 8] 65)).cell? ⟨V.heap.size, 0, none⟩ = some (.int .i64 1) := by rw [cell_of_row _ _ _ _ _ _ hl]; rfl
    have l1 : (V.alloc (.cells #[.int .i64 1, .int .i64 8] 65)).cell? ⟨V.heap.size, 1, none⟩ = some (.int .i64 8) := by rw [cell_of_row _ _ _ _ _ _ hl]; rfl
    have HBW : Hid (Below w.heap.size w (V.alloc (.cells #[.int .i64 1, .int .i64 8] 65))) := HBV.out.alloc HBV.out.size _
    clear hl m0 m1 m2 m3 f0 f1 p46 pid s2
    generalize V.alloc (.cells #[.int .i64 1, .int .i64 8] 65) = V2 at *
    generalize V.heap.size = VH at *
    go_wp2
    go_ret
    exact ⟨rfl, HBW.out⟩
end Go.Proofs.YtldbmdgpdolaaaaGreatDoor
