/- Contract of flow.standing. -/
import Derived.Test.YteilohamjijpbaaDoorXFlowAbove
import Derived.Test.YteilohamjijpbaaDoorXStandMath
namespace Go.Proofs.YteilohamjijpbaaDoor
open Go Go.RowKit

theorem shl_bv (b : Nat) (hb : b < 40) : IntKind.i64.wrap (2 ^ b) = (1#64 <<< b).toInt :=
  (show ∀ k : Fin 40, IntKind.i64.wrap (2 ^ k.val) = (1#64 <<< k.val).toInt by decide) ⟨b, hb⟩
theorem place_store {w : World} {g n : Nat} {l : List (BitVec 64)} (h : PlaceRow w g n l) (i : Nat) (v : BitVec 64) : PlaceRow (w.setCell ⟨g, i, none⟩ (.int .i64 v.toInt)) g n (l.set i v) ∧ w.grownBy (w.setCell ⟨g, i, none⟩ (.int .i64 v.toInt)) (some g) := by
  have := h.stored i (.int .i64 v.toInt)
  rw [bvs_set] at this
  exact this
theorem place_vals {w : World} {g n : Nat} {l : List (BitVec 64)} (h : PlaceRow w g n l) (hl : l.length = n) (hn : n ≤ 1000) : IntsVal w (.slice (some ⟨g, 0, none⟩) n n) (l.map BitVec.toInt) := by
  refine ⟨_, g, 0, n, n, rfl, by rw [List.length_map]; exact hl, fun _ => rfl, fun k hk => ?_, ⟨Nat.le_refl _, fun e => by cases e⟩, by unfold maxLen; omega⟩
  have hk' : k < l.length := by simpa using hk
  have := place_cell h hl k (by omega)
  rw [Nat.zero_add, this]
  simp [List.getD, hk']

set_option maxRecDepth 100000 in
set_option maxHeartbeats 8000000 in
theorem standing_any (P : List Fn) (f : Fn) (ok : FlowOk P f) (base g : Nat) (S : List Nat) (T : Nat → Nat) (VV : Nat → Value) (LL : Nat → List Int) (w : World) (hB : BlocksAt w base g f S T VV LL) :
    Calls Tryd.prog 44 #[.slice (some ⟨g, 0, none⟩) S.length S.length] w fun e w' => ∃ R, e = .returned (.func (.func 69) #[] #[.pointer (some ⟨R, 0, none⟩)]) ∧ Stands (pvN f S T) S.length w' R ∧ Below w.heap.size w w' := by
  have hkn : S.length ≤ 40 := Nat.le_trans (starts_len ok hB.starts) ok.ok.len2
  obtain ⟨hk0, -⟩ := hB.starts.first
  have hmf : ∀ (fn : Go.Fn) (first cap : Array Value) (w : World), (Instr.makeFunc fn first cap).run Tryd.prog w = .ok (.func fn first cap) w := fun _ _ _ _ => rfl
  have HPL : Hid (∀ b p, p ∈ pvN f S T b → p < S.length ∧ b < S.length) := fun b p hp => hB.ok.pvN_lt ok b p hp
  have HPV : Hid (∀ W, Below w.heap.size w W → ∀ b, 1 ≤ b → b < S.length → W.cell? ⟨g, b * 4 + 3, none⟩ = some (VV (2 * b + 1)) ∧ IntsVal W (VV (2 * b + 1)) ((pvN f S T b).map fun j => ((j : Nat) : Int))) := fun W hW b h1 hb => by
    have h := (hB.below hW).next b hb
    rw [pvN_pvI f S T b (by omega)] at h
    exact ⟨((hB.below hW).cells b hb).2.2.2, h.2⟩
  have hgl : g < w.heap.size := (hB.row.lt g rfl).2
  have HBG : Hid (OnInv (pvN f S T) S.length ((List.replicate S.length (BitVec.allOnes 64)).set 0 1#64)) := OnInv.begin _ _ hk0
  have hRep := fun o => repeat_any S.length w.heap.size 0 1 (-1) (w.alloc o) (by omega) (by omega)
  clear hB
  generalize pvN f S T = pv at *
  generalize S.length = K at *
  go_enter Tryd.func44, Tryd.ntmps44
  go_upto_region 2 with (go_at_call 67; refine (hRep _ (by simp)).mono ?_; rintro e w1 ⟨rfl, hr1, hb1⟩; rw [rowL_bvs] at hr1; simp only [World.size_alloc] at hr1)
  have hz1 : w.heap.size + 1 < w1.heap.size := lt_of_block hr1
  have hrow0 := place_of_heap (n := K) hr1 (by simp) (by omega)
  have HBA : Hid (Below w.heap.size w (w1.alloc (.cells #[.slice (some ⟨w.heap.size + 1, 0, none⟩) K K] 37))) := (((Below.refl _ _).alloc (Nat.le_refl _) _).trans (hb1.mono (by simp))).alloc (by omega) _
  have hrowA : PlaceRow (w1.alloc (.cells #[.slice (some ⟨w.heap.size + 1, 0, none⟩) K K] 37)) (w.heap.size + 1) K (List.replicate K (BitVec.allOnes 64)) := ownsRow_below hrow0 ((Below.refl _ _).alloc (Nat.le_refl _) _)
  have kb : (w1.alloc (.cells #[.slice (some ⟨w.heap.size + 1, 0, none⟩) K K] 37)).cell? ⟨w1.heap.size, 0, none⟩ = some (.slice (some ⟨w.heap.size + 1, 0, none⟩) K K) := by simp
  have hzA : w1.heap.size < (w1.alloc (.cells #[.slice (some ⟨w.heap.size + 1, 0, none⟩) K K] 37)).heap.size := by simp
  generalize (w1.alloc (.cells #[.slice (some ⟨w.heap.size + 1, 0, none⟩) K K] 37)) = WA at *
  have c0 := place_cell hrowA (by simp) 0 (by omega)
  have f0 := hrowA.frozenAt 0
  have HST := place_store hrowA 0 1#64
  have e1 : (1#64).toInt = 1 := by decide
  rw [e1] at HST
  have HS1 : Hid (PlaceRow (WA.setCell ⟨w.heap.size + 1, 0, none⟩ (.int .i64 1)) (w.heap.size + 1) K ((List.replicate K (BitVec.allOnes 64)).set 0 1#64)) := HST.1
  have HS2 : Hid (WA.grownBy (WA.setCell ⟨w.heap.size + 1, 0, none⟩ (.int .i64 1)) (some (w.heap.size + 1))) := HST.2
  have HKB : Hid (WA.cell? ⟨w1.heap.size, 0, none⟩ = some (.slice (some ⟨w.heap.size + 1, 0, none⟩) K K)) := kb
  have hRB : w1.heap.size ≠ w.heap.size + 1 := by omega
  obtain ⟨R, hR⟩ : ∃ R, R = w1.heap.size := ⟨_, rfl⟩
  rw [← hR] at hRB HKB kb hzA
  have hBw : w.heap.size ≤ w.heap.size + 1 := Nat.le_succ _
  have hzw : w.heap.size ≤ WA.heap.size := HBA.out.size
  obtain ⟨B, hBB⟩ : ∃ B, B = w.heap.size + 1 := ⟨_, rfl⟩
  simp only [← hBB] at *
  simp only [← hR] at *
  clear HST e1 hrowA hrow0 hr1 hb1 hRep hz1 hR
  go_upto_region 4 with fail
  clear c0 f0 kb
  go_loopg [4] (total ((List.replicate K (BitVec.allOnes 64)).set 0 1#64) + 1) (fun m ag wr => ∃ (again : Bool) (on : List (BitVec 64)), m = total on + (if again = true then 1 else 0) ∧ ag = .bool again ∧ (OnInv pv K on ∧ (again = false → ∀ c, 1 ≤ c → c < K → on.getD c 0#64 = leftB pv on c)) ∧ PlaceRow wr B K on ∧ WA.grownBy wr (some B))
  case atStart => exact ⟨true, _, rfl, rfl, ⟨HBG.out, fun h => by cases h⟩, HS1.out, HS2.out⟩
  case round =>
    obtain ⟨again, on, hm', rfl, hlp, hrow, hgr⟩ := hrel
    rename World => wo
    have HM : Hid (gk = total on + (if again = true then 1 else 0)) := hm'
    have HLP : Hid (OnInv pv K on ∧ (again = false → ∀ c, 1 ≤ c → c < K → on.getD c 0#64 = leftB pv on c)) := hlp
    have HRO : Hid (PlaceRow wo B K on) := hrow
    have HGO : Hid (WA.grownBy wo (some B)) := hgr
    have HBO : Hid (Below w.heap.size w wo) := below_gb HBA.out hgr (by omega) hzw
    clear hm' hlp hrow hgr
    cases again
    · have HFX : Hid (∀ c, 1 ≤ c → c < K → on.getD c 0#64 = leftB pv on c) := HLP.out.2 rfl
      have HIV : Hid (OnInv pv K on) := HLP.out.1
      have kb := gb_cell HGO.out HKB.out hRB
      have HKO : Hid (wo.cell? ⟨R, 0, none⟩ = some (.slice (some ⟨B, 0, none⟩) K K)) := kb
      go_wp2
      go_ret
      refine ⟨R, rfl, ⟨on, _, HKO.out, place_vals HRO.out HIV.out.len (by omega), HIV.out.len, by omega, fun b d hb hd => HIV.out.done HPL.out HFX.out hb hd⟩, HBO.out⟩
    · go_wp2
      go_loopw [4, 5] (fun ag i wi => ∃ (kk : Nat) (again' : Bool) (on2 : List (BitVec 64)), 1 ≤ kk ∧ kk ≤ K ∧ i = .int .i64 kk ∧ ag = .bool again' ∧ OMid pv K on kk again' on2 ∧ PlaceRow wi B K on2 ∧ wo.grownBy wi (some B)) (fun _ i _ => K - (intOf i).toNat)
      case atStart => exact ⟨1, false, on, Nat.le_refl _, by omega, rfl, rfl, OMid.start HLP.out.1, HRO.out, gb_refl _ _⟩
      case round =>
        obtain ⟨kk, again', on2, hk1, hkk, rfl, rfl, hmid, hrow, hgr⟩ := hrel
        have HBI : Hid (Below w.heap.size w wr) := below_gb HBO.out hgr (by omega) HBO.out.size
        have HGI : Hid (WA.grownBy wr (some B)) := gb_trans HGO.out hgr
        have HMI : Hid (OMid pv K on kk again' on2) := hmid
        have HRI : Hid (PlaceRow wr B K on2) := hrow
        have HGW : Hid (wo.grownBy wr (some B)) := hgr
        clear hmid hrow hgr
        by_cases hlt : kk < K
        · have hkI : (kk : Int) < K := by omega
          have kb := gb_cell HGI.out HKB.out hRB
          obtain ⟨cp, hpi⟩ := HPV.out wr HBI.out kk hk1 hlt
          obtain ⟨aoP, bP, offP, nP, capP, eP, -⟩ := ints_get hpi
          rw [eP] at cp hpi
          have hlen : on2.length = K := HMI.out.inv.len
          have hOA := fun m => onAll_any on2 (pv kk) (.slice (some ⟨B, 0, none⟩) K K) (.slice aoP nP capP) (wr.drewN m) ((place_vals HRI.out hlen (by omega)).keeps (fun _ _ e => e)) (hpi.keeps (fun _ _ e => e)) (fun p hp => by rw [hlen]; exact (HPL.out kk p hp).1)
          have hshl := shl_bv kk (by omega)
          have hor := bits_or_bv (1#64 <<< kk) (andAll on2 (pv kk))
          have cb := place_cell HRI.out hlen kk hlt
          have fb := HRI.out.frozenAt kk
          have HSTEP := HMI.out.step (fun b p hp => (HPL.out b p hp).1) hk1 hlt
          have HSTEPH : Hid (OMid pv K on (kk + 1) (again' || (leftB pv on2 kk != on2.getD kk 0#64)) (on2.set kk (leftB pv on2 kk))) := HSTEP
          have HNE : Hid (((leftB pv on2 kk).toInt != (on2.getD kk 0#64).toInt) = (leftB pv on2 kk != on2.getD kk 0#64)) := by
            show _ = _
            rw [Bool.eq_iff_iff, bne_iff_ne, bne_iff_ne, ne_eq, ne_eq, BitVec.toInt_inj]
          have HSET : Hid (∀ W, PlaceRow W B K on2 → PlaceRow (W.setCell ⟨B, kk, none⟩ (.int .i64 (leftB pv on2 kk).toInt)) B K (on2.set kk (leftB pv on2 kk)) ∧ W.grownBy (W.setCell ⟨B, kk, none⟩ (.int .i64 (leftB pv on2 kk).toInt)) (some B)) := fun W h => place_store h kk _
          have hor2 : bits .or .i64 (1#64 <<< kk).toInt (andAll on2 (pv kk)).toInt = (leftB pv on2 kk).toInt := hor
          have hshl2 : IntKind.i64.wrap (1 * 2 ^ kk) = (1#64 <<< kk).toInt := by rw [Int.one_mul]; exact hshl
          clear HSTEP hor hpi eP hlen
          generalize on2.set kk (leftB pv on2 kk) = on3 at HSET HSTEPH
          generalize hcw : (leftB pv on2 kk != on2.getD kk 0#64) = ne at HNE HSTEPH
          clear hcw
          generalize (1#64 <<< kk).toInt = SH at hshl hshl2 hor2
          generalize (andAll on2 (pv kk)).toInt = AA at hOA hor2
          generalize (leftB pv on2 kk).toInt = LB at hor2 HNE HSET
          generalize (on2.getD kk 0#64).toInt = OB at cb HNE
          have hNE := HNE.out
          cases again'
          · go_wp2
            go_quiet ((go_at_call 68; exact (hOA _).mono fun _ _ h => ⟨h.1, _, h.2⟩))
            go_wp2
            go_roundw
            case rel => exact ⟨kk + 1, ne, on3, by omega, by omega, by go_num, by rw [← HNE.out], (by have h := HSTEPH.out; rw [Bool.false_or] at h; exact h), (HSET.out _ (ownsRow_below HRI.out (below_drewN (Below.refl _ _) _))).1, gb_trans HGW.out (gb_trans (gb_below _ (below_drewN (Below.refl _ _) _)) (HSET.out _ (ownsRow_below HRI.out (below_drewN (Below.refl _ _) _))).2)⟩
            case measure => simp [intOf]; omega
          · go_wp2
            go_quiet ((go_at_call 68; exact (hOA _).mono fun _ _ h => ⟨h.1, _, h.2⟩))
            go_wp2
            go_roundw
            case rel => exact ⟨kk + 1, true, on3, by omega, by omega, by go_num, rfl, (by have h := HSTEPH.out; rw [Bool.true_or] at h; exact h), (HSET.out _ (ownsRow_below HRI.out (below_drewN (Below.refl _ _) _))).1, gb_trans HGW.out (gb_trans (gb_below _ (below_drewN (Below.refl _ _) _)) (HSET.out _ (ownsRow_below HRI.out (below_drewN (Below.refl _ _) _))).2)⟩
            case measure => simp [intOf]; omega
        · obtain rfl : kk = K := by omega
          have HX : Hid ((OnInv pv kk on2 ∧ (again' = false → ∀ c, 1 ≤ c → c < kk → on2.getD c 0#64 = leftB pv on2 c)) ∧ total on2 + (if again' = true then 1 else 0) < total on + 1) := by
            refine ⟨⟨HMI.out.inv, fun ha => (HMI.out.fix ha).2⟩, ?_⟩
            cases ha : again'
            · have := HMI.out.le; simp; omega
            · have := HMI.out.less ha; simp; omega
          go_wp2
          go_roundg (total on2 + (if again' = true then 1 else 0))
          case measure => rw [HM.out]; exact HX.out.2
          case rel => exact ⟨again', on2, rfl, rfl, HX.out.1, HRI.out, HGI.out⟩
end Go.Proofs.YteilohamjijpbaaDoor
