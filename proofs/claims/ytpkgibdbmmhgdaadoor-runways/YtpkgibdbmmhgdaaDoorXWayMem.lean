/- What lies in memory along the walk of RunWays; flow.Above again, with where its answer lies. -/
import Derived.Test.YtpkgibdbmmhgdaaDoorXWayMath
import Derived.Test.YtpkgibdbmmhgdaaDoorXKRunX
namespace Go.Proofs.YtpkgibdbmmhgdaaDoor
open Go Go.RowKit

set_option maxRecDepth 100000 in
set_option maxHeartbeats 4000000 in
theorem Above_at (P : List Fn) (hR : ProofAns P 0) (k : Nat) (hk : k < P.length) (v : Value) (w : World) (ht : TabOk w) (hc : CallOk w) (hv : ProgVal w v P) :
    Calls Tryd.prog 31 #[.agg #[v], .int .i64 k] w fun e w' => ∃ g K A, e = .returned (.tuple #[.slice (some ⟨g, 0, none⟩) K K, .int .i64 0]) ∧ AboveOk P[k] A ∧ A.length = K ∧ w'.ownsRow 0 3 1 (.slice (some ⟨g, 0, none⟩) K K) K (i64s A) ∧ w.heap.size ≤ g ∧ Below w.heap.size w w' := by
  have hbx : ∀ o, Below w.heap.size w (w.alloc o) := fun o => (Below.refl _ _).alloc (Nat.le_refl _) _
  have hC := fun o => flowCheck_any P v k (w.alloc o) (ht.below (hbx o)) (hc.below (hbx o)) (hv.keeps (keeps_below (hbx o)))
  have HLV : Hid (∀ W, Below w.heap.size w W → Calls Tryd.prog 54 #[.agg #[v], .int .i64 k] W fun e w' => ∃ g S T VV LL, e = .returned (.slice (some ⟨g, 0, none⟩) S.length S.length) ∧ BlocksAt w' W.heap.size g P[k] S T VV LL ∧ W.heap.size ≤ g ∧ Below W.heap.size W w') := fun W hb => blocks_any P hR k hk v W (ht.below hb) (hc.below hb) (hv.keeps (keeps_below hb))
  have HE0 : Hid (∀ E, FlowErr P k E → E = 0) := fun E h => flowErr_right h hR (by omega) (by omega)
  have OK : Hid (FlowOk P P[k]) := flowOk_of hR (List.getElem_mem hk)
  obtain ⟨ao, n, cap, rfl⟩ := hv.shape
  clear ht hc hbx
  generalize P[k] = f at *
  go_enter Tryd.func31, Tryd.ntmps31
  go_wp2_with (first
    | (go_at_call 53; refine (hC _).mono ?_; rintro e w1 ⟨E, rfl, hE, hb1⟩; obtain rfl := HE0.out E hE; have k0 := keeps_below hb1 ⟨w.heap.size, 0, none⟩ (.slice ao n cap) (by simp); have HB1 : Hid (Below w.heap.size w w1) := ((Below.refl _ _).alloc (Nat.le_refl _) _).trans (hb1.mono (by simp)); clear hE)
    | (go_at_call 54; refine (HLV.out _ HB1.out).mono ?_; rintro e w2 ⟨g, S, T, VV, LL, rfl, hB, hgw, hb2⟩; have HBB : Hid (BlkOk f S T) := hB.ok; have hkn : S.length ≤ 40 := Nat.le_trans (starts_len OK.out hB.starts) OK.out.ok.len2; have hSt := standing_any P f OK.out _ g S T VV LL w2 hB; have HB2 : Hid (Below w.heap.size w w2) := HB1.out.trans (hb2.mono HB1.out.size); clear hB hb2)
    | (go_at_call 56; refine hSt.mono ?_; rintro e w3 ⟨R, rfl, hst, hb3⟩; have hAb := above_any (pvN f S T) S.length R w3 hst (fun b hb => HBB.out.come OK.out hb) (by omega); have HB3 : Hid (Below w.heap.size w w3) := HB2.out.trans (hb3.mono HB2.out.size); clear hst hb3)
    | (go_at_call 57; refine hAb.mono ?_; rintro e w4 ⟨A, rfl, hl, hA, hrow, hb4⟩))
  go_ret2
  exact ⟨_, _, A, rfl, ⟨S, T, HBB.out, hl, hA⟩, hl, hrow, HB3.out.size, HB3.out.trans (hb4.mono HB3.out.size)⟩
/-- What holds of memory all along. -/
structure RW (w4 W1 : World) (SB SX K : Nat) (csk : Array Value) (s : St) (seen : List Bool) (W : World) : Prop where
  keep : ∀ b, b < SB → b ≠ SX → W.heap[b]? = w4.heap[b]?
  row : BoolRow W SB K seen
  low : Below W1.heap.size W1 W
  box : W.heap[SX]? = some (.cells csk 34 (0, 0))
  free : ∀ W', (∀ (a : Addr) u, a.block ≠ SB → a.block ≠ SX → W.cell? a = some u → W'.cell? a = some u) → StVal W' (.agg csk) s
theorem RW.val {w4 W1 W : World} {SB SX K : Nat} {csk : Array Value} {s : St} {seen : List Bool} (h : RW w4 W1 SB SX K csk s seen W) : StVal W (.agg csk) s := h.free W (fun _ _ _ _ h => h)
theorem RW.lt {w4 W1 W : World} {SB SX K : Nat} {csk : Array Value} {s : St} {seen : List Bool} (h : RW w4 W1 SB SX K csk s seen W) : SB < W.heap.size := (h.row.lt SB rfl).2
theorem RW.below {w4 W1 W W' : World} {SB SX K : Nat} {csk : Array Value} {s : St} {seen : List Bool} (h : RW w4 W1 SB SX K csk s seen W) (hb : Below W.heap.size W W') : RW w4 W1 SB SX K csk s seen W' :=
  ⟨fun b h1 h2 => (hb.block b (by have := h.lt; omega)).trans (h.keep b h1 h2), ownsRow_below h.row hb, h.low.trans (hb.mono h.low.size), (hb.block _ (lt_of_block h.box)).trans h.box, fun W2 hk => h.free W2 (fun a u h1 h2 hu => hk a u h1 h2 (keeps_below hb _ _ hu))⟩
theorem RW.mark {w4 W1 W : World} {SB SX K c : Nat} {csk : Array Value} {s : St} {seen : List Bool} (h : RW w4 W1 SB SX K csk s seen W) (hne : SX ≠ SB) (h1 : W1.heap.size ≤ SB) : RW w4 W1 SB SX K csk s (seen.set c true) (W.setCell ⟨SB, c, none⟩ (.bool true)) := by
  obtain ⟨s1, s2⟩ := bool_store h.row c true
  refine ⟨fun b hb hn => (s2.block b (by have := h.lt; omega) (by simp; omega)).trans (h.keep b hb hn), s1, below_gb h.low s2 h1 h.low.size, (s2.block _ (lt_of_block h.box) (by simp; exact hne)).trans h.box, fun W2 hk => h.free W2 (fun a u q1 q2 hu => hk a u q1 q2 (gb_cell s2 hu q1))⟩
theorem RW.cell {w4 W1 W : World} {SB SX K : Nat} {csk : Array Value} {s : St} {seen : List Bool} (h : RW w4 W1 SB SX K csk s seen W) (hz : SB = w4.heap.size) (a : Addr) (u : Value) (hne : a.block ≠ SX) (hu : w4.cell? a = some u) : W.cell? a = some u :=
  (World.cell?_of_block (h.keep _ (by rw [hz]; exact World.block_lt_of_cell? _ _ hu) hne)).trans hu
/-- The state's box is written anew, with a state whose lists lie elsewhere. -/
theorem RW.put {w4 W1 W : World} {SB SX K : Nat} {csk csn : Array Value} {s s' : St} {seen : List Bool} (h : RW w4 W1 SB SX K csk s seen W) (hlow : W1.heap.size ≤ SX) (hne : SX ≠ SB)
    (hf : ∀ W', (∀ (a : Addr) u, a.block ≠ SB → a.block ≠ SX → W.cell? a = some u → W'.cell? a = some u) → StVal W' (.agg csn) s') : RW w4 W1 SB SX K csn s' seen (W.setRow SX csn) := by
  refine ⟨fun b hb hn => (setRow_other W SX csn b hn).trans (h.keep b hb hn), ?_, below_setRow h.low hlow _, setRow_heap _ _ _ _ _ _ h.box, fun W2 hk => hf W2 (fun a u q1 q2 hu => hk a u q1 q2 ((World.cell?_of_block (setRow_other W SX csn _ q2)).trans hu))⟩
  have hg : W.grownBy (W.setRow SX csn) (some SX) := ⟨rfl, rfl, rfl, by simp [World.setRow], fun b _ hne => setRow_other W SX csn b (fun e => hne (by rw [e]))⟩
  exact h.row.kept hg (Or.inr (by simp [Value.ownBlock]; omega))
/-- The marks, and the block, behind so many blocks that were looked at. -/
def seenC (seen : List Bool) (c q : Nat) : List Bool := if c < q then seen.set c true else seen
def atC (c q : Nat) (at1 : Int) : Int := if c < q then (c : Int) else at1
theorem seenC_start (seen : List Bool) (c : Nat) : seenC seen c 0 = seen := if_neg (by omega)
theorem seenC_at (seen : List Bool) (c : Nat) : seenC seen c c = seen ∧ seenC seen c (c + 1) = seen.set c true := ⟨if_neg (by omega), if_pos (by omega)⟩
theorem seenC_other (seen : List Bool) {c q : Nat} (h : q ≠ c) : seenC seen c (q + 1) = seenC seen c q := by
  unfold seenC
  by_cases h1 : c < q
  · rw [if_pos h1, if_pos (by omega)]
  · rw [if_neg h1, if_neg (by omega)]
theorem seenC_end (seen : List Bool) {c K : Nat} (h : c < K) : seenC seen c K = seen.set c true := if_pos h
theorem seenC_len (seen : List Bool) (c q : Nat) : (seenC seen c q).length = seen.length := by unfold seenC; split <;> simp
theorem atC_start (c : Nat) (at1 : Int) : atC c 0 at1 = at1 := if_neg (by omega)
theorem atC_at (c : Nat) (at1 : Int) : atC c c at1 = at1 ∧ atC c (c + 1) at1 = (c : Int) := ⟨if_neg (by omega), if_pos (by omega)⟩
theorem atC_other {c q : Nat} (at1 : Int) (h : q ≠ c) : atC c (q + 1) at1 = atC c q at1 := by
  unfold atC
  by_cases h1 : c < q
  · rw [if_pos h1, if_pos (by omega)]
  · rw [if_neg h1, if_neg (by omega)]
theorem atC_end {c K : Nat} (at1 : Int) (h : c < K) : atC c K at1 = (c : Int) := if_pos h
end Go.Proofs.YtpkgibdbmmhgdaaDoor
