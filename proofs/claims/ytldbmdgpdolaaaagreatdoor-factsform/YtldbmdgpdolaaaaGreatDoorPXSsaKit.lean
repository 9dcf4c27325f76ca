import Derived.Deep.RegionHeld3
import Derived.Test.YtldbmdgpdolaaaaGreatDoorPGroupA
import Derived.Test.YtldbmdgpdolaaaaGreatDoorPXSsaMath
import Derived.Test.YtldbmdgpdolaaaaGreatDoorPGroupB
namespace Go.Proofs.YtldbmdgpdolaaaaGreatDoor
open Go Go.RowKit

structure SsaFn (w : World) (P : List Fn) (f : Fn) (S : List Nat) (T : Nat → Nat) (L : List Int) (pv cv bv lv : Value) : Prop where
  prog : ProgVal w pv P
  mem : f ∈ P
  code : ∃ cb co ccap, cv = .slice (some ⟨cb, co, none⟩) f.code.length ccap ∧ f.code.length ≤ ccap ∧ ccap ≤ 9223372036854775807 ∧ ∀ q, q < f.code.length → insAt w cb (co + q * 5) (insD f q)
  blocks : ∃ gB VV, bv = .slice (some ⟨gB, 0, none⟩) S.length S.length ∧ BlkRow w gB S.length (fun i => ((S.getD i 0 : Nat) : Int)) (fun i => ((T i : Nat) : Int)) VV ∧ ∀ i, i < S.length → IntsVal w (VV (2 * i + 1)) (prevs f S T i)
  ok : BlkOk f S T
  live : IntsVal w lv L
  lspec : LiveSpec P f L
  flow : FlowOk P f
theorem SsaFn.below {w w' : World} {P : List Fn} {f : Fn} {S : List Nat} {T : Nat → Nat} {L : List Int} {pv cv bv lv : Value} (h : SsaFn w P f S T L pv cv bv lv) (hb : Below w.heap.size w w') : SsaFn w' P f S T L pv cv bv lv := by
  obtain ⟨cb, co, ccap, e, h1, h2, h3⟩ := h.code
  obtain ⟨gB, VV, e2, h4, h5⟩ := h.blocks
  exact ⟨h.prog.keeps (keeps_below hb), h.mem, ⟨cb, co, ccap, e, h1, h2, fun q hq => (h3 q hq).keeps (keeps_below hb)⟩, ⟨gB, VV, e2, ownsRow_below h4 hb, fun i hi => (h5 i hi).keeps (keeps_below hb)⟩, h.ok, h.live.keeps (keeps_below hb), h.lspec, h.flow⟩
def fnV (f : Fn) (pv cv bv lv : Value) : Array Value := #[pv, .int .i64 f.params, cv, bv, lv]
def zero12 : List Value := [.int .i64 0, .int .i64 0, .int .i64 0, .int .i64 0, .int .i64 0, .int .i64 0, .int .i64 0, .int .i64 0, .int .i64 0, .int .i64 0, .int .i64 0, .int .i64 0]
theorem infoRg : (Tryz.prog.info? 95).map (·.size) = some 12 := by kernel_rfl
theorem infoRgL {l : List Int} (h : l.length = 12) : (Tryz.prog.info? 95).map (·.size) = some (i64s l).toArray.size := by
  have : (i64s l).toArray.size = 12 := by simp [i64s, h]
  rw [this]; exact infoRg
theorem oneI64 (l : List Int) : (i64s l).toArray.all (·.oneCell') = true := by
  rw [Array.all_eq_true_iff_forall_mem]
  intro v hv
  obtain ⟨z, -, rfl⟩ := List.mem_map.1 (show v ∈ (l.map (Value.int .i64)) by simpa [i64s] using hv)
  rfl
theorem bit_downS (m u : Nat) (hm : m < 4096) : bits .and .i64 ((m : Int) / 2 ^ u) 1 = if m.testBit u = true then 1 else 0 := by
  have e : ((m : Int) / 2 ^ u) = ((m / 2 ^ u : Nat) : Int) := by rw [Int.natCast_ediv, Int.natCast_pow]; rfl
  have hd : m / 2 ^ u < 65536 := Nat.lt_of_le_of_lt (Nat.div_le_self _ _) (by omega)
  have h1 := bits_and_nat (m / 2 ^ u) 1 hd (by omega)
  rw [e]
  refine h1.trans ?_
  rw [Nat.and_one_is_mod, Nat.testBit_eq_decide_div_mod_eq]
  simp only [decide_eq_true_eq]
  split <;> omega
theorem heap_alloc3_newS (w : World) (o o' o'' : Obj) : (((w.alloc o).alloc o').alloc o'').heap[w.heap.size + 1 + 1]? = some o'' := by
  have := heap_alloc_last ((w.alloc o).alloc o') o''
  rw [World.size_alloc, World.size_alloc] at this
  exact this
theorem belowSK {B g : Nat} {w0 w : World} (hb : Below B w0 w) (hBg : B ≤ g) (cs : Array Value) : Below B w0 (w.setRow g cs) :=
  hb.trans ⟨rfl, rfl, rfl, by simp [World.setRow], fun i hi => setRow_other _ _ _ _ (by omega)⟩
set_option maxRecDepth 100000 in
theorem makesS_any (P : List Fn) (x : Ins) (w : World) (ht : TabOk w) (hx : InsOk P x) :
    Calls Tryz.prog 79 #[x.val] w fun e w' => e = .returned (.bool (setsB x.op)) ∧ Below w.heap.size w w' := by
  obtain ⟨op, dst, a, b', imm⟩ := x
  obtain ⟨o1, o2, d0, d1, _, _, _, _, _⟩ := hx
  dsimp only at o1 o2 d0 d1
  unfold Ins.val
  dsimp only
  have hs := sets_has op o1 o2
  have hta : ∀ o, TabOk (w.alloc o) := fun o => ht.below ((Below.refl _ _).alloc (Nat.le_refl _) _)
  cases h : setsB op
  · rw [h] at hs
    clear h ht
    simp only [Bool.not_false] at hs
    have hs2 : (bits .and .i64 (hasOf op) 1 != 0) = false := by simpa using hs
    go_enter Tryz.func79, Tryz.ntmps79
    go_wp2_with (go_at_call 108; refine (has_any _ _ (hta _)).mono ?_; rintro e w' ⟨rfl, rfl⟩)
    go_ret
    exact ⟨rfl, (Below.refl _ _).alloc (Nat.le_refl _) _⟩
  · rw [h] at hs
    clear h ht
    simp only [Bool.not_true] at hs
    have hs2 : (bits .and .i64 (hasOf op) 1 != 0) = true := by simpa using hs
    go_enter Tryz.func79, Tryz.ntmps79
    go_wp2_with (go_at_call 108; refine (has_any _ _ (hta _)).mono ?_; rintro e w' ⟨rfl, rfl⟩)
    go_ret
    exact ⟨rfl, (Below.refl _ _).alloc (Nat.le_refl _) _⟩
theorem madeAt_any (pc : Nat) (w : World) (h : pc ≤ 1000) : Calls Tryz.prog 80 #[.int .i64 pc] w fun e w' => e = .returned (.int .i64 (madeI pc)) ∧ w' = w := by
  have h1 : IntKind.i64.wrap (12 + (pc : Int)) = madeI pc := wrap_fits _ (by omega) (by omega)
  have h2 : wrap64 (12 + (pc : Int)) = madeI pc := (wrap64_small _ (by omega) (by omega)).trans rfl
  go_enter Tryz.func80, Tryz.ntmps80
  go_wp2
  go_ret
  exact ⟨rfl, rfl⟩
theorem phiAt_any (b r : Nat) (w : World) (hb : b ≤ 1000) (hr : r ≤ 1000) : Calls Tryz.prog 83 #[.int .i64 b, .int .i64 r] w fun e w' => e = .returned (.int .i64 (phiI b r)) ∧ w' = w := by
  obtain ⟨c, hc⟩ : ∃ c : Int, c = (b : Int) * 12 := ⟨_, rfl⟩
  have h1 : wrap64 ((b : Int) * 12) = c := by rw [hc]; exact wrap64_small _ (by omega) (by omega)
  have h2 : wrap64 (52 + c) = 52 + c := wrap64_small _ (by omega) (by omega)
  have h3 : wrap64 (52 + c + (r : Int)) = phiI b r := by rw [hc]; exact wrap64_small _ (by omega) (by omega)
  clear hc
  go_enter Tryz.func83, Tryz.ntmps83
  go_wp2
  go_ret
  exact ⟨rfl, rfl⟩
set_option maxRecDepth 100000 in
theorem joinsS_any {P : List Fn} {f : Fn} {S : List Nat} {T : Nat → Nat} {L : List Int} {pv cv bv lv : Value} (w : World) (h : SsaFn w P f S T L pv cv bv lv) (b : Nat) (hb : b < S.length) :
    Calls Tryz.prog 81 #[.agg (fnV f pv cv bv lv), .int .i64 b] w fun e w' => e = .returned (.bool (decide (1 < (prevs f S T b).length))) ∧ Below w.heap.size w w' := by
  obtain ⟨gB, VV, rfl, h1, h2⟩ := h.blocks
  obtain ⟨ao, pb, po, n, cap, e, hl, -, -, hcp⟩ := ints_get (h2 b hb)
  have hS : S.length ≤ 1000 := by have := starts_len h.flow h.ok.starts; have := h.flow.ok.len2; omega
  have HB : Hid (Below w.heap.size w (w.alloc (.cells (fnV f pv cv (.slice (some ⟨gB, 0, none⟩) S.length S.length) lv) 89))) := (Below.refl _ _).alloc (Nat.le_refl _) _
  have k3 : (w.alloc (.cells (fnV f pv cv (.slice (some ⟨gB, 0, none⟩) S.length S.length) lv) 89)).cell? ⟨w.heap.size, 3, none⟩ = some (.slice (some ⟨gB, 0, none⟩) S.length S.length) := by rw [cell_of_row _ _ _ _ _ _ (heap_alloc_last w _)]; rfl
  have kp := keeps_below HB.out _ _ (blk_prev h1 b hb)
  rw [e] at kp
  have hbI : (b : Int) < (S.length : Int) := by omega
  by_cases hj : 1 < (prevs f S T b).length
  · rw [decide_eq_true hj]
    have hn : (1 : Int) < (n : Int) := by omega
    have hn2 : 1 < n := by omega
    clear h1 h2 h e hl hcp hj
    unfold fnV at *
    generalize S.length = SL at *
    go_enter Tryz.func81, Tryz.ntmps81
    go_upto_region 1 with fail
    generalize (w.alloc (.cells #[pv, .int .i64 f.params, cv, .slice (some ⟨gB, 0, none⟩) SL SL, lv] 89)) = W1 at *
    go_wp2
    go_ret
    exact ⟨rfl, HB.out⟩
  · rw [decide_eq_false hj]
    have hn : ¬ (1 : Int) < (n : Int) := by omega
    have hn2 : ¬ 1 < n := by omega
    clear h1 h2 h e hl hcp hj
    unfold fnV at *
    generalize S.length = SL at *
    go_enter Tryz.func81, Tryz.ntmps81
    go_upto_region 1 with fail
    generalize (w.alloc (.cells #[pv, .int .i64 f.params, cv, .slice (some ⟨gB, 0, none⟩) SL SL, lv] 89)) = W1 at *
    go_wp2
    go_ret
    exact ⟨rfl, HB.out⟩
end Go.Proofs.YtldbmdgpdolaaaaGreatDoor
