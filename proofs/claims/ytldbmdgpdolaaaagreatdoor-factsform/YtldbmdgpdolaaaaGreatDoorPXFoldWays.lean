import Derived.DeepKeys4
import Derived.Test.YtldbmdgpdolaaaaGreatDoorPGroupP
import Derived.Test.YtldbmdgpdolaaaaGreatDoorPXOpen
import Derived.Test.YtldbmdgpdolaaaaGreatDoorPXSsaMath
import Derived.Test.YtldbmdgpdolaaaaGreatDoorPXSsaBuild
import Derived.Test.YtldbmdgpdolaaaaGreatDoorPXBrief
namespace Go.Proofs.YtldbmdgpdolaaaaGreatDoor
open Go Go.RowKit

theorem laidOutW : laidOutB Tryz.prog = true := by kernel_rfl
theorem rowWay : (124 : TypeId) < Tryz.prog.types.size := of_decide_eq_true (by kernel_rfl)
theorem wideWay : (match Tryz.prog.underlying 124 with | some (.array _ _) | some (.struct _) => true | _ => false) = true := by kernel_rfl
set_option maxRecDepth 100000 in
theorem lawWay : Maps.Keyed Tryz.prog 124 := Maps.Keyed.of_law (deep_law_laid laidOutW (m := 2) (by omega) rowWay (by kernel_rfl) wideWay)
def wayL (a b : Int) : Lit := .string (keyBytes [.int .i64 a, .int .i64 b])
theorem fields_way : (Tryz.prog.fieldsOf 124).toList.map (fun f => (f.type, f.offset, f.name == "_")) = [(3, 0, false), (3, 1, false)] := by kernel_rfl
theorem under_way : Tryz.prog.underlying 124 = some (.struct (Tryz.prog.fieldsOf 124)) := by kernel_rfl
theorem cells_way : Tryz.prog.cellsOf 124 = 2 := by kernel_rfl
theorem cells_intW : Tryz.prog.cellsOf 3 = 1 := by kernel_rfl
theorem keyTy_way : Tryz.prog.keyType 124 = true := by kernel_rfl
theorem size_types : ∃ d, Tryz.prog.types.size = d + 1 := Nat.exists_eq_succ_of_ne_zero (fun h => by have h1 := rowWay; rw [h] at h1; exact absurd h1 (Nat.not_lt_zero _))
def FitW (a : Int) : Prop := -1 ≤ a ∧ a ≤ 2000
theorem FitW.wf {z : Int} (h : FitW z) : (Lit.int .i64 z).wf = true := WalkArith.wf_i64 (by unfold FitW at h; omega)
theorem keyOf_way {a b : Int} (ha : FitW a) (hb : FitW b) : keyOf Tryz.prog 124 (.agg #[.int .i64 a, .int .i64 b]) = some (wayL a b) := by
  obtain ⟨d, hd⟩ := size_types
  have hi : ∀ z : Int, FitW z → Tryz.prog.keyLits (d + 1) 3 [.int .i64 z] = some [.int .i64 z] := fun z hz => by
    have hw := hz.wf
    simp [Program.keyLits, Tryz.underlying3, hw]
  have hf := fields_way
  have hform : (Value.agg #[.int .i64 a, .int .i64 b]).formed Tryz.prog 124 = true := by simp [Value.formed, cells_way]
  unfold keyOf
  rw [under_way]
  simp only [keyTy_way, hform, Bool.and_self, if_true, hd]
  have hk : Tryz.prog.keyLits (d + 1 + 1) 124 [.int .i64 a, .int .i64 b] = some [.int .i64 a, .int .i64 b] := by
    unfold Program.keyLits
    rw [under_way]
    dsimp only
    generalize hfs : (Tryz.prog.fieldsOf 124) = fs at hf
    have hall : fs.all (·.name != "_") = true := by
      rw [← hfs]; kernel_rfl
    rw [if_pos ⟨by rw [cells_way]; rfl, hall⟩]
    generalize fs.toList = l at hf
    rcases l with _ | ⟨f0, _ | ⟨f1, _ | ⟨f2, fs⟩⟩⟩ <;> simp at hf
    obtain ⟨⟨t0, o0, n0⟩, t1, o1, n1⟩ := hf
    simp [t0, o0, t1, o1, cells_intW, hi a ha, hi b hb]
  show Option.map _ (Tryz.prog.keyLits (d + 1 + 1) 124 (Value.cells (.agg #[.int .i64 a, .int .i64 b])).toList) = _
  rw [show (Value.cells (.agg #[.int .i64 a, .int .i64 b])).toList = [.int .i64 a, .int .i64 b] from rfl, hk]
  rfl
theorem wayL_inj {a b a' b' : Int} (ha : FitW a) (hb : FitW b) (ha' : FitW a') (hb' : FitW b') (h : wayL a b = wayL a' b') : a = a' ∧ b = b' := by
  have := lawWay.inj (keyOf_way ha hb) (by rw [h]; exact keyOf_way ha' hb')
  simpa using this
theorem wayL_key (a b : Int) : WideAt.IsKeyLit (wayL a b) := trivial
def emptyR : Value → Option (Dat × List MemPlace)
  | .agg cs => if cs.size = 0 then some (.agg [], []) else none
  | _ => none
theorem emptyR_ok : emptyR (.agg #[]) = some (.agg [], []) := rfl
theorem emptyR_inv {v : Value} {x : Dat × List MemPlace} (h : emptyR v = some x) : v = .agg #[] := by
  cases v with
  | agg cs =>
    by_cases h1 : cs.size = 0
    · rw [Array.eq_empty_of_size_eq_zero h1]
    · have h2 : (if cs.size = 0 then some ((DataW.agg [] : Dat), ([] : List MemPlace)) else none) = some x := h
      rw [if_neg h1] at h2; cases h2
  | _ => cases h
abbrev WMapAt (w : World) (B m : Nat) (D : Dat) : Prop := w.ownsMap Tryz.prog 124 emptyR B m D
structure WaysMap (G : List (Int × Int)) (D : Dat) : Prop where
  has : ∀ a b : Int, FitW a → FitW b → Maps.has D (wayL a b) = decide ((a, b) ∈ G)
  size : Maps.size D = G.length
theorem WaysMap.nil : WaysMap [] (.map [] : Dat) := ⟨fun a b _ _ => by simp [Maps.has], rfl⟩
def addW (G : List (Int × Int)) (x : Int × Int) : List (Int × Int) := if x ∈ G then G else G ++ [x]
theorem WaysMap.add {G : List (Int × Int)} {D : Dat} (h : WaysMap G D) (hT : Maps.Tidy D) {a b : Int} (ha : FitW a) (hb : FitW b) (d : Dat) : WaysMap (addW G (a, b)) (D.put (wayL a b) d) := by
  refine ⟨fun x y hx hy => ?_, ?_⟩
  · by_cases e : x = a ∧ y = b
    · obtain ⟨rfl, rfl⟩ := e
      rw [Maps.has_put_same hT.isMap (wayL_key _ _)]
      unfold addW
      split
      · rename_i hm; simp [hm]
      · simp
    · have hne : (wayL x y) ≠ (wayL a b) := fun h2 => e (wayL_inj hx hy ha hb h2)
      rw [Maps.has_put_other hne, h.has x y hx hy]
      unfold addW
      split
      · rfl
      · rw [decide_eq_decide, List.mem_append, List.mem_singleton, Prod.mk.injEq]
        exact ⟨Or.inl, fun h2 => h2.resolve_right e⟩
  · rw [Maps.size_put hT, h.has a b ha hb, h.size]
    unfold addW
    by_cases hm : (a, b) ∈ G <;> simp [hm]
end Go.Proofs.YtldbmdgpdolaaaaGreatDoor
namespace Go.Proofs.YtldbmdgpdolaaaaGreatDoor
open Go Go.RowKit

theorem zero_empty (w : World) : (zeroValue 125).run Tryz.prog w = .ok (.agg #[]) w := by kernel_rfl
theorem infoEmpty : (Tryz.prog.info? 125).map (·.size) = some 0 := by kernel_rfl
abbrev knowC (gp n gB VN FB MB : Nat) : Array Value := #[.slice (some ⟨gp, 0, none⟩) n n, .slice (some ⟨gB, 0, none⟩) n n, .slice (some ⟨FB, 0, none⟩) VN VN, .map (some MB)]
structure KnAt (w : World) (K gp n gB VN FB MB : Nat) (F : Facts) (G : Ways) : Prop where
  box : w.heap[K]? = some (.cells (knowC gp n gB VN FB MB) 103 (0, 0))
  facts : w.heap[FB]? = some (.cells (gC (fun v => factC (F v)) VN).toArray 65 (0, 0))
  ways : ∃ D, WMapAt w MB G.length D ∧ WaysMap G D
theorem KnAt.below {w w' : World} {K gp n gB VN FB MB : Nat} {F : Facts} {G : Ways} (h : KnAt w K gp n gB VN FB MB F G) (hb : Below w.heap.size w w') : KnAt w' K gp n gB VN FB MB F G := by
  obtain ⟨D, ⟨es, cl, hh, r⟩, hD⟩ := h.ways
  exact ⟨(hb.block _ (lt_of_block h.box)).trans h.box, (hb.block _ (lt_of_block h.facts)).trans h.facts, D, ⟨es, cl, (hb.block _ (lt_of_block hh)).trans hh, r⟩, hD⟩
theorem KnAt.fact {w : World} {K gp n gB VN FB MB : Nat} {F : Facts} {G : Ways} (h : KnAt w K gp n gB VN FB MB F G) {v : Nat} (hv : v < VN) : w.rangeAt FB (v * 2) [.int .i64 (F v).kind, .int .i64 (F v).num] := by
  intro j u hu
  have hj : j < 2 := (List.getElem?_eq_some_iff.1 hu).1
  rw [cell_of_row _ _ _ _ _ _ h.facts, List.getElem?_toArray, gC_get (s := 2) (C := fun v => factC (F v)) (fun i _ => factC_len _) v j hv hj]
  exact hu
set_option maxRecDepth 100000 in
theorem isGone_any {K gp n gB VN FB MB : Nat} {F : Facts} {G : Ways} (w : World) (h : KnAt w K gp n gB VN FB MB F G) (a b : Int) (ha : FitW a) (hb : FitW b) :
    Calls Tryz.prog 55 #[.pointer (some ⟨K, 0, none⟩), .int .i64 a, .int .i64 b] w fun e w' => e = .returned (.bool (decide ((a, b) ∈ G))) ∧ Below w.heap.size w w' := by
  obtain ⟨D, hM, hD⟩ := h.ways
  have k3 : w.cell? ⟨K, 3, none⟩ = some (.map (some MB)) := by rw [cell_of_row _ _ _ _ _ _ h.box]; rfl
  have HB : Hid (Below w.heap.size w (w.alloc (.cells #[] 125))) := (Below.refl _ _).alloc (Nat.le_refl _) _
  have HH : Hid (Maps.has D (wayL a b) = decide ((a, b) ∈ G)) := hD.has a b ha hb
  have hkey := keyOf_way ha hb
  clear h hD ha hb
  go_enter Tryz.func55, Tryz.ntmps55
  go_wp2_with (first
    | (at_lookup; refine wpList_lookup_own_ok _ rfl _ _ 101 rfl 124 125 lawWay Tryz.underlying101 emptyR (zero_empty _) _ [] emptyR_ok MB G.length D rfl hM _ _ rfl hkey ?_; intro v ps hv; obtain rfl := emptyR_inv hv)
    | (refine wpList_store_row rfl _ _ _ rfl _ #[] rfl rfl _ _ (heap_alloc_last w _) infoEmpty rfl rfl ?_))
  go_ret
  exact ⟨by rw [HH.out]; rfl, HB.out⟩
end Go.Proofs.YtldbmdgpdolaaaaGreatDoor
namespace Go.Proofs.YtldbmdgpdolaaaaGreatDoor
open Go Go.RowKit

set_option maxRecDepth 100000 in
theorem metC_any {K gp n gB VN FB MB : Nat} {F : Facts} {G : Ways} {B1 B2 : Nat} (w : World) (h : KnAt w K gp n gB VN FB MB F G) (h1 : w.cell? ⟨B1, 0, none⟩ = some (.pointer (some ⟨K, 0, none⟩))) (b z : Int) (h2 : w.cell? ⟨B2, 0, none⟩ = some (.int .i64 b)) (hb : FitW b) (hz : FitW z) :
    Calls Tryz.prog 54 #[.int .i64 z, .pointer (some ⟨B1, 0, none⟩), .pointer (some ⟨B2, 0, none⟩)] w fun e w' => e = .returned (.bool (decide ((z, b) ∈ G))) ∧ Below w.heap.size w w' := by
  have hg := isGone_any w h z b hz hb
  clear h hb hz
  go_enter Tryz.func54, Tryz.ntmps54
  go_wp2_with (go_at_call 55; refine hg.mono ?_; rintro e w2 ⟨rfl, hb2⟩)
  go_ret
  exact ⟨rfl, hb2⟩
set_option maxRecDepth 100000 in
theorem indexM_any {K gp n gB VN FB MB : Nat} {F : Facts} {G : Ways} {B1 B2 : Nat} (w : World) (h : KnAt w K gp n gB VN FB MB F G) (h1 : w.cell? ⟨B1, 0, none⟩ = some (.pointer (some ⟨K, 0, none⟩))) (b : Int) (h2 : w.cell? ⟨B2, 0, none⟩ = some (.int .i64 b)) (hb : FitW b) (v : Value) (l : List Int) (hl : IntsVal w v l) (hf : ∀ z ∈ l, FitW z) (hn : l.length ≤ 1000) :
    Calls Tryz.prog 89 #[v, .func (.func 54) #[] #[.pointer (some ⟨B1, 0, none⟩), .pointer (some ⟨B2, 0, none⟩)]] w fun e w' => ∃ z, e = .returned (.int .i64 z) ∧ (0 ≤ z ↔ ∃ x ∈ l, (x, b) ∈ G) ∧ Below w.heap.size w w' := by
  obtain ⟨ao, bb, off, m, cap, rfl, hlm, ha, hc, hcp, hmx⟩ := ints_get hl
  have HA : Hid (0 < m → ao = some ⟨bb, off, none⟩) := ha
  have HC : Hid (∀ W, Below w.heap.size w W → ∀ k, k < m → W.cell? ⟨bb, off + k, none⟩ = some (.int .i64 (l.getD k 0))) := fun W hW k hk => keeps_below hW _ _ (hc k hk)
  have HLM : Hid (l.length = m) := hlm
  have HF : Hid (∀ k, k < m → FitW (l.getD k 0)) := fun k hk => hf _ (by rw [List.getD, List.getElem?_eq_getElem (by omega)]; exact List.getElem_mem _)
  have HMC : Hid (∀ W, Below w.heap.size w W → ∀ z, FitW z → Calls Tryz.prog 54 #[.int .i64 z, .pointer (some ⟨B1, 0, none⟩), .pointer (some ⟨B2, 0, none⟩)] W fun e w' => e = .returned (.bool (decide ((z, b) ∈ G))) ∧ Below W.heap.size W w') := fun W hW z hz => metC_any W (h.below hW) (keeps_below hW _ _ h1) b z (keeps_below hW _ _ h2) hb hz
  have hm1 : m ≤ 1000 := by omega
  clear h h1 h2 hb hl hf hn hlm ha hc
  go_enter Tryz.func89, Tryz.ntmps89
  go_wp2
  go_loopw [5, 8] (fun _ i wr => ∃ q : Nat, q ≤ m ∧ i = .int .i64 q ∧ (∀ k, k < q → (l.getD k 0, b) ∉ G) ∧ Below w.heap.size w wr) (fun _ i _ => m - (intOf i).toNat)
  case atStart => exact ⟨0, Nat.zero_le _, rfl, fun k hk => by omega, Below.refl _ _⟩
  case round =>
    obtain ⟨q, hq, rfl, hno, hwr⟩ := hrel
    have HW : Hid (Below w.heap.size w wr) := hwr
    have HNO : Hid (∀ k, k < q → (l.getD k 0, b) ∉ G) := hno
    clear hwr hno
    by_cases hlt : q < m
    · have hqI : (q : Int) < m := by omega
      obtain rfl := HA.out (by omega)
      have hcl := HC.out wr HW.out q hlt
      have hB := HMC.out wr HW.out _ (HF.out q hlt)
      by_cases he : (l.getD q 0, b) ∈ G
      · have HE : Hid ((l.getD q 0, b) ∈ G) := he
        rw [decide_eq_true he] at hB
        have HQ : Hid (q < m) := hlt
        clear he
        generalize l.getD q 0 = z at hB hcl
        go_wp2_with (go_at_call 54; refine hB.mono ?_; rintro e w2 ⟨rfl, hb2⟩)
        go_ret
        refine ⟨_, rfl, ⟨fun _ => ?_, fun _ => by omega⟩, HW.out.trans (hb2.mono HW.out.size)⟩
        exact ⟨l.getD q 0, by rw [List.getD, List.getElem?_eq_getElem (by have := HLM.out; have := HQ.out; omega)]; exact List.getElem_mem _, HE.out⟩
      · have HNN : Hid (∀ k, k < q + 1 → (l.getD k 0, b) ∉ G) := fun k hk => by
          by_cases e : k = q
          · rw [e]; exact he
          · exact HNO.out k (by omega)
        rw [decide_eq_false he] at hB
        clear he
        generalize l.getD q 0 = z at hB hcl
        go_wp2_with (go_at_call 54; refine hB.mono ?_; rintro e w2 ⟨rfl, hb2⟩)
        go_roundw
        case rel => exact ⟨q + 1, by omega, by go_num, HNN.out, HW.out.trans (hb2.mono HW.out.size)⟩
        case measure => simp [intOf]; omega
    · obtain rfl : q = m := by omega
      go_wp2
      go_ret
      refine ⟨_, rfl, ⟨fun h => by omega, fun ⟨x, hx, hg⟩ => ?_⟩, HW.out⟩
      obtain ⟨k, hk, rfl⟩ := List.getElem_of_mem hx
      have := HNO.out k (by have := HLM.out; omega)
      rw [List.getD, List.getElem?_eq_getElem hk] at this
      exact absurd hg this
set_option maxRecDepth 100000 in
theorem containsM_any {K gp n gB VN FB MB : Nat} {F : Facts} {G : Ways} {B1 B2 : Nat} (w : World) (h : KnAt w K gp n gB VN FB MB F G) (h1 : w.cell? ⟨B1, 0, none⟩ = some (.pointer (some ⟨K, 0, none⟩))) (b : Int) (h2 : w.cell? ⟨B2, 0, none⟩ = some (.int .i64 b)) (hb : FitW b) (v : Value) (l : List Int) (hl : IntsVal w v l) (hf : ∀ z ∈ l, FitW z) (hn : l.length ≤ 1000) (B : Bool) (hB : B = true ↔ ∃ x ∈ l, (x, b) ∈ G) :
    Calls Tryz.prog 53 #[v, .func (.func 54) #[] #[.pointer (some ⟨B1, 0, none⟩), .pointer (some ⟨B2, 0, none⟩)]] w fun e w' => e = .returned (.bool B) ∧ Below w.heap.size w w' := by
  have HI : Hid (Calls Tryz.prog 89 #[v, .func (.func 54) #[] #[.pointer (some ⟨B1, 0, none⟩), .pointer (some ⟨B2, 0, none⟩)]] w _) := indexM_any w h h1 b h2 hb v l hl hf hn
  have HBB : Hid (B = true ↔ ∃ x ∈ l, (x, b) ∈ G) := hB
  obtain ⟨ao, c, rfl⟩ := hl.shape
  clear h h1 h2 hb hl hf hn hB
  go_enter Tryz.func53, Tryz.ntmps53
  go_wp2_with (go_at_call 89; refine HI.out.mono ?_; rintro e w2 ⟨z, rfl, hz, hb2⟩; have hz0 : decide (0 ≤ z) = B := (by rw [Bool.eq_iff_iff, decide_eq_true_eq, hz, HBB.out]); clear hz)
  go_ret
  exact ⟨rfl, hb2⟩
def metB (G : Ways) (l : List Int) (b : Int) : Bool := l.any fun z => decide ((z, b) ∈ G)
theorem metB_iff {G : Ways} {l : List Int} {b : Int} : metB G l b = true ↔ ∃ x ∈ l, (x, b) ∈ G := by simp [metB]
set_option maxRecDepth 100000 in
theorem met_any {K gp n gB VN FB MB : Nat} {F : Facts} {G : Ways} (w : World) (h : KnAt w K gp n gB VN FB MB F G) (b : Nat) (hbn : b < n) (hn : n ≤ 1000) (v : Value) (l : List Int) (hc : w.cell? ⟨gB, b * 4 + 3, none⟩ = some v) (hl : IntsVal w v l) (hf : ∀ z ∈ l, FitW z) (hll : l.length ≤ 1000) :
    Calls Tryz.prog 31 #[.pointer (some ⟨K, 0, none⟩), .int .i64 b] w fun e w' => e = .returned (.bool (metB G l b)) ∧ Below w.heap.size w w' := by
  have HB0 : Hid (Below w.heap.size w ((w.alloc (.cells #[.pointer (some ⟨K, 0, none⟩)] 98)).alloc (.cells #[.int .i64 b] 3))) := ((Below.refl _ _).alloc (Nat.le_refl _) _).alloc (by simp) _
  have r2 : ((w.alloc (.cells #[.pointer (some ⟨K, 0, none⟩)] 98)).alloc (.cells #[.int .i64 b] 3)).heap[w.heap.size]? = some (.cells #[.pointer (some ⟨K, 0, none⟩)] 98 (0, 0)) := heap_alloc2_old _ _ _
  have r3 : ((w.alloc (.cells #[.pointer (some ⟨K, 0, none⟩)] 98)).alloc (.cells #[.int .i64 b] 3)).heap[w.heap.size + 1]? = some (.cells #[.int .i64 b] 3 (0, 0)) := heap_alloc2_new _ _ _
  obtain ⟨ao, cap, rfl⟩ := hl.shape
  have hfb : FitW (b : Int) := ⟨by omega, by omega⟩
  have hbI : (b : Int) < (n : Int) := by omega
  have hmf : ∀ (fn : Go.Fn) (first cap : Array Value) (w : World), (Instr.makeFunc fn first cap).run Tryz.prog w = .ok (.func fn first cap) w := fun _ _ _ _ => rfl
  have HK : Hid (KnAt ((w.alloc (.cells #[.pointer (some ⟨K, 0, none⟩)] 98)).alloc (.cells #[.int .i64 b] 3)) K gp n gB VN FB MB F G) := h.below HB0.out
  have HLI : Hid (IntsVal ((w.alloc (.cells #[.pointer (some ⟨K, 0, none⟩)] 98)).alloc (.cells #[.int .i64 b] 3)) (.slice ao l.length cap) l) := hl.keeps (keeps_below HB0.out)
  have cb := keeps_below HB0.out _ _ hc
  have HF : Hid ((∀ z ∈ l, FitW z) ∧ l.length ≤ 1000) := ⟨hf, hll⟩
  clear h hl hf hll hc
  go_enter Tryz.func31, Tryz.ntmps31
  go_upto_region 1 with fail
  generalize ((w.alloc (.cells #[.pointer (some ⟨K, 0, none⟩)] 98)).alloc (.cells #[.int .i64 b] 3)) = V at *
  have k1 : V.cell? ⟨K, 1, none⟩ = some (.slice (some ⟨gB, 0, none⟩) n n) := by rw [cell_of_row _ _ _ _ _ _ HK.out.box]; rfl
  have b1 : V.cell? ⟨w.heap.size, 0, none⟩ = some (.pointer (some ⟨K, 0, none⟩)) := by rw [cell_of_row _ _ _ _ _ _ r2]; rfl
  have b2 : V.cell? ⟨w.heap.size + 1, 0, none⟩ = some (.int .i64 b) := by rw [cell_of_row _ _ _ _ _ _ r3]; rfl
  have HCN : Hid (∀ W, Below V.heap.size V W → Calls Tryz.prog 53 #[.slice ao l.length cap, .func (.func 54) #[] #[.pointer (some ⟨w.heap.size, 0, none⟩), .pointer (some ⟨w.heap.size + 1, 0, none⟩)]] W fun e w' => e = .returned (.bool (metB G l b)) ∧ Below W.heap.size W w') := fun W hW => containsM_any W (HK.out.below hW) (keeps_below hW _ _ b1) b (keeps_below hW _ _ b2) hfb _ l (HLI.out.keeps (keeps_below hW)) HF.out.1 HF.out.2 _ metB_iff
  generalize l.length = ll at HCN cb
  obtain ⟨BB, hBB⟩ : ∃ BB, BB = metB G l b := ⟨_, rfl⟩
  have HBB : Hid (BB = metB G l b) := hBB
  rw [← hBB] at HCN
  clear hBB
  refine wp_region_held_drew (S := fun W => Below V.heap.size V W) (by kernel_rfl) ((Below.refl _ _).drew) (fun hHeld => ?_)
  show wpAnyH _ _ _ _ _ 11 _ _ _
  refine wpAnyH_take (i := 0) (v := ?_) rfl (by kernel_rfl) (by kernel_rfl) (by kernel_rfl) (fun _ _ _ h => h) (Or.inl ⟨by rfl, ?_⟩) (by assumption) ?_
  rotate_left
  · (intro W hSW; have z0 := keeps_below hSW _ _ b1; go_simp; try (with_reducible rfl))
  (try simp only [zB])
  (try simp only [zA])
  refine wpAnyH_take (i := 1) (v := ?_) rfl (by kernel_rfl) (by kernel_rfl) (by kernel_rfl) (fun _ _ _ h => h) (Or.inl ⟨by rfl, ?_⟩) (by assumption) ?_
  rotate_left
  · (intro W hSW; go_simp; try (with_reducible rfl))
  (try simp only [zB])
  (try simp only [zA])
  refine wpAnyH_take (i := 2) (v := ?_) rfl (by kernel_rfl) (by kernel_rfl) (by kernel_rfl) (fun _ _ _ h => h) (Or.inl ⟨by rfl, ?_⟩) (by assumption) ?_
  rotate_left
  · (intro W hSW; go_simp; try (with_reducible rfl))
  (try simp only [zB])
  (try simp only [zA])
  refine wpAnyH_take (i := 3) (v := ?_) rfl (by kernel_rfl) (by kernel_rfl) (by kernel_rfl) (fun _ _ _ h => h) (Or.inl ⟨by rfl, ?_⟩) (by assumption) ?_
  rotate_left
  · (intro W hSW; have z0 := keeps_below hSW _ _ k1; go_simp; try (with_reducible rfl))
  (try simp only [zB])
  (try simp only [zA])
  refine wpAnyH_take (i := 4) (v := ?_) rfl (by kernel_rfl) (by kernel_rfl) (by kernel_rfl) (fun _ _ _ h => h) (Or.inl ⟨by rfl, ?_⟩) (by assumption) ?_
  rotate_left
  · (intro W hSW; have z0 := keeps_below hSW _ _ b2; go_simp; try (with_reducible rfl))
  (try simp only [zB])
  (try simp only [zA])
  refine wpAnyH_take (i := 5) (v := ?_) rfl (by kernel_rfl) (by kernel_rfl) (by kernel_rfl) (fun _ _ _ h => h) (Or.inl ⟨by rfl, ?_⟩) (by assumption) ?_
  rotate_left
  · (intro W hSW; go_simp; try (with_reducible rfl))
  (try simp only [zB])
  (try simp only [zA])
  refine wpAnyH_take (i := 6) (v := ?_) rfl (by kernel_rfl) (by kernel_rfl) (by kernel_rfl) (fun _ _ _ h => h) (Or.inl ⟨by rfl, ?_⟩) (by assumption) ?_
  rotate_left
  · (intro W hSW; go_simp; try (with_reducible rfl))
  (try simp only [zB])
  (try simp only [zA])
  refine wpAnyH_take (i := 7) (v := ?_) rfl (by kernel_rfl) (by kernel_rfl) (by kernel_rfl) (fun _ _ _ h => h) (Or.inl ⟨by rfl, ?_⟩) (by assumption) ?_
  rotate_left
  · (intro W hSW; have z0 := keeps_below hSW _ _ cb; go_simp; try (with_reducible rfl))
  (try simp only [zB])
  (try simp only [zA])
  refine wpAnyH_take (i := 8) (v := ?_) rfl (by kernel_rfl) (by kernel_rfl) (by kernel_rfl) (fun _ _ _ h => h) (Or.inl ⟨by rfl, ?_⟩) (by assumption) ?_
  rotate_left
  · (intro W hSW; go_simp; try (with_reducible rfl))
  (try simp only [zB])
  (try simp only [zA])
  refine wpAnyH_ready (rs := [9]) (by kernel_rfl) (by simp) ?_
  refine AllReadyH.cons rfl (fun K hK => ?_) AllReadyH.nil
  go_simp
  go_at_call 53
  refine (HCN.out _ hHeld).mono ?_
  rintro e w5 ⟨rfl, hbc⟩
  have HBw5 : Below V.heap.size V w5 := Below.trans hHeld (Below.mono hbc (Below.size hHeld))
  dsimp only
  refine hK.out _ _ HBw5 (fun _ => ?_)
  clear hK K hbc hHeld
  have hHeld := HBw5
  (try simp only [zA])
  refine wpAnyH_take (i := 10) (v := ?_) rfl (by kernel_rfl) (by kernel_rfl) (by kernel_rfl) (fun _ _ _ h => h) (Or.inl ⟨by rfl, ?_⟩) (by assumption) ?_
  rotate_left
  · (intro W hSW; go_simp; try (with_reducible rfl))
  (try simp only [zB])
  (try simp only [zA])
  refine wpAnyH_done (by kernel_rfl) ?_ _
  go_wp2
  go_ret
  exact ⟨by rw [← HBB.out]; rfl, HB0.out.trans (hHeld.mono HB0.out.size)⟩
end Go.Proofs.YtldbmdgpdolaaaaGreatDoor
namespace Go.Proofs.YtldbmdgpdolaaaaGreatDoor
open Go Go.RowKit

set_option maxRecDepth 100000 in
theorem either_any (a b : FV) (w : World) (hG : KnowG w) :
    Calls Tryz.prog 110 #[.agg #[.int .i64 a.kind, .int .i64 a.num], .agg #[.int .i64 b.kind, .int .i64 b.num]] w fun e w' => e = .returned (.agg #[.int .i64 (eitherF a b).kind, .int .i64 (eitherF a b).num]) ∧ Below w.heap.size w w' := by
  have HB : Hid (Below w.heap.size w (((w.alloc (.cells #[.int .i64 a.kind, .int .i64 a.num] 65)).alloc (.cells #[.int .i64 b.kind, .int .i64 b.num] 65)).alloc (.cells #[.int .i64 0, .int .i64 0] 65))) := (((Below.refl _ _).alloc (Nat.le_refl _) _).alloc (by simp) _).alloc (by simp <;> omega) _
  obtain ⟨hn, hm⟩ := hG.below HB.out
  have r2 : (((w.alloc (.cells #[.int .i64 a.kind, .int .i64 a.num] 65)).alloc (.cells #[.int .i64 b.kind, .int .i64 b.num] 65)).alloc (.cells #[.int .i64 0, .int .i64 0] 65)).heap[w.heap.size]? = some (.cells #[.int .i64 a.kind, .int .i64 a.num] 65 (0, 0)) := heap_alloc_old _ _ (by simp <;> omega) |>.trans (heap_alloc2_old _ _ _)
  have r3 : (((w.alloc (.cells #[.int .i64 a.kind, .int .i64 a.num] 65)).alloc (.cells #[.int .i64 b.kind, .int .i64 b.num] 65)).alloc (.cells #[.int .i64 0, .int .i64 0] 65)).heap[w.heap.size + 1]? = some (.cells #[.int .i64 b.kind, .int .i64 b.num] 65 (0, 0)) := heap_alloc_old _ _ (by simp <;> omega) |>.trans (heap_alloc2_new _ _ _)
  have r4 : (((w.alloc (.cells #[.int .i64 a.kind, .int .i64 a.num] 65)).alloc (.cells #[.int .i64 b.kind, .int .i64 b.num] 65)).alloc (.cells #[.int .i64 0, .int .i64 0] 65)).heap[w.heap.size + 1 + 1]? = some (.cells #[.int .i64 0, .int .i64 0] 65 (0, 0)) := heap_alloc3_newS _ _ _ _
  have hea := fun W => equal_fact a.kind a.num 0 0 W
  have heab := fun W => equal_fact a.kind a.num b.kind b.num W
  have heb := fun W => equal_fact b.kind b.num 0 0 W
  have e1 : ((a.kind == 0) && (a.num == 0)) = decide (a = .never) := fv_eq a .never
  have e2 : ((a.kind == b.kind) && (a.num == b.num)) = decide (a = b) := fv_eq a b
  have e3 : ((b.kind == 0) && (b.num == 0)) = decide (b = .never) := fv_eq b .never
  have HE : Hid (eitherF a b = if a = .never ∨ a = b then b else if b = .never then a else .many) := rfl
  have hl0 : (#[.int .i64 0, .int .i64 0] : Array Value).size = 2 := rfl
  rw [e1] at hea
  rw [e2] at heab
  rw [e3] at heb
  clear e1 e2 e3 hG
  go_enter Tryz.func110, Tryz.ntmps110
  go_upto_region 1 with fail
  generalize (((w.alloc (.cells #[.int .i64 a.kind, .int .i64 a.num] 65)).alloc (.cells #[.int .i64 b.kind, .int .i64 b.num] 65)).alloc (.cells #[.int .i64 0, .int .i64 0] 65)) = V at *
  obtain ⟨ak, hak⟩ : ∃ x, x = a.kind := ⟨_, rfl⟩
  obtain ⟨an, han⟩ : ∃ x, x = a.num := ⟨_, rfl⟩
  obtain ⟨bk, hbk⟩ : ∃ x, x = b.kind := ⟨_, rfl⟩
  obtain ⟨bn, hbn⟩ : ∃ x, x = b.num := ⟨_, rfl⟩
  have HL : Hid (ak = a.kind ∧ an = a.num ∧ bk = b.kind ∧ bn = b.num) := ⟨hak, han, hbk, hbn⟩
  rw [← hak, ← han] at r2 hea heab
  rw [← hbk, ← hbn] at r3 heab heb
  clear hak han hbk hbn
  have hz2 := lt_of_block r2
  by_cases hA : a = .never
  · have hd : decide (a = FV.never) = true := by simpa using hA
    rw [hd] at hea
    have HR : Hid (eitherF a b = b) := by show _ = _; rw [HE.out, if_pos (Or.inl hA)]
    clear hA hd heab heb
    go_wp2_with (first | (refine wpList_load_row rfl 65 (.tmp 2) rfl _ rfl _ _ _ _ r2 Tryz.underlying65 rfl infoFact ?_) | (refine wpList_load_row rfl 65 (.tmp 3) rfl _ rfl _ _ _ _ r3 Tryz.underlying65 rfl infoFact ?_) | (refine wpList_load_mid rfl 65 (.global 1) rfl 1 0 rfl _ _ hn Tryz.underlying65 rfl infoFact ?_) | (refine wpList_load_mid rfl 65 (.global 0) rfl 0 0 rfl _ _ hm Tryz.underlying65 rfl infoFact ?_) | (refine wpList_store_row rfl _ _ _ rfl _ #[.int .i64 bk, .int .i64 bn] rfl rfl _ _ r4 infoFact rfl (by simp [Value.oneCell']) ?_))
    (try simp only [Exit.inBlock, Exit.then])
    exact bodyPost_ret (results_cell_row rfl _ _ (w.heap.size + 1 + 1) 65 #[.int .i64 bk, .int .i64 bn] (0, 0) _ rfl (setRow_heap _ _ _ _ _ _ r4) Tryz.underlying65 rfl infoFact) rfl ⟨by rw [HR.out, HL.out.2.2.1, HL.out.2.2.2], belowSK HB.out (by omega) _⟩
  have hd : decide (a = FV.never) = false := by simpa using hA
  rw [hd] at hea
  by_cases hAB : a = b
  · have hd2 : decide (a = b) = true := by simpa using hAB
    rw [hd2] at heab
    have HR : Hid (eitherF a b = b) := by show _ = _; rw [HE.out, if_pos (Or.inr hAB)]
    clear hA hd hd2 hAB heb
    go_wp2_with (first | (refine wpList_load_row rfl 65 (.tmp 2) rfl _ rfl _ _ _ _ r2 Tryz.underlying65 rfl infoFact ?_) | (refine wpList_load_row rfl 65 (.tmp 3) rfl _ rfl _ _ _ _ r3 Tryz.underlying65 rfl infoFact ?_) | (refine wpList_load_mid rfl 65 (.global 1) rfl 1 0 rfl _ _ hn Tryz.underlying65 rfl infoFact ?_) | (refine wpList_load_mid rfl 65 (.global 0) rfl 0 0 rfl _ _ hm Tryz.underlying65 rfl infoFact ?_) | (refine wpList_store_row rfl _ _ _ rfl _ #[.int .i64 bk, .int .i64 bn] rfl rfl _ _ r4 infoFact rfl (by simp [Value.oneCell']) ?_))
    (try simp only [Exit.inBlock, Exit.then])
    exact bodyPost_ret (results_cell_row rfl _ _ (w.heap.size + 1 + 1) 65 #[.int .i64 bk, .int .i64 bn] (0, 0) _ rfl (setRow_heap _ _ _ _ _ _ r4) Tryz.underlying65 rfl infoFact) rfl ⟨by rw [HR.out, HL.out.2.2.1, HL.out.2.2.2], belowSK HB.out (by omega) _⟩
  have hd2 : decide (a = b) = false := by simpa using hAB
  rw [hd2] at heab
  by_cases hB : b = .never
  · have hd3 : decide (b = FV.never) = true := by simpa using hB
    rw [hd3] at heb
    have HR : Hid (eitherF a b = a) := by show _ = _; rw [HE.out, if_neg (fun h => h.elim hA hAB), if_pos hB]
    clear hA hd hd2 hAB hB hd3
    go_wp2_with (first | (refine wpList_load_row rfl 65 (.tmp 2) rfl _ rfl _ _ _ _ r2 Tryz.underlying65 rfl infoFact ?_) | (refine wpList_load_row rfl 65 (.tmp 3) rfl _ rfl _ _ _ _ r3 Tryz.underlying65 rfl infoFact ?_) | (refine wpList_load_mid rfl 65 (.global 1) rfl 1 0 rfl _ _ hn Tryz.underlying65 rfl infoFact ?_) | (refine wpList_load_mid rfl 65 (.global 0) rfl 0 0 rfl _ _ hm Tryz.underlying65 rfl infoFact ?_) | (refine wpList_store_row rfl _ _ _ rfl _ #[.int .i64 ak, .int .i64 an] rfl rfl _ _ r4 infoFact rfl (by simp [Value.oneCell']) ?_))
    (try simp only [Exit.inBlock, Exit.then])
    exact bodyPost_ret (results_cell_row rfl _ _ (w.heap.size + 1 + 1) 65 #[.int .i64 ak, .int .i64 an] (0, 0) _ rfl (setRow_heap _ _ _ _ _ _ r4) Tryz.underlying65 rfl infoFact) rfl ⟨by rw [HR.out, HL.out.1, HL.out.2.1], belowSK HB.out (by omega) _⟩
  · have hd3 : decide (b = FV.never) = false := by simpa using hB
    rw [hd3] at heb
    have HR : Hid (eitherF a b = .many) := by show _ = _; rw [HE.out, if_neg (fun h => h.elim hA hAB), if_neg hB]
    clear hA hd hd2 hAB hB hd3
    go_wp2_with (first | (refine wpList_load_row rfl 65 (.tmp 2) rfl _ rfl _ _ _ _ r2 Tryz.underlying65 rfl infoFact ?_) | (refine wpList_load_row rfl 65 (.tmp 3) rfl _ rfl _ _ _ _ r3 Tryz.underlying65 rfl infoFact ?_) | (refine wpList_load_mid rfl 65 (.global 1) rfl 1 0 rfl _ _ hn Tryz.underlying65 rfl infoFact ?_) | (refine wpList_load_mid rfl 65 (.global 0) rfl 0 0 rfl _ _ hm Tryz.underlying65 rfl infoFact ?_) | (refine wpList_store_row rfl _ _ _ rfl _ #[.int .i64 2, .int .i64 0] rfl rfl _ _ r4 infoFact rfl (by simp [Value.oneCell']) ?_))
    (try simp only [Exit.inBlock, Exit.then])
    exact bodyPost_ret (results_cell_row rfl _ _ (w.heap.size + 1 + 1) 65 #[.int .i64 2, .int .i64 0] (0, 0) _ rfl (setRow_heap _ _ _ _ _ _ r4) Tryz.underlying65 rfl infoFact) rfl ⟨by rw [HR.out]; rfl, belowSK HB.out (by omega) _⟩
end Go.Proofs.YtldbmdgpdolaaaaGreatDoor
