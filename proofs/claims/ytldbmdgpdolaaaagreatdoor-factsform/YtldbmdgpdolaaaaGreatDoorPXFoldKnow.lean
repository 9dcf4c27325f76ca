import Derived.Test.YtldbmdgpdolaaaaGreatDoorPXFoldKit
import Derived.Test.YtldbmdgpdolaaaaGreatDoorPXFoldWays
import Derived.Test.YtldbmdgpdolaaaaGreatDoorPXSsaAtS
namespace Go.Proofs.YtldbmdgpdolaaaaGreatDoor
open Go Go.RowKit

theorem zero_empty (w : World) : (zeroValue 125).run Tryz.prog w = .ok (.agg #[]) w := by kernel_rfl
theorem infoEmpty : (Tryz.prog.info? 125).map (·.size) = some 0 := by kernel_rfl
abbrev knowC (gp n gB VN FB MB : Nat) : Array Value := #[.slice (some ⟨gp, 0, none⟩) n n, .slice (some ⟨gB, 0, none⟩) n n, .slice (some ⟨FB, 0, none⟩) VN VN, .map (some MB)]
structure KnAt (w : World) (K gp n gB VN FB MB : Nat) (F : Facts) (G : Ways) : Prop where
  box : w.heap[K]? = some (.cells (knowC gp n gB VN FB MB) 103 (0, 0))
  facts : w.heap[FB]? = some (.cells (gC (fun v => factC (F v)) VN).toArray 65 (0, 0))
  ways : ∃ D, WMapAt w MB G.length D ∧ WaysMap G D
theorem KnAt.below {w w' : World} {K gp n gB VN FB MB : Nat} {F : Facts} {G : Ways} (h : KnAt w K gp n gB VN FB MB F G) (hb : Below w.heap.size w w') : KnAt w' K gp n gB VN FB MB F G := by
  obtain ⟨D, ⟨es, cl, hh, r⟩, hD⟩ := h.ways
  exact ⟨(hb.block _ (lt_of_block h.box)).trans h.box, (hb.block _ (lt_of_block h.facts)).trans h.facts, D, ⟨es, cl, (hb.block _ (lt_of_block hh)).trans hh, r⟩, hD⟩
theorem KnAt.fact {w : World} {K gp n gB VN FB MB : Nat} {F : Facts} {G : Ways} (h : KnAt w K gp n gB VN FB MB F G) {v : Nat} (hv : v < VN) : w.rangeAt FB (v * 2) [.int .i64 (F v).kind, .int .i64 (F v).num] := by
  intro j u hu
  have hj : j < 2 := (List.getElem?_eq_some_iff.1 hu).1
  rw [cell_of_row _ _ _ _ _ _ h.facts, List.getElem?_toArray, gC_get (s := 2) (C := fun v => factC (F v)) (fun i _ => factC_len _) v j hv hj]
  exact hu
set_option maxRecDepth 100000 in
theorem isGone_any {K gp n gB VN FB MB : Nat} {F : Facts} {G : Ways} (w : World) (h : KnAt w K gp n gB VN FB MB F G) (a b : Int) (ha : FitW a) (hb : FitW b) :
    Calls Tryz.prog 55 #[.pointer (some ⟨K, 0, none⟩), .int .i64 a, .int .i64 b] w fun e w' => e = .returned (.bool (decide ((a, b) ∈ G))) ∧ Below w.heap.size w w' := by
  obtain ⟨D, hM, hD⟩ := h.ways
  have k3 : w.cell? ⟨K, 3, none⟩ = some (.map (some MB)) := by rw [cell_of_row _ _ _ _ _ _ h.box]; rfl
  have HB : Hid (Below w.heap.size w (w.alloc (.cells #[] 125))) := (Below.refl _ _).alloc (Nat.le_refl _) _
  have HH : Hid (Maps.has D (wayL a b) = decide ((a, b) ∈ G)) := hD.has a b ha hb
  have hkey := keyOf_way ha hb
  clear h hD ha hb
  go_enter Tryz.func55, Tryz.ntmps55
  go_wp2_with (first
    | (at_lookup; refine wpList_lookup_own_ok _ rfl _ _ 101 rfl 124 125 lawWay Tryz.underlying101 emptyR (zero_empty _) _ [] emptyR_ok MB G.length D rfl hM _ _ rfl hkey ?_; intro v ps hv; obtain rfl := emptyR_inv hv)
    | (refine wpList_store_row rfl _ _ _ rfl _ #[] rfl rfl _ _ (heap_alloc_last w _) infoEmpty rfl rfl ?_))
  go_ret
  exact ⟨by rw [HH.out]; rfl, HB.out⟩
end Go.Proofs.YtldbmdgpdolaaaaGreatDoor
