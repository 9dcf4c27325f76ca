import Derived.DeepKeys4
import Derived.Test.YtldbmdgpdolaaaaGreatDoorPGroupP
import Derived.Test.YtldbmdgpdolaaaaGreatDoorPXKnowMath
namespace Go.Proofs.YtldbmdgpdolaaaaGreatDoor
open Go Go.RowKit

theorem laidOutW : laidOutB Tryz.prog = true := by kernel_rfl
theorem rowWay : (124 : TypeId) < Tryz.prog.types.size := of_decide_eq_true (by kernel_rfl)
theorem wideWay : (match Tryz.prog.underlying 124 with | some (.array _ _) | some (.struct _) => true | _ => false) = true := by kernel_rfl
set_option maxRecDepth 100000 in
theorem lawWay : Maps.Keyed Tryz.prog 124 := Maps.Keyed.of_law (deep_law_laid laidOutW (m := 2) (by omega) rowWay (by kernel_rfl) wideWay)
def wayL (a b : Int) : Lit := .string (keyBytes [.int .i64 a, .int .i64 b])
theorem fields_way : (Tryz.prog.fieldsOf 124).toList.map (fun f => (f.type, f.offset, f.name == "_")) = [(3, 0, false), (3, 1, false)] := by kernel_rfl
theorem under_way : Tryz.prog.underlying 124 = some (.struct (Tryz.prog.fieldsOf 124)) := by kernel_rfl
theorem cells_way : Tryz.prog.cellsOf 124 = 2 := by kernel_rfl
theorem cells_intW : Tryz.prog.cellsOf 3 = 1 := by kernel_rfl
theorem keyTy_way : Tryz.prog.keyType 124 = true := by kernel_rfl
theorem size_types : ∃ d, Tryz.prog.types.size = d + 1 := Nat.exists_eq_succ_of_ne_zero (fun h => by have h1 := rowWay; rw [h] at h1; exact absurd h1 (Nat.not_lt_zero _))
def FitW (a : Int) : Prop := -1 ≤ a ∧ a ≤ 2000
theorem FitW.wf {z : Int} (h : FitW z) : (Lit.int .i64 z).wf = true := WalkArith.wf_i64 (by unfold FitW at h; omega)
theorem keyOf_way {a b : Int} (ha : FitW a) (hb : FitW b) : keyOf Tryz.prog 124 (.agg #[.int .i64 a, .int .i64 b]) = some (wayL a b) := by
  obtain ⟨d, hd⟩ := size_types
  have hi : ∀ z : Int, FitW z → Tryz.prog.keyLits (d + 1) 3 [.int .i64 z] = some [.int .i64 z] := fun z hz => by
    have hw := hz.wf
    simp [Program.keyLits, Tryz.underlying3, hw]
  have hf := fields_way
  have hform : (Value.agg #[.int .i64 a, .int .i64 b]).formed Tryz.prog 124 = true := by simp [Value.formed, cells_way]
  unfold keyOf
  rw [under_way]
  simp only [keyTy_way, hform, Bool.and_self, if_true, hd]
  have hk : Tryz.prog.keyLits (d + 1 + 1) 124 [.int .i64 a, .int .i64 b] = some [.int .i64 a, .int .i64 b] := by
    unfold Program.keyLits
    rw [under_way]
    dsimp only
    generalize hfs : (Tryz.prog.fieldsOf 124) = fs at hf
    have hall : fs.all (·.name != "_") = true := by
      rw [← hfs]; kernel_rfl
    rw [if_pos ⟨by rw [cells_way]; rfl, hall⟩]
    generalize fs.toList = l at hf
    rcases l with _ | ⟨f0, _ | ⟨f1, _ | ⟨f2, fs⟩⟩⟩ <;> simp at hf
    obtain ⟨⟨t0, o0, n0⟩, t1, o1, n1⟩ := hf
    simp [t0, o0, t1, o1, cells_intW, hi a ha, hi b hb]
  show Option.map _ (Tryz.prog.keyLits (d + 1 + 1) 124 (Value.cells (.agg #[.int .i64 a, .int .i64 b])).toList) = _
  rw [show (Value.cells (.agg #[.int .i64 a, .int .i64 b])).toList = [.int .i64 a, .int .i64 b] from rfl, hk]
  rfl
theorem wayL_inj {a b a' b' : Int} (ha : FitW a) (hb : FitW b) (ha' : FitW a') (hb' : FitW b') (h : wayL a b = wayL a' b') : a = a' ∧ b = b' := by
  have := lawWay.inj (keyOf_way ha hb) (by rw [h]; exact keyOf_way ha' hb')
  simpa using this
theorem wayL_key (a b : Int) : WideAt.IsKeyLit (wayL a b) := trivial
def emptyR : Value → Option (Dat × List MemPlace)
  | .agg cs => if cs.size = 0 then some (.agg [], []) else none
  | _ => none
theorem emptyR_ok : emptyR (.agg #[]) = some (.agg [], []) := rfl
theorem emptyR_inv {v : Value} {x : Dat × List MemPlace} (h : emptyR v = some x) : v = .agg #[] := by
  cases v with
  | agg cs =>
    by_cases h1 : cs.size = 0
    · rw [Array.eq_empty_of_size_eq_zero h1]
    · have h2 : (if cs.size = 0 then some ((DataW.agg [] : Dat), ([] : List MemPlace)) else none) = some x := h
      rw [if_neg h1] at h2; cases h2
  | _ => cases h
abbrev WMapAt (w : World) (B m : Nat) (D : Dat) : Prop := w.ownsMap Tryz.prog 124 emptyR B m D
structure WaysMap (G : List (Int × Int)) (D : Dat) : Prop where
  has : ∀ a b : Int, FitW a → FitW b → Maps.has D (wayL a b) = decide ((a, b) ∈ G)
  size : Maps.size D = G.length
theorem WaysMap.nil : WaysMap [] (.map [] : Dat) := ⟨fun a b _ _ => by simp [Maps.has], rfl⟩
def addW (G : List (Int × Int)) (x : Int × Int) : List (Int × Int) := if x ∈ G then G else G ++ [x]
theorem WaysMap.add {G : List (Int × Int)} {D : Dat} (h : WaysMap G D) (hT : Maps.Tidy D) {a b : Int} (ha : FitW a) (hb : FitW b) (d : Dat) : WaysMap (addW G (a, b)) (D.put (wayL a b) d) := by
  refine ⟨fun x y hx hy => ?_, ?_⟩
  · by_cases e : x = a ∧ y = b
    · obtain ⟨rfl, rfl⟩ := e
      rw [Maps.has_put_same hT.isMap (wayL_key _ _)]
      unfold addW
      split
      · rename_i hm; simp [hm]
      · simp
    · have hne : (wayL x y) ≠ (wayL a b) := fun h2 => e (wayL_inj hx hy ha hb h2)
      rw [Maps.has_put_other hne, h.has x y hx hy]
      unfold addW
      split
      · rfl
      · rw [decide_eq_decide, List.mem_append, List.mem_singleton, Prod.mk.injEq]
        exact ⟨Or.inl, fun h2 => h2.resolve_right e⟩
  · rw [Maps.size_put hT, h.has a b ha hb, h.size]
    unfold addW
    by_cases hm : (a, b) ∈ G <;> simp [hm]
end Go.Proofs.YtldbmdgpdolaaaaGreatDoor
