/- A machine as an argument: opened. -/
import Derived.Test.YteabbanjjdmjkaaDoorXRowSt
import Derived.Test.YteabbanjjdmjkaaDoorGroupX
namespace Go.Proofs.YteabbanjjdmjkaaDoor
open Go Go.ChangeShapes Go.WideShapes Go.ChangeAt Go.RowKit

theorem cIntC : Tryd.prog.cellsOf 3 = 1 := by kernel_rfl
theorem choose_ltC {n : Nat} {Q : Nat → Int → Prop} (h : ∀ i, i < n → ∃ z, Q i z) : ∃ Y : Nat → Int, ∀ i, i < n → Q i (Y i) := by
  classical
  exact ⟨fun i => if hi : i < n then (h i hi).choose else 0, fun i hi => by simp only [dif_pos hi]; exact (h i hi).choose_spec⟩
/-- An array of numbers. -/
theorem open_arrC {H : Type} {enc : TypeId × Value → H} {W : World} {fuel n : Nat} {t : TypeId} {l : List Value} {x : DataW H × List MemPlace} (hu : Tryd.prog.underlying t = some (.array n 3)) (hc : Tryd.prog.cellsOf t = n)
    (h : DataW.trod enc Tryd.prog W 0 (fun _ => true) true fuel t l = some x) : ∃ ms : List Int, ms.length = n ∧ l = i64s ms ∧ ∀ z ∈ ms, I64 z := by
  obtain ⟨xs, m, _, _, hl, hxl, hat⟩ := DataW.trod_array hu h
  rw [hc] at hl
  have each : ∀ i, i < n → ∃ z : Int, l[i]? = some (.int .i64 z) ∧ I64 z := by
    intro i hi
    have k := hat i hi
    rw [cIntC, List.getElem?_eq_getElem (show i < xs.length by omega)] at k
    obtain ⟨z, e, _, hz⟩ := DataW.trod_int Tryd.underlying3 k
    refine ⟨z, ?_, by simpa [I64] using bounds_i64 hz⟩
    have e2 : (l.drop (i * 1)).take 1 = [l[i]'(by omega)] := by rw [Nat.mul_one, List.drop_eq_getElem_cons (by omega)]; rfl
    rw [e2] at e
    rw [List.getElem?_eq_getElem (by omega)]
    simpa using e
  obtain ⟨Y, hY⟩ := choose_ltC each
  refine ⟨(List.range n).map Y, by simp, ?_, fun z hz => ?_⟩
  rotate_left
  · obtain ⟨i, hi, rfl⟩ := List.mem_map.1 hz
    exact (hY i (by simpa using hi)).2
  refine List.ext_getElem? fun i => ?_
  rcases Nat.lt_or_ge i n with hi | hi
  · rw [(hY i hi).1]; simp [i64s, hi]
  · rw [List.getElem?_eq_none (by omega), List.getElem?_eq_none (by simp [i64s]; omega)]

set_option maxRecDepth 100000 in
theorem open_cpu {H : Type} {enc : TypeId × Value → H} {W : World} {base : Nat} {v : Value} {d : DataW H} {ps : List MemPlace}
    (hv : Value.okWide Tryd.prog W .any base 33 v) (h : DataW.Trod enc Tryd.prog W 0 (fun _ => true) true 33 v d ps) :
    ∃ c : Cp, c.Ok ∧ v = c.val ∧ (∀ z ∈ c.regs, I64 z) ∧ (∀ z ∈ c.data, I64 z) ∧ I64 c.pc := by
  obtain ⟨cs, rfl, hs1⟩ := okWide_struct Tryd.underlying33 hv
  have hc1 : Tryd.prog.cellsOf 33 = 98 := by kernel_rfl
  have hc2 : Tryd.prog.cellsOf 30 = 32 := by kernel_rfl
  have hc3 : Tryd.prog.cellsOf 31 = 64 := by kernel_rfl
  have hc4 : Tryd.prog.cellsOf 4 = 1 := by kernel_rfl
  rw [hc1] at hs1
  obtain ⟨l⟩ := cs
  obtain ⟨fuel, hf⟩ := h
  obtain ⟨xs, n, _, hx, hlen, hxl, hfs⟩ := DataW.trod_struct Tryd.underlying33 hf
  obtain ⟨y0, y1, y2, y3, rfl⟩ : ∃ y0 y1 y2 y3, xs = [y0, y1, y2, y3] := by
    match xs, hxl with
    | [y0, y1, y2, y3], _ => exact ⟨y0, y1, y2, y3, rfl⟩
  have g0 : DataW.trod enc Tryd.prog W 0 (fun _ => true) true n 30 ((l.drop 0).take (Tryd.prog.cellsOf 30)) = some y0 := hfs 0 _ rfl
  have g1 : DataW.trod enc Tryd.prog W 0 (fun _ => true) true n 3 ((l.drop 32).take (Tryd.prog.cellsOf 3)) = some y1 := hfs 1 _ rfl
  have g2 : DataW.trod enc Tryd.prog W 0 (fun _ => true) true n 31 ((l.drop 33).take (Tryd.prog.cellsOf 31)) = some y2 := hfs 2 _ rfl
  have g3 : DataW.trod enc Tryd.prog W 0 (fun _ => true) true n 4 ((l.drop 97).take (Tryd.prog.cellsOf 4)) = some y3 := hfs 3 _ rfl
  have hl : l.length = 98 := by simpa using hs1
  clear hfs hx hxl hv hf
  rw [cIntC] at g1
  rw [hc2] at g0
  rw [hc3] at g2
  rw [hc4] at g3
  obtain ⟨rs, hrs, e0, hri⟩ := open_arrC Tryd.underlying30 hc2 g0
  obtain ⟨z1, e1, _, hz1⟩ := DataW.trod_int Tryd.underlying3 g1
  obtain ⟨ds, hds, e2, hdi⟩ := open_arrC Tryd.underlying31 hc3 g2
  obtain ⟨b, e3, -⟩ := DataW.trod_bool Tryd.underlying4 g3
  rw [List.drop_zero] at e0
  have ee : l = i64s rs ++ (.int .i64 z1 :: (i64s ds ++ [.bool b])) := by
    have a0 : l.take 32 ++ l.drop 32 = l := List.take_append_drop 32 l
    have a1 : (l.drop 32).take 1 ++ l.drop 33 = l.drop 32 := by have := List.take_append_drop 1 (l.drop 32); rwa [List.drop_drop] at this
    have a3 : (l.drop 33).take 64 ++ l.drop 97 = l.drop 33 := by have := List.take_append_drop 64 (l.drop 33); rwa [List.drop_drop] at this
    have s3 : (l.drop 97).take 1 = l.drop 97 := by rw [List.take_of_length_le]; rw [List.length_drop]; omega
    rw [s3] at e3
    rw [← a0, e0, ← a1, e1, ← a3, e2, e3]
    rfl
  refine ⟨⟨rs, z1, ds, b⟩, ⟨hrs, hds⟩, ?_, hri, hdi, by simpa [I64] using bounds_i64 hz1⟩
  show Value.agg _ = Value.agg _
  rw [ee]; rfl
end Go.Proofs.YteabbanjjdmjkaaDoor
