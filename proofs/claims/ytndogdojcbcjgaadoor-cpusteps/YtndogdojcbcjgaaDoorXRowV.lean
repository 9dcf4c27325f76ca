/- Rows of this seat: the two tables of package rv lie in memory when the call begins; instructions of the machine as arguments, opened. -/
import Derived.Test.YtndogdojcbcjgaaDoorRows
import Derived.Test.YtndogdojcbcjgaaDoorGroupV
import Derived.Test.YtndogdojcbcjgaaDoorXOpen
import Derived.Test.YtndogdojcbcjgaaDoorGroupB
import Derived.ProofKit
import Derived.LaidMore
import Derived.OpenShut
import Derived.Stop.Joined
import Derived.Stop.LaidErr
import Derived.Lib.LaidU8
namespace Go.Proofs.YtndogdojcbcjgaaDoor
open Go Go.ChangeShapes Go.WideShapes Go.ChangeAt Go.RowKit

theorem own : ownKnob Tryd.prog.godebug = none := by kernel_rfl
theorem laidOut : laidOutB Tryd.prog = true := by kernel_rfl
theorem gPat : Tryd.prog.globalNamed "tierline/rv.patterns" = some 0 := by kernel_rfl
theorem tPat : (Tryd.prog.globals[0]?).map (·.type) = some 176 := by kernel_rfl
theorem gSha : Tryd.prog.globalNamed "tierline/rv.shapes" = some 1 := by kernel_rfl
theorem tSha : (Tryd.prog.globals[1]?).map (·.type) = some 182 := by kernel_rfl
theorem cInt : Tryd.prog.cellsOf 3 = 1 := by kernel_rfl
theorem cPt : Tryd.prog.cellsOf 175 = 2 := by kernel_rfl
theorem cSh : Tryd.prog.cellsOf 181 = 19 := by kernel_rfl
theorem cPc : Tryd.prog.cellsOf 178 = 3 := by kernel_rfl
theorem cPc4 : Tryd.prog.cellsOf 179 = 12 := by kernel_rfl
theorem cRv : Tryd.prog.cellsOf 151 = 5 := by kernel_rfl

abbrev laidV : List (String × DataW Unit) := [("tierline/rv.patterns", Rows.laid_tierline_rv_patterns), ("tierline/rv.shapes", Rows.laid_tierline_rv_shapes)]
/-- The door's own heap meets the condition. -/
theorem door_metV (os : Os) (args : Array Value) : laidMetH Tryd.prog laidV ((World.doorLaid Tryd.prog 400 os).forCall (fun _ _ => 0) ⟨#[], args, []⟩).memory :=
  laidMetH_of_parts3 (fuel := 8) (laidMet_of_run' 8 (by kernel_rfl) (by kernel_rfl)) (by kernel_rfl) (by kernel_rfl)

def ptD (i : Nat) : DataW Unit := .agg ([(shOf i : Int), (setOf i : Int)].map fun z => .lit (.int .i64 z))
def pcD (s j : Nat) : DataW Unit := .agg ([shF s j, shF s (j + 1), shF s (j + 2)].map fun z => .lit (.int .i64 z))
def shD (s : Nat) : DataW Unit := .agg [.lit (.int .i64 (shF s 0)), .lit (.int .i64 (shF s 1)), .lit (.int .i64 (shF s 2)), .lit (.int .i64 (shF s 3)), .lit (.int .i64 (shF s 4)), .lit (.int .i64 (shF s 5)), .agg [pcD s 6, pcD s 9, pcD s 12, pcD s 15], .lit (.int .i64 (shF s 18))]
theorem pats_data : Rows.laid_tierline_rv_patterns = (.agg ((List.range 30).map ptD) : DataW Unit) := by kernel_rfl
theorem shas_data : Rows.laid_tierline_rv_shapes = (.agg ((List.range 8).map shD) : DataW Unit) := by kernel_rfl

theorem cell_part {l : List Value} {o n : Nat} {u : List Value} (h : (l.drop o).take n = u) (j : Nat) (hj : j < n) : l[o + j]? = u[j]? := by
  rw [← h]; simp [List.getElem?_drop, hj]

set_option maxRecDepth 100000 in
theorem pat_cells {W : World} (h : Lib.VarReads Tryd.prog W "tierline/rv.patterns" Rows.laid_tierline_rv_patterns) (i : Nat) (hi : i < 30) : W.cell? ⟨0, i * 2, none⟩ = some (.int .i64 (shOf i)) ∧ W.cell? ⟨0, i * 2 + 1, none⟩ = some (.int .i64 (setOf i)) := by
  rw [pats_data] at h
  obtain ⟨g, t, cs, fuel, p, hg, hty, hvar, hd⟩ := h
  obtain rfl := Option.some.inj (gPat.symm.trans hg)
  obtain rfl := Option.some.inj (tPat.symm.trans hty)
  obtain ⟨fuel', d, q, hds, htr⟩ := Lib.array_elem Tryd.underlying176 hd i hi
  obtain rfl : ptD i = d := by simpa [hi] using hds
  rw [cPt] at htr
  have hc := Lib.ints_of_struct Tryd.underlying175 (fun i f h => by
    match i, h with
    | 0, h => simp at h; subst h; exact ⟨Tryd.underlying3, rfl, cInt⟩
    | 1, h => simp at h; subst h; exact ⟨Tryd.underlying3, rfl, cInt⟩
    | j + 2, h => simp at h) cPt htr
  have h0 := cell_part hc 0 (by omega)
  have h1 := cell_part hc 1 (by omega)
  simp at h0 h1
  exact ⟨(World.var?_cell gPat hvar _).trans (by simpa using h0), (World.var?_cell gPat hvar _).trans (by simpa using h1)⟩

theorem int_part {enc : TypeId × Value → Unit} {W : World} {base : Nat} {sp : Nat → Bool} {held : Bool} {fuel : Nat} {l : List Value} {o : Nat} {x : DataW Unit × List MemPlace} {z : Int} (h : DataW.trod enc Tryd.prog W base sp held fuel 3 ((l.drop o).take 1) = some x) (hx : x.1 = .lit (.int .i64 z)) : l[o]? = some (.int .i64 z) := by
  obtain ⟨n, hc, rfl, -⟩ := DataW.trod_int Tryd.underlying3 h
  obtain rfl : n = z := by simpa using hx
  have := cell_part hc 0 (by omega)
  simpa using this
theorem piece_part {enc : TypeId × Value → Unit} {W : World} {base : Nat} {sp : Nat → Bool} {held : Bool} {fuel : Nat} {l : List Value} {o s j : Nat} {q : List MemPlace} (h : DataW.trod enc Tryd.prog W base sp held fuel 178 ((l.drop o).take 3) = some (pcD s j, q)) : l[o]? = some (.int .i64 (shF s j)) ∧ l[o + 1]? = some (.int .i64 (shF s (j + 1))) ∧ l[o + 2]? = some (.int .i64 (shF s (j + 2))) := by
  have hc := Lib.ints_of_struct Tryd.underlying178 (fun i f h => by
    match i, h with
    | 0, h => simp at h; subst h; exact ⟨Tryd.underlying3, rfl, cInt⟩
    | 1, h => simp at h; subst h; exact ⟨Tryd.underlying3, rfl, cInt⟩
    | 2, h => simp at h; subst h; exact ⟨Tryd.underlying3, rfl, cInt⟩
    | j + 3, h => simp at h) cPc h
  have h0 := cell_part hc 0 (by omega)
  have h1 := cell_part hc 1 (by omega)
  have h2 := cell_part hc 2 (by omega)
  simp at h0 h1 h2
  exact ⟨h0, h1, h2⟩

set_option maxRecDepth 100000 in
set_option maxHeartbeats 1000000 in
theorem sha_row {enc : TypeId × Value → Unit} {W : World} {base : Nat} {sp : Nat → Bool} {held : Bool} {fuel : Nat} {l : List Value} {s : Nat} {q : List MemPlace} (h : DataW.trod enc Tryd.prog W base sp held fuel 181 l = some (shD s, q)) (j : Nat) (hj : j < 19) : l[j]? = some (.int .i64 (shF s j)) := by
  obtain ⟨xs, n, rfl, hx, hl, hxl, hall⟩ := DataW.trod_struct Tryd.underlying181 h
  obtain ⟨x0, x1, x2, x3, x4, x5, x6, x7, rfl⟩ : ∃ x0 x1 x2 x3 x4 x5 x6 x7, xs = [x0, x1, x2, x3, x4, x5, x6, x7] := by
    match xs, hxl with
    | [x0, x1, x2, x3, x4, x5, x6, x7], _ => exact ⟨x0, x1, x2, x3, x4, x5, x6, x7, rfl⟩
  have hx1 := congrArg Prod.fst hx
  simp only [shD, List.map, DataW.agg.injEq, List.cons.injEq, and_true] at hx1
  obtain ⟨e0, e1, e2, e3, e4, e5, e6, e7⟩ := hx1
  have g0 : DataW.trod enc Tryd.prog W base sp held n 3 ((l.drop 0).take (Tryd.prog.cellsOf 3)) = some x0 := hall 0 _ rfl
  have g1 : DataW.trod enc Tryd.prog W base sp held n 3 ((l.drop 1).take (Tryd.prog.cellsOf 3)) = some x1 := hall 1 _ rfl
  have g2 : DataW.trod enc Tryd.prog W base sp held n 3 ((l.drop 2).take (Tryd.prog.cellsOf 3)) = some x2 := hall 2 _ rfl
  have g3 : DataW.trod enc Tryd.prog W base sp held n 3 ((l.drop 3).take (Tryd.prog.cellsOf 3)) = some x3 := hall 3 _ rfl
  have g4 : DataW.trod enc Tryd.prog W base sp held n 3 ((l.drop 4).take (Tryd.prog.cellsOf 3)) = some x4 := hall 4 _ rfl
  have g5 : DataW.trod enc Tryd.prog W base sp held n 3 ((l.drop 5).take (Tryd.prog.cellsOf 3)) = some x5 := hall 5 _ rfl
  have g6 : DataW.trod enc Tryd.prog W base sp held n 179 ((l.drop 6).take (Tryd.prog.cellsOf 179)) = some x6 := hall 6 _ rfl
  have g7 : DataW.trod enc Tryd.prog W base sp held n 3 ((l.drop 18).take (Tryd.prog.cellsOf 3)) = some x7 := hall 7 _ rfl
  rw [cInt] at g0 g1 g2 g3 g4 g5 g7
  rw [cPc4] at g6
  have f0 := int_part g0 e0.symm
  have f1 := int_part g1 e1.symm
  have f2 := int_part g2 e2.symm
  have f3 := int_part g3 e3.symm
  have f4 := int_part g4 e4.symm
  have f5 := int_part g5 e5.symm
  have f7 := int_part g7 e7.symm
  obtain ⟨y, yq⟩ := x6
  dsimp only at e6
  subst e6
  have k : ∀ i, i < 4 → ∃ fuel' d q', ([pcD s 6, pcD s 9, pcD s 12, pcD s 15] : List (DataW Unit))[i]? = some d ∧ DataW.trod enc Tryd.prog W base sp held fuel' 178 ((l.drop (6 + i * 3)).take 3) = some (d, q') := fun i hi => by
    obtain ⟨fuel', d, q', a, b⟩ := Lib.array_elem Tryd.underlying179 g6 i hi
    refine ⟨fuel', d, q', a, ?_⟩
    rw [cPc] at b
    rw [← b]
    congr 1
    rw [List.drop_take, List.drop_drop, List.take_take]
    congr 1
    omega
  obtain ⟨u0, d0, q0, a0, b0⟩ := k 0 (by omega)
  obtain ⟨u1, d1, q1, a1, b1⟩ := k 1 (by omega)
  obtain ⟨u2, d2, q2, a2, b2⟩ := k 2 (by omega)
  obtain ⟨u3, d3, q3, a3, b3⟩ := k 3 (by omega)
  obtain rfl : pcD s 6 = d0 := by simpa using a0
  obtain rfl : pcD s 9 = d1 := by simpa using a1
  obtain rfl : pcD s 12 = d2 := by simpa using a2
  obtain rfl : pcD s 15 = d3 := by simpa using a3
  have p0 := piece_part b0
  have p1 := piece_part b1
  have p2 := piece_part b2
  have p3 := piece_part b3
  match j, hj with
  | 0, _ => exact f0
  | 1, _ => exact f1
  | 2, _ => exact f2
  | 3, _ => exact f3
  | 4, _ => exact f4
  | 5, _ => exact f5
  | 6, _ => exact p0.1
  | 7, _ => exact p0.2.1
  | 8, _ => exact p0.2.2
  | 9, _ => exact p1.1
  | 10, _ => exact p1.2.1
  | 11, _ => exact p1.2.2
  | 12, _ => exact p2.1
  | 13, _ => exact p2.2.1
  | 14, _ => exact p2.2.2
  | 15, _ => exact p3.1
  | 16, _ => exact p3.2.1
  | 17, _ => exact p3.2.2
  | 18, _ => exact f7
  | j + 19, h => omega
theorem sha_cells {W : World} (h : Lib.VarReads Tryd.prog W "tierline/rv.shapes" Rows.laid_tierline_rv_shapes) (s j : Nat) (hs : s < 8) (hj : j < 19) : W.cell? ⟨1, s * 19 + j, none⟩ = some (.int .i64 (shF s j)) := by
  rw [shas_data] at h
  obtain ⟨g, t, cs, fuel, p, hg, hty, hvar, hd⟩ := h
  obtain rfl := Option.some.inj (gSha.symm.trans hg)
  obtain rfl := Option.some.inj (tSha.symm.trans hty)
  obtain ⟨fuel', d, q, hds, htr⟩ := Lib.array_elem Tryd.underlying182 hd s hs
  obtain rfl : shD s = d := by simpa [hs] using hds
  rw [cSh] at htr
  have := sha_row htr j hj
  rw [List.getElem?_take, if_pos hj, List.getElem?_drop] at this
  exact (World.var?_cell gSha hvar _).trans (by simpa using this)
theorem tab_of_laidV {W : World} (h : laidMetH Tryd.prog laidV W) : RvTab W := by
  rw [MakeChecks.laidMetH_plain _ _ _ (by kernel_rfl)] at h
  exact ⟨fun s j hs hj => sha_cells (Lib.laidMet.reads h (.tail _ (.head _))) s j hs hj, fun i hi => pat_cells (Lib.laidMet.reads h (.head _)) i hi⟩

theorem fit {z : Int} (h : I64 z) : Fits z := by unfold I64 at h; unfold Fits; omega
/-- An instruction, in numbers of 64 bits. -/
structure MiI64 (x : Mi) : Prop where
  op : I64 x.op
  rd : I64 x.rd
  rs1 : I64 x.rs1
  rs2 : I64 x.rs2
  imm : I64 x.imm

set_option maxRecDepth 100000 in
theorem open_rv {H : Type} {enc : TypeId × Value → H} {W : World} {base : Nat} {v : Value} {d : DataW H} {ps : List MemPlace}
    (hv : Value.okWide Tryd.prog W .any base 151 v) (h : DataW.Trod enc Tryd.prog W 0 (fun _ => true) true 151 v d ps) :
    ∃ x : Mi, v = x.val ∧ MiI64 x := by
  obtain ⟨cs, rfl, hs1⟩ := okWide_struct Tryd.underlying151 hv
  have hc1 : Tryd.prog.cellsOf 151 = 5 := by kernel_rfl
  rw [hc1] at hs1
  obtain ⟨l⟩ := cs
  obtain ⟨c0, c1, c2, c3, c4, rfl⟩ : ∃ c0 c1 c2 c3 c4, l = [c0, c1, c2, c3, c4] := by
    match l, hs1 with
    | [c0, c1, c2, c3, c4], _ => exact ⟨c0, c1, c2, c3, c4, rfl⟩
  obtain ⟨fuel, hf⟩ := h
  obtain ⟨xs, n, _, hx, hlen, hxl, hfs⟩ := DataW.trod_struct Tryd.underlying151 hf
  obtain ⟨y0, y1, y2, y3, y4, rfl⟩ : ∃ y0 y1 y2 y3 y4, xs = [y0, y1, y2, y3, y4] := by
    match xs, hxl with
    | [y0, y1, y2, y3, y4], _ => exact ⟨y0, y1, y2, y3, y4, rfl⟩
  have g0 := hfs 0 _ rfl
  have g1 := hfs 1 _ rfl
  have g2 := hfs 2 _ rfl
  have g3 := hfs 3 _ rfl
  have g4 := hfs 4 _ rfl
  simp [Value.cells, cInt] at g0 g1 g2 g3 g4
  obtain ⟨z0, e0, _, w0⟩ := DataW.trod_int Tryd.underlying3 g0
  obtain ⟨z1, e1, _, w1⟩ := DataW.trod_int Tryd.underlying3 g1
  obtain ⟨z2, e2, _, w2⟩ := DataW.trod_int Tryd.underlying3 g2
  obtain ⟨z3, e3, _, w3⟩ := DataW.trod_int Tryd.underlying3 g3
  obtain ⟨z4, e4, _, w4⟩ := DataW.trod_int Tryd.underlying3 g4
  obtain rfl : c0 = .int .i64 z0 := by simpa using e0
  obtain rfl : c1 = .int .i64 z1 := by simpa using e1
  obtain rfl : c2 = .int .i64 z2 := by simpa using e2
  obtain rfl : c3 = .int .i64 z3 := by simpa using e3
  obtain rfl : c4 = .int .i64 z4 := by simpa using e4
  exact ⟨⟨z0, z1, z2, z3, z4⟩, rfl, ⟨by simpa [I64] using bounds_i64 w0, by simpa [I64] using bounds_i64 w1, by simpa [I64] using bounds_i64 w2, by simpa [I64] using bounds_i64 w3, by simpa [I64] using bounds_i64 w4⟩⟩

end Go.Proofs.YtndogdojcbcjgaaDoor
