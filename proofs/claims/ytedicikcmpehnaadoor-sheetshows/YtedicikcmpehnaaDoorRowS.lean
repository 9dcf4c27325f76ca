/- Rows of this seat that name five variables: two tables of bits, the powers of ten, the table of ops, the words. -/
import Derived.Test.YtedicikcmpehnaaDoorRow
import Derived.Test.YtedicikcmpehnaaDoorShow
import Derived.Stop.LaidErr
namespace Go.Proofs.YtedicikcmpehnaaDoor
open Go Go.ChangeShapes Go.WideShapes Go.ChangeAt Go.RowKit

def strData {H : Type} (ls : List (List UInt8)) : DataW H := .agg (ls.map fun l => .lit (.string l))

/-- An array of strings that reads as the table holds the table's strings, cell for cell. -/
theorem cells_of_strs {H : Type} {enc : TypeId × Value → H} {P : Program} {w : World} {base : Nat} {sp : Nat → Bool} {held : Bool} {fuel : Nat} {t e : TypeId} {n : Nat} {cs : List Value} {ls : List (List UInt8)} {p : List MemPlace}
    (ht : P.underlying t = some (.array n e)) (he : P.underlying e = some .string) (hce : P.cellsOf e = 1) (hct : P.cellsOf t = n)
    (h : DataW.trod enc P w base sp held fuel t cs = some (strData ls, p)) : cs = ls.map fun l => Value.string ⟨l.toArray⟩ := by
  cases fuel with
  | zero => simp [DataW.trod] at h
  | succ fuel =>
    simp only [DataW.trod, ht, hce, hct, Nat.mul_one] at h
    split at h
    · rename_i hl
      obtain ⟨xs, hm, hx⟩ := Option.map_eq_some_iff.1 h
      have hxs : xs.map (·.1) = ls.map fun l => (DataW.lit (.string l) : DataW H) := by
        have := congrArg Prod.fst hx
        simpa [strData] using this
      have hxl : xs.length = n := by simpa using Lib.mapM_length hm
      have hzl : ls.length = n := by
        have := congrArg List.length hxs
        simp at this
        omega
      apply List.ext_getElem?
      intro i
      by_cases hi : i < n
      · obtain ⟨b, hb, hf⟩ := Lib.mapM_at hm i i (by simp [hi])
        obtain ⟨s, hc, rfl, _⟩ := DataW.trod_string he hf
        have h1 : cs[i]? = some (.string s) := by
          have := congrArg (·[0]?) hc
          simpa [List.getElem?_take, List.getElem?_drop] using this
        have h2 : (xs.map (·.1))[i]? = some (DataW.lit (.string s.data.toList) : DataW H) := by simp [hb]
        rw [hxs] at h2
        simp only [List.getElem?_map, Option.map_eq_some_iff, DataW.lit.injEq, Lit.string.injEq] at h2
        obtain ⟨l, hl', rfl⟩ := h2
        simp [h1, hl']
      · rw [List.getElem?_eq_none (by omega), List.getElem?_eq_none (by simp; omega)]
    · cases h

theorem strs_of_head {P : Program} {W : World} {name : String} {ls : List (List UInt8)} {rest : List (String × DataW Unit)} {g : Nat} {t e : TypeId} {n : Nat}
    (hg : P.globalNamed name = some g) (hty : (P.globals[g]?).map (·.type) = some t) (ht : P.underlying t = some (.array n e)) (he : P.underlying e = some .string) (hce : P.cellsOf e = 1) (hct : P.cellsOf t = n)
    (h : laidMet P ((name, strData ls) :: rest) W) (i : Nat) (hi : i < ls.length) : W.cell? ⟨g, i, none⟩ = some (.string ⟨(ls.getD i []).toArray⟩) := by
  obtain ⟨ps, ⟨g', t', cs, fuel, p, q, hg', ht', hvar, hd, _, _⟩, _⟩ := h
  obtain rfl := Option.some.inj (hg.symm.trans hg')
  obtain rfl := Option.some.inj (hty.symm.trans ht')
  have e := cells_of_strs ht he hce hct hd
  have := World.var?_cell hg hvar i
  rw [this]
  have hc : cs = (ls.map fun l => Value.string ⟨l.toArray⟩).toArray := by first | exact e | (rw [← e]) | (apply Array.ext'; simpa using e)
  rw [hc]
  simp [List.getD, hi]

theorem gPow : Tryd.prog.globalNamed "internal/strconv.uint64pow10" = some 2 := by kernel_rfl
theorem tPow : (Tryd.prog.globals[2]?).map (·.type) = some 65 := by kernel_rfl
theorem cellsPow : Tryd.prog.cellsOf 65 = 20 := by kernel_rfl
theorem cells64 : Tryd.prog.cellsOf 57 = 1 := by kernel_rfl
theorem gWords : Tryd.prog.globalNamed "tierline/sheet.words" = some 0 := by kernel_rfl
theorem tWords : (Tryd.prog.globals[0]?).map (·.type) = some 45 := by kernel_rfl
theorem cellsWords : Tryd.prog.cellsOf 45 = 20 := by kernel_rfl
theorem cellsStr : Tryd.prog.cellsOf 9 = 1 := by kernel_rfl
abbrev laidL5 : List (String × DataW Unit) := [("math/bits.deBruijn32tab", Rows.laid_math_bits_deBruijn32tab), ("math/bits.deBruijn64tab", Rows.laid_math_bits_deBruijn64tab), ("internal/strconv.uint64pow10", Rows.laid_internal_strconv_uint64pow10), ("tierline/ops.parts", Rows.laid_tierline_ops_parts), ("tierline/sheet.words", Rows.laid_tierline_sheet_words)]

theorem door_met5 (os : Os) (args : Array Value) : laidMetH Tryd.prog laidL5 ((World.doorLaid Tryd.prog 400 os).forCall (fun _ _ => 0) ⟨#[], args, []⟩).memory :=
  laidMetH_of_parts3 (fuel := 8) (laidMet_of_run' 8 (by kernel_rfl) (by kernel_rfl)) (by kernel_rfl) (by kernel_rfl)

theorem std_of_laid {W : World} (h : laidMetH Tryd.prog laidL5 W) : Std W.heap.size W := by
  rw [MakeChecks.laidMetH_plain _ _ _ (by kernel_rfl)] at h
  have h' : laidMet Tryd.prog (("math/bits.deBruijn32tab", Rows.laid_math_bits_deBruijn32tab) :: ("math/bits.deBruijn64tab", Rows.laid_math_bits_deBruijn64tab) :: ("internal/strconv.uint64pow10", Lib.tabData .u64 Lib.pow10Tab) :: ("tierline/ops.parts", Lib.tabData .i64 hasL) :: ("tierline/sheet.words", strData wordL) :: []) W := h
  have hp := Lib.tabIs_of_head (P := Tryd.prog) gPow tPow Tryd.underlying65 Tryd.underlying57 cells64 cellsPow h'.tail.tail
  have ht := Lib.tabIs_of_head (P := Tryd.prog) gParts tParts Tryd.underlying51 Tryd.underlying3 cells3 cellsParts h'.tail.tail.tail
  have hT : TabOk W := fun i hi => ht.cell gParts i hi
  have hW : WordOk W := fun i hi => strs_of_head (P := Tryd.prog) gWords tWords Tryd.underlying45 Tryd.underlying9 cellsStr cellsWords h'.tail.tail.tail.tail i hi
  have hpos : 0 < W.heap.size := World.block_lt_of_cell? _ _ (hW 0 (by omega))
  exact ⟨Lib.tabBelow_of_tabIs hp, fun w' hb => ⟨fun i hi => (hb.cell (p := ⟨0, i, none⟩) hpos).trans (hW i hi), hT.below hb⟩⟩

end Go.Proofs.YtedicikcmpehnaaDoor
