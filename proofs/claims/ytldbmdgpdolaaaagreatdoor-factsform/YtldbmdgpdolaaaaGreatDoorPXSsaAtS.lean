import Derived.Test.YtldbmdgpdolaaaaGreatDoorPXSsaBuild
namespace Go.Proofs.YtldbmdgpdolaaaaGreatDoor
open Go Go.RowKit

theorem BlkRow.rangeA {w : World} {g n : Nat} {F T : Nat → Int} {VV : Nat → Value} (h : BlkRow w g n F T VV) {i : Nat} (hi : i < n) : w.rangeAt g (i * 4) [.int .i64 (F i), .int .i64 (T i), VV (2 * i), VV (2 * i + 1)] := by
  intro j u hu
  have hj : j < 4 := (List.getElem?_eq_some_iff.1 hu).1
  match j, hj, hu with
  | 0, _, hu => cases hu; exact blk_from h i hi
  | 1, _, hu => cases hu; exact blk_to h i hi
  | 2, _, hu => cases hu; exact blk_next h i hi
  | 3, _, hu => cases hu; exact blk_prev h i hi
theorem infoBlkA : (Tryz.prog.info? 79).map (·.size) = some 4 := by kernel_rfl
end Go.Proofs.YtldbmdgpdolaaaaGreatDoor
