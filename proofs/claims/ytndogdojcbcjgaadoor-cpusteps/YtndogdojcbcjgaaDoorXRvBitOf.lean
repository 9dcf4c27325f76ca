/- Contract of the document's bitOf (package tierlineref): a bit of a number in two's complement. -/
import Derived.Test.YtndogdojcbcjgaaDoorGroupM
import Derived.Test.YtndogdojcbcjgaaDoorGroupB
import Derived.Test.YtndogdojcbcjgaaDoorGroupV
namespace Go.Proofs.YtndogdojcbcjgaaDoor
open Go Go.RowKit

/-- A bit of a number. -/
def bitI (n : Int) (i : Nat) : Int := n / 2 ^ i % 2
set_option maxRecDepth 100000 in
set_option maxHeartbeats 1000000 in
theorem bitOf_any (n : Int) (hn : Fits n) (i : Nat) (hi : i < 64) (w : World) :
    Calls Tryd.prog 141 #[.int .i64 n, .int .i64 i] w fun e w' => e = .returned (.int .i64 (bitI n i)) ∧ Below w.heap.size w w' := by
  obtain ⟨x, rfl⟩ : ∃ x : BitVec 64, n = x.toInt := ⟨BitVec.ofInt 64 n, (to_bv n (by unfold Fits at hn; omega) (by unfold Fits at hn; omega)).symm⟩
  have hb : bitI x.toInt i = if x.getLsbD i then 1 else 0 := shr_lsb x i hi
  have hBx := rbits_any x w
  have hsx : (Tryd.prog.info? 171).map (·.size) = some (bitsAll x).size := by rw [show bitsAll x = bitsPart x 64 from rfl, bitsPart_size]; exact sizes64
  have hgx : (bitsAll x)[i]? = some (.bool (x.getLsbD i)) := by rw [show bitsAll x = bitsPart x 64 from rfl, bitsPart_get x 64 i hi]; simp [hi]
  have h1x : (bitsAll x).all (·.oneCell') = true := bitsPart_one x 64
  have hlx : (bitsAll x).size = 64 := bitsPart_size x 64
  have hiI : (i : Int) < 64 := by omega
  rw [hb]
  clear hb hn
  generalize bitsAll x = B at *
  generalize x.getLsbD i = c at *
  have HR : Hid (∀ w1 : World, (w1.alloc (.cells B 171)).cell? ⟨w1.heap.size, i, none⟩ = some (.bool c)) := fun w1 => by
    rw [cell_of_row _ _ _ _ _ _ (heap_alloc_last w1 _)]
    exact hgx
  cases c
  all_goals
    go_enter Tryd.func141, Tryd.ntmps141
    go_wp2_with (first
      | (go_at_call 131; refine hBx.mono ?_; rintro e w1 ⟨rfl, hb1⟩; have HB1 : Hid (Below w.heap.size w w1) := hb1; have cc := HR.out w1; clear hb1)
      | (refine wpList_store_row rfl _ _ _ rfl _ B rfl rfl _ _ (heap_alloc_last w1 _) hsx (by rw [hlx]; rfl) h1x ?_; rw [World.setRow_alloc_new]))
    go_ret
    exact ⟨rfl, HB1.out.alloc HB1.out.size _⟩
end Go.Proofs.YtndogdojcbcjgaaDoor
