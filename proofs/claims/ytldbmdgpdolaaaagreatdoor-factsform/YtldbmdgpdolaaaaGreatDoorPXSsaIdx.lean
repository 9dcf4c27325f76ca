import Derived.Test.YtldbmdgpdolaaaaGreatDoorPXSsaKit
namespace Go.Proofs.YtldbmdgpdolaaaaGreatDoor
open Go Go.RowKit

theorem run_index_regs (l : List Int) (hl : l.length = 12) (k : Nat) (hk : k < 12) (w : World) : (Instr.index 95 (.agg (i64s l).toArray) (.int .i64 (k : Int))).run Tryz.prog w = .ok (.int .i64 (l.getD k 0)) w := by
  have hn : (0 : Int) ≤ (k : Int) ∧ (k : Int) < ((12 : Nat) : Int) := by omega
  have hg : (i64s l)[k]? = some (.int .i64 (l[k]'(by omega))) := by simp [i64s, hl, hk]
  simp [Instr.index, run_underlying Tryz.underlying95, asIntOf, hn, go_sem, hl, hk, hg, List.getD]
end Go.Proofs.YtldbmdgpdolaaaaGreatDoor
