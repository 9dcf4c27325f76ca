/- A register of an array that is held by value. -/
import Derived.Test.YtdpaohmaafngkaaDoorXSsaKit
namespace Go.Proofs.YtdpaohmaafngkaaDoor
open Go Go.RowKit

theorem run_index_regs (l : List Int) (hl : l.length = 12) (k : Nat) (hk : k < 12) (w : World) : (Instr.index 79 (.agg (i64s l).toArray) (.int .i64 (k : Int))).run Tryd.prog w = .ok (.int .i64 (l.getD k 0)) w := by
  have hn : (0 : Int) ≤ (k : Int) ∧ (k : Int) < ((12 : Nat) : Int) := by omega
  have hg : (i64s l)[k]? = some (.int .i64 (l[k]'(by omega))) := by simp [i64s, hl, hk]
  simp [Instr.index, run_underlying Tryd.underlying79, asIntOf, hn, go_sem, hl, hk, hg, List.getD]
end Go.Proofs.YtdpaohmaafngkaaDoor
