/- What the program's table of types says of api.Func and api.Instr. -/
import Derived.Test.YtfbebffncdcjeaaDoorProg
import Derived.Test.YtfbebffncdcjeaaDoorOwn
namespace Go.Proofs.YtfbebffncdcjeaaDoor
open Go Go.RowKit

theorem infoF : (Tryd.prog.info? 53).map (fun i => (i.zero, i.size, i.bytes)) = some (some (.agg #[.int .i64 0, .int .i64 0, .slice none 0 0]), 3, 40) := by kernel_rfl
theorem infoI : (Tryd.prog.info? 58).map (fun i => (i.zero, i.size, i.bytes)) = some (some (.agg #[.int .i64 0, .int .i64 0, .int .i64 0, .int .i64 0, .int .i64 0]), 5, 40) := by kernel_rfl

end Go.Proofs.YtfbebffncdcjeaaDoor
