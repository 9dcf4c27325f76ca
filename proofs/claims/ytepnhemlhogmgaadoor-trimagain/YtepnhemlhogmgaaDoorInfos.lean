/- What the program's table of types says of api.Func and api.Instr. -/
import Derived.Test.YtepnhemlhogmgaaDoorProg
import Derived.Test.YtepnhemlhogmgaaDoorOwn
namespace Go.Proofs.YtepnhemlhogmgaaDoor
open Go Go.RowKit

theorem infoF : (Tryd.prog.info? 44).map (fun i => (i.zero, i.size, i.bytes)) = some (some (.agg #[.int .i64 0, .int .i64 0, .slice none 0 0]), 3, 40) := by kernel_rfl
theorem infoI : (Tryd.prog.info? 70).map (fun i => (i.zero, i.size, i.bytes)) = some (some (.agg #[.int .i64 0, .int .i64 0, .int .i64 0, .int .i64 0, .int .i64 0]), 5, 40) := by kernel_rfl

end Go.Proofs.YtepnhemlhogmgaaDoor
