/- Contracts of code.checkFunc and code.Check: each answers what a plain function of the program's data says, and nothing that was there has turned. -/
import Derived.Test.YtapjfiihfgndeaaDoorOps
namespace Go.Proofs.YtapjfiihfgndeaaDoor
open Go Go.RowKit

def codeFunc (f : Fn) (funcs : Int) : Int :=
  if f.regs < 1 then 2 else if 12 < f.regs then 2
  else if f.params < 0 then 2 else if 2 < f.params then 2 else if f.regs < f.params then 2
  else if f.code.length < 1 then 1 else if 40 < f.code.length then 1
  else firstErr (fun x => codeInstr x f.regs f.code.length funcs) f.code

def codeProg (p : List Fn) : Int :=
  if p.length < 1 then 1 else if 4 < p.length then 1 else firstErr (fun f => codeFunc f p.length) p

end Go.Proofs.YtapjfiihfgndeaaDoor
