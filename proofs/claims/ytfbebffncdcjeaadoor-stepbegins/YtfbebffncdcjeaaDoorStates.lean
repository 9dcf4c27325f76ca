/- States as plain data, how they lie in memory; contract of step.Begin. -/
import Derived.Test.YtfbebffncdcjeaaDoorClone
import Derived.Test.YtfbebffncdcjeaaDoorPCheck
import Derived.Laws.ResultCell
namespace Go.Proofs.YtfbebffncdcjeaaDoor
open Go Go.RowKit

structure St where
  status : Int
  value : Int
  frames : List Fr
  mem : List Int
  fuel : Int
  events : List Int
  answers : List Int
def stCells (s : St) (fv ev av : Value) : List Value := [.int .i64 s.status, .int .i64 s.value, fv] ++ i64s s.mem ++ [.int .i64 s.fuel, ev, av]
/-- A state as a value. -/
def StVal (w : World) (v : Value) (s : St) : Prop := ∃ fv ev av, v = .agg (stCells s fv ev av).toArray ∧ s.mem.length = 16 ∧ FramesVal w fv s.frames ∧ IntsVal w ev s.events ∧ IntsVal w av s.answers
theorem StVal.keeps {w w' : World} {v : Value} {s : St} (h : StVal w v s) (k : Keeps w w') : StVal w' v s := by
  obtain ⟨fv, ev, av, rfl, hm, h1, h2, h3⟩ := h
  exact ⟨fv, ev, av, rfl, hm, h1.keeps k, h2.keeps k, h3.keeps k⟩
theorem stCells_length (s : St) (fv ev av : Value) (h : s.mem.length = 16) : (stCells s fv ev av).length = 22 := by simp [stCells, i64s, h]
theorem infoSt : (Tryd.prog.info? 29).map (·.size) = some 22 := by kernel_rfl
def noMem : List Int := List.replicate 16 0
def zeroSt : St := ⟨0, 0, [], noMem, 0, [], []⟩
def beginSt (args answers : List Int) (fuel : Int) : St := ⟨0, 0, [begunFr 0 args], noMem, fuel, [], answers⟩
def zeroStCells : Array Value := (stCells zeroSt (.slice none 0 0) (.slice none 0 0) (.slice none 0 0)).toArray
theorem frames_nil (w : World) : FramesVal w (.slice none 0 0) [] := ⟨fun f hf => by simp at hf, none, 0, 0, 0, 0, rfl, rfl, fun h => by omega, fun k h => by simp at h, ⟨Nat.le_refl _, fun _ => rfl⟩, by simp [maxLen]⟩
theorem zero_stVal (w : World) : StVal w (.agg zeroStCells) zeroSt := ⟨_, _, _, rfl, rfl, frames_nil w, ints_nil w, ints_nil w⟩

theorem results_row_tmp {P : Program} {fn : Func} {p u : Tmp} {ty : TypeId} (h : fn.results = #[.cell p ty, .tmp u]) (tmps : Array Value) (w : World) (g : Nat) (t : TypeId) (cs : Array Value) (fr : Nat × Nat) (d : TypeDesc)
    (hp : tmps.getD p undef = .pointer (some ⟨g, 0, none⟩)) (hg : w.heap[g]? = some (.cells cs t fr))
    (hu : P.underlying ty = some d) (hd : (match d with | .struct _ | .array _ _ => true | _ => false) = true) (hi : (P.info? ty).map (·.size) = some cs.size) :
    (results fn tmps).run P w = .ok (.tuple #[.agg cs, tmps.getD u undef]) w := by
  rw [results_cell_tmp h, hp]
  simp only [asAddr, Sem.run_pure, Result.andThen_ok, run_loadVar_row w g t ty cs fr d hg hu hd hi]
end Go.Proofs.YtfbebffncdcjeaaDoor
