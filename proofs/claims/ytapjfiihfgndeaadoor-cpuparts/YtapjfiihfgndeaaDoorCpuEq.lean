/- Two machines that are the same, compared by '=='; the document's machineMade and taken. -/
import Derived.Test.YtapjfiihfgndeaaDoorCpuRun
import Derived.ChangeKeysEq
import Derived.Laws.StructEq
namespace Go.Proofs.YtapjfiihfgndeaaDoor
open Go Go.RowKit

theorem plain_int_cp : Tryd.prog.plainKey 3 = true := by kernel_rfl
theorem plain_bool_cp : Tryd.prog.plainKey 4 = true := by kernel_rfl
theorem cells_int_cp : Tryd.prog.cellsOf 3 = 1 := by kernel_rfl
theorem equal_items_cp (d : Nat) (l : List Int) (w : World) : ∀ is : List Nat, (∀ i ∈ is, i < l.length) → (Op.eqItems (d + 1) 3 1 (i64s l).toArray (i64s l).toArray is).run Tryd.prog w = .ok true w := by
  intro is
  induction is with
  | nil => intro _; simp [Op.eqItems]
  | cons i is ih =>
    intro h
    have hi : i < l.length := h i (List.mem_cons_self)
    have hg : (i64s l).toArray[i * 1]? = some (.int .i64 l[i]) := by simp [i64s, hi]
    simp only [Op.eqItems, Sem.run_bind, run_part_plain w plain_int_cp hg, Result.andThen_ok, run_equalIn_int w d 3 .i64 .i64 l[i] l[i] Tryd.underlying3]
    simp
    exact ih (fun j hj => h j (List.mem_cons_of_mem _ hj))
theorem equal_ints_cp (t : TypeId) (l : List Int) (d : Nat) (w : World) (hu : Tryd.prog.underlying t = some (.array l.length 3)) : (Op.equalIn (d + 2) t (.agg (i64s l).toArray) (.agg (i64s l).toArray)).run Tryd.prog w = .ok true w := by
  obtain ⟨i, hi, _⟩ := info_parts info64
  rw [run_equalIn_array w (d + 1) _ _ hu hi, cells_int_cp]
  exact equal_items_cp d l w _ (fun j hj => by simpa using hj)
theorem run_part_row {e e' : TypeId} {n : Nat} {i : TypeInfo} (w : World) (xs : Array Value) (off : Nat) (hu : Tryd.prog.underlying e = some (.array n e')) (hi : Tryd.prog.info? e = some i) : (part e xs off).run Tryd.prog w = .ok (.agg (xs.extract off (off + Tryd.prog.cellsOf e))) w := by
  simp [part, isAgg, run_underlying hu, run_sizeOf w hi]
theorem cells_32 : Tryd.prog.cellsOf 23 = 32 := by kernel_rfl
theorem cells_64 : Tryd.prog.cellsOf 24 = 64 := by kernel_rfl
theorem some_32 : (Tryd.prog.info? 23).isSome = true := by kernel_rfl
theorem some_64 : (Tryd.prog.info? 24).isSome = true := by kernel_rfl
theorem fields_cp : (Tryd.prog.fieldsOf 26).toList.map (fun f => (f.type, f.offset, f.name == "_")) = [(23, 0, false), (3, 32, false), (24, 33, false), (4, 97, false)] := by kernel_rfl
theorem under_cp : Tryd.prog.underlying 26 = some (.struct (Tryd.prog.fieldsOf 26)) := by kernel_rfl
theorem stood_cp : Tryd.prog.stoodInHeld 26 = false := by kernel_rfl
theorem ext_regs {c : Cp} (h : c.Ok) : (cpuCells c).toArray.extract 0 32 = (i64s c.regs).toArray := by
  rw [List.extract_toArray]
  congr 1
  unfold cpuCells
  simp [List.extract, i64s, h.r]
theorem ext_data {c : Cp} (h : c.Ok) : (cpuCells c).toArray.extract 33 97 = (i64s c.data).toArray := by
  rw [List.extract_toArray]
  congr 1
  unfold cpuCells
  simp [List.extract, i64s, List.drop_append, h.r]
  rw [List.drop_eq_nil_of_le (by simp [h.r])]
  simp [h.d]
theorem equal_cp (c : Cp) (h : c.Ok) (w : World) : (Op.equalIn 10000 26 (.agg (cpuCells c).toArray) (.agg (cpuCells c).toArray)).run Tryd.prog w = .ok true w := by
  rw [run_equalIn_struct w 9999 _ _ _ under_cp stood_cp]
  have hf := fields_cp
  generalize (Tryd.prog.fieldsOf 26).toList = fs at hf
  obtain ⟨i32, hi32⟩ := Option.isSome_iff_exists.1 some_32
  obtain ⟨i64', hi64'⟩ := Option.isSome_iff_exists.1 some_64
  rcases fs with _ | ⟨f0, _ | ⟨f1, _ | ⟨f2, _ | ⟨f3, _ | ⟨f4, fs⟩⟩⟩⟩⟩ <;> simp at hf
  obtain ⟨⟨t0, o0, n0⟩, ⟨t1, o1, n1⟩, ⟨t2, o2, n2⟩, t3, o3, n3⟩ := hf
  have p0 : (part f0.type (cpuCells c).toArray f0.offset).run Tryd.prog w = .ok (.agg (i64s c.regs).toArray) w := by rw [t0, o0, run_part_row w _ 0 Tryd.underlying23 hi32, cells_32, ← ext_regs h]
  have p1 : (part f1.type (cpuCells c).toArray f1.offset).run Tryd.prog w = .ok (.int .i64 c.pc) w := by rw [t1, o1]; exact run_part_plain w plain_int_cp (by rw [List.getElem?_toArray]; exact cp_pc h)
  have p2 : (part f2.type (cpuCells c).toArray f2.offset).run Tryd.prog w = .ok (.agg (i64s c.data).toArray) w := by rw [t2, o2, run_part_row w _ 33 Tryd.underlying24 hi64', cells_64, ← ext_data h]
  have p3 : (part f3.type (cpuCells c).toArray f3.offset).run Tryd.prog w = .ok (.bool c.halted) w := by rw [t3, o3]; exact run_part_plain w plain_bool_cp (by rw [List.getElem?_toArray]; exact cp_halt h)
  have q0 : (Op.equalIn 9999 f0.type (.agg (i64s c.regs).toArray) (.agg (i64s c.regs).toArray)).run Tryd.prog w = .ok true w := by rw [t0]; exact equal_ints_cp _ c.regs 9997 w (by rw [h.r]; exact Tryd.underlying23)
  have q1 : (Op.equalIn 9999 f1.type (.int .i64 c.pc) (.int .i64 c.pc)).run Tryd.prog w = .ok true w := by rw [t1, run_equalIn_int w 9998 3 .i64 .i64 _ _ Tryd.underlying3]; simp
  have q2 : (Op.equalIn 9999 f2.type (.agg (i64s c.data).toArray) (.agg (i64s c.data).toArray)).run Tryd.prog w = .ok true w := by rw [t2]; exact equal_ints_cp _ c.data 9997 w (by rw [h.d]; exact Tryd.underlying24)
  have q3 : (Op.equalIn 9999 f3.type (.bool c.halted) (.bool c.halted)).run Tryd.prog w = .ok true w := by rw [t3, run_equalIn_bool' w 9998 4 _ _ Tryd.underlying4]; simp
  simp only [Op.eqFields, n0, n1, n2, n3, ne_eq, not_false_eq_true, if_true, Sem.run_bind, p0, p1, p2, p3, q0, q1, q2, q3, Result.andThen_ok, Bool.not_true, Bool.false_eq_true, if_false, Sem.run_pure]
end Go.Proofs.YtapjfiihfgndeaaDoor
