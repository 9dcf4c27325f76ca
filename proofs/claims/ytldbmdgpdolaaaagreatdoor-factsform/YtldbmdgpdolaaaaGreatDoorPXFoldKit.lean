import Derived.Test.YtldbmdgpdolaaaaGreatDoorPGroupC
import Derived.Test.YtldbmdgpdolaaaaGreatDoorPXKnowMath
import Derived.Test.YtldbmdgpdolaaaaGreatDoorPGroupB
import Derived.Test.YtldbmdgpdolaaaaGreatDoorPXSsaRegs
import Derived.Test.YtldbmdgpdolaaaaGreatDoorPXSsaRow
namespace Go.Proofs.YtldbmdgpdolaaaaGreatDoor
open Go Go.RowKit

theorem wpList_load_wantedF {P : Program} {ops : Array Oper} {rest : List Oper} {o : Oper} {a : Act} {w : World} {Q : Exit → Act → World → Prop} (hw : Region.wanted o (yielded ops a.tmps) = true) (ty : TypeId) (x : Operand) (ho : o.op = .load ty x)
    (g : Nat) (hx : a.eval x = .pointer (some ⟨g, 0, none⟩)) (t : TypeId) (cs : Array Value) (fr : Nat × Nat) (d : TypeDesc) (hg : w.heap[g]? = some (.cells cs t fr))
    (hu : P.underlying ty = some d) (hd : (match d with | .struct _ | .array _ _ => true | _ => false) = true) (hi : (P.info? ty).map (·.size) = some cs.size)
    (h : wpList P ops Q rest (a.put o.dst (.agg cs)) w) : wpList P ops Q (o :: rest) a w := by
  simp only [wpList, hw, if_true]
  exact Or.inl (wp_load_row ty x ho g hx t cs fr d hg hu hd hi h)
theorem wpList_load_mid_wantedF {P : Program} {ops : Array Oper} {rest : List Oper} {o : Oper} {a : Act} {w : World} {Q : Exit → Act → World → Prop} (hw : Region.wanted o (yielded ops a.tmps) = true) (ty : TypeId) (x : Operand) (ho : o.op = .load ty x)
    (b f : Nat) (hx : a.eval x = .pointer (some ⟨b, f, none⟩)) (cs : List Value) (d : TypeDesc) (hc : w.rangeAt b f cs)
    (hu : P.underlying ty = some d) (hd : d.isRow = true) (hi : (P.info? ty).map (·.size) = some cs.length)
    (h : wpList P ops Q rest (a.put o.dst (.agg cs.toArray)) w) : wpList P ops Q (o :: rest) a w := by
  simp only [wpList, hw, if_true]
  exact Or.inl (wp_load_mid ty x ho b f hx cs d hc hu hd hi h)
def factC (a : FV) : List Value := [.int .i64 a.kind, .int .i64 a.num]
theorem factC_len (a : FV) : (factC a).length = 2 := rfl
def KnowG (w : World) : Prop := w.rangeAt 1 0 [.int .i64 0, .int .i64 0] ∧ w.rangeAt 0 0 [.int .i64 2, .int .i64 0]
theorem KnowG.below {w w' : World} (h : KnowG w) (hb : Below w.heap.size w w') : KnowG w' := ⟨fun j u hu => keeps_below hb _ _ (h.1 j u hu), fun j u hu => keeps_below hb _ _ (h.2 j u hu)⟩
theorem infoFact : (Tryz.prog.info? 65).map (·.size) = some 2 := by kernel_rfl
theorem fields_fact : (Tryz.prog.fieldsOf 65).toList.map (fun f => (f.type, f.offset, f.name == "_")) = [(3, 0, false), (3, 1, false)] := by kernel_rfl
theorem under_fact : Tryz.prog.underlying 65 = some (.struct (Tryz.prog.fieldsOf 65)) := by kernel_rfl
theorem stood_fact : Tryz.prog.stoodInHeld 65 = false := by kernel_rfl
theorem plain_int_f : Tryz.prog.plainKey 3 = true := by kernel_rfl
theorem equal_fact (k n k' n' : Int) (w : World) : (Op.equalIn 10000 65 (.agg #[.int .i64 k, .int .i64 n]) (.agg #[.int .i64 k', .int .i64 n'])).run Tryz.prog w = .ok ((k == k') && (n == n')) w := by
  rw [run_equalIn_struct w 9999 _ _ _ under_fact stood_fact]
  have hf := fields_fact
  generalize (Tryz.prog.fieldsOf 65).toList = fs at hf
  rcases fs with _ | ⟨f0, _ | ⟨f1, _ | ⟨f2, fs⟩⟩⟩ <;> simp at hf
  obtain ⟨⟨t0, o0, n0⟩, t1, o1, n1⟩ := hf
  have p0 : ∀ a b : Int, (part f0.type #[.int .i64 a, .int .i64 b] f0.offset).run Tryz.prog w = .ok (.int .i64 a) w := fun a b => by rw [t0, o0]; exact run_part_plain w plain_int_f rfl
  have p1 : ∀ a b : Int, (part f1.type #[.int .i64 a, .int .i64 b] f1.offset).run Tryz.prog w = .ok (.int .i64 b) w := fun a b => by rw [t1, o1]; exact run_part_plain w plain_int_f rfl
  have q0 : (Op.equalIn 9999 f0.type (.int .i64 k) (.int .i64 k')).run Tryz.prog w = .ok (k == k') w := by rw [t0, run_equalIn_int w 9998 3 .i64 .i64 _ _ Tryz.underlying3]
  have q1 : (Op.equalIn 9999 f1.type (.int .i64 n) (.int .i64 n')).run Tryz.prog w = .ok (n == n') w := by rw [t1, run_equalIn_int w 9998 3 .i64 .i64 _ _ Tryz.underlying3]
  simp only [Op.eqFields, n0, n1, ne_eq, not_false_eq_true, if_true, Sem.run_bind, p0, q0, Result.andThen_ok]
  cases (k == k')
  · simp
  · simp only [Bool.not_true, Bool.false_eq_true, if_false, Sem.run_bind, p1, q1, Result.andThen_ok]
    cases (n == n') <;> simp
theorem fv_eq (a b : FV) : ((a.kind == b.kind) && (a.num == b.num)) = decide (a = b) := by
  by_cases h : a = b
  · rw [h]; simp
  · rw [decide_eq_false h, Bool.and_eq_false_iff]
    by_cases h1 : a.kind = b.kind
    · right; rw [beq_eq_false_iff_ne]; exact fun h2 => h (FV.ext h1 h2)
    · left; rw [beq_eq_false_iff_ne]; exact h1
theorem built_fact (k n : Int) : Tryz.prog.built 65 [(0, .int .i64 k), (1, .int .i64 n)] = some #[.int .i64 k, .int .i64 n] := by kernel_rfl
set_option maxRecDepth 100000 in
theorem known_any (n : Int) (w : World) :
    Calls Tryz.prog 111 #[.int .i64 n] w fun e w' => e = .returned (.agg #[.int .i64 1, .int .i64 n]) ∧ Below w.heap.size w w' := by
  have HB : Hid (Below w.heap.size w (w.alloc (.cells #[.int .i64 0, .int .i64 0] 65))) := (Below.refl _ _).alloc (Nat.le_refl _) _
  have r2 : (w.alloc (.cells #[.int .i64 0, .int .i64 0] 65)).heap[w.heap.size]? = some (.cells #[.int .i64 0, .int .i64 0] 65 (0, 0)) := heap_alloc_last w _
  go_enter Tryz.func111, Tryz.ntmps111
  go_upto_region 1 with fail
  generalize w.alloc (.cells #[.int .i64 0, .int .i64 0] 65) = V at *
  go_wp2_with (refine wpList_build_store rfl _ _ rfl #[.int .i64 1, .int .i64 n] (by simpa [Act.eval, Act.put] using built_fact 1 n) rfl _ _ rfl _ rfl rfl _ _ r2 infoFact rfl (by simp [Value.oneCell']) ?_)
  (try simp only [Exit.inBlock, Exit.then])
  exact bodyPost_ret (results_cell_row rfl _ _ w.heap.size 65 #[.int .i64 1, .int .i64 n] (0, 0) _ rfl (setRow_heap _ _ _ _ _ _ r2) Tryz.underlying65 rfl infoFact) rfl ⟨rfl, belowSK HB.out (Nat.le_refl _) _⟩
end Go.Proofs.YtldbmdgpdolaaaaGreatDoor
