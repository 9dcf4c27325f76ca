/- What the laws of tierlinekeep on runs begin with: a program, a state, and what Walk and Next answer of it. -/
import Derived.Test.YtiaammieldfkcaaDoorXKBegin
import Derived.Test.YtiaammieldfkcaaDoorXEngNext
import Derived.Test.YtiaammieldfkcaaDoorXSameStK
import Derived.Test.YtiaammieldfkcaaDoorGroupF
namespace Go.Proofs.YtiaammieldfkcaaDoor
open Go Go.RowKit

theorem wpList_load_wanted_k {P : Program} {ops : Array Oper} {rest : List Oper} {o : Oper} {a : Act} {w : World} {Q : Exit → Act → World → Prop} (hw : Region.wanted o (yielded ops a.tmps) = true) (ty : TypeId) (x : Operand) (ho : o.op = .load ty x)
    (g : Nat) (hx : a.eval x = .pointer (some ⟨g, 0, none⟩)) (t : TypeId) (cs : Array Value) (fr : Nat × Nat) (d : TypeDesc) (hg : w.heap[g]? = some (.cells cs t fr))
    (hu : P.underlying ty = some d) (hd : (match d with | .struct _ | .array _ _ => true | _ => false) = true) (hi : (P.info? ty).map (·.size) = some cs.size)
    (h : wpList P ops Q rest (a.put o.dst (.agg cs)) w) : wpList P ops Q (o :: rest) a w := by
  simp only [wpList, hw, if_true]
  exact Or.inl (wp_load_row ty x ho g hx t cs fr d hg hu hd hi h)
/-- What a state's cells hold. -/
theorem StVal.at {w : World} {cs : Array Value} {S : St} (h : StVal w (.agg cs) S) : cs[0]? = some (.int .i64 S.status) ∧ cs[1]? = some (.int .i64 S.value) ∧ cs[19]? = some (.int .i64 S.fuel) ∧ ∃ fr fc er ec ar ac, cs[2]? = some (.slice fr S.frames.length fc) ∧ cs[20]? = some (.slice er S.events.length ec) ∧ cs[21]? = some (.slice ar S.answers.length ac) := by
  obtain ⟨fv, ev, av, e, hm, hf, he, ha⟩ := h
  obtain ⟨fr, fc, rfl⟩ := hf.shape
  obtain ⟨er, ec, rfl⟩ := he.shape
  obtain ⟨ar, ac, rfl⟩ := ha.shape
  obtain rfl : cs = _ := by simpa using e
  have e19 : (stCells S (.slice fr S.frames.length fc) (.slice er S.events.length ec) (.slice ar S.answers.length ac)).toArray[19]? = some (.int .i64 S.fuel) := by
    rw [List.getElem?_toArray]; unfold stCells; rw [List.getElem?_append_right (by simp [i64s, hm])]; simp [i64s, hm]
  obtain ⟨g2, g20, g21⟩ := stCells_get S (.slice fr S.frames.length fc) (.slice er S.events.length ec) (.slice ar S.answers.length ac) hm
  exact ⟨rfl, rfl, e19, fr, fc, er, ec, ar, ac, g2, g20, g21⟩
theorem out_exists (f : Fn) (q : Nat) : ∀ r, r ≤ 12 → ∃ v, OutOk f r q v := by
  intro r
  induction r with
  | zero =>
    intro _
    by_cases h : Way f 63 q
    · exact ⟨0, out_zero_yes h⟩
    · exact ⟨-1, out_zero_no h⟩
  | succ r ih =>
    intro hr
    obtain ⟨v, hv⟩ := ih (by omega)
    by_cases h : Way f 63 q
    · by_cases h2 : Way f r q
      · exact ⟨v, out_same hv (fun _ => h2)⟩
      · exact ⟨_, (out_add hv (by omega) h h2).1⟩
    · exact ⟨v, out_same hv (fun h3 => absurd h3 h)⟩
/-- There is a row that tells what is surely set. -/
theorem sure_exists (f : Fn) : ∃ L, SureSpec f L := by
  have h : ∀ q, ∃ v, OutOk f 12 q v := fun q => out_exists f q 12 (Nat.le_refl _)
  refine ⟨(List.range (f.code.length + 1)).map fun q => Classical.choose (h q), spec_of_out (by simp) fun q hq => ?_⟩
  have e : ((List.range (f.code.length + 1)).map fun q => Classical.choose (h q)).getD q 0 = Classical.choose (h q) := by simp [List.getD, hq]
  rw [e]
  exact Classical.choose_spec (h q)
theorem checksTo_zero_of {P : List Fn} (h : codeProg P = 0) (hz : ∀ f ∈ P, ∀ L, SureSpec f L → proveE P f L = 0) : ProofAns P 0 := by
  refine Or.inr ⟨h, ?_⟩
  have : ∀ fs : List Fn, (∀ f ∈ fs, f ∈ P) → ChecksTo P fs 0 := by
    intro fs
    induction fs with
    | nil => intro _; rfl
    | cons f fs ih =>
      intro hf
      obtain ⟨L, hL⟩ := sure_exists f
      exact ⟨0, ⟨L, hL, (hz f (hf f (by simp)) L hL).symm⟩, Or.inr ⟨rfl, ih (fun g hg => hf g (by simp [hg]))⟩⟩
  exact this P (fun f hf => hf)
/-- A run of a program that is grown from raw numbers: where it begins. -/
structure KRunAt (P : List Fn) (S : St) : Prop where
  right : ProofAns P 0
  inv : RunInv P S
  ev : S.events = []
theorem krun_begin {P : List Fn} (hR : ProofAns P 0) (a0 a1 fuel : Int) (l : List Int) : KRunAt P (beginSt ([a0, a1].take (par0 P).toNat) (l.take 10) (pickI fuel 300)) := by
  have hb := pickI_bounds fuel 300 (by omega)
  exact ⟨hR, runInv_begin hR _ _ _ (by rw [List.length_take]; simp; omega) (by rw [List.length_take]; omega) (by omega) (by omega), rfl⟩
/-- So many steps from where a run begins. -/
theorem krun_walk {P : List Fn} {S : St} (h : KRunAt P S) (k : Nat) : RunInv P (walkS P k S) ∧ (walkS P k S).events.length ≤ k := by
  refine ⟨runInv_walk h.right k h.inv, ?_⟩
  have := walkS_events_len P k S
  rw [h.ev] at this
  simpa using this
/-- Walk, at a state to which a run has come. -/
theorem kwalk {P : List Fn} {S : St} (hK : KRunAt P S) (k N : Nat) (hk : k ≤ 10000) (hN : N ≤ 10000) (v sv : Value) (w : World) (ht : TabOk w) (hc : CallOk w) (hv : ProgVal w v P) (hs : StVal w sv (walkS P k S)) :
    Calls Tryd.prog 21 #[.agg #[v], sv, .int .i64 N] w fun e w' => ∃ cs, e = .returned (.tuple #[.agg cs, .int .i64 0]) ∧ (Tryd.prog.info? 29).map (·.size) = some cs.size ∧ zeroStCells.size = cs.size ∧ cs.all (·.oneCell') = true ∧ StAt w' w.heap.size (.agg cs) (walkS P (k + N) S) ∧ Below w.heap.size w w' := by
  obtain ⟨h1, h2⟩ := krun_walk hK k
  refine (walk_any P v sv (walkS P k S) N w ht hc hK.right hv hs (stays_of_run hK.right h1 N) (by omega) (by omega)).mono ?_
  rintro e w' ⟨v', rfl, hst, hb⟩
  obtain ⟨cs, rfl, c1, c2, c3⟩ := hst.val.cells
  rw [walkS_add]
  exact ⟨cs, rfl, c1, c2, c3, hst, hb⟩
theorem knext {P : List Fn} {S : St} (hK : KRunAt P S) (k : Nat) (hk : k ≤ 10000) (v sv : Value) (w : World) (ht : TabOk w) (hc : CallOk w) (hv : ProgVal w v P) (hs : StVal w sv (walkS P k S)) :
    Calls Tryd.prog 8 #[.agg #[v], sv] w fun e w' => ∃ cs, e = .returned (.tuple #[.agg cs, .int .i64 0]) ∧ (Tryd.prog.info? 29).map (·.size) = some cs.size ∧ zeroStCells.size = cs.size ∧ cs.all (·.oneCell') = true ∧ StAt w' w.heap.size (.agg cs) (walkS P (k + 1) S) ∧ Below w.heap.size w w' := by
  obtain ⟨h1, h2⟩ := krun_walk hK k
  refine (next_any P v sv (walkS P k S) w ht hc hK.right hv hs (stays_of_run hK.right h1 1) (by omega)).mono ?_
  rintro e w' ⟨v', rfl, hst, hb⟩
  obtain ⟨cs, rfl, c1, c2, c3⟩ := hst.val.cells
  rw [walkS_add]
  exact ⟨cs, rfl, c1, c2, c3, hst, hb⟩
end Go.Proofs.YtiaammieldfkcaaDoor
