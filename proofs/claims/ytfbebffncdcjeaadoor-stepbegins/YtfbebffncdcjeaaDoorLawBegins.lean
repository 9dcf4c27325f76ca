/- The walk of tierlinelaw.StepBegins: at every program, arguments, answers and fuel it says true, and nothing that was there has turned. -/
import Derived.Test.YtfbebffncdcjeaaDoorRefBegin
import Derived.Test.YtfbebffncdcjeaaDoorSameSt
namespace Go.Proofs.YtfbebffncdcjeaaDoor
open Go Go.RowKit

theorem wpList_load_wanted {P : Program} {ops : Array Oper} {rest : List Oper} {o : Oper} {a : Act} {w : World} {Q : Exit → Act → World → Prop} (hw : Region.wanted o (yielded ops a.tmps) = true) (ty : TypeId) (x : Operand) (ho : o.op = .load ty x)
    (g : Nat) (hx : a.eval x = .pointer (some ⟨g, 0, none⟩)) (t : TypeId) (cs : Array Value) (fr : Nat × Nat) (d : TypeDesc) (hg : w.heap[g]? = some (.cells cs t fr))
    (hu : P.underlying ty = some d) (hd : (match d with | .struct _ | .array _ _ => true | _ => false) = true) (hi : (P.info? ty).map (·.size) = some cs.size)
    (h : wpList P ops Q rest (a.put o.dst (.agg cs)) w) : wpList P ops Q (o :: rest) a w := by
  simp only [wpList, hw, if_true]
  exact Or.inl (wp_load_row ty x ho g hx t cs fr d hg hu hd hi h)
theorem stVal_row {w : World} {v : Value} {s : St} (h : StVal w v s) : ∃ cs : Array Value, v = .agg cs ∧ (Tryd.prog.info? 29).map (·.size) = some cs.size ∧ cs.size = 22 ∧ cs.all (·.oneCell') = true := by
  obtain ⟨fv, ev, av, rfl, hm, hf, he, ha⟩ := h
  obtain ⟨fa, fc, rfl⟩ := hf.shape
  obtain ⟨ea, ec, rfl⟩ := he.shape
  obtain ⟨aa, ac, rfl⟩ := ha.shape
  have hl := stCells_length s (.slice fa s.frames.length fc) (.slice ea s.events.length ec) (.slice aa s.answers.length ac) hm
  exact ⟨_, rfl, by rw [List.size_toArray, hl]; exact infoSt, by rw [List.size_toArray, hl], stCells_one _ _ _ _ rfl rfl rfl⟩

set_option maxRecDepth 100000 in
set_option maxHeartbeats 2000000 in
theorem stepBegins_walk (P : List Fn) (v va vn : Value) (args answers : List Int) (fuel : Int) (w : World) (ht : TabOk w) (hc : CallOk w) (hv : ProgVal w v P) (hva : IntsVal w va args) (hvn : IntsVal w vn answers)
    (hs : P.length * 40 ≤ 140737488355328) (hs' : ∀ f ∈ P, f.code.length * 40 ≤ 140737488355328) (h1 : args.length * 8 ≤ 140737488355328) (h2 : answers.length * 8 ≤ 140737488355328) :
    Calls Tryd.prog 3 #[.agg #[v], va, vn, .int .i64 fuel] w fun e w' => e = .returned (.bool true) ∧ Below w.heap.size w w' := by
  obtain ⟨ao, n, cap, rfl⟩ := hv.shape
  obtain ⟨aa, ca, rfl⟩ := hva.shape
  obtain ⟨an, cn, rfl⟩ := hvn.shape
  have HT : Hid (∀ W, Below w.heap.size w W → TabOk W ∧ CallOk W ∧ ProgVal W (.slice ao n cap) P ∧ IntsVal W (.slice aa args.length ca) args ∧ IntsVal W (.slice an answers.length cn) answers) := fun W hW => ⟨ht.below hW, hc.below hW, hv.keeps (keeps_below hW), hva.keeps (keeps_below hW), hvn.keeps (keeps_below hW)⟩
  have B0 : ∀ o, Below w.heap.size w (w.alloc o) := fun o => (Below.refl _ _).alloc (Nat.le_refl _) _
  clear hv hva hvn ht hc
  go_enter Tryd.func3, Tryd.ntmps3
  go_wp2_with (first
    | (go_at_call 10; refine (programs_any P _ _ (HT.out _ (B0 _)).2.2.1 hs hs').mono ?_; rintro e w1 ⟨v1, rfl, hp1, hb1⟩; have B1 : Below w.heap.size w w1 := (B0 _).trans (hb1.mono (by simp)); have k1 := keeps_below hb1 ⟨w.heap.size, 0, none⟩ (.slice ao n cap) (by simp); have z1 : w.heap.size < w1.heap.size := (by have := hb1.size; simp at this; omega); clear hs hb1 B0)
    | (go_at_call 11; refine (ints_any _ args _ (HT.out _ B1).2.2.2.1 h1).mono ?_; rintro e w2 ⟨v2, rfl, ho2, hb2⟩; have B2 : Below w.heap.size w w2 := B1.trans (hb2.mono (by omega)); have k2 := keeps_below hb2 _ _ k1; have hp2 := hp1.keeps (keeps_below hb2); have hi2 := ints_of_own ho2; have z2 : w.heap.size < w2.heap.size := (by have := hb2.size; omega); clear h1 ho2 hb2 hp1 k1)
    | (go_at_call 11; refine (ints_any _ answers _ (HT.out _ B2).2.2.2.2 h2).mono ?_; rintro e w3 ⟨v3, rfl, ho3, hb3⟩; have B3 : Below w.heap.size w w3 := B2.trans (hb3.mono (by omega)); have k3 := keeps_below hb3 _ _ k2; have hp3 := hp2.keeps (keeps_below hb3); have hi2' := hi2.keeps (keeps_below hb3); have hi3 := ints_of_own ho3; have z3 : w.heap.size < w3.heap.size := (by have := hb3.size; omega); clear ho3 hb3 hp2 k2 hi2)
    | (go_at_call 9; refine (begin_any P _ _ _ args answers fuel _ (HT.out _ B3).1 (HT.out _ B3).2.1 hp3 hi2' hi3).mono ?_; rintro e w4 ⟨E, v4, hE, rfl, hst, hb4⟩; have B4 : Below w.heap.size w w4 := B3.trans (hb4.mono (by omega)); have k4 := keeps_below hb4 _ _ k3; have HE : Hid (ProofAns P E) := hE; have HS4 : Hid (StVal w4 v4 (beginS (beginE E P args answers fuel) args answers fuel)) := hst; obtain ⟨cs4, rfl, q4, r4, s4⟩ := stVal_row hst; have z4 : w.heap.size < w4.heap.size := (by have := hb4.size; omega); clear hb4 hp3 hi2' hi3 k3 hE hst)
    | (refine wpList_store_row rfl _ _ _ rfl _ _ rfl rfl _ _ (heap_alloc_last w4 _) q4 (by rw [r4]; rfl) s4 ?_; rw [World.setRow_alloc_new]; have B5 : Below w.heap.size w (w4.alloc (.cells cs4 29)) := B4.alloc (by omega) _; have h5 : (w4.alloc (.cells cs4 29)).heap[w4.heap.size]? = some (.cells cs4 29 (0, 0)) := heap_alloc_last _ _; have HS5 : Hid (StVal (w4.alloc (.cells cs4 29)) (.agg cs4) (beginS (beginE E P args answers fuel) args answers fuel)) := HS4.out.keeps (keeps_below ((Below.refl _ _).alloc (Nat.le_refl _) _)); clear s4 HS4)
    | (go_at_call 12; refine (begun_ref P _ _ _ args answers fuel _ (HT.out _ B5).2.2.1 (HT.out _ B5).2.2.2.1 (HT.out _ B5).2.2.2.2).mono ?_; rintro e w6 ⟨E', v6, hE', rfl, hst, hb6⟩; obtain rfl := proofAns_unique HE.out hE'; have B6 : Below w.heap.size w w6 := B5.trans (hb6.mono (by simp; omega)); have h6 : w6.heap[w4.heap.size]? = some (.cells cs4 29 (0, 0)) := (hb6.block _ (by simp)).trans h5; have HS6 : Hid (StVal w6 (.agg cs4) (beginS (beginE E P args answers fuel) args answers fuel)) := HS5.out.keeps (keeps_below hb6); have HT6 : Hid (StVal w6 v6 (beginS (beginE E P args answers fuel) args answers fuel)) := hst; obtain ⟨cs6, rfl, q6, r6, s6⟩ := stVal_row hst; have z6 : w4.heap.size < w6.heap.size := (by have := hb6.size; simp at this; omega); clear hb6 hE' hst h5 HS5 HE)
    | (refine wpList_store_row rfl _ _ _ rfl _ _ rfl rfl _ _ (heap_alloc_last w6 _) q6 (by rw [r6]; rfl) s6 ?_; rw [World.setRow_alloc_new]; have B7 : Below w.heap.size w (w6.alloc (.cells cs6 29)) := B6.alloc (by omega) _; have h7 : (w6.alloc (.cells cs6 29)).heap[w4.heap.size]? = some (.cells cs4 29 (0, 0)) := (heap_alloc_old _ _ z6).trans h6; have h7' : (w6.alloc (.cells cs6 29)).heap[w6.heap.size]? = some (.cells cs6 29 (0, 0)) := heap_alloc_last _ _; have HS7 : Hid (StVal (w6.alloc (.cells cs6 29)) (.agg cs4) (beginS (beginE E P args answers fuel) args answers fuel)) := HS6.out.keeps (keeps_below ((Below.refl _ _).alloc (Nat.le_refl _) _)); have HT7 : Hid (StVal (w6.alloc (.cells cs6 29)) (.agg cs6) (beginS (beginE E P args answers fuel) args answers fuel)) := HT6.out.keeps (keeps_below ((Below.refl _ _).alloc (Nat.le_refl _) _)); clear s6 HS6 HT6)
    | (refine wpList_load_wanted rfl _ _ rfl w4.heap.size rfl _ _ _ _ h7 Tryd.underlying29 rfl q4 ?_)
    | (refine wpList_load_wanted rfl _ _ rfl w6.heap.size rfl _ _ _ _ h7' Tryd.underlying29 rfl q6 ?_)
    | (go_at_call 13; refine (sameState_law _ _ _ _ HS7.out HT7.out).mono ?_; rintro e w8 ⟨rfl, hb8⟩))
  go_ret
  exact ⟨rfl, B7.trans (hb8.mono (by have := B7.size; omega))⟩
end Go.Proofs.YtfbebffncdcjeaaDoor
