/- Contract of step.Begin. -/
import Derived.Test.YtfbebffncdcjeaaDoorStates
import Derived.Deep.Cut
namespace Go.Proofs.YtfbebffncdcjeaaDoor
open Go Go.RowKit

def par0 (P : List Fn) : Int := (P.getD 0 ⟨0, 0, []⟩).params
/-- How Begin refuses, behind what the proof says. -/
def beginE (E : Int) (P : List Fn) (args answers : List Int) (fuel : Int) : Int :=
  if ¬ E = 0 then E else if ¬ (args.length : Int) = par0 P ∨ 100 < answers.length then 1 else if fuel < 0 ∨ 10000 < fuel then 2 else 0
def beginS (e : Int) (args answers : List Int) (fuel : Int) : St := if e = 0 then beginSt args answers fuel else zeroSt
/-- A right program has a function 0 with at most two parameters. -/
theorem right_zero {P : List Fn} (h : ProofAns P 0) : codeProg P = 0 := by
  rcases h with ⟨h1, h2⟩ | ⟨h, _⟩
  · exact h2.symm
  · exact h
theorem right_head {w : World} {v : Value} {P : List Fn} (h : ProofAns P 0) (hv : ProgVal w v P) : ∃ b off cap, v = .slice (some ⟨b, off, none⟩) P.length cap ∧ w.cell? ⟨b, off, none⟩ = some (.int .i64 (par0 P)) ∧ 1 ≤ P.length ∧ P.length ≤ cap ∧ cap ≤ maxLen ∧ 0 ≤ par0 P ∧ par0 P ≤ 2 := by
  have h0 := right_zero h
  obtain ⟨h1, h4, hall⟩ := codeProg_zero h0
  obtain ⟨ao, b, off, n, cap, rfl, ⟨hlen, haddr, hat⟩, hcap, hmax⟩ := hv
  subst hlen
  obtain rfl := haddr (by omega)
  obtain ⟨u, d0, d1, d2, hcv⟩ := hat 0 (by omega)
  have e : par0 P = P[0].params := by unfold par0; simp [List.getD, List.getElem?_eq_getElem (show 0 < P.length by omega)]
  obtain ⟨_, _, p0, p2, _⟩ := codeFunc_zero (hall _ (List.getElem_mem (show 0 < P.length by omega)))
  refine ⟨b, off, cap, rfl, ?_, h1, hcap.1, hmax, ?_, ?_⟩
  · rw [e]; simpa using d0
  · rw [e]; exact p0
  · rw [e]; exact p2

/-- A struct is built, and laid into a block. -/
theorem wpList_build_store {P : Program} {ops : Array Oper} {rest : List Oper} {o1 o2 : Oper} {a : Act} {w : World} {Q : Exit → Act → World → Prop} (hg1 : o1.guard = none) (t : TypeId) (parts : Array (Nat × Operand)) (ho1 : o1.op = .build t parts)
    (cs : Array Value) (hf : P.built t (parts.map fun (i, x) => (i, a.eval x)).toList = some cs) (hg2 : o2.guard = none) (x y : Operand) (ho2 : o2.op = .store t x y) (g : Nat)
    (hx : (a.put o1.dst (.agg cs)).eval x = .pointer (some ⟨g, 0, none⟩)) (hy : (a.put o1.dst (.agg cs)).eval y = .agg cs) (ty : TypeId) (old : Array Value) (hg : w.heap[g]? = some (.cells old ty (0, 0))) (hi : (P.info? t).map (·.size) = some cs.size)
    (hold : old.size = cs.size) (h1 : cs.all (·.oneCell') = true) (h : wpList P ops Q rest ((a.put o1.dst (.agg cs)).put o2.dst undef) (w.setRow g cs)) : wpList P ops Q (o1 :: o2 :: rest) a w := by
  refine wpList_build hg1 t parts ho1 (by rw [hf]; rfl) ?_
  rw [hf]
  exact wpList_store_row hg2 t x y ho2 g cs hx hy ty old hg hi hold h1 h
theorem stCells_one (s : St) (fv ev av : Value) (h1 : fv.oneCell' = true) (h2 : ev.oneCell' = true) (h3 : av.oneCell' = true) : (stCells s fv ev av).toArray.all (·.oneCell') = true := by
  rw [Array.all_eq_true_iff_forall_mem]
  intro u hu
  simp [stCells] at hu
  rcases hu with rfl | rfl | rfl | hu | rfl | rfl | rfl
  · rfl
  · rfl
  · exact h1
  · exact i64s_one _ u hu
  · rfl
  · exact h2
  · exact h3
theorem zeroSt_one : zeroStCells.all (·.oneCell') = true := stCells_one _ _ _ _ rfl rfl rfl
theorem built_zero : Tryd.prog.built 29 [] = some zeroStCells := by kernel_rfl
theorem built_begin (a1 a2 : Option Addr) (n1 c1 n2 c2 : Nat) (fuel : Int) : Tryd.prog.built 29 [(2, .slice a1 n1 c1), (4, .int .i64 fuel), (6, .slice a2 n2 c2)] = some (stCells ⟨0, 0, [], noMem, fuel, [], []⟩ (.slice a1 n1 c1) (.slice none 0 0) (.slice a2 n2 c2)).toArray := by kernel_rfl

theorem list12 {l : List Int} (h : l.length = 12) : ∃ r0 r1 r2 r3 r4 r5 r6 r7 r8 r9 r10 r11, l = [r0, r1, r2, r3, r4, r5, r6, r7, r8, r9, r10, r11] := by
  match l, h with
  | [r0, r1, r2, r3, r4, r5, r6, r7, r8, r9, r10, r11], _ => exact ⟨r0, r1, r2, r3, r4, r5, r6, r7, r8, r9, r10, r11, rfl⟩
/-- A row of one frame. -/
theorem one_frame {w : World} {g : Nat} {f : Fr} (hf : f.regs.length = 12) (h : w.heap[g]? = some (.cells (frCells f).toArray 56 (0, 0))) : w.ownsRow g 56 14 (.slice (some ⟨g, 0, none⟩) 1 1) 1 (framesCells [f]) := by
  have hl := frCells_length f hf
  have e : framesCells [f] = frCells f := by simp [framesCells]
  rw [e]
  exact ⟨by omega, .inr ⟨g, 1, _, rfl, Nat.le_refl _, h, Nat.le_refl _, by simp [maxLen], by simp [hl], by simp; rw [List.take_of_length_le (by omega)]⟩⟩

theorem beginS_zero (args answers : List Int) (fuel : Int) : beginS 0 args answers fuel = beginSt args answers fuel := by unfold beginS; rw [if_pos rfl]
theorem setRow_other (w : World) (g : Nat) (cs : Array Value) (k : Nat) (h : k ≠ g) : (w.setRow g cs).heap[k]? = w.heap[k]? := by
  simp only [World.setRow, Array.getElem?_modify]; rw [if_neg (fun e => h e.symm)]
theorem ownsRow_setRow {w : World} {base t size n : Nat} {v : Value} {xs : List Value} (h : w.ownsRow base t size v n xs) {g : Nat} (hg : g < base) (cs : Array Value) : (w.setRow g cs).ownsRow base t size v n xs := by
  refine ⟨h.1, ?_⟩
  rcases h.2 with h2 | ⟨g', cap, cur, hv, hb, hh, r⟩
  · exact Or.inl h2
  · exact Or.inr ⟨g', cap, cur, hv, hb, (setRow_other w g cs g' (by omega)).trans hh, r⟩
/-- What Begin answers. -/
def BeginPost (P : List Fn) (args answers : List Int) (fuel : Int) (w : World) (e : Ending) (w' : World) : Prop :=
  ∃ E v', ProofAns P E ∧ e = .returned (.tuple #[v', .int .i64 (beginE E P args answers fuel)]) ∧ StVal w' v' (beginS (beginE E P args answers fuel) args answers fuel) ∧ Below w.heap.size w w'
set_option maxRecDepth 100000 in
set_option maxHeartbeats 1000000 in
theorem begin_any (P : List Fn) (v va vn : Value) (args answers : List Int) (fuel : Int) (w : World) (ht : TabOk w) (hc : CallOk w) (hv : ProgVal w v P) (hva : IntsVal w va args) (hvn : IntsVal w vn answers) :
    Calls Tryd.prog 9 #[.agg #[v], va, vn, .int .i64 fuel] w (BeginPost P args answers fuel w) := by
  have hbx : ∀ o o', Below w.heap.size w ((w.alloc o).alloc o') := fun o o' => ((Below.refl _ _).alloc (Nat.le_refl _) _).alloc (by simp) _
  have hC := fun o o' => pcheck_any P v ((w.alloc o).alloc o') (ht.below (hbx o o')) (hc.below (hbx o o')) (hv.keeps (keeps_below (hbx o o')))
  obtain ⟨aa, ca, rfl⟩ := hva.shape
  obtain ⟨an, cn, rfl⟩ := hvn.shape
  have HV : Hid (ProgVal w v P) := hv
  have HA : Hid (IntsVal w (.slice aa args.length ca) args) := hva
  have HN : Hid (IntsVal w (.slice an answers.length cn) answers) := hvn
  obtain ⟨ao, n0, cap0, rfl⟩ := hv.shape
  clear hv hva hvn ht hc
  go_enter Tryd.func9, Tryd.ntmps9
  go_upto_region 2 with (go_at_call 25; refine (hC _ _).mono ?_; rintro e w1 ⟨E, rfl, hE, hb1⟩)
  have k0 := keeps_below hb1 ⟨w.heap.size, 0, none⟩ (.slice ao n0 cap0) (by rw [cell_of_row _ _ _ _ _ _ (heap_alloc2_old _ _ _)]; rfl)
  have hz8 : w1.heap[w.heap.size + 1]? = some (.cells zeroStCells 29 (0, 0)) := (hb1.block _ (by simp)).trans (heap_alloc2_new _ _ _)
  have hsz : w.heap.size + 2 ≤ w1.heap.size := by have := hb1.size; simpa using this
  have HB1 : Hid (Below w.heap.size w w1) := (hbx _ _).trans (hb1.mono (by simp; omega))
  clear hb1 hC
  by_cases hE0 : E = 0
  · subst hE0
    obtain ⟨b, off, cap, hvs, d0, hp1, hpc, hcm, q0, q2⟩ := right_head hE (HV.out.keeps (keeps_below HB1.out))
    obtain ⟨rfl, rfl, rfl⟩ : ao = some ⟨b, off, none⟩ ∧ n0 = P.length ∧ cap0 = cap := by simpa using hvs
    clear hvs
    unfold maxLen at hcm
    have HE : Hid (ProofAns P 0) := hE
    have hA1 := HA.out.keeps (keeps_below HB1.out)
    have hN1 := HN.out.keeps (keeps_below HB1.out)
    by_cases c1 : (args.length : Int) = par0 P
    · by_cases c2 : 100 < answers.length
      · have HR : Hid (beginE 0 P args answers fuel = 1) := by show _ = _; unfold beginE; rw [if_neg (by simp), if_pos (Or.inr c2)]
        have c2I : decide ((100 : Int) < answers.length) = true := by simp; omega
        clear hE hA1 hN1
        go_wp2_with (first | (refine wpList_build_store rfl _ _ rfl zeroStCells (by simpa using built_zero) rfl _ _ rfl _ rfl rfl _ _ hz8 infoSt rfl zeroSt_one ?_) | (refine wpList_store_row rfl _ _ _ rfl _ zeroStCells rfl rfl _ _ hz8 infoSt rfl zeroSt_one ?_))
        try simp only [Exit.inBlock, Exit.then]
        refine bodyPost_ret (results_row_tmp rfl _ _ (w.heap.size + 1) 29 zeroStCells (0, 0) _ rfl (setRow_heap _ _ _ _ _ _ hz8) Tryd.underlying29 rfl infoSt) rfl ⟨_, _, HE.out, by rw [HR.out]; rfl, by rw [HR.out]; exact zero_stVal _, below_setRow HB1.out (by omega) _⟩
      · have c2I : decide ((100 : Int) < answers.length) = false := by simp; omega
        by_cases c3 : fuel < 0
        · have HR : Hid (beginE 0 P args answers fuel = 2) := by show _ = _; unfold beginE; rw [if_neg (by simp), if_neg (by omega), if_pos (Or.inl c3)]
          clear hE hA1 hN1
          go_wp2_with (first | (refine wpList_build_store rfl _ _ rfl zeroStCells (by simpa using built_zero) rfl _ _ rfl _ rfl rfl _ _ hz8 infoSt rfl zeroSt_one ?_) | (refine wpList_store_row rfl _ _ _ rfl _ zeroStCells rfl rfl _ _ hz8 infoSt rfl zeroSt_one ?_))
          try simp only [Exit.inBlock, Exit.then]
          refine bodyPost_ret (results_row_tmp rfl _ _ (w.heap.size + 1) 29 zeroStCells (0, 0) _ rfl (setRow_heap _ _ _ _ _ _ hz8) Tryd.underlying29 rfl infoSt) rfl ⟨_, _, HE.out, by rw [HR.out]; rfl, by rw [HR.out]; exact zero_stVal _, below_setRow HB1.out (by omega) _⟩
        · by_cases c4 : 10000 < fuel
          · have HR : Hid (beginE 0 P args answers fuel = 2) := by show _ = _; unfold beginE; rw [if_neg (by simp), if_neg (by omega), if_pos (Or.inr c4)]
            clear hE hA1 hN1
            go_wp2_with (first | (refine wpList_build_store rfl _ _ rfl zeroStCells (by simpa using built_zero) rfl _ _ rfl _ rfl rfl _ _ hz8 infoSt rfl zeroSt_one ?_) | (refine wpList_store_row rfl _ _ _ rfl _ zeroStCells rfl rfl _ _ hz8 infoSt rfl zeroSt_one ?_))
            try simp only [Exit.inBlock, Exit.then]
            refine bodyPost_ret (results_row_tmp rfl _ _ (w.heap.size + 1) 29 zeroStCells (0, 0) _ rfl (setRow_heap _ _ _ _ _ _ hz8) Tryd.underlying29 rfl infoSt) rfl ⟨_, _, HE.out, by rw [HR.out]; rfl, by rw [HR.out]; exact zero_stVal _, below_setRow HB1.out (by omega) _⟩
          · have HR : Hid (beginE 0 P args answers fuel = 0) := by show _ = _; unfold beginE; rw [if_neg (by simp), if_neg (by omega), if_neg (by omega)]
            have hal : args.length ≤ 12 := by omega
            have hBG := begun_any 0 _ args w1 hA1 hal
            have h12 := regsOf_length args hal
            obtain ⟨r0, r1, r2, r3, r4, r5, r6, r7, r8, r9, r10, r11, hrr⟩ := list12 h12
            have efc : frCells (begunFr 0 args) = [.int .i64 0, .int .i64 0, .int .i64 r0, .int .i64 r1, .int .i64 r2, .int .i64 r3, .int .i64 r4, .int .i64 r5, .int .i64 r6, .int .i64 r7, .int .i64 r8, .int .i64 r9, .int .i64 r10, .int .i64 r11] := by
              unfold frCells begunFr
              dsimp only
              rw [hrr]; rfl
            rw [efc] at hBG
            have HFC : Hid (frCells (begunFr 0 args) = [.int .i64 0, .int .i64 0, .int .i64 r0, .int .i64 r1, .int .i64 r2, .int .i64 r3, .int .i64 r4, .int .i64 r5, .int .i64 r6, .int .i64 r7, .int .i64 r8, .int .i64 r9, .int .i64 r10, .int .i64 r11]) := efc
            have H12 : Hid ((regsOf args).length = 12) := h12
            have HN1 : Hid (IntsVal w1 (.slice an answers.length cn) answers) := hN1
            have HC1 : Hid ((args.length : Int) = par0 P) := c1
            clear hE hA1 hN1 efc hrr h12
            go_wp2_with (first
              | (go_at_call 28; refine hBG.mono ?_; rintro e w2 ⟨rfl, hb2⟩; have hz8b := (hb2.block _ (show w.heap.size + 1 < w1.heap.size by omega)).trans hz8; clear hBG)
              | (go_at_call 29; refine (clone_ints _ answers _ (HN1.out.keeps (keeps_below (hb2.alloc hb2.size _))) (by omega)).mono ?_; rintro e w3 ⟨v3, rfl, ho3, hb3⟩; obtain ⟨a3, c3', rfl⟩ := own_shape ho3; have hz8c : w3.heap[w.heap.size + 1]? = some (.cells zeroStCells 29 (0, 0)) := (hb3.block _ (by have := hb2.size; simp; omega)).trans ((heap_alloc_old _ _ (by have := hb2.size; omega)).trans hz8b))
              | (refine wpList_build_store rfl _ _ rfl (stCells ⟨0, 0, [], noMem, fuel, [], []⟩ (.slice (some ⟨w2.heap.size, 0, none⟩) 1 1) (.slice none 0 0) (.slice a3 answers.length c3')).toArray (by simpa [Act.eval, Act.put] using built_begin (some ⟨w2.heap.size, 0, none⟩) a3 1 1 answers.length c3' fuel) rfl _ _ rfl _ rfl rfl _ _ hz8c infoSt rfl (stCells_one _ _ _ _ rfl rfl rfl) ?_))
            have hsz2 := hb2.size
            have hsz3 := hb3.size
            have HF : Hid (w3.heap[w2.heap.size]? = some (.cells (frCells (begunFr 0 args)).toArray 56 (0, 0))) := by
              show _ = _
              rw [hb3.block _ (by simp), HFC.out]
              exact heap_alloc_last _ _
            have hstl := stCells_length ⟨0, 0, [], noMem, fuel, [], []⟩ (.slice (some ⟨w2.heap.size, 0, none⟩) 1 1) (.slice none 0 0) (.slice a3 answers.length c3') rfl
            have hsi : (Tryd.prog.info? 29).map (·.size) = some (stCells ⟨0, 0, [], noMem, fuel, [], []⟩ (.slice (some ⟨w2.heap.size, 0, none⟩) 1 1) (.slice none 0 0) (.slice a3 answers.length c3')).toArray.size := by rw [List.size_toArray, hstl]; exact infoSt
            try simp only [Exit.inBlock, Exit.then]
            refine bodyPost_ret (results_row_tmp rfl _ _ (w.heap.size + 1) 29 _ (0, 0) _ rfl (setRow_heap _ _ _ _ _ _ hz8c) Tryd.underlying29 rfl hsi) rfl ⟨_, _, HE.out, by rw [HR.out]; rfl, ?_, ?_⟩
            · rw [HR.out, beginS_zero]
              refine ⟨_, _, _, rfl, rfl, frames_of_own (fun f hf => ?_) (one_frame H12.out ((setRow_other _ _ _ _ (by omega)).trans HF.out)), ints_nil _, ints_of_own (ownsRow_setRow ho3 (by simp; omega) _)⟩
              have hf' : f ∈ [begunFr 0 args] := hf
              rw [List.mem_singleton] at hf'
              rw [hf']; exact H12.out
            · exact below_setRow (((HB1.out.trans (hb2.mono (by omega))).alloc (by omega) _).trans (hb3.mono (by simp; omega))) (by omega) _
    · have HR : Hid (beginE 0 P args answers fuel = 1) := by show _ = _; unfold beginE; rw [if_neg (by simp), if_pos (Or.inl c1)]
      clear hE hA1 hN1
      go_wp2_with (first | (refine wpList_build_store rfl _ _ rfl zeroStCells (by simpa using built_zero) rfl _ _ rfl _ rfl rfl _ _ hz8 infoSt rfl zeroSt_one ?_) | (refine wpList_store_row rfl _ _ _ rfl _ zeroStCells rfl rfl _ _ hz8 infoSt rfl zeroSt_one ?_))
      try simp only [Exit.inBlock, Exit.then]
      refine bodyPost_ret (results_row_tmp rfl _ _ (w.heap.size + 1) 29 zeroStCells (0, 0) _ rfl (setRow_heap _ _ _ _ _ _ hz8) Tryd.underlying29 rfl infoSt) rfl ⟨_, _, HE.out, by rw [HR.out]; rfl, by rw [HR.out]; exact zero_stVal _, below_setRow HB1.out (by omega) _⟩
  · have HE : Hid (ProofAns P E) := hE
    have HR : Hid (beginE E P args answers fuel = E) := by show _ = _; unfold beginE; rw [if_pos hE0]
    have HS : Hid (∀ a b c, beginS E a b c = zeroSt) := fun a b c => by unfold beginS; rw [if_neg hE0]
    clear hE
    go_wp2_with (first | (refine wpList_build_store rfl _ _ rfl zeroStCells (by simpa using built_zero) rfl _ _ rfl _ rfl rfl _ _ hz8 infoSt rfl zeroSt_one ?_) | (refine wpList_store_row rfl _ _ _ rfl _ zeroStCells rfl rfl _ _ hz8 infoSt rfl zeroSt_one ?_))
    try simp only [Exit.inBlock, Exit.then]
    refine bodyPost_ret (results_row_tmp rfl _ _ (w.heap.size + 1) 29 zeroStCells (0, 0) _ rfl (setRow_heap _ _ _ _ _ _ hz8) Tryd.underlying29 rfl infoSt) rfl ⟨_, _, HE.out, by rw [HR.out]; rfl, by rw [HR.out, HS.out]; exact zero_stVal _, below_setRow HB1.out (by omega) _⟩
end Go.Proofs.YtfbebffncdcjeaaDoor
