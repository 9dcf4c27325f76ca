/- States whose lists lie at a base and above; step.Begin again, with that. -/
import Derived.Test.YtiaammieldfkcaaDoorGroupC
import Derived.Test.YtiaammieldfkcaaDoorGroupD
namespace Go.Proofs.YtiaammieldfkcaaDoor
open Go Go.RowKit

/-- What a slice leads to lies at a base and above. -/
def LowV (base : Nat) (v : Value) : Prop := ∀ a n cp, v = .slice (some a) n cp → 0 < n → base ≤ a.block
theorem low_nil (base : Nat) : LowV base (.slice none 0 0) := fun a n cp e _ => by cases e
theorem low_own {w : World} {base b t size n : Nat} {v : Value} {xs : List Value} (h : w.ownsRow b t size v n xs) (hb : base ≤ b) : LowV base v := fun a n cp e _ => by
  rcases h.2 with ⟨e1, _⟩ | ⟨g1, cap1, cur1, e1, hb1, _⟩
  · rw [e] at e1; cases e1
  · rw [e] at e1; cases e1; exact Nat.le_trans hb hb1
/-- A state whose lists lie at a base and above. -/
def StAt (w : World) (base : Nat) (v : Value) (s : St) : Prop := ∃ fv ev av, v = .agg (stCells s fv ev av).toArray ∧ s.mem.length = 16 ∧ FramesVal w fv s.frames ∧ IntsVal w ev s.events ∧ IntsVal w av s.answers ∧ LowV base fv ∧ LowV base ev ∧ LowV base av
theorem StAt.val {w : World} {base : Nat} {v : Value} {s : St} (h : StAt w base v s) : StVal w v s := by
  obtain ⟨fv, ev, av, rfl, hm, h1, h2, h3, _⟩ := h
  exact ⟨fv, ev, av, rfl, hm, h1, h2, h3⟩
theorem zero_stAt (w : World) (base : Nat) : StAt w base (.agg zeroStCells) zeroSt := ⟨_, _, _, rfl, rfl, frames_nil w, ints_nil w, ints_nil w, low_nil _, low_nil _, low_nil _⟩
theorem ints_moved {w W : World} {base : Nat} {v : Value} {l : List Int} (h : IntsVal w v l) (hl : LowV base v) (hk : ∀ (a : Addr) u, base ≤ a.block → w.cell? a = some u → W.cell? a = some u) : IntsVal W v l := by
  obtain ⟨ao, b, off, n, cap, rfl, h1, ha, hc, hcp, hm⟩ := h
  refine ⟨ao, b, off, n, cap, rfl, h1, ha, fun k hkl => ?_, hcp, hm⟩
  have e := ha (by omega)
  exact hk _ _ (hl ⟨b, off, none⟩ n cap (by rw [e]) (by omega)) (hc k hkl)
theorem frames_moved {w W : World} {base : Nat} {v : Value} {fs : List Fr} (h : FramesVal w v fs) (hl : LowV base v) (hk : ∀ (a : Addr) u, base ≤ a.block → w.cell? a = some u → W.cell? a = some u) : FramesVal W v fs := by
  obtain ⟨hw, ao, b, off, n, cap, rfl, h1, ha, hc, hcp, hm⟩ := h
  refine ⟨hw, ao, b, off, n, cap, rfl, h1, ha, fun k hkl j u hu => ?_, hcp, hm⟩
  have e := ha (by omega)
  exact hk _ _ (hl ⟨b, off, none⟩ n cap (by rw [e]) (by omega)) (hc k hkl j u hu)
/-- It is there still where all that lies at the base and above is as it was. -/
theorem StAt.moved {w W : World} {base : Nat} {v : Value} {s : St} (h : StAt w base v s) (hk : ∀ (a : Addr) u, base ≤ a.block → w.cell? a = some u → W.cell? a = some u) : StAt W base v s := by
  obtain ⟨fv, ev, av, rfl, hm, h1, h2, h3, l1, l2, l3⟩ := h
  exact ⟨fv, ev, av, rfl, hm, frames_moved h1 l1 hk, ints_moved h2 l2 hk, ints_moved h3 l3 hk, l1, l2, l3⟩
theorem StAt.setRow {w : World} {base r : Nat} {v : Value} {s : St} (h : StAt w base v s) (hr : r < base) (cs : Array Value) : StAt (w.setRow r cs) base v s :=
  h.moved fun a _ ha hu => (World.cell?_of_block (setRow_other w r cs _ (by omega))).trans hu
theorem StAt.setCell {w : World} {base : Nat} {v : Value} {s : St} (h : StAt w base v s) {p : Addr} (hr : p.block < base) (u : Value) : StAt (w.setCell p u) base v s :=
  h.moved fun a _ ha hu => (World.cell?_of_block (heap_setCell_other w p _ u (by omega))).trans hu
theorem StAt.below {w w' : World} {base : Nat} {v : Value} {s : St} (h : StAt w base v s) (hb : Below w.heap.size w w') : StAt w' base v s := h.moved fun a u _ hu => keeps_below hb a u hu
theorem StAt.mono {w : World} {base base' : Nat} {v : Value} {s : St} (h : StAt w base v s) (hb : base' ≤ base) : StAt w base' v s := by
  obtain ⟨fv, ev, av, rfl, hm, h1, h2, h3, l1, l2, l3⟩ := h
  exact ⟨fv, ev, av, rfl, hm, h1, h2, h3, fun a n cp e hn => Nat.le_trans hb (l1 a n cp e hn), fun a n cp e hn => Nat.le_trans hb (l2 a n cp e hn), fun a n cp e hn => Nat.le_trans hb (l3 a n cp e hn)⟩
/-- A state's cells. -/
theorem StVal.cells {w : World} {v : Value} {S : St} (h : StVal w v S) : ∃ cs : Array Value, v = .agg cs ∧ (Tryd.prog.info? 29).map (·.size) = some cs.size ∧ zeroStCells.size = cs.size ∧ cs.all (·.oneCell') = true := by
  obtain ⟨fv, ev, av, rfl, hm, hf, he, ha⟩ := h
  obtain ⟨fa, fc, rfl⟩ := hf.shape
  obtain ⟨ea, ec, rfl⟩ := he.shape
  obtain ⟨aa, ac, rfl⟩ := ha.shape
  refine ⟨_, rfl, ?_, ?_, stCells_one _ _ _ _ rfl rfl rfl⟩
  · rw [List.size_toArray, stCells_length _ _ _ _ hm]; exact infoSt
  · exact (show zeroStCells.size = 22 from rfl).trans (by rw [List.size_toArray, stCells_length _ _ _ _ hm])
/-- What Begin answers. -/
def BeginAt (P : List Fn) (args answers : List Int) (fuel : Int) (w : World) (e : Ending) (w' : World) : Prop :=
  ∃ E v', ProofAns P E ∧ e = .returned (.tuple #[v', .int .i64 (beginE E P args answers fuel)]) ∧ StAt w' w.heap.size v' (beginS (beginE E P args answers fuel) args answers fuel) ∧ Below w.heap.size w w'
set_option maxRecDepth 100000 in
set_option maxHeartbeats 1000000 in
theorem begin_at (P : List Fn) (v va vn : Value) (args answers : List Int) (fuel : Int) (w : World) (ht : TabOk w) (hc : CallOk w) (hv : ProgVal w v P) (hva : IntsVal w va args) (hvn : IntsVal w vn answers) :
    Calls Tryd.prog 25 #[.agg #[v], va, vn, .int .i64 fuel] w (BeginAt P args answers fuel w) := by
  have hbx : ∀ o o', Below w.heap.size w ((w.alloc o).alloc o') := fun o o' => ((Below.refl _ _).alloc (Nat.le_refl _) _).alloc (by simp) _
  have hC := fun o o' => pcheck_any P v ((w.alloc o).alloc o') (ht.below (hbx o o')) (hc.below (hbx o o')) (hv.keeps (keeps_below (hbx o o')))
  obtain ⟨aa, ca, rfl⟩ := hva.shape
  obtain ⟨an, cn, rfl⟩ := hvn.shape
  have HV : Hid (ProgVal w v P) := hv
  have HA : Hid (IntsVal w (.slice aa args.length ca) args) := hva
  have HN : Hid (IntsVal w (.slice an answers.length cn) answers) := hvn
  obtain ⟨ao, n0, cap0, rfl⟩ := hv.shape
  clear hv hva hvn ht hc
  go_enter Tryd.func25, Tryd.ntmps25
  go_upto_region 2 with (go_at_call 38; refine (hC _ _).mono ?_; rintro e w1 ⟨E, rfl, hE, hb1⟩)
  have k0 := keeps_below hb1 ⟨w.heap.size, 0, none⟩ (.slice ao n0 cap0) (by rw [cell_of_row _ _ _ _ _ _ (heap_alloc2_old _ _ _)]; rfl)
  have hz8 : w1.heap[w.heap.size + 1]? = some (.cells zeroStCells 29 (0, 0)) := (hb1.block _ (by simp)).trans (heap_alloc2_new _ _ _)
  have hsz : w.heap.size + 2 ≤ w1.heap.size := by have := hb1.size; simpa using this
  have HB1 : Hid (Below w.heap.size w w1) := (hbx _ _).trans (hb1.mono (by simp; omega))
  clear hb1 hC
  by_cases hE0 : E = 0
  · subst hE0
    obtain ⟨b, off, cap, hvs, d0, hp1, hpc, hcm, q0, q2⟩ := right_head hE (HV.out.keeps (keeps_below HB1.out))
    obtain ⟨rfl, rfl, rfl⟩ : ao = some ⟨b, off, none⟩ ∧ n0 = P.length ∧ cap0 = cap := by simpa using hvs
    clear hvs
    unfold maxLen at hcm
    have HE : Hid (ProofAns P 0) := hE
    have hA1 := HA.out.keeps (keeps_below HB1.out)
    have hN1 := HN.out.keeps (keeps_below HB1.out)
    by_cases c1 : (args.length : Int) = par0 P
    · by_cases c2 : 100 < answers.length
      · have HR : Hid (beginE 0 P args answers fuel = 1) := by show _ = _; unfold beginE; rw [if_neg (by simp), if_pos (Or.inr c2)]
        have c2I : decide ((100 : Int) < answers.length) = true := by simp; omega
        clear hE hA1 hN1
        go_wp2_with (first | (refine wpList_build_store rfl _ _ rfl zeroStCells (by simpa using built_zero) rfl _ _ rfl _ rfl rfl _ _ hz8 infoSt rfl zeroSt_one ?_) | (refine wpList_store_row rfl _ _ _ rfl _ zeroStCells rfl rfl _ _ hz8 infoSt rfl zeroSt_one ?_))
        try simp only [Exit.inBlock, Exit.then]
        refine bodyPost_ret (results_row_tmp rfl _ _ (w.heap.size + 1) 29 zeroStCells (0, 0) _ rfl (setRow_heap _ _ _ _ _ _ hz8) Tryd.underlying29 rfl infoSt) rfl ⟨_, _, HE.out, by rw [HR.out]; rfl, by rw [HR.out]; exact zero_stAt _ _, below_setRow HB1.out (by omega) _⟩
      · have c2I : decide ((100 : Int) < answers.length) = false := by simp; omega
        by_cases c3 : fuel < 0
        · have HR : Hid (beginE 0 P args answers fuel = 2) := by show _ = _; unfold beginE; rw [if_neg (by simp), if_neg (by omega), if_pos (Or.inl c3)]
          clear hE hA1 hN1
          go_wp2_with (first | (refine wpList_build_store rfl _ _ rfl zeroStCells (by simpa using built_zero) rfl _ _ rfl _ rfl rfl _ _ hz8 infoSt rfl zeroSt_one ?_) | (refine wpList_store_row rfl _ _ _ rfl _ zeroStCells rfl rfl _ _ hz8 infoSt rfl zeroSt_one ?_))
          try simp only [Exit.inBlock, Exit.then]
          refine bodyPost_ret (results_row_tmp rfl _ _ (w.heap.size + 1) 29 zeroStCells (0, 0) _ rfl (setRow_heap _ _ _ _ _ _ hz8) Tryd.underlying29 rfl infoSt) rfl ⟨_, _, HE.out, by rw [HR.out]; rfl, by rw [HR.out]; exact zero_stAt _ _, below_setRow HB1.out (by omega) _⟩
        · by_cases c4 : 10000 < fuel
          · have HR : Hid (beginE 0 P args answers fuel = 2) := by show _ = _; unfold beginE; rw [if_neg (by simp), if_neg (by omega), if_pos (Or.inr c4)]
            clear hE hA1 hN1
            go_wp2_with (first | (refine wpList_build_store rfl _ _ rfl zeroStCells (by simpa using built_zero) rfl _ _ rfl _ rfl rfl _ _ hz8 infoSt rfl zeroSt_one ?_) | (refine wpList_store_row rfl _ _ _ rfl _ zeroStCells rfl rfl _ _ hz8 infoSt rfl zeroSt_one ?_))
            try simp only [Exit.inBlock, Exit.then]
            refine bodyPost_ret (results_row_tmp rfl _ _ (w.heap.size + 1) 29 zeroStCells (0, 0) _ rfl (setRow_heap _ _ _ _ _ _ hz8) Tryd.underlying29 rfl infoSt) rfl ⟨_, _, HE.out, by rw [HR.out]; rfl, by rw [HR.out]; exact zero_stAt _ _, below_setRow HB1.out (by omega) _⟩
          · have HR : Hid (beginE 0 P args answers fuel = 0) := by show _ = _; unfold beginE; rw [if_neg (by simp), if_neg (by omega), if_neg (by omega)]
            have hal : args.length ≤ 12 := by omega
            have hBG := begun_any 0 _ args w1 hA1 hal
            have h12 := regsOf_length args hal
            obtain ⟨r0, r1, r2, r3, r4, r5, r6, r7, r8, r9, r10, r11, hrr⟩ := list12 h12
            have efc : frCells (begunFr 0 args) = [.int .i64 0, .int .i64 0, .int .i64 r0, .int .i64 r1, .int .i64 r2, .int .i64 r3, .int .i64 r4, .int .i64 r5, .int .i64 r6, .int .i64 r7, .int .i64 r8, .int .i64 r9, .int .i64 r10, .int .i64 r11] := by
              unfold frCells begunFr
              dsimp only
              rw [hrr]; rfl
            rw [efc] at hBG
            have HFC : Hid (frCells (begunFr 0 args) = [.int .i64 0, .int .i64 0, .int .i64 r0, .int .i64 r1, .int .i64 r2, .int .i64 r3, .int .i64 r4, .int .i64 r5, .int .i64 r6, .int .i64 r7, .int .i64 r8, .int .i64 r9, .int .i64 r10, .int .i64 r11]) := efc
            have H12 : Hid ((regsOf args).length = 12) := h12
            have HN1 : Hid (IntsVal w1 (.slice an answers.length cn) answers) := hN1
            have HC1 : Hid ((args.length : Int) = par0 P) := c1
            clear hE hA1 hN1 efc hrr h12
            go_wp2_with (first
              | (go_at_call 39; refine hBG.mono ?_; rintro e w2 ⟨rfl, hb2⟩; have hz8b := (hb2.block _ (show w.heap.size + 1 < w1.heap.size by omega)).trans hz8; clear hBG)
              | (go_at_call 40; refine (clone_ints _ answers _ (HN1.out.keeps (keeps_below (hb2.alloc hb2.size _))) (by omega)).mono ?_; rintro e w3 ⟨v3, rfl, ho3, hb3⟩; obtain ⟨a3, c3', rfl⟩ := own_shape ho3; have hz8c : w3.heap[w.heap.size + 1]? = some (.cells zeroStCells 29 (0, 0)) := (hb3.block _ (by have := hb2.size; simp; omega)).trans ((heap_alloc_old _ _ (by have := hb2.size; omega)).trans hz8b))
              | (refine wpList_build_store rfl _ _ rfl (stCells ⟨0, 0, [], noMem, fuel, [], []⟩ (.slice (some ⟨w2.heap.size, 0, none⟩) 1 1) (.slice none 0 0) (.slice a3 answers.length c3')).toArray (by simpa [Act.eval, Act.put] using built_begin (some ⟨w2.heap.size, 0, none⟩) a3 1 1 answers.length c3' fuel) rfl _ _ rfl _ rfl rfl _ _ hz8c infoSt rfl (stCells_one _ _ _ _ rfl rfl rfl) ?_))
            have hsz2 := hb2.size
            have hsz3 := hb3.size
            have HF : Hid (w3.heap[w2.heap.size]? = some (.cells (frCells (begunFr 0 args)).toArray 55 (0, 0))) := by
              show _ = _
              rw [hb3.block _ (by simp), HFC.out]
              exact heap_alloc_last _ _
            have hstl := stCells_length ⟨0, 0, [], noMem, fuel, [], []⟩ (.slice (some ⟨w2.heap.size, 0, none⟩) 1 1) (.slice none 0 0) (.slice a3 answers.length c3') rfl
            have hsi : (Tryd.prog.info? 29).map (·.size) = some (stCells ⟨0, 0, [], noMem, fuel, [], []⟩ (.slice (some ⟨w2.heap.size, 0, none⟩) 1 1) (.slice none 0 0) (.slice a3 answers.length c3')).toArray.size := by rw [List.size_toArray, hstl]; exact infoSt
            try simp only [Exit.inBlock, Exit.then]
            refine bodyPost_ret (results_row_tmp rfl _ _ (w.heap.size + 1) 29 _ (0, 0) _ rfl (setRow_heap _ _ _ _ _ _ hz8c) Tryd.underlying29 rfl hsi) rfl ⟨_, _, HE.out, by rw [HR.out]; rfl, ?_, ?_⟩
            · rw [HR.out, beginS_zero]
              refine ⟨_, _, _, rfl, rfl, frames_of_own (fun f hf => ?_) (one_frame H12.out ((setRow_other _ _ _ _ (by omega)).trans HF.out)), ints_nil _, ints_of_own (ownsRow_setRow ho3 (by simp; omega) _), low_own (one_frame H12.out HF.out) (by omega), low_nil _, low_own ho3 (by simp; omega)⟩
              have hf' : f ∈ [begunFr 0 args] := hf
              rw [List.mem_singleton] at hf'
              rw [hf']; exact H12.out
            · exact below_setRow (((HB1.out.trans (hb2.mono (by omega))).alloc (by omega) _).trans (hb3.mono (by simp; omega))) (by omega) _
    · have HR : Hid (beginE 0 P args answers fuel = 1) := by show _ = _; unfold beginE; rw [if_neg (by simp), if_pos (Or.inl c1)]
      clear hE hA1 hN1
      go_wp2_with (first | (refine wpList_build_store rfl _ _ rfl zeroStCells (by simpa using built_zero) rfl _ _ rfl _ rfl rfl _ _ hz8 infoSt rfl zeroSt_one ?_) | (refine wpList_store_row rfl _ _ _ rfl _ zeroStCells rfl rfl _ _ hz8 infoSt rfl zeroSt_one ?_))
      try simp only [Exit.inBlock, Exit.then]
      refine bodyPost_ret (results_row_tmp rfl _ _ (w.heap.size + 1) 29 zeroStCells (0, 0) _ rfl (setRow_heap _ _ _ _ _ _ hz8) Tryd.underlying29 rfl infoSt) rfl ⟨_, _, HE.out, by rw [HR.out]; rfl, by rw [HR.out]; exact zero_stAt _ _, below_setRow HB1.out (by omega) _⟩
  · have HE : Hid (ProofAns P E) := hE
    have HR : Hid (beginE E P args answers fuel = E) := by show _ = _; unfold beginE; rw [if_pos hE0]
    have HS : Hid (∀ a b c, beginS E a b c = zeroSt) := fun a b c => by unfold beginS; rw [if_neg hE0]
    clear hE
    go_wp2_with (first | (refine wpList_build_store rfl _ _ rfl zeroStCells (by simpa using built_zero) rfl _ _ rfl _ rfl rfl _ _ hz8 infoSt rfl zeroSt_one ?_) | (refine wpList_store_row rfl _ _ _ rfl _ zeroStCells rfl rfl _ _ hz8 infoSt rfl zeroSt_one ?_))
    try simp only [Exit.inBlock, Exit.then]
    refine bodyPost_ret (results_row_tmp rfl _ _ (w.heap.size + 1) 29 zeroStCells (0, 0) _ rfl (setRow_heap _ _ _ _ _ _ hz8) Tryd.underlying29 rfl infoSt) rfl ⟨_, _, HE.out, by rw [HR.out]; rfl, by rw [HR.out, HS.out]; exact zero_stAt _ _, below_setRow HB1.out (by omega) _⟩
end Go.Proofs.YtiaammieldfkcaaDoor
