import Derived.Test.YtldbmdgpdolaaaaGreatDoorPXSsaBuild
namespace Go.Proofs.YtldbmdgpdolaaaaGreatDoor
open Go Go.RowKit

def rdF (F : Facts) (v : Int) : FV := if v = -1 then .known 0 else F v.toNat
set_option maxRecDepth 100000 in
theorem readK_any {K gp n gB VN FB MB : Nat} {F : Facts} {G : Ways} (w : World) (h : KnAt w K gp n gB VN FB MB F G) (v : Int) (h0 : -1 ≤ v) (h1 : v < (VN : Int)) :
    Calls Tryz.prog 87 #[.pointer (some ⟨K, 0, none⟩), .int .i64 v] w fun e w' => e = .returned (.agg #[.int .i64 (rdF F v).kind, .int .i64 (rdF F v).num]) ∧ Below w.heap.size w w' := by
  have HB0 : Hid (Below w.heap.size w (w.alloc (.cells #[.int .i64 0, .int .i64 0] 65))) := (Below.refl _ _).alloc (Nat.le_refl _) _
  have r4 : (w.alloc (.cells #[.int .i64 0, .int .i64 0] 65)).heap[w.heap.size]? = some (.cells #[.int .i64 0, .int .i64 0] 65 (0, 0)) := heap_alloc_last _ _
  have HK := h.below HB0.out
  by_cases hv : v = -1
  · subst hv
    clear h HK h0 h1
    go_enter Tryz.func87, Tryz.ntmps87
    go_upto_region 1 with fail
    generalize (w.alloc (.cells #[.int .i64 0, .int .i64 0] 65)) = V at *
    go_wp2_with (first
      | (go_at_call 111; refine (known_any 0 _).mono ?_; rintro e w2 ⟨rfl, hb2⟩; have r42 := (hb2.block _ (lt_of_block r4)).trans r4; have HB2 : Hid (Below w.heap.size w w2) := HB0.out.trans (hb2.mono HB0.out.size))
      | (refine wpList_store_row rfl _ _ _ rfl _ #[.int .i64 1, .int .i64 0] rfl rfl _ _ r42 infoFact rfl (by simp [Value.oneCell']) ?_))
    (try simp only [Exit.inBlock, Exit.then])
    exact bodyPost_ret (results_cell_row rfl _ _ w.heap.size 65 #[.int .i64 1, .int .i64 0] (0, 0) _ rfl (setRow_heap _ _ _ _ _ _ r42) Tryz.underlying65 rfl infoFact) rfl ⟨rfl, belowSK HB2.out (Nat.le_refl _) _⟩
  · have hR : rdF F v = F v.toNat := if_neg hv
    obtain ⟨k, rfl⟩ : ∃ k : Nat, v = (k : Int) := ⟨v.toNat, by omega⟩
    rw [Int.toNat_natCast] at hR
    have hkn : k < VN := by omega
    have hf := HK.fact hkn
    have k2 : (w.alloc (.cells #[.int .i64 0, .int .i64 0] 65)).cell? ⟨K, 2, none⟩ = some (.slice (some ⟨FB, 0, none⟩) VN VN) := by rw [cell_of_row _ _ _ _ _ _ HK.box]; rfl
    have hkm : ((k : Int) == -1) = false := by rw [beq_eq_false_iff_ne]; omega
    have HR : Hid (rdF F (k : Int) = F k) := hR
    obtain ⟨fk, hfk⟩ : ∃ x, x = (F k).kind := ⟨_, rfl⟩
    obtain ⟨fn, hfn⟩ : ∃ x, x = (F k).num := ⟨_, rfl⟩
    have HFK : Hid (fk = (F k).kind ∧ fn = (F k).num) := ⟨hfk, hfn⟩
    rw [← hfk, ← hfn] at hf
    clear h HK h0 hR hv hfk hfn
    go_enter Tryz.func87, Tryz.ntmps87
    go_upto_region 1 with fail
    generalize (w.alloc (.cells #[.int .i64 0, .int .i64 0] 65)) = V at *
    go_wp2_with (first
      | (refine wpList_load_mid rfl 65 _ rfl FB (k * 2) rfl [.int .i64 fk, .int .i64 fn] _ hf Tryz.underlying65 rfl infoFact ?_)
      | (refine wpList_store_row rfl _ _ _ rfl _ #[.int .i64 fk, .int .i64 fn] rfl rfl _ _ r4 infoFact rfl (by simp [Value.oneCell']) ?_))
    (try simp only [Exit.inBlock, Exit.then])
    exact bodyPost_ret (results_cell_row rfl _ _ w.heap.size 65 #[.int .i64 fk, .int .i64 fn] (0, 0) _ rfl (setRow_heap _ _ _ _ _ _ r4) Tryz.underlying65 rfl infoFact) rfl ⟨by rw [HR.out, HFK.out.1, HFK.out.2], belowSK HB0.out (Nat.le_refl _) _⟩
set_option maxRecDepth 100000 in
theorem begC_any (fr t pc : Int) (nx pv : Value) (B : Nat) (w : World) (hc : w.cell? ⟨B, 0, none⟩ = some (.int .i64 pc)) :
    Calls Tryz.prog 131 #[.agg #[.int .i64 fr, .int .i64 t, nx, pv], .pointer (some ⟨B, 0, none⟩)] w fun e w' => e = .returned (.bool (fr == pc)) ∧ Below w.heap.size w w' := by
  have HB : Hid (Below w.heap.size w (w.alloc (.cells #[.int .i64 fr, .int .i64 t, nx, pv] 79))) := (Below.refl _ _).alloc (Nat.le_refl _) _
  have hc2 := keeps_below HB.out _ _ hc
  have k0 : (w.alloc (.cells #[.int .i64 fr, .int .i64 t, nx, pv] 79)).cell? ⟨w.heap.size, 0, none⟩ = some (.int .i64 fr) := by rw [cell_of_row _ _ _ _ _ _ (heap_alloc_last w _)]; rfl
  clear hc
  go_enter Tryz.func131, Tryz.ntmps131
  go_upto_region 1 with fail
  generalize w.alloc (.cells #[.int .i64 fr, .int .i64 t, nx, pv] 79) = W1 at *
  go_wp2
  go_ret
  exact ⟨rfl, HB.out⟩
set_option maxRecDepth 100000 in
theorem indexF_any (n : Nat) (F T : Nat → Int) (VV : Nat → Value) (g B b : Nat) (pc : Int) (w : World) (hS : n ≤ 1000) (hb : b < n) (hr : BlkRow w g n F T VV) (hc : w.cell? ⟨B, 0, none⟩ = some (.int .i64 pc)) (h1 : F b = pc) (h2 : ∀ j, j < b → F j ≠ pc) :
    Calls Tryz.prog 47 #[.slice (some ⟨g, 0, none⟩) n n, .func (.func 131) #[] #[.pointer (some ⟨B, 0, none⟩)]] w fun e w' => e = .returned (.int .i64 (b : Int)) ∧ Below w.heap.size w w' := by
  have HR : Hid (∀ W, Below w.heap.size w W → ∀ i, i < n → W.rangeAt g (i * 4) [.int .i64 (F i), .int .i64 (T i), VV (2 * i), VV (2 * i + 1)]) := fun W hb i hi j u hu => keeps_below hb _ _ (hr.rangeA hi j u hu)
  have HC : Hid (∀ W, Below w.heap.size w W → W.cell? ⟨B, 0, none⟩ = some (.int .i64 pc)) := fun W hb => keeps_below hb _ _ hc
  have H1 : Hid (F b = pc) := h1
  have H2 : Hid (∀ j, j < b → F j ≠ pc) := h2
  clear hr hc h1 h2
  go_enter Tryz.func47, Tryz.ntmps47
  go_wp2
  go_loopw [5, 8] (fun _ i wr => ∃ q : Nat, q ≤ b ∧ i = .int .i64 q ∧ Below w.heap.size w wr) (fun _ i _ => n - (intOf i).toNat)
  case atStart => exact ⟨0, Nat.zero_le _, rfl, Below.refl _ _⟩
  case round =>
    obtain ⟨q, hq, rfl, hwr⟩ := hrel
    have HW : Hid (Below w.heap.size w wr) := hwr
    clear hwr
    have hqn : q < n := by omega
    have hqI : (q : Int) < n := by omega
    have HRG := HR.out wr HW.out q hqn
    have hcl := HC.out wr HW.out
    have hB := begC_any (F q) (T q) pc (VV (2 * q)) (VV (2 * q + 1)) B wr hcl
    by_cases he : q = b
    · have hd : (F q == pc) = true := by rw [he]; simpa using H1.out
      rw [hd] at hB
      have HE : Hid (q = b) := he
      clear he hd
      generalize T q = y at *
      generalize F q = x at *
      go_wp2_with (first
        | (refine wpList_load_mid rfl 79 _ rfl g (q * 4) rfl [.int .i64 x, .int .i64 y, VV (2 * q), VV (2 * q + 1)] _ HRG Tryz.underlying79 rfl infoBlkA ?_)
        | (go_at_call 131; refine hB.mono ?_; rintro e w2 ⟨rfl, hb2⟩))
      go_ret
      exact ⟨by rw [HE.out]; rfl, HW.out.trans (hb2.mono HW.out.size)⟩
    · have hd : (F q == pc) = false := by simpa using H2.out q (by omega)
      rw [hd] at hB
      clear hd
      generalize T q = y at *
      generalize F q = x at *
      go_wp2_with (first
        | (refine wpList_load_mid rfl 79 _ rfl g (q * 4) rfl [.int .i64 x, .int .i64 y, VV (2 * q), VV (2 * q + 1)] _ HRG Tryz.underlying79 rfl infoBlkA ?_)
        | (go_at_call 131; refine hB.mono ?_; rintro e w2 ⟨rfl, hb2⟩))
      go_roundw
      case rel => exact ⟨q + 1, by omega, by go_num, HW.out.trans (hb2.mono HW.out.size)⟩
      case measure => simp [intOf]; omega
set_option maxRecDepth 100000 in
theorem begunK_any {K gp n gB VN FB MB : Nat} {F : Facts} {G : Ways} (w : World) (h : KnAt w K gp n gB VN FB MB F G) (FF TT : Nat → Int) (VV : Nat → Value) (hr : BlkRow w gB n FF TT VV) (hn : n ≤ 1000) (pc : Int) (i : Nat) (hi : i < n) (h1 : FF i = pc) (h2 : ∀ j, j < i → FF j ≠ pc) :
    Calls Tryz.prog 113 #[.pointer (some ⟨K, 0, none⟩), .int .i64 pc] w fun e w' => e = .returned (.int .i64 (i : Int)) ∧ Below w.heap.size w w' := by
  have HB0 : Hid (Below w.heap.size w (w.alloc (.cells #[.int .i64 pc] 3))) := (Below.refl _ _).alloc (Nat.le_refl _) _
  have k1 : (w.alloc (.cells #[.int .i64 pc] 3)).cell? ⟨K, 1, none⟩ = some (.slice (some ⟨gB, 0, none⟩) n n) := by rw [cell_of_row _ _ _ _ _ _ (h.below HB0.out).box]; rfl
  have HI : Hid (Calls Tryz.prog 47 #[.slice (some ⟨gB, 0, none⟩) n n, .func (.func 131) #[] #[.pointer (some ⟨w.heap.size, 0, none⟩)]] (w.alloc (.cells #[.int .i64 pc] 3)) fun e w' => e = .returned (.int .i64 (i : Int)) ∧ Below (w.alloc (.cells #[.int .i64 pc] 3)).heap.size (w.alloc (.cells #[.int .i64 pc] 3)) w') := indexF_any n FF TT VV gB w.heap.size i pc _ hn hi (ownsRow_below hr HB0.out) (by rw [cell_of_row _ _ _ _ _ _ (heap_alloc_last w _)]; rfl) h1 h2
  have hmf : ∀ (fn : Go.Fn) (first cap : Array Value) (w : World), (Instr.makeFunc fn first cap).run Tryz.prog w = .ok (.func fn first cap) w := fun _ _ _ _ => rfl
  clear h hr hn hi h1 h2
  go_enter Tryz.func113, Tryz.ntmps113
  go_upto_region 1 with fail
  generalize w.alloc (.cells #[.int .i64 pc] 3) = W1 at *
  go_wp2_with (go_at_call 47; refine HI.out.mono ?_; rintro e w2 ⟨rfl, hb2⟩)
  go_ret
  exact ⟨rfl, HB0.out.trans (hb2.mono HB0.out.size)⟩
end Go.Proofs.YtldbmdgpdolaaaaGreatDoor
