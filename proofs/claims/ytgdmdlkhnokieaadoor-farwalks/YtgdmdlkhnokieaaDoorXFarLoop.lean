/- Contract of emit.far: how far machine code goes, told by byte code. -/
import Derived.Test.YtgdmdlkhnokieaaDoorXFarKit
namespace Go.Proofs.YtgdmdlkhnokieaaDoor
open Go Go.RowKit

/-- emit.last of a state as it is read. -/
theorem lastE_val {w : World} {cs : Array Value} {s : St} (h : StVal w (.agg cs) s) {fs : List Fr} {f : Fr} (hS : s.frames = fs ++ [f]) : ∃ fb off, (∀ W, Calls Tryd.prog 17 #[.agg cs] W fun e w' => e = .returned (.pointer (some ⟨fb, off + fs.length * 14, none⟩)) ∧ Below W.heap.size W w') ∧ w.rangeAt fb (off + fs.length * 14) (frCells f) ∧ f.regs.length = 12 := by
  obtain ⟨fv, ev, av, e, hm, ⟨hw, ao, b, off, n, cap, rfl, h1, h2, h3, h4, h5⟩, -, -⟩ := h
  obtain rfl := Value.agg.inj e
  have hn : n = fs.length + 1 := by rw [← h1, hS]; simp
  subst hn
  obtain rfl := h2 (by omega)
  refine ⟨b, off, fun W => lastE_any s b off fs.length cap ev av W h4.1 (by simpa [maxLen] using h5), ?_, hw f (by rw [hS]; simp)⟩
  have := h3 fs.length (by rw [hS]; simp)
  simpa [hS] using this
/-- The cells of a state as it is read: status and fuel. -/
theorem StVal.atE {w : World} {cs : Array Value} {s : St} (h : StVal w (.agg cs) s) : cs[0]? = some (.int .i64 s.status) ∧ cs[19]? = some (.int .i64 s.fuel) := by
  obtain ⟨fv, ev, av, e, hm, -⟩ := h
  obtain rfl := Value.agg.inj e
  refine ⟨rfl, ?_⟩
  have := stC_tail fv ev av hm 0
  simpa using this
theorem FarTo.same {P : List Fn} {f : Fn} {S S' : List Nat} {T T' : Nat → Nat} (h : BlkOk f S T) (h' : BlkOk f S' T') {s u : St} (hf : FarTo P f S T s u) : FarTo P f S' T' s u := by
  obtain rfl := h.starts.unique h'.starts
  have e : ∀ i, i < S.length → T i = T' i := fun i hi => (h.ends i hi).unique (h'.ends i hi)
  induction hf with
  | none h => exact .none h
  | poor hi h1 hp => rw [e _ hi] at hp; exact .poor hi h1 hp
  | stop hi h1 hp hk hr hs => rw [e _ hi] at hp hk; exact .stop hi h1 hp hk hr hs
  | leave hi h1 hp hr ho => rw [e _ hi] at hp hr ho ⊢; exact .leave hi h1 hp hr ho
  | on hi h1 hp hr ho _ ih => rw [e _ hi] at hp hr ho ih; exact .on hi h1 hp hr ho ih
/-- A state whose lists lie in these blocks. -/
def StIn (w : World) (D : Nat → Prop) (cs : Array Value) (s : St) : Prop := ∀ W : World, (∀ (a : Addr) u, D a.block → w.cell? a = some u → W.cell? a = some u) → StVal W (.agg cs) s
theorem StIn.val {w : World} {D : Nat → Prop} {cs : Array Value} {s : St} (h : StIn w D cs s) : StVal w (.agg cs) s := h w fun _ _ _ hu => hu
theorem StIn.next {w w' : World} {D : Nat → Prop} {cs : Array Value} {s : St} (h : StIn w D cs s) (hk : ∀ (a : Addr) u, D a.block → w.cell? a = some u → w'.cell? a = some u) : StIn w' D cs s := fun W hW => h W fun a u hd hu => hW a u hd (hk a u hd hu)
theorem StIn.row {w : World} {D : Nat → Prop} {cs : Array Value} {s : St} (h : StIn w D cs s) {r : Nat} (hr : ¬ D r) (xs : Array Value) : StIn (w.setRow r xs) D cs s := h.next fun a u hd hu => (World.cell?_of_block (setRow_other _ _ _ _ (fun e => hr (by rw [← e]; exact hd)))).trans hu
theorem StVal.inAll {w : World} {cs : Array Value} {s : St} (h : StVal w (.agg cs) s) : StIn w (fun x => x < w.heap.size) cs s := fun _ hW => h.keeps fun a u hu => hW a u (World.block_lt_of_cell? _ _ hu) hu
def FarPost (D : Nat → Prop) (P : List Fn) (k : Nat) (hk : k < P.length) (s : St) (w : World) (e : Ending) (w' : World) : Prop := ∃ cs' S T X, e = .returned (.agg cs') ∧ (Tryd.prog.info? 34).map (·.size) = some cs'.size ∧ zeroStCells.size = cs'.size ∧ cs'.all (·.oneCell') = true ∧ BlkOk P[k] S T ∧ FarX P P[k] S T s X ∧ StIn w' (fun x => D x ∨ w.heap.size + 3 ≤ x) cs' X ∧ Below w.heap.size w w'

set_option maxRecDepth 100000 in
set_option maxHeartbeats 8000000 in
theorem far_any (P : List Fn) (hR : ProofAns P 0) (k : Nat) (hk : k < P.length) (v : Value) (cs : Array Value) (s : St) (g : Fr) (w : World) (ht : TabOk w) (hc : CallOk w) (hv : ProgVal w v P) (D : Nat → Prop) (hD : ∀ x, D x → x < w.heap.size) (hs : StIn w D cs s) (h1 : OneSt P k s g) (h0 : s.status = 0) (hev : s.events.length ≤ 1000) :
    Calls Tryd.prog 16 #[.agg #[v], .agg cs] w (FarPost D P k hk s w) := by
  have HTC : Hid (∀ W, Below w.heap.size w W → TabOk W ∧ CallOk W ∧ ProgVal W v P) := fun W hb => ⟨ht.below hb, hc.below hb, hv.keeps (keeps_below hb)⟩
  have HR : Hid (ProofAns P 0) := hR
  have HOK : Hid (FlowOk P P[k]) := flowOk_of hR (List.getElem_mem hk)
  obtain ⟨pb, po, cap0, b2, off2, cap2, rfl, hp1, hp2, hp3, hp4, hcode⟩ := prog_codeF hv hk HOK.out.ok.len1
  have HCODE : Hid _ := hcode
  have HPN : Hid (k < P.length) := hk
  obtain ⟨cs', hcs', q1, q2, q3⟩ := hs.val.cells
  obtain rfl := Value.agg.inj hcs'
  have HB0 : Hid (Below w.heap.size w (((w.alloc (.cells #[.slice (some ⟨pb, po, none⟩) P.length cap0] 29)).alloc (.cells cs 34)).alloc (.cells #[.int .i64 0, .int .i64 0, .slice none 0 0, .int .i64 0, .int .i64 0, .int .i64 0, .int .i64 0, .int .i64 0, .int .i64 0, .int .i64 0, .int .i64 0, .int .i64 0, .int .i64 0, .int .i64 0, .int .i64 0, .int .i64 0, .int .i64 0, .int .i64 0, .int .i64 0, .int .i64 0, .slice none 0 0, .slice none 0 0] 34))) := (((Below.refl _ _).alloc (Nat.le_refl _) _).alloc (by simp) _).alloc (by simp; omega) _
  have r3 : (((w.alloc (.cells #[.slice (some ⟨pb, po, none⟩) P.length cap0] 29)).alloc (.cells cs 34)).alloc (.cells #[.int .i64 0, .int .i64 0, .slice none 0 0, .int .i64 0, .int .i64 0, .int .i64 0, .int .i64 0, .int .i64 0, .int .i64 0, .int .i64 0, .int .i64 0, .int .i64 0, .int .i64 0, .int .i64 0, .int .i64 0, .int .i64 0, .int .i64 0, .int .i64 0, .int .i64 0, .int .i64 0, .slice none 0 0, .slice none 0 0] 34)).heap[w.heap.size + 1]? = some (.cells cs 34 (0, 0)) := heap_alloc_old _ _ (by simp) |>.trans (heap_alloc2_new _ _ _)
  have r4 : (((w.alloc (.cells #[.slice (some ⟨pb, po, none⟩) P.length cap0] 29)).alloc (.cells cs 34)).alloc (.cells #[.int .i64 0, .int .i64 0, .slice none 0 0, .int .i64 0, .int .i64 0, .int .i64 0, .int .i64 0, .int .i64 0, .int .i64 0, .int .i64 0, .int .i64 0, .int .i64 0, .int .i64 0, .int .i64 0, .int .i64 0, .int .i64 0, .int .i64 0, .int .i64 0, .int .i64 0, .int .i64 0, .slice none 0 0, .slice none 0 0] 34)).heap[w.heap.size + 1 + 1]? = some (.cells zeroStCells 34 (0, 0)) := heap_alloc3_new _ _ _ _
  have k2 : (((w.alloc (.cells #[.slice (some ⟨pb, po, none⟩) P.length cap0] 29)).alloc (.cells cs 34)).alloc (.cells #[.int .i64 0, .int .i64 0, .slice none 0 0, .int .i64 0, .int .i64 0, .int .i64 0, .int .i64 0, .int .i64 0, .int .i64 0, .int .i64 0, .int .i64 0, .int .i64 0, .int .i64 0, .int .i64 0, .int .i64 0, .int .i64 0, .int .i64 0, .int .i64 0, .int .i64 0, .int .i64 0, .slice none 0 0, .slice none 0 0] 34)).cell? ⟨w.heap.size, 0, none⟩ = some (.slice (some ⟨pb, po, none⟩) P.length cap0) := cell_alloc (cell_alloc (by rw [cell_of_row _ _ _ _ _ _ (heap_alloc_last w _)]; rfl) _) _
  have HSV : Hid (StVal (((w.alloc (.cells #[.slice (some ⟨pb, po, none⟩) P.length cap0] 29)).alloc (.cells cs 34)).alloc (.cells #[.int .i64 0, .int .i64 0, .slice none 0 0, .int .i64 0, .int .i64 0, .int .i64 0, .int .i64 0, .int .i64 0, .int .i64 0, .int .i64 0, .int .i64 0, .int .i64 0, .int .i64 0, .int .i64 0, .int .i64 0, .int .i64 0, .int .i64 0, .int .i64 0, .int .i64 0, .int .i64 0, .slice none 0 0, .slice none 0 0] 34)) (.agg cs) s) := hs.val.keeps (keeps_below HB0.out)
  obtain ⟨fb, off, hla, hrg, h12⟩ := lastE_val HSV.out (show s.frames = [] ++ [g] from h1.one)
  simp only [List.length_nil, Nat.zero_mul, Nat.add_zero] at hla hrg
  have HLA : Hid _ := hla
  have hfn := hrg 0 _ rfl
  rw [Nat.add_zero] at hfn
  rw [h1.fn] at hfn
  have HO : Hid (OneSt P k s g) := h1
  have HS0 : Hid (StIn w D cs s) := hs
  have HND : Hid (¬ (D (w.heap.size + 1) ∨ w.heap.size + 3 ≤ w.heap.size + 1) ∧ ¬ (D (w.heap.size + 1 + 1) ∨ w.heap.size + 3 ≤ w.heap.size + 1 + 1)) := ⟨fun h => (by rcases h with h | h; (have := hD _ h; omega); omega), fun h => (by rcases h with h | h; (have := hD _ h; omega); omega)⟩
  have HDL : Hid (∀ x, D x → x < w.heap.size) := hD
  have H0 : Hid (s.status = 0 ∧ s.events.length ≤ 1000) := ⟨h0, hev⟩
  have HMAY0 : Hid (s.fuel ≤ 10000) := ((mayB_iff _).1 h1.inv.may).2.2.2.1
  have HQ : Hid ((Tryd.prog.info? 34).map (·.size) = some cs.size ∧ zeroStCells.size = cs.size ∧ cs.all (·.oneCell') = true) := ⟨q1, q2, q3⟩
  have HWZ : Hid (w.heap.size + 1 + 1 < (((w.alloc (.cells #[.slice (some ⟨pb, po, none⟩) P.length cap0] 29)).alloc (.cells cs 34)).alloc (.cells #[.int .i64 0, .int .i64 0, .slice none 0 0, .int .i64 0, .int .i64 0, .int .i64 0, .int .i64 0, .int .i64 0, .int .i64 0, .int .i64 0, .int .i64 0, .int .i64 0, .int .i64 0, .int .i64 0, .int .i64 0, .int .i64 0, .int .i64 0, .int .i64 0, .int .i64 0, .int .i64 0, .slice none 0 0, .slice none 0 0] 34)).heap.size) := by show _ < _; simp
  clear ht hc hv hs hD hcs' hla hrg h12 h1 h0 hev hR hcode
  go_enter Tryd.func16, Tryd.ntmps16
  go_upto_region 1 with fail
  generalize (((w.alloc (.cells #[.slice (some ⟨pb, po, none⟩) P.length cap0] 29)).alloc (.cells cs 34)).alloc (.cells #[.int .i64 0, .int .i64 0, .slice none 0 0, .int .i64 0, .int .i64 0, .int .i64 0, .int .i64 0, .int .i64 0, .int .i64 0, .int .i64 0, .int .i64 0, .int .i64 0, .int .i64 0, .int .i64 0, .int .i64 0, .int .i64 0, .int .i64 0, .int .i64 0, .int .i64 0, .int .i64 0, .slice none 0 0, .slice none 0 0] 34)) = W0 at *
  have hb0 := HLA.out W0
  go_upto_region 2 with (first
    | (refine wpList_load_row rfl _ _ rfl _ rfl _ _ _ _ r3 Tryd.underlying34 rfl q1 ?_)
    | (go_at_call 17; refine hb0.mono ?_; rintro e w1 ⟨rfl, hb1⟩; have hfn1 := keeps_below hb1 _ _ hfn; have k21 := keeps_below hb1 _ _ k2))
  have r31 := (hb1.block _ (lt_of_block r3)).trans r3
  have r41 := (hb1.block _ (lt_of_block r4)).trans r4
  have HB1 : Hid (Below w.heap.size w w1) := HB0.out.trans (hb1.mono HB0.out.size)
  have HSV1 : Hid (StVal w1 (.agg cs) s) := HSV.out.keeps (keeps_below hb1)
  have HW1 : Hid (w.heap.size + 1 + 1 < w1.heap.size) := Nat.lt_of_lt_of_le HWZ.out hb1.size
  have hBL := Blocks_right P HR.out k hk (.slice (some ⟨pb, po, none⟩) P.length cap0) w1 (HTC.out w1 HB1.out).1 (HTC.out w1 HB1.out).2.1 (HTC.out w1 HB1.out).2.2
  clear hfn hfn1 k2 r3 r4 hb0 HB0 HSV HLA HWZ hb1
  go_upto_region 3 with (go_at_call 10; refine hBL.mono ?_; rintro e w2 ⟨gB, S, T, VV, LL, rfl, hB, hgw, hb2⟩)
  have k22 := keeps_below hb2 _ _ k21
  have r32 := (hb2.block _ (lt_of_block r31)).trans r31
  have r42 := (hb2.block _ (lt_of_block r41)).trans r41
  have HB2 : Hid (Below w.heap.size w w2) := HB1.out.trans (hb2.mono HB1.out.size)
  have HSV2 : Hid (StIn w2 (fun x => D x ∨ w.heap.size + 3 ≤ x) cs s) := fun W hW => HS0.out W fun a u hd hu => hW a u (Or.inl hd) (keeps_below HB2.out a u hu)
  have HBL : Hid (BlocksAt w2 w1.heap.size gB P[k] S T VV LL) := hB
  have HBO : Hid (BlkOk P[k] S T) := hB.ok
  have HGB : Hid (w.heap.size + 1 + 1 < gB) := Nat.lt_of_lt_of_le HW1.out hgw
  have hSL : S.length ≤ 1000 := by have := starts_len HOK.out hB.starts; have := HOK.out.ok.len2; omega
  clear hb2 hB hgw hBL k21 r31 r41 HB1 HSV1 HW1
  go_loopg [8, 9] (s.fuel.toNat + 1) (fun m _ _ wr => ∃ (csr : Array Value) (s' : St) (g' : Fr), m = s'.fuel.toNat + 1 ∧ wr.heap[w.heap.size + 1]? = some (.cells csr 34 (0, 0)) ∧ wr.heap[w.heap.size + 1 + 1]? = some (.cells zeroStCells 34 (0, 0)) ∧ wr.cell? ⟨w.heap.size, 0, none⟩ = some (.slice (some ⟨pb, po, none⟩) P.length cap0) ∧ ((Tryd.prog.info? 34).map (·.size) = some csr.size ∧ zeroStCells.size = csr.size ∧ csr.all (·.oneCell') = true) ∧ StIn wr (fun x => D x ∨ w.heap.size + 3 ≤ x) csr s' ∧ OneSt P k s' g' ∧ s'.status = 0 ∧ s'.events.length + s'.fuel.toNat ≤ s.events.length + s.fuel.toNat ∧ (∀ u, FarTo P P[k] S T s' u → FarTo P P[k] S T s u) ∧ BlkRow wr gB S.length (fun i => ((S.getD i 0 : Nat) : Int)) (fun i => ((T i : Nat) : Int)) VV ∧ Below w.heap.size w wr)
  case atStart => exact ⟨cs, s, g, rfl, r32, r42, k22, HQ.out, HSV2.out, HO.out, H0.out.1, Nat.le_refl _, fun u h => h, HBL.out.row, HB2.out⟩
  case round =>
    clear k22 r32 r42 HQ HSV2 HO HB2 HBL q1 q2 q3
    obtain ⟨csr, s', g', hmk, r3, r4, k2, ⟨q1, q2, q3⟩, hsv, ho, h0, hev, hfar, hrow, hbr⟩ := hrel
    have HAP : Hid (StIn wr (fun x => D x ∨ w.heap.size + 3 ≤ x) csr s') := hsv
    have HO : Hid (OneSt P k s' g') := ho
    have HST : Hid (s'.status = 0 ∧ s'.events.length + s'.fuel.toNat ≤ s.events.length + s.fuel.toNat ∧ gk = s'.fuel.toNat + 1) := ⟨h0, hev, hmk⟩
    have HFAR : Hid (∀ u, FarTo P P[k] S T s' u → FarTo P P[k] S T s u) := hfar
    have HROW : Hid (∀ W, Below wr.heap.size wr W → BlkRow W gB S.length (fun i => ((S.getD i 0 : Nat) : Int)) (fun i => ((T i : Nat) : Int)) VV) := fun W hb => ownsRow_below hrow hb
    have HBR : Hid (Below w.heap.size w wr) := hbr
    have HMAY : Hid (0 ≤ s'.fuel ∧ s'.fuel ≤ 10000) := by have := (mayB_iff _).1 ho.inv.may; exact ⟨this.2.2.1, this.2.2.2.1⟩
    obtain ⟨fb, off, hla, hrg, h12⟩ := lastE_val hsv.val (show s'.frames = [] ++ [g'] from ho.one)
    simp only [List.length_nil, Nat.zero_mul, Nat.add_zero] at hla hrg
    have hpc := hrg 1 _ rfl
    have HLA : Hid _ := hla
    have hla0 := HLA.out wr
    have c19 : wr.cell? ⟨w.heap.size + 1, 19, none⟩ = some (.int .i64 s'.fuel) := by rw [cell_of_row _ _ _ _ _ _ r3]; exact hsv.val.atE.2
    have HBG : Hid (∀ W, Below wr.heap.size wr W → Calls Tryd.prog 30 #[.slice (some ⟨gB, 0, none⟩) S.length S.length, .int .i64 g'.pc] W fun e w' => ∃ z, e = .returned (.int .i64 z) ∧ begI S g'.pc z ∧ Below W.heap.size W w') := fun W hb => begunB_any S (fun i => ((T i : Nat) : Int)) VV gB g'.pc W hSL (HROW.out W hb)
    clear hla hrg h12 hsv ho h0 hev hmk hfar hrow hbr
    have HPC : Hid (∀ z, begI S g'.pc z → begI S g'.pc z) := fun z h => h
    go_upto_region 4 with (first
      | (refine wpList_load_row rfl _ _ rfl _ rfl _ _ _ _ r3 Tryd.underlying34 rfl q1 ?_)
      | (go_at_call 17; refine hla0.mono ?_; rintro e w3 ⟨rfl, hb3⟩; have hpc3 := keeps_below hb3 _ _ hpc)
      | (go_at_call 30; refine (HBG.out _ hb3).mono ?_; rintro e w4 ⟨z, rfl, hz, hb4⟩))
    have HB4 : Hid (Below wr.heap.size wr w4) := hb3.trans (hb4.mono hb3.size)
    have HBW4 : Hid (Below w.heap.size w w4) := HBR.out.trans (HB4.out.mono HBR.out.size)
    have r34 := (HB4.out.block _ (lt_of_block r3)).trans r3
    have r44 := (HB4.out.block _ (lt_of_block r4)).trans r4
    have k24 := keeps_below HB4.out _ _ k2
    have c194 := keeps_below HB4.out _ _ c19
    have HAP4 : Hid (StIn w4 (fun x => D x ∨ w.heap.size + 3 ≤ x) csr s') := HAP.out.next fun a u _ hu => keeps_below HB4.out a u hu
    have HROW4 : Hid (BlkRow w4 gB S.length (fun i => ((S.getD i 0 : Nat) : Int)) (fun i => ((T i : Nat) : Int)) VV) := HROW.out w4 HB4.out
    clear hb3 hb4 hpc hpc3 hla0 HLA HBG HB4 HAP HROW HBR r3 r4 k2 c19
    rcases hz with ⟨i, hi, rfl, hpi⟩ | ⟨rfl, hno⟩
    · have hE := HBO.out.ends i hi
      have eS : S.getD i 0 = S[i] := by simp [List.getD, hi]
      have HE1 : Hid (S.getD i 0 < T i ∧ T i ≤ P[k].code.length) := ⟨by rw [eS]; exact hE.lt, hE.le⟩
      have HLEN : Hid (P[k].code.length ≤ 1000) := by show _ ≤ _; have := HOK.out.ok.len2; omega
      have HOP : Hid ((insD P[k] (T i - 1)).op ≤ 19) := (HOK.out.insD (show T i - 1 < P[k].code.length by have := HE1.out; omega)).1.op2
      have HRGE : Hid (∀ W, Below w4.heap.size w4 W → W.rangeAt gB (i * 4) [.int .i64 ((S.getD i 0 : Nat) : Int), .int .i64 ((T i : Nat) : Int), VV (2 * i), VV (2 * i + 1)]) := fun W hb j u hu => keeps_below hb _ _ (BlkRow.range HROW4.out hi j u hu)
      have HSTP : Hid (∀ W, Below w4.heap.size w4 W → Calls Tryd.prog 31 #[.slice (some ⟨b2, off2, none⟩) P[k].code.length cap2, .agg #[.int .i64 ((S.getD i 0 : Nat) : Int), .int .i64 ((T i : Nat) : Int), VV (2 * i), VV (2 * i + 1)]] W fun e w' => e = .returned (.int .i64 ((manyB P[k] (S.getD i 0) (T i) : Nat) : Int)) ∧ Below W.heap.size W w') := fun W hb =>
        stepsE_any P[k] (S.getD i 0) (T i) (VV (2 * i)) (VV (2 * i + 1)) b2 off2 cap2 W HE1.out.1 HE1.out.2 HLEN.out HOP.out (by
          have hbw := HBW4.out.trans (hb.mono HBW4.out.size)
          exact ((HCODE.out W hbw).2 (T i - 1) (by have := HE1.out; omega)).1) hp4 hp3
      have HCD : Hid (∀ W, Below w4.heap.size w4 W → W.cell? ⟨pb, po + k * 3 + 2, none⟩ = some (.slice (some ⟨b2, off2, none⟩) P[k].code.length cap2)) := fun W hb => (HCODE.out W (HBW4.out.trans (hb.mono HBW4.out.size))).1
      have HML : Hid (manyB P[k] (S.getD i 0) (T i) ≤ T i - S.getD i 0) := many_le _ _ _
      have HWK : Hid (∀ W, Below w4.heap.size w4 W → Calls Tryd.prog 8 #[.agg #[.slice (some ⟨pb, po, none⟩) P.length cap0], .agg csr, .int .i64 ((manyB P[k] (S.getD i 0) (T i) : Nat) : Int)] W fun e w' => ∃ cs5, e = .returned (.tuple #[.agg cs5, .int .i64 0]) ∧ (Tryd.prog.info? 34).map (·.size) = some cs5.size ∧ zeroStCells.size = cs5.size ∧ cs5.all (·.oneCell') = true ∧ StAt w' W.heap.size (.agg cs5) (walkS P (manyB P[k] (S.getD i 0) (T i)) s') ∧ Below W.heap.size W w') := fun W hb => by
        have hbw := HBW4.out.trans (hb.mono HBW4.out.size)
        refine (walk_ownP P _ (.agg csr) s' (manyB P[k] (S.getD i 0) (T i)) W (HTC.out W hbw).1 (HTC.out W hbw).2.1 HR.out (HTC.out W hbw).2.2 (HAP4.out.val.keeps (keeps_below hb)) (stays_of_run HR.out HO.out.inv _) (by have := HML.out; have := HE1.out; have := HLEN.out; omega) (by have := HML.out; have := HE1.out; have := HLEN.out; have := HST.out; have := H0.out; have := ((mayB_iff _).1 HO.out.inv.may).2.2.2.1; have := HMAY0.out; omega)).mono ?_
        rintro e w' ⟨v', rfl, hst, hb'⟩
        obtain ⟨cs5, rfl, c1, c2, c3⟩ := hst.at.val.cells
        exact ⟨cs5, rfl, c1, c2, c3, hst.at, hb'⟩
      have HFUEL : Hid (∀ n, (walkS P n s').status = 0 → (walkS P n s').fuel = s'.fuel - n) := fun n h => run_fuel HR.out HO.out.inv n h
      have hpi2 : ((S.getD i 0 : Nat) : Int) = (topF s').pc := by rw [HO.out.top]; exact hpi
      have HPI : Hid (((S.getD i 0 : Nat) : Int) = (topF s').pc) := hpi2
      have HIL : Hid (i < S.length ∧ S.getD i 0 = S[i] ∧ g'.pc = ((S[i] : Nat) : Int)) := ⟨hi, eS, by rw [← eS]; exact hpi.symm⟩
      have hiI : (i : Int) < (S.length : Int) := by omega
      have hkI : (k : Int) < (P.length : Int) := by omega
      clear hE eS hpi hpi2
      have HFR : Hid (∀ fr, fr = S.getD i 0 → fr = S.getD i 0) := fun _ h => h
      obtain ⟨fr, hfr⟩ : ∃ fr, fr = S.getD i 0 := ⟨_, rfl⟩
      obtain ⟨tt, htt⟩ : ∃ tt, tt = T i := ⟨_, rfl⟩
      obtain ⟨nn, hnn⟩ : ∃ nn, nn = manyB P[k] (S.getD i 0) (T i) := ⟨_, rfl⟩
      rw [← hnn] at HSTP HWK HML
      rw [← hfr, ← htt] at HE1 HML
      have HEQ : Hid (fr = S.getD i 0 ∧ tt = T i ∧ nn = manyB P[k] (S.getD i 0) (T i)) := ⟨hfr, htt, hnn⟩
      have HR2 : Hid (∀ W, Below w4.heap.size w4 W → W.rangeAt gB (i * 4) [.int .i64 (fr : Int), .int .i64 (tt : Int), VV (2 * i), VV (2 * i + 1)]) := by rw [hfr, htt]; exact HRGE.out
      have HS2 : Hid (∀ W, Below w4.heap.size w4 W → Calls Tryd.prog 31 #[.slice (some ⟨b2, off2, none⟩) P[k].code.length cap2, .agg #[.int .i64 (fr : Int), .int .i64 (tt : Int), VV (2 * i), VV (2 * i + 1)]] W fun e w' => e = .returned (.int .i64 (nn : Int)) ∧ Below W.heap.size W w') := by rw [hfr, htt]; exact HSTP.out
      clear HRGE HSTP hfr htt hnn HFR
      have HRGE := HR2
      have HSTP := HS2
      clear HR2 HS2
      go_upto_region 6 with fail
      refine wp_region_held_drew (S := fun W => Below w4.heap.size w4 W) (by kernel_rfl) ((Below.refl _ _).drew) (fun hHeld => ?_)
      show wpAnyH _ _ _ _ _ 12 _ _ _
      refine wpAnyH_take (i := 0) (v := ?_) rfl (by kernel_rfl) (by kernel_rfl) (by kernel_rfl) (fun _ _ _ h => h) (Or.inl ⟨by rfl, ?_⟩) (by assumption) ?_
      rotate_left
      · (intro W hSW; go_simp; try (with_reducible rfl))
      (try simp only [List.getElem_toArray, List.getElem_cons_zero])
      (try simp only [Act.put, List.setIfInBounds_toArray, List.set_cons_zero, List.set_cons_succ])
      refine wpAnyH_take (i := 1) (v := ?_) rfl (by kernel_rfl) (by kernel_rfl) (by kernel_rfl) (fun _ _ _ h => h) (Or.inl ⟨by rfl, ?_⟩) (by assumption) ?_
      rotate_left
      · (intro W hSW; have z0 := keeps_below hSW _ _ k24; go_simp; try (with_reducible rfl))
      (try simp only [List.getElem_toArray, List.getElem_cons_succ, List.getElem_cons_zero])
      (try simp only [Act.put, List.setIfInBounds_toArray, List.set_cons_zero, List.set_cons_succ])
      refine wpAnyH_take (i := 2) (v := ?_) rfl (by kernel_rfl) (by kernel_rfl) (by kernel_rfl) (fun _ _ _ h => h) (Or.inl ⟨by rfl, ?_⟩) (by assumption) ?_
      rotate_left
      · (intro W hSW; go_simp; try (with_reducible rfl))
      (try simp only [List.getElem_toArray, List.getElem_cons_succ, List.getElem_cons_zero])
      (try simp only [Act.put, List.setIfInBounds_toArray, List.set_cons_zero, List.set_cons_succ])
      refine wpAnyH_take (i := 3) (v := ?_) rfl (by kernel_rfl) (by kernel_rfl) (by kernel_rfl) (fun _ _ _ h => h) (Or.inl ⟨by rfl, ?_⟩) (by assumption) ?_
      rotate_left
      · (intro W hSW; go_simp; try (with_reducible rfl))
      (try simp only [List.getElem_toArray, List.getElem_cons_succ, List.getElem_cons_zero])
      (try simp only [Act.put, List.setIfInBounds_toArray, List.set_cons_zero, List.set_cons_succ])
      refine wpAnyH_take (i := 4) (v := ?_) rfl (by kernel_rfl) (by kernel_rfl) (by kernel_rfl) (fun _ _ _ h => h) (Or.inl ⟨by rfl, ?_⟩) (by assumption) ?_
      rotate_left
      · (intro W hSW; go_simp; try (with_reducible rfl))
      (try simp only [List.getElem_toArray, List.getElem_cons_succ, List.getElem_cons_zero])
      (try simp only [Act.put, List.setIfInBounds_toArray, List.set_cons_zero, List.set_cons_succ])
      refine wpAnyH_take (i := 5) (v := ?_) rfl (by kernel_rfl) (by kernel_rfl) (by kernel_rfl) (fun _ _ _ h => h) (Or.inl ⟨by rfl, ?_⟩) (by assumption) ?_
      rotate_left
      · (intro W hSW; have z0 := (HCD.out W hSW); go_simp; try (with_reducible rfl))
      (try simp only [List.getElem_toArray, List.getElem_cons_succ, List.getElem_cons_zero])
      (try simp only [Act.put, List.setIfInBounds_toArray, List.set_cons_zero, List.set_cons_succ])
      refine wpAnyH_take (i := 6) (v := ?_) rfl (by kernel_rfl) (by kernel_rfl) (by kernel_rfl) (fun _ _ _ h => h) (Or.inl ⟨by rfl, ?_⟩) (by assumption) ?_
      rotate_left
      · (intro W hSW; go_simp; try (with_reducible rfl))
      (try simp only [List.getElem_toArray, List.getElem_cons_succ, List.getElem_cons_zero])
      (try simp only [Act.put, List.setIfInBounds_toArray, List.set_cons_zero, List.set_cons_succ])
      refine wpAnyH_take (i := 7) (v := ?_) rfl (by kernel_rfl) (by kernel_rfl) (by kernel_rfl) (fun _ _ _ h => h) (Or.inl ⟨by rfl, ?_⟩) (by assumption) ?_
      rotate_left
      · (intro W hSW; go_simp; try (with_reducible rfl))
      (try simp only [List.getElem_toArray, List.getElem_cons_succ, List.getElem_cons_zero])
      (try simp only [Act.put, List.setIfInBounds_toArray, List.set_cons_zero, List.set_cons_succ])
      refine wpAnyH_take (i := 8) (v := ?_) rfl (by kernel_rfl) (by kernel_rfl) (by kernel_rfl) (fun _ _ _ h => h) (Or.inl ⟨by rfl, ?_⟩) (by assumption) ?_
      rotate_left
      · (intro W hSW; go_simp; try (with_reducible rfl))
      (try simp only [List.getElem_toArray, List.getElem_cons_succ, List.getElem_cons_zero])
      (try simp only [Act.put, List.setIfInBounds_toArray, List.set_cons_zero, List.set_cons_succ])
      refine wpAnyH_take (i := 9) (v := .agg [Value.int .i64 (fr : Int), .int .i64 (tt : Int), VV (2 * i), VV (2 * i + 1)].toArray) rfl (by kernel_rfl) (by kernel_rfl) (by kernel_rfl) (fun _ _ _ h => h) (yieldsIf_load_mid (by rfl) 55 (.tmp 39) rfl gB (i * 4) rfl [.int .i64 (fr : Int), .int .i64 (tt : Int), VV (2 * i), VV (2 * i + 1)] _ HRGE.out Tryd.underlying55 rfl infoBlkS) (by assumption) ?_
      (try simp only [List.getElem_toArray, List.getElem_cons_succ, List.getElem_cons_zero])
      (try simp only [Act.put, List.setIfInBounds_toArray, List.set_cons_zero, List.set_cons_succ])
      refine wpAnyH_ready (rs := [10]) (by kernel_rfl) (by simp) ?_
      refine AllReadyH.cons rfl (fun K hK => ?_) AllReadyH.nil
      go_simp
      go_at_call 31
      refine (HSTP.out _ hHeld).mono ?_
      rintro e w5 ⟨rfl, hb5⟩
      have hb45 : Below w4.heap.size w4 w5 := Below.trans hHeld (Below.mono hb5 (Below.size hHeld))
      dsimp only
      refine hK.out _ _ hb45 (fun _ => ?_)
      clear hK K hHeld hb5
      (try simp only [Act.put, List.setIfInBounds_toArray, List.set_cons_zero, List.set_cons_succ])
      refine wpAnyH_take (i := 11) (v := ?_) rfl (by kernel_rfl) (by kernel_rfl) (by kernel_rfl) (fun _ _ _ h => h) (Or.inl ⟨by rfl, ?_⟩) hb45 ?_
      rotate_left
      · (intro W hSW; go_simp; try (with_reducible rfl))
      (try simp only [List.getElem_toArray, List.getElem_cons_succ, List.getElem_cons_zero])
      (try simp only [Act.put, List.setIfInBounds_toArray, List.set_cons_zero, List.set_cons_succ])
      refine wpAnyH_done (by kernel_rfl) ?_ _
      (try simp only [Act.put])
      have HBW5 : Hid (Below w.heap.size w w5) := HBW4.out.trans (hb45.mono HBW4.out.size)
      have r35 := (hb45.block _ (lt_of_block r34)).trans r34
      have r45 := (hb45.block _ (lt_of_block r44)).trans r44
      have k25 := keeps_below hb45 _ _ k24
      have c195 := keeps_below hb45 _ _ c194
      have HAP5 : Hid (StIn w5 (fun x => D x ∨ w.heap.size + 3 ≤ x) csr s') := HAP4.out.next fun a u _ hu => keeps_below hb45 a u hu
      have HRW5 : Hid (∀ W : World, (∀ (a : Addr) u, a.block ≠ w.heap.size + 1 → a.block ≠ w.heap.size + 1 + 1 → w5.cell? a = some u → W.cell? a = some u) → W.cell? ⟨gB, i * 4, none⟩ = some (.int .i64 (fr : Int)) ∧ W.cell? ⟨gB, i * 4 + 1, none⟩ = some (.int .i64 (tt : Int))) := fun W hW => ⟨hW _ _ (by show gB ≠ _; have := HGB.out; omega) (by show gB ≠ _; have := HGB.out; omega) (HRGE.out w5 hb45 0 _ rfl), hW _ _ (by show gB ≠ _; have := HGB.out; omega) (by show gB ≠ _; have := HGB.out; omega) (HRGE.out w5 hb45 1 _ rfl)⟩
      have hWK5 := HWK.out w5 hb45
      have HROW5 : Hid (BlkRow w5 gB S.length (fun i => ((S.getD i 0 : Nat) : Int)) (fun i => ((T i : Nat) : Int)) VV) := ownsRow_below HROW4.out hb45
      clear hb45 r34 r44 k24 c194 HAP4 HBW4 HROW4 HWK HRGE HSTP HCD
      by_cases hpoor : s'.fuel < (nn : Int)
      · have HFX : Hid (FarX P P[k] S T s s') := ⟨s', s'.status, HFAR.out _ (.poor HIL.out.1 HPI.out (by rw [← HEQ.out.2.2]; exact hpoor)), rfl⟩
        have HBF : Hid (Below w.heap.size w (w5.setRow (w.heap.size + 1 + 1) csr)) := belowSR HBW5.out (by omega) _
        have HSF : Hid (StIn (w5.setRow (w.heap.size + 1 + 1) csr) (fun x => D x ∨ w.heap.size + 3 ≤ x) csr s') := HAP5.out.row HND.out.2 (csr)
        go_wp2_with (first
          | (refine wpList_load_row rfl _ _ rfl _ rfl _ _ _ _ r35 Tryd.underlying34 rfl q1 ?_)
          | (refine wpList_store_row rfl _ _ _ rfl _ csr rfl rfl _ _ r45 q1 q2 q3 ?_))
        try simp only [Exit.inBlock, Exit.then]
        exact bodyPost_ret (results_cell_row rfl _ _ (w.heap.size + 1 + 1) 34 csr (0, 0) _ rfl (setRow_heap _ _ _ _ _ _ r45) Tryd.underlying34 rfl q1) rfl ⟨csr, S, T, _, rfl, q1, q2, q3, HBO.out, HFX.out, HSF.out, HBF.out⟩
      have hpf : ¬ s'.fuel < (nn : Int) := hpoor
      have HPF : Hid (¬ s'.fuel < (nn : Int)) := hpoor
      clear hpoor
      go_upto_region 10 with (first
        | (refine wpList_load_row rfl _ _ rfl _ rfl _ _ _ _ r35 Tryd.underlying34 rfl q1 ?_)
        | (go_at_call 8; refine hWK5.mono ?_; rintro e w6 ⟨cs6, rfl, p1, p2, p3, hst6, hb6⟩; have h6 := (hb6.block _ (lt_of_block r35)).trans r35)
        | (refine wpList_store_row rfl _ _ _ rfl _ cs6 rfl rfl _ _ h6 p1 (q2.symm.trans p2) p3 ?_))
      have HZ5 : Hid (w.heap.size + 1 + 1 < w5.heap.size) := lt_of_block r45
      have r36 : ∀ n, ((w6.setRow (w.heap.size + 1) cs6).drewN n).heap[w.heap.size + 1]? = some (.cells cs6 34 (0, 0)) := fun _ => setRow_heap _ _ _ _ _ _ h6
      have r46 : ∀ n, ((w6.setRow (w.heap.size + 1) cs6).drewN n).heap[w.heap.size + 1 + 1]? = some (.cells zeroStCells 34 (0, 0)) := fun _ => (setRow_other _ _ _ _ (by omega)).trans ((hb6.block _ (lt_of_block r45)).trans r45)
      have HKP : Hid (∀ n (a : Addr) u, a.block ≠ w.heap.size + 1 → w6.cell? a = some u → ((w6.setRow (w.heap.size + 1) cs6).drewN n).cell? a = some u) := fun n a u h1 hu => (World.cell?_of_block (setRow_other w6 _ cs6 _ h1)).trans hu
      have HK26 : Hid (∀ n, ((w6.setRow (w.heap.size + 1) cs6).drewN n).cell? ⟨w.heap.size, 0, none⟩ = some (.slice (some ⟨pb, po, none⟩) P.length cap0)) := fun n => HKP.out n _ _ (by show w.heap.size ≠ _; omega) (keeps_below hb6 _ _ k25)
      have HAP6 : Hid (∀ n, StIn ((w6.setRow (w.heap.size + 1) cs6).drewN n) (fun x => D x ∨ w.heap.size + 3 ≤ x) cs6 (walkS P nn s')) := fun n W hW => (hst6.moved fun a u ha hu => hW a u (Or.inr (by have := HZ5.out; omega)) (HKP.out n a u (by have := HZ5.out; omega) hu)).val
      have HBW6 : Hid (∀ n, Below w.heap.size w ((w6.setRow (w.heap.size + 1) cs6).drewN n)) := fun n => below_drewN (belowSR (HBW5.out.trans (hb6.mono HBW5.out.size)) (by omega) _) n
      have HROW6 : Hid (∀ n, BlkRow ((w6.setRow (w.heap.size + 1) cs6).drewN n) gB S.length (fun i => ((S.getD i 0 : Nat) : Int)) (fun i => ((T i : Nat) : Int)) VV) := fun n => ownsRow_below (ownsRow_setRow_ne (ownsRow_below HROW5.out hb6) (by show some gB ≠ some _; have := HGB.out; intro e; have := Option.some.inj e; omega) cs6) (below_drewN (Below.refl _ _) n)
      obtain ⟨cB0, cB1⟩ := HRW5.out (w6.setRow (w.heap.size + 1) cs6) (fun a u h1 _ hu => HKP.out 0 a u h1 (keeps_below hb6 a u hu))
      have c06 : (w6.setRow (w.heap.size + 1) cs6).cell? ⟨w.heap.size + 1, 0, none⟩ = some (.int .i64 (walkS P nn s').status) := by rw [cell_of_row _ _ _ _ _ _ (setRow_heap _ _ _ _ _ _ h6)]; exact hst6.val.atE.1
      have HQ6 : Hid ((Tryd.prog.info? 34).map (·.size) = some cs6.size ∧ zeroStCells.size = cs6.size ∧ cs6.all (·.oneCell') = true) := ⟨p1, p2, p3⟩
      have hTS : IntKind.i64.wrap ((tt : Int) - (fr : Int)) = ((tt - fr : Nat) : Int) := by rw [show (tt : Int) - (fr : Int) = ((tt - fr : Nat) : Int) by have := HE1.out; omega]; exact wrap_fits _ (by omega) (by have := HE1.out; have := HLEN.out; omega)
      clear hb6 hst6 h6 hWK5 r35 r45 k25 c195 HAP5 HBW5 HRW5 HROW5 HKP hpf
      generalize w6.setRow (w.heap.size + 1) cs6 = V6 at *
      by_cases hstat : (walkS P nn s').status = 0
      · rw [hstat] at c06
        by_cases hop : 17 ≤ (insD P[k] (T i - 1)).op
        · have HFX : Hid (FarX P P[k] S T s (walkS P nn s')) := by
            refine ⟨_, (walkS P nn s').status, HFAR.out _ (.leave HIL.out.1 HPI.out (by rw [← HEQ.out.2.2]; have := HPF.out; omega) (by rw [← HEQ.out.2.2]; exact hstat) hop), ?_⟩
            rw [← HEQ.out.2.2]
          have hlt : (nn : Int) < ((tt - fr : Nat) : Int) := by
            have h1 := HEQ.out
            have h2 : manyB P[k] (S.getD i 0) (T i) = T i - S.getD i 0 - 1 := by unfold manyB; rw [if_pos hop]
            have h3 := HE1.out
            omega
          have hlt2 : nn < tt - fr := by omega
          clear hop hstat
          go_wp2_with fail
          go_quiet (fail)
          go_wp2_with (first
            | (refine wpList_load_row rfl _ _ rfl _ rfl _ _ _ _ (r36 _) Tryd.underlying34 rfl p1 ?_)
            | (refine wpList_store_row rfl _ _ _ rfl _ cs6 rfl rfl _ _ (r46 _) p1 p2 p3 ?_))
          try simp only [Exit.inBlock, Exit.then]
          exact bodyPost_ret (results_cell_row rfl _ _ (w.heap.size + 1 + 1) 34 cs6 (0, 0) _ rfl (setRow_heap _ _ _ _ _ _ (r46 _)) Tryd.underlying34 rfl p1) rfl ⟨cs6, S, T, _, rfl, p1, p2, p3, HBO.out, HFX.out, (HAP6.out _).row HND.out.2 cs6, belowSR (HBW6.out _) (by omega) _⟩
        · have HON : Hid (∀ u, FarTo P P[k] S T (walkS P nn s') u → FarTo P P[k] S T s u) := fun u hu => HFAR.out u (.on HIL.out.1 HPI.out (by rw [← HEQ.out.2.2]; have := HPF.out; omega) (by rw [← HEQ.out.2.2]; exact hstat) hop (by rw [← HEQ.out.2.2]; exact hu))
          have hnl : nn = tt - fr := by
            have h1 := HEQ.out
            have h2 : manyB P[k] (S.getD i 0) (T i) = T i - S.getD i 0 := by unfold manyB; rw [if_neg hop]
            omega
          have hlt : ¬ (nn : Int) < ((tt - fr : Nat) : Int) := by omega
          have hlt2 : ¬ nn < tt - fr := by omega
          obtain ⟨g6, ho6⟩ := far_next HR.out hk HBO.out HIL.out.1 HO.out HIL.out.2.2 (j := nn) (Nat.le_of_eq (HEQ.out.2.2.trans (congrArg (fun x => manyB P[k] x (T i)) HIL.out.2.1))) hstat
          have HO6 : Hid (OneSt P k (walkS P nn s') g6 ∧ (walkS P nn s').status = 0) := ⟨ho6, hstat⟩
          have HF6 : Hid ((walkS P nn s').fuel = s'.fuel - nn ∧ 0 < nn ∧ (walkS P nn s').events.length ≤ s'.events.length + nn) := ⟨HFUEL.out nn hstat, by have := HE1.out; omega, walkS_events_len P nn s'⟩
          clear hop hstat hnl ho6
          go_wp2_with fail
          go_quiet (fail)
          go_wp2
          have h1 := HF6.out
          have h2 := HST.out
          have h3 := HPF.out
          go_roundg ((walkS P nn s').fuel.toNat + 1)
          case measure => omega
          case rel => exact ⟨cs6, walkS P nn s', g6, rfl, r36 _, r46 _, HK26.out _, HQ6.out, HAP6.out _, HO6.out.1, HO6.out.2, by omega, HON.out, HROW6.out _, HBW6.out _⟩
      · have hne : ((walkS P nn s').status != 0) = true := by simpa using hstat
        obtain ⟨j, j1, j2, j3, j4⟩ := far_stop HR.out hk HBO.out HIL.out.1 HO.out HIL.out.2.2 HST.out.1 nn (Nat.le_of_eq (HEQ.out.2.2.trans (congrArg (fun x => manyB P[k] x (T i)) HIL.out.2.1))) hstat
        have HFX : Hid (FarX P P[k] S T s (walkS P nn s')) := ⟨walkS P j s', (walkS P nn s').status, HFAR.out _ (.stop HIL.out.1 HPI.out (by rw [← HEQ.out.2.2]; have := HPF.out; omega) (by rw [← HEQ.out.2.2]; exact j1) j2 j3), j4⟩
        clear j1 j2 j3 j4
        have hne2 : ¬ (walkS P nn s').status = 0 := hstat
        clear hstat
        generalize (walkS P nn s').status = st at c06 hne hne2
        clear cB0 cB1 hTS
        have r37 : V6.drew.heap[w.heap.size + 1]? = some (.cells cs6 34 (0, 0)) := r36 0
        have r47 : V6.drew.heap[w.heap.size + 1 + 1]? = some (.cells zeroStCells 34 (0, 0)) := r46 0
        have HAP7 : Hid (StIn V6.drew (fun x => D x ∨ w.heap.size + 3 ≤ x) cs6 (walkS P nn s')) := HAP6.out 0
        have HBW7 : Hid (Below w.heap.size w V6.drew) := (HBW6.out 0).drew
        clear r36 r46 HAP6 HBW6
        go_upto_region 10 with fail
        refine wp_region_held_drew (S := fun W => Below V6.heap.size V6 W) (by kernel_rfl) ((Below.refl _ _).drew) (fun hHeld => ?_)
        show wpAnyH _ _ _ _ _ 18 _ _ _
        refine wpAnyH_take (i := 0) (v := ?_) rfl (by kernel_rfl) (by kernel_rfl) (by kernel_rfl) (fun _ _ _ h => h) (Or.inl ⟨by rfl, ?_⟩) (by assumption) ?_
        rotate_left
        · (intro W hSW; go_simp; try (with_reducible rfl))
        (try simp only [Act.put, List.setIfInBounds_toArray])
        refine wpAnyH_take (i := 1) (v := ?_) rfl (by kernel_rfl) (by kernel_rfl) (by kernel_rfl) (fun _ _ _ h => h) (Or.inl ⟨by rfl, ?_⟩) (by assumption) ?_
        rotate_left
        · (intro W hSW; have z0 := keeps_below hSW _ _ c06; go_simp; try (with_reducible rfl))
        (try simp only [Act.put])
        refine wpAnyH_take (i := 2) (v := ?_) rfl (by kernel_rfl) (by kernel_rfl) (by kernel_rfl) (fun _ _ _ h => h) (Or.inl ⟨by rfl, ?_⟩) (by assumption) ?_
        rotate_left
        · (intro W hSW; go_simp; try (with_reducible rfl))
        (try simp only [Act.put])
        refine wpAnyH_take (i := 3) (v := ?_) rfl (by kernel_rfl) (by kernel_rfl) (by kernel_rfl) (fun _ _ _ h => h) (Or.inl ⟨by rfl, ?_⟩) (by assumption) ?_
        rotate_left
        · (intro W hSW; go_simp; try (with_reducible rfl))
        (try simp only [Act.put])
        refine wpAnyH_take (i := 4) (v := undef) rfl (by kernel_rfl) (by kernel_rfl) (by kernel_rfl) (fun _ _ _ h => h) (Or.inr ⟨by kernel_rfl, rfl⟩) (by assumption) ?_
        (try simp only [Act.put, List.getElem_toArray, List.getElem_cons_succ, List.getElem_cons_zero, List.setIfInBounds_toArray, List.set_cons_zero, List.set_cons_succ])
        refine wpAnyH_take (i := 5) (v := undef) rfl (by kernel_rfl) (by kernel_rfl) (by kernel_rfl) (fun _ _ _ h => h) (Or.inr ⟨by kernel_rfl, rfl⟩) (by assumption) ?_
        (try simp only [Act.put, List.getElem_toArray, List.getElem_cons_succ, List.getElem_cons_zero, List.setIfInBounds_toArray, List.set_cons_zero, List.set_cons_succ])
        refine wpAnyH_take (i := 6) (v := undef) rfl (by kernel_rfl) (by kernel_rfl) (by kernel_rfl) (fun _ _ _ h => h) (Or.inr ⟨by kernel_rfl, rfl⟩) (by assumption) ?_
        (try simp only [Act.put, List.getElem_toArray, List.getElem_cons_succ, List.getElem_cons_zero, List.setIfInBounds_toArray, List.set_cons_zero, List.set_cons_succ])
        refine wpAnyH_take (i := 7) (v := undef) rfl (by kernel_rfl) (by kernel_rfl) (by kernel_rfl) (fun _ _ _ h => h) (Or.inr ⟨by kernel_rfl, rfl⟩) (by assumption) ?_
        (try simp only [Act.put, List.getElem_toArray, List.getElem_cons_succ, List.getElem_cons_zero, List.setIfInBounds_toArray, List.set_cons_zero, List.set_cons_succ])
        refine wpAnyH_take (i := 8) (v := undef) rfl (by kernel_rfl) (by kernel_rfl) (by kernel_rfl) (fun _ _ _ h => h) (Or.inr ⟨by kernel_rfl, rfl⟩) (by assumption) ?_
        (try simp only [Act.put, List.getElem_toArray, List.getElem_cons_succ, List.getElem_cons_zero, List.setIfInBounds_toArray, List.set_cons_zero, List.set_cons_succ])
        refine wpAnyH_take (i := 9) (v := undef) rfl (by kernel_rfl) (by kernel_rfl) (by kernel_rfl) (fun _ _ _ h => h) (Or.inr ⟨by kernel_rfl, rfl⟩) (by assumption) ?_
        (try simp only [Act.put, List.getElem_toArray, List.getElem_cons_succ, List.getElem_cons_zero, List.setIfInBounds_toArray, List.set_cons_zero, List.set_cons_succ])
        refine wpAnyH_take (i := 10) (v := undef) rfl (by kernel_rfl) (by kernel_rfl) (by kernel_rfl) (fun _ _ _ h => h) (Or.inr ⟨by kernel_rfl, rfl⟩) (by assumption) ?_
        (try simp only [Act.put, List.getElem_toArray, List.getElem_cons_succ, List.getElem_cons_zero, List.setIfInBounds_toArray, List.set_cons_zero, List.set_cons_succ])
        refine wpAnyH_take (i := 11) (v := undef) rfl (by kernel_rfl) (by kernel_rfl) (by kernel_rfl) (fun _ _ _ h => h) (Or.inr ⟨by kernel_rfl, rfl⟩) (by assumption) ?_
        (try simp only [Act.put, List.getElem_toArray, List.getElem_cons_succ, List.getElem_cons_zero, List.setIfInBounds_toArray, List.set_cons_zero, List.set_cons_succ])
        refine wpAnyH_take (i := 12) (v := undef) rfl (by kernel_rfl) (by kernel_rfl) (by kernel_rfl) (fun _ _ _ h => h) (Or.inr ⟨by kernel_rfl, rfl⟩) (by assumption) ?_
        (try simp only [Act.put, List.getElem_toArray, List.getElem_cons_succ, List.getElem_cons_zero, List.setIfInBounds_toArray, List.set_cons_zero, List.set_cons_succ])
        refine wpAnyH_take (i := 13) (v := undef) rfl (by kernel_rfl) (by kernel_rfl) (by kernel_rfl) (fun _ _ _ h => h) (Or.inr ⟨by kernel_rfl, rfl⟩) (by assumption) ?_
        (try simp only [Act.put, List.getElem_toArray, List.getElem_cons_succ, List.getElem_cons_zero, List.setIfInBounds_toArray, List.set_cons_zero, List.set_cons_succ])
        refine wpAnyH_take (i := 14) (v := undef) rfl (by kernel_rfl) (by kernel_rfl) (by kernel_rfl) (fun _ _ _ h => h) (Or.inr ⟨by kernel_rfl, rfl⟩) (by assumption) ?_
        (try simp only [Act.put, List.getElem_toArray, List.getElem_cons_succ, List.getElem_cons_zero, List.setIfInBounds_toArray, List.set_cons_zero, List.set_cons_succ])
        refine wpAnyH_take (i := 15) (v := undef) rfl (by kernel_rfl) (by kernel_rfl) (by kernel_rfl) (fun _ _ _ h => h) (Or.inr ⟨by kernel_rfl, rfl⟩) (by assumption) ?_
        (try simp only [Act.put, List.getElem_toArray, List.getElem_cons_succ, List.getElem_cons_zero, List.setIfInBounds_toArray, List.set_cons_zero, List.set_cons_succ])
        refine wpAnyH_take (i := 16) (v := undef) rfl (by kernel_rfl) (by kernel_rfl) (by kernel_rfl) (fun _ _ _ h => h) (Or.inr ⟨by kernel_rfl, rfl⟩) (by assumption) ?_
        (try simp only [Act.put, List.getElem_toArray, List.getElem_cons_succ, List.getElem_cons_zero, List.setIfInBounds_toArray, List.set_cons_zero, List.set_cons_succ])
        refine wpAnyH_take (i := 17) (v := ?_) rfl (by kernel_rfl) (by kernel_rfl) (by kernel_rfl) (fun _ _ _ h => h) (Or.inl ⟨by rfl, ?_⟩) (by assumption) ?_
        rotate_left
        · (intro W hSW; go_simp; try (with_reducible rfl))
        (try simp only [Act.put, List.setIfInBounds_toArray])
        refine wpAnyH_done (by kernel_rfl) ?_ _
        clear hHeld
        (try simp only [List.set_cons_zero, List.set_cons_succ, List.getElem_toArray, List.getElem_cons_succ, List.getElem_cons_zero])
        go_simp
        have HBF : Hid (Below w.heap.size w (V6.drew.setRow (w.heap.size + 1 + 1) cs6)) := belowSR HBW7.out (by omega) _
        have HSF : Hid (StIn (V6.drew.setRow (w.heap.size + 1 + 1) cs6) (fun x => D x ∨ w.heap.size + 3 ≤ x) cs6 (walkS P nn s')) := HAP7.out.row HND.out.2 cs6
        go_wp2_with (first
          | (refine wpList_load_row rfl _ _ rfl _ rfl _ _ _ _ r37 Tryd.underlying34 rfl p1 ?_)
          | (refine wpList_store_row rfl _ _ _ rfl _ cs6 rfl rfl _ _ r47 p1 p2 p3 ?_))
        try simp only [Exit.inBlock, Exit.then]
        exact bodyPost_ret (results_cell_row rfl _ _ (w.heap.size + 1 + 1) 34 cs6 (0, 0) _ rfl (setRow_heap _ _ _ _ _ _ r47) Tryd.underlying34 rfl p1) rfl ⟨cs6, S, T, _, rfl, p1, p2, p3, HBO.out, HFX.out, HSF.out, HBF.out⟩
    · have HFX : Hid (FarX P P[k] S T s s') := by
        refine ⟨s', s'.status, HFAR.out _ (.none fun i hi => ?_), rfl⟩
        rw [HO.out.top]; exact hno i hi
      have HBF : Hid (Below w.heap.size w (w4.setRow (w.heap.size + 1 + 1) csr)) := belowSR HBW4.out (by omega) _
      have HSF : Hid (StIn (w4.setRow (w.heap.size + 1 + 1) csr) (fun x => D x ∨ w.heap.size + 3 ≤ x) csr s') := HAP4.out.row HND.out.2 csr
      clear hno
      go_wp2_with (first
        | (refine wpList_load_row rfl _ _ rfl _ rfl _ _ _ _ r34 Tryd.underlying34 rfl q1 ?_)
        | (refine wpList_store_row rfl _ _ _ rfl _ csr rfl rfl _ _ r44 q1 q2 q3 ?_))
      try simp only [Exit.inBlock, Exit.then]
      exact bodyPost_ret (results_cell_row rfl _ _ (w.heap.size + 1 + 1) 34 csr (0, 0) _ rfl (setRow_heap _ _ _ _ _ _ r44) Tryd.underlying34 rfl q1) rfl ⟨csr, S, T, s', rfl, q1, q2, q3, HBO.out, HFX.out, HSF.out, HBF.out⟩
end Go.Proofs.YtgdmdlkhnokieaaDoor
