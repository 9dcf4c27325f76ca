import Derived.Test.YtldbmdgpdolaaaaDoorPXSsaLook
import Derived.Test.YtldbmdgpdolaaaaDoorPXSsaRen
import Derived.Test.YtldbmdgpdolaaaaDoorPXSsaIds
import Derived.Test.YtldbmdgpdolaaaaDoorPGroupC
import Derived.Test.YtldbmdgpdolaaaaDoorPXPlaceMath
import Derived.Test.YtldbmdgpdolaaaaDoorPGroupB
import Derived.Test.YtldbmdgpdolaaaaDoorPXSsaRegs
import Derived.Test.YtldbmdgpdolaaaaDoorPXSsaRow
namespace Go.Proofs.YtldbmdgpdolaaaaDoor
open Go Go.RowKit

structure SsaIs (P : List Fn) (f : Fn) (S : List Nat) (T : Nat → Nat) (L : List Int) (pn : Nat) (g : List (Int × Int)) (D : PDat) : Prop where
  ok : BlkOk f S T
  live : LiveSpec P f L
  par : f.params = (pn : Int)
  left : LeftOf P f S T L D.ph D.ins
  part : ∀ b, b < S.length → D.bk b = (b : Int) ∧ D.rg b = wantR (mkL L (S.getD b 0)) (fromR f S T L b)
  settle : SettleTo [] (phsOf (phiM f S T L) S.length) g (phsOf D.ph S.length)
abbrev idsD (pn n : Nat) (D : PDat) : List Int := idsTo pn D.ph D.ins n
abbrev finD (pn n : Nat) (g : List (Int × Int)) (D : PDat) (ar : Nat → List Int) : PDat := renD (newI g (idsD pn n D)) n D ar
def BuildPost (w : World) (P : List Fn) (f : Fn) (e : Ending) (w' : World) : Prop :=
  ∃ S T L, ∃ pn : Nat, ∃ g D ar gp Ly, e = .returned (.tuple #[.agg #[.int .i64 (pn : Int), .int .i64 ((idsD pn S.length D).length : Int), .slice (some ⟨gp, 0, none⟩) S.length S.length], .int .i64 0]) ∧ SsaIs P f S T L pn g D ∧ PartsAt w' w.heap.size gp S.length (finD pn S.length g D ar) Ly ∧ Below w.heap.size w w'
theorem SsaFn.shapes {w : World} {P : List Fn} {f : Fn} {S : List Nat} {T : Nat → Nat} {L : List Int} {pv cv bv lv : Value} (h : SsaFn w P f S T L pv cv bv lv) : ∃ a1 n1 c1 a2 n2 c2 a3 n3 c3 a4 n4 c4, pv = .slice a1 n1 c1 ∧ cv = .slice a2 n2 c2 ∧ bv = .slice a3 n3 c3 ∧ lv = .slice a4 n4 c4 := by
  obtain ⟨a1, n1, c1, e1⟩ := h.prog.shape
  obtain ⟨cb, co, cc, e2, -⟩ := h.code
  obtain ⟨gB, VV, e3, -⟩ := h.blocks
  obtain ⟨a4, -, -, n4, c4, e4, -⟩ := ints_get h.live
  exact ⟨a1, _, c1, _, _, _, _, _, _, a4, n4, c4, e1, e2, e3, e4⟩
theorem infoSsa : (Tryd.prog.info? 34).map (·.size) = some 3 := by kernel_rfl
set_option maxRecDepth 100000 in
set_option maxHeartbeats 8000000 in
theorem Build_right (P : List Fn) (hR : ProofAns P 0) (k : Nat) (hk : k < P.length) (v : Value) (w : World) (ht : TabOk w) (hc : CallOk w) (hv : ProgVal w v P) :
    Calls Tryd.prog 8 #[.agg #[v], .int .i64 k] w (BuildPost w P P[k]) := by
  have HPOST : Hid (∀ e w', (∃ S T L, ∃ pn : Nat, ∃ g D ar gp Ly, e = .returned (.tuple #[.agg #[.int .i64 (pn : Int), .int .i64 ((idsD pn S.length D).length : Int), .slice (some ⟨gp, 0, none⟩) S.length S.length], .int .i64 0]) ∧ SsaIs P P[k] S T L pn g D ∧ PartsAt w' w.heap.size gp S.length (finD pn S.length g D ar) Ly ∧ Below w.heap.size w w') → BuildPost w P P[k] e w') := fun e w' h => h
  have hok := flowOk_of hR (List.getElem_mem hk)
  obtain ⟨pn, hpn⟩ : ∃ pn : Nat, P[k].params = (pn : Int) := ⟨P[k].params.toNat, by have := hok.ok.p0; omega⟩
  have HPN : Hid (P[k].params = (pn : Int)) := hpn
  have HU : Hid (∀ q, q < P[k].code.length → Way P[k] 63 q → ∀ r, r < 12 → (rdMask P (insD P[k] q)).testBit r = true → ¬ Way P[k] r q) := right_reads hR (List.getElem_mem hk)
  have hZ : ((w.alloc (.cells #[v] 25)).alloc (.cells #[.int .i64 0, .int .i64 0, .slice none 0 0] 34)).heap[w.heap.size + 1]? = some (.cells #[.int .i64 0, .int .i64 0, .slice none 0 0] 34 (0, 0)) := heap_alloc2_new _ _ _
  have hB0 : ((w.alloc (.cells #[v] 25)).alloc (.cells #[.int .i64 0, .int .i64 0, .slice none 0 0] 34)).heap[w.heap.size]? = some (.cells #[v] 25 (0, 0)) := heap_alloc2_old _ _ _
  have hbx : Below w.heap.size w ((w.alloc (.cells #[v] 25)).alloc (.cells #[.int .i64 0, .int .i64 0, .slice none 0 0] 34)) := ((Below.refl _ _).alloc (Nat.le_refl _) _).alloc (by simp) _
  have HB0 : Hid (Below w.heap.size w ((w.alloc (.cells #[v] 25)).alloc (.cells #[.int .i64 0, .int .i64 0, .slice none 0 0] 34))) := hbx
  have hlook := look_right P hR k hk v _ (ht.below hbx) (hc.below hbx) (hv.keeps (keeps_below hbx))
  have HTC : Hid (TabOk w ∧ CallOk w) := ⟨ht, hc⟩
  obtain ⟨ao, n, cap, rfl⟩ := hv.shape
  have HFO : Hid (FlowOk P P[k]) := hok
  clear hR ht hc hv hok hbx hpn
  go_enter Tryd.func8, Tryd.ntmps8
  go_upto_region 1 with fail
  generalize ((w.alloc (.cells #[.slice ao n cap] 25)).alloc (.cells #[.int .i64 0, .int .i64 0, .slice none 0 0] 34)) = V at *
  have b0 : V.cell? ⟨w.heap.size, 0, none⟩ = some (.slice ao n cap) := by rw [cell_of_row _ _ _ _ _ _ hB0]; rfl
  go_upto_region 2 with (go_at_call 15; refine hlook.mono ?_; rintro e w1 hp; obtain ⟨S, T, L, pv, cv, bv, lv, rfl, hsf, hnx, hb1⟩ := hp; obtain ⟨a1, n1, c1, a2, n2, c2, a3, n3, c3, a4, n4, c4, rfl, rfl, rfl, rfl⟩ := hsf.shapes; unfold fnV; rw [HPN.out])
  have r6 : (w1.alloc (.cells #[.slice a1 n1 c1, .int .i64 (pn : Int), .slice a2 n2 c2, .slice a3 n3 c3, .slice a4 n4 c4] 56)).heap[w1.heap.size]? = some (.cells #[.slice a1 n1 c1, .int .i64 (pn : Int), .slice a2 n2 c2, .slice a3 n3 c3, .slice a4 n4 c4] 56 (0, 0)) := heap_alloc_last _ _
  have hbb : Below w1.heap.size w1 (w1.alloc (.cells #[.slice a1 n1 c1, .int .i64 (pn : Int), .slice a2 n2 c2, .slice a3 n3 c3, .slice a4 n4 c4] 56)) := (Below.refl _ _).alloc (Nat.le_refl _) _
  have HBW : Hid (Below w.heap.size w (w1.alloc (.cells #[.slice a1 n1 c1, .int .i64 (pn : Int), .slice a2 n2 c2, .slice a3 n3 c3, .slice a4 n4 c4] 56))) := HB0.out.trans ((hb1.trans (hbb.mono hb1.size)).mono HB0.out.size)
  have hZ1 : (w1.alloc (.cells #[.slice a1 n1 c1, .int .i64 (pn : Int), .slice a2 n2 c2, .slice a3 n3 c3, .slice a4 n4 c4] 56)).heap[w.heap.size + 1]? = some (.cells #[.int .i64 0, .int .i64 0, .slice none 0 0] 34 (0, 0)) := (hbb.block _ (lt_of_block ((hb1.block _ (lt_of_block hZ)).trans hZ))).trans ((hb1.block _ (lt_of_block hZ)).trans hZ)
  have hset := settledS_any _ (hsf.below hbb) (HTC.out.1.below HBW.out) (HTC.out.2.below HBW.out) (fun gB e i hi => by obtain ⟨a, n, c, e2⟩ := hnx gB e i hi; exact ⟨a, n, c, keeps_below hbb _ _ e2⟩) HU.out pn HPN.out
  unfold fnV at hset
  rw [HPN.out] at hset
  have HSF : Hid (BlkOk P[k] S T ∧ LiveSpec P P[k] L) := ⟨hsf.ok, hsf.lspec⟩
  have hG6 : w1.heap.size < (w1.alloc (.cells #[.slice a1 n1 c1, .int .i64 (pn : Int), .slice a2 n2 c2, .slice a3 n3 c3, .slice a4 n4 c4] 56)).heap.size := lt_of_block r6
  have hH1 : w.heap.size + 1 < (w1.alloc (.cells #[.slice a1 n1 c1, .int .i64 (pn : Int), .slice a2 n2 c2, .slice a3 n3 c3, .slice a4 n4 c4] 56)).heap.size := lt_of_block hZ1
  have h40 := blocks40 HFO.out hsf.ok
  clear hsf hnx hb1 hbb hB0 hZ b0 HB0 hlook
  generalize (w1.alloc (.cells #[.slice a1 n1 c1, .int .i64 (pn : Int), .slice a2 n2 c2, .slice a3 n3 c3, .slice a4 n4 c4] 56)) = V1 at *
  generalize w1.heap.size = G6 at *
  go_upto_region 5 with (first
    | (refine wpList_load_row rfl 56 _ rfl _ rfl _ _ _ _ r6 Tryd.underlying56 rfl infoFnB ?_)
    | (go_at_call 16; refine hset.mono ?_; rintro e w2 hp; obtain ⟨gp, D, Ly, g, R2, B2, Rs, R, B, rfl, h1, h2, h3, h4, h5, h6, h7⟩ := hp))
  have HIS : Hid (SsaIs P P[k] S T L pn g D) := ⟨HSF.out.1, HSF.out.2, HPN.out, h2, h3, h4⟩
  have hreg : RegsD S.length D.ph := fun b hb => (phi_regs P[k] S T L S.length b hb).sublist (h2.ph b hb)
  have hfd := fitD_all HFO.out HU.out HSF.out.1 HSF.out.2 h2 (fun b hb => (h3 b hb).2)
  have hren := renParts_any (R2 := R2) (Rs := Rs) w2 V1.heap.size gp S.length D Ly (newI g (idsD pn S.length D)) h1 (by omega) hreg hfd (fun b hb => ⟨by have := Nat.le_trans (h2.ph b hb).length_le (phi_len P[k] S T L b); omega, by
      rw [h2.ins b hb, insL_len]
      have := (HSF.out.1.ends b hb).le; have := HFO.out.ok.len2
      omega, fun p hp => by
      obtain ⟨r, hr, hj, e, -⟩ := phi_form HFO.out HSF.out.1 HSF.out.2 hb ((h2.ph b hb).subset hp)
      have hpl := prevs_len (f := P[k]) (T := T) (b := b) h40
      rw [e]
      show (List.map _ _).length ≤ _ ∧ 0 < (List.map _ _).length
      rw [List.length_map]
      omega⟩) (fun W hW x hx => number_any W (h5.own4 h6 hW) x hx)
  have r62 := (h7.block _ (lt_of_block r6)).trans r6
  have hZ2 := (h7.block _ (lt_of_block hZ1)).trans hZ1
  have HB2 : Hid (Below w.heap.size w w2) := HBW.out.trans (h7.mono HBW.out.size)
  clear h1 h2 h3 h4 h5 h6 h7 hreg hfd hset r6 hZ1
  go_upto_region 6 with (go_at_call 17; refine hren.mono ?_; rintro e w3 hp; obtain ⟨rfl, ⟨ar, hpa⟩, ho⟩ := hp)
  have HPA : Hid (PartsAt w3 V1.heap.size gp S.length (finD pn S.length g D ar) Ly) := hpa
  have r63 := (ho.block G6 (Or.inl hG6)).trans r62
  have hZ3 := (ho.block (w.heap.size + 1) (Or.inl hH1)).trans hZ2
  have c61 : w3.cell? ⟨G6, 1, none⟩ = some (.int .i64 (pn : Int)) := by rw [cell_of_row _ _ _ _ _ _ r63]; rfl
  have HB3 : Hid (Below w.heap.size w w3) := HB2.out.trans (ho.below.mono (HBW.out.size))
  have HVS : Hid (w.heap.size ≤ V1.heap.size) := HBW.out.size
  clear hpa ho hren r62 hZ2 r63 HB2
  have one3 : (#[.int .i64 (pn : Int), .int .i64 ((idsD pn S.length D).length : Int), .slice (some ⟨gp, 0, none⟩) S.length S.length] : Array Value).all (·.oneCell') = true := by simp [Value.oneCell']
  go_wp2_with (refine wpList_store_row rfl 34 (.tmp 4) _ rfl _ #[.int .i64 (pn : Int), .int .i64 ((idsD pn S.length D).length : Int), .slice (some ⟨gp, 0, none⟩) S.length S.length] rfl rfl _ _ hZ3 infoSsa rfl one3 ?_)
  (try simp only [Exit.inBlock, Exit.then])
  refine bodyPost_ret (results_row_tmp rfl _ _ (w.heap.size + 1) 34 #[.int .i64 (pn : Int), .int .i64 ((idsD pn S.length D).length : Int), .slice (some ⟨gp, 0, none⟩) S.length S.length] (0, 0) _ rfl (setRow_heap _ _ _ _ _ _ hZ3) Tryd.underlying34 rfl infoSsa) rfl (HPOST.out _ _ ⟨S, T, L, pn, g, D, ar, gp, Ly, rfl, HIS.out, ?_, belowSK HB3.out (by omega) _⟩)
  refine (HPA.out.kept (gb_setRow _ _ _) (fun q cs t e hh => ?_)).mono HVS.out
  have e := Option.some.inj e
  rw [← e, hZ3] at hh
  simp at hh
  right
  rw [← hh.2]; decide
end Go.Proofs.YtldbmdgpdolaaaaDoor
namespace Go.Proofs.YtldbmdgpdolaaaaDoor
open Go Go.RowKit

theorem finD_ph (pn n : Nat) (g : List (Int × Int)) (D : PDat) (ar : Nat → List Int) {b : Nat} (hb : b < n) : (finD pn n g D ar).ph b = (D.ph b).map (phN (newI g (idsD pn n D))) := if_pos hb
theorem finD_ins (pn n : Nat) (g : List (Int × Int)) (D : PDat) (ar : Nat → List Int) {b : Nat} (hb : b < n) : (finD pn n g D ar).ins b = (D.ins b).map (insN (newI g (idsD pn n D))) := if_pos hb
theorem finD_rg (pn n : Nat) (g : List (Int × Int)) (D : PDat) (ar : Nat → List Int) {b : Nat} (hb : b < n) : (finD pn n g D ar).rg b = (D.rg b).map (newI g (idsD pn n D)) := if_pos hb
theorem getD_map {α β : Type} (f : α → β) (l : List α) {r : Nat} (d : α) (e : β) (hr : r < l.length) : (l.map f).getD r e = f (l.getD r d) := by
  simp [List.getD, hr]
theorem SsaIs.phi {P : List Fn} {f : Fn} {S : List Nat} {T : Nat → Nat} {L : List Int} {pn : Nat} {g : List (Int × Int)} {D : PDat} (h : SsaIs P f S T L pn g D) (ok : FlowOk P f) {ar : Nat → List Int} {b : Nat} (hb : b < S.length) {p : PhiD} (hp : p ∈ (finD pn S.length g D ar).ph b) :
    1 < (prevs f S T b).length ∧ p.reg < 12 ∧ (mkL L (S.getD b 0)).testBit p.reg = true ∧ ((finD pn S.length g D ar).rg b).getD p.reg 0 = p.id := by
  rw [finD_ph _ _ _ _ _ hb] at hp
  rw [finD_rg _ _ _ _ _ hb]
  obtain ⟨p0, hp0, rfl⟩ := List.mem_map.1 hp
  obtain ⟨r, hr, hj, -, hreg, hid, hw⟩ := phi_form ok h.ok h.live hb ((h.left.ph b hb).subset hp0)
  have eS : S.getD b 0 = S[b] := by simp [List.getD, hb]
  have hrc := h.ok.starts.reach ok (List.getElem_mem hb)
  have hbit : (mkL L (S.getD b 0)).testBit r = true := by
    rw [eS]
    rcases h.live.2 S[b] hrc.2 with ⟨h2, -⟩ | ⟨-, m, hm, e, hb2⟩
    · exact absurd hrc.1 h2
    · have : mkL L S[b] = m := by unfold mkL; rw [e]; rfl
      rw [this]
      exact (hb2 r hr).2 hw
  show 1 < _ ∧ p0.reg < 12 ∧ (mkL L (S.getD b 0)).testBit p0.reg = true ∧ (List.map (newI g (idsD pn S.length D)) (D.rg b)).getD p0.reg 0 = newI g (idsD pn S.length D) p0.id
  rw [hreg]
  refine ⟨hj, hr, hbit, ?_⟩
  rw [(h.part b hb).2, getD_map _ _ (0 : Int) 0 (by rw [wantR_len]; exact hr), wantR_get _ _ hr, if_pos hbit, fromR_eq (.joins hj), wantR_get _ _ hr, if_pos hbit, phiR_get b hr, hid]
theorem prevs_congr {f : Fn} {S : List Nat} {T T' : Nat → Nat} (h : ∀ i, i < S.length → T i = T' i) (b : Nat) : pvI f S T' S.length b = prevs f S T b := by
  unfold prevs pvI
  congr 2
  exact List.filter_congr fun j hj => by rw [h j (List.mem_range.1 hj)]
theorem BlkOk.same {f : Fn} {S S' : List Nat} {T T' : Nat → Nat} (h : BlkOk f S T) (h' : BlkOk f S' T') : S = S' ∧ ∀ i, i < S.length → T i = T' i := by
  obtain rfl := h.starts.unique h'.starts
  exact ⟨rfl, fun i hi => (h.ends i hi).unique (h'.ends i hi)⟩
end Go.Proofs.YtldbmdgpdolaaaaDoor
namespace Go.Proofs.YtldbmdgpdolaaaaDoor
open Go Go.RowKit

theorem stG_pres {Q : Int → Prop} {g : List (Int × Int)} (h : ∀ q ∈ g, Q q.2) : ∀ {v : Int}, Q v → Q (stG g v) := by
  induction g with
  | nil => intro v hv; exact hv
  | cons p g ih =>
    intro v hv
    rw [stG]
    refine ih (fun q hq => h q (by simp [hq])) ?_
    split
    · exact h p (by simp)
    · exact hv
theorem loneG_mem {g : List (Int × Int)} {id : Int} : ∀ (args : List Int) (one : Int), loneG g id one args = one ∨ loneG g id one args = -1 ∨ ∃ a ∈ args, loneG g id one args = stG g a
  | [], one => Or.inl rfl
  | a :: t, one => by
    rw [loneG]
    split
    · rcases loneG_mem t one with h | h | ⟨x, hx, h⟩
      · exact Or.inl h
      · exact Or.inr (Or.inl h)
      · exact Or.inr (Or.inr ⟨x, by simp [hx], h⟩)
    · split
      · exact Or.inr (Or.inl rfl)
      · rcases loneG_mem t (stG g a) with h | h | ⟨x, hx, h⟩
        · exact Or.inr (Or.inr ⟨a, by simp, h⟩)
        · exact Or.inr (Or.inl h)
        · exact Or.inr (Or.inr ⟨x, by simp [hx], h⟩)
theorem leftG_pres {Q : Int → Prop} : ∀ (ps : List PhiD) (g : List (Int × Int)), (∀ p ∈ ps, ∀ a ∈ p.args, Q a) → (∀ q ∈ g, Q q.2) → (∀ q ∈ (leftG g ps).1, Q q.2) ∧ ∀ p ∈ (leftG g ps).2, p ∈ ps
  | [], g, _, h => ⟨h, fun p hp => by cases hp⟩
  | p :: t, g, ha, h => by
    rw [leftG]
    split
    · have := leftG_pres t g (fun x hx => ha x (by simp [hx])) h
      refine ⟨this.1, fun x hx => ?_⟩
      rcases List.mem_cons.1 hx with e | hx
      · rw [e]; simp
      · have := this.2 x hx; simp [this]
    · rename_i hne
      have hq : Q (loneG g p.id (-1) p.args) := by
        rcases loneG_mem (g := g) (id := p.id) p.args (-1) with e | e | ⟨a, haa, e⟩
        · exact absurd e hne
        · exact absurd e hne
        · rw [e]; exact stG_pres h (ha p (by simp) a haa)
      have := leftG_pres t (g ++ [(p.id, loneG g p.id (-1) p.args)]) (fun x hx => ha x (by simp [hx])) (fun q hq' => by
        rcases List.mem_append.1 hq' with h' | h'
        · exact h q h'
        · have e : q = (p.id, loneG g p.id (-1) p.args) := by simpa using h'
          rw [e]; exact hq)
      exact ⟨this.1, fun x hx => by have := this.2 x hx; simp [this]⟩
theorem roundG_pres {Q : Int → Prop} : ∀ (ps : List (List PhiD)) (g : List (Int × Int)), (∀ l ∈ ps, ∀ p ∈ l, ∀ a ∈ p.args, Q a) → (∀ q ∈ g, Q q.2) → (∀ q ∈ (roundG g ps).1, Q q.2) ∧ ∀ l ∈ (roundG g ps).2, ∀ p ∈ l, ∃ l' ∈ ps, p ∈ l'
  | [], g, _, h => ⟨h, fun l hl => by cases hl⟩
  | ps :: t, g, ha, h => by
    rw [roundG]
    have h1 := leftG_pres ps g (ha ps (by simp)) h
    have h2 := roundG_pres t (leftG g ps).1 (fun l hl => ha l (by simp [hl])) h1.1
    refine ⟨h2.1, fun l hl p hp => ?_⟩
    rcases List.mem_cons.1 hl with e | hl
    · rw [e] at hp; exact ⟨ps, by simp, h1.2 p hp⟩
    · obtain ⟨l', h3, h4⟩ := h2.2 l hl p hp
      exact ⟨l', by simp [h3], h4⟩
theorem SettleTo.pres {Q : Int → Prop} {g g' : List (Int × Int)} {ps ps' : List (List PhiD)} (hs : SettleTo g ps g' ps') : (∀ l ∈ ps, ∀ p ∈ l, ∀ a ∈ p.args, Q a) → (∀ q ∈ g, Q q.2) → ∀ q ∈ g', Q q.2 := by
  induction hs with
  | stop _ => exact fun ha h => (roundG_pres _ _ ha h).1
  | on _ _ ih =>
    intro ha h
    have := roundG_pres _ _ ha h
    exact ih (fun l hl p hp a haa => by obtain ⟨l', h1, h2⟩ := this.2 l hl p hp; exact ha l' h1 p h2 a haa) this.1
def RawV (pn : Nat) (f : Fn) (S : List Nat) (T : Nat → Nat) (L : List Int) (z : Int) : Prop :=
  (0 ≤ z ∧ z < (pn : Int)) ∨ (∃ b, b < S.length ∧ ∃ pc : Nat, S.getD b 0 ≤ pc ∧ pc < T b ∧ setsB (insD f pc).op = true ∧ z = madeI pc) ∨ (∃ b r, b < S.length ∧ r < 12 ∧ z = phiI b r ∧ (phi1 f S T L b r).id = z ∧ phi1 f S T L b r ∈ phiM f S T L b)
def RawL (pn : Nat) (f : Fn) (S : List Nat) (T : Nat → Nat) (L : List Int) (l : List Int) : Prop := ∀ r, r < 12 → l.getD r 0 = -1 ∨ RawV pn f S T L (l.getD r 0)
theorem raw_on1 {pn : Nat} {f : Fn} {S : List Nat} {T : Nat → Nat} {L : List Int} {b pc : Nat} (hb : b < S.length) (h1 : S.getD b 0 ≤ pc) (h2 : pc < T b) {l : List Int} (hl : l.length = 12) (h : RawL pn f S T L l) : RawL pn f S T L (on1 f pc l) := fun r hr => by
  unfold on1
  split
  · rename_i hs
    rw [List.getD, List.getElem?_set]
    split
    · rename_i e
      rw [if_pos (by omega)]
      exact Or.inr (Or.inr (Or.inl ⟨b, hb, pc, h1, h2, hs, rfl⟩))
    · exact h r hr
  · exact h r hr
theorem raw_on {pn : Nat} {f : Fn} {S : List Nat} {T : Nat → Nat} {L : List Int} {b : Nat} (hb : b < S.length) : ∀ (n pc : Nat) (l : List Int), S.getD b 0 ≤ pc → pc + n ≤ T b → l.length = 12 → RawL pn f S T L l → RawL pn f S T L (onR f pc n l)
  | 0, _, _, _, _, _, h => h
  | n + 1, pc, l, h1, h2, hl, h => raw_on hb n (pc + 1) _ (by omega) (by omega) (by rw [on1_len]; exact hl) (raw_on1 hb h1 (by omega) hl h)
theorem raw_par {pn : Nat} {f : Fn} {S : List Nat} {T : Nat → Nat} {L : List Int} (hp : f.params = (pn : Int)) : RawL pn f S T L (parR f.params) := fun r hr => by
  rw [parR_get _ hr, hp]
  split
  · exact Or.inr (Or.inl ⟨by omega, by omega⟩)
  · exact Or.inl rfl
theorem raw_from {P : List Fn} {f : Fn} (ok : FlowOk P f) {S : List Nat} {T : Nat → Nat} (hB : BlkOk f S T) {L : List Int} {pn : Nat} (hp : f.params = (pn : Int)) {b : Nat} {l : List Int} (h : FromR f S T L b l) : b < S.length → RawL pn f S T L l := by
  induction h with
  | @joins b h =>
    intro hb r hr
    have e := fromR_eq (.joins h : FromR f S T L b _)
    rw [wantR_get _ _ hr]
    split
    · rename_i hbit
      right
      have e2 : (fromR f S T L b).getD r 0 = phiI b r := by rw [e, wantR_get _ _ hr, if_pos hbit, phiR_get b hr]
      refine Or.inr (Or.inr ⟨b, r, hb, hr, phiR_get b hr, ?_, ?_⟩)
      · rw [phiR_get b hr]; exact e2
      · unfold phiM
        rw [if_pos h]
        exact phiTo_mem.2 ⟨r, hr, by rw [e2]; unfold phiI; omega, rfl⟩
    · exact Or.inl rfl
  | first _ => exact fun _ => raw_par hp
  | @one b j l h hf ih =>
    intro hb
    obtain ⟨hj, -⟩ := prev_behind ok hB hb (show ((j : Nat) : Int) ∈ prevs f S T b by rw [h]; simp)
    have hE := hB.ends j hj
    have eS : S.getD j 0 = S[j] := by simp [List.getD, hj]
    have := hE.lt
    exact raw_on hj _ _ _ (Nat.le_refl _) (by omega) hf.len (ih hj)
theorem raw_beh {P : List Fn} {f : Fn} (ok : FlowOk P f) {S : List Nat} {T : Nat → Nat} (hB : BlkOk f S T) {L : List Int} {pn : Nat} (hp : f.params = (pn : Int)) {b : Nat} {z : Int} (hz : z ∈ prevs f S T b) : RawL pn f S T L (behR f S T L z) := by
  unfold behR
  split
  · exact raw_par hp
  · rename_i h
    rcases (prevs_mem z).1 hz with ⟨-, e⟩ | ⟨j, hj, rfl, -⟩
    · exact absurd e h
    · rw [Int.toNat_natCast]
      have hE := hB.ends j hj
      have eS : S.getD j 0 = S[j] := by simp [List.getD, hj]
      have := hE.lt
      exact raw_on hj _ _ _ (Nat.le_refl _) (by omega) (fromR_is ok hB L hj).len (raw_from ok hB hp (fromR_is ok hB L hj) hj)
theorem idsTo_mem {pn : Nat} {PH : Nat → List PhiD} {IN : Nat → List InsD} {z : Int} : ∀ {n : Nat}, z ∈ idsTo pn PH IN n ↔ (0 ≤ z ∧ z < (pn : Int)) ∨ ∃ b, b < n ∧ z ∈ idsP (PH b) (IN b)
  | 0 => by
    show z ∈ (List.range pn).map (fun r => ((r : Nat) : Int)) ↔ _
    rw [List.mem_map]
    constructor
    · rintro ⟨r, hr, rfl⟩
      have := List.mem_range.1 hr
      exact Or.inl ⟨by omega, by omega⟩
    · rintro (⟨h1, h2⟩ | ⟨b, hb, -⟩)
      · exact ⟨z.toNat, List.mem_range.2 (by omega), by omega⟩
      · omega
  | n + 1 => by
    rw [idsTo, List.mem_append, idsTo_mem]
    constructor
    · rintro ((h | ⟨b, hb, h⟩) | h)
      · exact Or.inl h
      · exact Or.inr ⟨b, by omega, h⟩
      · exact Or.inr ⟨n, by omega, h⟩
    · rintro (h | ⟨b, hb, h⟩)
      · exact Or.inl (Or.inl h)
      · by_cases e : b = n
        · subst e; exact Or.inr h
        · exact Or.inl (Or.inr ⟨b, by omega, h⟩)
theorem SsaIs.counted {P : List Fn} {f : Fn} {S : List Nat} {T : Nat → Nat} {L : List Int} {pn : Nat} {g : List (Int × Int)} {D : PDat} (h : SsaIs P f S T L pn g D) (ok : FlowOk P f) (hU : ∀ q, q < f.code.length → Way f 63 q → ∀ r, r < 12 → (rdMask P (insD f q)).testBit r = true → ¬ Way f r q) {z : Int} (hz : RawV pn f S T L z) : stG g z ∈ idsD pn S.length D := by
  have hpf := phiFit_all ok hU h.ok h.live
  have hsv := SInv.settle (fun p hp a ha => ((hpf p hp).2 a ha).2) h.settle (SInv.new (phi_ids ok h.ok h.live))
  have hrg : RawV pn f S T L (stG g z) := stG_pres (h.settle.pres (Q := RawV pn f S T L) (fun l hl p hp a ha => by
    obtain ⟨b, hb, rfl⟩ := List.mem_map.1 hl
    have hb := List.mem_range.1 hb
    obtain ⟨r, hr, -, e, -⟩ := phi_form ok h.ok h.live hb hp
    rw [e] at ha
    obtain ⟨y, hy, rfl⟩ := List.mem_map.1 ha
    rcases raw_beh ok h.ok h.par hy r hr with e2 | e2
    · exact absurd e2 ((hpf p (List.mem_flatten.2 ⟨_, hl, hp⟩)).2 _ (by rw [e]; exact List.mem_map.2 ⟨y, hy, rfl⟩)).2
    · exact e2) (by simp)) hz
  have hkey := hsv.1.ok.left z
  generalize stG g z = x at *
  refine idsTo_mem.2 ?_
  rcases hrg with a | ⟨b, hb, pc, a1, a2, a3, a4⟩ | ⟨b, r, hb, hr, a1, a2, a3⟩
  · exact Or.inl a
  · refine Or.inr ⟨b, hb, List.mem_append_right _ ?_⟩
    rw [h.left.ins b hb, insL_ids]
    exact List.mem_map.2 ⟨pc - S.getD b 0, List.mem_filter.2 ⟨List.mem_range.2 (by omega), by rw [Nat.add_sub_cancel' a1]; exact a3⟩, by rw [Nat.add_sub_cancel' a1]; exact a4.symm⟩
  · have hm : phi1 f S T L b r ∈ (phsOf (phiM f S T L) S.length).flatten := List.mem_flatten.2 ⟨_, List.mem_map.2 ⟨b, List.mem_range.2 hb, rfl⟩, a3⟩
    rcases hsv.1.cov _ hm with h1 | ⟨q, hq, e⟩
    · obtain ⟨l, hl, hpl⟩ := List.mem_flatten.1 h1
      obtain ⟨b', hb', rfl⟩ := List.mem_map.1 hl
      exact Or.inr ⟨b', List.mem_range.1 hb', List.mem_append_left _ (List.mem_map.2 ⟨_, hpl, a2⟩)⟩
    · exact absurd (e.trans a2) (hkey q hq)
theorem newI_lt {g : List (Int × Int)} {ids : List Int} {v : Int} (hv : v = -1 ∨ stG g v ∈ ids) : newI g ids v < (ids.length : Int) := by
  unfold newI
  split
  · omega
  · rename_i h
    rcases hv with e | e
    · exact absurd e h
    · rw [if_pos e]
      have := List.idxOf_lt_length_of_mem e
      omega
theorem newI_there (g : List (Int × Int)) (ids : List Int) (v : Int) : 0 ≤ newI g ids v ↔ v ≠ -1 := by
  unfold newI
  split
  · rename_i h; simp [h]
  · rename_i h
    split <;> simp [h]
end Go.Proofs.YtldbmdgpdolaaaaDoor
namespace Go.Proofs.YtldbmdgpdolaaaaDoor
open Go Go.RowKit

theorem rdA_bit {P : List Fn} {x : Ins} (h : rdA P x = true) : (rdMask P x).testBit x.a.toNat = true := by
  rw [rdMask_bit]; unfold readsL; rw [if_pos h]; simp
theorem rdB_bit {P : List Fn} {x : Ins} (h : rdB P x = true) : (rdMask P x).testBit x.b.toNat = true := by
  rw [rdMask_bit]; unfold readsL; rw [if_pos h]; simp
theorem PartsAt.inss {w : World} {base g n : Nat} {D : PDat} {L : PLay} (h : PartsAt w base g n D L) {b : Nat} (hb : b < n) : ∃ (ao : Option Addr) (q c : Nat), L.vi b = .slice ao (D.ins b).length c ∧ (D.ins b).length ≤ c ∧ (0 < (D.ins b).length → ao = some ⟨q, 0, none⟩) ∧
    ∀ W, Below w.heap.size w W → ∀ j (hj : j < (D.ins b).length), W.rangeAt q (j * 6) (inC (D.ins b)[j]) := by
  obtain ⟨hx, hc⟩ := h.ins.own b hb
  rcases hc with ⟨e, e2⟩ | ⟨q, cap, cur, e, hq, hh, hle, hmx, hsz, htk⟩
  · exact ⟨none, 0, 0, by rw [e, e2], by omega, by omega, fun _ _ j hj => by omega⟩
  · refine ⟨_, q, cap, e, hle, fun _ => rfl, fun W hW j hj => ?_⟩
    have hown : W.ownsRow base 90 6 (.slice (some ⟨q, 0, none⟩) (D.ins b).length cap) (D.ins b).length ((D.ins b).flatMap inC) := by
      rw [← e]; exact ownsRow_below (h.ins.own b hb) hW
    intro i u hu
    have hi : i < 6 := by
      rcases Nat.lt_or_ge i 6 with h | h
      · exact h
      · rw [List.getElem?_eq_none (by rw [inC_len]; exact h)] at hu; cases hu
    rw [hown.cellAt (j * 6 + i) (at_lt hj hi), flat_get inC_len _ _ _ hj hi]
    exact hu
theorem SsaIs.ins {P : List Fn} {f : Fn} {S : List Nat} {T : Nat → Nat} {L : List Int} {pn : Nat} {g : List (Int × Int)} {D : PDat} (h : SsaIs P f S T L pn g D) (ok : FlowOk P f) (hU : ∀ q, q < f.code.length → Way f 63 q → ∀ r, r < 12 → (rdMask P (insD f q)).testBit r = true → ¬ Way f r q) {ar : Nat → List Int} {b : Nat} (hb : b < S.length) {j : Nat} (hj : j < ((finD pn S.length g D ar).ins b).length) :
    S.getD b 0 + j < f.code.length ∧ InsOk P (insD f (S.getD b 0 + j)) ∧ ∃ x : InsD, x = ((finD pn S.length g D ar).ins b)[j] ∧ x.pc = ((S.getD b 0 + j : Nat) : Int) ∧ x.op = (insD f (S.getD b 0 + j)).op ∧ x.imm = (insD f (S.getD b 0 + j)).imm ∧ (0 ≤ x.a ↔ rdA P (insD f (S.getD b 0 + j)) = true) ∧ (0 ≤ x.b ↔ rdB P (insD f (S.getD b 0 + j)) = true) ∧ (0 ≤ x.id ↔ setsB (insD f (S.getD b 0 + j)).op = true) ∧ x.a < ((idsD pn S.length D).length : Int) ∧ x.b < ((idsD pn S.length D).length : Int) := by
  have hE := h.ok.ends b hb
  have eS : S.getD b 0 = S[b] := by simp [List.getD, hb]
  have hle := hE.le; have hlt := hE.lt
  have hl : ((finD pn S.length g D ar).ins b).length = T b - S[b] := by
    rw [finD_ins _ _ _ _ _ hb, List.length_map, h.left.ins b hb, insL_len, eS]
  have hpc : S.getD b 0 + j < f.code.length := by omega
  have hio := (ok.insD hpc).1
  refine ⟨hpc, hio, _, rfl, ?_⟩
  have hx : ((finD pn S.length g D ar).ins b)[j] = insN (newI g (idsD pn S.length D)) (insM P f (S.getD b 0 + j) (onR f (S.getD b 0) j (fromR f S T L b))) := by
    have e : (finD pn S.length g D ar).ins b = (insL P f (S.getD b 0) (T b - S.getD b 0) (fromR f S T L b)).map (insN (newI g (idsD pn S.length D))) := by rw [finD_ins _ _ _ _ _ hb, h.left.ins b hb]
    simp only [e, List.getElem_map]
    simp [insL]
  rw [hx]
  have hlen := (fromR_is ok h.ok L hb).len
  have hraw : RawL pn f S T L (onR f (S.getD b 0) j (fromR f S T L b)) := raw_on hb j _ _ (Nat.le_refl _) (by omega) hlen (raw_from ok h.ok h.par (fromR_is ok h.ok L hb) hb)
  have hthere : ∀ r, r < 12 → (rdMask P (insD f (S.getD b 0 + j))).testBit r = true → (onR f (S.getD b 0) j (fromR f S T L b)).getD r 0 ≠ -1 := fun r hr hbit => by
    rw [eS] at hbit ⊢
    exact onR_live ok h.ok hb hr hlen (from_live ok hU h.ok h.live (fromR_is ok h.ok L hb) hb r hr) j (by omega) (LiveW.read (by omega) hbit)
  have hcnt : ∀ r, r < 12 → newI g (idsD pn S.length D) ((onR f (S.getD b 0) j (fromR f S T L b)).getD r 0) < ((idsD pn S.length D).length : Int) := fun r hr => newI_lt ((hraw r hr).imp id fun e => h.counted ok hU e)
  have hm1 : newI g (idsD pn S.length D) (-1) < ((idsD pn S.length D).length : Int) := newI_lt (Or.inl rfl)
  have ha : (insD f (S.getD b 0 + j)).a.toNat < 12 := by have := hio.a0; have := hio.a1; omega
  have hb' : (insD f (S.getD b 0 + j)).b.toNat < 12 := by have := hio.b0; have := hio.b1; omega
  refine ⟨rfl, rfl, rfl, ?_, ?_, ?_, ?_, ?_⟩
  · show 0 ≤ newI _ _ (if rdA _ _ = true then _ else -1) ↔ _
    rw [newI_there]
    split
    · rename_i h1; exact ⟨fun _ => h1, fun _ => hthere _ ha (rdA_bit h1)⟩
    · rename_i h1; exact ⟨fun h2 => absurd rfl h2, fun h2 => absurd h2 h1⟩
  · show 0 ≤ newI _ _ (if rdB _ _ = true then _ else -1) ↔ _
    rw [newI_there]
    split
    · rename_i h1; exact ⟨fun _ => h1, fun _ => hthere _ hb' (rdB_bit h1)⟩
    · rename_i h1; exact ⟨fun h2 => absurd rfl h2, fun h2 => absurd h2 h1⟩
  · show 0 ≤ newI _ _ (if setsB _ = true then _ else -1) ↔ _
    rw [newI_there]
    split
    · rename_i h1; exact ⟨fun _ => h1, fun _ => by unfold madeI; omega⟩
    · rename_i h1; exact ⟨fun h2 => absurd rfl h2, fun h2 => absurd h2 h1⟩
  · show newI _ _ (if rdA _ _ = true then _ else -1) < _
    split
    · exact hcnt _ ha
    · exact hm1
  · show newI _ _ (if rdB _ _ = true then _ else -1) < _
    split
    · exact hcnt _ hb'
    · exact hm1
theorem SsaIs.inss {P : List Fn} {f : Fn} {S : List Nat} {T : Nat → Nat} {L : List Int} {pn : Nat} {g : List (Int × Int)} {D : PDat} (h : SsaIs P f S T L pn g D) (ok : FlowOk P f) (hU : ∀ q, q < f.code.length → Way f 63 q → ∀ r, r < 12 → (rdMask P (insD f q)).testBit r = true → ¬ Way f r q) {ar : Nat → List Int} {w : World} {base gp : Nat} {Ly : PLay} (hp : PartsAt w base gp S.length (finD pn S.length g D ar) Ly) :
    ∀ i, i < S.length → ∃ (ao : Option Addr) (q c ni : Nat), ni ≤ 40 ∧ ni ≤ c ∧ (0 < ni → ao = some ⟨q, 0, none⟩) ∧ (∀ W, Below w.heap.size w W → W.cell? ⟨gp, i * 15 + 2, none⟩ = some (.slice ao ni c)) ∧
      ∀ j, j < ni → ∃ (x : InsD) (pc : Nat), pc < f.code.length ∧ InsOk P (insD f pc) ∧ x.pc = (pc : Int) ∧ x.imm = (insD f pc).imm ∧ (0 ≤ x.a ↔ rdA P (insD f pc) = true) ∧ (0 ≤ x.b ↔ rdB P (insD f pc) = true) ∧ (0 ≤ x.id ↔ setsB (insD f pc).op = true) ∧ x.a < ((idsD pn S.length D).length : Int) ∧ x.b < ((idsD pn S.length D).length : Int) ∧ ∀ W, Below w.heap.size w W → W.rangeAt q (j * 6) (inC x) := fun i hi => by
  obtain ⟨ao, q, c, e, hc, h0, hj⟩ := hp.inss hi
  have hl : ((finD pn S.length g D ar).ins i).length ≤ 40 := by
    rw [finD_ins _ _ _ _ _ hi, List.length_map, h.left.ins i hi, insL_len]
    have := (h.ok.ends i hi).le; have := ok.ok.len2; omega
  refine ⟨ao, q, c, _, hl, hc, h0, fun W hW => by rw [← e]; exact (hp.below hW).cellI hi, fun j hjl => ?_⟩
  obtain ⟨h1, h2, x, hx, f1, -, f3, f4, f5, f6, f7, f8⟩ := h.ins ok hU (ar := ar) hi hjl
  exact ⟨x, _, h1, h2, f1, f3, f4, f5, f6, f7, f8, fun W hW => by rw [hx]; exact hj W hW j hjl⟩
end Go.Proofs.YtldbmdgpdolaaaaDoor
namespace Go.Proofs.YtldbmdgpdolaaaaDoor
open Go Go.RowKit

def comesT (F : Facts) (G : Ways) (b : Int) (pl args : List Int) : Nat → FV
  | 0 => .never
  | i + 1 => if (pl.getD i 0, b) ∈ G then eitherF (comesT F G b pl args i) (F (args.getD i 0).toNat) else comesT F G b pl args i
end Go.Proofs.YtldbmdgpdolaaaaDoor
namespace Go.Proofs.YtldbmdgpdolaaaaDoor
open Go Go.RowKit

def madeF (x : InsD) (a b : FV) : FV := if a = .never ∨ b = .never ∨ (x.op = 5 ∧ b = .known 0) then .never else if 12 < x.op ∨ a = .many ∨ b = .many then .many else .known (mk x.op a.num b.num x.imm)
end Go.Proofs.YtldbmdgpdolaaaaDoor
namespace Go.Proofs.YtldbmdgpdolaaaaDoor
open Go Go.RowKit

def rdF (F : Facts) (v : Int) : FV := if v = -1 then .known 0 else F v.toNat
end Go.Proofs.YtldbmdgpdolaaaaDoor
namespace Go.Proofs.YtldbmdgpdolaaaaDoor
open Go Go.RowKit

def goesF (F : Facts) (op a : Int) (NX : List Int) (i1 i2 : Nat) : List Int :=
  if op ≠ 16 then NX else match F a.toNat with
    | .never => []
    | .many => NX
    | .known z => if z = 0 then [(i1 : Int)] else [(i2 : Int)]
theorem infoInsG : (Tryd.prog.info? 90).map (·.size) = some 6 := by kernel_rfl
end Go.Proofs.YtldbmdgpdolaaaaDoor
namespace Go.Proofs.YtldbmdgpdolaaaaDoor
open Go Go.RowKit

theorem comesT_mono {F F' : Facts} {G G' : Ways} (hF : leF F F') (hG : ∀ x ∈ G, x ∈ G') (b : Int) (pl args : List Int) : ∀ i, (comesT F G b pl args i).le (comesT F' G' b pl args i)
  | 0 => FV.never_le _
  | i + 1 => by
    have ih := comesT_mono hF hG b pl args i
    rw [comesT, comesT]
    by_cases h : (pl.getD i 0, b) ∈ G
    · rw [if_pos h, if_pos (hG _ h)]
      exact eitherF_least (FV.le_trans ih (eitherF_left _ _)) (FV.le_trans (hF _) (eitherF_right _ _))
    · rw [if_neg h]
      split
      · exact FV.le_trans ih (eitherF_left _ _)
      · exact ih
theorem rdF_mono {F F' : Facts} (hF : leF F F') (v : Int) : (rdF F v).le (rdF F' v) := by
  unfold rdF; split
  · exact FV.le_refl _
  · exact hF _
theorem le_known {a : FV} {z : Int} (h : a.le (.known z)) (hn : a ≠ .never) : a = .known z := by
  cases a <;> simp_all [FV.le]
theorem never_of_le {a b : FV} (h : a.le b) (hb : b = .never) : a = .never := by rw [hb] at h; exact FV.le_never h
theorem madeF_mono (x : InsD) {a a' b b' : FV} (ha : a.le a') (hb : b.le b') : (madeF x a b).le (madeF x a' b') := by
  unfold madeF
  by_cases h1 : a = .never ∨ b = .never ∨ (x.op = 5 ∧ b = .known 0)
  · rw [if_pos h1]; exact FV.never_le _
  · rw [if_neg h1]
    have na : a ≠ .never := fun h => h1 (Or.inl h)
    have nb : b ≠ .never := fun h => h1 (Or.inr (Or.inl h))
    have h2 : ¬ (a' = .never ∨ b' = .never ∨ (x.op = 5 ∧ b' = .known 0)) := by
      rintro (h | h | ⟨h3, h4⟩)
      · exact na (never_of_le ha h)
      · exact nb (never_of_le hb h)
      · rw [h4] at hb; exact h1 (Or.inr (Or.inr ⟨h3, le_known hb nb⟩))
    rw [if_neg h2]
    by_cases h3 : 12 < x.op ∨ a' = .many ∨ b' = .many
    · rw [if_pos h3]; exact FV.le_many _
    · have ea : a = a' := by
        cases a' with
        | never => exact absurd (FV.le_never ha) na
        | known z => exact le_known ha na
        | many => exact absurd (Or.inr (Or.inl rfl)) h3
      have eb : b = b' := by
        cases b' with
        | never => exact absurd (FV.le_never hb) nb
        | known z => exact le_known hb nb
        | many => exact absurd (Or.inr (Or.inr rfl)) h3
      rw [ea, eb]; exact FV.le_refl _
theorem goesF_mono {F F' : Facts} (hF : leF F F') (op a : Int) {NX : List Int} {i1 i2 : Nat} (h1 : op = 16 → (i1 : Int) ∈ NX ∧ (i2 : Int) ∈ NX) : ∀ z ∈ goesF F op a NX i1 i2, z ∈ goesF F' op a NX i1 i2 := by
  intro z hz
  unfold goesF at hz ⊢
  by_cases ho : op ≠ 16
  · rw [if_pos ho] at hz ⊢; exact hz
  · rw [if_neg ho] at hz ⊢
    obtain ⟨m1, m2⟩ := h1 (Classical.not_not.1 ho)
    have hle := hF a.toNat
    cases h : F a.toNat with
    | never => rw [h] at hz; cases hz
    | many =>
      rw [h] at hz hle
      cases h' : F' a.toNat with
      | never => rw [h'] at hle; exact absurd hle id
      | known y => rw [h'] at hle; exact absurd hle id
      | many => exact hz
    | known y =>
      rw [h] at hz hle
      have hz : z ∈ (if y = 0 then [(i1 : Int)] else [(i2 : Int)]) := hz
      cases h' : F' a.toNat with
      | never => rw [h'] at hle; exact absurd hle id
      | known y' =>
        rw [h'] at hle
        have e : y = y' := hle
        rw [← e]; exact hz
      | many =>
        show z ∈ NX
        split at hz
        · rw [List.mem_singleton.1 hz]; exact m1
        · rw [List.mem_singleton.1 hz]; exact m2
structure FC where
  n : Nat
  VN : Nat
  par : Nat
  PV : Nat → List Int
  NX : Nat → List Int
  PH : Nat → List PhiD
  IN : Nat → List InsD
  I1 : Nat → Nat
  I2 : Nat → Nat
def noIns : InsD := ⟨0, 0, 0, 0, 0, 0⟩
def FC.last (c : FC) (b : Nat) : InsD := (c.IN b).getD ((c.IN b).length - 1) noIns
def phiS (c : FC) (b : Nat) (p : PhiD) : Site := ⟨b, p.id.toNat, fun F G => comesT F G b (c.PV b) p.args (c.PV b).length⟩
def insS (b : Nat) (x : InsD) : Site := ⟨b, x.id.toNat, fun F _ => madeF x (rdF F x.a) (rdF F x.b)⟩
def FC.know (c : FC) : Know where
  n := c.n
  par := c.par
  prev := c.PV
  goes := fun b F => goesF F (c.last b).op (c.last b).a (c.NX b) (c.I1 b) (c.I2 b)
  site := fun s => ∃ b, b < c.n ∧ ((∃ p ∈ c.PH b, s = phiS c b p) ∨ ∃ x ∈ c.IN b, x.id ≠ -1 ∧ s = insS b x)
structure FC.Ok (c : FC) : Prop where
  n40 : c.n ≤ 40
  vn : c.VN ≤ 3000
  pv : ∀ b, b < c.n → (c.PV b).length ≤ 1000 ∧ ∀ z ∈ c.PV b, FitW z
  nx : ∀ b, b < c.n → (c.NX b).length ≤ 1000 ∧ ∀ z ∈ c.NX b, FitW z
  ph : ∀ b, b < c.n → (c.PH b).length ≤ 12 ∧ ∀ p ∈ c.PH b, p.args.length = (c.PV b).length ∧ (c.par : Int) ≤ p.id ∧ p.id < (c.VN : Int) ∧ ∀ a ∈ p.args, 0 ≤ a ∧ a < (c.VN : Int)
  ins : ∀ b, b < c.n → 0 < (c.IN b).length ∧ (c.IN b).length ≤ 40 ∧ ∀ x ∈ c.IN b, (x.id = -1 ∨ (c.par : Int) ≤ x.id) ∧ x.id < (c.VN : Int) ∧ -1 ≤ x.a ∧ x.a < (c.VN : Int) ∧ -1 ≤ x.b ∧ x.b < (c.VN : Int)
  last : ∀ b, b < c.n → (c.last b).op = 16 → 0 ≤ (c.last b).a ∧ c.I1 b < c.n ∧ c.I2 b < c.n ∧ ((c.I1 b : Nat) : Int) ∈ c.NX b ∧ ((c.I2 b : Nat) : Int) ∈ c.NX b
  uniq : ∀ s s', c.know.site s → c.know.site s' → s.id = s'.id → s = s'
theorem FC.Ok.know {c : FC} (h : c.Ok) : c.know.Ok := by
  refine ⟨fun s hs => ?_, fun s hs F F' G G' hF hG => ?_, h.uniq, fun b hb F F' hF => ?_⟩
  · obtain ⟨b, hb, ⟨p, hp, rfl⟩ | ⟨x, hx, hne, rfl⟩⟩ := hs
    · have := ((h.ph b hb).2 p hp).2.1
      exact ⟨hb, by show c.par ≤ p.id.toNat; omega⟩
    · have := ((h.ins b hb).2.2 x hx).1
      exact ⟨hb, by show c.par ≤ x.id.toNat; omega⟩
  · obtain ⟨b, hb, ⟨p, hp, rfl⟩ | ⟨x, hx, hne, rfl⟩⟩ := hs
    · exact comesT_mono hF hG _ _ _ _
    · exact madeF_mono x (rdF_mono hF _) (rdF_mono hF _)
  · exact goesF_mono hF _ _ (fun ho => ⟨(h.last b hb ho).2.2.2.1, (h.last b hb ho).2.2.2.2⟩)
end Go.Proofs.YtldbmdgpdolaaaaDoor
