import Derived.Test.YtldbmdgpdolaaaaGreatDoorPXFoldComes
import Derived.Test.YtldbmdgpdolaaaaGreatDoorPXFoldGoes
import Derived.Test.YtldbmdgpdolaaaaGreatDoorPXFoldMade
import Derived.Test.YtldbmdgpdolaaaaGreatDoorPXBrief
import Derived.Test.YtldbmdgpdolaaaaGreatDoorPXSsaBuild
import Derived.Test.YtldbmdgpdolaaaaGreatDoorPXSsaPartM
namespace Go.Proofs.YtldbmdgpdolaaaaGreatDoor
open Go Go.RowKit

theorem comesT_mono {F F' : Facts} {G G' : Ways} (hF : leF F F') (hG : ∀ x ∈ G, x ∈ G') (b : Int) (pl args : List Int) : ∀ i, (comesT F G b pl args i).le (comesT F' G' b pl args i)
  | 0 => FV.never_le _
  | i + 1 => by
    have ih := comesT_mono hF hG b pl args i
    rw [comesT, comesT]
    by_cases h : (pl.getD i 0, b) ∈ G
    · rw [if_pos h, if_pos (hG _ h)]
      exact eitherF_least (FV.le_trans ih (eitherF_left _ _)) (FV.le_trans (hF _) (eitherF_right _ _))
    · rw [if_neg h]
      split
      · exact FV.le_trans ih (eitherF_left _ _)
      · exact ih
theorem rdF_mono {F F' : Facts} (hF : leF F F') (v : Int) : (rdF F v).le (rdF F' v) := by
  unfold rdF; split
  · exact FV.le_refl _
  · exact hF _
theorem le_known {a : FV} {z : Int} (h : a.le (.known z)) (hn : a ≠ .never) : a = .known z := by
  cases a <;> simp_all [FV.le]
theorem never_of_le {a b : FV} (h : a.le b) (hb : b = .never) : a = .never := by rw [hb] at h; exact FV.le_never h
theorem madeF_mono (x : InsD) {a a' b b' : FV} (ha : a.le a') (hb : b.le b') : (madeF x a b).le (madeF x a' b') := by
  unfold madeF
  by_cases h1 : a = .never ∨ b = .never ∨ (x.op = 5 ∧ b = .known 0)
  · rw [if_pos h1]; exact FV.never_le _
  · rw [if_neg h1]
    have na : a ≠ .never := fun h => h1 (Or.inl h)
    have nb : b ≠ .never := fun h => h1 (Or.inr (Or.inl h))
    have h2 : ¬ (a' = .never ∨ b' = .never ∨ (x.op = 5 ∧ b' = .known 0)) := by
      rintro (h | h | ⟨h3, h4⟩)
      · exact na (never_of_le ha h)
      · exact nb (never_of_le hb h)
      · rw [h4] at hb; exact h1 (Or.inr (Or.inr ⟨h3, le_known hb nb⟩))
    rw [if_neg h2]
    by_cases h3 : 12 < x.op ∨ a' = .many ∨ b' = .many
    · rw [if_pos h3]; exact FV.le_many _
    · have ea : a = a' := by
        cases a' with
        | never => exact absurd (FV.le_never ha) na
        | known z => exact le_known ha na
        | many => exact absurd (Or.inr (Or.inl rfl)) h3
      have eb : b = b' := by
        cases b' with
        | never => exact absurd (FV.le_never hb) nb
        | known z => exact le_known hb nb
        | many => exact absurd (Or.inr (Or.inr rfl)) h3
      rw [ea, eb]; exact FV.le_refl _
theorem goesF_mono {F F' : Facts} (hF : leF F F') (op a : Int) {NX : List Int} {i1 i2 : Nat} (h1 : op = 16 → (i1 : Int) ∈ NX ∧ (i2 : Int) ∈ NX) : ∀ z ∈ goesF F op a NX i1 i2, z ∈ goesF F' op a NX i1 i2 := by
  intro z hz
  unfold goesF at hz ⊢
  by_cases ho : op ≠ 16
  · rw [if_pos ho] at hz ⊢; exact hz
  · rw [if_neg ho] at hz ⊢
    obtain ⟨m1, m2⟩ := h1 (Classical.not_not.1 ho)
    have hle := hF a.toNat
    cases h : F a.toNat with
    | never => rw [h] at hz; cases hz
    | many =>
      rw [h] at hz hle
      cases h' : F' a.toNat with
      | never => rw [h'] at hle; exact absurd hle id
      | known y => rw [h'] at hle; exact absurd hle id
      | many => exact hz
    | known y =>
      rw [h] at hz hle
      have hz : z ∈ (if y = 0 then [(i1 : Int)] else [(i2 : Int)]) := hz
      cases h' : F' a.toNat with
      | never => rw [h'] at hle; exact absurd hle id
      | known y' =>
        rw [h'] at hle
        have e : y = y' := hle
        rw [← e]; exact hz
      | many =>
        show z ∈ NX
        split at hz
        · rw [List.mem_singleton.1 hz]; exact m1
        · rw [List.mem_singleton.1 hz]; exact m2
structure FC where
  n : Nat
  VN : Nat
  par : Nat
  PV : Nat → List Int
  NX : Nat → List Int
  PH : Nat → List PhiD
  IN : Nat → List InsD
  I1 : Nat → Nat
  I2 : Nat → Nat
def noIns : InsD := ⟨0, 0, 0, 0, 0, 0⟩
def FC.last (c : FC) (b : Nat) : InsD := (c.IN b).getD ((c.IN b).length - 1) noIns
def phiS (c : FC) (b : Nat) (p : PhiD) : Site := ⟨b, p.id.toNat, fun F G => comesT F G b (c.PV b) p.args (c.PV b).length⟩
def insS (b : Nat) (x : InsD) : Site := ⟨b, x.id.toNat, fun F _ => madeF x (rdF F x.a) (rdF F x.b)⟩
def FC.know (c : FC) : Know where
  n := c.n
  par := c.par
  prev := c.PV
  goes := fun b F => goesF F (c.last b).op (c.last b).a (c.NX b) (c.I1 b) (c.I2 b)
  site := fun s => ∃ b, b < c.n ∧ ((∃ p ∈ c.PH b, s = phiS c b p) ∨ ∃ x ∈ c.IN b, x.id ≠ -1 ∧ s = insS b x)
structure FC.Ok (c : FC) : Prop where
  n40 : c.n ≤ 40
  vn : c.VN ≤ 3000
  pv : ∀ b, b < c.n → (c.PV b).length ≤ 1000 ∧ ∀ z ∈ c.PV b, FitW z
  nx : ∀ b, b < c.n → (c.NX b).length ≤ 1000 ∧ ∀ z ∈ c.NX b, FitW z
  ph : ∀ b, b < c.n → (c.PH b).length ≤ 12 ∧ ∀ p ∈ c.PH b, p.args.length = (c.PV b).length ∧ (c.par : Int) ≤ p.id ∧ p.id < (c.VN : Int) ∧ ∀ a ∈ p.args, 0 ≤ a ∧ a < (c.VN : Int)
  ins : ∀ b, b < c.n → 0 < (c.IN b).length ∧ (c.IN b).length ≤ 40 ∧ ∀ x ∈ c.IN b, (x.id = -1 ∨ (c.par : Int) ≤ x.id) ∧ x.id < (c.VN : Int) ∧ -1 ≤ x.a ∧ x.a < (c.VN : Int) ∧ -1 ≤ x.b ∧ x.b < (c.VN : Int)
  last : ∀ b, b < c.n → (c.last b).op = 16 → 0 ≤ (c.last b).a ∧ c.I1 b < c.n ∧ c.I2 b < c.n ∧ ((c.I1 b : Nat) : Int) ∈ c.NX b ∧ ((c.I2 b : Nat) : Int) ∈ c.NX b
  uniq : ∀ s s', c.know.site s → c.know.site s' → s.id = s'.id → s = s'
theorem FC.Ok.know {c : FC} (h : c.Ok) : c.know.Ok := by
  refine ⟨fun s hs => ?_, fun s hs F F' G G' hF hG => ?_, h.uniq, fun b hb F F' hF => ?_⟩
  · obtain ⟨b, hb, ⟨p, hp, rfl⟩ | ⟨x, hx, hne, rfl⟩⟩ := hs
    · have := ((h.ph b hb).2 p hp).2.1
      exact ⟨hb, by show c.par ≤ p.id.toNat; omega⟩
    · have := ((h.ins b hb).2.2 x hx).1
      exact ⟨hb, by show c.par ≤ x.id.toNat; omega⟩
  · obtain ⟨b, hb, ⟨p, hp, rfl⟩ | ⟨x, hx, hne, rfl⟩⟩ := hs
    · exact comesT_mono hF hG _ _ _ _
    · exact madeF_mono x (rdF_mono hF _) (rdF_mono hF _)
  · exact goesF_mono hF _ _ (fun ho => ⟨(h.last b hb ho).2.2.2.1, (h.last b hb ho).2.2.2.2⟩)
theorem FC.met_iff {c : FC} {G : Ways} {b : Nat} : metB G (c.PV b) b = true ↔ c.know.met G b := by
  rw [metB_iff]; exact ⟨fun ⟨x, h1, h2⟩ => ⟨x, h1, h2⟩, fun ⟨x, h1, h2⟩ => ⟨x, h1, h2⟩⟩
end Go.Proofs.YtldbmdgpdolaaaaGreatDoor
namespace Go.Proofs.YtldbmdgpdolaaaaGreatDoor
open Go Go.RowKit

theorem KnAt.there {w : World} {K gp n gB VN FB MB : Nat} {F : Facts} {G : Ways} (h : KnAt w K gp n gB VN FB MB F G) {v : Nat} (hv : v < VN) : w.there FB (v * 2) 2 := by
  intro j hj
  have h1 : (gC (fun v => factC (F v)) VN)[v * 2 + j]? = (factC (F v))[j]? := gC_get (s := 2) (C := fun v => factC (F v)) (fun i _ => factC_len _) v j hv hj
  have h2 : w.cell? ⟨FB, v * 2 + j, none⟩ = (factC (F v))[j]? := by rw [cell_of_row _ _ _ _ _ _ h.facts, List.getElem?_toArray, h1]
  refine ⟨by rw [h2, List.getElem?_eq_getElem (by rw [factC_len]; exact hj)]; rfl, frozen_of_row _ _ _ _ _ h.facts⟩
theorem KnAt.set {w : World} {K gp n gB VN FB MB : Nat} {F : Facts} {G : Ways} (h : KnAt w K gp n gB VN FB MB F G) {v : Nat} (hv : v < VN) (hne : K ≠ FB) (a : FV) : KnAt (w.setCells FB (v * 2) [.int .i64 a.kind, .int .i64 a.num]) K gp n gB VN FB MB (updF F v a) G ∧ w.grownBy (w.setCells FB (v * 2) [.int .i64 a.kind, .int .i64 a.num]) (some FB) := by
  have hg := gb_setCells FB [.int .i64 a.kind, .int .i64 a.num] (v * 2) w
  obtain ⟨D, ⟨es, cl, hh, r⟩, hD⟩ := h.ways
  have hmf : MB ≠ FB := fun e => by rw [e, h.facts] at hh; cases hh
  refine ⟨⟨?_, ?_, D, ⟨es, cl, (hg.block MB (lt_of_block hh) (by simpa using hmf)).trans hh, r⟩, hD⟩, hg⟩
  · exact (hg.block K (lt_of_block h.box) (by simpa using hne)).trans h.box
  · have s1 := heap_setCell_same w FB (v * 2) _ _ (.int .i64 a.kind) h.facts
    have s2 := heap_setCell_same _ FB (v * 2 + 1) _ _ (.int .i64 a.num) s1
    have hl : ∀ i, i < VN → ((fun v => factC (F v)) i).length = 2 := fun i _ => factC_len _
    have e1 : (gC (fun v => factC (F v)) VN).set (v * 2 + 0) (.int .i64 a.kind) = gC (upd (fun v => factC (F v)) v ((factC (F v)).set 0 (.int .i64 a.kind))) VN := gC_set hl hv (by omega) _
    have hl2 : ∀ i, i < VN → (upd (fun v => factC (F v)) v ((factC (F v)).set 0 (.int .i64 a.kind)) i).length = 2 := fun i _ => by
      by_cases e : i = v
      · rw [e, upd_same]; rfl
      · rw [upd_other _ e]; rfl
    have e2 := gC_set hl2 hv (c := 1) (by omega) (.int .i64 a.num)
    rw [upd_same] at e2
    have e3 : gC (upd (upd (fun v => factC (F v)) v ((factC (F v)).set 0 (.int .i64 a.kind))) v (((factC (F v)).set 0 (.int .i64 a.kind)).set 1 (.int .i64 a.num))) VN = gC (fun u => factC (updF F v a u)) VN := gC_same fun i _ => by
      by_cases e : i = v
      · rw [e, upd_same, updF_same]; rfl
      · rw [upd_other _ e, upd_other _ e, updF_other _ _ e]
    show (World.setCell (w.setCell ⟨FB, v * 2, none⟩ (.int .i64 a.kind)) ⟨FB, v * 2 + 1, none⟩ (.int .i64 a.num)).heap[FB]? = _
    rw [s2, List.setIfInBounds_toArray, List.setIfInBounds_toArray]
    rw [Nat.add_zero] at e1
    rw [e1, e2, e3]
theorem below_grownK {B : Nat} {w0 w w' : World} {row : Nat} (hb : Below B w0 w) (hg : w.grownBy w' (some row)) (hr : B ≤ row) (hs : B ≤ w.heap.size) : Below B w0 w' :=
  hb.grown hg hs (fun k e => by have e := Option.some.inj e; omega)
def RisePost (w : World) (K gp n gB VN FB MB : Nat) (F : Facts) (G : Ways) (v : Nat) (a : FV) (e : Ending) (w' : World) : Prop :=
  e = .returned (.bool (decide (F v ≠ a))) ∧ KnAt w' K gp n gB VN FB MB (updF F v a) G ∧ w.grownBy w' (some FB)
set_option maxRecDepth 100000 in
set_option maxHeartbeats 4000000 in
theorem rise_any {K gp n gB VN FB MB : Nat} {F : Facts} {G : Ways} (w : World) (h : KnAt w K gp n gB VN FB MB F G) (v : Nat) (hv : v < VN) (hne : K ≠ FB) (a : FV) :
    Calls Tryz.prog 84 #[.pointer (some ⟨K, 0, none⟩), .int .i64 v, .agg #[.int .i64 a.kind, .int .i64 a.num]] w (RisePost w K gp n gB VN FB MB F G v a) := by
  have HP : Hid (∀ e w', (e = .returned (.bool (decide (F v ≠ a))) ∧ KnAt w' K gp n gB VN FB MB (updF F v a) G ∧ w.grownBy w' (some FB)) → RisePost w K gp n gB VN FB MB F G v a e w') := fun _ _ h => h
  have HB0 : Below w.heap.size w (w.alloc (.cells #[.int .i64 a.kind, .int .i64 a.num] 65)) := (Below.refl _ _).alloc (Nat.le_refl _) _
  have HBH : Hid (Below w.heap.size w (w.alloc (.cells #[.int .i64 a.kind, .int .i64 a.num] 65))) := HB0
  have r5 : (w.alloc (.cells #[.int .i64 a.kind, .int .i64 a.num] 65)).heap[w.heap.size]? = some (.cells #[.int .i64 a.kind, .int .i64 a.num] 65 (0, 0)) := heap_alloc_last _ _
  have HK : Hid (KnAt (w.alloc (.cells #[.int .i64 a.kind, .int .i64 a.num] 65)) K gp n gB VN FB MB F G) := h.below HB0
  have hq := fun W => equal_fact (F v).kind (F v).num a.kind a.num W
  rw [fv_eq] at hq
  obtain ⟨B, hB⟩ : ∃ B, B = decide (F v = a) := ⟨_, rfl⟩
  have HBB : Hid ((!B) = decide (F v ≠ a)) := by show _ = _; rw [hB]; simp
  rw [← hB] at hq
  have hvI : (v : Int) < (VN : Int) := by omega
  have HV : Hid (v < VN ∧ K ≠ FB) := ⟨hv, hne⟩
  clear h hB HB0 hv hne
  go_enter Tryz.func84, Tryz.ntmps84
  go_upto_region 1 with fail
  generalize (w.alloc (.cells #[.int .i64 a.kind, .int .i64 a.num] 65)) = V at *
  have hf := HK.out.fact HV.out.1
  have k2 : V.cell? ⟨K, 2, none⟩ = some (.slice (some ⟨FB, 0, none⟩) VN VN) := by rw [cell_of_row _ _ _ _ _ _ HK.out.box]; rfl
  obtain ⟨ak, hak⟩ : ∃ x, x = a.kind := ⟨_, rfl⟩
  obtain ⟨an, han⟩ : ∃ x, x = a.num := ⟨_, rfl⟩
  have HAK : Hid (ak = a.kind ∧ an = a.num) := ⟨hak, han⟩
  rw [← hak, ← han] at r5 hq
  clear hak han
  generalize (F v).kind = fk at *
  generalize (F v).num = fn at *
  refine wp_region_held_drew (S := fun W => Below V.heap.size V W) (by kernel_rfl) ((Below.refl _ _).drew) (fun hHeld => ?_)
  show wpAnyH _ _ _ _ _ 10 _ _ _
  refine wpAnyH_take (i := 0) (v := ?_) rfl (by kernel_rfl) (by kernel_rfl) (by kernel_rfl) (fun _ _ _ h => h) (Or.inl ⟨by rfl, ?_⟩) (by assumption) ?_
  rotate_left
  · (intro W hSW; go_simp; try (with_reducible rfl))
  (try simp only [zB])
  (try simp only [zA])
  refine wpAnyH_take (i := 1) (v := ?_) rfl (by kernel_rfl) (by kernel_rfl) (by kernel_rfl) (fun _ _ _ h => h) (Or.inl ⟨by rfl, ?_⟩) (by assumption) ?_
  rotate_left
  · (intro W hSW; go_simp; try (with_reducible rfl))
  (try simp only [zB])
  (try simp only [zA])
  refine wpAnyH_take (i := 2) (v := ?_) rfl (by kernel_rfl) (by kernel_rfl) (by kernel_rfl) (fun _ _ _ h => h) (Or.inl ⟨by rfl, ?_⟩) (by assumption) ?_
  rotate_left
  · (intro W hSW; go_simp; try (with_reducible rfl))
  (try simp only [zB])
  (try simp only [zA])
  refine wpAnyH_take (i := 3) (v := ?_) rfl (by kernel_rfl) (by kernel_rfl) (by kernel_rfl) (fun _ _ _ h => h) (Or.inl ⟨by rfl, ?_⟩) (by assumption) ?_
  rotate_left
  · (intro W hSW; have z0 := keeps_below hSW _ _ k2; go_simp; try (with_reducible rfl))
  (try simp only [zB])
  (try simp only [zA])
  refine wpAnyH_take (i := 4) (v := ?_) rfl (by kernel_rfl) (by kernel_rfl) (by kernel_rfl) (fun _ _ _ h => h) (Or.inl ⟨by rfl, ?_⟩) (by assumption) ?_
  rotate_left
  · (intro W hSW; go_simp; try (with_reducible rfl))
  (try simp only [zB])
  (try simp only [zA])
  refine wpAnyH_take (i := 5) (v := ?_) rfl (by kernel_rfl) (by kernel_rfl) (by kernel_rfl) (fun _ _ _ h => h) (Or.inl ⟨by rfl, ?_⟩) (by assumption) ?_
  rotate_left
  · (intro W hSW; go_simp; try (with_reducible rfl))
  (try simp only [zB])
  (try simp only [zA])
  refine wpAnyH_take (i := 6) (v := .agg [.int .i64 fk, .int .i64 fn].toArray) rfl (by kernel_rfl) (by kernel_rfl) (by kernel_rfl) (fun _ _ _ h => h) (yieldsIf_load_mid (by rfl) 65 _ rfl (FB) (v * 2) rfl [.int .i64 fk, .int .i64 fn] _ (fun W hSW j u hu => keeps_below hSW _ _ (hf j u hu)) Tryz.underlying65 rfl infoFact) (by assumption) ?_
  (try simp only [zB])
  (try simp only [zA])
  refine wpAnyH_take (i := 7) (v := .agg [.int .i64 ak, .int .i64 an].toArray) rfl (by kernel_rfl) (by kernel_rfl) (by kernel_rfl) (fun _ _ _ h => h) (yieldsIf_load_mid (by rfl) 65 _ rfl (w.heap.size) 0 rfl [.int .i64 ak, .int .i64 an] _ (fun W hSW j u hu => by rw [cell_of_row _ _ _ _ _ _ ((hSW.block _ (lt_of_block r5)).trans r5)]; simpa using hu) Tryz.underlying65 rfl infoFact) (by assumption) ?_
  (try simp only [zB])
  (try simp only [zA])
  refine wpAnyH_take (i := 8) (v := ?_) rfl (by kernel_rfl) (by kernel_rfl) (by kernel_rfl) (fun _ _ _ h => h) (Or.inl ⟨by rfl, ?_⟩) (by assumption) ?_
  rotate_left
  · (intro W hSW; go_simp; try (with_reducible rfl))
  (try simp only [zB])
  (try simp only [zA])
  refine wpAnyH_take (i := 9) (v := ?_) rfl (by kernel_rfl) (by kernel_rfl) (by kernel_rfl) (fun _ _ _ h => h) (Or.inl ⟨by rfl, ?_⟩) (by assumption) ?_
  rotate_left
  · (intro W hSW; go_simp; try (with_reducible rfl))
  (try simp only [zB])
  (try simp only [zA])
  refine wpAnyH_done (by kernel_rfl) ?_ _
  obtain ⟨V1, hV1⟩ : ∃ V1, V1 = V.drew := ⟨_, rfl⟩
  have HB1 : Hid (Below V.heap.size V V1) := by show Below _ _ _; rw [hV1]; exact hHeld
  rw [← hV1]
  replace r5 := (HB1.out.block _ (lt_of_block r5)).trans r5
  replace k2 := keeps_below HB1.out _ _ k2
  have HK1 : Hid (KnAt V1 K gp n gB VN FB MB F G) := HK.out.below HB1.out
  have HTH : Hid (∀ W, Below V1.heap.size V1 W → W.there FB (v * 2) 2) := fun W hW => (HK1.out.below hW).there HV.out.1
  clear hV1 hf hq hHeld
  go_upto_region 2 with fail
  refine wp_region_last (S := fun W => Below V1.heap.size V1 W) _ 7 (by kernel_rfl) (by kernel_rfl) rfl ((Below.refl _ _).drew) (fun hHeld => ?_)
  simp only [List.pop_toArray, List.dropLast]
  refine wpAnyH_take (i := 0) (v := ?_) rfl (by kernel_rfl) (by kernel_rfl) (by kernel_rfl) (fun _ _ _ h => h) (Or.inl ⟨by rfl, ?_⟩) (by assumption) ?_
  rotate_left
  · (intro W hSW; go_simp; try (with_reducible rfl))
  (try simp only [zB])
  (try simp only [zA])
  refine wpAnyH_take (i := 1) (v := ?_) rfl (by kernel_rfl) (by kernel_rfl) (by kernel_rfl) (fun _ _ _ h => h) (Or.inl ⟨by rfl, ?_⟩) (by assumption) ?_
  rotate_left
  · (intro W hSW; go_simp; try (with_reducible rfl))
  (try simp only [zB])
  (try simp only [zA])
  refine wpAnyH_take (i := 2) (v := ?_) rfl (by kernel_rfl) (by kernel_rfl) (by kernel_rfl) (fun _ _ _ h => h) (Or.inl ⟨by rfl, ?_⟩) (by assumption) ?_
  rotate_left
  · (intro W hSW; go_simp; try (with_reducible rfl))
  (try simp only [zB])
  (try simp only [zA])
  refine wpAnyH_take (i := 3) (v := ?_) rfl (by kernel_rfl) (by kernel_rfl) (by kernel_rfl) (fun _ _ _ h => h) (Or.inl ⟨by rfl, ?_⟩) (by assumption) ?_
  rotate_left
  · (intro W hSW; have z0 := keeps_below hSW _ _ k2; go_simp; try (with_reducible rfl))
  (try simp only [zB])
  (try simp only [zA])
  refine wpAnyH_take (i := 4) (v := ?_) rfl (by kernel_rfl) (by kernel_rfl) (by kernel_rfl) (fun _ _ _ h => h) (Or.inl ⟨by rfl, ?_⟩) (by assumption) ?_
  rotate_left
  · (intro W hSW; go_simp; try (with_reducible rfl))
  (try simp only [zB])
  (try simp only [zA])
  refine wpAnyH_take (i := 5) (v := .agg [.int .i64 ak, .int .i64 an].toArray) rfl (by kernel_rfl) (by kernel_rfl) (by kernel_rfl) (fun _ _ _ h => h) (yieldsIf_load_mid (by rfl) 65 _ rfl (w.heap.size) 0 rfl [.int .i64 ak, .int .i64 an] _ (fun W hSW j u hu => by rw [cell_of_row _ _ _ _ _ _ ((hSW.block _ (lt_of_block r5)).trans r5)]; simpa using hu) Tryz.underlying65 rfl infoFact) (by assumption) ?_
  (try simp only [zB])
  (try simp only [zA])
  refine wpAnyH_take (i := 6) (v := ?_) rfl (by kernel_rfl) (by kernel_rfl) (by kernel_rfl) (fun _ _ _ h => h) (Or.inl ⟨by rfl, ?_⟩) (by assumption) ?_
  rotate_left
  · (intro W hSW; go_simp; try (with_reducible rfl))
  (try simp only [zB])
  (try simp only [zA])
  refine wpAnyH_done (by kernel_rfl) ?_ _
  refine Or.inl ?_
  refine wp_store_mid 65 _ _ rfl FB (v * 2) #[.int .i64 ak, .int .i64 an] rfl rfl (HTH.out _ hHeld) infoFact (by simp [Value.oneCell']) ?_
  (try simp only [Act.put])
  have HKW := ((HK1.out.below hHeld).set HV.out.1 HV.out.2 a)
  rw [← HAK.out.1, ← HAK.out.2] at HKW
  have HW : Hid (Below w.heap.size w V1) := HBH.out.trans (HB1.out.mono HBH.out.size)
  have HW2 := HW.out.trans (hHeld.mono HW.out.size)
  have HFIN := fun e (h : e = Ending.returned (.bool (decide (F v ≠ a)))) => HP.out e _ ⟨h, HKW.1, gb_trans (gb_below (some FB) HW2) HKW.2⟩
  have HFIN : Hid (∀ e, e = Ending.returned (.bool (decide (F v ≠ a))) → _) := HFIN
  clear HKW HW2 hHeld
  go_wp2
  go_ret
  exact HFIN.out _ (by rw [← HBB.out]; rfl)
end Go.Proofs.YtldbmdgpdolaaaaGreatDoor
namespace Go.Proofs.YtldbmdgpdolaaaaGreatDoor
open Go Go.RowKit

theorem pigeon : ∀ (M : Nat) (l : List Nat), l.Nodup → (∀ x ∈ l, x < M) → l.length ≤ M
  | 0, [], _, _ => Nat.le_refl _
  | 0, x :: l, _, h => absurd (h x (by simp)) (by omega)
  | M + 1, l, hn, h => by
    have h1 := pigeon M (l.erase M) (hn.erase M) (fun x hx => by
      have h2 := h x (List.mem_of_mem_erase hx)
      have h3 : x ≠ M := fun e => by rw [e] at hx; exact absurd rfl ((hn.mem_erase_iff.1 hx).1)
      omega)
    have h4 := List.length_erase_le (a := M) (l := l)
    have h5 := List.le_length_erase (a := M) (l := l)
    omega
structure GOk (G : Ways) : Prop where
  nodup : G.Nodup
  fit : ∀ x ∈ G, FitW x.1 ∧ FitW x.2
theorem GOk.len {G : Ways} (h : GOk G) : G.length ≤ 4100000 := by
  have h1 : (G.map fun x => ((x.1 + 1).toNat * 2002 + (x.2 + 1).toNat)).Nodup := by
    unfold List.Nodup
    rw [List.pairwise_map]
    refine List.Pairwise.imp_of_mem ?_ h.nodup
    intro x y hx hy hne e
    obtain ⟨⟨a1, a2⟩, ⟨a3, a4⟩⟩ := h.fit x hx
    obtain ⟨⟨b1, b2⟩, ⟨b3, b4⟩⟩ := h.fit y hy
    apply hne
    have e1 : x.1 = y.1 := by omega
    have e2 : x.2 = y.2 := by omega
    exact Prod.ext e1 e2
  have h2 := pigeon 4100000 _ h1 (fun z hz => by
    obtain ⟨x, hx, rfl⟩ := List.mem_map.1 hz
    obtain ⟨⟨a1, a2⟩, ⟨a3, a4⟩⟩ := h.fit x hx
    omega)
  rw [List.length_map] at h2
  exact h2
theorem GOk.add {G : Ways} (h : GOk G) {a b : Int} (ha : FitW a) (hb : FitW b) : GOk (addW G (a, b)) := by
  unfold addW
  split
  · exact h
  · rename_i hn
    refine ⟨List.nodup_append.2 ⟨h.nodup, by simp, fun x hx y hy e => ?_⟩, fun x hx => ?_⟩
    · rw [List.mem_singleton] at hy; rw [e, hy] at hx; exact hn hx
    · rcases List.mem_append.1 hx with hx | hx
      · exact h.fit x hx
      · rw [List.mem_singleton.1 hx]; exact ⟨ha, hb⟩
def noPhi : PhiD := ⟨0, 0, []⟩
structure FcMem (c : FC) (gp gB : Nat) (FF TT : Nat → Int) (VV : Nat → Value) (W0 : World) : Prop where
  part : ∀ b, b < c.n → ∃ (PC : List Value) (aP : Option Addr) (qP cP : Nat) (aI : Option Addr) (qI cI : Nat) (VA : Nat → Value), PC.length = 15 ∧ PC.toArray.all (·.oneCell') = true ∧ PC[1]? = some (.slice aP (c.PH b).length cP) ∧ PC[2]? = some (.slice aI (c.IN b).length cI) ∧ (0 < (c.PH b).length → aP = some ⟨qP, 0, none⟩) ∧ aI = some ⟨qI, 0, none⟩ ∧ (c.PH b).length ≤ cP ∧ (c.IN b).length ≤ cI ∧
    ∀ W, Below W0.heap.size W0 W → W.rangeAt gp (b * 15) PC ∧ W.cell? ⟨gp, b * 15 + 2, none⟩ = some (.slice aI (c.IN b).length cI) ∧ (∀ j, j < (c.PH b).length → W.rangeAt qP (j * 3) [.int .i64 (((c.PH b).getD j noPhi).reg : Nat), .int .i64 ((c.PH b).getD j noPhi).id, VA j] ∧ IntsVal W (VA j) ((c.PH b).getD j noPhi).args) ∧ ∀ j, j < (c.IN b).length → W.rangeAt qI (j * 6) (inC ((c.IN b).getD j noIns))
  blk : ∀ W, Below W0.heap.size W0 W → BlkRow W gB c.n FF TT VV ∧ KnowG W ∧ ∀ b, b < c.n → IntsVal W (VV (2 * b)) (c.NX b) ∧ IntsVal W (VV (2 * b + 1)) (c.PV b)
  i1 : ∀ b, b < c.n → (c.last b).op = 16 → FF (c.I1 b) = TT b ∧ ∀ j, j < c.I1 b → FF j ≠ TT b
  i2 : ∀ b, b < c.n → (c.last b).op = 16 → FF (c.I2 b) = (c.last b).imm ∧ ∀ j, j < c.I2 b → FF j ≠ (c.last b).imm
theorem gcell {V W : World} {row : Nat} (hg : V.grownBy W (some row)) {a : Addr} {v : Value} (hc : V.cell? a = some v) (hne : a.block ≠ row) : W.cell? a = some v :=
  hg.cell hc (fun e => hne (by simpa using e))
theorem gblock {V W : World} {row k : Nat} (hg : V.grownBy W (some row)) {o : Obj} (hc : V.heap[k]? = some o) (hne : k ≠ row) : W.heap[k]? = some o :=
  (hg.block k (lt_of_block hc) (by simpa using hne)).trans hc
theorem infoPartR : (Tryz.prog.info? 63).map (·.size) = some 15 := by kernel_rfl
def RoundPost (W0 : World) (c : FC) (K gp gB FB MB : Nat) (F : Facts) (G : Ways) (e : Ending) (w' : World) : Prop :=
  ∃ (r : Bool) (F' : Facts) (G' : Ways), e = .returned (.bool r) ∧ KnAt w' K gp c.n gB c.VN FB MB F' G' ∧ Below W0.heap.size W0 w' ∧ GOk G' ∧ c.know.Inv F' G' ∧ (r = true → sumF F c.VN + G.length < sumF F' c.VN + G'.length) ∧ (r = false → F' = F ∧ G' = G ∧ c.know.Closed F G)
theorem wpList_len_wantedF {H : Type} {P : Program} (w : World) {ops : Array Oper} {rest : List Oper} {o : Oper} {a : Act} {Q : Exit → Act → World → Prop}
    (hw : Region.wanted o (yielded ops a.tmps) = true) (x : Operand) (t : TypeId) (hop : o.op = Op.call { callee := Callee.builtin Builtin.len, args := #[x], argTypes := #[t] }) (k e : TypeId) (ht : P.underlying t = some (.map k e)) (R : Value → Option (DataW H × List MemPlace)) (b n : Nat) (D : DataW H)
    (hm : a.eval x = .map (some b)) (hown : w.ownsMap P k R b n D) (h : wpList P ops Q rest (a.put o.dst (.int .i64 (Maps.size D))) w) : wpList P ops Q (o :: rest) a w := by
  simp only [wpList, hw, if_true]
  have hl := hown.len ht o.type
  refine Or.inl ?_
  unfold Oper.wp
  simp [execOp, hop, resolve, invoke, builtin, hm, hl, Result.andThen]
  exact h
end Go.Proofs.YtldbmdgpdolaaaaGreatDoor
