import Derived.Test.YtldbmdgpdolaaaaDoorPGroupA
import Derived.DeepKeys4
import Derived.Test.YtldbmdgpdolaaaaDoorPGroupP
import Derived.Test.YtldbmdgpdolaaaaDoorPGroupC
import Derived.Test.YtldbmdgpdolaaaaDoorPGroupB
import Derived.Test.YtldbmdgpdolaaaaDoorPXSsaBuild
import Derived.Test.YtldbmdgpdolaaaaDoorPXSsaMath
import Derived.Test.YtldbmdgpdolaaaaDoorPXSsaRow
namespace Go.Proofs.YtldbmdgpdolaaaaDoor
open Go Go.RowKit

inductive FV
  | never
  | known (n : Int)
  | many
deriving DecidableEq
def FV.num : FV → Int
  | .known n => n
  | _ => 0
def FV.le : FV → FV → Prop
  | .never, _ => True
  | .known a, .known b => a = b
  | _, .many => True
  | _, _ => False
theorem FV.le_refl (a : FV) : a.le a := by cases a <;> simp [FV.le]
theorem FV.le_trans {a b c : FV} (h : a.le b) (k : b.le c) : a.le c := by
  cases a <;> cases b <;> cases c <;> simp [FV.le] at h k ⊢
  exact h.trans k
theorem FV.le_antisymm {a b : FV} (h : a.le b) (k : b.le a) : a = b := by
  cases a <;> cases b <;> simp [FV.le] at h k ⊢
  exact h
theorem FV.never_le (a : FV) : FV.never.le a := by cases a <;> trivial
theorem FV.le_many (a : FV) : a.le .many := by cases a <;> trivial
theorem FV.le_never {a : FV} (h : a.le .never) : a = .never := by cases a <;> simp [FV.le] at h ⊢
def eitherF (a b : FV) : FV := if a = .never ∨ a = b then b else if b = .never then a else .many
theorem eitherF_left (a b : FV) : a.le (eitherF a b) := by
  unfold eitherF
  split
  · rename_i h
    rcases h with rfl | rfl
    · exact FV.never_le _
    · exact FV.le_refl _
  · split
    · exact FV.le_refl _
    · exact FV.le_many _
theorem eitherF_right (a b : FV) : b.le (eitherF a b) := by
  unfold eitherF
  split
  · exact FV.le_refl _
  · split
    · rename_i h; rw [h]; exact FV.never_le _
    · exact FV.le_many _
theorem eitherF_least {a b c : FV} (h : a.le c) (k : b.le c) : (eitherF a b).le c := by
  unfold eitherF
  split
  · exact k
  · split
    · exact h
    · rename_i h1 h2
      cases a <;> cases b <;> cases c <;> simp_all [FV.le]
abbrev Facts := Nat → FV
abbrev Ways := List (Int × Int)
def leF (F F' : Facts) : Prop := ∀ v, (F v).le (F' v)
theorem leF.refl (F : Facts) : leF F F := fun _ => FV.le_refl _
theorem leF.trans {F F' F'' : Facts} (h : leF F F') (k : leF F' F'') : leF F F'' := fun v => FV.le_trans (h v) (k v)
structure Site where
  blk : Nat
  id : Nat
  tr : Facts → Ways → FV
structure Know where
  n : Nat
  par : Nat
  prev : Nat → List Int
  goes : Nat → Facts → List Int
  site : Site → Prop
def Know.met (C : Know) (G : Ways) (b : Nat) : Prop := ∃ z ∈ C.prev b, (z, (b : Int)) ∈ G
theorem Know.met_mono {C : Know} {G G' : Ways} (h : ∀ x ∈ G, x ∈ G') {b : Nat} (hm : C.met G b) : C.met G' b := by
  obtain ⟨z, hz, hg⟩ := hm; exact ⟨z, hz, h _ hg⟩
structure Know.Ok (C : Know) : Prop where
  blk : ∀ s, C.site s → s.blk < C.n ∧ C.par ≤ s.id
  mono : ∀ s, C.site s → ∀ F F' G G', leF F F' → (∀ x ∈ G, x ∈ G') → (s.tr F G).le (s.tr F' G')
  uniq : ∀ s s', C.site s → C.site s' → s.id = s'.id → s = s'
  goes : ∀ b, b < C.n → ∀ F F', leF F F' → ∀ z ∈ C.goes b F, z ∈ C.goes b F'
structure Know.Closed (C : Know) (F : Facts) (G : Ways) : Prop where
  par : ∀ v, v < C.par → F v = .many
  start : ((-1, 0) : Int × Int) ∈ G
  site : ∀ s, C.site s → C.met G s.blk → (s.tr F G).le (F s.id)
  go : ∀ b, b < C.n → C.met G b → ∀ z ∈ C.goes b F, ((b : Int), z) ∈ G
structure Know.Inv (C : Know) (F : Facts) (G : Ways) : Prop where
  par : ∀ v, v < C.par → F v = .many
  start : ((-1, 0) : Int × Int) ∈ G
  asc : ∀ s, C.site s → F s.id ≠ .never → C.met G s.blk ∧ (F s.id).le (s.tr F G)
  least : ∀ F' G', C.Closed F' G' → leF F F' ∧ ∀ x ∈ G, x ∈ G'
theorem Know.Inv.new {C : Know} (hC : C.Ok) : C.Inv (fun v => if v < C.par then .many else .never) [(-1, 0)] := by
  refine ⟨fun v hv => if_pos hv, by simp, fun s hs h => ?_, fun F' G' h => ⟨fun v => ?_, fun x hx => ?_⟩⟩
  · rw [if_neg (by have := (hC.blk s hs).2; omega)] at h; exact absurd rfl h
  · show FV.le (if v < C.par then .many else .never) _
    by_cases hv : v < C.par
    · rw [if_pos hv, h.par v hv]; exact FV.le_refl _
    · rw [if_neg hv]; exact FV.never_le _
  · have : x = (-1, 0) := by simpa using hx
    rw [this]; exact h.start
theorem Know.Inv.rises {C : Know} {F : Facts} {G : Ways} (h : C.Inv F G) {s : Site} (hs : C.site s) : (F s.id).le (s.tr F G) := by
  by_cases hn : F s.id = .never
  · rw [hn]; exact FV.never_le _
  · exact (h.asc s hs hn).2
theorem Know.Inv.go {C : Know} (hC : C.Ok) {F : Facts} {G : Ways} (h : C.Inv F G) {b : Nat} (hb : b < C.n) (hm : C.met G b) {z : Int} (hz : z ∈ C.goes b F) {G' : Ways} (hG : ∀ x, x ∈ G' ↔ x = ((b : Int), z) ∨ x ∈ G) : C.Inv F G' := by
  have hsub : ∀ x ∈ G, x ∈ G' := fun x hx => (hG x).2 (Or.inr hx)
  refine ⟨h.par, hsub _ h.start, fun s hs hn => ?_, fun F' G2 hc => ?_⟩
  · obtain ⟨h1, h2⟩ := h.asc s hs hn
    exact ⟨Know.met_mono hsub h1, FV.le_trans h2 (hC.mono s hs _ _ _ _ (leF.refl _) hsub)⟩
  · obtain ⟨h1, h2⟩ := h.least F' G2 hc
    refine ⟨h1, fun x hx => ?_⟩
    rcases (hG x).1 hx with rfl | hx
    · exact hc.go b hb (Know.met_mono h2 hm) z (hC.goes b hb _ _ h1 z hz)
    · exact h2 x hx
def rkF : FV → Nat
  | .never => 0
  | .known _ => 1
  | .many => 2
theorem rkF_le {a b : FV} (h : a.le b) : rkF a ≤ rkF b := by cases a <;> cases b <;> simp [FV.le, rkF] at h ⊢
theorem rkF_lt {a b : FV} (h : a.le b) (hn : a ≠ b) : rkF a < rkF b := by cases a <;> cases b <;> simp_all [FV.le, rkF]
def sumF (F : Facts) : Nat → Nat
  | 0 => 0
  | v + 1 => sumF F v + rkF (F v)
theorem sumF_le {F F' : Facts} (h : leF F F') : ∀ v, sumF F v ≤ sumF F' v
  | 0 => Nat.le_refl _
  | v + 1 => Nat.add_le_add (sumF_le h v) (rkF_le (h v))
theorem sumF_lt {F F' : Facts} (h : leF F F') {u : Nat} (hn : F u ≠ F' u) : ∀ v, u < v → sumF F v < sumF F' v
  | 0, hu => by omega
  | v + 1, hu => by
    rw [sumF, sumF]
    by_cases e : u = v
    · subst e; have := sumF_le h u; have := rkF_lt (h u) hn; omega
    · have := sumF_lt h hn v (by omega); have := rkF_le (h v); omega
structure Know.Mid (C : Know) (VN : Nat) (F0 : Facts) (G0 : Ways) (F : Facts) (G : Ways) (rose : Bool) (doneS : Site → Prop) (doneB : Nat → Prop) : Prop where
  inv : C.Inv F G
  le : leF F0 F
  sub : ∀ x ∈ G0, x ∈ G
  len : G0.length ≤ G.length
  same : rose = false → F = F0
  more : rose = true → ∃ v, v < VN ∧ F0 v ≠ F v
  grew : G.length = G0.length → G = G0
  site : rose = false → G = G0 → ∀ s, C.site s → doneS s → C.met G0 s.blk → (s.tr F0 G0).le (F0 s.id)
  go : rose = false → G = G0 → ∀ b, doneB b → C.met G0 b → ∀ z ∈ C.goes b F0, ((b : Int), z) ∈ G0
theorem Know.Mid.new {C : Know} {VN : Nat} {F : Facts} {G : Ways} (h : C.Inv F G) : C.Mid VN F G F G false (fun _ => False) (fun _ => False) :=
  ⟨h, leF.refl _, fun _ h => h, Nat.le_refl _, fun _ => rfl, (fun e => by cases e), fun _ => rfl, (fun _ _ _ _ h => h.elim), (fun _ _ _ h => h.elim)⟩
theorem Know.Mid.closed {C : Know} {VN : Nat} {F0 F : Facts} {G0 G : Ways} {rose : Bool} {dS : Site → Prop} {dB : Nat → Prop} (h : C.Mid VN F0 G0 F G rose dS dB) (hS : ∀ s, C.site s → C.met G0 s.blk → dS s) (hB : ∀ b, b < C.n → C.met G0 b → dB b) (hr : rose = false) (hg : ¬ G0.length < G.length) : F = F0 ∧ G = G0 ∧ C.Closed F0 G0 := by
  have eG := h.grew (by have := h.len; omega)
  have eF := h.same hr
  refine ⟨eF, eG, ?_⟩
  have hi := h.inv
  rw [eF, eG] at hi
  exact ⟨hi.par, hi.start, fun s hs hm => h.site hr eG s hs (hS s hs hm) hm, fun b hb hm => h.go hr eG b (hB b hb hm) hm⟩
theorem Know.Mid.less {C : Know} {VN : Nat} {F0 F : Facts} {G0 G : Ways} {rose : Bool} {dS : Site → Prop} {dB : Nat → Prop} (h : C.Mid VN F0 G0 F G rose dS dB) (hr : rose = true ∨ G0.length < G.length) : sumF F0 VN + G0.length < sumF F VN + G.length := by
  have h1 := sumF_le h.le VN
  have h2 := h.len
  rcases hr with hr | hr
  · obtain ⟨v, hv, hn⟩ := h.more hr
    have := sumF_lt h.le hn VN hv
    omega
  · omega
theorem Know.Inv.unique {C : Know} {F F' : Facts} {G G' : Ways} (h : C.Inv F G) (k : C.Closed F G) (h' : C.Inv F' G') (k' : C.Closed F' G') : F = F' ∧ ∀ x, x ∈ G ↔ x ∈ G' := by
  obtain ⟨a1, a2⟩ := h.least _ _ k'
  obtain ⟨b1, b2⟩ := h'.least _ _ k
  exact ⟨funext fun v => FV.le_antisymm (a1 v) (b1 v), fun x => ⟨a2 x, b2 x⟩⟩
end Go.Proofs.YtldbmdgpdolaaaaDoor
namespace Go.Proofs.YtldbmdgpdolaaaaDoor
open Go Go.RowKit

def wayL (a b : Int) : Lit := .string (keyBytes [.int .i64 a, .int .i64 b])
def FitW (a : Int) : Prop := -1 ≤ a ∧ a ≤ 2000
theorem FitW.wf {z : Int} (h : FitW z) : (Lit.int .i64 z).wf = true := WalkArith.wf_i64 (by unfold FitW at h; omega)
structure WaysMap (G : List (Int × Int)) (D : Dat) : Prop where
  has : ∀ a b : Int, FitW a → FitW b → Maps.has D (wayL a b) = decide ((a, b) ∈ G)
  size : Maps.size D = G.length
theorem WaysMap.nil : WaysMap [] (.map [] : Dat) := ⟨fun a b _ _ => by simp [Maps.has], rfl⟩
end Go.Proofs.YtldbmdgpdolaaaaDoor
namespace Go.Proofs.YtldbmdgpdolaaaaDoor
open Go Go.RowKit

def comesT (F : Facts) (G : Ways) (b : Int) (pl args : List Int) : Nat → FV
  | 0 => .never
  | i + 1 => if (pl.getD i 0, b) ∈ G then eitherF (comesT F G b pl args i) (F (args.getD i 0).toNat) else comesT F G b pl args i
end Go.Proofs.YtldbmdgpdolaaaaDoor
namespace Go.Proofs.YtldbmdgpdolaaaaDoor
open Go Go.RowKit

def madeF (x : InsD) (a b : FV) : FV := if a = .never ∨ b = .never ∨ (x.op = 5 ∧ b = .known 0) then .never else if 12 < x.op ∨ a = .many ∨ b = .many then .many else .known (mk x.op a.num b.num x.imm)
end Go.Proofs.YtldbmdgpdolaaaaDoor
namespace Go.Proofs.YtldbmdgpdolaaaaDoor
open Go Go.RowKit

def rdF (F : Facts) (v : Int) : FV := if v = -1 then .known 0 else F v.toNat
end Go.Proofs.YtldbmdgpdolaaaaDoor
namespace Go.Proofs.YtldbmdgpdolaaaaDoor
open Go Go.RowKit

def goesF (F : Facts) (op a : Int) (NX : List Int) (i1 i2 : Nat) : List Int :=
  if op ≠ 16 then NX else match F a.toNat with
    | .never => []
    | .many => NX
    | .known z => if z = 0 then [(i1 : Int)] else [(i2 : Int)]
theorem infoInsG : (Tryd.prog.info? 90).map (·.size) = some 6 := by kernel_rfl
end Go.Proofs.YtldbmdgpdolaaaaDoor
namespace Go.Proofs.YtldbmdgpdolaaaaDoor
open Go Go.RowKit

theorem comesT_mono {F F' : Facts} {G G' : Ways} (hF : leF F F') (hG : ∀ x ∈ G, x ∈ G') (b : Int) (pl args : List Int) : ∀ i, (comesT F G b pl args i).le (comesT F' G' b pl args i)
  | 0 => FV.never_le _
  | i + 1 => by
    have ih := comesT_mono hF hG b pl args i
    rw [comesT, comesT]
    by_cases h : (pl.getD i 0, b) ∈ G
    · rw [if_pos h, if_pos (hG _ h)]
      exact eitherF_least (FV.le_trans ih (eitherF_left _ _)) (FV.le_trans (hF _) (eitherF_right _ _))
    · rw [if_neg h]
      split
      · exact FV.le_trans ih (eitherF_left _ _)
      · exact ih
theorem rdF_mono {F F' : Facts} (hF : leF F F') (v : Int) : (rdF F v).le (rdF F' v) := by
  unfold rdF; split
  · exact FV.le_refl _
  · exact hF _
theorem le_known {a : FV} {z : Int} (h : a.le (.known z)) (hn : a ≠ .never) : a = .known z := by
  cases a <;> simp_all [FV.le]
theorem never_of_le {a b : FV} (h : a.le b) (hb : b = .never) : a = .never := by rw [hb] at h; exact FV.le_never h
theorem madeF_mono (x : InsD) {a a' b b' : FV} (ha : a.le a') (hb : b.le b') : (madeF x a b).le (madeF x a' b') := by
  unfold madeF
  by_cases h1 : a = .never ∨ b = .never ∨ (x.op = 5 ∧ b = .known 0)
  · rw [if_pos h1]; exact FV.never_le _
  · rw [if_neg h1]
    have na : a ≠ .never := fun h => h1 (Or.inl h)
    have nb : b ≠ .never := fun h => h1 (Or.inr (Or.inl h))
    have h2 : ¬ (a' = .never ∨ b' = .never ∨ (x.op = 5 ∧ b' = .known 0)) := by
      rintro (h | h | ⟨h3, h4⟩)
      · exact na (never_of_le ha h)
      · exact nb (never_of_le hb h)
      · rw [h4] at hb; exact h1 (Or.inr (Or.inr ⟨h3, le_known hb nb⟩))
    rw [if_neg h2]
    by_cases h3 : 12 < x.op ∨ a' = .many ∨ b' = .many
    · rw [if_pos h3]; exact FV.le_many _
    · have ea : a = a' := by
        cases a' with
        | never => exact absurd (FV.le_never ha) na
        | known z => exact le_known ha na
        | many => exact absurd (Or.inr (Or.inl rfl)) h3
      have eb : b = b' := by
        cases b' with
        | never => exact absurd (FV.le_never hb) nb
        | known z => exact le_known hb nb
        | many => exact absurd (Or.inr (Or.inr rfl)) h3
      rw [ea, eb]; exact FV.le_refl _
theorem goesF_mono {F F' : Facts} (hF : leF F F') (op a : Int) {NX : List Int} {i1 i2 : Nat} (h1 : op = 16 → (i1 : Int) ∈ NX ∧ (i2 : Int) ∈ NX) : ∀ z ∈ goesF F op a NX i1 i2, z ∈ goesF F' op a NX i1 i2 := by
  intro z hz
  unfold goesF at hz ⊢
  by_cases ho : op ≠ 16
  · rw [if_pos ho] at hz ⊢; exact hz
  · rw [if_neg ho] at hz ⊢
    obtain ⟨m1, m2⟩ := h1 (Classical.not_not.1 ho)
    have hle := hF a.toNat
    cases h : F a.toNat with
    | never => rw [h] at hz; cases hz
    | many =>
      rw [h] at hz hle
      cases h' : F' a.toNat with
      | never => rw [h'] at hle; exact absurd hle id
      | known y => rw [h'] at hle; exact absurd hle id
      | many => exact hz
    | known y =>
      rw [h] at hz hle
      have hz : z ∈ (if y = 0 then [(i1 : Int)] else [(i2 : Int)]) := hz
      cases h' : F' a.toNat with
      | never => rw [h'] at hle; exact absurd hle id
      | known y' =>
        rw [h'] at hle
        have e : y = y' := hle
        rw [← e]; exact hz
      | many =>
        show z ∈ NX
        split at hz
        · rw [List.mem_singleton.1 hz]; exact m1
        · rw [List.mem_singleton.1 hz]; exact m2
structure FC where
  n : Nat
  VN : Nat
  par : Nat
  PV : Nat → List Int
  NX : Nat → List Int
  PH : Nat → List PhiD
  IN : Nat → List InsD
  I1 : Nat → Nat
  I2 : Nat → Nat
def noIns : InsD := ⟨0, 0, 0, 0, 0, 0⟩
def FC.last (c : FC) (b : Nat) : InsD := (c.IN b).getD ((c.IN b).length - 1) noIns
def phiS (c : FC) (b : Nat) (p : PhiD) : Site := ⟨b, p.id.toNat, fun F G => comesT F G b (c.PV b) p.args (c.PV b).length⟩
def insS (b : Nat) (x : InsD) : Site := ⟨b, x.id.toNat, fun F _ => madeF x (rdF F x.a) (rdF F x.b)⟩
def FC.know (c : FC) : Know where
  n := c.n
  par := c.par
  prev := c.PV
  goes := fun b F => goesF F (c.last b).op (c.last b).a (c.NX b) (c.I1 b) (c.I2 b)
  site := fun s => ∃ b, b < c.n ∧ ((∃ p ∈ c.PH b, s = phiS c b p) ∨ ∃ x ∈ c.IN b, x.id ≠ -1 ∧ s = insS b x)
structure FC.Ok (c : FC) : Prop where
  n40 : c.n ≤ 40
  vn : c.VN ≤ 3000
  pv : ∀ b, b < c.n → (c.PV b).length ≤ 1000 ∧ ∀ z ∈ c.PV b, FitW z
  nx : ∀ b, b < c.n → (c.NX b).length ≤ 1000 ∧ ∀ z ∈ c.NX b, FitW z
  ph : ∀ b, b < c.n → (c.PH b).length ≤ 12 ∧ ∀ p ∈ c.PH b, p.args.length = (c.PV b).length ∧ (c.par : Int) ≤ p.id ∧ p.id < (c.VN : Int) ∧ ∀ a ∈ p.args, 0 ≤ a ∧ a < (c.VN : Int)
  ins : ∀ b, b < c.n → 0 < (c.IN b).length ∧ (c.IN b).length ≤ 40 ∧ ∀ x ∈ c.IN b, (x.id = -1 ∨ (c.par : Int) ≤ x.id) ∧ x.id < (c.VN : Int) ∧ -1 ≤ x.a ∧ x.a < (c.VN : Int) ∧ -1 ≤ x.b ∧ x.b < (c.VN : Int)
  last : ∀ b, b < c.n → (c.last b).op = 16 → 0 ≤ (c.last b).a ∧ c.I1 b < c.n ∧ c.I2 b < c.n ∧ ((c.I1 b : Nat) : Int) ∈ c.NX b ∧ ((c.I2 b : Nat) : Int) ∈ c.NX b
  uniq : ∀ s s', c.know.site s → c.know.site s' → s.id = s'.id → s = s'
theorem FC.Ok.know {c : FC} (h : c.Ok) : c.know.Ok := by
  refine ⟨fun s hs => ?_, fun s hs F F' G G' hF hG => ?_, h.uniq, fun b hb F F' hF => ?_⟩
  · obtain ⟨b, hb, ⟨p, hp, rfl⟩ | ⟨x, hx, hne, rfl⟩⟩ := hs
    · have := ((h.ph b hb).2 p hp).2.1
      exact ⟨hb, by show c.par ≤ p.id.toNat; omega⟩
    · have := ((h.ins b hb).2.2 x hx).1
      exact ⟨hb, by show c.par ≤ x.id.toNat; omega⟩
  · obtain ⟨b, hb, ⟨p, hp, rfl⟩ | ⟨x, hx, hne, rfl⟩⟩ := hs
    · exact comesT_mono hF hG _ _ _ _
    · exact madeF_mono x (rdF_mono hF _) (rdF_mono hF _)
  · exact goesF_mono hF _ _ (fun ho => ⟨(h.last b hb ho).2.2.2.1, (h.last b hb ho).2.2.2.2⟩)
end Go.Proofs.YtldbmdgpdolaaaaDoor
