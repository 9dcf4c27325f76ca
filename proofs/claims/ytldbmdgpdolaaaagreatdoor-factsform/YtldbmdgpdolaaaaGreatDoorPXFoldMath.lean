import Derived.Test.YtldbmdgpdolaaaaGreatDoorPXFoldComes
import Derived.Test.YtldbmdgpdolaaaaGreatDoorPXFoldGoes
import Derived.Test.YtldbmdgpdolaaaaGreatDoorPXFoldMade
namespace Go.Proofs.YtldbmdgpdolaaaaGreatDoor
open Go Go.RowKit

theorem comesT_mono {F F' : Facts} {G G' : Ways} (hF : leF F F') (hG : ∀ x ∈ G, x ∈ G') (b : Int) (pl args : List Int) : ∀ i, (comesT F G b pl args i).le (comesT F' G' b pl args i)
  | 0 => FV.never_le _
  | i + 1 => by
    have ih := comesT_mono hF hG b pl args i
    rw [comesT, comesT]
    by_cases h : (pl.getD i 0, b) ∈ G
    · rw [if_pos h, if_pos (hG _ h)]
      exact eitherF_least (FV.le_trans ih (eitherF_left _ _)) (FV.le_trans (hF _) (eitherF_right _ _))
    · rw [if_neg h]
      split
      · exact FV.le_trans ih (eitherF_left _ _)
      · exact ih
theorem rdF_mono {F F' : Facts} (hF : leF F F') (v : Int) : (rdF F v).le (rdF F' v) := by
  unfold rdF; split
  · exact FV.le_refl _
  · exact hF _
theorem le_known {a : FV} {z : Int} (h : a.le (.known z)) (hn : a ≠ .never) : a = .known z := by
  cases a <;> simp_all [FV.le]
theorem never_of_le {a b : FV} (h : a.le b) (hb : b = .never) : a = .never := by rw [hb] at h; exact FV.le_never h
theorem madeF_mono (x : InsD) {a a' b b' : FV} (ha : a.le a') (hb : b.le b') : (madeF x a b).le (madeF x a' b') := by
  unfold madeF
  by_cases h1 : a = .never ∨ b = .never ∨ (x.op = 5 ∧ b = .known 0)
  · rw [if_pos h1]; exact FV.never_le _
  · rw [if_neg h1]
    have na : a ≠ .never := fun h => h1 (Or.inl h)
    have nb : b ≠ .never := fun h => h1 (Or.inr (Or.inl h))
    have h2 : ¬ (a' = .never ∨ b' = .never ∨ (x.op = 5 ∧ b' = .known 0)) := by
      rintro (h | h | ⟨h3, h4⟩)
      · exact na (never_of_le ha h)
      · exact nb (never_of_le hb h)
      · rw [h4] at hb; exact h1 (Or.inr (Or.inr ⟨h3, le_known hb nb⟩))
    rw [if_neg h2]
    by_cases h3 : 12 < x.op ∨ a' = .many ∨ b' = .many
    · rw [if_pos h3]; exact FV.le_many _
    · have ea : a = a' := by
        cases a' with
        | never => exact absurd (FV.le_never ha) na
        | known z => exact le_known ha na
        | many => exact absurd (Or.inr (Or.inl rfl)) h3
      have eb : b = b' := by
        cases b' with
        | never => exact absurd (FV.le_never hb) nb
        | known z => exact le_known hb nb
        | many => exact absurd (Or.inr (Or.inr rfl)) h3
      rw [ea, eb]; exact FV.le_refl _
theorem goesF_mono {F F' : Facts} (hF : leF F F') (op a : Int) {NX : List Int} {i1 i2 : Nat} (h1 : op = 16 → (i1 : Int) ∈ NX ∧ (i2 : Int) ∈ NX) : ∀ z ∈ goesF F op a NX i1 i2, z ∈ goesF F' op a NX i1 i2 := by
  intro z hz
  unfold goesF at hz ⊢
  by_cases ho : op ≠ 16
  · rw [if_pos ho] at hz ⊢; exact hz
  · rw [if_neg ho] at hz ⊢
    obtain ⟨m1, m2⟩ := h1 (Classical.not_not.1 ho)
    have hle := hF a.toNat
    cases h : F a.toNat with
    | never => rw [h] at hz; cases hz
    | many =>
      rw [h] at hz hle
      cases h' : F' a.toNat with
      | never => rw [h'] at hle; exact absurd hle id
      | known y => rw [h'] at hle; exact absurd hle id
      | many => exact hz
    | known y =>
      rw [h] at hz hle
      have hz : z ∈ (if y = 0 then [(i1 : Int)] else [(i2 : Int)]) := hz
      cases h' : F' a.toNat with
      | never => rw [h'] at hle; exact absurd hle id
      | known y' =>
        rw [h'] at hle
        have e : y = y' := hle
        rw [← e]; exact hz
      | many =>
        show z ∈ NX
        split at hz
        · rw [List.mem_singleton.1 hz]; exact m1
        · rw [List.mem_singleton.1 hz]; exact m2
structure FC where
  n : Nat
  VN : Nat
  par : Nat
  PV : Nat → List Int
  NX : Nat → List Int
  PH : Nat → List PhiD
  IN : Nat → List InsD
  I1 : Nat → Nat
  I2 : Nat → Nat
def noIns : InsD := ⟨0, 0, 0, 0, 0, 0⟩
def FC.last (c : FC) (b : Nat) : InsD := (c.IN b).getD ((c.IN b).length - 1) noIns
def phiS (c : FC) (b : Nat) (p : PhiD) : Site := ⟨b, p.id.toNat, fun F G => comesT F G b (c.PV b) p.args (c.PV b).length⟩
def insS (b : Nat) (x : InsD) : Site := ⟨b, x.id.toNat, fun F _ => madeF x (rdF F x.a) (rdF F x.b)⟩
def FC.know (c : FC) : Know where
  n := c.n
  par := c.par
  prev := c.PV
  goes := fun b F => goesF F (c.last b).op (c.last b).a (c.NX b) (c.I1 b) (c.I2 b)
  site := fun s => ∃ b, b < c.n ∧ ((∃ p ∈ c.PH b, s = phiS c b p) ∨ ∃ x ∈ c.IN b, x.id ≠ -1 ∧ s = insS b x)
structure FC.Ok (c : FC) : Prop where
  n40 : c.n ≤ 40
  vn : c.VN ≤ 3000
  pv : ∀ b, b < c.n → (c.PV b).length ≤ 1000 ∧ ∀ z ∈ c.PV b, FitW z
  nx : ∀ b, b < c.n → (c.NX b).length ≤ 1000 ∧ ∀ z ∈ c.NX b, FitW z
  ph : ∀ b, b < c.n → (c.PH b).length ≤ 12 ∧ ∀ p ∈ c.PH b, p.args.length = (c.PV b).length ∧ (c.par : Int) ≤ p.id ∧ p.id < (c.VN : Int) ∧ ∀ a ∈ p.args, 0 ≤ a ∧ a < (c.VN : Int)
  ins : ∀ b, b < c.n → 0 < (c.IN b).length ∧ (c.IN b).length ≤ 40 ∧ ∀ x ∈ c.IN b, (x.id = -1 ∨ (c.par : Int) ≤ x.id) ∧ x.id < (c.VN : Int) ∧ -1 ≤ x.a ∧ x.a < (c.VN : Int) ∧ -1 ≤ x.b ∧ x.b < (c.VN : Int)
  last : ∀ b, b < c.n → (c.last b).op = 16 → 0 ≤ (c.last b).a ∧ c.I1 b < c.n ∧ c.I2 b < c.n ∧ ((c.I1 b : Nat) : Int) ∈ c.NX b ∧ ((c.I2 b : Nat) : Int) ∈ c.NX b
  uniq : ∀ s s', c.know.site s → c.know.site s' → s.id = s'.id → s = s'
theorem FC.Ok.know {c : FC} (h : c.Ok) : c.know.Ok := by
  refine ⟨fun s hs => ?_, fun s hs F F' G G' hF hG => ?_, h.uniq, fun b hb F F' hF => ?_⟩
  · obtain ⟨b, hb, ⟨p, hp, rfl⟩ | ⟨x, hx, hne, rfl⟩⟩ := hs
    · have := ((h.ph b hb).2 p hp).2.1
      exact ⟨hb, by show c.par ≤ p.id.toNat; omega⟩
    · have := ((h.ins b hb).2.2 x hx).1
      exact ⟨hb, by show c.par ≤ x.id.toNat; omega⟩
  · obtain ⟨b, hb, ⟨p, hp, rfl⟩ | ⟨x, hx, hne, rfl⟩⟩ := hs
    · exact comesT_mono hF hG _ _ _ _
    · exact madeF_mono x (rdF_mono hF _) (rdF_mono hF _)
  · exact goesF_mono hF _ _ (fun ho => ⟨(h.last b hb ho).2.2.2.1, (h.last b hb ho).2.2.2.2⟩)
theorem FC.met_iff {c : FC} {G : Ways} {b : Nat} : metB G (c.PV b) b = true ↔ c.know.met G b := by
  rw [metB_iff]; exact ⟨fun ⟨x, h1, h2⟩ => ⟨x, h1, h2⟩, fun ⟨x, h1, h2⟩ => ⟨x, h1, h2⟩⟩
end Go.Proofs.YtldbmdgpdolaaaaGreatDoor
