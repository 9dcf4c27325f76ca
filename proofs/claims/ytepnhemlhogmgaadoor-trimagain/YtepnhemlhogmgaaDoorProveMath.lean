/- When a function is proved: plain mathematics. -/
import Derived.Test.YtepnhemlhogmgaaDoorSureMath
import Derived.Test.YtepnhemlhogmgaaDoorRefRS
namespace Go.Proofs.YtepnhemlhogmgaaDoor
open Go Go.RowKit

/-- Is something read that is not surely set? -/
def badB (P : List Fn) (z : Int) (x : Ins) : Bool := decide (0 ≤ z) && (readsL P x).any fun r => !(hasB z.toNat r.toNat)
/-- Numbers that tell what is surely set. -/
def SureNum (z : Int) : Prop := z = -1 ∨ (0 ≤ z ∧ z < 4096)
theorem SureSpec.num {f : Fn} {L : List Int} (h : SureSpec f L) (q : Nat) (hq : q < f.code.length + 1) : SureNum (L.getD q 0) := by
  rcases h.2 q hq with ⟨_, e⟩ | ⟨_, m, hm, e, _⟩
  · exact Or.inl e
  · exact Or.inr (by omega)
theorem hasB_bit (n r : Nat) : hasB n r = n.testBit r := by
  rw [testBit_div]; unfold hasB; generalize n / 2 ^ r % 2 = z; rw [Bool.eq_iff_iff]; simp; omega
theorem rdMask_bit (P : List Fn) (x : Ins) (r : Nat) : (rdMask P x).testBit r = (readsL P x).any fun s => decide (s.toNat = r) := by
  unfold rdMask readsL
  cases rdA P x <;> cases rdB P x <;> simp [Nat.testBit_two_pow]
theorem andNot_minus (a : Nat) (h : a < 65536) : bits .andNot .i64 (a : Int) (-1) = 0 := by
  have e : (-1 : Int) = (BitVec.allOnes 64).toInt := by decide
  rw [e, ← bvn_toInt a h, bits_andNot_bv]
  have : bvn a &&& ~~~BitVec.allOnes 64 = 0#64 := by simp
  rw [this]; rfl
theorem andNot_nat (a m : Nat) (ha : a < 65536) (hm : m < 65536) : (bits .andNot .i64 (a : Int) (m : Int) != 0) = true ↔ ∃ r, a.testBit r = true ∧ m.testBit r = false := by
  rw [← bvn_toInt a ha, ← bvn_toInt m hm, bits_andNot_bv]
  have hz : ((bvn a &&& ~~~bvn m).toInt != 0) = true ↔ bvn a &&& ~~~bvn m ≠ 0#64 := by
    have h0 : (0 : Int) = (0#64 : BitVec 64).toInt := rfl
    generalize bvn a &&& ~~~bvn m = y
    rw [h0, bne_iff_ne, ne_eq, BitVec.toInt_inj]
  rw [hz]
  refine ⟨fun h => ?_, fun ⟨r, h1, h2⟩ h => ?_⟩
  · have hex : ∃ r, r < 64 ∧ (bvn a &&& ~~~bvn m).getLsbD r = true := by
      refine Classical.byContradiction fun hn => h ?_
      apply BitVec.eq_of_getLsbD_eq
      intro r hr
      cases hb : (bvn a &&& ~~~bvn m).getLsbD r
      · simp
      · exact absurd ⟨r, hr, hb⟩ hn
    obtain ⟨r, hr, hb⟩ := hex
    rw [BitVec.getLsbD_and, BitVec.getLsbD_not, bvn_bit _ _ hr, bvn_bit _ _ hr] at hb
    refine ⟨r, ?_, ?_⟩
    · cases h1 : a.testBit r <;> simp_all
    · cases h1 : m.testBit r <;> simp_all
  · have hr : r < 64 := by
      rcases Nat.lt_or_ge r 64 with hr | hr
      · exact hr
      · rw [Nat.testBit_lt_two_pow (Nat.lt_of_lt_of_le (show a < 2 ^ 64 by omega) (Nat.pow_le_pow_right (by decide) hr))] at h1; cases h1
    have hb : (bvn a &&& ~~~bvn m).getLsbD r = true := by
      rw [BitVec.getLsbD_and, BitVec.getLsbD_not, bvn_bit _ _ hr, bvn_bit _ _ hr, h1, h2]; simp [hr]
    rw [h] at hb
    simp at hb
theorem bad_bits (P : List Fn) (x : Ins) (hx : InsOk P x) (z : Int) (hz : SureNum z) : (bits .andNot .i64 (rdMask P x : Int) z != 0) = badB P z x := by
  have hl := rdMask_lt hx
  rcases hz with rfl | ⟨h0, h1⟩
  · rw [andNot_minus _ hl]; rfl
  · obtain ⟨m, rfl⟩ := Int.eq_ofNat_of_zero_le h0
    rw [Bool.eq_iff_iff, andNot_nat _ _ hl (by omega)]
    unfold badB
    have hd : decide (0 ≤ (m : Int)) = true := by simp
    rw [hd, Bool.true_and, List.any_eq_true]
    refine ⟨fun ⟨r, h2, h3⟩ => ?_, fun ⟨s, hs, h2⟩ => ?_⟩
    · rw [rdMask_bit, List.any_eq_true] at h2
      obtain ⟨s, hs, he⟩ := h2
      refine ⟨s, hs, ?_⟩
      have he : s.toNat = r := by simpa using he
      rw [hasB_bit, he]
      simp [h3]
    · refine ⟨s.toNat, ?_, ?_⟩
      · rw [rdMask_bit, List.any_eq_true]; exact ⟨s, hs, by simp⟩
      · rw [hasB_bit] at h2
        simpa using h2

/-- What the proof of a function comes to. -/
def proveE (P : List Fn) (f : Fn) (L : List Int) : Int :=
  if (List.range f.code.length).any (fun pc => badB P (L.getD pc 0) (insD f pc)) = true then 6 else if L.getD f.code.length 0 = -1 then 0 else 7
theorem prove_bad {P : List Fn} {f : Fn} {L : List Int} {k : Nat} (hk : k < f.code.length) (h : badB P (L.getD k 0) (insD f k) = true) : proveE P f L = 6 := by
  unfold proveE
  rw [if_pos (List.any_eq_true.2 ⟨k, by simpa using hk, h⟩)]
theorem prove_good {P : List Fn} {f : Fn} {L : List Int} (h : ∀ k, k < f.code.length → badB P (L.getD k 0) (insD f k) = false) : proveE P f L = if L.getD f.code.length 0 = -1 then 0 else 7 := by
  unfold proveE
  rw [if_neg]
  intro ha
  obtain ⟨k, hk, hb⟩ := List.any_eq_true.1 ha
  rw [h k (by simpa using hk)] at hb
  cases hb

def ProvesTo (P : List Fn) (f : Fn) (E : Int) : Prop := ∃ L, SureSpec f L ∧ E = proveE P f L
theorem provesTo_unique {P : List Fn} {f : Fn} {E E' : Int} (h : ProvesTo P f E) (h' : ProvesTo P f E') : E = E' := by
  obtain ⟨L, hL, rfl⟩ := h
  obtain ⟨L', hL', rfl⟩ := h'
  rw [sure_unique hL hL']
def ChecksTo (P : List Fn) : List Fn → Int → Prop
  | [], E => E = 0
  | f :: fs, E => ∃ e, ProvesTo P f e ∧ ((e ≠ 0 ∧ E = e) ∨ (e = 0 ∧ ChecksTo P fs E))
theorem checksTo_unique {P : List Fn} : ∀ {fs : List Fn} {E E' : Int}, ChecksTo P fs E → ChecksTo P fs E' → E = E'
  | [], E, E', h, h' => by rw [show E = 0 from h, show E' = 0 from h']
  | f :: fs, E, E', ⟨e, he, h⟩, ⟨e', he', h'⟩ => by
    obtain rfl := provesTo_unique he he'
    rcases h with ⟨h1, rfl⟩ | ⟨h1, h⟩ <;> rcases h' with ⟨h2, rfl⟩ | ⟨h2, h'⟩
    · rfl
    · exact absurd h2 h1
    · exact absurd h1 h2
    · exact checksTo_unique h h'
/-- So far all were right. -/
def SoFar (P : List Fn) (k : Nat) : Prop := ∀ E, ChecksTo P (P.drop k) E → ChecksTo P P E
theorem soFar_zero (P : List Fn) : SoFar P 0 := fun E h => by simpa using h
theorem soFar_next {P : List Fn} {k : Nat} (h : SoFar P k) (hk : k < P.length) (hp : ProvesTo P P[k] 0) : SoFar P (k + 1) := fun E he => h E (by
  rw [List.drop_eq_getElem_cons hk]; exact ⟨0, hp, Or.inr ⟨rfl, he⟩⟩)
theorem soFar_bad {P : List Fn} {k : Nat} (h : SoFar P k) (hk : k < P.length) {e : Int} (hp : ProvesTo P P[k] e) (he : e ≠ 0) : ChecksTo P P e := h e (by
  rw [List.drop_eq_getElem_cons hk]; exact ⟨e, hp, Or.inl ⟨he, rfl⟩⟩)
theorem soFar_end {P : List Fn} {k : Nat} (h : SoFar P k) (hk : P.length ≤ k) : ChecksTo P P 0 := h 0 (by rw [List.drop_eq_nil_of_le hk]; rfl)

/-- What P3.3 answers. -/
def ProofAns (P : List Fn) (E : Int) : Prop := (codeProg P ≠ 0 ∧ E = codeProg P) ∨ (codeProg P = 0 ∧ ChecksTo P P E)
theorem proofAns_unique {P : List Fn} {E E' : Int} (h : ProofAns P E) (h' : ProofAns P E') : E = E' := by
  rcases h with ⟨h1, rfl⟩ | ⟨h1, h⟩ <;> rcases h' with ⟨h2, rfl⟩ | ⟨h2, h'⟩
  · rfl
  · exact absurd h2 h1
  · exact absurd h1 h2
  · exact checksTo_unique h h'

end Go.Proofs.YtepnhemlhogmgaaDoor
