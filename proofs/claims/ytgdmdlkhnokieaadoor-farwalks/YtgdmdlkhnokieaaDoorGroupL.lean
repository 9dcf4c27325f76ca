/- Texts put together: LiveMath, LiveSim, LiveRef, FlowLive, FlowFace, LiveOf. -/
import Derived.Test.YtgdmdlkhnokieaaDoorGroupB
import Derived.Test.YtgdmdlkhnokieaaDoorGroupD
import Derived.Test.YtgdmdlkhnokieaaDoorXOwnInts
import Derived.Test.YtgdmdlkhnokieaaDoorGroupW
import Derived.Test.YtgdmdlkhnokieaaDoorGroupC
import Derived.Test.YtgdmdlkhnokieaaDoorGroupA
import Derived.Deep.AppendLies
/- What is live ahead of an instruction: plain mathematics. -/
namespace Go.Proofs.YtgdmdlkhnokieaaDoor
open Go Go.RowKit

/-- From a place there is a way to an instruction that reads a register, ahead of which none sets it. -/
inductive LiveW (P : List Fn) (f : Fn) (r : Nat) : Nat → Prop
  | read {pc : Nat} (h : pc < f.code.length) (hr : (rdMask P (insD f pc)).testBit r = true) : LiveW P f r pc
  | on {pc tq : Nat} (h : pc < f.code.length) (hs : (setMask (insD f pc)).testBit r = false) (ht : tq ∈ behind (insD f pc) pc) (hw : LiveW P f r tq) : LiveW P f r pc
/-- What P7.4 says, place by place. -/
def LiveSpec (P : List Fn) (f : Fn) (L : List Int) : Prop :=
  L.length = f.code.length ∧ ∀ q, q < f.code.length → (¬ Way f 63 q ∧ L.getD q 0 = -1) ∨ (Way f 63 q ∧ ∃ m : Nat, m < 4096 ∧ L.getD q 0 = m ∧ ∀ r, r < 12 → (m.testBit r = true ↔ LiveW P f r q))

/-- Bits of one number that another one has not. -/
def lessM (m n : Nat) : Nat := (bvn m &&& ~~~ bvn n).toNat
theorem lessM_le (m n : Nat) (h : m < 65536) : lessM m n ≤ m := by
  have h1 : (bvn m).toNat = m := by simp [bvn]; omega
  have h2 := and_le (bvn m) (~~~ bvn n)
  unfold lessM
  omega
theorem lessM_bit (m n r : Nat) (h : m < 65536) : (lessM m n).testBit r = (m.testBit r && !n.testBit r) := by
  by_cases hr : r < 64
  · unfold lessM
    rw [BitVec.testBit_toNat, BitVec.getLsbD_and, BitVec.getLsbD_not, bvn_bit _ _ hr, bvn_bit _ _ hr]
    simp [hr]
  · have h1 : m < 2 ^ r := Nat.lt_of_lt_of_le h (Nat.le_trans (by decide : 65536 ≤ 2 ^ 64) (Nat.pow_le_pow_right (by decide) (by omega)))
    rw [Nat.testBit_lt_two_pow (Nat.lt_of_le_of_lt (lessM_le m n h) h1), Nat.testBit_lt_two_pow h1]
    rfl
theorem lessM_int (m n : Nat) (hm : m < 65536) (hn : n < 65536) : bits .andNot .i64 (m : Int) (n : Int) = ((lessM m n : Nat) : Int) := by
  rw [← bvn_toInt m hm, ← bvn_toInt n hn, bits_andNot_bv]
  have h1 := lessM_le m n hm
  rw [BitVec.toInt_eq_toNat_of_lt (by show 2 * lessM m n < _; omega)]
  rfl

def mkL (L : List Int) (q : Nat) : Nat := (L.getD q 0).toNat
def wantL (L : List Int) (ts : List Nat) : Nat := ts.foldl (fun m t => m ||| mkL L t) 0
theorem want_bit' (L : List Int) (r : Nat) : ∀ (ts : List Nat) (m : Nat), (ts.foldl (fun m t => m ||| mkL L t) m).testBit r = true ↔ (m.testBit r = true ∨ ∃ t ∈ ts, (mkL L t).testBit r = true)
  | [], m => by simp
  | t :: ts, m => by
    rw [List.foldl_cons, want_bit' L r ts, Nat.testBit_or, Bool.or_eq_true]
    simp only [List.mem_cons, exists_eq_or_imp, or_assoc]
theorem want_bit (L : List Int) (ts : List Nat) (r : Nat) : (wantL L ts).testBit r = true ↔ ∃ t ∈ ts, (mkL L t).testBit r = true := by
  unfold wantL; rw [want_bit']; simp
theorem want_lt' (L : List Int) : ∀ (ts : List Nat) (m : Nat), m < 4096 → (∀ t ∈ ts, mkL L t < 4096) → ts.foldl (fun m t => m ||| mkL L t) m < 4096
  | [], m, h, _ => h
  | t :: ts, m, h, ht => want_lt' L ts _ (Nat.or_lt_two_pow (n := 12) h (ht t (by simp))) (fun u hu => ht u (by simp [hu]))
theorem want_lt (L : List Int) (ts : List Nat) (h : ∀ t ∈ ts, mkL L t < 4096) : wantL L ts < 4096 := want_lt' L ts 0 (by decide) h
/-- What is wanted ahead of an instruction, by what is wanted behind it. -/
def aheadL (P : List Fn) (f : Fn) (L : List Int) (pc : Nat) : Nat := rdMask P (insD f pc) ||| lessM (wantL L (behind (insD f pc) pc)) (setMask (insD f pc))
theorem rdMask_lt12 {P : List Fn} {x : Ins} (hx : InsOk P x) : rdMask P x < 4096 := by
  unfold rdMask
  have h1 : 2 ^ x.a.toNat < 4096 := Nat.lt_of_le_of_lt (Nat.pow_le_pow_right (by decide) (show x.a.toNat ≤ 11 by have := hx.a0; have := hx.a1; omega)) (by decide)
  have h2 : 2 ^ x.b.toNat < 4096 := Nat.lt_of_le_of_lt (Nat.pow_le_pow_right (by decide) (show x.b.toNat ≤ 11 by have := hx.b0; have := hx.b1; omega)) (by decide)
  exact Nat.or_lt_two_pow (n := 12) (by split <;> omega) (by split <;> omega)

/-- What holds all along of the places' numbers. -/
structure LInv (P : List Fn) (f : Fn) (L : List Int) : Prop where
  len : L.length = f.code.length
  no : ∀ q, q < f.code.length → ¬ Way f 63 q → L.getD q 0 = -1
  yes : ∀ q, q < f.code.length → Way f 63 q → 0 ≤ L.getD q 0 ∧ L.getD q 0 < 4096
  sound : ∀ q, q < f.code.length → Way f 63 q → ∀ r, (mkL L q).testBit r = true → LiveW P f r q
  grows : ∀ q, q < f.code.length → Way f 63 q → ∀ r, (mkL L q).testBit r = true → (aheadL P f L q).testBit r = true
/-- A function of a right program, as far as it is asked here. -/
structure FlowOk (P : List Fn) (f : Fn) : Prop where
  ok : FnOk f
  ins : ∀ x ∈ f.code, InsOk P x ∧ (x.op = 15 ∨ x.op = 16 → 0 ≤ x.imm)
  fin : ¬ Way f 63 f.code.length
theorem FlowOk.insD {P : List Fn} {f : Fn} (h : FlowOk P f) {pc : Nat} (hp : pc < f.code.length) : InsOk P (insD f pc) ∧ ((insD f pc).op = 15 ∨ (insD f pc).op = 16 → 0 ≤ (insD f pc).imm) := by
  rw [insD_eq hp]; exact h.ins _ (List.getElem_mem hp)
/-- Behind a place that is reached are such alone. -/
theorem FlowOk.on {P : List Fn} {f : Fn} (h : FlowOk P f) {pc t : Nat} (hp : pc < f.code.length) (hw : Way f 63 pc) (ht : t ∈ behind (Go.Proofs.YtgdmdlkhnokieaaDoor.insD f pc) pc) : Way f 63 t ∧ t < f.code.length := by
  have hx := (h.insD hp).1
  have hw2 : Way f 63 t := Way.step hp hw (set_high _ hx.dst0 hx.dst1) ht
  refine ⟨hw2, ?_⟩
  have h1 := h.ok.goes pc hp t ht
  rcases Nat.lt_or_ge t f.code.length with h2 | h2
  · exact h2
  · obtain rfl : t = f.code.length := by omega
    exact absurd hw2 h.fin
theorem flowOk_of {P : List Fn} (h : ProofAns P 0) {f : Fn} (hf : f ∈ P) : FlowOk P f := by
  obtain ⟨ok, hi⟩ := fnOk_of (right_code h) hf
  obtain ⟨L, _, _, hn⟩ := right_fn h hf
  exact ⟨ok, hi, hn⟩
theorem LInv.mk_eq {P : List Fn} {f : Fn} {L : List Int} (h : LInv P f L) {q : Nat} (hq : q < f.code.length) (hw : Way f 63 q) : L.getD q 0 = (mkL L q : Int) ∧ mkL L q < 4096 := by
  have := h.yes q hq hw
  unfold mkL
  omega
theorem LInv.want_lt {P : List Fn} {f : Fn} {L : List Int} (h : LInv P f L) (ok : FlowOk P f) {pc : Nat} (hp : pc < f.code.length) (hw : Way f 63 pc) : wantL L (behind (insD f pc) pc) < 4096 :=
  Go.Proofs.YtgdmdlkhnokieaaDoor.want_lt L _ fun _ ht => (h.mk_eq (ok.on hp hw ht).2 (ok.on hp hw ht).1).2
theorem ahead_bit (P : List Fn) (f : Fn) (L : List Int) (pc r : Nat) (h : wantL L (behind (insD f pc) pc) < 65536) :
    (aheadL P f L pc).testBit r = true ↔ ((rdMask P (insD f pc)).testBit r = true ∨ ((setMask (insD f pc)).testBit r = false ∧ ∃ t ∈ behind (insD f pc) pc, (mkL L t).testBit r = true)) := by
  unfold aheadL
  rw [Nat.testBit_or, Bool.or_eq_true, lessM_bit _ _ _ h, Bool.and_eq_true, want_bit]
  simp only [Bool.not_eq_true']
  constructor
  · rintro (h | ⟨h1, h2⟩)
    · exact Or.inl h
    · exact Or.inr ⟨h2, h1⟩
  · rintro (h | ⟨h1, h2⟩)
    · exact Or.inl h
    · exact Or.inr ⟨h2, h1⟩
theorem LInv.ahead_lt {P : List Fn} {f : Fn} {L : List Int} (h : LInv P f L) (ok : FlowOk P f) {pc : Nat} (hp : pc < f.code.length) (hw : Way f 63 pc) : aheadL P f L pc < 4096 := by
  have h1 := h.want_lt ok hp hw
  exact Nat.or_lt_two_pow (n := 12) (rdMask_lt12 (ok.insD hp).1) (Nat.lt_of_le_of_lt (lessM_le _ _ (by omega)) h1)

theorem sub_le {m n : Nat} (h : ∀ r, m.testBit r = true → n.testBit r = true) : m ≤ n := by
  have e : m &&& n = m := Nat.eq_of_testBit_eq fun r => by
    rw [Nat.testBit_and]
    cases hm : m.testBit r
    · rfl
    · rw [h r hm]; rfl
  rw [← e]
  exact Nat.and_le_right
theorem igetD_set (l : List Int) (i q : Nat) (v : Int) (hi : i < l.length) : (l.set i v).getD q 0 = if q = i then v else l.getD q 0 := by
  rw [List.getD_eq_getElem?_getD, List.getElem?_set, List.getD_eq_getElem?_getD]
  by_cases h : i = q
  · subst h; simp [hi]
  · simp [h, Ne.symm h]
def totL (L : List Int) : Nat := (L.map fun z => 4096 - z.toNat).sum
theorem totL_set (l : List Int) (i : Nat) (v : Int) (hi : i < l.length) : totL (l.set i v) + (4096 - mkL l i) = totL l + (4096 - v.toNat) := by
  induction l generalizing i with
  | nil => simp at hi
  | cons a l ih =>
    cases i with
    | zero => simp [totL, mkL]; omega
    | succ i =>
      have := ih i (by simpa using hi)
      simp [totL, mkL] at this ⊢
      omega

/-- In the midst of a round, which goes from the last place to the first: so many are still to be done. -/
structure LMid (P : List Fn) (f : Fn) (L0 : List Int) (k : Nat) (again : Bool) (L : List Int) : Prop where
  inv : LInv P f L
  less : again = true → totL L < totL L0
  same : again = false → L = L0 ∧ ∀ q, k ≤ q → q < f.code.length → Way f 63 q → aheadL P f L q = mkL L q
theorem LMid.start {P : List Fn} {f : Fn} {L : List Int} (h : LInv P f L) : LMid P f L f.code.length false L :=
  ⟨h, fun e => (by cases e), fun _ => ⟨rfl, fun q h1 h2 => by omega⟩⟩
theorem LMid.skip {P : List Fn} {f : Fn} {L0 L : List Int} {k : Nat} {again : Bool} (h : LMid P f L0 (k + 1) again L) (hn : ¬ Way f 63 k) : LMid P f L0 k again L :=
  ⟨h.inv, h.less, fun e => ⟨(h.same e).1, fun q h1 h2 hw => by
    rcases Nat.lt_or_ge k q with h3 | h3
    · exact (h.same e).2 q h3 h2 hw
    · obtain rfl : q = k := by omega
      exact absurd hw hn⟩⟩
theorem LMid.step {P : List Fn} {f : Fn} {L0 L : List Int} {k : Nat} {again : Bool} (h : LMid P f L0 (k + 1) again L) (ok : FlowOk P f) (hk : k < f.code.length) (hw : Way f 63 k) :
    LMid P f L0 k (again || (aheadL P f L k != mkL L k)) (L.set k (aheadL P f L k : Int)) := by
  have hi := h.inv
  have hkl : k < L.length := by rw [hi.len]; exact hk
  have hlt := hi.ahead_lt ok hk hw
  have hmk : ∀ q, mkL (L.set k (aheadL P f L k : Int)) q = if q = k then aheadL P f L k else mkL L q := by
    intro q
    unfold mkL
    rw [igetD_set _ _ _ _ hkl]
    split <;> simp
  have hup : ∀ q r, q < f.code.length → Way f 63 q → (mkL L q).testBit r = true → (mkL (L.set k (aheadL P f L k : Int)) q).testBit r = true := by
    intro q r hq hwq hb
    rw [hmk]
    split
    · rename_i e; subst e; exact hi.grows q hq hwq r hb
    · exact hb
  have hwl : ∀ q, q < f.code.length → Way f 63 q → wantL (L.set k (aheadL P f L k : Int)) (behind (insD f q) q) < 65536 := by
    intro q hq hwq
    refine Nat.lt_trans (want_lt _ _ fun t ht => ?_) (by decide : 4096 < 65536)
    obtain ⟨t1, t2⟩ := ok.on hq hwq ht
    rw [hmk]
    split
    · exact hlt
    · exact (hi.mk_eq t2 t1).2
  have hmono : ∀ q r, q < f.code.length → Way f 63 q → (aheadL P f L q).testBit r = true → (aheadL P f (L.set k (aheadL P f L k : Int)) q).testBit r = true := by
    intro q r hq hwq hb
    rw [ahead_bit _ _ _ _ _ (Nat.lt_trans (hi.want_lt ok hq hwq) (by decide : 4096 < 65536))] at hb
    rw [ahead_bit _ _ _ _ _ (hwl q hq hwq)]
    rcases hb with hb | ⟨h1, t, ht, hb⟩
    · exact Or.inl hb
    · obtain ⟨t1, t2⟩ := ok.on hq hwq ht
      exact Or.inr ⟨h1, t, ht, hup t r t2 t1 hb⟩
  have hinv : LInv P f (L.set k (aheadL P f L k : Int)) := by
    refine ⟨by simp [hi.len], fun q hq hn => ?_, fun q hq hwq => ?_, fun q hq hwq r hb => ?_, fun q hq hwq r hb => ?_⟩
    · rw [igetD_set _ _ _ _ hkl, if_neg (fun e : q = k => hn (by rw [e]; exact hw))]
      exact hi.no q hq hn
    · rw [igetD_set _ _ _ _ hkl]
      split
      · omega
      · exact hi.yes q hq hwq
    · rw [hmk] at hb
      split at hb
      · rename_i e
        subst e
        rw [ahead_bit _ _ _ _ _ (Nat.lt_trans (hi.want_lt ok hq hwq) (by decide : 4096 < 65536))] at hb
        rcases hb with hb | ⟨h1, t, ht, hb⟩
        · exact LiveW.read hq hb
        · obtain ⟨t1, t2⟩ := ok.on hq hwq ht
          exact LiveW.on hq h1 ht (hi.sound t t2 t1 r hb)
      · exact hi.sound q hq hwq r hb
    · rw [hmk] at hb
      split at hb
      · rename_i e; subst e; exact hmono q r hq hwq hb
      · exact hmono q r hq hwq (hi.grows q hq hwq r hb)
  have hset := totL_set L k (aheadL P f L k : Int) hkl
  have hge : mkL L k ≤ aheadL P f L k := sub_le fun r hb => hi.grows k hk hw r hb
  have hml := (hi.mk_eq hk hw).2
  simp only [Int.toNat_natCast] at hset
  refine ⟨hinv, fun e => ?_, fun e => ?_⟩
  · cases ha : again
    · rw [ha, Bool.false_or] at e
      have hne : aheadL P f L k ≠ mkL L k := by simpa using e
      obtain ⟨rfl, _⟩ := h.same ha
      omega
    · have := h.less ha
      omega
  · simp only [Bool.or_eq_false_iff] at e
    obtain ⟨rfl, h2⟩ := h.same e.1
    have he : aheadL P f L k = mkL L k := by simpa using e.2
    have hL : L.set k (aheadL P f L k : Int) = L := by
      rw [he, ← (hi.mk_eq hk hw).1, List.getD_eq_getElem?_getD, List.getElem?_eq_getElem hkl]
      exact List.set_getElem_self hkl
    rw [hL]
    refine ⟨rfl, fun q h1 h3 hwq => ?_⟩
    rcases Nat.lt_or_ge k q with h4 | h4
    · exact h2 q h4 h3 hwq
    · obtain rfl : q = k := by omega
      exact he
/-- What holds ahead of each round. -/
structure LLoops (P : List Fn) (f : Fn) (again : Bool) (L : List Int) : Prop where
  inv : LInv P f L
  closed : again = false → ∀ q, q < f.code.length → Way f 63 q → aheadL P f L q = mkL L q
theorem LLoops.next {P : List Fn} {f : Fn} {L L' : List Int} {again' : Bool} (m : LMid P f L 0 again' L') :
    LLoops P f again' L' ∧ totL L' + (if again' = true then 1 else 0) < totL L + 1 := by
  refine ⟨⟨m.inv, fun ha q h1 h2 => (m.same ha).2 q (Nat.zero_le _) h1 h2⟩, ?_⟩
  cases again' with
  | false => obtain ⟨rfl, _⟩ := m.same rfl; simp
  | true => have := m.less rfl; simp; omega
theorem LLoops.spec {P : List Fn} {f : Fn} (ok : FlowOk P f) {L : List Int} (h : LLoops P f false L) : LiveSpec P f L := by
  refine ⟨h.inv.len, fun q hq => ?_⟩
  by_cases hw : Way f 63 q
  · refine Or.inr ⟨hw, mkL L q, (h.inv.mk_eq hq hw).2, (h.inv.mk_eq hq hw).1, fun r _ => ⟨h.inv.sound q hq hw r, fun hl => ?_⟩⟩
    clear hq
    induction hl with
    | @read pc hp hr =>
      rw [← h.closed rfl pc hp hw, ahead_bit _ _ _ _ _ (Nat.lt_trans (h.inv.want_lt ok hp hw) (by decide : 4096 < 65536))]
      exact Or.inl hr
    | @on pc tq hp hs ht _ ih =>
      rw [← h.closed rfl pc hp hw, ahead_bit _ _ _ _ _ (Nat.lt_trans (h.inv.want_lt ok hp hw) (by decide : 4096 < 65536))]
      exact Or.inr ⟨hs, tq, ht, ih (ok.on hp hw ht).1⟩
  · exact Or.inl ⟨hw, h.inv.no q hq hw⟩
/-- Where a loop begins: nothing is live yet. -/
theorem LLoops.start {P : List Fn} {f : Fn} {L : List Int} (hl : L.length = f.code.length) (hn : ∀ q, q < f.code.length → ¬ Way f 63 q → L.getD q 0 = -1) (hy : ∀ q, q < f.code.length → Way f 63 q → L.getD q 0 = 0) : LLoops P f true L :=
  have hz : ∀ q, q < f.code.length → Way f 63 q → ∀ r, (mkL L q).testBit r = true → False := fun q hq hw r hb => by
    unfold mkL at hb
    rw [hy q hq hw] at hb
    simp at hb
  ⟨⟨hl, hn, fun q hq hw => (by rw [hy q hq hw]; omega), fun q hq hw r hb => (hz q hq hw r hb).elim, fun q hq hw r hb => (hz q hq hw r hb).elim⟩, fun e => (by cases e)⟩

/-- What is live is surely set. -/
theorem live_sure {P : List Fn} {f : Fn} (ok : FlowOk P f) (hR : ∀ q, q < f.code.length → Way f 63 q → ∀ r, r < 12 → (rdMask P (insD f q)).testBit r = true → ¬ Way f r q) {r : Nat} (hr : r < 12) {q : Nat} (h : LiveW P f r q) : Way f 63 q → ¬ Way f r q := by
  induction h with
  | read hp hb => exact fun hw => hR _ hp hw r hr hb
  | on hp hs ht _ ih => exact fun hw hw2 => ih (ok.on hp hw ht).1 (Way.step hp hw2 hs ht)
/-- A right program's function reads nothing that is not surely set. -/
theorem right_reads {P : List Fn} (h : ProofAns P 0) {f : Fn} (hf : f ∈ P) : ∀ q, q < f.code.length → Way f 63 q → ∀ r, r < 12 → (rdMask P (insD f q)).testBit r = true → ¬ Way f r q := by
  obtain ⟨L, hL, hb, _⟩ := right_fn h hf
  intro q hq hw r hr hbit
  rcases hL.2 q (by omega) with ⟨hn, _⟩ | ⟨_, m, hm, e, hm2⟩
  · exact absurd hw hn
  · refine (hm2 r hr).1 ?_
    have h1 := hb q hq
    unfold badB at h1
    rw [e] at h1
    simp only [Int.toNat_natCast, Int.natCast_nonneg, decide_true, Bool.true_and] at h1
    rw [rdMask_bit, List.any_eq_true] at hbit
    obtain ⟨s, hs, he⟩ := hbit
    have h2 := List.any_eq_false.1 h1 s hs
    rw [hasB_bit, show s.toNat = r by simpa using he] at h2
    cases hb2 : m.testBit r
    · rw [hb2] at h2; exact absurd rfl h2
    · rfl
end Go.Proofs.YtgdmdlkhnokieaaDoor

/- Two states that agree on what is live go side by side. -/
namespace Go.Proofs.YtgdmdlkhnokieaaDoor
open Go Go.RowKit

/-- Two frames at one place that agree on what is live there. -/
structure AgFr (P : List Fn) (f g : Fr) : Prop where
  fn : g.fn = f.fn
  pc : g.pc = f.pc
  len : g.regs.length = f.regs.length
  live : ∀ r, r < 12 → LiveW P (fnD P f.fn) r f.pc.toNat → g.regs.getD r 0 = f.regs.getD r 0
inductive AgFs (P : List Fn) : List Fr → List Fr → Prop
  | nil : AgFs P [] []
  | snoc {fs gs : List Fr} {f g : Fr} (h : AgFs P fs gs) (hf : AgFr P f g) : AgFs P (fs ++ [f]) (gs ++ [g])
theorem AgFr.refl (P : List Fn) (f : Fr) : AgFr P f f := ⟨rfl, rfl, rfl, fun _ _ _ => rfl⟩
theorem AgFs.inv {P : List Fn} {l m : List Fr} (h : AgFs P l m) : (l = [] ∧ m = []) ∨ ∃ fs gs f g, l = fs ++ [f] ∧ m = gs ++ [g] ∧ AgFs P fs gs ∧ AgFr P f g := by
  cases h with
  | nil => exact Or.inl ⟨rfl, rfl⟩
  | snoc h hf => exact Or.inr ⟨_, _, _, _, rfl, rfl, h, hf⟩
theorem AgFs.len {P : List Fn} {l m : List Fr} (h : AgFs P l m) : m.length = l.length := by
  induction h with
  | nil => rfl
  | snoc _ _ ih => simp [ih]
section
variable {P : List Fn}
theorem AgFr.ins {f g : Fr} (h : AgFr P f g) : insOfFr P g = insOfFr P f := by unfold insOfFr; rw [h.fn, h.pc]
theorem AgFr.a {f g : Fr} (h : AgFr P f g) (hc : codeProg P = 0) (hp : placeB P f = true) (hr : rdA P (insOfFr P f) = true) : regD g (insOfFr P f).a = regD f (insOfFr P f).a := by
  have hx := place_ins hc hp
  obtain ⟨k, j, hk, hj, e1, e2, e3, e4⟩ := place_nat hp
  refine h.live _ (by have := hx.a0; have := hx.a1; omega) (LiveW.read (by rw [e3, e2]; exact hj) ?_)
  show (rdMask P (insOfFr P f)).testBit _ = true
  unfold rdMask
  rw [if_pos hr, Nat.testBit_or, Nat.testBit_two_pow_self]; rfl
theorem AgFr.b {f g : Fr} (h : AgFr P f g) (hc : codeProg P = 0) (hp : placeB P f = true) (hr : rdB P (insOfFr P f) = true) : regD g (insOfFr P f).b = regD f (insOfFr P f).b := by
  have hx := place_ins hc hp
  obtain ⟨k, j, hk, hj, e1, e2, e3, e4⟩ := place_nat hp
  refine h.live _ (by have := hx.b0; have := hx.b1; omega) (LiveW.read (by rw [e3, e2]; exact hj) ?_)
  show (rdMask P (insOfFr P f)).testBit _ = true
  unfold rdMask
  rw [if_pos hr, Nat.testBit_or, Nat.testBit_two_pow_self, Bool.or_true]
/-- On to a place behind, with nothing set. -/
theorem AgFr.go {f g : Fr} (h : AgFr P f g) (hp : placeB P f = true) {z : Int} {q : Nat} (hz : z = q) (ht : q ∈ behind (insOfFr P f) f.pc.toNat) (hs : setsB (insOfFr P f).op = false) : AgFr P ⟨f.fn, z, f.regs⟩ ⟨g.fn, z, g.regs⟩ := by
  obtain ⟨k, j, hk, hj, e1, e2, e3, e4⟩ := place_nat hp
  subst hz
  refine ⟨h.fn, rfl, h.len, fun r hr hl => h.live r hr (LiveW.on (by rw [e3, e2]; exact hj) ?_ ht hl)⟩
  show (setMask (insOfFr P f)).testBit r = false
  unfold setMask
  rw [if_neg (by rw [hs]; decide)]; exact Nat.zero_testBit r
/-- On to the next place, with the register set. -/
theorem AgFr.put {f g : Fr} (h : AgFr P f g) (hc : codeProg P = 0) (hp : placeB P f = true) (hl : f.regs.length = 12) (ho : setsB (insOfFr P f).op = true) (v : Int) : AgFr P (putF f (insOfFr P f).dst v) (putF g (insOfFr P f).dst v) := by
  have hx := place_ins hc hp
  obtain ⟨k, j, hk, hj, e1, e2, e3, e4⟩ := place_nat hp
  have hd : (insOfFr P f).dst.toNat < 12 := by have := hx.dst0; have := hx.dst1; omega
  have hn : (insOfFr P f).op ≠ 15 ∧ (insOfFr P f).op ≠ 19 := by
    unfold setsB at ho; rw [decide_eq_true_eq] at ho; omega
  refine ⟨h.fn, by show g.pc + 1 = f.pc + 1; rw [h.pc], by rw [putF_len, putF_len]; exact h.len, fun r hr hlv => ?_⟩
  show (g.regs.set _ v).getD r 0 = (f.regs.set _ v).getD r 0
  by_cases hrd : (insOfFr P f).dst.toNat = r
  · subst hrd
    simp [List.getD, h.len, hl, hd]
  · simp only [List.getD_eq_getElem?_getD]
    rw [List.getElem?_set_ne hrd, List.getElem?_set_ne hrd]
    have hs : (setMask (insOfFr P f)).testBit r = false := by
      unfold setMask
      rw [if_pos ho, Nat.testBit_two_pow]; simp [hrd]
    have ht : (f.pc + 1).toNat ∈ behind (insOfFr P f) f.pc.toNat := by
      rw [show (f.pc + 1).toNat = f.pc.toNat + 1 by omega]
      exact behind_next _ _ hn.1 hn.2
    have hlt : f.pc.toNat < (fnD P f.fn).code.length := by rw [e3, e2]; exact hj
    have := h.live r hr (LiveW.on hlt hs ht hlv)
    simpa only [List.getD_eq_getElem?_getD] using this
/-- What may be of the one may be of the other. -/
theorem AgFr.place {f g : Fr} (h : AgFr P f g) (hp : placeB P f = true) : placeB P g = true := by
  obtain ⟨k, j, hk, hj, e1, e2, e3, e4⟩ := place_nat hp
  have := place_of hk hj g.regs
  rw [← e1, ← e2, ← h.fn, ← h.pc] at this
  exact this
theorem AgFs.fok {l m : List Fr} (h : AgFs P l m) : FOk P l → FOk P m := by
  induction h with
  | nil => exact fun h => h
  | @snoc fs gs f g h hf ih =>
    intro hk
    obtain ⟨h1, h2, h3⟩ := (fok_snoc P fs f).1 hk
    refine (fok_snoc P gs g).2 ⟨ih h1, hf.place h2, fun g' hg' => ?_⟩
    rcases h.inv with ⟨rfl, rfl⟩ | ⟨fs', gs', f', g'', rfl, rfl, _, k2⟩
    · simp at hg'
    · rw [List.getLast?_concat] at hg'
      cases hg'
      rw [k2.ins, hf.fn]
      exact h3 f' (by simp)
theorem AgFs.all {l m : List Fr} (h : AgFs P l m) : ∀ g ∈ m, ∃ f ∈ l, AgFr P f g := by
  induction h with
  | nil => intro g hg; cases hg
  | @snoc fs gs f g h hf ih =>
    intro g' hg'
    rw [List.mem_append, List.mem_singleton] at hg'
    rcases hg' with hg' | rfl
    · obtain ⟨f', h1, h2⟩ := ih g' hg'
      exact ⟨f', List.mem_append_left _ h1, h2⟩
    · exact ⟨f, by simp, hf⟩
theorem ag_inv {S : St} {gs : List Fr} (hI : RunInv P S) (h : AgFs P S.frames gs) : RunInv P { S with frames := gs } := by
  refine ⟨?_, h.fok hI.fok, fun g hg => ?_, fun g hg => ?_, hI.mem⟩
  · have := (mayB_iff S).1 hI.may
    refine (mayB_iff _).2 ?_
    dsimp only
    rw [h.len]
    exact this
  · obtain ⟨f, hf, ha⟩ := h.all g hg
    have := hI.reach f hf
    unfold ReachFr at this ⊢
    rw [ha.fn, ha.pc]; exact this
  · obtain ⟨f, hf, ha⟩ := h.all g hg
    rw [ha.len]; exact hI.wf f hf
theorem ag_step (hR : ProofAns P 0) {S : St} {gs : List Fr} (hI : RunInv P S) (h : AgFs P S.frames gs) :
    ∃ gs', stepS P { S with frames := gs } = { stepS P S with frames := gs' } ∧ AgFs P (stepS P S).frames gs' := by
  have hc := right_code hR
  obtain ⟨status, value, frames, mem, fuel, events, answers⟩ := S
  have hok := hI.fok
  have hwf := hI.wf
  clear hI
  dsimp only at h hok hwf ⊢
  unfold stepS
  dsimp only
  by_cases hf : fuel = 0
  · rw [if_pos hf, if_pos hf]; exact ⟨gs, rfl, h⟩
  rw [if_neg hf, if_neg hf]
  rcases h.inv with ⟨rfl, rfl⟩ | ⟨fs, gs', f, g, rfl, rfl, h1, h2⟩
  · exact ⟨[], rfl, .nil⟩
  simp only [List.getLast?_concat, List.dropLast_concat]
  obtain ⟨hok1, hp, hup⟩ := (fok_snoc P fs f).1 hok
  have h12 : f.regs.length = 12 := hwf f (by simp)
  have hx := place_ins hc hp
  rw [h2.ins]
  have hA : (insOfFr P f).op ≠ 1 → (insOfFr P f).op ≠ 15 → (insOfFr P f).op ≠ 17 → regD g (insOfFr P f).a = regD f (insOfFr P f).a := fun a b d => h2.a hc hp (by unfold rdA readsAB; rw [if_neg d, decide_eq_true_eq]; exact ⟨a, b⟩)
  have hB : ((2 ≤ (insOfFr P f).op ∧ (insOfFr P f).op ≤ 12) ∨ (insOfFr P f).op = 14) → regD g (insOfFr P f).b = regD f (insOfFr P f).b := fun a => h2.b hc hp (by unfold rdB readsBB; rw [if_neg (by omega), decide_eq_true_eq]; omega)
  have hput : ((1 ≤ (insOfFr P f).op ∧ (insOfFr P f).op ≤ 13) ∨ (insOfFr P f).op = 17 ∨ (insOfFr P f).op = 18) → ∀ v, AgFr P (putF f (insOfFr P f).dst v) (putF g (insOfFr P f).dst v) := fun a v => h2.put hc hp h12 (by unfold setsB; rw [decide_eq_true_eq]; exact a) v
  have hno : ((insOfFr P f).op = 14 ∨ (insOfFr P f).op = 15 ∨ (insOfFr P f).op = 16) → setsB (insOfFr P f).op = false := fun a => by unfold setsB; rw [decide_eq_false_iff_not]; omega
  have hpc : 0 ≤ f.pc := by obtain ⟨k, j, hk, hj, e1, e2, _⟩ := place_nat hp; omega
  have hgo : (insOfFr P f).op = 14 ∨ (insOfFr P f).op = 16 → AgFr P ⟨f.fn, f.pc + 1, f.regs⟩ ⟨g.fn, g.pc + 1, g.regs⟩ := fun a => by
    rw [h2.pc]
    exact h2.go hp (q := f.pc.toNat + 1) (by omega) (behind_next _ _ (by omega) (by omega)) (hno (by omega))
  have hju : (insOfFr P f).op = 15 ∨ (insOfFr P f).op = 16 → AgFr P ⟨f.fn, (insOfFr P f).imm, f.regs⟩ ⟨g.fn, (insOfFr P f).imm, g.regs⟩ := fun a => by
    have h0 : 0 ≤ (insOfFr P f).imm := by
      obtain ⟨k, j, hk, hj, e1, e2, e3, e4⟩ := place_nat hp
      have := ((flowOk_of hR (List.getElem_mem hk)).insD hj).2
      rw [insD_eq hj, ← e4] at this
      exact this a
    exact h2.go hp (q := (insOfFr P f).imm.toNat) (by omega) (behind_jump _ _ a) (hno (by omega))
  have hb : barredI (insOfFr P f) (regD g (insOfFr P f).a) (regD g (insOfFr P f).b) = barredI (insOfFr P f) (regD f (insOfFr P f).a) (regD f (insOfFr P f).b) := by
    unfold barredI
    by_cases o5 : (insOfFr P f).op = 5
    · rw [if_pos o5, if_pos o5, hB (by omega)]
    rw [if_neg o5, if_neg o5]
    by_cases o : (insOfFr P f).op = 13 ∨ (insOfFr P f).op = 14
    · rw [if_pos o, if_pos o, hA (by omega) (by omega) (by omega)]
    · rw [if_neg o, if_neg o]
  rw [hb]
  have hlen := h1.len
  by_cases hz : barredI (insOfFr P f) (regD f (insOfFr P f).a) (regD f (insOfFr P f).b) = 0
  · rw [if_pos hz, if_pos hz]
    unfold doS
    dsimp only
    by_cases o13 : (insOfFr P f).op = 13
    · rw [if_pos o13, if_pos o13, hA (by omega) (by omega) (by omega)]; exact ⟨_, rfl, h1.snoc (hput (by omega) _)⟩
    rw [if_neg o13, if_neg o13]
    by_cases o14 : (insOfFr P f).op = 14
    · rw [if_pos o14, if_pos o14, hA (by omega) (by omega) (by omega), hB (by omega)]; exact ⟨_, rfl, h1.snoc (hgo (by omega))⟩
    rw [if_neg o14, if_neg o14]
    by_cases o15 : (insOfFr P f).op = 15
    · rw [if_pos o15, if_pos o15]; exact ⟨_, rfl, h1.snoc (hju (by omega))⟩
    rw [if_neg o15, if_neg o15]
    by_cases o16 : (insOfFr P f).op = 16
    · rw [if_pos o16, if_pos o16, hA (by omega) (by omega) (by omega)]
      by_cases hr : regD f (insOfFr P f).a = 0
      · rw [if_pos hr, if_pos hr]; exact ⟨_, rfl, h1.snoc (hgo (by omega))⟩
      · rw [if_neg hr, if_neg hr]; exact ⟨_, rfl, h1.snoc (hju (by omega))⟩
    rw [if_neg o16, if_neg o16]
    by_cases o17 : (insOfFr P f).op = 17
    · rw [if_pos o17, if_pos o17, hlen]
      by_cases h8 : fs.length + 1 = 8
      · rw [if_pos h8, if_pos h8]; exact ⟨_, rfl, h1.snoc h2⟩
      · rw [if_neg h8, if_neg h8]
        have ht : [regD g (insOfFr P f).a, regD g (insOfFr P f).b].take (fnD P (insOfFr P f).imm).params.toNat = [regD f (insOfFr P f).a, regD f (insOfFr P f).b].take (fnD P (insOfFr P f).imm).params.toNat := by
          obtain ⟨_, _, p0, p2⟩ := hx.call o17
          have hpa : paramsAt P (insOfFr P f).imm = (fnD P (insOfFr P f).imm).params := rfl
          rw [hpa] at p0 p2
          have ea : 1 ≤ (fnD P (insOfFr P f).imm).params → regD g (insOfFr P f).a = regD f (insOfFr P f).a := fun h => h2.a hc hp (by unfold rdA; rw [if_pos o17, decide_eq_true_eq]; exact h)
          have eb : 2 ≤ (fnD P (insOfFr P f).imm).params → regD g (insOfFr P f).b = regD f (insOfFr P f).b := fun h => h2.b hc hp (by unfold rdB; rw [if_pos o17, decide_eq_true_eq]; exact h)
          rcases (show (fnD P (insOfFr P f).imm).params = 0 ∨ (fnD P (insOfFr P f).imm).params = 1 ∨ (fnD P (insOfFr P f).imm).params = 2 by omega) with e | e | e
          · rw [e]; rfl
          · rw [ea (by omega), e]; rfl
          · rw [ea (by omega), eb (by omega)]
        rw [ht]
        have := (h1.snoc h2).snoc (AgFr.refl P (begunFr (insOfFr P f).imm ([regD f (insOfFr P f).a, regD f (insOfFr P f).b].take (fnD P (insOfFr P f).imm).params.toNat)))
        rw [List.append_assoc, List.append_assoc] at this
        exact ⟨_, rfl, this⟩
    rw [if_neg o17, if_neg o17]
    by_cases o18 : (insOfFr P f).op = 18
    · rw [if_pos o18, if_pos o18, hA (by omega) (by omega) (by omega)]; exact ⟨_, rfl, h1.snoc (hput (by omega) _)⟩
    rw [if_neg o18, if_neg o18]
    by_cases o19 : (insOfFr P f).op = 19
    · rw [if_pos o19, if_pos o19, hA (by omega) (by omega) (by omega)]
      unfold retS
      rcases h1.inv with ⟨rfl, rfl⟩ | ⟨fs', gs'', f', g', rfl, rfl, k1, k2⟩
      · exact ⟨[], rfl, .nil⟩
      · simp only [List.getLast?_concat, List.dropLast_concat]
        have h17 := (hup f' (by simp)).1
        rw [k2.ins]
        exact ⟨_, rfl, k1.snoc (k2.put hc ((fok_snoc P fs' f').1 hok1).2.1 (hwf f' (by simp)) (by unfold setsB; rw [h17]; decide) _)⟩
    rw [if_neg o19, if_neg o19]
    have hr := hx.op1
    have hr2 := hx.op2
    have hmk : mk (insOfFr P f).op (regD g (insOfFr P f).a) (regD g (insOfFr P f).b) (insOfFr P f).imm = mk (insOfFr P f).op (regD f (insOfFr P f).a) (regD f (insOfFr P f).b) (insOfFr P f).imm := by
      by_cases o1 : (insOfFr P f).op = 1
      · unfold mk; rw [if_pos o1, if_pos o1]
      · rw [hA o1 (by omega) (by omega), hB (by omega)]
    rw [hmk]
    exact ⟨_, rfl, h1.snoc (hput (by omega) _)⟩
  · rw [if_neg hz, if_neg hz]
    exact ⟨_, rfl, h1.snoc h2⟩
/-- So many steps of the one are so many of the other. -/
theorem ag_walk (hR : ProofAns P 0) (n : Nat) : ∀ {S : St} {gs : List Fr}, RunInv P S → AgFs P S.frames gs →
    ∃ gs', walkS P n { S with frames := gs } = { walkS P n S with frames := gs' } ∧ AgFs P (walkS P n S).frames gs' := by
  induction n with
  | zero => intro S gs _ h; exact ⟨gs, rfl, h⟩
  | succ n ih =>
    intro S gs hI h
    rw [walkS, walkS]
    by_cases h0 : S.status = 0
    · rw [if_pos h0, if_pos (show ({ S with frames := gs } : St).status = 0 from h0)]
      obtain ⟨gs', e, h'⟩ := ag_step hR hI h
      rw [e]
      exact ih (runInv_step hR hI h0) h'
    · rw [if_neg h0, if_neg (show ¬ ({ S with frames := gs } : St).status = 0 from h0)]
      exact ⟨gs, rfl, h⟩
end
end Go.Proofs.YtgdmdlkhnokieaaDoor

/- The document's way to what is live, register by register: plain mathematics. -/
namespace Go.Proofs.YtgdmdlkhnokieaaDoor
open Go Go.RowKit

/-- Marks at reached places alone from which a register is wanted. -/
structure LRow (P : List Fn) (f : Fn) (r : Nat) (s : List Bool) : Prop where
  len : s.length = f.code.length
  sound : ∀ q, s.getD q false = true → Way f 63 q ∧ LiveW P f r q
/-- Is a place to be marked, by what is marked? -/
def lrIs (P : List Fn) (f : Fn) (r : Nat) (s : List Bool) (q : Nat) : Bool := (rdMask P (insD f q)).testBit r || (!(setMask (insD f q)).testBit r && (behind (insD f q) q).any fun t => s.getD t false)
/-- In the midst of a round. -/
structure LRMid (P : List Fn) (f : Fn) (r : Nat) (s0 : List Bool) (k : Nat) (ag : Bool) (s : List Bool) : Prop where
  row : LRow P f r s
  few : unseen s + (if ag = true then 1 else 0) ≤ unseen s0
  same : ag = false → s = s0 ∧ ∀ q, q < k → Way f 63 q → s.getD q false = false → lrIs P f r s q = false
/-- Between rounds. -/
def LRLoops (P : List Fn) (f : Fn) (r : Nat) (ag : Bool) (s : List Bool) : Prop := LRow P f r s ∧ (ag = false → ∀ q, q < f.code.length → Way f 63 q → s.getD q false = false → lrIs P f r s q = false)
section
variable {P : List Fn} {f : Fn} {r : Nat}
theorem lr_first : LRLoops P f r true (List.replicate f.code.length false) := by
  refine ⟨⟨by simp, fun q hq => ?_⟩, fun h => by cases h⟩
  simp [List.getD, List.getElem?_replicate] at hq
  split at hq <;> simp at hq
theorem LRMid.start {s : List Bool} (h : LRow P f r s) : LRMid P f r s 0 false s := ⟨h, by simp, fun _ => ⟨rfl, fun q hq => by omega⟩⟩
theorem LRMid.next {s0 s : List Bool} {k : Nat} {ag : Bool} (h : LRMid P f r s0 k ag s) (hn : Way f 63 k → s.getD k false = false → lrIs P f r s k = false) : LRMid P f r s0 (k + 1) ag s := by
  refine ⟨h.row, h.few, fun e => ⟨(h.same e).1, fun q hq hw hs => ?_⟩⟩
  rcases Nat.lt_or_ge q k with hlt | hge
  · exact (h.same e).2 q hlt hw hs
  · obtain rfl : q = k := by omega
    exact hn hw hs
theorem LRMid.yes {s0 s : List Bool} {k : Nat} {ag : Bool} (h : LRMid P f r s0 k ag s) (hk : k < f.code.length) (hw : Way f 63 k) (hs : s.getD k false = false) (hi : lrIs P f r s k = true) : LRMid P f r s0 (k + 1) true (s.set k true) := by
  have hl := h.row.len
  refine ⟨⟨by simp [hl], fun q hq => ?_⟩, ?_, fun e => by cases e⟩
  · rw [bget_set _ _ _ _ (by omega)] at hq
    by_cases e : q = k
    · subst e
      refine ⟨hw, ?_⟩
      unfold lrIs at hi
      rw [Bool.or_eq_true, Bool.and_eq_true, List.any_eq_true] at hi
      rcases hi with hi | ⟨h1, t, ht, h2⟩
      · exact LiveW.read hk hi
      · exact LiveW.on hk (by simpa using h1) ht (h.row.sound t h2).2
    · rw [if_neg e] at hq; exact h.row.sound q hq
  · have := unseen_set s k (by omega) hs
    have h2 := h.few
    rw [if_pos rfl]
    cases ag <;> simp at h2 <;> omega
theorem LRMid.ends {s0 s : List Bool} {ag : Bool} (h : LRMid P f r s0 f.code.length ag s) : LRLoops P f r ag s := ⟨h.row, fun e => (h.same e).2⟩
theorem LRLoops.done {s : List Bool} (h : LRLoops P f r false s) (ok : FlowOk P f) : ∀ q, q < f.code.length → (s.getD q false = true ↔ Way f 63 q ∧ LiveW P f r q) := by
  intro q hq
  refine ⟨fun h1 => h.1.sound q h1, fun ⟨hw, hl⟩ => ?_⟩
  induction hl with
  | @read pc hp hr =>
    cases hs : s.getD pc false with
    | true => rfl
    | false =>
      have := h.2 rfl pc hp hw hs
      unfold lrIs at this
      rw [hr] at this; cases this
  | @on pc t hp hs ht hl ih =>
    have h1 := ok.on hp hw ht
    have h2 := ih h1.2 ⟨h1.1, hl⟩ h1.1
    cases hs2 : s.getD pc false with
    | true => rfl
    | false =>
      have := h.2 rfl pc hp hw hs2
      unfold lrIs at this
      rw [Bool.or_eq_false_iff, Bool.and_eq_false_iff] at this
      rcases this.2 with h3 | h3
      · rw [hs] at h3; cases h3
      · rw [List.any_eq_false] at h3
        exact absurd h2 (h3 t ht)
/-- Numbers of which so many bits are reckoned. -/
def OutL (P : List Fn) (f : Fn) (r q : Nat) (v : Int) : Prop := (¬ Way f 63 q ∧ v = -1) ∨ (Way f 63 q ∧ ∃ m : Nat, m < 2 ^ r ∧ v = m ∧ ∀ i, i < r → (m.testBit i = true ↔ LiveW P f i q))
theorem outL_yes {q : Nat} (h : Way f 63 q) : OutL P f 0 q 0 := Or.inr ⟨h, 0, by simp, rfl, fun i hi => by omega⟩
theorem outL_no {q : Nat} (h : ¬ Way f 63 q) : OutL P f 0 q (-1) := Or.inl ⟨h, rfl⟩
theorem outL_add {q : Nat} {v : Int} (h : OutL P f r q v) (hr : r < 12) (hw : Way f 63 q) (hn : LiveW P f r q) : OutL P f (r + 1) q (v + (2 ^ r : Nat)) ∧ 0 ≤ v ∧ v < 4096 := by
  rcases h with ⟨h, _⟩ | ⟨_, m, hm, rfl, hb⟩
  · exact absurd hw h
  · have hlt : m < 4096 := Nat.lt_of_lt_of_le hm (show 2 ^ r ≤ 2 ^ 12 from Nat.pow_le_pow_right (by decide) (by omega))
    have hz : m.testBit r = false := Nat.testBit_lt_two_pow hm
    have e := or_pow m r (by omega) hr hz
    refine ⟨Or.inr ⟨hw, m + 2 ^ r, ?_, by simp, fun i hi => ?_⟩, by omega, by omega⟩
    · rw [Nat.pow_succ]; omega
    · rw [← e, Nat.testBit_or, Nat.testBit_two_pow]
      by_cases hir : r = i
      · subst hir; simp [hz, hn]
      · simp [hir, hb i (by omega)]
theorem outL_same {q : Nat} {v : Int} (h : OutL P f r q v) (hn : Way f 63 q → ¬ LiveW P f r q) : OutL P f (r + 1) q v := by
  rcases h with h | ⟨hw, m, hm, rfl, hb⟩
  · exact Or.inl h
  · refine Or.inr ⟨hw, m, by rw [Nat.pow_succ]; omega, rfl, fun i hi => ?_⟩
    rcases Nat.lt_or_ge i r with hlt | hge
    · exact hb i hlt
    · obtain rfl : i = r := by omega
      rw [Nat.testBit_lt_two_pow hm]
      simp [hn hw]
/-- Of all places up to one a bit more. -/
def OutsL (P : List Fn) (f : Fn) (n r k : Nat) (O : List Int) : Prop := O.length = n ∧ ∀ q, q < n → OutL P f (if q < k then r + 1 else r) q (O.getD q 0)
theorem outsL_snoc {k : Nat} {O : List Int} {v : Int} (h : O.length = k ∧ ∀ q, q < k → OutL P f 0 q (O.getD q 0)) (hv : OutL P f 0 k v) : (O ++ [v]).length = k + 1 ∧ ∀ q, q < k + 1 → OutL P f 0 q ((O ++ [v]).getD q 0) := by
  refine ⟨by simp [h.1], fun q hq => ?_⟩
  rcases Nat.lt_or_ge q k with hlt | hge
  · have e : (O ++ [v]).getD q 0 = O.getD q 0 := by simp [List.getD, List.getElem?_append_left (show q < O.length by omega)]
    rw [e]; exact h.2 q hlt
  · obtain rfl : q = k := by omega
    have e : (O ++ [v]).getD q 0 = v := by simp [List.getD, ← h.1]
    rw [e]; exact hv
theorem outsL_set {n k : Nat} {O : List Int} {v : Int} (h : OutsL P f n r k O) (hk : k < n) (hv : OutL P f (r + 1) k v) : OutsL P f n r (k + 1) (O.set k v) := by
  refine ⟨by simp [h.1], fun q hq => ?_⟩
  have e : (O.set k v).getD q 0 = if q = k then v else O.getD q 0 := by
    rw [List.getD_eq_getElem?_getD, List.getElem?_set, List.getD_eq_getElem?_getD]
    by_cases h' : k = q
    · subst h'; simp [h.1, hk]
    · simp [h', Ne.symm h']
  rw [e]
  by_cases hqk : q = k
  · subst hqk; rw [if_pos rfl, if_pos (by omega)]; exact hv
  · rw [if_neg hqk]
    have := h.2 q hq
    by_cases hlt : q < k
    · rw [if_pos (by omega)]; rw [if_pos hlt] at this; exact this
    · rw [if_neg (by omega)]; rw [if_neg hlt] at this; exact this
theorem outsL_same {n k : Nat} {O : List Int} (h : OutsL P f n r k O) (hk : k < n) (hn : Way f 63 k → ¬ LiveW P f r k) : OutsL P f n r (k + 1) O := by
  refine ⟨h.1, fun q hq => ?_⟩
  have := h.2 q hq
  by_cases hqk : q = k
  · subst hqk; rw [if_pos (by omega)]; rw [if_neg (by omega)] at this; exact outL_same this hn
  · by_cases hlt : q < k
    · rw [if_pos (by omega)]; rw [if_pos hlt] at this; exact this
    · rw [if_neg (by omega)]; rw [if_neg hlt] at this; exact this
theorem outsL_next {n : Nat} {O : List Int} (h : OutsL P f n r n O) : OutsL P f n (r + 1) 0 O :=
  ⟨h.1, fun q hq => by have := h.2 q hq; rw [if_pos hq] at this; rw [if_neg (by omega)]; exact this⟩
theorem outsL_spec {O : List Int} (h : OutsL P f f.code.length 12 0 O) : LiveSpec P f O :=
  ⟨h.1, fun q hq => by
    have := h.2 q hq
    rw [if_neg (by omega)] at this
    rcases this with h | ⟨hw, m, hm, e, hb⟩
    · exact Or.inl h
    · exact Or.inr ⟨hw, m, hm, e, hb⟩⟩
theorem spec_unique {L L' : List Int} (h : LiveSpec P f L) (h' : LiveSpec P f L') : L = L' := by
  refine List.ext_getElem (h.1.trans h'.1.symm) fun q h1 h2 => ?_
  have hq : q < f.code.length := by rw [← h.1]; exact h1
  have e1 : L.getD q 0 = L[q] := by simp [List.getD, h1]
  have e2 : L'.getD q 0 = L'[q] := by simp [List.getD, h2]
  rw [← e1, ← e2]
  rcases h.2 q hq with ⟨a, e3⟩ | ⟨a, m, hm, e3, hb⟩ <;> rcases h'.2 q hq with ⟨a', e4⟩ | ⟨a', m', hm', e4, hb'⟩
  · rw [e3, e4]
  · exact absurd a' a
  · exact absurd a a'
  · rw [e3, e4]
    congr 1
    apply Nat.eq_of_testBit_eq
    intro r
    rcases Nat.lt_or_ge r 12 with hr | hr
    · rw [Bool.eq_iff_iff, hb r hr, hb' r hr]
    · rw [Nat.testBit_lt_two_pow (Nat.lt_of_lt_of_le hm (Nat.pow_le_pow_right (n := 2) (by decide) hr)), Nat.testBit_lt_two_pow (Nat.lt_of_lt_of_le hm' (Nat.pow_le_pow_right (n := 2) (by decide) hr))]
end
end Go.Proofs.YtgdmdlkhnokieaaDoor

/- Contracts of flow.wanted, flow.touched and flow.live: what is live ahead of each instruction. -/
namespace Go.Proofs.YtgdmdlkhnokieaaDoor
open Go Go.RowKit

/-- A row of numbers that the call has made. -/
abbrev IntRow (w : World) (g n : Nat) (l : List Int) : Prop := w.ownsRow 0 3 1 (.slice (some ⟨g, 0, none⟩) n n) n (i64s l)
theorem int_cell {w : World} {g n : Nat} {l : List Int} (h : IntRow w g n l) (hl : l.length = n) (i : Nat) (hi : i < n) : w.cell? ⟨g, i, none⟩ = some (.int .i64 (l.getD i 0)) := by
  rw [h.cellAt i (by omega)]
  simp [i64s, List.getD, show i < l.length by omega]
theorem int_store {w : World} {g n : Nat} {l : List Int} (h : IntRow w g n l) (i : Nat) (z : Int) : IntRow (w.setCell ⟨g, i, none⟩ (.int .i64 z)) g n (l.set i z) ∧ w.grownBy (w.setCell ⟨g, i, none⟩ (.int .i64 z)) (some g) := by
  have := h.stored i (.int .i64 z)
  have e : (i64s l).set i (.int .i64 z) = i64s (l.set i z) := by simp [i64s, List.map_set]
  rw [e] at this
  exact this
theorem int_vals {w : World} {g n : Nat} {l : List Int} (h : IntRow w g n l) (hl : l.length = n) (hm : n ≤ maxLen) : IntsVal w (.slice (some ⟨g, 0, none⟩) n n) l := by
  refine ⟨_, g, 0, n, n, rfl, hl, fun _ => rfl, fun k hk => ?_, ⟨Nat.le_refl _, fun e => by cases e⟩, hm⟩
  have := int_cell h hl k (by omega)
  rw [Nat.zero_add, this]
  simp [List.getD, hk]

theorem want_take (L : List Int) (ts : List Nat) (e : Nat) (h : e < ts.length) : wantL L (ts.take (e + 1)) = wantL L (ts.take e) ||| mkL L ts[e] := by
  unfold wantL
  rw [List.take_add_one, List.getElem?_eq_getElem h, List.foldl_append]
  rfl
theorem want_take_lt (L : List Int) (ts : List Nat) (h : ∀ t ∈ ts, mkL L t < 4096) (e : Nat) : wantL L (ts.take e) < 4096 := want_lt L _ fun t ht => h t (List.mem_of_mem_take ht)

def rdL (P : List Fn) (f : Fn) : List Int := f.code.map fun x => (rdMask P x : Int)
def setL (f : Fn) : List Int := f.code.map fun x => (setMask x : Int)
theorem rdL_len (P : List Fn) (f : Fn) : (rdL P f).length = f.code.length := by simp [rdL]
theorem setL_len (f : Fn) : (setL f).length = f.code.length := by simp [setL]
theorem take_snoc {l : List Int} {q : Nat} {z : Int} (h : q < l.length) (hz : l[q] = z) : l.take (q + 1) = l.take q ++ [z] := by
  rw [List.take_add_one, List.getElem?_eq_getElem h, hz]; rfl

theorem prog_codeF {w : World} {v : Value} {P : List Fn} (hv : ProgVal w v P) {k : Nat} (hk : k < P.length) (h1 : 1 ≤ P[k].code.length) :
    ∃ b off cap b2 off2 cap2, v = .slice (some ⟨b, off, none⟩) P.length cap ∧ cap ≤ 9223372036854775807 ∧ P.length ≤ cap ∧ cap2 ≤ 9223372036854775807 ∧ P[k].code.length ≤ cap2 ∧
      ∀ W, Below w.heap.size w W → W.cell? ⟨b, off + k * 3 + 2, none⟩ = some (.slice (some ⟨b2, off2, none⟩) P[k].code.length cap2) ∧ ∀ q, q < P[k].code.length → insAt W b2 (off2 + q * 5) (insD P[k] q) := by
  obtain ⟨b, off, cap, u, rfl, d0, d1, d2, hcv, hm, hcc⟩ := prog_fn hv hk
  obtain ⟨ao2, b2, off2, n2, cap2, rfl, ⟨hlen2, haddr2, hat2⟩, hcap2, hmx2⟩ := hcv
  subst hlen2
  obtain rfl := haddr2 (by omega)
  refine ⟨b, off, cap, b2, off2, cap2, rfl, hm, hcc, by simpa [maxLen] using hmx2, hcap2.1, fun W hW => ⟨keeps_below hW _ _ d2, fun q hq => ?_⟩⟩
  rw [insD_eq hq]
  exact (hat2 q hq).keeps (keeps_below hW)

end Go.Proofs.YtgdmdlkhnokieaaDoor

/- Contracts of flow.check and flow.Live. -/
namespace Go.Proofs.YtgdmdlkhnokieaaDoor
open Go Go.RowKit

/-- What all calls of flow refuse. -/
def FlowErr (P : List Fn) (fn E : Int) : Prop := (E ≠ 0 ∧ ProofAns P E) ∨ (ProofAns P 0 ∧ E = if 0 ≤ fn ∧ fn < P.length then 0 else 2)
theorem flowErr_right {P : List Fn} {fn E : Int} (h : FlowErr P fn E) (hR : ProofAns P 0) (h0 : 0 ≤ fn) (h1 : fn < P.length) : E = 0 := by
  rcases h with ⟨hn, ha⟩ | ⟨_, e⟩
  · exact absurd (proofAns_unique ha hR) hn
  · rw [e, if_pos ⟨h0, h1⟩]

set_option maxRecDepth 100000 in
theorem flowCheck_any (P : List Fn) (v : Value) (fn : Int) (w : World) (ht : TabOk w) (hc : CallOk w) (hv : ProgVal w v P) :
    Calls Tryd.prog 24 #[.agg #[v], .int .i64 fn] w fun e w' => ∃ E, e = .returned (.int .i64 E) ∧ FlowErr P fn E ∧ Below w.heap.size w w' := by
  have hbx : ∀ o, Below w.heap.size w (w.alloc o) := fun o => (Below.refl _ _).alloc (Nat.le_refl _) _
  have hC := fun o => pcheck_any P v (w.alloc o) (ht.below (hbx o)) (hc.below (hbx o)) (hv.keeps (keeps_below (hbx o)))
  obtain ⟨ao, b, off, n, cap, rfl, hin, hcap, hmax⟩ := hv
  obtain ⟨hlen, _, _⟩ := hin
  unfold maxLen at hmax
  have HLEN : Hid (P.length = n) := hlen
  clear ht hbx hlen hc
  go_enter Tryd.func24, Tryd.ntmps24
  go_upto_region 2 with (go_at_call 13; refine (hC _).mono ?_; rintro e w1 ⟨E, rfl, hE, hb1⟩; have k0 := keeps_below hb1 ⟨w.heap.size, 0, none⟩ (.slice ao n cap) (by simp))
  have HB : Hid (Below w.heap.size w w1) := ((Below.refl _ _).alloc (Nat.le_refl _) _).trans (hb1.mono (by simp))
  have HE : Hid (ProofAns P E) := hE
  clear hE hb1 hC
  by_cases h0 : E = 0
  · subst h0
    by_cases h1 : 0 ≤ fn
    · by_cases h2 : fn < n
      · go_wp2
        go_ret
        exact ⟨0, rfl, Or.inr ⟨HE.out, by rw [if_pos (by have := HLEN.out; omega)]⟩, HB.out⟩
      · have h2' : decide ((n : Int) ≤ fn) = true := by simp; omega
        go_wp2
        go_ret
        exact ⟨2, rfl, Or.inr ⟨HE.out, by rw [if_neg (by have := HLEN.out; omega)]⟩, HB.out⟩
    · have h1' : decide (fn < 0) = true := by simp; omega
      go_wp2
      go_ret
      exact ⟨2, rfl, Or.inr ⟨HE.out, by rw [if_neg (by omega)]⟩, HB.out⟩
  · have h0' : (E != 0) = true := by simpa using h0
    have H0 : Hid (E ≠ 0) := h0
    clear h0
    go_wp2
    go_ret
    exact ⟨E, rfl, Or.inl ⟨H0.out, HE.out⟩, HB.out⟩

end Go.Proofs.YtgdmdlkhnokieaaDoor

/- Contracts of the document's answer to P7.4: inList and LiveOf of package tierlineref; and flow.Live at every argument. -/
namespace Go.Proofs.YtgdmdlkhnokieaaDoor
open Go Go.RowKit

/-- What flow.Live answers. -/
def LiveAns (P : List Fn) (fn E : Int) (A : List Int) : Prop :=
  (E ≠ 0 ∧ ProofAns P E ∧ A = []) ∨ (ProofAns P 0 ∧ ¬ (0 ≤ fn ∧ fn < P.length) ∧ E = 2 ∧ A = []) ∨ (ProofAns P 0 ∧ E = 0 ∧ ∃ k : Nat, fn = k ∧ ∃ hk : k < P.length, LiveSpec P P[k] A)
theorem liveAns_unique {P : List Fn} {fn E E' : Int} {A A' : List Int} (h : LiveAns P fn E A) (h' : LiveAns P fn E' A') : E = E' ∧ A = A' := by
  rcases h with ⟨h0, h1, rfl⟩ | ⟨h1, h2, rfl, rfl⟩ | ⟨h1, rfl, k, rfl, hk, hs⟩ <;> rcases h' with ⟨g0, g1, rfl⟩ | ⟨g1, g2, rfl, rfl⟩ | ⟨g1, rfl, k', g2, hk', hs'⟩
  · exact ⟨proofAns_unique h1 g1, rfl⟩
  · exact absurd (proofAns_unique h1 g1) h0
  · exact absurd (proofAns_unique h1 g1) h0
  · exact absurd (proofAns_unique g1 h1) g0
  · exact ⟨rfl, rfl⟩
  · exact absurd (by omega) h2
  · exact absurd (proofAns_unique g1 h1) g0
  · exact absurd (by omega) g2
  · obtain rfl : k = k' := by omega
    exact ⟨rfl, spec_unique hs hs'⟩
def LivePost (P : List Fn) (fn : Int) (w : World) (e : Ending) (w' : World) : Prop :=
  ∃ v' E A, e = .returned (.tuple #[v', .int .i64 E]) ∧ LiveAns P fn E A ∧ IntsVal w' v' A ∧ Below w.heap.size w w'

theorem reads_bit {P : List Fn} {x : Ins} (hx : InsOk P x) (r : Nat) : (readsL P x).contains (r : Int) = (rdMask P x).testBit r := by
  have h1 := hx.a0
  have h3 := hx.b0
  obtain ⟨ka, hka⟩ := Int.eq_ofNat_of_zero_le h1
  obtain ⟨kb, hkb⟩ := Int.eq_ofNat_of_zero_le h3
  unfold readsL rdMask
  rw [hka, hkb, Int.toNat_natCast, Int.toNat_natCast, Nat.testBit_or, Bool.eq_iff_iff, List.contains_iff_mem, List.mem_append, Bool.or_eq_true]
  have e : ∀ (c : Bool) (k : Nat), ((r : Int) ∈ (if c = true then [(k : Int)] else [])) ↔ (if c = true then 2 ^ k else 0).testBit r = true := fun c k => by
    cases c
    · simp
    · simp only [if_true, List.mem_singleton, Nat.testBit_two_pow, decide_eq_true_eq]; omega
  exact or_congr (e _ _) (e _ _)
theorem sets_bit {P : List Fn} {x : Ins} (hx : InsOk P x) (r : Nat) : (setMask x).testBit r = (setsB x.op && decide (x.dst = (r : Int))) := by
  obtain ⟨kd, hkd⟩ := Int.eq_ofNat_of_zero_le hx.dst0
  unfold setMask
  rw [hkd, Int.toNat_natCast]
  cases setsB x.op
  · simp
  · simp only [if_true, Nat.testBit_two_pow, Bool.true_and]
    rw [Bool.eq_iff_iff, decide_eq_true_eq, decide_eq_true_eq]; omega
end Go.Proofs.YtgdmdlkhnokieaaDoor
