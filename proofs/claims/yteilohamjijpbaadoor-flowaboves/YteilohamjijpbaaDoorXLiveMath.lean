/- What is live ahead of an instruction: plain mathematics. -/
import Derived.Test.YteilohamjijpbaaDoorGroupB
namespace Go.Proofs.YteilohamjijpbaaDoor
open Go Go.RowKit

/-- From a place there is a way to an instruction that reads a register, ahead of which none sets it. -/
inductive LiveW (P : List Fn) (f : Fn) (r : Nat) : Nat → Prop
  | read {pc : Nat} (h : pc < f.code.length) (hr : (rdMask P (insD f pc)).testBit r = true) : LiveW P f r pc
  | on {pc to : Nat} (h : pc < f.code.length) (hs : (setMask (insD f pc)).testBit r = false) (ht : to ∈ behind (insD f pc) pc) (hw : LiveW P f r to) : LiveW P f r pc
/-- What P7.4 says, place by place. -/
def LiveSpec (P : List Fn) (f : Fn) (L : List Int) : Prop :=
  L.length = f.code.length ∧ ∀ q, q < f.code.length → (¬ Way f 63 q ∧ L.getD q 0 = -1) ∨ (Way f 63 q ∧ ∃ m : Nat, m < 4096 ∧ L.getD q 0 = m ∧ ∀ r, r < 12 → (m.testBit r = true ↔ LiveW P f r q))

/-- Bits of one number that another one has not. -/
def lessM (m n : Nat) : Nat := (bvn m &&& ~~~ bvn n).toNat
theorem lessM_le (m n : Nat) (h : m < 65536) : lessM m n ≤ m := by
  have h1 : (bvn m).toNat = m := by simp [bvn]; omega
  have h2 := and_le (bvn m) (~~~ bvn n)
  unfold lessM
  omega
theorem lessM_bit (m n r : Nat) (h : m < 65536) : (lessM m n).testBit r = (m.testBit r && !n.testBit r) := by
  by_cases hr : r < 64
  · unfold lessM
    rw [BitVec.testBit_toNat, BitVec.getLsbD_and, BitVec.getLsbD_not, bvn_bit _ _ hr, bvn_bit _ _ hr]
    simp [hr]
  · have h1 : m < 2 ^ r := Nat.lt_of_lt_of_le h (Nat.le_trans (by decide : 65536 ≤ 2 ^ 64) (Nat.pow_le_pow_right (by decide) (by omega)))
    rw [Nat.testBit_lt_two_pow (Nat.lt_of_le_of_lt (lessM_le m n h) h1), Nat.testBit_lt_two_pow h1]
    rfl
theorem lessM_int (m n : Nat) (hm : m < 65536) (hn : n < 65536) : bits .andNot .i64 (m : Int) (n : Int) = ((lessM m n : Nat) : Int) := by
  rw [← bvn_toInt m hm, ← bvn_toInt n hn, bits_andNot_bv]
  have h1 := lessM_le m n hm
  rw [BitVec.toInt_eq_toNat_of_lt (by show 2 * lessM m n < _; omega)]
  rfl

def mkL (L : List Int) (q : Nat) : Nat := (L.getD q 0).toNat
def wantL (L : List Int) (ts : List Nat) : Nat := ts.foldl (fun m t => m ||| mkL L t) 0
theorem want_bit' (L : List Int) (r : Nat) : ∀ (ts : List Nat) (m : Nat), (ts.foldl (fun m t => m ||| mkL L t) m).testBit r = true ↔ (m.testBit r = true ∨ ∃ t ∈ ts, (mkL L t).testBit r = true)
  | [], m => by simp
  | t :: ts, m => by
    rw [List.foldl_cons, want_bit' L r ts, Nat.testBit_or, Bool.or_eq_true]
    simp only [List.mem_cons, exists_eq_or_imp, or_assoc]
theorem want_bit (L : List Int) (ts : List Nat) (r : Nat) : (wantL L ts).testBit r = true ↔ ∃ t ∈ ts, (mkL L t).testBit r = true := by
  unfold wantL; rw [want_bit']; simp
theorem want_lt' (L : List Int) : ∀ (ts : List Nat) (m : Nat), m < 4096 → (∀ t ∈ ts, mkL L t < 4096) → ts.foldl (fun m t => m ||| mkL L t) m < 4096
  | [], m, h, _ => h
  | t :: ts, m, h, ht => want_lt' L ts _ (Nat.or_lt_two_pow (n := 12) h (ht t (by simp))) (fun u hu => ht u (by simp [hu]))
theorem want_lt (L : List Int) (ts : List Nat) (h : ∀ t ∈ ts, mkL L t < 4096) : wantL L ts < 4096 := want_lt' L ts 0 (by decide) h
/-- What is wanted ahead of an instruction, by what is wanted behind it. -/
def aheadL (P : List Fn) (f : Fn) (L : List Int) (pc : Nat) : Nat := rdMask P (insD f pc) ||| lessM (wantL L (behind (insD f pc) pc)) (setMask (insD f pc))
theorem rdMask_lt12 {P : List Fn} {x : Ins} (hx : InsOk P x) : rdMask P x < 4096 := by
  unfold rdMask
  have h1 : 2 ^ x.a.toNat < 4096 := Nat.lt_of_le_of_lt (Nat.pow_le_pow_right (by decide) (show x.a.toNat ≤ 11 by have := hx.a0; have := hx.a1; omega)) (by decide)
  have h2 : 2 ^ x.b.toNat < 4096 := Nat.lt_of_le_of_lt (Nat.pow_le_pow_right (by decide) (show x.b.toNat ≤ 11 by have := hx.b0; have := hx.b1; omega)) (by decide)
  exact Nat.or_lt_two_pow (n := 12) (by split <;> omega) (by split <;> omega)

/-- What holds all along of the places' numbers. -/
structure LInv (P : List Fn) (f : Fn) (L : List Int) : Prop where
  len : L.length = f.code.length
  no : ∀ q, q < f.code.length → ¬ Way f 63 q → L.getD q 0 = -1
  yes : ∀ q, q < f.code.length → Way f 63 q → 0 ≤ L.getD q 0 ∧ L.getD q 0 < 4096
  sound : ∀ q, q < f.code.length → Way f 63 q → ∀ r, (mkL L q).testBit r = true → LiveW P f r q
  grows : ∀ q, q < f.code.length → Way f 63 q → ∀ r, (mkL L q).testBit r = true → (aheadL P f L q).testBit r = true
/-- A function of a right program, as far as it is asked here. -/
structure FlowOk (P : List Fn) (f : Fn) : Prop where
  ok : FnOk f
  ins : ∀ x ∈ f.code, InsOk P x ∧ (x.op = 15 ∨ x.op = 16 → 0 ≤ x.imm)
  fin : ¬ Way f 63 f.code.length
theorem FlowOk.insD {P : List Fn} {f : Fn} (h : FlowOk P f) {pc : Nat} (hp : pc < f.code.length) : InsOk P (insD f pc) ∧ ((insD f pc).op = 15 ∨ (insD f pc).op = 16 → 0 ≤ (insD f pc).imm) := by
  rw [insD_eq hp]; exact h.ins _ (List.getElem_mem hp)
/-- Behind a place that is reached are such alone. -/
theorem FlowOk.on {P : List Fn} {f : Fn} (h : FlowOk P f) {pc t : Nat} (hp : pc < f.code.length) (hw : Way f 63 pc) (ht : t ∈ behind (Go.Proofs.YteilohamjijpbaaDoor.insD f pc) pc) : Way f 63 t ∧ t < f.code.length := by
  have hx := (h.insD hp).1
  have hw2 : Way f 63 t := Way.step hp hw (set_high _ hx.dst0 hx.dst1) ht
  refine ⟨hw2, ?_⟩
  have h1 := h.ok.goes pc hp t ht
  rcases Nat.lt_or_ge t f.code.length with h2 | h2
  · exact h2
  · obtain rfl : t = f.code.length := by omega
    exact absurd hw2 h.fin
theorem flowOk_of {P : List Fn} (h : ProofAns P 0) {f : Fn} (hf : f ∈ P) : FlowOk P f := by
  obtain ⟨ok, hi⟩ := fnOk_of (right_code h) hf
  obtain ⟨L, _, _, hn⟩ := right_fn h hf
  exact ⟨ok, hi, hn⟩
theorem LInv.mk_eq {P : List Fn} {f : Fn} {L : List Int} (h : LInv P f L) {q : Nat} (hq : q < f.code.length) (hw : Way f 63 q) : L.getD q 0 = (mkL L q : Int) ∧ mkL L q < 4096 := by
  have := h.yes q hq hw
  unfold mkL
  omega
theorem LInv.want_lt {P : List Fn} {f : Fn} {L : List Int} (h : LInv P f L) (ok : FlowOk P f) {pc : Nat} (hp : pc < f.code.length) (hw : Way f 63 pc) : wantL L (behind (insD f pc) pc) < 4096 :=
  Go.Proofs.YteilohamjijpbaaDoor.want_lt L _ fun _ ht => (h.mk_eq (ok.on hp hw ht).2 (ok.on hp hw ht).1).2
theorem ahead_bit (P : List Fn) (f : Fn) (L : List Int) (pc r : Nat) (h : wantL L (behind (insD f pc) pc) < 65536) :
    (aheadL P f L pc).testBit r = true ↔ ((rdMask P (insD f pc)).testBit r = true ∨ ((setMask (insD f pc)).testBit r = false ∧ ∃ t ∈ behind (insD f pc) pc, (mkL L t).testBit r = true)) := by
  unfold aheadL
  rw [Nat.testBit_or, Bool.or_eq_true, lessM_bit _ _ _ h, Bool.and_eq_true, want_bit]
  simp only [Bool.not_eq_true']
  constructor
  · rintro (h | ⟨h1, h2⟩)
    · exact Or.inl h
    · exact Or.inr ⟨h2, h1⟩
  · rintro (h | ⟨h1, h2⟩)
    · exact Or.inl h
    · exact Or.inr ⟨h2, h1⟩
theorem LInv.ahead_lt {P : List Fn} {f : Fn} {L : List Int} (h : LInv P f L) (ok : FlowOk P f) {pc : Nat} (hp : pc < f.code.length) (hw : Way f 63 pc) : aheadL P f L pc < 4096 := by
  have h1 := h.want_lt ok hp hw
  exact Nat.or_lt_two_pow (n := 12) (rdMask_lt12 (ok.insD hp).1) (Nat.lt_of_le_of_lt (lessM_le _ _ (by omega)) h1)

theorem sub_le {m n : Nat} (h : ∀ r, m.testBit r = true → n.testBit r = true) : m ≤ n := by
  have e : m &&& n = m := Nat.eq_of_testBit_eq fun r => by
    rw [Nat.testBit_and]
    cases hm : m.testBit r
    · rfl
    · rw [h r hm]; rfl
  rw [← e]
  exact Nat.and_le_right
theorem igetD_set (l : List Int) (i q : Nat) (v : Int) (hi : i < l.length) : (l.set i v).getD q 0 = if q = i then v else l.getD q 0 := by
  rw [List.getD_eq_getElem?_getD, List.getElem?_set, List.getD_eq_getElem?_getD]
  by_cases h : i = q
  · subst h; simp [hi]
  · simp [h, Ne.symm h]
def totL (L : List Int) : Nat := (L.map fun z => 4096 - z.toNat).sum
theorem totL_set (l : List Int) (i : Nat) (v : Int) (hi : i < l.length) : totL (l.set i v) + (4096 - mkL l i) = totL l + (4096 - v.toNat) := by
  induction l generalizing i with
  | nil => simp at hi
  | cons a l ih =>
    cases i with
    | zero => simp [totL, mkL]; omega
    | succ i =>
      have := ih i (by simpa using hi)
      simp [totL, mkL] at this ⊢
      omega

/-- In the midst of a round, which goes from the last place to the first: so many are still to be done. -/
structure LMid (P : List Fn) (f : Fn) (L0 : List Int) (k : Nat) (again : Bool) (L : List Int) : Prop where
  inv : LInv P f L
  less : again = true → totL L < totL L0
  same : again = false → L = L0 ∧ ∀ q, k ≤ q → q < f.code.length → Way f 63 q → aheadL P f L q = mkL L q
theorem LMid.start {P : List Fn} {f : Fn} {L : List Int} (h : LInv P f L) : LMid P f L f.code.length false L :=
  ⟨h, fun e => (by cases e), fun _ => ⟨rfl, fun q h1 h2 => by omega⟩⟩
theorem LMid.skip {P : List Fn} {f : Fn} {L0 L : List Int} {k : Nat} {again : Bool} (h : LMid P f L0 (k + 1) again L) (hn : ¬ Way f 63 k) : LMid P f L0 k again L :=
  ⟨h.inv, h.less, fun e => ⟨(h.same e).1, fun q h1 h2 hw => by
    rcases Nat.lt_or_ge k q with h3 | h3
    · exact (h.same e).2 q h3 h2 hw
    · obtain rfl : q = k := by omega
      exact absurd hw hn⟩⟩
theorem LMid.step {P : List Fn} {f : Fn} {L0 L : List Int} {k : Nat} {again : Bool} (h : LMid P f L0 (k + 1) again L) (ok : FlowOk P f) (hk : k < f.code.length) (hw : Way f 63 k) :
    LMid P f L0 k (again || (aheadL P f L k != mkL L k)) (L.set k (aheadL P f L k : Int)) := by
  have hi := h.inv
  have hkl : k < L.length := by rw [hi.len]; exact hk
  have hlt := hi.ahead_lt ok hk hw
  have hmk : ∀ q, mkL (L.set k (aheadL P f L k : Int)) q = if q = k then aheadL P f L k else mkL L q := by
    intro q
    unfold mkL
    rw [igetD_set _ _ _ _ hkl]
    split <;> simp
  have hup : ∀ q r, q < f.code.length → Way f 63 q → (mkL L q).testBit r = true → (mkL (L.set k (aheadL P f L k : Int)) q).testBit r = true := by
    intro q r hq hwq hb
    rw [hmk]
    split
    · rename_i e; subst e; exact hi.grows q hq hwq r hb
    · exact hb
  have hwl : ∀ q, q < f.code.length → Way f 63 q → wantL (L.set k (aheadL P f L k : Int)) (behind (insD f q) q) < 65536 := by
    intro q hq hwq
    refine Nat.lt_trans (want_lt _ _ fun t ht => ?_) (by decide : 4096 < 65536)
    obtain ⟨t1, t2⟩ := ok.on hq hwq ht
    rw [hmk]
    split
    · exact hlt
    · exact (hi.mk_eq t2 t1).2
  have hmono : ∀ q r, q < f.code.length → Way f 63 q → (aheadL P f L q).testBit r = true → (aheadL P f (L.set k (aheadL P f L k : Int)) q).testBit r = true := by
    intro q r hq hwq hb
    rw [ahead_bit _ _ _ _ _ (Nat.lt_trans (hi.want_lt ok hq hwq) (by decide : 4096 < 65536))] at hb
    rw [ahead_bit _ _ _ _ _ (hwl q hq hwq)]
    rcases hb with hb | ⟨h1, t, ht, hb⟩
    · exact Or.inl hb
    · obtain ⟨t1, t2⟩ := ok.on hq hwq ht
      exact Or.inr ⟨h1, t, ht, hup t r t2 t1 hb⟩
  have hinv : LInv P f (L.set k (aheadL P f L k : Int)) := by
    refine ⟨by simp [hi.len], fun q hq hn => ?_, fun q hq hwq => ?_, fun q hq hwq r hb => ?_, fun q hq hwq r hb => ?_⟩
    · rw [igetD_set _ _ _ _ hkl, if_neg (fun e : q = k => hn (by rw [e]; exact hw))]
      exact hi.no q hq hn
    · rw [igetD_set _ _ _ _ hkl]
      split
      · omega
      · exact hi.yes q hq hwq
    · rw [hmk] at hb
      split at hb
      · rename_i e
        subst e
        rw [ahead_bit _ _ _ _ _ (Nat.lt_trans (hi.want_lt ok hq hwq) (by decide : 4096 < 65536))] at hb
        rcases hb with hb | ⟨h1, t, ht, hb⟩
        · exact LiveW.read hq hb
        · obtain ⟨t1, t2⟩ := ok.on hq hwq ht
          exact LiveW.on hq h1 ht (hi.sound t t2 t1 r hb)
      · exact hi.sound q hq hwq r hb
    · rw [hmk] at hb
      split at hb
      · rename_i e; subst e; exact hmono q r hq hwq hb
      · exact hmono q r hq hwq (hi.grows q hq hwq r hb)
  have hset := totL_set L k (aheadL P f L k : Int) hkl
  have hge : mkL L k ≤ aheadL P f L k := sub_le fun r hb => hi.grows k hk hw r hb
  have hml := (hi.mk_eq hk hw).2
  simp only [Int.toNat_natCast] at hset
  refine ⟨hinv, fun e => ?_, fun e => ?_⟩
  · cases ha : again
    · rw [ha, Bool.false_or] at e
      have hne : aheadL P f L k ≠ mkL L k := by simpa using e
      obtain ⟨rfl, _⟩ := h.same ha
      omega
    · have := h.less ha
      omega
  · simp only [Bool.or_eq_false_iff] at e
    obtain ⟨rfl, h2⟩ := h.same e.1
    have he : aheadL P f L k = mkL L k := by simpa using e.2
    have hL : L.set k (aheadL P f L k : Int) = L := by
      rw [he, ← (hi.mk_eq hk hw).1, List.getD_eq_getElem?_getD, List.getElem?_eq_getElem hkl]
      exact List.set_getElem_self hkl
    rw [hL]
    refine ⟨rfl, fun q h1 h3 hwq => ?_⟩
    rcases Nat.lt_or_ge k q with h4 | h4
    · exact h2 q h4 h3 hwq
    · obtain rfl : q = k := by omega
      exact he
/-- What holds ahead of each round. -/
structure LLoops (P : List Fn) (f : Fn) (again : Bool) (L : List Int) : Prop where
  inv : LInv P f L
  closed : again = false → ∀ q, q < f.code.length → Way f 63 q → aheadL P f L q = mkL L q
theorem LLoops.next {P : List Fn} {f : Fn} {L L' : List Int} {again' : Bool} (m : LMid P f L 0 again' L') :
    LLoops P f again' L' ∧ totL L' + (if again' = true then 1 else 0) < totL L + 1 := by
  refine ⟨⟨m.inv, fun ha q h1 h2 => (m.same ha).2 q (Nat.zero_le _) h1 h2⟩, ?_⟩
  cases again' with
  | false => obtain ⟨rfl, _⟩ := m.same rfl; simp
  | true => have := m.less rfl; simp; omega
theorem LLoops.spec {P : List Fn} {f : Fn} (ok : FlowOk P f) {L : List Int} (h : LLoops P f false L) : LiveSpec P f L := by
  refine ⟨h.inv.len, fun q hq => ?_⟩
  by_cases hw : Way f 63 q
  · refine Or.inr ⟨hw, mkL L q, (h.inv.mk_eq hq hw).2, (h.inv.mk_eq hq hw).1, fun r _ => ⟨h.inv.sound q hq hw r, fun hl => ?_⟩⟩
    clear hq
    induction hl with
    | @read pc hp hr =>
      rw [← h.closed rfl pc hp hw, ahead_bit _ _ _ _ _ (Nat.lt_trans (h.inv.want_lt ok hp hw) (by decide : 4096 < 65536))]
      exact Or.inl hr
    | @on pc to hp hs ht _ ih =>
      rw [← h.closed rfl pc hp hw, ahead_bit _ _ _ _ _ (Nat.lt_trans (h.inv.want_lt ok hp hw) (by decide : 4096 < 65536))]
      exact Or.inr ⟨hs, to, ht, ih (ok.on hp hw ht).1⟩
  · exact Or.inl ⟨hw, h.inv.no q hq hw⟩
/-- Where a loop begins: nothing is live yet. -/
theorem LLoops.start {P : List Fn} {f : Fn} {L : List Int} (hl : L.length = f.code.length) (hn : ∀ q, q < f.code.length → ¬ Way f 63 q → L.getD q 0 = -1) (hy : ∀ q, q < f.code.length → Way f 63 q → L.getD q 0 = 0) : LLoops P f true L :=
  have hz : ∀ q, q < f.code.length → Way f 63 q → ∀ r, (mkL L q).testBit r = true → False := fun q hq hw r hb => by
    unfold mkL at hb
    rw [hy q hq hw] at hb
    simp at hb
  ⟨⟨hl, hn, fun q hq hw => (by rw [hy q hq hw]; omega), fun q hq hw r hb => (hz q hq hw r hb).elim, fun q hq hw r hb => (hz q hq hw r hb).elim⟩, fun e => (by cases e)⟩

/-- What is live is surely set. -/
theorem live_sure {P : List Fn} {f : Fn} (ok : FlowOk P f) (hR : ∀ q, q < f.code.length → Way f 63 q → ∀ r, r < 12 → (rdMask P (insD f q)).testBit r = true → ¬ Way f r q) {r : Nat} (hr : r < 12) {q : Nat} (h : LiveW P f r q) : Way f 63 q → ¬ Way f r q := by
  induction h with
  | read hp hb => exact fun hw => hR _ hp hw r hr hb
  | on hp hs ht _ ih => exact fun hw hw2 => ih (ok.on hp hw ht).1 (Way.step hp hw2 hs ht)
/-- A right program's function reads nothing that is not surely set. -/
theorem right_reads {P : List Fn} (h : ProofAns P 0) {f : Fn} (hf : f ∈ P) : ∀ q, q < f.code.length → Way f 63 q → ∀ r, r < 12 → (rdMask P (insD f q)).testBit r = true → ¬ Way f r q := by
  obtain ⟨L, hL, hb, _⟩ := right_fn h hf
  intro q hq hw r hr hbit
  rcases hL.2 q (by omega) with ⟨hn, _⟩ | ⟨_, m, hm, e, hm2⟩
  · exact absurd hw hn
  · refine (hm2 r hr).1 ?_
    have h1 := hb q hq
    unfold badB at h1
    rw [e] at h1
    simp only [Int.toNat_natCast, Int.natCast_nonneg, decide_true, Bool.true_and] at h1
    rw [rdMask_bit, List.any_eq_true] at hbit
    obtain ⟨s, hs, he⟩ := hbit
    have h2 := List.any_eq_false.1 h1 s hs
    rw [hasB_bit, show s.toNat = r by simpa using he] at h2
    cases hb2 : m.testBit r
    · rw [hb2] at h2; exact absurd rfl h2
    · rfl
end Go.Proofs.YteilohamjijpbaaDoor
