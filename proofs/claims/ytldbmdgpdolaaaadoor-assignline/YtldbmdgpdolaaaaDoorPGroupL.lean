import Derived.Test.YtldbmdgpdolaaaaDoorPGroupB
import Derived.Test.YtldbmdgpdolaaaaDoorPXOneRight
import Derived.Deep.AppendLies
import Derived.Test.YtldbmdgpdolaaaaDoorPGroupC
import Derived.Test.YtldbmdgpdolaaaaDoorPGroupA
namespace Go.Proofs.YtldbmdgpdolaaaaDoor
open Go Go.RowKit

inductive LiveW (P : List Fn) (f : Fn) (r : Nat) : Nat → Prop
  | read {pc : Nat} (h : pc < f.code.length) (hr : (rdMask P (insD f pc)).testBit r = true) : LiveW P f r pc
  | on {pc tq : Nat} (h : pc < f.code.length) (hs : (setMask (insD f pc)).testBit r = false) (ht : tq ∈ behind (insD f pc) pc) (hw : LiveW P f r tq) : LiveW P f r pc
def LiveSpec (P : List Fn) (f : Fn) (L : List Int) : Prop :=
  L.length = f.code.length ∧ ∀ q, q < f.code.length → (¬ Way f 63 q ∧ L.getD q 0 = -1) ∨ (Way f 63 q ∧ ∃ m : Nat, m < 4096 ∧ L.getD q 0 = m ∧ ∀ r, r < 12 → (m.testBit r = true ↔ LiveW P f r q))
def lessM (m n : Nat) : Nat := (bvn m &&& ~~~ bvn n).toNat
theorem lessM_le (m n : Nat) (h : m < 65536) : lessM m n ≤ m := by
  have h1 : (bvn m).toNat = m := by simp [bvn]; omega
  have h2 := and_le (bvn m) (~~~ bvn n)
  unfold lessM
  omega
theorem lessM_bit (m n r : Nat) (h : m < 65536) : (lessM m n).testBit r = (m.testBit r && !n.testBit r) := by
  by_cases hr : r < 64
  · unfold lessM
    rw [BitVec.testBit_toNat, BitVec.getLsbD_and, BitVec.getLsbD_not, bvn_bit _ _ hr, bvn_bit _ _ hr]
    simp [hr]
  · have h1 : m < 2 ^ r := Nat.lt_of_lt_of_le h (Nat.le_trans (by decide : 65536 ≤ 2 ^ 64) (Nat.pow_le_pow_right (by decide) (by omega)))
    rw [Nat.testBit_lt_two_pow (Nat.lt_of_le_of_lt (lessM_le m n h) h1), Nat.testBit_lt_two_pow h1]
    rfl
theorem lessM_int (m n : Nat) (hm : m < 65536) (hn : n < 65536) : bits .andNot .i64 (m : Int) (n : Int) = ((lessM m n : Nat) : Int) := by
  rw [← bvn_toInt m hm, ← bvn_toInt n hn, bits_andNot_bv]
  have h1 := lessM_le m n hm
  rw [BitVec.toInt_eq_toNat_of_lt (by show 2 * lessM m n < _; omega)]
  rfl
def mkL (L : List Int) (q : Nat) : Nat := (L.getD q 0).toNat
def wantL (L : List Int) (ts : List Nat) : Nat := ts.foldl (fun m t => m ||| mkL L t) 0
theorem want_bit' (L : List Int) (r : Nat) : ∀ (ts : List Nat) (m : Nat), (ts.foldl (fun m t => m ||| mkL L t) m).testBit r = true ↔ (m.testBit r = true ∨ ∃ t ∈ ts, (mkL L t).testBit r = true)
  | [], m => by simp
  | t :: ts, m => by
    rw [List.foldl_cons, want_bit' L r ts, Nat.testBit_or, Bool.or_eq_true]
    simp only [List.mem_cons, exists_eq_or_imp, or_assoc]
theorem want_bit (L : List Int) (ts : List Nat) (r : Nat) : (wantL L ts).testBit r = true ↔ ∃ t ∈ ts, (mkL L t).testBit r = true := by
  unfold wantL; rw [want_bit']; simp
theorem want_lt' (L : List Int) : ∀ (ts : List Nat) (m : Nat), m < 4096 → (∀ t ∈ ts, mkL L t < 4096) → ts.foldl (fun m t => m ||| mkL L t) m < 4096
  | [], m, h, _ => h
  | t :: ts, m, h, ht => want_lt' L ts _ (Nat.or_lt_two_pow (n := 12) h (ht t (by simp))) (fun u hu => ht u (by simp [hu]))
theorem want_lt (L : List Int) (ts : List Nat) (h : ∀ t ∈ ts, mkL L t < 4096) : wantL L ts < 4096 := want_lt' L ts 0 (by decide) h
def aheadL (P : List Fn) (f : Fn) (L : List Int) (pc : Nat) : Nat := rdMask P (insD f pc) ||| lessM (wantL L (behind (insD f pc) pc)) (setMask (insD f pc))
theorem rdMask_lt12 {P : List Fn} {x : Ins} (hx : InsOk P x) : rdMask P x < 4096 := by
  unfold rdMask
  have h1 : 2 ^ x.a.toNat < 4096 := Nat.lt_of_le_of_lt (Nat.pow_le_pow_right (by decide) (show x.a.toNat ≤ 11 by have := hx.a0; have := hx.a1; omega)) (by decide)
  have h2 : 2 ^ x.b.toNat < 4096 := Nat.lt_of_le_of_lt (Nat.pow_le_pow_right (by decide) (show x.b.toNat ≤ 11 by have := hx.b0; have := hx.b1; omega)) (by decide)
  exact Nat.or_lt_two_pow (n := 12) (by split <;> omega) (by split <;> omega)
structure LInv (P : List Fn) (f : Fn) (L : List Int) : Prop where
  len : L.length = f.code.length
  no : ∀ q, q < f.code.length → ¬ Way f 63 q → L.getD q 0 = -1
  yes : ∀ q, q < f.code.length → Way f 63 q → 0 ≤ L.getD q 0 ∧ L.getD q 0 < 4096
  sound : ∀ q, q < f.code.length → Way f 63 q → ∀ r, (mkL L q).testBit r = true → LiveW P f r q
  grows : ∀ q, q < f.code.length → Way f 63 q → ∀ r, (mkL L q).testBit r = true → (aheadL P f L q).testBit r = true
structure FlowOk (P : List Fn) (f : Fn) : Prop where
  ok : FnOk f
  ins : ∀ x ∈ f.code, InsOk P x ∧ (x.op = 15 ∨ x.op = 16 → 0 ≤ x.imm)
  fin : ¬ Way f 63 f.code.length
theorem FlowOk.insD {P : List Fn} {f : Fn} (h : FlowOk P f) {pc : Nat} (hp : pc < f.code.length) : InsOk P (insD f pc) ∧ ((insD f pc).op = 15 ∨ (insD f pc).op = 16 → 0 ≤ (insD f pc).imm) := by
  rw [insD_eq hp]; exact h.ins _ (List.getElem_mem hp)
theorem FlowOk.on {P : List Fn} {f : Fn} (h : FlowOk P f) {pc t : Nat} (hp : pc < f.code.length) (hw : Way f 63 pc) (ht : t ∈ behind (Go.Proofs.YtldbmdgpdolaaaaDoor.insD f pc) pc) : Way f 63 t ∧ t < f.code.length := by
  have hx := (h.insD hp).1
  have hw2 : Way f 63 t := Way.step hp hw (set_high _ hx.dst0 hx.dst1) ht
  refine ⟨hw2, ?_⟩
  have h1 := h.ok.goes pc hp t ht
  rcases Nat.lt_or_ge t f.code.length with h2 | h2
  · exact h2
  · obtain rfl : t = f.code.length := by omega
    exact absurd hw2 h.fin
theorem flowOk_of {P : List Fn} (h : ProofAns P 0) {f : Fn} (hf : f ∈ P) : FlowOk P f := by
  obtain ⟨ok, hi⟩ := fnOk_of (right_code h) hf
  obtain ⟨L, _, _, hn⟩ := right_fn h hf
  exact ⟨ok, hi, hn⟩
theorem LInv.mk_eq {P : List Fn} {f : Fn} {L : List Int} (h : LInv P f L) {q : Nat} (hq : q < f.code.length) (hw : Way f 63 q) : L.getD q 0 = (mkL L q : Int) ∧ mkL L q < 4096 := by
  have := h.yes q hq hw
  unfold mkL
  omega
theorem LInv.want_lt {P : List Fn} {f : Fn} {L : List Int} (h : LInv P f L) (ok : FlowOk P f) {pc : Nat} (hp : pc < f.code.length) (hw : Way f 63 pc) : wantL L (behind (insD f pc) pc) < 4096 :=
  Go.Proofs.YtldbmdgpdolaaaaDoor.want_lt L _ fun _ ht => (h.mk_eq (ok.on hp hw ht).2 (ok.on hp hw ht).1).2
theorem ahead_bit (P : List Fn) (f : Fn) (L : List Int) (pc r : Nat) (h : wantL L (behind (insD f pc) pc) < 65536) :
    (aheadL P f L pc).testBit r = true ↔ ((rdMask P (insD f pc)).testBit r = true ∨ ((setMask (insD f pc)).testBit r = false ∧ ∃ t ∈ behind (insD f pc) pc, (mkL L t).testBit r = true)) := by
  unfold aheadL
  rw [Nat.testBit_or, Bool.or_eq_true, lessM_bit _ _ _ h, Bool.and_eq_true, want_bit]
  simp only [Bool.not_eq_true']
  constructor
  · rintro (h | ⟨h1, h2⟩)
    · exact Or.inl h
    · exact Or.inr ⟨h2, h1⟩
  · rintro (h | ⟨h1, h2⟩)
    · exact Or.inl h
    · exact Or.inr ⟨h2, h1⟩
theorem LInv.ahead_lt {P : List Fn} {f : Fn} {L : List Int} (h : LInv P f L) (ok : FlowOk P f) {pc : Nat} (hp : pc < f.code.length) (hw : Way f 63 pc) : aheadL P f L pc < 4096 := by
  have h1 := h.want_lt ok hp hw
  exact Nat.or_lt_two_pow (n := 12) (rdMask_lt12 (ok.insD hp).1) (Nat.lt_of_le_of_lt (lessM_le _ _ (by omega)) h1)
theorem sub_le {m n : Nat} (h : ∀ r, m.testBit r = true → n.testBit r = true) : m ≤ n := by
  have e : m &&& n = m := Nat.eq_of_testBit_eq fun r => by
    rw [Nat.testBit_and]
    cases hm : m.testBit r
    · rfl
    · rw [h r hm]; rfl
  rw [← e]
  exact Nat.and_le_right
theorem igetD_set (l : List Int) (i q : Nat) (v : Int) (hi : i < l.length) : (l.set i v).getD q 0 = if q = i then v else l.getD q 0 := by
  rw [List.getD_eq_getElem?_getD, List.getElem?_set, List.getD_eq_getElem?_getD]
  by_cases h : i = q
  · subst h; simp [hi]
  · simp [h, Ne.symm h]
def totL (L : List Int) : Nat := (L.map fun z => 4096 - z.toNat).sum
theorem totL_set (l : List Int) (i : Nat) (v : Int) (hi : i < l.length) : totL (l.set i v) + (4096 - mkL l i) = totL l + (4096 - v.toNat) := by
  induction l generalizing i with
  | nil => simp at hi
  | cons a l ih =>
    cases i with
    | zero => simp [totL, mkL]; omega
    | succ i =>
      have := ih i (by simpa using hi)
      simp [totL, mkL] at this ⊢
      omega
structure LMid (P : List Fn) (f : Fn) (L0 : List Int) (k : Nat) (again : Bool) (L : List Int) : Prop where
  inv : LInv P f L
  less : again = true → totL L < totL L0
  same : again = false → L = L0 ∧ ∀ q, k ≤ q → q < f.code.length → Way f 63 q → aheadL P f L q = mkL L q
theorem LMid.start {P : List Fn} {f : Fn} {L : List Int} (h : LInv P f L) : LMid P f L f.code.length false L :=
  ⟨h, fun e => (by cases e), fun _ => ⟨rfl, fun q h1 h2 => by omega⟩⟩
theorem LMid.skip {P : List Fn} {f : Fn} {L0 L : List Int} {k : Nat} {again : Bool} (h : LMid P f L0 (k + 1) again L) (hn : ¬ Way f 63 k) : LMid P f L0 k again L :=
  ⟨h.inv, h.less, fun e => ⟨(h.same e).1, fun q h1 h2 hw => by
    rcases Nat.lt_or_ge k q with h3 | h3
    · exact (h.same e).2 q h3 h2 hw
    · obtain rfl : q = k := by omega
      exact absurd hw hn⟩⟩
theorem LMid.step {P : List Fn} {f : Fn} {L0 L : List Int} {k : Nat} {again : Bool} (h : LMid P f L0 (k + 1) again L) (ok : FlowOk P f) (hk : k < f.code.length) (hw : Way f 63 k) :
    LMid P f L0 k (again || (aheadL P f L k != mkL L k)) (L.set k (aheadL P f L k : Int)) := by
  have hi := h.inv
  have hkl : k < L.length := by rw [hi.len]; exact hk
  have hlt := hi.ahead_lt ok hk hw
  have hmk : ∀ q, mkL (L.set k (aheadL P f L k : Int)) q = if q = k then aheadL P f L k else mkL L q := by
    intro q
    unfold mkL
    rw [igetD_set _ _ _ _ hkl]
    split <;> simp
  have hup : ∀ q r, q < f.code.length → Way f 63 q → (mkL L q).testBit r = true → (mkL (L.set k (aheadL P f L k : Int)) q).testBit r = true := by
    intro q r hq hwq hb
    rw [hmk]
    split
    · rename_i e; subst e; exact hi.grows q hq hwq r hb
    · exact hb
  have hwl : ∀ q, q < f.code.length → Way f 63 q → wantL (L.set k (aheadL P f L k : Int)) (behind (insD f q) q) < 65536 := by
    intro q hq hwq
    refine Nat.lt_trans (want_lt _ _ fun t ht => ?_) (by decide : 4096 < 65536)
    obtain ⟨t1, t2⟩ := ok.on hq hwq ht
    rw [hmk]
    split
    · exact hlt
    · exact (hi.mk_eq t2 t1).2
  have hmono : ∀ q r, q < f.code.length → Way f 63 q → (aheadL P f L q).testBit r = true → (aheadL P f (L.set k (aheadL P f L k : Int)) q).testBit r = true := by
    intro q r hq hwq hb
    rw [ahead_bit _ _ _ _ _ (Nat.lt_trans (hi.want_lt ok hq hwq) (by decide : 4096 < 65536))] at hb
    rw [ahead_bit _ _ _ _ _ (hwl q hq hwq)]
    rcases hb with hb | ⟨h1, t, ht, hb⟩
    · exact Or.inl hb
    · obtain ⟨t1, t2⟩ := ok.on hq hwq ht
      exact Or.inr ⟨h1, t, ht, hup t r t2 t1 hb⟩
  have hinv : LInv P f (L.set k (aheadL P f L k : Int)) := by
    refine ⟨by simp [hi.len], fun q hq hn => ?_, fun q hq hwq => ?_, fun q hq hwq r hb => ?_, fun q hq hwq r hb => ?_⟩
    · rw [igetD_set _ _ _ _ hkl, if_neg (fun e : q = k => hn (by rw [e]; exact hw))]
      exact hi.no q hq hn
    · rw [igetD_set _ _ _ _ hkl]
      split
      · omega
      · exact hi.yes q hq hwq
    · rw [hmk] at hb
      split at hb
      · rename_i e
        subst e
        rw [ahead_bit _ _ _ _ _ (Nat.lt_trans (hi.want_lt ok hq hwq) (by decide : 4096 < 65536))] at hb
        rcases hb with hb | ⟨h1, t, ht, hb⟩
        · exact LiveW.read hq hb
        · obtain ⟨t1, t2⟩ := ok.on hq hwq ht
          exact LiveW.on hq h1 ht (hi.sound t t2 t1 r hb)
      · exact hi.sound q hq hwq r hb
    · rw [hmk] at hb
      split at hb
      · rename_i e; subst e; exact hmono q r hq hwq hb
      · exact hmono q r hq hwq (hi.grows q hq hwq r hb)
  have hset := totL_set L k (aheadL P f L k : Int) hkl
  have hge : mkL L k ≤ aheadL P f L k := sub_le fun r hb => hi.grows k hk hw r hb
  have hml := (hi.mk_eq hk hw).2
  simp only [Int.toNat_natCast] at hset
  refine ⟨hinv, fun e => ?_, fun e => ?_⟩
  · cases ha : again
    · rw [ha, Bool.false_or] at e
      have hne : aheadL P f L k ≠ mkL L k := by simpa using e
      obtain ⟨rfl, _⟩ := h.same ha
      omega
    · have := h.less ha
      omega
  · simp only [Bool.or_eq_false_iff] at e
    obtain ⟨rfl, h2⟩ := h.same e.1
    have he : aheadL P f L k = mkL L k := by simpa using e.2
    have hL : L.set k (aheadL P f L k : Int) = L := by
      rw [he, ← (hi.mk_eq hk hw).1, List.getD_eq_getElem?_getD, List.getElem?_eq_getElem hkl]
      exact List.set_getElem_self hkl
    rw [hL]
    refine ⟨rfl, fun q h1 h3 hwq => ?_⟩
    rcases Nat.lt_or_ge k q with h4 | h4
    · exact h2 q h4 h3 hwq
    · obtain rfl : q = k := by omega
      exact he
structure LLoops (P : List Fn) (f : Fn) (again : Bool) (L : List Int) : Prop where
  inv : LInv P f L
  closed : again = false → ∀ q, q < f.code.length → Way f 63 q → aheadL P f L q = mkL L q
theorem LLoops.next {P : List Fn} {f : Fn} {L L' : List Int} {again' : Bool} (m : LMid P f L 0 again' L') :
    LLoops P f again' L' ∧ totL L' + (if again' = true then 1 else 0) < totL L + 1 := by
  refine ⟨⟨m.inv, fun ha q h1 h2 => (m.same ha).2 q (Nat.zero_le _) h1 h2⟩, ?_⟩
  cases again' with
  | false => obtain ⟨rfl, _⟩ := m.same rfl; simp
  | true => have := m.less rfl; simp; omega
theorem LLoops.spec {P : List Fn} {f : Fn} (ok : FlowOk P f) {L : List Int} (h : LLoops P f false L) : LiveSpec P f L := by
  refine ⟨h.inv.len, fun q hq => ?_⟩
  by_cases hw : Way f 63 q
  · refine Or.inr ⟨hw, mkL L q, (h.inv.mk_eq hq hw).2, (h.inv.mk_eq hq hw).1, fun r _ => ⟨h.inv.sound q hq hw r, fun hl => ?_⟩⟩
    clear hq
    induction hl with
    | @read pc hp hr =>
      rw [← h.closed rfl pc hp hw, ahead_bit _ _ _ _ _ (Nat.lt_trans (h.inv.want_lt ok hp hw) (by decide : 4096 < 65536))]
      exact Or.inl hr
    | @on pc tq hp hs ht _ ih =>
      rw [← h.closed rfl pc hp hw, ahead_bit _ _ _ _ _ (Nat.lt_trans (h.inv.want_lt ok hp hw) (by decide : 4096 < 65536))]
      exact Or.inr ⟨hs, tq, ht, ih (ok.on hp hw ht).1⟩
  · exact Or.inl ⟨hw, h.inv.no q hq hw⟩
theorem LLoops.start {P : List Fn} {f : Fn} {L : List Int} (hl : L.length = f.code.length) (hn : ∀ q, q < f.code.length → ¬ Way f 63 q → L.getD q 0 = -1) (hy : ∀ q, q < f.code.length → Way f 63 q → L.getD q 0 = 0) : LLoops P f true L :=
  have hz : ∀ q, q < f.code.length → Way f 63 q → ∀ r, (mkL L q).testBit r = true → False := fun q hq hw r hb => by
    unfold mkL at hb
    rw [hy q hq hw] at hb
    simp at hb
  ⟨⟨hl, hn, fun q hq hw => (by rw [hy q hq hw]; omega), fun q hq hw r hb => (hz q hq hw r hb).elim, fun q hq hw r hb => (hz q hq hw r hb).elim⟩, fun e => (by cases e)⟩
theorem live_sure {P : List Fn} {f : Fn} (ok : FlowOk P f) (hR : ∀ q, q < f.code.length → Way f 63 q → ∀ r, r < 12 → (rdMask P (insD f q)).testBit r = true → ¬ Way f r q) {r : Nat} (hr : r < 12) {q : Nat} (h : LiveW P f r q) : Way f 63 q → ¬ Way f r q := by
  induction h with
  | read hp hb => exact fun hw => hR _ hp hw r hr hb
  | on hp hs ht _ ih => exact fun hw hw2 => ih (ok.on hp hw ht).1 (Way.step hp hw2 hs ht)
theorem right_reads {P : List Fn} (h : ProofAns P 0) {f : Fn} (hf : f ∈ P) : ∀ q, q < f.code.length → Way f 63 q → ∀ r, r < 12 → (rdMask P (insD f q)).testBit r = true → ¬ Way f r q := by
  obtain ⟨L, hL, hb, _⟩ := right_fn h hf
  intro q hq hw r hr hbit
  rcases hL.2 q (by omega) with ⟨hn, _⟩ | ⟨_, m, hm, e, hm2⟩
  · exact absurd hw hn
  · refine (hm2 r hr).1 ?_
    have h1 := hb q hq
    unfold badB at h1
    rw [e] at h1
    simp only [Int.toNat_natCast, Int.natCast_nonneg, decide_true, Bool.true_and] at h1
    rw [rdMask_bit, List.any_eq_true] at hbit
    obtain ⟨s, hs, he⟩ := hbit
    have h2 := List.any_eq_false.1 h1 s hs
    rw [hasB_bit, show s.toNat = r by simpa using he] at h2
    cases hb2 : m.testBit r
    · rw [hb2] at h2; exact absurd rfl h2
    · rfl
end Go.Proofs.YtldbmdgpdolaaaaDoor
namespace Go.Proofs.YtldbmdgpdolaaaaDoor
open Go Go.RowKit

structure AgFr (P : List Fn) (f g : Fr) : Prop where
  fn : g.fn = f.fn
  pc : g.pc = f.pc
  len : g.regs.length = f.regs.length
  live : ∀ r, r < 12 → LiveW P (fnD P f.fn) r f.pc.toNat → g.regs.getD r 0 = f.regs.getD r 0
inductive AgFs (P : List Fn) : List Fr → List Fr → Prop
  | nil : AgFs P [] []
  | snoc {fs gs : List Fr} {f g : Fr} (h : AgFs P fs gs) (hf : AgFr P f g) : AgFs P (fs ++ [f]) (gs ++ [g])
theorem AgFr.refl (P : List Fn) (f : Fr) : AgFr P f f := ⟨rfl, rfl, rfl, fun _ _ _ => rfl⟩
theorem AgFs.inv {P : List Fn} {l m : List Fr} (h : AgFs P l m) : (l = [] ∧ m = []) ∨ ∃ fs gs f g, l = fs ++ [f] ∧ m = gs ++ [g] ∧ AgFs P fs gs ∧ AgFr P f g := by
  cases h with
  | nil => exact Or.inl ⟨rfl, rfl⟩
  | snoc h hf => exact Or.inr ⟨_, _, _, _, rfl, rfl, h, hf⟩
theorem AgFs.len {P : List Fn} {l m : List Fr} (h : AgFs P l m) : m.length = l.length := by
  induction h with
  | nil => rfl
  | snoc _ _ ih => simp [ih]
section
variable {P : List Fn}
theorem AgFr.ins {f g : Fr} (h : AgFr P f g) : insOfFr P g = insOfFr P f := by unfold insOfFr; rw [h.fn, h.pc]
theorem AgFr.a {f g : Fr} (h : AgFr P f g) (hc : codeProg P = 0) (hp : placeB P f = true) (hr : rdA P (insOfFr P f) = true) : regD g (insOfFr P f).a = regD f (insOfFr P f).a := by
  have hx := place_ins hc hp
  obtain ⟨k, j, hk, hj, e1, e2, e3, e4⟩ := place_nat hp
  refine h.live _ (by have := hx.a0; have := hx.a1; omega) (LiveW.read (by rw [e3, e2]; exact hj) ?_)
  show (rdMask P (insOfFr P f)).testBit _ = true
  unfold rdMask
  rw [if_pos hr, Nat.testBit_or, Nat.testBit_two_pow_self]; rfl
theorem AgFr.b {f g : Fr} (h : AgFr P f g) (hc : codeProg P = 0) (hp : placeB P f = true) (hr : rdB P (insOfFr P f) = true) : regD g (insOfFr P f).b = regD f (insOfFr P f).b := by
  have hx := place_ins hc hp
  obtain ⟨k, j, hk, hj, e1, e2, e3, e4⟩ := place_nat hp
  refine h.live _ (by have := hx.b0; have := hx.b1; omega) (LiveW.read (by rw [e3, e2]; exact hj) ?_)
  show (rdMask P (insOfFr P f)).testBit _ = true
  unfold rdMask
  rw [if_pos hr, Nat.testBit_or, Nat.testBit_two_pow_self, Bool.or_true]
theorem AgFr.go {f g : Fr} (h : AgFr P f g) (hp : placeB P f = true) {z : Int} {q : Nat} (hz : z = q) (ht : q ∈ behind (insOfFr P f) f.pc.toNat) (hs : setsB (insOfFr P f).op = false) : AgFr P ⟨f.fn, z, f.regs⟩ ⟨g.fn, z, g.regs⟩ := by
  obtain ⟨k, j, hk, hj, e1, e2, e3, e4⟩ := place_nat hp
  subst hz
  refine ⟨h.fn, rfl, h.len, fun r hr hl => h.live r hr (LiveW.on (by rw [e3, e2]; exact hj) ?_ ht hl)⟩
  show (setMask (insOfFr P f)).testBit r = false
  unfold setMask
  rw [if_neg (by rw [hs]; decide)]; exact Nat.zero_testBit r
theorem AgFr.put {f g : Fr} (h : AgFr P f g) (hc : codeProg P = 0) (hp : placeB P f = true) (hl : f.regs.length = 12) (ho : setsB (insOfFr P f).op = true) (v : Int) : AgFr P (putF f (insOfFr P f).dst v) (putF g (insOfFr P f).dst v) := by
  have hx := place_ins hc hp
  obtain ⟨k, j, hk, hj, e1, e2, e3, e4⟩ := place_nat hp
  have hd : (insOfFr P f).dst.toNat < 12 := by have := hx.dst0; have := hx.dst1; omega
  have hn : (insOfFr P f).op ≠ 15 ∧ (insOfFr P f).op ≠ 19 := by
    unfold setsB at ho; rw [decide_eq_true_eq] at ho; omega
  refine ⟨h.fn, by show g.pc + 1 = f.pc + 1; rw [h.pc], by rw [putF_len, putF_len]; exact h.len, fun r hr hlv => ?_⟩
  show (g.regs.set _ v).getD r 0 = (f.regs.set _ v).getD r 0
  by_cases hrd : (insOfFr P f).dst.toNat = r
  · subst hrd
    simp [List.getD, h.len, hl, hd]
  · simp only [List.getD_eq_getElem?_getD]
    rw [List.getElem?_set_ne hrd, List.getElem?_set_ne hrd]
    have hs : (setMask (insOfFr P f)).testBit r = false := by
      unfold setMask
      rw [if_pos ho, Nat.testBit_two_pow]; simp [hrd]
    have ht : (f.pc + 1).toNat ∈ behind (insOfFr P f) f.pc.toNat := by
      rw [show (f.pc + 1).toNat = f.pc.toNat + 1 by omega]
      exact behind_next _ _ hn.1 hn.2
    have hlt : f.pc.toNat < (fnD P f.fn).code.length := by rw [e3, e2]; exact hj
    have := h.live r hr (LiveW.on hlt hs ht hlv)
    simpa only [List.getD_eq_getElem?_getD] using this
theorem AgFr.place {f g : Fr} (h : AgFr P f g) (hp : placeB P f = true) : placeB P g = true := by
  obtain ⟨k, j, hk, hj, e1, e2, e3, e4⟩ := place_nat hp
  have := place_of hk hj g.regs
  rw [← e1, ← e2, ← h.fn, ← h.pc] at this
  exact this
theorem AgFs.fok {l m : List Fr} (h : AgFs P l m) : FOk P l → FOk P m := by
  induction h with
  | nil => exact fun h => h
  | @snoc fs gs f g h hf ih =>
    intro hk
    obtain ⟨h1, h2, h3⟩ := (fok_snoc P fs f).1 hk
    refine (fok_snoc P gs g).2 ⟨ih h1, hf.place h2, fun g' hg' => ?_⟩
    rcases h.inv with ⟨rfl, rfl⟩ | ⟨fs', gs', f', g'', rfl, rfl, _, k2⟩
    · simp at hg'
    · rw [List.getLast?_concat] at hg'
      cases hg'
      rw [k2.ins, hf.fn]
      exact h3 f' (by simp)
theorem AgFs.all {l m : List Fr} (h : AgFs P l m) : ∀ g ∈ m, ∃ f ∈ l, AgFr P f g := by
  induction h with
  | nil => intro g hg; cases hg
  | @snoc fs gs f g h hf ih =>
    intro g' hg'
    rw [List.mem_append, List.mem_singleton] at hg'
    rcases hg' with hg' | rfl
    · obtain ⟨f', h1, h2⟩ := ih g' hg'
      exact ⟨f', List.mem_append_left _ h1, h2⟩
    · exact ⟨f, by simp, hf⟩
end
end Go.Proofs.YtldbmdgpdolaaaaDoor
namespace Go.Proofs.YtldbmdgpdolaaaaDoor
open Go Go.RowKit

structure LRow (P : List Fn) (f : Fn) (r : Nat) (s : List Bool) : Prop where
  len : s.length = f.code.length
  sound : ∀ q, s.getD q false = true → Way f 63 q ∧ LiveW P f r q
def lrIs (P : List Fn) (f : Fn) (r : Nat) (s : List Bool) (q : Nat) : Bool := (rdMask P (insD f q)).testBit r || (!(setMask (insD f q)).testBit r && (behind (insD f q) q).any fun t => s.getD t false)
structure LRMid (P : List Fn) (f : Fn) (r : Nat) (s0 : List Bool) (k : Nat) (ag : Bool) (s : List Bool) : Prop where
  row : LRow P f r s
  few : unseen s + (if ag = true then 1 else 0) ≤ unseen s0
  same : ag = false → s = s0 ∧ ∀ q, q < k → Way f 63 q → s.getD q false = false → lrIs P f r s q = false
def LRLoops (P : List Fn) (f : Fn) (r : Nat) (ag : Bool) (s : List Bool) : Prop := LRow P f r s ∧ (ag = false → ∀ q, q < f.code.length → Way f 63 q → s.getD q false = false → lrIs P f r s q = false)
section
variable {P : List Fn} {f : Fn} {r : Nat}
theorem LRMid.start {s : List Bool} (h : LRow P f r s) : LRMid P f r s 0 false s := ⟨h, by simp, fun _ => ⟨rfl, fun q hq => by omega⟩⟩
theorem LRMid.next {s0 s : List Bool} {k : Nat} {ag : Bool} (h : LRMid P f r s0 k ag s) (hn : Way f 63 k → s.getD k false = false → lrIs P f r s k = false) : LRMid P f r s0 (k + 1) ag s := by
  refine ⟨h.row, h.few, fun e => ⟨(h.same e).1, fun q hq hw hs => ?_⟩⟩
  rcases Nat.lt_or_ge q k with hlt | hge
  · exact (h.same e).2 q hlt hw hs
  · obtain rfl : q = k := by omega
    exact hn hw hs
theorem LRMid.yes {s0 s : List Bool} {k : Nat} {ag : Bool} (h : LRMid P f r s0 k ag s) (hk : k < f.code.length) (hw : Way f 63 k) (hs : s.getD k false = false) (hi : lrIs P f r s k = true) : LRMid P f r s0 (k + 1) true (s.set k true) := by
  have hl := h.row.len
  refine ⟨⟨by simp [hl], fun q hq => ?_⟩, ?_, fun e => by cases e⟩
  · rw [bget_set _ _ _ _ (by omega)] at hq
    by_cases e : q = k
    · subst e
      refine ⟨hw, ?_⟩
      unfold lrIs at hi
      rw [Bool.or_eq_true, Bool.and_eq_true, List.any_eq_true] at hi
      rcases hi with hi | ⟨h1, t, ht, h2⟩
      · exact LiveW.read hk hi
      · exact LiveW.on hk (by simpa using h1) ht (h.row.sound t h2).2
    · rw [if_neg e] at hq; exact h.row.sound q hq
  · have := unseen_set s k (by omega) hs
    have h2 := h.few
    rw [if_pos rfl]
    cases ag <;> simp at h2 <;> omega
theorem LRMid.ends {s0 s : List Bool} {ag : Bool} (h : LRMid P f r s0 f.code.length ag s) : LRLoops P f r ag s := ⟨h.row, fun e => (h.same e).2⟩
theorem LRLoops.done {s : List Bool} (h : LRLoops P f r false s) (ok : FlowOk P f) : ∀ q, q < f.code.length → (s.getD q false = true ↔ Way f 63 q ∧ LiveW P f r q) := by
  intro q hq
  refine ⟨fun h1 => h.1.sound q h1, fun ⟨hw, hl⟩ => ?_⟩
  induction hl with
  | @read pc hp hr =>
    cases hs : s.getD pc false with
    | true => rfl
    | false =>
      have := h.2 rfl pc hp hw hs
      unfold lrIs at this
      rw [hr] at this; cases this
  | @on pc t hp hs ht hl ih =>
    have h1 := ok.on hp hw ht
    have h2 := ih h1.2 ⟨h1.1, hl⟩ h1.1
    cases hs2 : s.getD pc false with
    | true => rfl
    | false =>
      have := h.2 rfl pc hp hw hs2
      unfold lrIs at this
      rw [Bool.or_eq_false_iff, Bool.and_eq_false_iff] at this
      rcases this.2 with h3 | h3
      · rw [hs] at h3; cases h3
      · rw [List.any_eq_false] at h3
        exact absurd h2 (h3 t ht)
theorem spec_unique {L L' : List Int} (h : LiveSpec P f L) (h' : LiveSpec P f L') : L = L' := by
  refine List.ext_getElem (h.1.trans h'.1.symm) fun q h1 h2 => ?_
  have hq : q < f.code.length := by rw [← h.1]; exact h1
  have e1 : L.getD q 0 = L[q] := by simp [List.getD, h1]
  have e2 : L'.getD q 0 = L'[q] := by simp [List.getD, h2]
  rw [← e1, ← e2]
  rcases h.2 q hq with ⟨a, e3⟩ | ⟨a, m, hm, e3, hb⟩ <;> rcases h'.2 q hq with ⟨a', e4⟩ | ⟨a', m', hm', e4, hb'⟩
  · rw [e3, e4]
  · exact absurd a' a
  · exact absurd a a'
  · rw [e3, e4]
    congr 1
    apply Nat.eq_of_testBit_eq
    intro r
    rcases Nat.lt_or_ge r 12 with hr | hr
    · rw [Bool.eq_iff_iff, hb r hr, hb' r hr]
    · rw [Nat.testBit_lt_two_pow (Nat.lt_of_lt_of_le hm (Nat.pow_le_pow_right (n := 2) (by decide) hr)), Nat.testBit_lt_two_pow (Nat.lt_of_lt_of_le hm' (Nat.pow_le_pow_right (n := 2) (by decide) hr))]
end
end Go.Proofs.YtldbmdgpdolaaaaDoor
namespace Go.Proofs.YtldbmdgpdolaaaaDoor
open Go Go.RowKit

abbrev IntRow (w : World) (g n : Nat) (l : List Int) : Prop := w.ownsRow 0 3 1 (.slice (some ⟨g, 0, none⟩) n n) n (i64s l)
theorem int_cell {w : World} {g n : Nat} {l : List Int} (h : IntRow w g n l) (hl : l.length = n) (i : Nat) (hi : i < n) : w.cell? ⟨g, i, none⟩ = some (.int .i64 (l.getD i 0)) := by
  rw [h.cellAt i (by omega)]
  simp [i64s, List.getD, show i < l.length by omega]
theorem int_store {w : World} {g n : Nat} {l : List Int} (h : IntRow w g n l) (i : Nat) (z : Int) : IntRow (w.setCell ⟨g, i, none⟩ (.int .i64 z)) g n (l.set i z) ∧ w.grownBy (w.setCell ⟨g, i, none⟩ (.int .i64 z)) (some g) := by
  have := h.stored i (.int .i64 z)
  have e : (i64s l).set i (.int .i64 z) = i64s (l.set i z) := by simp [i64s, List.map_set]
  rw [e] at this
  exact this
theorem int_vals {w : World} {g n : Nat} {l : List Int} (h : IntRow w g n l) (hl : l.length = n) (hm : n ≤ maxLen) : IntsVal w (.slice (some ⟨g, 0, none⟩) n n) l := by
  refine ⟨_, g, 0, n, n, rfl, hl, fun _ => rfl, fun k hk => ?_, ⟨Nat.le_refl _, fun e => by cases e⟩, hm⟩
  have := int_cell h hl k (by omega)
  rw [Nat.zero_add, this]
  simp [List.getD, hk]
theorem want_take (L : List Int) (ts : List Nat) (e : Nat) (h : e < ts.length) : wantL L (ts.take (e + 1)) = wantL L (ts.take e) ||| mkL L ts[e] := by
  unfold wantL
  rw [List.take_add_one, List.getElem?_eq_getElem h, List.foldl_append]
  rfl
theorem want_take_lt (L : List Int) (ts : List Nat) (h : ∀ t ∈ ts, mkL L t < 4096) (e : Nat) : wantL L (ts.take e) < 4096 := want_lt L _ fun t ht => h t (List.mem_of_mem_take ht)
set_option maxRecDepth 100000 in
set_option maxHeartbeats 1000000 in
theorem wanted_any (x : Ins) (pc : Nat) (L : List Int) (g n cap : Nat) (w : World) (h0 : x.op = 15 ∨ x.op = 16 → 0 ≤ x.imm) (hp : pc < 1000) (_hcap : n ≤ 1000) (hrow : ∀ t, t < n → w.cell? ⟨g, t, none⟩ = some (.int .i64 (L.getD t 0)))
    (hts : ∀ t ∈ behind x pc, t < n ∧ 0 ≤ L.getD t 0 ∧ L.getD t 0 < 4096) :
    Calls Tryd.prog 39 #[.slice (some ⟨g, 0, none⟩) n cap, x.val, .int .i64 pc] w fun e w' => e = .returned (.int .i64 (wantL L (behind x pc) : Int)) ∧ Below w.heap.size w w' := by
  have hbx : ∀ o, Below w.heap.size w (w.alloc o) := fun o => (Below.refl _ _).alloc (Nat.le_refl _) _
  have hon := fun W => onward_any x pc W h0 hp
  have HROW : Hid (∀ t, t < n → w.cell? ⟨g, t, none⟩ = some (.int .i64 (L.getD t 0))) := hrow
  have HTS : Hid (∀ t ∈ behind x pc, t < n ∧ 0 ≤ L.getD t 0 ∧ L.getD t 0 < 4096) := hts
  have HWL : Hid (∀ e, wantL L ((behind x pc).take e) < 4096) := want_take_lt L _ fun t ht => by have := hts t ht; unfold mkL; omega
  have HWT : Hid (∀ e (h : e < (behind x pc).length), wantL L ((behind x pc).take (e + 1)) = wantL L ((behind x pc).take e) ||| mkL L (behind x pc)[e]) := fun e h => want_take L _ e h
  have HBI : Hid (behindI x pc = (behind x pc).map fun (n : Nat) => (n : Int)) := rfl
  clear hrow hts h0
  obtain ⟨op, dst, xa, xb, imm⟩ := x
  unfold Ins.val at hon ⊢
  dsimp only at hon ⊢
  generalize behindI ⟨op, dst, xa, xb, imm⟩ pc = bI at hon HBI
  generalize behind ⟨op, dst, xa, xb, imm⟩ pc = bs at HTS HWL HWT HBI ⊢
  go_enter Tryd.func39, Tryd.ntmps39
  go_wp2_with (go_at_call 60; refine (hon _).mono ?_; rintro e w1 ⟨v1, rfl, hI1, hfr1, hb1⟩; obtain ⟨ao1, b1, off1, n1, cap1, rfl, hl1', ha1, hc1, hcp1, hmx1⟩ := hI1)
  have HB1 : Hid (Below w.heap.size w w1) := (hbx _).trans (hb1.mono (by simp))
  have HL1 : Hid (bI.length = n1) := hl1'
  have HA1 : Hid (0 < n1 → ao1 = some ⟨b1, off1, none⟩) := ha1
  have HC1 : Hid (∀ q (h : q < bI.length), w1.cell? ⟨b1, off1 + q, none⟩ = some (.int .i64 bI[q])) := hc1
  have hcp := hcp1.1
  unfold maxLen at hmx1
  clear hl1' ha1 hc1 hcp1 hfr1 hb1 hon hbx
  go_loopw [7, 14] (fun bt i wi => ∃ e : Nat, e ≤ n1 ∧ i = .int .i64 e ∧ bt = .int .i64 ((wantL L (bs.take e) : Nat) : Int) ∧ Below w1.heap.size w1 wi) (fun _ i _ => n1 - (intOf i).toNat)
  case atStart => exact ⟨0, Nat.zero_le _, rfl, rfl, Below.refl _ _⟩
  case round =>
    obtain ⟨e, he, rfl, rfl, hbr⟩ := hrel
    have HBR : Hid (Below w1.heap.size w1 wr) := hbr
    by_cases hle : e < n1
    · obtain rfl := HA1.out (by omega)
      have heb : e < bI.length := by rw [HL1.out]; exact hle
      have heb2 : e < bs.length := by have := heb; rw [HBI.out] at this; simpa using this
      have cq := keeps_below hbr _ _ (HC1.out e heb)
      have hto : bI[e] = ((bs[e] : Nat) : Int) := by simp [HBI.out]
      rw [hto] at cq
      obtain ⟨t1, t2, t3⟩ := HTS.out bs[e] (List.getElem_mem heb2)
      have ct := keeps_below hbr _ _ (keeps_below HB1.out _ _ (HROW.out bs[e] t1))
      have hmk : L.getD bs[e] 0 = ((mkL L bs[e] : Nat) : Int) := by unfold mkL; omega
      have hml : mkL L bs[e] < 4096 := by unfold mkL; omega
      have HWE := HWT.out e heb2
      have hwl := HWL.out e
      rw [hmk] at ct
      have HOR : Hid (bits .or .i64 ((wantL L (bs.take e) : Nat) : Int) ((mkL L bs[e] : Nat) : Int) = ((wantL L (bs.take (e + 1)) : Nat) : Int)) := by
        show _ = _
        rw [HWE]; exact bits_or_nat _ _ (by omega) (by omega)
      generalize mkL L bs[e] = mm at ct HOR hml
      generalize bs[e] = tt at cq ct t1
      generalize wantL L (bs.take e) = we at HOR
      have htI : (tt : Int) < n := by omega
      have heI : (e : Int) < n1 := by omega
      clear hto hmk HWE t2 t3 heb heb2 hbr
      go_wp2
      go_roundw
      case rel => exact ⟨e + 1, by omega, by go_num, by rw [← HOR.out], HBR.out⟩
      case measure => simp [intOf]; omega
    · obtain rfl : e = n1 := by omega
      have hfin : bs.take e = bs := List.take_of_length_le (by have := HL1.out; rw [HBI.out] at this; simp at this; omega)
      rw [hfin]
      obtain ⟨we, hwe⟩ : ∃ we, we = wantL L bs := ⟨_, rfl⟩
      have HWQ : Hid (we = wantL L bs) := hwe
      rw [← hwe]
      clear hbr hfin hwe
      go_wp2
      go_ret
      exact ⟨by rw [← HWQ.out]; rfl, HB1.out.trans (HBR.out.mono HB1.out.size)⟩
def rdL (P : List Fn) (f : Fn) : List Int := f.code.map fun x => (rdMask P x : Int)
def setL (f : Fn) : List Int := f.code.map fun x => (setMask x : Int)
theorem rdL_len (P : List Fn) (f : Fn) : (rdL P f).length = f.code.length := by simp [rdL]
theorem setL_len (f : Fn) : (setL f).length = f.code.length := by simp [setL]
theorem take_snoc {l : List Int} {q : Nat} {z : Int} (h : q < l.length) (hz : l[q] = z) : l.take (q + 1) = l.take q ++ [z] := by
  rw [List.take_add_one, List.getElem?_eq_getElem h, hz]; rfl
set_option maxRecDepth 100000 in
set_option maxHeartbeats 2000000 in
theorem touched_any (P : List Fn) (hP : codeProg P = 0) (k : Nat) (hk : k < P.length) (v : Value) (w : World) (ht : TabOk w) (hc : CallOk w) (hv : ProgVal w v P) :
    Calls Tryd.prog 38 #[.agg #[v], .int .i64 k] w fun e w' => ∃ v1 v2, e = .returned (.tuple #[v1, v2]) ∧ IntsVal w' v1 (rdL P P[k]) ∧ IntsVal w' v2 (setL P[k]) ∧ (∀ b off n c, (v1 = .slice (some ⟨b, off, none⟩) n c ∨ v2 = .slice (some ⟨b, off, none⟩) n c) → w.heap.size ≤ b) ∧ Below w.heap.size w w' := by
  obtain ⟨i64i, hi64, hz0, hz1', hz2⟩ := info_parts info64
  have hfo := (fnOk_of hP (List.getElem_mem hk)).1
  have hl1 := hfo.len1
  have hl2 := hfo.len2
  have hfe := fnErr_ok hP hk
  have HRD : Hid (∀ q (h : q < P[k].code.length) (W : World), Below w.heap.size w W → Calls Tryd.prog 59 #[.agg #[v], .int .i64 k, .int .i64 q] W fun e w' => e = .returned (.tuple #[.int .i64 (rdMask P P[k].code[q]), .int .i64 (setMask P[k].code[q]), .int .i64 0]) ∧ Below W.heap.size W w') := by
    intro q h W hb
    have hca : codeAt P k = P[k].code := by simp [codeAt, List.getD, hk]
    have := reads_ok P v k q W (ht.below hb) (hc.below hb) (hv.keeps (keeps_below hb)) hfe (by rw [hca]; exact h)
    have e : insAtP P k q = P[k].code[q] := by unfold insAtP; rw [hca]; simp [List.getD, h]
    rw [e] at this
    exact this
  obtain ⟨b, off, cap, u, rfl, d0, d1, d2, hcv, hm, hcc⟩ := prog_fn hv hk
  obtain ⟨ao2, b2, off2, n2, cap2, rfl, ⟨hlen2, -, -⟩, -, hmx2⟩ := hcv
  have HRL : Hid (∀ q (h : q < P[k].code.length), (rdL P P[k]).take (q + 1) = (rdL P P[k]).take q ++ [(rdMask P P[k].code[q] : Int)]) := fun q h => take_snoc (by rw [rdL_len]; exact h) (by simp [rdL])
  have HSL : Hid (∀ q (h : q < P[k].code.length), (setL P[k]).take (q + 1) = (setL P[k]).take q ++ [(setMask P[k].code[q] : Int)]) := fun q h => take_snoc (by rw [setL_len]; exact h) (by simp [setL])
  have HRN : Hid ((rdL P P[k]).length = P[k].code.length ∧ (setL P[k]).length = P[k].code.length) := ⟨rdL_len _ _, setL_len _⟩
  generalize P[k] = f at *
  have hkI : (k : Int) < P.length := by omega
  have d2' := fun o => cell_alloc d2 o
  have HB0 : Hid (Below w.heap.size w (w.alloc (.cells #[.slice (some ⟨b, off, none⟩) P.length cap] 25))) := (Below.refl _ _).alloc (Nat.le_refl _) _
  have HBX : Hid ((w.alloc (.cells #[.slice (some ⟨b, off, none⟩) P.length cap] 25)).cell? ⟨w.heap.size, 0, none⟩ = some (.slice (some ⟨b, off, none⟩) P.length cap)) := by show _ = _; simp
  rw [hlen2] at hl1 hl2
  generalize rdL P f = RL at HRL HRN ⊢
  generalize setL f = SL at HSL HRN ⊢
  have hlenH : Hid (f.code.length = n2) := hlen2
  clear hfo hfe ht hc hv d0 d1 hlen2
  unfold maxLen at hmx2
  go_enter Tryd.func38, Tryd.ntmps38
  go_wp2
  clear d2'
  go_loopw [4, 5, 17] (fun u4 u5 i wr => ∃ (q : Nat) (rv sv : Value), q ≤ n2 ∧ i = .int .i64 q ∧ u4 = rv ∧ u5 = sv ∧ wr.ownsRow (w.heap.size + 1) 3 1 rv q (i64s (RL.take q)) ∧ wr.ownsRow (w.heap.size + 1) 3 1 sv q (i64s (SL.take q)) ∧ (∀ g, rv.ownBlock = some g → sv.ownBlock ≠ some g) ∧ Below (w.heap.size + 1) (w.alloc (.cells #[.slice (some ⟨b, off, none⟩) P.length cap] 25)) wr) (fun _ _ i _ => n2 - (intOf i).toNat)
  case atStart => exact ⟨0, _, _, Nat.zero_le _, rfl, rfl, rfl, ⟨rfl, Or.inl ⟨rfl, rfl⟩⟩, ⟨rfl, Or.inl ⟨rfl, rfl⟩⟩, fun g h => (by cases h), Below.refl _ _⟩
  case round =>
    obtain ⟨q, rv, sv, hq, rfl, e4, e5, hor, hos, hap, hbr⟩ := hrel
    replace e4 := e4.symm
    replace e5 := e5.symm
    subst e4 e5
    have HBR : Hid (Below (w.heap.size + 1) (w.alloc (.cells #[.slice (some ⟨b, off, none⟩) P.length cap] 25)) wr) := hbr
    have hzr : w.heap.size + 1 ≤ wr.heap.size := by have := hbr.size; simpa using this
    have HBW : Hid (Below w.heap.size w wr) := HB0.out.trans (hbr.mono (Nat.le_succ _))
    have HOR : Hid (wr.ownsRow (w.heap.size + 1) 3 1 rv q (i64s (RL.take q))) := hor
    have HOS : Hid (wr.ownsRow (w.heap.size + 1) 3 1 sv q (i64s (SL.take q))) := hos
    have HAP : Hid (∀ g, rv.ownBlock = some g → sv.ownBlock ≠ some g) := hap
    by_cases hlt : q < n2
    · have hqf : q < f.code.length := by rw [hlenH.out]; exact hlt
      have hrd := HRD.out q hqf wr HBW.out
      have HR2 : Hid (RL.take (q + 1) = RL.take q ++ [(rdMask P f.code[q] : Int)]) := HRL.out q hqf
      have HS2 : Hid (SL.take (q + 1) = SL.take q ++ [(setMask f.code[q] : Int)]) := HSL.out q hqf
      generalize (rdMask P f.code[q] : Int) = rz at hrd HR2
      generalize (setMask f.code[q] : Int) = sz at hrd HS2
      have kb := (hbr.cell (p := ⟨w.heap.size, 0, none⟩) (Nat.lt_succ_self _)).trans HBX.out
      have hqI : (q : Int) < n2 := by omega
      clear hor hos hap hbr hqf
      go_wp2_with (first
        | (go_at_call 59; refine hrd.mono ?_; rintro e w1 ⟨rfl, hb1⟩; have hz1 := hb1.size; have OR1 := ownsRow_below HOR.out hb1; have OS1 := ownsRow_below HOS.out hb1)
        | (at_builtin; refine wpList_append_lies _ rfl (.tmp 28) (.tmp 30) 37 rfl (w.heap.size + 1) 3 i64i _ 1 8 Tryd.underlying37 hi64 hz0 hz1' hz2 rfl (by decide) _ _ _ rfl (OR1.alloc _) ⟨_, 0, none⟩ 1 1 (i64s [rz]) rfl rfl (news_list _ _ _ _ rfl) (i64s_one _) (by omega) (by unfold maxLen; omega) (by omega) (by simp; omega) (w1.heap.size + 1) (by simp) ?_; intro g1 cap1 w2 hown1 hg1 hat1 hlt1; rw [← i64s_append] at hown1; have OS2 := (OS1.alloc (.cells (i64s [rz]).toArray 3)).kept hg1 (by cases hsb : sv.ownBlock with | none => exact Or.inl rfl | some g => exact Or.inr (fun e => HAP.out g e.symm hsb)))
        | (at_builtin; refine wpList_append_lies _ rfl (.tmp 32) (.tmp 34) 37 rfl (w.heap.size + 1) 3 i64i _ 1 8 Tryd.underlying37 hi64 hz0 hz1' hz2 rfl (by decide) _ _ _ rfl (OS2.alloc _) ⟨_, 0, none⟩ 1 1 (i64s [sz]) rfl rfl (news_list _ _ _ _ rfl) (i64s_one _) (by omega) (by unfold maxLen; omega) (by omega) (by have := hg1.size; simp at this ⊢; omega) (w2.heap.size + 1) (by simp) ?_; intro g2 cap2' w3 hown2 hg2 hat2 hlt2; rw [← i64s_append] at hown2))
      have hsn : sv.ownBlock ≠ some g1 := by
        rcases hat1 with h | h
        · exact HAP.out g1 h
        · intro e
          have := (OS1.lt g1 e).2
          omega
      have OR3 := (hown1.alloc (.cells (i64s [sz]).toArray 3)).kept hg2 (Or.inr (fun e => hsn e.symm))
      have hb2 : Below (w.heap.size + 1) (w1.alloc (.cells (i64s [rz]).toArray 3)) w2 := grown_base (OR1.alloc _) (by simp; omega) hg1
      have hb3 : Below (w.heap.size + 1) (w2.alloc (.cells (i64s [sz]).toArray 3)) w3 := grown_base (OS2.alloc _) (by have := hb2.size; simp at this ⊢; omega) hg2
      have hball : Below (w.heap.size + 1) (w.alloc (.cells #[.slice (some ⟨b, off, none⟩) P.length cap] 25)) w3 := by
        have a1 := below_call HBR.out hzr hb1
        have a2 := (a1.alloc (by omega) (.cells (i64s [rz]).toArray 3)).trans hb2
        have hz2 : w.heap.size + 1 ≤ w2.heap.size := by have := hb2.size; simp at this; omega
        exact (a2.alloc hz2 (.cells (i64s [sz]).toArray 3)).trans hb3
      have hgg : g1 ≠ g2 := by
        rcases hat2 with h | h
        · intro e; exact hsn (by rw [e]; exact h)
        · omega
      go_roundw
      case rel => exact ⟨q + 1, _, _, by omega, by go_num, rfl, rfl, by rw [HR2.out]; exact OR3, by rw [HS2.out]; exact hown2, fun g e1 e2 => hgg (by simp [Value.ownBlock] at e1 e2; omega), hball⟩
      case measure => simp [intOf]; omega
    · obtain rfl : q = n2 := by omega
      have e1 : RL.take q = RL := List.take_of_length_le (by have := HRN.out; have := hlenH.out; omega)
      have e2 : SL.take q = SL := List.take_of_length_le (by have := HRN.out; have := hlenH.out; omega)
      have HV1 : Hid (IntsVal wr rv RL) := ints_of_own (by have h := HOR.out; rw [e1] at h; have e3 : RL.length = q := by have := HRN.out; have := hlenH.out; omega
                                                           rw [e3]; exact h)
      have HV2 : Hid (IntsVal wr sv SL) := ints_of_own (by have h := HOS.out; rw [e2] at h; have e3 : SL.length = q := by have := HRN.out; have := hlenH.out; omega
                                                           rw [e3]; exact h)
      clear hor hos hap hbr e1 e2
      go_wp2
      go_ret2
      refine ⟨rv, sv, rfl, HV1.out, HV2.out, fun b' off' n' c' h => ?_, HBW.out⟩
      rcases h with rfl | rfl
      · have := (HOR.out.lt b' rfl).1; omega
      · have := (HOS.out.lt b' rfl).1; omega
theorem prog_codeF {w : World} {v : Value} {P : List Fn} (hv : ProgVal w v P) {k : Nat} (hk : k < P.length) (h1 : 1 ≤ P[k].code.length) :
    ∃ b off cap b2 off2 cap2, v = .slice (some ⟨b, off, none⟩) P.length cap ∧ cap ≤ 9223372036854775807 ∧ P.length ≤ cap ∧ cap2 ≤ 9223372036854775807 ∧ P[k].code.length ≤ cap2 ∧
      ∀ W, Below w.heap.size w W → W.cell? ⟨b, off + k * 3 + 2, none⟩ = some (.slice (some ⟨b2, off2, none⟩) P[k].code.length cap2) ∧ ∀ q, q < P[k].code.length → insAt W b2 (off2 + q * 5) (insD P[k] q) := by
  obtain ⟨b, off, cap, u, rfl, d0, d1, d2, hcv, hm, hcc⟩ := prog_fn hv hk
  obtain ⟨ao2, b2, off2, n2, cap2, rfl, ⟨hlen2, haddr2, hat2⟩, hcap2, hmx2⟩ := hcv
  subst hlen2
  obtain rfl := haddr2 (by omega)
  refine ⟨b, off, cap, b2, off2, cap2, rfl, hm, hcc, by simpa [maxLen] using hmx2, hcap2.1, fun W hW => ⟨keeps_below hW _ _ d2, fun q hq => ?_⟩⟩
  rw [insD_eq hq]
  exact (hat2 q hq).keeps (keeps_below hW)
set_option maxRecDepth 100000 in
set_option maxHeartbeats 4000000 in
theorem live_low (P : List Fn) (hR : ProofAns P 0) (k : Nat) (hk : k < P.length) (v : Value) (w : World) (ht : TabOk w) (hc : CallOk w) (hv : ProgVal w v P) :
    Calls Tryd.prog 23 #[.agg #[v], .int .i64 k] w fun e w' => ∃ v' L, e = .returned v' ∧ LiveSpec P P[k] L ∧ IntsVal w' v' L ∧ (∀ a n c, v' = .slice (some a) n c → w.heap.size ≤ a.block) ∧ Below w.heap.size w w' := by
  obtain ⟨i64i, hi64, hz0, hz1', hz2⟩ := info_parts info64
  have hP := right_code hR
  have OK : Hid (FlowOk P P[k]) := flowOk_of hR (List.getElem_mem hk)
  have hl1 := OK.out.ok.len1
  have hl2 := OK.out.ok.len2
  have hfe := fnErr_ok hP hk
  have HRE : Hid (∀ A, SureAns P k A → A.length = P[k].code.length ∧ ∀ q, q < P[k].code.length → (0 ≤ A.getD q 0 ↔ Way P[k] 63 q)) := fun A hA => reach_sure hfe hk hA
  have hbx : ∀ o, Below w.heap.size w (w.alloc o) := fun o => (Below.refl _ _).alloc (Nat.le_refl _) _
  have hSu := fun o => sure_all P v k (w.alloc o) (ht.below (hbx o)) (hv.keeps (keeps_below (hbx o)))
  rw [hfe] at hSu
  have HTO : Hid (∀ W, Below w.heap.size w W → Calls Tryd.prog 38 #[.agg #[v], .int .i64 k] W fun e w' => ∃ v1 v2, e = .returned (.tuple #[v1, v2]) ∧ IntsVal w' v1 (rdL P P[k]) ∧ IntsVal w' v2 (setL P[k]) ∧ (∀ b off n c, (v1 = .slice (some ⟨b, off, none⟩) n c ∨ v2 = .slice (some ⟨b, off, none⟩) n c) → W.heap.size ≤ b) ∧ Below W.heap.size W w') := fun W hb => touched_any P hP k hk v W (ht.below hb) (hc.below hb) (hv.keeps (keeps_below hb))
  obtain ⟨b, off, cap, b2, off2, cap2, rfl, hm, hcc, hm2, hcc2, hpc⟩ := prog_codeF hv hk hl1
  have HPC : Hid (∀ W, Below w.heap.size w W → W.cell? ⟨b, off + k * 3 + 2, none⟩ = some (.slice (some ⟨b2, off2, none⟩) P[k].code.length cap2) ∧ ∀ q, q < P[k].code.length → insAt W b2 (off2 + q * 5) (insD P[k] q)) := hpc
  have HRL : Hid (∀ q, q < P[k].code.length → (rdL P P[k]).getD q 0 = (rdMask P (insD P[k] q) : Int) ∧ (setL P[k]).getD q 0 = (setMask (insD P[k] q) : Int)) := fun q hq => by
    rw [insD_eq hq]; simp [rdL, setL, List.getD, hq]
  have HRN : Hid ((rdL P P[k]).length = P[k].code.length ∧ (setL P[k]).length = P[k].code.length) := ⟨rdL_len _ _, setL_len _⟩
  have hkI : (k : Int) < P.length := by omega
  clear hfe hbx ht hc hv hpc hP
  generalize P[k] = f at *
  generalize hN : f.code.length = n at *
  have HN : Hid (f.code.length = n) := hN
  clear hN
  have hm0 := made_ints0 n
  go_enter Tryd.func23, Tryd.ntmps23
  go_wp2_with (first
    | (go_at_call 37; refine (hSu _).mono ?_; rintro e w1 ⟨v1, A, rfl, hA, hI, hb1⟩; obtain ⟨hAl, hAw⟩ := HRE.out A hA; obtain ⟨ao1, b1, off1, n1, cap1, rfl, hl, ha, hc, hcp, hmc⟩ := ints_get hI; obtain rfl : n = n1 := hAl.symm.trans hl; obtain rfl := ha (by omega); have HAW : Hid (∀ q, q < n → (0 ≤ A.getD q 0 ↔ Way f 63 q)) := hAw; have HC : Hid (∀ q, q < n → w1.cell? ⟨b1, off1 + q, none⟩ = some (.int .i64 (A.getD q 0))) := hc; have kbx := keeps_below hb1 ⟨w.heap.size, 0, none⟩ (.slice (some ⟨b, off, none⟩) P.length cap) (by simp); clear hAl hAw hl ha hc hI hA)
    | (at_make; refine wpList_make_full _ rfl (.tmp 21) (.tmp 21) 37 rfl 0 3 i64i _ 1 Tryd.underlying37 hi64 hz0 hz1' .i64 .i64 _ _ n rfl rfl (by simp) (by simp) (by rw [hz2]; omega) (by unfold maxLen; omega) (Nat.zero_le _) ?_; intro w2 hown2 hg2; rw [hm0] at hown2; have hb2 := below_grown hg2))
  have hz1 : w.heap.size < w1.heap.size := by have := hb1.size; simp at this; omega
  have HB2 : Hid (Below w.heap.size w w2) := below_call (((Below.refl _ _).alloc (Nat.le_refl _) _).trans (hb1.mono (by simp))) (by omega) hb2
  have HC2 : Hid (∀ q, q < n → w2.cell? ⟨b1, off1 + q, none⟩ = some (.int .i64 (A.getD q 0))) := fun q hq => keeps_below hb2 _ _ (HC.out q hq)
  have hb1l : b1 < w1.heap.size := World.block_lt_of_cell? _ _ (HC.out 0 (by omega))
  have HOWN : Hid (IntRow w2 w1.heap.size n (List.replicate n 0)) := hown2
  have HKB : Hid (w2.cell? ⟨w.heap.size, 0, none⟩ = some (.slice (some ⟨b, off, none⟩) P.length cap)) := keeps_below hb2 _ _ kbx
  clear hown2 hg2 hb2 HC hSu hb1 kbx
  have hz2 := HB2.out.size
  have hzr2 : w1.heap.size < w2.heap.size := lt_of_block (own_heap HOWN.out)
  generalize w1.heap.size = g at *
  go_loopw [25] (fun i wr => ∃ (q : Nat) (L : List Int), q ≤ n ∧ i = .int .i64 q ∧ (L.length = n ∧ ∀ j, j < n → L.getD j 0 = if j < q ∧ A.getD j 0 < 0 then -1 else 0) ∧ IntRow wr g n L ∧ w2.grownBy wr (some g)) (fun i _ => n - (intOf i).toNat)
  case atStart => exact ⟨0, _, Nat.zero_le _, rfl, ⟨by simp, fun j h => by simp [List.getD, h]⟩, HOWN.out, gb_refl _ _⟩
  case round =>
    obtain ⟨q, L, hq, rfl, hs, hrow, hgr⟩ := hrel
    by_cases hlt : q < n
    · have c1 := gb_cell hgr (HC2.out q hlt) (by show b1 ≠ _; omega)
      have cf := hrow.frozenAt q
      have cc := int_cell hrow hs.1 q hlt
      have HST := int_store hrow q (-1)
      have HX1 : Hid (IntRow (wr.setCell ⟨g, q, none⟩ (.int .i64 (-1))) g n (L.set q (-1))) := HST.1
      have HX2 : Hid (w2.grownBy (wr.setCell ⟨g, q, none⟩ (.int .i64 (-1))) (some g)) := gb_trans hgr HST.2
      have HS1 : Hid (A.getD q 0 < 0 → (L.set q (-1)).length = n ∧ ∀ j, j < n → (L.set q (-1)).getD j 0 = if j < q + 1 ∧ A.getD j 0 < 0 then -1 else 0) := by
        intro hA
        refine ⟨by simp [hs.1], fun j hj => ?_⟩
        rw [igetD_set _ _ _ _ (by rw [hs.1]; exact hlt)]
        by_cases hjq : j = q
        · rw [if_pos hjq, if_pos ⟨by omega, by rw [hjq]; exact hA⟩]
        · rw [if_neg hjq, hs.2 j hj]
          by_cases hjl : j < q ∧ A.getD j 0 < 0
          · rw [if_pos hjl, if_pos ⟨by omega, hjl.2⟩]
          · rw [if_neg hjl, if_neg (fun h => hjl ⟨by omega, h.2⟩)]
      have HS2 : Hid (¬ A.getD q 0 < 0 → L.length = n ∧ ∀ j, j < n → L.getD j 0 = if j < q + 1 ∧ A.getD j 0 < 0 then -1 else 0) := by
        intro hA
        refine ⟨hs.1, fun j hj => ?_⟩
        rw [hs.2 j hj]
        by_cases hjl : j < q ∧ A.getD j 0 < 0
        · rw [if_pos hjl, if_pos ⟨by omega, hjl.2⟩]
        · rw [if_neg hjl, if_neg]
          intro h
          by_cases hjq : j = q
          · exact hA (by rw [← hjq]; exact h.2)
          · exact hjl ⟨by omega, h.2⟩
      have HRW : Hid (IntRow wr g n L) := hrow
      have HGR : Hid (w2.grownBy wr (some g)) := hgr
      have hqI : (q : Int) < n := by omega
      clear HST hrow hgr hs
      by_cases hA : A.getD q 0 < 0
      · have hA2 : decide (A.getD q 0 < 0) = true := by simpa using hA
        have HS := HS1.out hA
        have HSH : Hid ((L.set q (-1)).length = n ∧ ∀ j, j < n → (L.set q (-1)).getD j 0 = if j < q + 1 ∧ A.getD j 0 < 0 then -1 else 0) := HS
        generalize A.getD q 0 = z at c1 hA2
        clear HS HS1 HS2 hA
        go_wp2
        go_roundw
        case rel => exact ⟨q + 1, _, by omega, by go_num, HSH.out, HX1.out, HX2.out⟩
        case measure => simp [intOf]; omega
      · have hA2 : decide (A.getD q 0 < 0) = false := by simpa using hA
        have HS := HS2.out hA
        have HSH : Hid (L.length = n ∧ ∀ j, j < n → L.getD j 0 = if j < q + 1 ∧ A.getD j 0 < 0 then -1 else 0) := HS
        generalize A.getD q 0 = z at c1 hA2
        clear HS HS1 HS2 hA
        go_wp2
        go_roundw
        case rel => exact ⟨q + 1, L, by omega, by go_num, HSH.out, HRW.out, HGR.out⟩
        case measure => simp [intOf]; omega
    · obtain rfl : q = n := by omega
      have HLL : Hid (LLoops P f true L) := LLoops.start (by rw [HN.out]; exact hs.1) (fun j hj hw => by
          rw [HN.out] at hj
          have hneg : A.getD j 0 < 0 := by
            rcases Int.lt_or_le (A.getD j 0) 0 with h | h
            · exact h
            · exact absurd ((HAW.out j hj).1 h) hw
          rw [hs.2 j hj, if_pos ⟨hj, hneg⟩]) (fun j hj hw => by
          rw [HN.out] at hj
          rw [hs.2 j hj, if_neg]
          intro h
          have := (HAW.out j hj).2 hw
          omega)
      have HB3 : Hid (Below w.heap.size w wr) := below_gb HB2.out hgr (by omega) (by omega)
      have kb3 := gb_cell hgr HKB.out (by show w.heap.size ≠ _; omega)
      have HRW : Hid (IntRow wr g q L) := hrow
      have hg3 : g < wr.heap.size := by have := hgr.size; omega
      have hTO := HTO.out wr HB3.out
      clear hs hrow hgr HOWN HKB HC2
      go_upto_region 11 with (go_at_call 38; refine hTO.mono ?_; rintro e w4 ⟨tv1, tv2, rfl, hi1, hi2, hfr4, hb4⟩; obtain ⟨aor, br, offr, nr, capr, rfl, hlr, har, hcr, hcpr, hmr⟩ := ints_get hi1; obtain ⟨aos, bs, offs, ns, caps, rfl, hls, has, hcs, hcps, hms⟩ := ints_get hi2)
      obtain rfl : q = nr := by have := HRN.out; omega
      obtain rfl : q = ns := by have := HRN.out; omega
      obtain rfl := har (by omega)
      obtain rfl := has (by omega)
      have hbrg : br ≠ g := by have := hfr4 br offr q capr (Or.inl rfl); omega
      have hbsg : bs ≠ g := by have := hfr4 bs offs q caps (Or.inr rfl); omega
      have hz4 := hb4.size
      have HCR : Hid (∀ j, j < q → w4.cell? ⟨br, offr + j, none⟩ = some (.int .i64 (rdMask P (insD f j) : Int)) ∧ w4.cell? ⟨bs, offs + j, none⟩ = some (.int .i64 (setMask (insD f j) : Int))) := fun j hj => ⟨by rw [hcr j hj, (HRL.out j hj).1], by rw [hcs j hj, (HRL.out j hj).2]⟩
      have HB4 : Hid (Below w.heap.size w w4) := below_call HB3.out (by omega) hb4
      have kb4 := keeps_below hb4 _ _ kb3
      have HR4 : Hid (IntRow w4 g q L) := ownsRow_below HRW.out hb4
      have hqm : q ≤ maxLen := by unfold maxLen; omega
      clear hcr hcs hlr hls har has hi1 hi2 hfr4 hb4 kb3 hTO HRW HB3 HRL HRN HAW HRE HTO
      have hw0 : IntKind.i64.wrap ((q : Int) - 1) = (q : Int) - 1 := wrap_signed _ (by omega) (by omega)
      go_loopg [11] (totL L + 1) (fun m ag wl => ∃ (again : Bool) (L' : List Int), m = totL L' + (if again = true then 1 else 0) ∧ ag = .bool again ∧ LLoops P f again L' ∧ IntRow wl g q L' ∧ w4.grownBy wl (some g))
      case atStart => exact ⟨true, L, rfl, rfl, HLL.out, HR4.out, gb_refl _ _⟩
      case round =>
        obtain ⟨again, L', hm', rfl, hlp, hrow, hgr⟩ := hrel
        rename World => wo
        have HM : Hid (gk = totL L' + (if again = true then 1 else 0)) := hm'
        have HLP : Hid (LLoops P f again L') := hlp
        have HRO : Hid (IntRow wo g q L') := hrow
        have HGO : Hid (w4.grownBy wo (some g)) := hgr
        have hzo : w4.heap.size ≤ wo.heap.size := hgr.size
        have HBO : Hid (Below w.heap.size w wo) := below_gb HB4.out hgr (by omega) (by omega)
        clear hm' hlp hrow hgr
        cases again
        · go_wp2
          go_ret
          exact ⟨_, L', rfl, HLP.out.spec OK.out, int_vals HRO.out (HLP.out.inv.len.trans HN.out) hqm, fun a n c e => by cases e; show _ ≤ g; omega, HBO.out⟩
        · go_wp2
          go_loopw [11, 12] (fun ag i wi => ∃ (kk : Nat) (z : Int) (again' : Bool) (L2 : List Int), kk ≤ q ∧ z = (kk : Int) - 1 ∧ i = .int .i64 z ∧ ag = .bool again' ∧ LMid P f L' kk again' L2 ∧ IntRow wi g q L2 ∧ wo.grownBy wi (some g)) (fun _ i _ => (intOf i + 1).toNat)
          case atStart => exact ⟨q, _, false, L', Nat.le_refl _, rfl, rfl, rfl, (by have h := LMid.start HLP.out.inv; rw [HN.out] at h; exact h), HRO.out, gb_refl _ _⟩
          case round =>
            obtain ⟨kk, z, again', L2, hkk, hz, rfl, rfl, hmid, hrow, hgr⟩ := hrel
            have HBI : Hid (Below w.heap.size w wr) := below_gb HBO.out hgr (by omega) (by omega)
            rcases kk with _ | j
            · have hz1n : ¬ (0 ≤ z) := by omega
              have hz2n : decide (0 ≤ z) = false := by simpa using hz1n
              clear hz
              have HX := LLoops.next hmid
              have HXH : Hid (LLoops P f again' L2 ∧ totL L2 + (if again' = true then 1 else 0) < totL L' + 1) := HX
              have HRI : Hid (IntRow wr g q L2) := hrow
              have HGI : Hid (w4.grownBy wr (some g)) := gb_trans HGO.out hgr
              clear HX hmid hrow hgr
              go_wp2
              go_roundg (totL L2 + (if again' = true then 1 else 0))
              case measure => rw [HM.out]; exact HXH.out.2
              case rel => exact ⟨again', L2, rfl, rfl, HXH.out.1, HRI.out, HGI.out⟩
            · obtain rfl : z = (j : Int) := by omega
              clear hz
              have hjq : j < q := by omega
              have hjf : j < f.code.length := by rw [HN.out]; exact hjq
              have hlen2 : L2.length = q := hmid.inv.len.trans HN.out
              have cj := int_cell hrow hlen2 j hjq
              have hjI : (j : Int) < q := by omega
              have hwj : IntKind.i64.wrap ((j : Int) - 1) = (j : Int) - 1 := wrap_signed _ (by omega) (by omega)
              have HRI : Hid (IntRow wr g q L2) := hrow
              have HGI : Hid (wo.grownBy wr (some g)) := hgr
              by_cases hw : Way f 63 j
              · have hge := hmid.inv.mk_eq hjf hw
                have HSTEP : Hid (LMid P f L' j (again' || (aheadL P f L2 j != mkL L2 j)) (L2.set j (aheadL P f L2 j : Int))) := hmid.step OK.out hjf hw
                have hwl := hmid.inv.want_lt OK.out hjf hw
                have hahl := hmid.inv.ahead_lt OK.out hjf hw
                have hsl := OK.out.ok.sets j
                have hrl := rdMask_lt12 (OK.out.insD hjf).1
                have HWD : Hid (∀ d : Later wr, Calls Tryd.prog 39 #[.slice (some ⟨g, 0, none⟩) q q, (insD f j).val, .int .i64 j] d.to fun e w' => e = .returned (.int .i64 (wantL L2 (behind (insD f j) j) : Int)) ∧ Below d.to.heap.size d.to w') := fun d => wanted_any (insD f j) j L2 g q q d.to (OK.out.insD hjf).2 (by omega) (by omega) (fun t ht => keeps_below d.below _ _ (int_cell HRI.out hlen2 t ht)) (fun t ht => by
                  obtain ⟨t1, t2⟩ := OK.out.on hjf hw ht
                  have := hmid.inv.yes t t2 t1
                  exact ⟨by rw [HN.out] at t2; exact t2, this.1, this.2⟩)
                have hll := lessM_le (wantL L2 (behind (insD f j) j)) (setMask (insD f j)) (by omega)
                have hand := lessM_int (wantL L2 (behind (insD f j) j)) (setMask (insD f j)) (by omega) (by omega)
                have hor : bits .or .i64 (rdMask P (insD f j) : Int) (lessM (wantL L2 (behind (insD f j) j)) (setMask (insD f j)) : Int) = (aheadL P f L2 j : Int) := bits_or_nat _ _ (by omega) (by omega)
                obtain ⟨cr, cs⟩ := HCR.out j hjq
                have e0 := Later.cell (gb_cell HGI.out (gb_cell HGO.out cr hbrg) hbrg)
                have e1 := Later.cell (gb_cell HGI.out (gb_cell HGO.out cs hbsg) hbsg)
                have e2 := Later.cell (gb_cell HGI.out (gb_cell HGO.out kb4 (by show w.heap.size ≠ g; omega)) (by show w.heap.size ≠ g; omega))
                obtain ⟨pc1, pc2⟩ := HPC.out wr HBI.out
                have e3 := Later.cell pc1
                obtain ⟨x0, x1, x2, x3, x4⟩ := pc2 j hjq
                have m0 := Later.cell x0
                have m1 := Later.cell x1
                have m2 := Later.cell x2
                have m3 := Later.cell x3
                have m4 := Later.cell x4
                rw [hge.1] at cj
                have ecj := Later.cell cj
                have hne1 : ((mkL L2 j : Int) == -1) = false := by simp
                have HNE : Hid (((aheadL P f L2 j : Int) != (mkL L2 j : Int)) = (aheadL P f L2 j != mkL L2 j)) := by
                  show _ = _
                  rw [Bool.eq_iff_iff, bne_iff_ne, bne_iff_ne]; omega
                have HSET : Hid (∀ W, IntRow W g q L2 → IntRow (W.setCell ⟨g, j, none⟩ (.int .i64 (aheadL P f L2 j : Int))) g q (L2.set j (aheadL P f L2 j : Int)) ∧ W.grownBy (W.setCell ⟨g, j, none⟩ (.int .i64 (aheadL P f L2 j : Int))) (some g)) := fun W h => int_store h j _
                clear hmid hrow hgr hge hwl hahl hsl hrl hll cr cs x0 x1 x2 x3 x4 pc1 pc2
                generalize (L2.set j (aheadL P f L2 j : Int)) = L3 at HSET HSTEP
                generalize hcw : (aheadL P f L2 j != mkL L2 j) = ne at HNE HSTEP
                clear hcw
                generalize (lessM (wantL L2 (behind (insD f j) j)) (setMask (insD f j)) : Int) = LM at hand hor
                generalize (wantL L2 (behind (insD f j) j) : Int) = WE at hand HWD
                generalize (setMask (insD f j) : Int) = SM at e1 hand
                generalize (rdMask P (insD f j) : Int) = RM at e0 hor
                generalize (aheadL P f L2 j : Int) = AH at hor HNE HSET
                generalize (mkL L2 j : Int) = MK at cj ecj hne1 HNE
                have hwd := HWD.out
                generalize insD f j = xx at m0 m1 m2 m3 m4 hwd
                obtain ⟨op, dst, xa, xb, imm⟩ := xx
                unfold Ins.val at hwd
                dsimp only at m0 m1 m2 m3 m4 hwd
                clear HWD
                go_wp2
                refine wp_region_later (by kernel_rfl) (by kernel_rfl) ?_
                repeat (go_big_quiet_step ((go_at_call 39; exact calls_later (hwd _))))
                refine wpQuiet_nil ?_
                intro _ hw'
                obtain ⟨d, hw''⟩ := hw'
                subst hw''
                have ecd := ecj d
                have hRd : Hid (IntRow d.to g q L2) := ownsRow_below HRI.out d.below
                have hfz := hRd.out.frozenAt j
                have HSd := HSET.out d.to hRd.out
                have HS1 : Hid (IntRow (d.to.setCell ⟨g, j, none⟩ (.int .i64 AH)) g q L3) := HSd.1
                have HS2 : Hid (wo.grownBy (d.to.setCell ⟨g, j, none⟩ (.int .i64 AH)) (some g)) := gb_trans (gb_trans HGI.out (gb_below _ d.below)) HSd.2
                clear HSd e0 e1 e2 e3 m0 m1 m2 m3 m4 ecj hwd cj
                cases again'
                · cases ne
                  · have hne : (AH != MK) = false := HNE.out
                    go_wp2
                    go_roundw
                    case rel => exact ⟨j, _, false, L3, by omega, rfl, rfl, rfl, HSTEP.out, HS1.out, HS2.out⟩
                    case measure => simp [intOf]
                  · have hne : (AH != MK) = true := HNE.out
                    go_wp2
                    go_roundw
                    case rel => exact ⟨j, _, true, L3, by omega, rfl, rfl, rfl, HSTEP.out, HS1.out, HS2.out⟩
                    case measure => simp [intOf]
                · go_wp2
                  go_roundw
                  case rel => exact ⟨j, _, true, L3, by omega, rfl, rfl, rfl, HSTEP.out, HS1.out, HS2.out⟩
                  case measure => simp [intOf]
              · have hno := hmid.inv.no j hjf hw
                have HSK : Hid (LMid P f L' j again' L2) := hmid.skip hw
                rw [hno] at cj
                clear hmid hrow hgr hno
                go_wp2
                go_roundw
                case rel => exact ⟨j, _, again', L2, by omega, rfl, rfl, rfl, HSK.out, HRI.out, HGI.out⟩
                case measure => simp [intOf]
end Go.Proofs.YtldbmdgpdolaaaaDoor
namespace Go.Proofs.YtldbmdgpdolaaaaDoor
open Go Go.RowKit

def FlowErr (P : List Fn) (fn E : Int) : Prop := (E ≠ 0 ∧ ProofAns P E) ∨ (ProofAns P 0 ∧ E = if 0 ≤ fn ∧ fn < P.length then 0 else 2)
theorem flowErr_right {P : List Fn} {fn E : Int} (h : FlowErr P fn E) (hR : ProofAns P 0) (h0 : 0 ≤ fn) (h1 : fn < P.length) : E = 0 := by
  rcases h with ⟨hn, ha⟩ | ⟨_, e⟩
  · exact absurd (proofAns_unique ha hR) hn
  · rw [e, if_pos ⟨h0, h1⟩]
set_option maxRecDepth 100000 in
theorem flowCheck_any (P : List Fn) (v : Value) (fn : Int) (w : World) (ht : TabOk w) (hc : CallOk w) (hv : ProgVal w v P) :
    Calls Tryd.prog 22 #[.agg #[v], .int .i64 fn] w fun e w' => ∃ E, e = .returned (.int .i64 E) ∧ FlowErr P fn E ∧ Below w.heap.size w w' := by
  have hbx : ∀ o, Below w.heap.size w (w.alloc o) := fun o => (Below.refl _ _).alloc (Nat.le_refl _) _
  have hC := fun o => pcheck_any P v (w.alloc o) (ht.below (hbx o)) (hc.below (hbx o)) (hv.keeps (keeps_below (hbx o)))
  obtain ⟨ao, b, off, n, cap, rfl, hin, hcap, hmax⟩ := hv
  obtain ⟨hlen, _, _⟩ := hin
  unfold maxLen at hmax
  have HLEN : Hid (P.length = n) := hlen
  clear ht hbx hlen hc
  go_enter Tryd.func22, Tryd.ntmps22
  go_upto_region 2 with (go_at_call 12; refine (hC _).mono ?_; rintro e w1 ⟨E, rfl, hE, hb1⟩; have k0 := keeps_below hb1 ⟨w.heap.size, 0, none⟩ (.slice ao n cap) (by simp))
  have HB : Hid (Below w.heap.size w w1) := ((Below.refl _ _).alloc (Nat.le_refl _) _).trans (hb1.mono (by simp))
  have HE : Hid (ProofAns P E) := hE
  clear hE hb1 hC
  by_cases h0 : E = 0
  · subst h0
    by_cases h1 : 0 ≤ fn
    · by_cases h2 : fn < n
      · go_wp2
        go_ret
        exact ⟨0, rfl, Or.inr ⟨HE.out, by rw [if_pos (by have := HLEN.out; omega)]⟩, HB.out⟩
      · have h2' : decide ((n : Int) ≤ fn) = true := by simp; omega
        go_wp2
        go_ret
        exact ⟨2, rfl, Or.inr ⟨HE.out, by rw [if_neg (by have := HLEN.out; omega)]⟩, HB.out⟩
    · have h1' : decide (fn < 0) = true := by simp; omega
      go_wp2
      go_ret
      exact ⟨2, rfl, Or.inr ⟨HE.out, by rw [if_neg (by omega)]⟩, HB.out⟩
  · have h0' : (E != 0) = true := by simpa using h0
    have H0 : Hid (E ≠ 0) := h0
    clear h0
    go_wp2
    go_ret
    exact ⟨E, rfl, Or.inl ⟨H0.out, HE.out⟩, HB.out⟩
set_option maxRecDepth 100000 in
theorem Live_low (P : List Fn) (hR : ProofAns P 0) (k : Nat) (hk : k < P.length) (v : Value) (w : World) (ht : TabOk w) (hc : CallOk w) (hv : ProgVal w v P) :
    Calls Tryd.prog 13 #[.agg #[v], .int .i64 k] w fun e w' => ∃ v' L, e = .returned (.tuple #[v', .int .i64 0]) ∧ LiveSpec P P[k] L ∧ IntsVal w' v' L ∧ (∀ a n c, v' = .slice (some a) n c → w.heap.size ≤ a.block) ∧ Below w.heap.size w w' := by
  have hbx : ∀ o, Below w.heap.size w (w.alloc o) := fun o => (Below.refl _ _).alloc (Nat.le_refl _) _
  have hC := fun o => flowCheck_any P v k (w.alloc o) (ht.below (hbx o)) (hc.below (hbx o)) (hv.keeps (keeps_below (hbx o)))
  have HLV : Hid (∀ W, Below w.heap.size w W → Calls Tryd.prog 23 #[.agg #[v], .int .i64 k] W fun e w' => ∃ v' L, e = .returned v' ∧ LiveSpec P P[k] L ∧ IntsVal w' v' L ∧ (∀ a n c, v' = .slice (some a) n c → W.heap.size ≤ a.block) ∧ Below W.heap.size W w') := fun W hb => live_low P hR k hk v W (ht.below hb) (hc.below hb) (hv.keeps (keeps_below hb))
  have HE0 : Hid (∀ E, FlowErr P k E → E = 0) := fun E h => flowErr_right h hR (by omega) (by omega)
  obtain ⟨ao, n, cap, rfl⟩ := hv.shape
  clear ht hc hbx
  go_enter Tryd.func13, Tryd.ntmps13
  go_wp2_with (first
    | (go_at_call 22; refine (hC _).mono ?_; rintro e w1 ⟨E, rfl, hE, hb1⟩; obtain rfl := HE0.out E hE; have k0 := keeps_below hb1 ⟨w.heap.size, 0, none⟩ (.slice ao n cap) (by simp); have HB1 : Hid (Below w.heap.size w w1) := ((Below.refl _ _).alloc (Nat.le_refl _) _).trans (hb1.mono (by simp)); clear hE)
    | (go_at_call 23; refine (HLV.out _ HB1.out).mono ?_; rintro e w2 ⟨v', L, rfl, hL, hI, hlo, hb2⟩))
  go_ret2
  exact ⟨v', L, rfl, hL, hI, fun a n c e => Nat.le_trans HB1.out.size (hlo a n c e), HB1.out.trans (hb2.mono HB1.out.size)⟩
theorem Live_right (P : List Fn) (hR : ProofAns P 0) (k : Nat) (hk : k < P.length) (v : Value) (w : World) (ht : TabOk w) (hc : CallOk w) (hv : ProgVal w v P) :
    Calls Tryd.prog 13 #[.agg #[v], .int .i64 k] w fun e w' => ∃ v' L, e = .returned (.tuple #[v', .int .i64 0]) ∧ LiveSpec P P[k] L ∧ IntsVal w' v' L ∧ Below w.heap.size w w' :=
  (Live_low P hR k hk v w ht hc hv).mono (by rintro e w' ⟨v', L, rfl, h1, h2, _, h3⟩; exact ⟨v', L, rfl, h1, h2, h3⟩)
end Go.Proofs.YtldbmdgpdolaaaaDoor
