/- Contracts of flow.endsBlock, flow.begun and flow.end: where blocks begin, in a map, and where they end. -/
import Derived.Test.YteilohamjijpbaaDoorXBlockMath
import Derived.Test.YteilohamjijpbaaDoorXFlowLive
import Derived.Maps.OwnSet
import Derived.Maps.OwnOps
namespace Go.Proofs.YteilohamjijpbaaDoor
open Go Go.RowKit

theorem mlaw : Maps.Keyed Tryd.prog 3 := Maps.int_keyed Tryd.underlying3
theorem zero_int (w : World) : (zeroValue 3).run Tryd.prog w = .ok (.int .i64 0) w := by kernel_rfl
abbrev Dat := DataW Unit
abbrev MapAt (w : World) (B m : Nat) (D : Dat) : Prop := w.ownsMap Tryd.prog 3 (plainElem Tryd.prog 3) B m D

theorem wpList_insert_own {H : Type} {P : Program} (w : World) {ops : Array Oper} {rest : List Oper} {o : Oper} {a : Act} {Q : Exit → Act → World → Prop}
    (hg : o.guard = none) (m x v : Operand) (t : TypeId) (hop : o.op = Op.insert t m x v)
    (k e : TypeId) (K : Maps.Keyed P k) (ht : P.underlying t = some (.map k e)) (R : Value → Option (DataW H × List MemPlace)) (b n : Nat) (D : DataW H)
    (hm : a.eval m = .map (some b)) (hown : w.ownsMap P k R b n D) (hn : n < maxLen) (key val : Value) (kl : Lit) (hx : a.eval x = key) (hv : a.eval v = val) (hkey : keyOf P k key = some kl)
    (d : DataW H) (ps : List MemPlace) (hval : R val = some (d, ps))
    (hK : ∀ w', w'.ownsMap P k R b (n + 1) (D.put kl d) → w.grownBy w' (some b) → wpList P ops Q rest (a.put o.dst undef) w') :
    wpList P ops Q (o :: rest) a w := by
  refine wpList_plain hg fun K' hK' => ?_
  obtain ⟨w', hrun, r1, r2⟩ := hown.update K ht hn hkey hval
  unfold Oper.wp
  simp [execOp, hop, hm, hx, hv, hrun, Result.andThen]
  exact hK' _ _ (hK w' r1 r2)

theorem has_put {D : Dat} (hD : Maps.IsMap D) (k z : Int) (d : Dat) : Maps.has (D.put (.int .i64 k) d) (.int .i64 z) = (decide (z = k) || Maps.has D (.int .i64 z)) := by
  by_cases h : z = k
  · subst h; rw [Maps.has_put_same hD (show WideAt.IsKeyLit (.int .i64 z) from trivial)]; simp
  · rw [Maps.has_put_other (by simpa using h)]; simp [h]
/-- How many of the first places a map has. -/
def sizeTo (n : Nat) (D : Dat) : Nat := ((List.range n).filter fun q => Maps.has D (.int .i64 ((q : Nat) : Int))).length
theorem filter_more (p p' : Nat → Bool) (t : Nat) (hne : ∀ q, q ≠ t → p' q = p q) (h0 : p t = false) (h1 : p' t = true) : ∀ n, ((List.range n).filter p').length = ((List.range n).filter p).length + (if t < n then 1 else 0) := by
  intro n
  induction n with
  | zero => rfl
  | succ n ih =>
    rw [List.range_succ, List.filter_append, List.filter_append, List.length_append, List.length_append, ih]
    by_cases he : n = t
    · subst he
      rw [if_neg (by omega), if_pos (by omega)]
      simp [h0, h1]
    · have e := hne n he
      have e2 : (List.filter p' [n]).length = (List.filter p [n]).length := by simp only [List.filter_cons, List.filter_nil, e]
      rw [e2]
      by_cases hl : t < n
      · rw [if_pos hl, if_pos (by omega)]; omega
      · rw [if_neg hl, if_neg (by omega)]; omega
theorem size_put_to {D : Dat} (hT : Maps.Tidy D) (n t : Nat) (ht : t < n) (d : Dat) (h : Maps.size D = sizeTo n D) : Maps.size (D.put (.int .i64 (t : Int)) d) = sizeTo n (D.put (.int .i64 (t : Int)) d) := by
  rw [Maps.size_put hT, h]
  unfold sizeTo
  by_cases hh : Maps.has D (.int .i64 (t : Int)) = true
  · rw [if_pos hh]
    congr 2
    funext q
    rw [has_put hT.isMap]
    by_cases hq : (q : Int) = (t : Int)
    · rw [hq, hh]; simp
    · simp [hq]
  · rw [if_neg hh]
    have := filter_more (fun q => Maps.has D (.int .i64 ((q : Nat) : Int))) (fun q => Maps.has (D.put (.int .i64 (t : Int)) d) (.int .i64 ((q : Nat) : Int))) t
      (fun q hq => by rw [has_put hT.isMap]; have : ¬ (q : Int) = (t : Int) := by omega
                      simp [this]) (by simpa using hh) (by rw [has_put hT.isMap]; simp) n
    rw [this, if_pos ht]

/-- Where blocks begin, as far as the first places tell. -/
def BegTo (f : Fn) (k : Nat) (z : Int) : Prop := z = 0 ∨ ∃ pc t : Nat, pc < k ∧ Way f 63 pc ∧ 15 ≤ (insD f pc).op ∧ t ∈ behind (insD f pc) pc ∧ z = (t : Int)
theorem begTo_all {P : List Fn} {f : Fn} (ok : FlowOk P f) (z : Int) : BegTo f f.code.length z ↔ ∃ q : Nat, q < f.code.length ∧ Beg f q ∧ z = (q : Int) := by
  constructor
  · rintro (rfl | ⟨pc, t, h1, h2, h3, h4, rfl⟩)
    · exact ⟨0, by have := ok.ok.len1; omega, Or.inl rfl, rfl⟩
    · exact ⟨t, (ok.on h1 h2 h4).2, Or.inr ⟨pc, h1, h2, h3, h4⟩, rfl⟩
  · rintro ⟨q, _, rfl | ⟨pc, h1, h2, h3, h4⟩, rfl⟩
    · exact Or.inl rfl
    · exact Or.inr ⟨pc, q, h1, h2, h3, h4, rfl⟩
theorem begTo_skip {f : Fn} {k : Nat} (h : ¬ (Way f 63 k ∧ 15 ≤ (insD f k).op)) (z : Int) : BegTo f (k + 1) z ↔ BegTo f k z := by
  constructor
  · rintro (rfl | ⟨pc, t, h1, h2, h3, h4, rfl⟩)
    · exact Or.inl rfl
    · have : pc ≠ k := fun e => h (by rw [← e]; exact ⟨h2, h3⟩)
      exact Or.inr ⟨pc, t, by omega, h2, h3, h4, rfl⟩
  · rintro (rfl | ⟨pc, t, h1, h2, h3, h4, rfl⟩)
    · exact Or.inl rfl
    · exact Or.inr ⟨pc, t, by omega, h2, h3, h4, rfl⟩
theorem begTo_step {f : Fn} {k : Nat} (h : Way f 63 k) (h2 : 15 ≤ (insD f k).op) (z : Int) : BegTo f (k + 1) z ↔ (BegTo f k z ∨ ∃ t ∈ behind (insD f k) k, z = ((t : Nat) : Int)) := by
  constructor
  · rintro (rfl | ⟨pc, t, h1, h2, h3, h4, rfl⟩)
    · exact Or.inl (Or.inl rfl)
    · by_cases e : pc = k
      · subst e; exact Or.inr ⟨t, h4, rfl⟩
      · exact Or.inl (Or.inr ⟨pc, t, by omega, h2, h3, h4, rfl⟩)
  · rintro ((rfl | ⟨pc, t, h1, h2, h3, h4, rfl⟩) | ⟨t, ht, rfl⟩)
    · exact Or.inl rfl
    · exact Or.inr ⟨pc, t, by omega, h2, h3, h4, rfl⟩
    · exact Or.inr ⟨k, t, by omega, h, h2, ht, rfl⟩

/-- The map tells where blocks begin, and which one it is. -/
structure MapOk (S : List Nat) (D : Dat) : Prop where
  has : ∀ z : Int, Maps.has D (.int .i64 z) = true ↔ ∃ q ∈ S, z = ((q : Nat) : Int)
  key : ∀ q ∈ S, ∀ zd : Dat, D.atKey (.int .i64 ((q : Nat) : Int)) zd = .lit (.int .i64 ((rank S q : Nat) : Int))
  size : Maps.size D = S.length
theorem starts_of {P : List Fn} {f : Fn} (ok : FlowOk P f) {D : Dat} (h : ∀ z, Maps.has D (.int .i64 z) = true ↔ BegTo f f.code.length z) :
    Starts f ((List.range f.code.length).filter fun q => Maps.has D (.int .i64 ((q : Nat) : Int))) := by
  refine ⟨List.pairwise_lt_range.filter _, fun q => ?_⟩
  rw [List.mem_filter, List.mem_range, h, begTo_all ok]
  constructor
  · rintro ⟨_, q', _, h2, h3⟩
    obtain rfl : q = q' := by omega
    exact h2
  · intro hb
    exact ⟨(beg_reach ok hb).2, q, (beg_reach ok hb).2, hb, rfl⟩

theorem endsBlock_any (op : Int) (w : World) :
    Calls Tryd.prog 86 #[.int .i64 op] w fun e w' => e = .returned (.bool (decide (15 ≤ op ∧ op ≤ 19))) ∧ w' = w := by
  by_cases h15 : op = 15
  · subst h15; go_enter Tryd.func86, Tryd.ntmps86; go_wp2; go_ret; exact ⟨rfl, rfl⟩
  by_cases h16 : op = 16
  · subst h16; go_enter Tryd.func86, Tryd.ntmps86; go_wp2; go_ret; exact ⟨rfl, rfl⟩
  by_cases h17 : op = 17
  · subst h17; go_enter Tryd.func86, Tryd.ntmps86; go_wp2; go_ret; exact ⟨rfl, rfl⟩
  by_cases h18 : op = 18
  · subst h18; go_enter Tryd.func86, Tryd.ntmps86; go_wp2; go_ret; exact ⟨rfl, rfl⟩
  by_cases h19 : op = 19
  · subst h19; go_enter Tryd.func86, Tryd.ntmps86; go_wp2; go_ret; exact ⟨rfl, rfl⟩
  have e : decide (15 ≤ op ∧ op ≤ 19) = false := by simp; omega
  have e1 : (op == 15) = false := by simpa using h15
  have e2 : (op == 16) = false := by simpa using h16
  have e3 : (op == 17) = false := by simpa using h17
  have e4 : (op == 18) = false := by simpa using h18
  have e5 : (op == 19) = false := by simpa using h19
  rw [e]
  clear e h15 h16 h17 h18 h19
  go_enter Tryd.func86, Tryd.ntmps86
  go_wp2
  go_ret
  exact ⟨rfl, rfl⟩

set_option maxRecDepth 100000 in
set_option maxHeartbeats 4000000 in
theorem flowBegun_any (P : List Fn) (f : Fn) (ok : FlowOk P f) (cv sv : Value) (A : List Int) (w : World) (hcv : CodeVal w cv f.code) (hsv : IntsVal w sv A) (hA : A.length = f.code.length) (hAw : ∀ q, q < f.code.length → (0 ≤ A.getD q 0 ↔ Way f 63 q)) :
    Calls Tryd.prog 62 #[cv, sv] w fun e w' => ∃ m D S, e = .returned (.map (some w.heap.size)) ∧ Starts f S ∧ MapOk S D ∧ MapAt w' w.heap.size m D ∧ m ≤ 1000 ∧ Below w.heap.size w w' := by
  have hl1 := ok.ok.len1
  have hl2 := ok.ok.len2
  have OK : Hid (FlowOk P f) := ok
  obtain ⟨ao2, b2, off2, n, cap2, rfl, ⟨hlen2, haddr2, hat2⟩, hcap2, hmx2⟩ := hcv
  obtain rfl := haddr2 (by omega)
  obtain ⟨ao3, b3, off3, n3, cap3, rfl, hl3, ha3, hc3, hcp3, hm3⟩ := ints_get hsv
  have HN : Hid (f.code.length = n) := hlen2
  obtain rfl : n = n3 := by omega
  obtain rfl := ha3 (by omega)
  have HAT : Hid (∀ W, Below w.heap.size w W → ∀ q, q < n → insAt W b2 (off2 + q * 5) (insD f q) ∧ W.cell? ⟨b3, off3 + q, none⟩ = some (.int .i64 (A.getD q 0))) := fun W hW q hq => by
    have hqf : q < f.code.length := by rw [hlen2]; exact hq
    rw [insD_eq hqf]
    exact ⟨(hat2 q hqf).keeps (keeps_below hW), keeps_below hW _ _ (hc3 q hq)⟩
  have HAW : Hid (∀ q, q < n → (0 ≤ A.getD q 0 ↔ Way f 63 q)) := fun q hq => hAw q (by rw [hlen2]; exact hq)
  have hcc := hcap2.1
  rw [hlen2] at hl1 hl2
  unfold maxLen at hmx2
  have hmm := @run_makeMap Tryd.prog
  have HM0 : Hid (MapAt (w.alloc (.map #[] 0)) w.heap.size 0 (.map [])) := World.ownsMap_made _ _ _ _
  have HB0 : Hid (Below w.heap.size w (w.alloc (.map #[] 0))) := (Below.refl _ _).alloc (Nat.le_refl _) _
  clear hsv hat2 haddr2 ha3 hc3 hA hAw hlen2 hl3 hcap2
  have wf0 : (Lit.int .i64 0).wf = true := by decide
  go_enter Tryd.func62, Tryd.ntmps62
  go_upto_region 3 with (show wpList _ _ _ (Oper.mk none (Op.insert _ _ _ _) _ _ _ _ :: _) _ _; refine wpList_insert_own _ rfl _ _ _ 90 rfl 3 3 mlaw Tryd.underlying90 (plainElem Tryd.prog 3) w.heap.size 0 (.map [] : Dat) rfl HM0.out (by unfold maxLen; omega) _ _ _ rfl rfl (Maps.keyOf_int_mk Tryd.underlying3 wf0) _ [] (plainElem_int Tryd.underlying3 wf0) ?_; intro w1 hown1 hg1)
  have HT1 : Hid (Maps.Tidy ((.map [] : Dat).put (.int .i64 0) (.lit (.int .i64 0)))) := hown1.tidy mlaw
  have HH1 : Hid (∀ z, Maps.has ((.map [] : Dat).put (.int .i64 0) (.lit (.int .i64 0))) (.int .i64 z) = true ↔ BegTo f 0 z) := fun z => by
    rw [has_put Maps.isMap_empty]
    constructor
    · intro h
      have hz : z = 0 := by simpa [Maps.has] using h
      exact Or.inl hz
    · rintro (rfl | ⟨pc, t, h1, _⟩)
      · simp
      · omega
  have HS1 : Hid (Maps.size ((.map [] : Dat).put (.int .i64 0) (.lit (.int .i64 0))) = sizeTo n ((.map [] : Dat).put (.int .i64 0) (.lit (.int .i64 0)))) := by
    refine size_put_to Maps.tidy_empty n 0 (by omega) _ ?_
    unfold sizeTo
    rw [List.filter_eq_nil_iff.2 (by intro q _; simp [Maps.has])]
    rfl
  have HB1 : Hid (Below w.heap.size w w1) := HB0.out.grown hg1 HB0.out.size (fun j hj => by cases hj; exact Nat.le_refl _)
  have HO1 : Hid (MapAt w1 w.heap.size 1 ((.map [] : Dat).put (.int .i64 0) (.lit (.int .i64 0)))) := hown1
  generalize (.map [] : Dat).put (.int .i64 0) (.lit (.int .i64 0)) = D1 at *
  have hz1 : w.heap.size < w1.heap.size := HO1.out.lt
  clear hown1 hg1 hmm HM0 HB0
  go_loopw [18] (fun i wr => ∃ (q m : Nat) (D : Dat), q ≤ n ∧ i = .int .i64 q ∧ m ≤ 1 + 2 * q ∧ (∀ z, Maps.has D (.int .i64 z) = true ↔ BegTo f q z) ∧ Maps.size D = sizeTo n D ∧ MapAt wr w.heap.size m D ∧ Below w.heap.size w wr) (fun i _ => n - (intOf i).toNat)
  case atStart => exact ⟨0, 1, D1, Nat.zero_le _, rfl, by omega, HH1.out, HS1.out, HO1.out, HB1.out⟩
  case round =>
    obtain ⟨q, m, D, hq, rfl, hm, hhas, hsz, hown, hbr⟩ := hrel
    rename World => wo
    have HHA : Hid (∀ z, Maps.has D (.int .i64 z) = true ↔ BegTo f q z) := hhas
    have HSZ : Hid (Maps.size D = sizeTo n D) := hsz
    have HOW : Hid (MapAt wo w.heap.size m D) := hown
    have HBR : Hid (Below w.heap.size w wo) := hbr
    have hzo : w.heap.size < wo.heap.size := hown.lt
    clear hhas hsz hown hbr
    by_cases hlt : q < n
    · have hqf : q < f.code.length := by rw [HN.out]; exact hlt
      obtain ⟨⟨d0, d1, d2, d3, d4⟩, ds⟩ := HAT.out wo HBR.out q hlt
      have ds' := fun o => cell_alloc ds o
      have hio := (OK.out.insD hqf).1
      have himm := (OK.out.insD hqf).2
      have HQI : Hid (0 ≤ A.getD q 0 ↔ Way f 63 q) := HAW.out q hlt
      have hqI : (q : Int) < n := by omega
      have HSK : Hid (¬ (Way f 63 q ∧ 15 ≤ (insD f q).op) → ∀ z, Maps.has D (.int .i64 z) = true ↔ BegTo f (q + 1) z) := fun h z => (HHA.out z).trans (begTo_skip h z).symm
      have HST : Hid (Way f 63 q → 15 ≤ (insD f q).op → ∀ z, BegTo f (q + 1) z ↔ (BegTo f q z ∨ ∃ t ∈ behind (insD f q) q, z = ((t : Nat) : Int))) := fun h h2 z => begTo_step h h2 z
      have HBE : Hid (Way f 63 q → ∀ t ∈ behind (insD f q) q, t < n) := fun h t ht => by rw [← HN.out]; exact (OK.out.on hqf h ht).2
      have hon := fun W => onward_any (insD f q) q W himm (by omega)
      have HOP : Hid (1 ≤ (insD f q).op ∧ (insD f q).op ≤ 19) := ⟨hio.op1, hio.op2⟩
      clear hio himm ds hqf
      have hbi : ∃ bI, bI = behindI (insD f q) q := ⟨_, rfl⟩
      obtain ⟨bI, hbI⟩ := hbi
      have HBI : Hid (bI = (behind (insD f q) q).map fun (n : Nat) => (n : Int)) := hbI
      rw [← hbI] at hon
      clear hbI
      generalize A.getD q 0 = z0 at ds' HQI
      generalize insD f q = xx at d0 d1 d2 d3 d4 HSK HST HBE hon HOP HBI
      obtain ⟨op, dst, xa, xb, imm⟩ := xx
      unfold Ins.val at hon
      dsimp only at d0 d1 d2 d3 d4 HSK HST HOP hon
      by_cases hz0 : 0 ≤ z0
      · by_cases hop : 15 ≤ op
        · have hdo : decide (15 ≤ op ∧ op ≤ 19) = true := by have := HOP.out; simp; omega
          have hEB := fun W => endsBlock_any op W
          rw [hdo] at hEB
          clear hdo
          go_wp2_with (first
            | (go_at_call 86; refine (hEB _).mono ?_; rintro e w' ⟨rfl, hw'⟩; replace hw' := hw'.symm; subst hw')
            | (go_at_call 87; refine (hon _).mono ?_; rintro e w2 ⟨v1, rfl, hI1, hfr1, hb1⟩; obtain ⟨ao1, b1, off1, n1, cap1, rfl, hl1', ha1, hc1, hcp1, hmx1⟩ := hI1))
          have hz2 : w.heap.size < w2.heap.size := by have := hb1.size; simp at this; omega
          have HB2 : Hid (Below w.heap.size w w2) := (HBR.out.alloc (by omega) _).trans (hb1.mono (by simp; omega))
          have HO2 : Hid (MapAt w2 w.heap.size m D) := (HOW.out.alloc _).kept (gb_below none hb1) (by simp)
          have HL1 : Hid (bI.length = n1) := hl1'
          have HA1 : Hid (0 < n1 → ao1 = some ⟨b1, off1, none⟩) := ha1
          have HC1 : Hid (∀ j (h : j < bI.length), w2.cell? ⟨b1, off1 + j, none⟩ = some (.int .i64 bI[j])) := hc1
          have HB1F : Hid (0 < n1 → b1 ≠ w.heap.size) := fun h0 => by
            have e0 := ha1 h0
            subst e0
            have := hfr1 b1 off1 n1 cap1 rfl
            simp at this
            omega
          have hcp := hcp1.1
          have HWY : Hid (Way f 63 q) := HQI.out.1 hz0
          have HN2 : Hid (n1 ≤ 2) := by
            show _ ≤ _
            rw [← hl1', HBI.out, List.length_map]
            unfold behind
            repeat' split
            all_goals simp
          unfold maxLen at hmx1
          clear hl1' ha1 hc1 hcp1 hb1 hon hEB d0 d1 d2 d3 d4 ds' hfr1
          go_loopw [37] (fun i wi => ∃ (e m' : Nat) (D' : Dat), e ≤ n1 ∧ i = .int .i64 e ∧ m' ≤ m + e ∧ (∀ z, Maps.has D' (.int .i64 z) = true ↔ (BegTo f q z ∨ ∃ t ∈ (behind ⟨op, dst, xa, xb, imm⟩ q).take e, z = ((t : Nat) : Int))) ∧ Maps.size D' = sizeTo n D' ∧ MapAt wi w.heap.size m' D' ∧ w2.grownBy wi (some w.heap.size)) (fun i _ => n1 - (intOf i).toNat)
          case atStart => exact ⟨0, m, D, Nat.zero_le _, rfl, by omega, fun z => by rw [HHA.out z]; simp, HSZ.out, HO2.out, gb_refl _ _⟩
          case round =>
            obtain ⟨e, m', D', he, rfl, hm', hhas', hsz', hown', hgr⟩ := hrel
            by_cases hle : e < n1
            · obtain rfl := HA1.out (by omega)
              have heb : e < bI.length := by rw [HL1.out]; exact hle
              have heb2 : e < (behind ⟨op, dst, xa, xb, imm⟩ q).length := by have := heb; rw [HBI.out] at this; simpa using this
              have cq := gb_cell hgr (HC1.out e heb) (HB1F.out (by omega))
              have hto : bI[e] = (((behind ⟨op, dst, xa, xb, imm⟩ q)[e] : Nat) : Int) := by simp [HBI.out]
              rw [hto] at cq
              have htn := HBE.out HWY.out _ (List.getElem_mem heb2)
              have HTK : Hid ((behind ⟨op, dst, xa, xb, imm⟩ q).take (e + 1) = (behind ⟨op, dst, xa, xb, imm⟩ q).take e ++ [(behind ⟨op, dst, xa, xb, imm⟩ q)[e]]) := by
                show _ = _
                rw [List.take_add_one, List.getElem?_eq_getElem heb2]; rfl
              generalize (behind ⟨op, dst, xa, xb, imm⟩ q)[e] = tt at cq htn HTK
              have HHN : Hid (∀ z, Maps.has (D'.put (.int .i64 (tt : Int)) (.lit (.int .i64 0))) (.int .i64 z) = true ↔ (BegTo f q z ∨ ∃ t ∈ (behind ⟨op, dst, xa, xb, imm⟩ q).take (e + 1), z = ((t : Nat) : Int))) := fun z => by
                rw [has_put hown'.isMap, Bool.or_eq_true, hhas' z, HTK.out, decide_eq_true_eq]
                constructor
                · rintro (h | h | ⟨t, ht, h⟩)
                  · exact Or.inr ⟨tt, by simp, h⟩
                  · exact Or.inl h
                  · exact Or.inr ⟨t, List.mem_append_left _ ht, h⟩
                · rintro (h | ⟨t, ht, h⟩)
                  · exact Or.inr (Or.inl h)
                  · rcases List.mem_append.1 ht with ht | ht
                    · exact Or.inr (Or.inr ⟨t, ht, h⟩)
                    · rw [List.mem_singleton.1 ht] at h; exact Or.inl h
              have HSN : Hid (Maps.size (D'.put (.int .i64 (tt : Int)) (.lit (.int .i64 0))) = sizeTo n (D'.put (.int .i64 (tt : Int)) (.lit (.int .i64 0)))) := size_put_to (hown'.tidy mlaw) n tt htn _ hsz'
              have wft : (Lit.int .i64 (tt : Int)).wf = true := WalkArith.wf_i64 (by omega)
              have heI : (e : Int) < n1 := by omega
              have hm1 := HN2.out
              have HGR : Hid (w2.grownBy wr (some w.heap.size)) := hgr
              clear hhas' hsz' hto heb heb2 hgr
              go_wp2_with (at_mapUpdate; refine wpList_mapUpdate_own _ rfl _ _ _ 90 rfl 3 3 mlaw Tryd.underlying90 (plainElem Tryd.prog 3) w.heap.size m' D' rfl hown' (by unfold maxLen; omega) _ _ _ rfl rfl (Maps.keyOf_int_mk Tryd.underlying3 wft) _ [] (plainElem_int Tryd.underlying3 wf0) ?_; intro w3 hown3 hg3)
              go_roundw
              case rel => exact ⟨e + 1, m' + 1, _, by omega, by go_num, by omega, HHN.out, HSN.out, hown3, gb_trans HGR.out hg3⟩
              case measure => simp [intOf]; omega
            · obtain rfl : e = n1 := by omega
              have hfin : (behind ⟨op, dst, xa, xb, imm⟩ q).take e = behind ⟨op, dst, xa, xb, imm⟩ q := List.take_of_length_le (by have := HL1.out; rw [HBI.out] at this; simp at this; omega)
              have HHN : Hid (∀ z, Maps.has D' (.int .i64 z) = true ↔ BegTo f (q + 1) z) := fun z => by rw [hhas' z, hfin, HST.out HWY.out hop z]
              have HSN : Hid (Maps.size D' = sizeTo n D') := hsz'
              have HON : Hid (MapAt wr w.heap.size m' D') := hown'
              have HBN : Hid (Below w.heap.size w wr) := below_gb HB2.out hgr (Nat.le_refl _) (by omega)
              have hn2 := HN2.out
              clear hhas' hsz' hown' hgr hfin
              go_wp2
              go_roundw
              case rel => exact ⟨q + 1, m', D', by omega, by go_num, by omega, HHN.out, HSN.out, HON.out, HBN.out⟩
              case measure => simp [intOf]; omega
        · have hdo : decide (15 ≤ op ∧ op ≤ 19) = false := by simp; omega
          have hEB := fun W => endsBlock_any op W
          rw [hdo] at hEB
          have HHN := HSK.out (fun h => hop h.2)
          have HHH : Hid (∀ z, Maps.has D (.int .i64 z) = true ↔ BegTo f (q + 1) z) := HHN
          clear hdo HHN
          go_wp2_with (go_at_call 86; refine (hEB _).mono ?_; rintro e w' ⟨rfl, hw'⟩; replace hw' := hw'.symm; subst hw')
          go_roundw
          case rel => exact ⟨q + 1, m, D, by omega, by go_num, by omega, HHH.out, HSZ.out, HOW.out.alloc _, HBR.out.alloc (by omega) _⟩
          case measure => simp [intOf]; omega
      · have hz00 : decide (0 ≤ z0) = false := by simpa using hz0
        have HHN := HSK.out (fun h => hz0 (HQI.out.2 h.1))
        have HHH : Hid (∀ z, Maps.has D (.int .i64 z) = true ↔ BegTo f (q + 1) z) := HHN
        clear HHN hon
        go_wp2
        go_roundw
        case rel => exact ⟨q + 1, m, D, by omega, by go_num, by omega, HHH.out, HSZ.out, HOW.out.alloc _, HBR.out.alloc (by omega) _⟩
        case measure => simp [intOf]; omega
    · obtain rfl : q = n := by omega
      have HST : Hid (Starts f ((List.range q).filter fun j => Maps.has D (.int .i64 ((j : Nat) : Int)))) := by
        have h := starts_of OK.out (D := D) (fun z => by rw [HN.out]; exact HHA.out z)
        rw [HN.out] at h
        exact h
      have HHS : Hid (∀ z : Int, Maps.has D (.int .i64 z) = true ↔ ∃ j ∈ (List.range q).filter (fun j => Maps.has D (.int .i64 ((j : Nat) : Int))), z = ((j : Nat) : Int)) := fun z => by
        constructor
        · intro h
          have hb := (HHA.out z).1 h
          rw [← HN.out, begTo_all OK.out] at hb
          obtain ⟨j, hj, _, rfl⟩ := hb
          exact ⟨j, List.mem_filter.2 ⟨List.mem_range.2 (by rw [HN.out] at hj; exact hj), h⟩, rfl⟩
        · rintro ⟨j, hj, rfl⟩
          exact (List.mem_filter.1 hj).2
      have HSS : Hid (Maps.size D = ((List.range q).filter fun j => Maps.has D (.int .i64 ((j : Nat) : Int))).length) := HSZ.out
      generalize (List.range q).filter (fun j => Maps.has D (.int .i64 ((j : Nat) : Int))) = S at HST HHS HSS
      have HLT : Hid (∀ x ∈ S, x < q) := fun x hx => by rw [← HN.out]; exact (HST.out.reach OK.out hx).2
      have HRK : Hid (∀ j, rank S j ≤ 1000) := fun j => by
        have h1 := rank_le S j
        have h2 : S.length ≤ q := by rw [← HSS.out, HSZ.out]; unfold sizeTo; exact Nat.le_trans (List.length_filter_le _ _) (by simp)
        omega
      clear HSZ
      go_wp2
      go_loopw [10, 47] (fun c i wr => ∃ (j m' : Nat) (D' : Dat), j ≤ q ∧ i = .int .i64 j ∧ c = .int .i64 ((rank S j : Nat) : Int) ∧ m' ≤ 1 + 2 * q + j ∧ (∀ z : Int, Maps.has D' (.int .i64 z) = true ↔ ∃ x ∈ S, z = ((x : Nat) : Int)) ∧ (∀ x ∈ S, x < j → ∀ zd : Dat, D'.atKey (.int .i64 ((x : Nat) : Int)) zd = .lit (.int .i64 ((rank S x : Nat) : Int))) ∧ Maps.size D' = S.length ∧ MapAt wr w.heap.size m' D' ∧ Below w.heap.size w wr) (fun _ i _ => q - (intOf i).toNat)
      case atStart => exact ⟨0, m, D, Nat.zero_le _, rfl, by rw [rank_zero]; rfl, by omega, HHS.out, fun x _ h => by omega, HSS.out, HOW.out, HBR.out⟩
      case round =>
        obtain ⟨j, m', D', hj, rfl, rfl, hm', hhas, hat, hsz, hown, hbr⟩ := hrel
        have HHA' : Hid (∀ z : Int, Maps.has D' (.int .i64 z) = true ↔ ∃ x ∈ S, z = ((x : Nat) : Int)) := hhas
        have HAT' : Hid (∀ x ∈ S, x < j → ∀ zd : Dat, D'.atKey (.int .i64 ((x : Nat) : Int)) zd = .lit (.int .i64 ((rank S x : Nat) : Int))) := hat
        have HSZ' : Hid (Maps.size D' = S.length) := hsz
        have HBR' : Hid (Below w.heap.size w wr) := hbr
        have hrj := HRK.out j
        clear hhas hat hsz hbr
        by_cases hlt : j < q
        · have hjI : (j : Int) < q := by omega
          have wfj : (Lit.int .i64 (j : Int)).wf = true := WalkArith.wf_i64 (by omega)
          have HRN : Hid (rank S (j + 1) = rank S j + (if j ∈ S then 1 else 0)) := rank_next HST.out.rises j
          by_cases hjS : j ∈ S
          · have hb : Maps.has D' (.int .i64 (j : Int)) = true := (HHA'.out j).2 ⟨j, hjS, rfl⟩
            have wfr : (Lit.int .i64 ((rank S j : Nat) : Int)).wf = true := WalkArith.wf_i64 (by omega)
            have HHN : Hid (∀ z : Int, Maps.has (D'.put (.int .i64 (j : Int)) (.lit (.int .i64 ((rank S j : Nat) : Int)))) (.int .i64 z) = true ↔ ∃ x ∈ S, z = ((x : Nat) : Int)) := fun z => by
              rw [has_put hown.isMap, Bool.or_eq_true, HHA'.out z, decide_eq_true_eq]
              constructor
              · rintro (h | h)
                · exact ⟨j, hjS, h⟩
                · exact h
              · exact fun h => Or.inr h
            have HAN : Hid (∀ x ∈ S, x < j + 1 → ∀ zd : Dat, (D'.put (.int .i64 (j : Int)) (.lit (.int .i64 ((rank S j : Nat) : Int)))).atKey (.int .i64 ((x : Nat) : Int)) zd = .lit (.int .i64 ((rank S x : Nat) : Int))) := fun x hx hxj zd => by
              by_cases he : x = j
              · subst he
                exact Maps.atKey_put_same hown.isMap (show WideAt.IsKeyLit (.int .i64 (x : Int)) from trivial) _ _
              · rw [Maps.atKey_put_other (by simp; omega)]
                exact HAT'.out x hx (by omega) zd
            have HSN : Hid (Maps.size (D'.put (.int .i64 (j : Int)) (.lit (.int .i64 ((rank S j : Nat) : Int)))) = S.length) := by
              show _ = _
              rw [Maps.size_put (hown.tidy mlaw), if_pos hb]; exact HSZ'.out
            have HR2 : Hid (rank S (j + 1) = rank S j + 1) := by show _ = _; rw [HRN.out, if_pos hjS]
            clear HRN hjS
            generalize rank S j = rj at *
            go_wp2_with (first
              | (at_lookup; refine wpList_lookup_own_ok_int _ rfl _ _ 90 rfl 3 3 .i64 mlaw Tryd.underlying90 Tryd.underlying3 (zero_int _) w.heap.size m' D' rfl hown _ _ rfl (Maps.keyOf_int_mk Tryd.underlying3 wfj) ?_; intro c hatc hwc)
              | (at_mapUpdate; refine wpList_mapUpdate_own _ rfl _ _ _ 90 rfl 3 3 mlaw Tryd.underlying90 (plainElem Tryd.prog 3) w.heap.size m' D' rfl hown (by unfold maxLen; omega) _ _ _ rfl rfl (Maps.keyOf_int_mk Tryd.underlying3 wfj) _ [] (plainElem_int Tryd.underlying3 wfr) ?_; intro w3 hown3 hg3))
            go_roundw
            case rel => exact ⟨j + 1, m' + 1, _, by omega, by go_num, by rw [HR2.out]; go_num, by omega, HHN.out, HAN.out, HSN.out, hown3, HBR'.out.grown hg3 HBR'.out.size (fun jj hjj => by cases hjj; exact Nat.le_refl _)⟩
            case measure => simp [intOf]; omega
          · have hb : Maps.has D' (.int .i64 (j : Int)) = false := by
              cases hh : Maps.has D' (.int .i64 (j : Int))
              · rfl
              · obtain ⟨x, hx, e⟩ := (HHA'.out j).1 hh
                obtain rfl : j = x := by omega
                exact absurd hx hjS
            have HR2 : Hid (rank S (j + 1) = rank S j) := by show _ = _; rw [HRN.out, if_neg hjS]; omega
            have HAN : Hid (∀ x ∈ S, x < j + 1 → ∀ zd : Dat, D'.atKey (.int .i64 ((x : Nat) : Int)) zd = .lit (.int .i64 ((rank S x : Nat) : Int))) := fun x hx hxj zd => HAT'.out x hx (by
              have : x ≠ j := fun e => hjS (by rw [← e]; exact hx)
              omega) zd
            clear HRN hjS
            go_wp2_with (at_lookup; refine wpList_lookup_own_ok_int _ rfl _ _ 90 rfl 3 3 .i64 mlaw Tryd.underlying90 Tryd.underlying3 (zero_int _) w.heap.size m' D' rfl hown _ _ rfl (Maps.keyOf_int_mk Tryd.underlying3 wfj) ?_; intro c hatc hwc)
            go_roundw
            case rel => exact ⟨j + 1, m', D', by omega, by go_num, by rw [HR2.out], by omega, HHA'.out, HAN.out, HSZ'.out, hown, HBR'.out⟩
            case measure => simp [intOf]; omega
        · obtain rfl : j = q := by omega
          go_wp2
          go_ret
          exact ⟨m', D', S, rfl, HST.out, ⟨HHA'.out, fun x hx zd => HAT'.out x hx (HLT.out x hx) zd, HSZ'.out⟩, hown, by omega, HBR'.out⟩

set_option maxRecDepth 100000 in
set_option maxHeartbeats 2000000 in
theorem flowEnd_any (P : List Fn) (f : Fn) (ok : FlowOk P f) (S : List Nat) (hS : Starts f S) (D : Dat) (hD : MapOk S D) (B m fr : Nat) (hfr : fr ∈ S) (cv : Value) (w : World) (hcv : CodeVal w cv f.code) (hown : MapAt w B m D) :
    Calls Tryd.prog 63 #[cv, .int .i64 fr, .map (some B)] w fun e w' => ∃ t, e = .returned (.int .i64 ((t : Nat) : Int)) ∧ EndAt f S fr t ∧ w' = w := by
  have hl1 := ok.ok.len1
  have hl2 := ok.ok.len2
  have OK : Hid (FlowOk P f) := ok
  have HS : Hid (Starts f S) := hS
  have HD : Hid (MapOk S D) := hD
  obtain ⟨hwf, hfl⟩ := hS.reach ok hfr
  have HWF : Hid (Way f 63 fr) := hwf
  obtain ⟨ao2, b2, off2, n, cap2, rfl, ⟨hlen2, haddr2, hat2⟩, hcap2, hmx2⟩ := hcv
  obtain rfl := haddr2 (by omega)
  have HN : Hid (f.code.length = n) := hlen2
  have HAT : Hid (∀ q, q < n → w.cell? ⟨b2, off2 + q * 5, none⟩ = some (.int .i64 (insD f q).op)) := fun q hq => by
    have hqf : q < f.code.length := by rw [hlen2]; exact hq
    rw [insD_eq hqf]
    exact (hat2 q hqf).1
  have hcc := hcap2.1
  rw [hlen2] at hl1 hl2 hfl
  unfold maxLen at hmx2
  clear hat2 haddr2 hlen2 hcap2 hS hD hwf
  go_enter Tryd.func63, Tryd.ntmps63
  go_wp2
  go_loopw [7] (fun i wr => ∃ t : Nat, i = .int .i64 ((t : Nat) : Int) ∧ fr < t ∧ t ≤ n ∧ Way f 63 (t - 1) ∧ (∀ j, fr < j → j < t → (insD f (j - 1)).op < 15 ∧ ¬ j ∈ S) ∧ wr = w) (fun i _ => n - (intOf i).toNat)
  case atStart => exact ⟨fr + 1, by go_num, by omega, by omega, by rw [Nat.add_sub_cancel]; exact HWF.out, fun j h1 h2 => by omega, rfl⟩
  case round =>
    obtain ⟨t, rfl, ht1, ht2, hwy, hno, hwr⟩ := hrel
    subst hwr
    obtain ⟨u, rfl⟩ : ∃ u, t = u + 1 := ⟨t - 1, by omega⟩
    rw [Nat.add_sub_cancel] at hwy
    have hun : u < n := by omega
    have huf : u < f.code.length := by rw [HN.out]; exact hun
    have c0 := HAT.out u hun
    have HOP : Hid (1 ≤ (insD f u).op ∧ (insD f u).op ≤ 19) := ⟨(OK.out.insD huf).1.op1, (OK.out.insD huf).1.op2⟩
    have hw1 : IntKind.i64.wrap (((u + 1 : Nat) : Int) - 1) = (u : Int) := by rw [show ((u + 1 : Nat) : Int) - 1 = u by omega]; exact wrap_signed _ (by omega) (by omega)
    have huI : (u : Int) < n := by omega
    have HNO : Hid (∀ j, fr < j → j < u + 1 → (insD f (j - 1)).op < 15 ∧ ¬ j ∈ S) := hno
    have HWY : Hid (Way f 63 u) := hwy
    have HGO : Hid ((insD f u).op < 15 → Way f 63 (u + 1) ∧ u + 1 < n) := fun h => by
      have := OK.out.on huf hwy (t := u + 1) (by rw [behind_on _ _ h]; simp)
      rw [HN.out] at this
      exact this
    have HFI : Hid (15 ≤ (insD f u).op ∨ u + 1 ∈ S → EndAt f S fr (u + 1)) := fun h => ⟨ht1, by rw [HN.out]; exact ht2, by rw [Nat.add_sub_cancel]; exact h, hno⟩
    have HNX : Hid ((insD f u).op < 15 → ¬ u + 1 ∈ S → ∀ j, fr < j → j < u + 1 + 1 → (insD f (j - 1)).op < 15 ∧ ¬ j ∈ S) := fun h1 h2 j hj1 hj2 => by
      by_cases he : j = u + 1
      · subst he; rw [Nat.add_sub_cancel]; exact ⟨h1, h2⟩
      · exact hno j hj1 (by omega)
    have hEB := fun W => endsBlock_any (insD f u).op W
    clear hno hwy
    by_cases hop : 15 ≤ (insD f u).op
    · have hdo : decide (15 ≤ (insD f u).op ∧ (insD f u).op ≤ 19) = true := by have := HOP.out; simp; omega
      rw [hdo] at hEB
      have HE : Hid (EndAt f S fr (u + 1)) := HFI.out (Or.inl hop)
      clear hdo hop HNX HGO HFI
      generalize (insD f u).op = op at c0 hEB HOP
      go_wp2_with (go_at_call 86; refine (hEB _).mono ?_; rintro e w' ⟨rfl, hw'⟩; replace hw' := hw'.symm; subst hw')
      go_ret
      exact ⟨u + 1, rfl, HE.out, rfl⟩
    · have hdo : decide (15 ≤ (insD f u).op ∧ (insD f u).op ≤ 19) = false := by simp; omega
      rw [hdo] at hEB
      obtain ⟨hwn, hln⟩ := HGO.out (by omega)
      have HWN : Hid (Way f 63 (u + 1)) := hwn
      have wfj : (Lit.int .i64 ((u + 1 : Nat) : Int)).wf = true := WalkArith.wf_i64 (by omega)
      by_cases hjS : u + 1 ∈ S
      · have hb : Maps.has D (.int .i64 ((u + 1 : Nat) : Int)) = true := (HD.out.has _).2 ⟨u + 1, hjS, rfl⟩
        have HE : Hid (EndAt f S fr (u + 1)) := HFI.out (Or.inr hjS)
        clear hdo hop HNX HGO HFI hwn hjS
        generalize (insD f u).op = op at c0 hEB HOP
        generalize hUU : ((u + 1 : Nat) : Int) = U at *
        have HUU : Hid (((u + 1 : Nat) : Int) = U) := hUU
        clear hUU
        go_wp2_with (first
          | (go_at_call 86; refine (hEB _).mono ?_; rintro e w' ⟨rfl, hw'⟩; replace hw' := hw'.symm; subst hw')
          | (at_lookup; refine wpList_lookup_own_ok_int _ rfl _ _ 90 rfl 3 3 .i64 mlaw Tryd.underlying90 Tryd.underlying3 (zero_int _) B m D rfl hown _ _ rfl (Maps.keyOf_int_mk Tryd.underlying3 wfj) ?_; intro c hatc hwc))
        go_ret
        exact ⟨u + 1, by rw [HUU.out]; rfl, HE.out, rfl⟩
      · have hb : Maps.has D (.int .i64 ((u + 1 : Nat) : Int)) = false := by
          cases hh : Maps.has D (.int .i64 ((u + 1 : Nat) : Int))
          · rfl
          · obtain ⟨x, hx, e⟩ := (HD.out.has _).1 hh
            obtain rfl : u + 1 = x := by omega
            exact absurd hx hjS
        have HNN : Hid (∀ j, fr < j → j < u + 1 + 1 → (insD f (j - 1)).op < 15 ∧ ¬ j ∈ S) := HNX.out (by omega) hjS
        have hw2 : IntKind.i64.wrap (((u + 1 : Nat) : Int) + 1) = ((u + 1 + 1 : Nat) : Int) := by rw [show ((u + 1 : Nat) : Int) + 1 = ((u + 1 + 1 : Nat) : Int) by omega]; exact wrap_signed _ (by omega) (by omega)
        have hUI : ((u + 1 : Nat) : Int) + 1 = ((u + 1 + 1 : Nat) : Int) := by omega
        clear hdo hop HNX HGO HFI hwn hjS
        generalize (insD f u).op = op at c0 hEB HOP
        generalize hUU : ((u + 1 : Nat) : Int) = U at *
        generalize hVV : ((u + 1 + 1 : Nat) : Int) = V at *
        have HUU : Hid (((u + 1 : Nat) : Int) = U ∧ ((u + 1 + 1 : Nat) : Int) = V) := ⟨hUU, hVV⟩
        have HUI : Hid (U + 1 = V) := hUI
        clear hUU hVV hUI
        go_wp2_with (first
          | (go_at_call 86; refine (hEB _).mono ?_; rintro e w' ⟨rfl, hw'⟩; replace hw' := hw'.symm; subst hw')
          | (at_lookup; refine wpList_lookup_own_ok_int _ rfl _ _ 90 rfl 3 3 .i64 mlaw Tryd.underlying90 Tryd.underlying3 (zero_int _) B m D rfl hown _ _ rfl (Maps.keyOf_int_mk Tryd.underlying3 wfj) ?_; intro c hatc hwc))
        go_roundw
        case rel => exact ⟨u + 1 + 1, by rw [HUU.out.2], by omega, by omega, by rw [Nat.add_sub_cancel]; exact HWN.out, HNN.out, by trivial⟩
        case measure => have h1 := HUU.out; simp [intOf]; omega
end Go.Proofs.YteilohamjijpbaaDoor
