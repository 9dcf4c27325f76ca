/- Contracts of flow.wanted, flow.touched and flow.live: what is live ahead of each instruction. -/
import Derived.Test.YtgoefojdggblpaaDoorXLiveMath
import Derived.Test.YtgoefojdggblpaaDoorXKeptMath
import Derived.Test.YtgoefojdggblpaaDoorGroupC
import Derived.Test.YtgoefojdggblpaaDoorGroupA
import Derived.Deep.AppendLies
namespace Go.Proofs.YtgoefojdggblpaaDoor
open Go Go.RowKit

theorem made_ints0 (c : Nat) : (madeCells (Value.int .i64 0).cells (c * 1)).toList = i64s (List.replicate c 0) := by
  simp [madeCells, i64s, Value.cells]
  apply List.ext_getElem
  · simp
  · intro i h1 h2
    have : i % 1 = 0 := Nat.mod_one i
    simp [this]
theorem wrap_signed (n : Int) (h0 : -9223372036854775808 ≤ n) (h1 : n ≤ 9223372036854775807) : IntKind.i64.wrap n = n := by
  by_cases h : 0 ≤ n
  · have e : n % 2 ^ 64 = n := Int.emod_eq_of_lt h (by simp; omega)
    have w1 : IntKind.i64.wrap n = if (true && decide (n ≥ 2 ^ 63)) = true then n - (2 ^ 64 : Int) else n := by
      simp only [IntKind.wrap, IntKind.bits, IntKind.signed, e]
    rw [w1, if_neg (by simp; omega)]
  · have e : n % 2 ^ 64 = n + 2 ^ 64 := by
      rw [← Int.add_emod_right]
      exact Int.emod_eq_of_lt (by simp; omega) (by simp; omega)
    have w1 : IntKind.i64.wrap n = if (true && decide (n + 2 ^ 64 ≥ 2 ^ 63)) = true then n + 2 ^ 64 - (2 ^ 64 : Int) else n + 2 ^ 64 := by
      simp only [IntKind.wrap, IntKind.bits, IntKind.signed, e]
    rw [w1, if_pos (by simp; omega)]
    omega
/-- A row of numbers that the call has made. -/
abbrev IntRow (w : World) (g n : Nat) (l : List Int) : Prop := w.ownsRow 0 3 1 (.slice (some ⟨g, 0, none⟩) n n) n (i64s l)
theorem int_cell {w : World} {g n : Nat} {l : List Int} (h : IntRow w g n l) (hl : l.length = n) (i : Nat) (hi : i < n) : w.cell? ⟨g, i, none⟩ = some (.int .i64 (l.getD i 0)) := by
  rw [h.cellAt i (by omega)]
  simp [i64s, List.getD, show i < l.length by omega]
theorem int_store {w : World} {g n : Nat} {l : List Int} (h : IntRow w g n l) (i : Nat) (z : Int) : IntRow (w.setCell ⟨g, i, none⟩ (.int .i64 z)) g n (l.set i z) ∧ w.grownBy (w.setCell ⟨g, i, none⟩ (.int .i64 z)) (some g) := by
  have := h.stored i (.int .i64 z)
  have e : (i64s l).set i (.int .i64 z) = i64s (l.set i z) := by simp [i64s, List.map_set]
  rw [e] at this
  exact this
theorem int_vals {w : World} {g n : Nat} {l : List Int} (h : IntRow w g n l) (hl : l.length = n) (hm : n ≤ maxLen) : IntsVal w (.slice (some ⟨g, 0, none⟩) n n) l := by
  refine ⟨_, g, 0, n, n, rfl, hl, fun _ => rfl, fun k hk => ?_, ⟨Nat.le_refl _, fun e => by cases e⟩, hm⟩
  have := int_cell h hl k (by omega)
  rw [Nat.zero_add, this]
  simp [List.getD, hk]

theorem want_take (L : List Int) (ts : List Nat) (e : Nat) (h : e < ts.length) : wantL L (ts.take (e + 1)) = wantL L (ts.take e) ||| mkL L ts[e] := by
  unfold wantL
  rw [List.take_add_one, List.getElem?_eq_getElem h, List.foldl_append]
  rfl
theorem want_take_lt (L : List Int) (ts : List Nat) (h : ∀ t ∈ ts, mkL L t < 4096) (e : Nat) : wantL L (ts.take e) < 4096 := want_lt L _ fun t ht => h t (List.mem_of_mem_take ht)

set_option maxRecDepth 100000 in
set_option maxHeartbeats 1000000 in
theorem wanted_any (x : Ins) (pc : Nat) (L : List Int) (g n cap : Nat) (w : World) (h0 : x.op = 15 ∨ x.op = 16 → 0 ≤ x.imm) (hp : pc < 1000) (_hcap : n ≤ 1000) (hrow : ∀ t, t < n → w.cell? ⟨g, t, none⟩ = some (.int .i64 (L.getD t 0)))
    (hts : ∀ t ∈ behind x pc, t < n ∧ 0 ≤ L.getD t 0 ∧ L.getD t 0 < 4096) :
    Calls Tryd.prog 96 #[.slice (some ⟨g, 0, none⟩) n cap, x.val, .int .i64 pc] w fun e w' => e = .returned (.int .i64 (wantL L (behind x pc) : Int)) ∧ Below w.heap.size w w' := by
  have hbx : ∀ o, Below w.heap.size w (w.alloc o) := fun o => (Below.refl _ _).alloc (Nat.le_refl _) _
  have hon := fun W => onward_any x pc W h0 hp
  have HROW : Hid (∀ t, t < n → w.cell? ⟨g, t, none⟩ = some (.int .i64 (L.getD t 0))) := hrow
  have HTS : Hid (∀ t ∈ behind x pc, t < n ∧ 0 ≤ L.getD t 0 ∧ L.getD t 0 < 4096) := hts
  have HWL : Hid (∀ e, wantL L ((behind x pc).take e) < 4096) := want_take_lt L _ fun t ht => by have := hts t ht; unfold mkL; omega
  have HWT : Hid (∀ e (h : e < (behind x pc).length), wantL L ((behind x pc).take (e + 1)) = wantL L ((behind x pc).take e) ||| mkL L (behind x pc)[e]) := fun e h => want_take L _ e h
  have HBI : Hid (behindI x pc = (behind x pc).map fun (n : Nat) => (n : Int)) := rfl
  clear hrow hts h0
  obtain ⟨op, dst, xa, xb, imm⟩ := x
  unfold Ins.val at hon ⊢
  dsimp only at hon ⊢
  generalize behindI ⟨op, dst, xa, xb, imm⟩ pc = bI at hon HBI
  generalize behind ⟨op, dst, xa, xb, imm⟩ pc = bs at HTS HWL HWT HBI ⊢
  go_enter Tryd.func96, Tryd.ntmps96
  go_wp2_with (go_at_call 114; refine (hon _).mono ?_; rintro e w1 ⟨v1, rfl, hI1, hfr1, hb1⟩; obtain ⟨ao1, b1, off1, n1, cap1, rfl, hl1', ha1, hc1, hcp1, hmx1⟩ := hI1)
  have HB1 : Hid (Below w.heap.size w w1) := (hbx _).trans (hb1.mono (by simp))
  have HL1 : Hid (bI.length = n1) := hl1'
  have HA1 : Hid (0 < n1 → ao1 = some ⟨b1, off1, none⟩) := ha1
  have HC1 : Hid (∀ q (h : q < bI.length), w1.cell? ⟨b1, off1 + q, none⟩ = some (.int .i64 bI[q])) := hc1
  have hcp := hcp1.1
  unfold maxLen at hmx1
  clear hl1' ha1 hc1 hcp1 hfr1 hb1 hon hbx
  go_loopw [7, 14] (fun bt i wi => ∃ e : Nat, e ≤ n1 ∧ i = .int .i64 e ∧ bt = .int .i64 ((wantL L (bs.take e) : Nat) : Int) ∧ Below w1.heap.size w1 wi) (fun _ i _ => n1 - (intOf i).toNat)
  case atStart => exact ⟨0, Nat.zero_le _, rfl, rfl, Below.refl _ _⟩
  case round =>
    obtain ⟨e, he, rfl, rfl, hbr⟩ := hrel
    have HBR : Hid (Below w1.heap.size w1 wr) := hbr
    by_cases hle : e < n1
    · obtain rfl := HA1.out (by omega)
      have heb : e < bI.length := by rw [HL1.out]; exact hle
      have heb2 : e < bs.length := by have := heb; rw [HBI.out] at this; simpa using this
      have cq := keeps_below hbr _ _ (HC1.out e heb)
      have hto : bI[e] = ((bs[e] : Nat) : Int) := by simp [HBI.out]
      rw [hto] at cq
      obtain ⟨t1, t2, t3⟩ := HTS.out bs[e] (List.getElem_mem heb2)
      have ct := keeps_below hbr _ _ (keeps_below HB1.out _ _ (HROW.out bs[e] t1))
      have hmk : L.getD bs[e] 0 = ((mkL L bs[e] : Nat) : Int) := by unfold mkL; omega
      have hml : mkL L bs[e] < 4096 := by unfold mkL; omega
      have HWE := HWT.out e heb2
      have hwl := HWL.out e
      rw [hmk] at ct
      have HOR : Hid (bits .or .i64 ((wantL L (bs.take e) : Nat) : Int) ((mkL L bs[e] : Nat) : Int) = ((wantL L (bs.take (e + 1)) : Nat) : Int)) := by
        show _ = _
        rw [HWE]; exact bits_or_nat _ _ (by omega) (by omega)
      generalize mkL L bs[e] = mm at ct HOR hml
      generalize bs[e] = tt at cq ct t1
      generalize wantL L (bs.take e) = we at HOR
      have htI : (tt : Int) < n := by omega
      have heI : (e : Int) < n1 := by omega
      clear hto hmk HWE t2 t3 heb heb2 hbr
      go_wp2
      go_roundw
      case rel => exact ⟨e + 1, by omega, by go_num, by rw [← HOR.out], HBR.out⟩
      case measure => simp [intOf]; omega
    · obtain rfl : e = n1 := by omega
      have hfin : bs.take e = bs := List.take_of_length_le (by have := HL1.out; rw [HBI.out] at this; simp at this; omega)
      rw [hfin]
      obtain ⟨we, hwe⟩ : ∃ we, we = wantL L bs := ⟨_, rfl⟩
      have HWQ : Hid (we = wantL L bs) := hwe
      rw [← hwe]
      clear hbr hfin hwe
      go_wp2
      go_ret
      exact ⟨by rw [← HWQ.out]; rfl, HB1.out.trans (HBR.out.mono HB1.out.size)⟩

def rdL (P : List Fn) (f : Fn) : List Int := f.code.map fun x => (rdMask P x : Int)
def setL (f : Fn) : List Int := f.code.map fun x => (setMask x : Int)
theorem rdL_len (P : List Fn) (f : Fn) : (rdL P f).length = f.code.length := by simp [rdL]
theorem setL_len (f : Fn) : (setL f).length = f.code.length := by simp [setL]
theorem take_snoc {l : List Int} {q : Nat} {z : Int} (h : q < l.length) (hz : l[q] = z) : l.take (q + 1) = l.take q ++ [z] := by
  rw [List.take_add_one, List.getElem?_eq_getElem h, hz]; rfl

set_option maxRecDepth 100000 in
set_option maxHeartbeats 2000000 in
theorem touched_any (P : List Fn) (hP : codeProg P = 0) (k : Nat) (hk : k < P.length) (v : Value) (w : World) (ht : TabOk w) (hc : CallOk w) (hv : ProgVal w v P) :
    Calls Tryd.prog 95 #[.agg #[v], .int .i64 k] w fun e w' => ∃ v1 v2, e = .returned (.tuple #[v1, v2]) ∧ IntsVal w' v1 (rdL P P[k]) ∧ IntsVal w' v2 (setL P[k]) ∧ (∀ b off n c, (v1 = .slice (some ⟨b, off, none⟩) n c ∨ v2 = .slice (some ⟨b, off, none⟩) n c) → w.heap.size ≤ b) ∧ Below w.heap.size w w' := by
  obtain ⟨i64i, hi64, hz0, hz1', hz2⟩ := info_parts info64
  have hfo := (fnOk_of hP (List.getElem_mem hk)).1
  have hl1 := hfo.len1
  have hl2 := hfo.len2
  have hfe := fnErr_ok hP hk
  have HRD : Hid (∀ q (h : q < P[k].code.length) (W : World), Below w.heap.size w W → Calls Tryd.prog 121 #[.agg #[v], .int .i64 k, .int .i64 q] W fun e w' => e = .returned (.tuple #[.int .i64 (rdMask P P[k].code[q]), .int .i64 (setMask P[k].code[q]), .int .i64 0]) ∧ Below W.heap.size W w') := by
    intro q h W hb
    have hca : codeAt P k = P[k].code := by simp [codeAt, List.getD, hk]
    have := reads_ok P v k q W (ht.below hb) (hc.below hb) (hv.keeps (keeps_below hb)) hfe (by rw [hca]; exact h)
    have e : insAtP P k q = P[k].code[q] := by unfold insAtP; rw [hca]; simp [List.getD, h]
    rw [e] at this
    exact this
  obtain ⟨b, off, cap, u, rfl, d0, d1, d2, hcv, hm, hcc⟩ := prog_fn hv hk
  obtain ⟨ao2, b2, off2, n2, cap2, rfl, ⟨hlen2, -, -⟩, -, hmx2⟩ := hcv
  have HRL : Hid (∀ q (h : q < P[k].code.length), (rdL P P[k]).take (q + 1) = (rdL P P[k]).take q ++ [(rdMask P P[k].code[q] : Int)]) := fun q h => take_snoc (by rw [rdL_len]; exact h) (by simp [rdL])
  have HSL : Hid (∀ q (h : q < P[k].code.length), (setL P[k]).take (q + 1) = (setL P[k]).take q ++ [(setMask P[k].code[q] : Int)]) := fun q h => take_snoc (by rw [setL_len]; exact h) (by simp [setL])
  have HRN : Hid ((rdL P P[k]).length = P[k].code.length ∧ (setL P[k]).length = P[k].code.length) := ⟨rdL_len _ _, setL_len _⟩
  generalize P[k] = f at *
  have hkI : (k : Int) < P.length := by omega
  have d2' := fun o => cell_alloc d2 o
  have HB0 : Hid (Below w.heap.size w (w.alloc (.cells #[.slice (some ⟨b, off, none⟩) P.length cap] 29))) := (Below.refl _ _).alloc (Nat.le_refl _) _
  have HBX : Hid ((w.alloc (.cells #[.slice (some ⟨b, off, none⟩) P.length cap] 29)).cell? ⟨w.heap.size, 0, none⟩ = some (.slice (some ⟨b, off, none⟩) P.length cap)) := by show _ = _; simp
  rw [hlen2] at hl1 hl2
  generalize rdL P f = RL at HRL HRN ⊢
  generalize setL f = SL at HSL HRN ⊢
  have hlenH : Hid (f.code.length = n2) := hlen2
  clear hfo hfe ht hc hv d0 d1 hlen2
  unfold maxLen at hmx2
  go_enter Tryd.func95, Tryd.ntmps95
  go_wp2
  clear d2'
  go_loopw [4, 5, 17] (fun u4 u5 i wr => ∃ (q : Nat) (rv sv : Value), q ≤ n2 ∧ i = .int .i64 q ∧ u4 = rv ∧ u5 = sv ∧ wr.ownsRow (w.heap.size + 1) 3 1 rv q (i64s (RL.take q)) ∧ wr.ownsRow (w.heap.size + 1) 3 1 sv q (i64s (SL.take q)) ∧ (∀ g, rv.ownBlock = some g → sv.ownBlock ≠ some g) ∧ Below (w.heap.size + 1) (w.alloc (.cells #[.slice (some ⟨b, off, none⟩) P.length cap] 29)) wr) (fun _ _ i _ => n2 - (intOf i).toNat)
  case atStart => exact ⟨0, _, _, Nat.zero_le _, rfl, rfl, rfl, ⟨rfl, Or.inl ⟨rfl, rfl⟩⟩, ⟨rfl, Or.inl ⟨rfl, rfl⟩⟩, fun g h => (by cases h), Below.refl _ _⟩
  case round =>
    obtain ⟨q, rv, sv, hq, rfl, e4, e5, hor, hos, hap, hbr⟩ := hrel
    replace e4 := e4.symm
    replace e5 := e5.symm
    subst e4 e5
    have HBR : Hid (Below (w.heap.size + 1) (w.alloc (.cells #[.slice (some ⟨b, off, none⟩) P.length cap] 29)) wr) := hbr
    have hzr : w.heap.size + 1 ≤ wr.heap.size := by have := hbr.size; simpa using this
    have HBW : Hid (Below w.heap.size w wr) := HB0.out.trans (hbr.mono (Nat.le_succ _))
    have HOR : Hid (wr.ownsRow (w.heap.size + 1) 3 1 rv q (i64s (RL.take q))) := hor
    have HOS : Hid (wr.ownsRow (w.heap.size + 1) 3 1 sv q (i64s (SL.take q))) := hos
    have HAP : Hid (∀ g, rv.ownBlock = some g → sv.ownBlock ≠ some g) := hap
    by_cases hlt : q < n2
    · have hqf : q < f.code.length := by rw [hlenH.out]; exact hlt
      have hrd := HRD.out q hqf wr HBW.out
      have HR2 : Hid (RL.take (q + 1) = RL.take q ++ [(rdMask P f.code[q] : Int)]) := HRL.out q hqf
      have HS2 : Hid (SL.take (q + 1) = SL.take q ++ [(setMask f.code[q] : Int)]) := HSL.out q hqf
      generalize (rdMask P f.code[q] : Int) = rz at hrd HR2
      generalize (setMask f.code[q] : Int) = sz at hrd HS2
      have kb := (hbr.cell (p := ⟨w.heap.size, 0, none⟩) (Nat.lt_succ_self _)).trans HBX.out
      have hqI : (q : Int) < n2 := by omega
      clear hor hos hap hbr hqf
      go_wp2_with (first
        | (go_at_call 121; refine hrd.mono ?_; rintro e w1 ⟨rfl, hb1⟩; have hz1 := hb1.size; have OR1 := ownsRow_below HOR.out hb1; have OS1 := ownsRow_below HOS.out hb1)
        | (at_builtin; refine wpList_append_lies _ rfl (.tmp 28) (.tmp 30) 24 rfl (w.heap.size + 1) 3 i64i _ 1 8 Tryd.underlying24 hi64 hz0 hz1' hz2 rfl (by decide) _ _ _ rfl (OR1.alloc _) ⟨_, 0, none⟩ 1 1 (i64s [rz]) rfl rfl (news_list _ _ _ _ rfl) (i64s_one _) (by omega) (by unfold maxLen; omega) (by omega) (by simp; omega) (w1.heap.size + 1) (by simp) ?_; intro g1 cap1 w2 hown1 hg1 hat1 hlt1; rw [← i64s_append] at hown1; have OS2 := (OS1.alloc (.cells (i64s [rz]).toArray 3)).kept hg1 (by cases hsb : sv.ownBlock with | none => exact Or.inl rfl | some g => exact Or.inr (fun e => HAP.out g e.symm hsb)))
        | (at_builtin; refine wpList_append_lies _ rfl (.tmp 32) (.tmp 34) 24 rfl (w.heap.size + 1) 3 i64i _ 1 8 Tryd.underlying24 hi64 hz0 hz1' hz2 rfl (by decide) _ _ _ rfl (OS2.alloc _) ⟨_, 0, none⟩ 1 1 (i64s [sz]) rfl rfl (news_list _ _ _ _ rfl) (i64s_one _) (by omega) (by unfold maxLen; omega) (by omega) (by have := hg1.size; simp at this ⊢; omega) (w2.heap.size + 1) (by simp) ?_; intro g2 cap2' w3 hown2 hg2 hat2 hlt2; rw [← i64s_append] at hown2))
      have hsn : sv.ownBlock ≠ some g1 := by
        rcases hat1 with h | h
        · exact HAP.out g1 h
        · intro e
          have := (OS1.lt g1 e).2
          omega
      have OR3 := (hown1.alloc (.cells (i64s [sz]).toArray 3)).kept hg2 (Or.inr (fun e => hsn e.symm))
      have hb2 : Below (w.heap.size + 1) (w1.alloc (.cells (i64s [rz]).toArray 3)) w2 := grown_base (OR1.alloc _) (by simp; omega) hg1
      have hb3 : Below (w.heap.size + 1) (w2.alloc (.cells (i64s [sz]).toArray 3)) w3 := grown_base (OS2.alloc _) (by have := hb2.size; simp at this ⊢; omega) hg2
      have hball : Below (w.heap.size + 1) (w.alloc (.cells #[.slice (some ⟨b, off, none⟩) P.length cap] 29)) w3 := by
        have a1 := below_call HBR.out hzr hb1
        have a2 := (a1.alloc (by omega) (.cells (i64s [rz]).toArray 3)).trans hb2
        have hz2 : w.heap.size + 1 ≤ w2.heap.size := by have := hb2.size; simp at this; omega
        exact (a2.alloc hz2 (.cells (i64s [sz]).toArray 3)).trans hb3
      have hgg : g1 ≠ g2 := by
        rcases hat2 with h | h
        · intro e; exact hsn (by rw [e]; exact h)
        · omega
      go_roundw
      case rel => exact ⟨q + 1, _, _, by omega, by go_num, rfl, rfl, by rw [HR2.out]; exact OR3, by rw [HS2.out]; exact hown2, fun g e1 e2 => hgg (by simp [Value.ownBlock] at e1 e2; omega), hball⟩
      case measure => simp [intOf]; omega
    · obtain rfl : q = n2 := by omega
      have e1 : RL.take q = RL := List.take_of_length_le (by have := HRN.out; have := hlenH.out; omega)
      have e2 : SL.take q = SL := List.take_of_length_le (by have := HRN.out; have := hlenH.out; omega)
      have HV1 : Hid (IntsVal wr rv RL) := ints_of_own (by have h := HOR.out; rw [e1] at h; have e3 : RL.length = q := by have := HRN.out; have := hlenH.out; omega
                                                           rw [e3]; exact h)
      have HV2 : Hid (IntsVal wr sv SL) := ints_of_own (by have h := HOS.out; rw [e2] at h; have e3 : SL.length = q := by have := HRN.out; have := hlenH.out; omega
                                                           rw [e3]; exact h)
      clear hor hos hap hbr e1 e2
      go_wp2
      go_ret2
      refine ⟨rv, sv, rfl, HV1.out, HV2.out, fun b' off' n' c' h => ?_, HBW.out⟩
      rcases h with rfl | rfl
      · have := (HOR.out.lt b' rfl).1; omega
      · have := (HOS.out.lt b' rfl).1; omega

theorem prog_codeF {w : World} {v : Value} {P : List Fn} (hv : ProgVal w v P) {k : Nat} (hk : k < P.length) (h1 : 1 ≤ P[k].code.length) :
    ∃ b off cap b2 off2 cap2, v = .slice (some ⟨b, off, none⟩) P.length cap ∧ cap ≤ 9223372036854775807 ∧ P.length ≤ cap ∧ cap2 ≤ 9223372036854775807 ∧ P[k].code.length ≤ cap2 ∧
      ∀ W, Below w.heap.size w W → W.cell? ⟨b, off + k * 3 + 2, none⟩ = some (.slice (some ⟨b2, off2, none⟩) P[k].code.length cap2) ∧ ∀ q, q < P[k].code.length → insAt W b2 (off2 + q * 5) (insD P[k] q) := by
  obtain ⟨b, off, cap, u, rfl, d0, d1, d2, hcv, hm, hcc⟩ := prog_fn hv hk
  obtain ⟨ao2, b2, off2, n2, cap2, rfl, ⟨hlen2, haddr2, hat2⟩, hcap2, hmx2⟩ := hcv
  subst hlen2
  obtain rfl := haddr2 (by omega)
  refine ⟨b, off, cap, b2, off2, cap2, rfl, hm, hcc, by simpa [maxLen] using hmx2, hcap2.1, fun W hW => ⟨keeps_below hW _ _ d2, fun q hq => ?_⟩⟩
  rw [insD_eq hq]
  exact (hat2 q hq).keeps (keeps_below hW)

set_option maxRecDepth 100000 in
set_option maxHeartbeats 4000000 in
theorem live_low (P : List Fn) (hR : ProofAns P 0) (k : Nat) (hk : k < P.length) (v : Value) (w : World) (ht : TabOk w) (hc : CallOk w) (hv : ProgVal w v P) :
    Calls Tryd.prog 59 #[.agg #[v], .int .i64 k] w fun e w' => ∃ v' L, e = .returned v' ∧ LiveSpec P P[k] L ∧ IntsVal w' v' L ∧ (∀ a n c, v' = .slice (some a) n c → w.heap.size ≤ a.block) ∧ Below w.heap.size w w' := by
  obtain ⟨i64i, hi64, hz0, hz1', hz2⟩ := info_parts info64
  have hP := right_code hR
  have OK : Hid (FlowOk P P[k]) := flowOk_of hR (List.getElem_mem hk)
  have hl1 := OK.out.ok.len1
  have hl2 := OK.out.ok.len2
  have hfe := fnErr_ok hP hk
  have HRE : Hid (∀ A, SureAns P k A → A.length = P[k].code.length ∧ ∀ q, q < P[k].code.length → (0 ≤ A.getD q 0 ↔ Way P[k] 63 q)) := fun A hA => reach_sure hfe hk hA
  have hbx : ∀ o, Below w.heap.size w (w.alloc o) := fun o => (Below.refl _ _).alloc (Nat.le_refl _) _
  have hSu := fun o => sure_all P v k (w.alloc o) (ht.below (hbx o)) (hv.keeps (keeps_below (hbx o)))
  rw [hfe] at hSu
  have HTO : Hid (∀ W, Below w.heap.size w W → Calls Tryd.prog 95 #[.agg #[v], .int .i64 k] W fun e w' => ∃ v1 v2, e = .returned (.tuple #[v1, v2]) ∧ IntsVal w' v1 (rdL P P[k]) ∧ IntsVal w' v2 (setL P[k]) ∧ (∀ b off n c, (v1 = .slice (some ⟨b, off, none⟩) n c ∨ v2 = .slice (some ⟨b, off, none⟩) n c) → W.heap.size ≤ b) ∧ Below W.heap.size W w') := fun W hb => touched_any P hP k hk v W (ht.below hb) (hc.below hb) (hv.keeps (keeps_below hb))
  obtain ⟨b, off, cap, b2, off2, cap2, rfl, hm, hcc, hm2, hcc2, hpc⟩ := prog_codeF hv hk hl1
  have HPC : Hid (∀ W, Below w.heap.size w W → W.cell? ⟨b, off + k * 3 + 2, none⟩ = some (.slice (some ⟨b2, off2, none⟩) P[k].code.length cap2) ∧ ∀ q, q < P[k].code.length → insAt W b2 (off2 + q * 5) (insD P[k] q)) := hpc
  have HRL : Hid (∀ q, q < P[k].code.length → (rdL P P[k]).getD q 0 = (rdMask P (insD P[k] q) : Int) ∧ (setL P[k]).getD q 0 = (setMask (insD P[k] q) : Int)) := fun q hq => by
    rw [insD_eq hq]; simp [rdL, setL, List.getD, hq]
  have HRN : Hid ((rdL P P[k]).length = P[k].code.length ∧ (setL P[k]).length = P[k].code.length) := ⟨rdL_len _ _, setL_len _⟩
  have hkI : (k : Int) < P.length := by omega
  clear hfe hbx ht hc hv hpc hP
  generalize P[k] = f at *
  generalize hN : f.code.length = n at *
  have HN : Hid (f.code.length = n) := hN
  clear hN
  have hm0 := made_ints0 n
  go_enter Tryd.func59, Tryd.ntmps59
  go_wp2_with (first
    | (go_at_call 17; refine (hSu _).mono ?_; rintro e w1 ⟨v1, A, rfl, hA, hI, hb1⟩; obtain ⟨hAl, hAw⟩ := HRE.out A hA; obtain ⟨ao1, b1, off1, n1, cap1, rfl, hl, ha, hc, hcp, hmc⟩ := ints_get hI; obtain rfl : n = n1 := hAl.symm.trans hl; obtain rfl := ha (by omega); have HAW : Hid (∀ q, q < n → (0 ≤ A.getD q 0 ↔ Way f 63 q)) := hAw; have HC : Hid (∀ q, q < n → w1.cell? ⟨b1, off1 + q, none⟩ = some (.int .i64 (A.getD q 0))) := hc; have kbx := keeps_below hb1 ⟨w.heap.size, 0, none⟩ (.slice (some ⟨b, off, none⟩) P.length cap) (by simp); clear hAl hAw hl ha hc hI hA)
    | (at_make; refine wpList_make_full _ rfl (.tmp 21) (.tmp 21) 24 rfl 0 3 i64i _ 1 Tryd.underlying24 hi64 hz0 hz1' .i64 .i64 _ _ n rfl rfl (by simp) (by simp) (by rw [hz2]; omega) (by unfold maxLen; omega) (Nat.zero_le _) ?_; intro w2 hown2 hg2; rw [hm0] at hown2; have hb2 := below_grown hg2))
  have hz1 : w.heap.size < w1.heap.size := by have := hb1.size; simp at this; omega
  have HB2 : Hid (Below w.heap.size w w2) := below_call (((Below.refl _ _).alloc (Nat.le_refl _) _).trans (hb1.mono (by simp))) (by omega) hb2
  have HC2 : Hid (∀ q, q < n → w2.cell? ⟨b1, off1 + q, none⟩ = some (.int .i64 (A.getD q 0))) := fun q hq => keeps_below hb2 _ _ (HC.out q hq)
  have hb1l : b1 < w1.heap.size := World.block_lt_of_cell? _ _ (HC.out 0 (by omega))
  have HOWN : Hid (IntRow w2 w1.heap.size n (List.replicate n 0)) := hown2
  have HKB : Hid (w2.cell? ⟨w.heap.size, 0, none⟩ = some (.slice (some ⟨b, off, none⟩) P.length cap)) := keeps_below hb2 _ _ kbx
  clear hown2 hg2 hb2 HC hSu hb1 kbx
  have hz2 := HB2.out.size
  have hzr2 : w1.heap.size < w2.heap.size := lt_of_block (own_heap HOWN.out)
  generalize w1.heap.size = g at *
  go_loopw [25] (fun i wr => ∃ (q : Nat) (L : List Int), q ≤ n ∧ i = .int .i64 q ∧ (L.length = n ∧ ∀ j, j < n → L.getD j 0 = if j < q ∧ A.getD j 0 < 0 then -1 else 0) ∧ IntRow wr g n L ∧ w2.grownBy wr (some g)) (fun i _ => n - (intOf i).toNat)
  case atStart => exact ⟨0, _, Nat.zero_le _, rfl, ⟨by simp, fun j h => by simp [List.getD, h]⟩, HOWN.out, gb_refl _ _⟩
  case round =>
    obtain ⟨q, L, hq, rfl, hs, hrow, hgr⟩ := hrel
    by_cases hlt : q < n
    · have c1 := gb_cell hgr (HC2.out q hlt) (by show b1 ≠ _; omega)
      have cf := hrow.frozenAt q
      have cc := int_cell hrow hs.1 q hlt
      have HST := int_store hrow q (-1)
      have HX1 : Hid (IntRow (wr.setCell ⟨g, q, none⟩ (.int .i64 (-1))) g n (L.set q (-1))) := HST.1
      have HX2 : Hid (w2.grownBy (wr.setCell ⟨g, q, none⟩ (.int .i64 (-1))) (some g)) := gb_trans hgr HST.2
      have HS1 : Hid (A.getD q 0 < 0 → (L.set q (-1)).length = n ∧ ∀ j, j < n → (L.set q (-1)).getD j 0 = if j < q + 1 ∧ A.getD j 0 < 0 then -1 else 0) := by
        intro hA
        refine ⟨by simp [hs.1], fun j hj => ?_⟩
        rw [igetD_set _ _ _ _ (by rw [hs.1]; exact hlt)]
        by_cases hjq : j = q
        · rw [if_pos hjq, if_pos ⟨by omega, by rw [hjq]; exact hA⟩]
        · rw [if_neg hjq, hs.2 j hj]
          by_cases hjl : j < q ∧ A.getD j 0 < 0
          · rw [if_pos hjl, if_pos ⟨by omega, hjl.2⟩]
          · rw [if_neg hjl, if_neg (fun h => hjl ⟨by omega, h.2⟩)]
      have HS2 : Hid (¬ A.getD q 0 < 0 → L.length = n ∧ ∀ j, j < n → L.getD j 0 = if j < q + 1 ∧ A.getD j 0 < 0 then -1 else 0) := by
        intro hA
        refine ⟨hs.1, fun j hj => ?_⟩
        rw [hs.2 j hj]
        by_cases hjl : j < q ∧ A.getD j 0 < 0
        · rw [if_pos hjl, if_pos ⟨by omega, hjl.2⟩]
        · rw [if_neg hjl, if_neg]
          intro h
          by_cases hjq : j = q
          · exact hA (by rw [← hjq]; exact h.2)
          · exact hjl ⟨by omega, h.2⟩
      have HRW : Hid (IntRow wr g n L) := hrow
      have HGR : Hid (w2.grownBy wr (some g)) := hgr
      have hqI : (q : Int) < n := by omega
      clear HST hrow hgr hs
      by_cases hA : A.getD q 0 < 0
      · have hA2 : decide (A.getD q 0 < 0) = true := by simpa using hA
        have HS := HS1.out hA
        have HSH : Hid ((L.set q (-1)).length = n ∧ ∀ j, j < n → (L.set q (-1)).getD j 0 = if j < q + 1 ∧ A.getD j 0 < 0 then -1 else 0) := HS
        generalize A.getD q 0 = z at c1 hA2
        clear HS HS1 HS2 hA
        go_wp2
        go_roundw
        case rel => exact ⟨q + 1, _, by omega, by go_num, HSH.out, HX1.out, HX2.out⟩
        case measure => simp [intOf]; omega
      · have hA2 : decide (A.getD q 0 < 0) = false := by simpa using hA
        have HS := HS2.out hA
        have HSH : Hid (L.length = n ∧ ∀ j, j < n → L.getD j 0 = if j < q + 1 ∧ A.getD j 0 < 0 then -1 else 0) := HS
        generalize A.getD q 0 = z at c1 hA2
        clear HS HS1 HS2 hA
        go_wp2
        go_roundw
        case rel => exact ⟨q + 1, L, by omega, by go_num, HSH.out, HRW.out, HGR.out⟩
        case measure => simp [intOf]; omega
    · obtain rfl : q = n := by omega
      have HLL : Hid (LLoops P f true L) := LLoops.start (by rw [HN.out]; exact hs.1) (fun j hj hw => by
          rw [HN.out] at hj
          have hneg : A.getD j 0 < 0 := by
            rcases Int.lt_or_le (A.getD j 0) 0 with h | h
            · exact h
            · exact absurd ((HAW.out j hj).1 h) hw
          rw [hs.2 j hj, if_pos ⟨hj, hneg⟩]) (fun j hj hw => by
          rw [HN.out] at hj
          rw [hs.2 j hj, if_neg]
          intro h
          have := (HAW.out j hj).2 hw
          omega)
      have HB3 : Hid (Below w.heap.size w wr) := below_gb HB2.out hgr (by omega) (by omega)
      have kb3 := gb_cell hgr HKB.out (by show w.heap.size ≠ _; omega)
      have HRW : Hid (IntRow wr g q L) := hrow
      have hg3 : g < wr.heap.size := by have := hgr.size; omega
      have hTO := HTO.out wr HB3.out
      clear hs hrow hgr HOWN HKB HC2
      go_upto_region 11 with (go_at_call 95; refine hTO.mono ?_; rintro e w4 ⟨tv1, tv2, rfl, hi1, hi2, hfr4, hb4⟩; obtain ⟨aor, br, offr, nr, capr, rfl, hlr, har, hcr, hcpr, hmr⟩ := ints_get hi1; obtain ⟨aos, bs, offs, ns, caps, rfl, hls, has, hcs, hcps, hms⟩ := ints_get hi2)
      obtain rfl : q = nr := by have := HRN.out; omega
      obtain rfl : q = ns := by have := HRN.out; omega
      obtain rfl := har (by omega)
      obtain rfl := has (by omega)
      have hbrg : br ≠ g := by have := hfr4 br offr q capr (Or.inl rfl); omega
      have hbsg : bs ≠ g := by have := hfr4 bs offs q caps (Or.inr rfl); omega
      have hz4 := hb4.size
      have HCR : Hid (∀ j, j < q → w4.cell? ⟨br, offr + j, none⟩ = some (.int .i64 (rdMask P (insD f j) : Int)) ∧ w4.cell? ⟨bs, offs + j, none⟩ = some (.int .i64 (setMask (insD f j) : Int))) := fun j hj => ⟨by rw [hcr j hj, (HRL.out j hj).1], by rw [hcs j hj, (HRL.out j hj).2]⟩
      have HB4 : Hid (Below w.heap.size w w4) := below_call HB3.out (by omega) hb4
      have kb4 := keeps_below hb4 _ _ kb3
      have HR4 : Hid (IntRow w4 g q L) := ownsRow_below HRW.out hb4
      have hqm : q ≤ maxLen := by unfold maxLen; omega
      clear hcr hcs hlr hls har has hi1 hi2 hfr4 hb4 kb3 hTO HRW HB3 HRL HRN HAW HRE HTO
      have hw0 : IntKind.i64.wrap ((q : Int) - 1) = (q : Int) - 1 := wrap_signed _ (by omega) (by omega)
      go_loopg [11] (totL L + 1) (fun m ag wl => ∃ (again : Bool) (L' : List Int), m = totL L' + (if again = true then 1 else 0) ∧ ag = .bool again ∧ LLoops P f again L' ∧ IntRow wl g q L' ∧ w4.grownBy wl (some g))
      case atStart => exact ⟨true, L, rfl, rfl, HLL.out, HR4.out, gb_refl _ _⟩
      case round =>
        obtain ⟨again, L', hm', rfl, hlp, hrow, hgr⟩ := hrel
        rename World => wo
        have HM : Hid (gk = totL L' + (if again = true then 1 else 0)) := hm'
        have HLP : Hid (LLoops P f again L') := hlp
        have HRO : Hid (IntRow wo g q L') := hrow
        have HGO : Hid (w4.grownBy wo (some g)) := hgr
        have hzo : w4.heap.size ≤ wo.heap.size := hgr.size
        have HBO : Hid (Below w.heap.size w wo) := below_gb HB4.out hgr (by omega) (by omega)
        clear hm' hlp hrow hgr
        cases again
        · go_wp2
          go_ret
          exact ⟨_, L', rfl, HLP.out.spec OK.out, int_vals HRO.out (HLP.out.inv.len.trans HN.out) hqm, fun a n c e => by cases e; show _ ≤ g; omega, HBO.out⟩
        · go_wp2
          go_loopw [11, 12] (fun ag i wi => ∃ (kk : Nat) (z : Int) (again' : Bool) (L2 : List Int), kk ≤ q ∧ z = (kk : Int) - 1 ∧ i = .int .i64 z ∧ ag = .bool again' ∧ LMid P f L' kk again' L2 ∧ IntRow wi g q L2 ∧ wo.grownBy wi (some g)) (fun _ i _ => (intOf i + 1).toNat)
          case atStart => exact ⟨q, _, false, L', Nat.le_refl _, rfl, rfl, rfl, (by have h := LMid.start HLP.out.inv; rw [HN.out] at h; exact h), HRO.out, gb_refl _ _⟩
          case round =>
            obtain ⟨kk, z, again', L2, hkk, hz, rfl, rfl, hmid, hrow, hgr⟩ := hrel
            have HBI : Hid (Below w.heap.size w wr) := below_gb HBO.out hgr (by omega) (by omega)
            rcases kk with _ | j
            · have hz1n : ¬ (0 ≤ z) := by omega
              have hz2n : decide (0 ≤ z) = false := by simpa using hz1n
              clear hz
              have HX := LLoops.next hmid
              have HXH : Hid (LLoops P f again' L2 ∧ totL L2 + (if again' = true then 1 else 0) < totL L' + 1) := HX
              have HRI : Hid (IntRow wr g q L2) := hrow
              have HGI : Hid (w4.grownBy wr (some g)) := gb_trans HGO.out hgr
              clear HX hmid hrow hgr
              go_wp2
              go_roundg (totL L2 + (if again' = true then 1 else 0))
              case measure => rw [HM.out]; exact HXH.out.2
              case rel => exact ⟨again', L2, rfl, rfl, HXH.out.1, HRI.out, HGI.out⟩
            · obtain rfl : z = (j : Int) := by omega
              clear hz
              have hjq : j < q := by omega
              have hjf : j < f.code.length := by rw [HN.out]; exact hjq
              have hlen2 : L2.length = q := hmid.inv.len.trans HN.out
              have cj := int_cell hrow hlen2 j hjq
              have hjI : (j : Int) < q := by omega
              have hwj : IntKind.i64.wrap ((j : Int) - 1) = (j : Int) - 1 := wrap_signed _ (by omega) (by omega)
              have HRI : Hid (IntRow wr g q L2) := hrow
              have HGI : Hid (wo.grownBy wr (some g)) := hgr
              by_cases hw : Way f 63 j
              · have hge := hmid.inv.mk_eq hjf hw
                have HSTEP : Hid (LMid P f L' j (again' || (aheadL P f L2 j != mkL L2 j)) (L2.set j (aheadL P f L2 j : Int))) := hmid.step OK.out hjf hw
                have hwl := hmid.inv.want_lt OK.out hjf hw
                have hahl := hmid.inv.ahead_lt OK.out hjf hw
                have hsl := OK.out.ok.sets j
                have hrl := rdMask_lt12 (OK.out.insD hjf).1
                have HWD : Hid (∀ d : Later wr, Calls Tryd.prog 96 #[.slice (some ⟨g, 0, none⟩) q q, (insD f j).val, .int .i64 j] d.to fun e w' => e = .returned (.int .i64 (wantL L2 (behind (insD f j) j) : Int)) ∧ Below d.to.heap.size d.to w') := fun d => wanted_any (insD f j) j L2 g q q d.to (OK.out.insD hjf).2 (by omega) (by omega) (fun t ht => keeps_below d.below _ _ (int_cell HRI.out hlen2 t ht)) (fun t ht => by
                  obtain ⟨t1, t2⟩ := OK.out.on hjf hw ht
                  have := hmid.inv.yes t t2 t1
                  exact ⟨by rw [HN.out] at t2; exact t2, this.1, this.2⟩)
                have hll := lessM_le (wantL L2 (behind (insD f j) j)) (setMask (insD f j)) (by omega)
                have hand := lessM_int (wantL L2 (behind (insD f j) j)) (setMask (insD f j)) (by omega) (by omega)
                have hor : bits .or .i64 (rdMask P (insD f j) : Int) (lessM (wantL L2 (behind (insD f j) j)) (setMask (insD f j)) : Int) = (aheadL P f L2 j : Int) := bits_or_nat _ _ (by omega) (by omega)
                obtain ⟨cr, cs⟩ := HCR.out j hjq
                have e0 := Later.cell (gb_cell HGI.out (gb_cell HGO.out cr hbrg) hbrg)
                have e1 := Later.cell (gb_cell HGI.out (gb_cell HGO.out cs hbsg) hbsg)
                have e2 := Later.cell (gb_cell HGI.out (gb_cell HGO.out kb4 (by show w.heap.size ≠ g; omega)) (by show w.heap.size ≠ g; omega))
                obtain ⟨pc1, pc2⟩ := HPC.out wr HBI.out
                have e3 := Later.cell pc1
                obtain ⟨x0, x1, x2, x3, x4⟩ := pc2 j hjq
                have m0 := Later.cell x0
                have m1 := Later.cell x1
                have m2 := Later.cell x2
                have m3 := Later.cell x3
                have m4 := Later.cell x4
                rw [hge.1] at cj
                have ecj := Later.cell cj
                have hne1 : ((mkL L2 j : Int) == -1) = false := by simp
                have HNE : Hid (((aheadL P f L2 j : Int) != (mkL L2 j : Int)) = (aheadL P f L2 j != mkL L2 j)) := by
                  show _ = _
                  rw [Bool.eq_iff_iff, bne_iff_ne, bne_iff_ne]; omega
                have HSET : Hid (∀ W, IntRow W g q L2 → IntRow (W.setCell ⟨g, j, none⟩ (.int .i64 (aheadL P f L2 j : Int))) g q (L2.set j (aheadL P f L2 j : Int)) ∧ W.grownBy (W.setCell ⟨g, j, none⟩ (.int .i64 (aheadL P f L2 j : Int))) (some g)) := fun W h => int_store h j _
                clear hmid hrow hgr hge hwl hahl hsl hrl hll cr cs x0 x1 x2 x3 x4 pc1 pc2
                generalize (L2.set j (aheadL P f L2 j : Int)) = L3 at HSET HSTEP
                generalize hcw : (aheadL P f L2 j != mkL L2 j) = ne at HNE HSTEP
                clear hcw
                generalize (lessM (wantL L2 (behind (insD f j) j)) (setMask (insD f j)) : Int) = LM at hand hor
                generalize (wantL L2 (behind (insD f j) j) : Int) = WE at hand HWD
                generalize (setMask (insD f j) : Int) = SM at e1 hand
                generalize (rdMask P (insD f j) : Int) = RM at e0 hor
                generalize (aheadL P f L2 j : Int) = AH at hor HNE HSET
                generalize (mkL L2 j : Int) = MK at cj ecj hne1 HNE
                have hwd := HWD.out
                generalize insD f j = xx at m0 m1 m2 m3 m4 hwd
                obtain ⟨op, dst, xa, xb, imm⟩ := xx
                unfold Ins.val at hwd
                dsimp only at m0 m1 m2 m3 m4 hwd
                clear HWD
                go_wp2
                refine wp_region_later (by kernel_rfl) (by kernel_rfl) ?_
                repeat (go_big_quiet_step ((go_at_call 96; exact calls_later (hwd _))))
                refine wpQuiet_nil ?_
                intro _ hw'
                obtain ⟨d, hw''⟩ := hw'
                subst hw''
                have ecd := ecj d
                have hRd : Hid (IntRow d.to g q L2) := ownsRow_below HRI.out d.below
                have hfz := hRd.out.frozenAt j
                have HSd := HSET.out d.to hRd.out
                have HS1 : Hid (IntRow (d.to.setCell ⟨g, j, none⟩ (.int .i64 AH)) g q L3) := HSd.1
                have HS2 : Hid (wo.grownBy (d.to.setCell ⟨g, j, none⟩ (.int .i64 AH)) (some g)) := gb_trans (gb_trans HGI.out (gb_below _ d.below)) HSd.2
                clear HSd e0 e1 e2 e3 m0 m1 m2 m3 m4 ecj hwd cj
                cases again'
                · cases ne
                  · have hne : (AH != MK) = false := HNE.out
                    go_wp2
                    go_roundw
                    case rel => exact ⟨j, _, false, L3, by omega, rfl, rfl, rfl, HSTEP.out, HS1.out, HS2.out⟩
                    case measure => simp [intOf]
                  · have hne : (AH != MK) = true := HNE.out
                    go_wp2
                    go_roundw
                    case rel => exact ⟨j, _, true, L3, by omega, rfl, rfl, rfl, HSTEP.out, HS1.out, HS2.out⟩
                    case measure => simp [intOf]
                · go_wp2
                  go_roundw
                  case rel => exact ⟨j, _, true, L3, by omega, rfl, rfl, rfl, HSTEP.out, HS1.out, HS2.out⟩
                  case measure => simp [intOf]
              · have hno := hmid.inv.no j hjf hw
                have HSK : Hid (LMid P f L' j again' L2) := hmid.skip hw
                rw [hno] at cj
                clear hmid hrow hgr hno
                go_wp2
                go_roundw
                case rel => exact ⟨j, _, again', L2, by omega, rfl, rfl, rfl, HSK.out, HRI.out, HGI.out⟩
                case measure => simp [intOf]
theorem live_any (P : List Fn) (hR : ProofAns P 0) (k : Nat) (hk : k < P.length) (v : Value) (w : World) (ht : TabOk w) (hc : CallOk w) (hv : ProgVal w v P) :
    Calls Tryd.prog 59 #[.agg #[v], .int .i64 k] w fun e w' => ∃ v' L, e = .returned v' ∧ LiveSpec P P[k] L ∧ IntsVal w' v' L ∧ Below w.heap.size w w' :=
  (live_low P hR k hk v w ht hc hv).mono (by rintro e w' ⟨v', L, rfl, h1, h2, _, h3⟩; exact ⟨v', L, rfl, h1, h2, h3⟩)
end Go.Proofs.YtgoefojdggblpaaDoor
