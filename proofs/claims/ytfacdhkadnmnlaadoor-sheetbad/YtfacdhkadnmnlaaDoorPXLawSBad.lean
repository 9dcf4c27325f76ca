import Derived.Test.YtfacdhkadnmnlaaDoorPXRowS9
import Derived.Test.YtfacdhkadnmnlaaDoorPGroupF
namespace Go.Proofs.YtfacdhkadnmnlaaDoor
open Go Go.RowKit

theorem infoS : (Tryd.prog.info? 9).map (fun i => (i.zero, i.size, i.bytes)) = some (some (.string ⟨#[]⟩), 1, 16) := by kernel_rfl
def strs (l : List Pc) : List Value := l.map fun (p : Pc) => Value.string ⟨p.toArray⟩
structure Cut (t : Pc) (Ls : List Pc) (F k : Nat) : Prop where
 lines : linesB t = Ls ++ linesB (t.drop F)
 le : F ≤ k
 kle : k ≤ t.length
 none : ∀ j, F ≤ j → j < k → t.getD j 0 ≠ 10
 count : Ls.length ≤ F
theorem Cut.zero (t : Pc) : Cut t [] 0 0 := ⟨rfl, Nat.le_refl _, Nat.zero_le _, fun j _ h => by omega, Nat.le_refl _⟩
theorem Cut.on {t : Pc} {Ls : List Pc} {F k : Nat} (h : Cut t Ls F k) (hk : k < t.length) (hc : t.getD k 0 ≠ 10) : Cut t Ls F (k + 1) :=
 ⟨h.lines, by have := h.le; omega, hk, fun j h1 h2 => by
  by_cases e : j = k
  ·rw [e]; exact hc
  ·exact h.none j h1 (by omega), h.count⟩
theorem seg_none {t : Pc} {F k : Nat} (_ : k ≤ t.length) (h : ∀ j, F ≤ j → j < k → t.getD j 0 ≠ 10) : ∀ c ∈ (t.drop F).take (k - F), c ≠ 10 := by
 intro c hc e
 subst e
 obtain ⟨i, hi⟩ := List.getElem?_of_mem hc
 have hlt : i < k - F := by
  have := (List.getElem?_eq_some_iff.1 hi).1
  rw [List.length_take] at this
  omega
 rw [List.getElem?_take_of_lt hlt, List.getElem?_drop] at hi
 exact h (F + i) (by omega) (by omega) (by simp [List.getD, hi])
theorem Cut.line {t : Pc} {Ls : List Pc} {F k : Nat} (h : Cut t Ls F k) (hk : k < t.length) (hc : t.getD k 0 = 10) : Cut t (Ls ++ [(t.drop F).take (k + 1 - F)]) (k + 1) (k + 1) := by
 have hle := h.le
 have hs := seg_none h.kle h.none
 have hd : t.drop F = (t.drop F).take (k - F) ++ [10] ++ t.drop (k + 1) := by
  have h1 : t.drop F = (t.drop F).take (k - F) ++ (t.drop F).drop (k - F) := (List.take_append_drop _ _).symm
  rw [List.drop_drop, show F + (k - F) = k by omega, List.drop_eq_getElem_cons hk] at h1
  have h2 : t[k] = 10 := by simpa [List.getD, hk] using hc
  rw [h2] at h1
  rw [List.append_assoc]
  exact h1
 have ht : (t.drop F).take (k + 1 - F) = (t.drop F).take (k - F) ++ [10] := by
  have hl : ((t.drop F).take (k - F)).length = k - F := by rw [List.length_take, List.length_drop]; omega
  conv => lhs; rw [hd]
  rw [List.take_append_of_le_length (by simp; omega), List.take_of_length_le (by simp; omega)]
 refine ⟨?_, Nat.le_refl _, hk, fun j h1 h2 => by omega, by have := h.count; simp; omega⟩
 rw [h.lines, ht]
 conv => lhs; rw [hd]
 rw [linesB_line _ _ hs]
 simp
theorem Cut.done {t : Pc} {Ls : List Pc} {F k : Nat} (h : Cut t Ls F k) (hk : t.length ≤ k) (hl : ∀ l ∈ linesB t, IsLine l) : Ls = linesB t := by
 by_cases he : t.drop F = []
 ·rw [h.lines, he]; simp [linesB]
 ·exfalso
  have hs := seg_none h.kle h.none
  have hkt : k = t.length := by have := h.kle; omega
  rw [List.take_of_length_le (by rw [List.length_drop, hkt]; exact Nat.le_refl _)] at hs
  have hm : t.drop F ∈ linesB t := by rw [h.lines, linesB_torn _ hs he]; simp
  obtain ⟨u, hu, _⟩ := hl _ hm
  exact hs 10 (by rw [hu]; simp) rfl
def putIn (R : List Pc) (k j : Nat) (b : Pc) : Pc := if k < j then (R.take k).flatten ++ b ++ ((R.take j).drop k).flatten else (R.take j).flatten
theorem putIn_zero (R : List Pc) (k : Nat) (b : Pc) : putIn R k 0 b = [] := by simp [putIn]
theorem putIn_here (R : List Pc) (k : Nat) (b : Pc) (h : k < R.length) : putIn R k (k + 1) b = putIn R k k b ++ b ++ R[k] := by
 unfold putIn
 rw [if_pos (by omega), if_neg (by omega), List.take_succ_eq_append_getElem h]
 rw [List.drop_append_of_le_length (by rw [List.length_take]; omega), List.drop_of_length_le (by rw [List.length_take]; omega)]
 simp
theorem putIn_on (R : List Pc) (k j : Nat) (b : Pc) (h : j < R.length) (hk : j ≠ k) : putIn R k (j + 1) b = putIn R k j b ++ R[j] := by
 unfold putIn
 rw [List.take_succ_eq_append_getElem h]
 by_cases h1 : k < j
 ·rw [if_pos (by omega), if_pos h1, List.drop_append_of_le_length (by rw [List.length_take]; omega)]
  simp
 ·rw [if_neg (by omega), if_neg h1, List.flatten_append]
  simp only [List.flatten_cons, List.flatten_nil, List.append_nil]
theorem putIn_end (R : List Pc) (k : Nat) (b : Pc) (h : k < R.length) : putIn R k R.length b = (R.take k).flatten ++ b ++ (R.drop k).flatten := by
 unfold putIn
 rw [if_pos h, List.take_length]
theorem putIn_last (R : List Pc) (b : Pc) : putIn R R.length R.length b ++ b = (R.take R.length).flatten ++ b ++ (R.drop R.length).flatten := by
 unfold putIn
 rw [if_neg (by omega)]
 simp
theorem badLines_len : ∀ b ∈ badLines, b.length ≤ 20 := by decide
theorem read_bad {P : List Fn} (h : codeProg P = 0) (hi : ∀ f ∈ P, ∀ x ∈ f.code, I64 x.imm) (k : Nat) (hk : k ≤ (progRows P).length) (b : Pc) (hb : b ∈ badLines) :
  readErr (((progRows P).take k).flatten ++ b ++ ((progRows P).drop k).flatten) = 5 ∧ readPlace (((progRows P).take k).flatten ++ b ++ ((progRows P).drop k).flatten) = k ∧ readProg (((progRows P).take k).flatten ++ b ++ ((progRows P).drop k).flatten) = [] := by
 obtain ⟨r1, r2⟩ := bad_read P (told_all h hi).1 k hk b hb
 have hlen : (((progRows P).take k).flatten ++ b ++ ((progRows P).drop k).flatten).length ≤ 10000 := by
  have h1 := show_len' h hi
  rw [← rows_flat, ← List.take_append_drop k (progRows P), List.flatten_append, List.length_append] at h1
  have := badLines_len b hb
  simp only [List.length_append]
  omega
 have e1 : readErr (((progRows P).take k).flatten ++ b ++ ((progRows P).drop k).flatten) = 5 := by unfold readErr; rw [if_neg (by omega), r1]
 exact ⟨e1, by unfold readPlace; rw [if_neg (by omega), r1]; exact congrArg _ r2, by unfold readProg; rw [if_neg (by rw [e1]; decide)]⟩
theorem ext_mid (q : Pc) (a b : Nat) : (⟨q.toArray⟩ : ByteArray).extract a b = ⟨((q.drop a).take (b - a)).toArray⟩ := by
 apply ByteArray.ext
 apply Array.ext'
 rw [ByteArray.data_extract, Array.toList_extract]
theorem strs_snoc (l : List Pc) (p : Pc) : strs (l ++ [p]) = strs l ++ [.string ⟨p.toArray⟩] := by simp [strs]
theorem strs_cell {w : World} {B g n cap : Nat} {R : List Pc} (h : w.ownsRow B 9 1 (.slice (some ⟨g, 0, none⟩) n cap) n (strs R)) (j : Nat) (hj : j < R.length) : w.cell? ⟨g, j, none⟩ = some (.string ⟨(R[j]).toArray⟩) := by
 have hc := @World.ownsRow.cells _ _ _ _ _ _ _ h
 have := hc (g := g) rfl j (.string ⟨(R[j]).toArray⟩) (by simp [strs, hj])
 rwa [Addr.add_lit, Nat.zero_add] at this
set_option maxRecDepth 100000 in
theorem bad_cells (w : World) (j : Nat) (hj : j < 12) : (w.alloc (.cells #[.string ⟨#[115, 101, 116, 32, 114, 48, 10]⟩, .string ⟨#[115, 101, 116, 32, 48, 32, 49, 10]⟩, .string ⟨#[97, 100, 100, 32, 114, 48, 32, 114, 48, 10]⟩, .string ⟨#[10]⟩, .string ⟨#[106, 117, 109, 112, 32, 114, 48, 10]⟩, .string ⟨#[114, 101, 116, 32, 114, 48, 32, 10]⟩, .string ⟨#[82, 101, 116, 32, 114, 48, 10]⟩, .string ⟨#[115, 101, 116, 32, 114, 48, 32, 48, 49, 10]⟩, .string ⟨#[115, 101, 116, 32, 114, 48, 32, 43, 49, 10]⟩, .string ⟨#[102, 117, 110, 99, 32, 49, 10]⟩, .string ⟨#[99, 97, 108, 108, 32, 114, 48, 32, 48, 32, 114, 48, 10]⟩, .string ⟨#[108, 111, 97, 100, 32, 114, 45, 48, 32, 114, 48, 10]⟩] 9)).cell? ⟨w.heap.size, j, none⟩ = some (.string ⟨(badLines.getD j []).toArray⟩) := by
 rcases (show j = 0 ∨ j = 1 ∨ j = 2 ∨ j = 3 ∨ j = 4 ∨ j = 5 ∨ j = 6 ∨ j = 7 ∨ j = 8 ∨ j = 9 ∨ j = 10 ∨ j = 11 by omega) with rfl | rfl | rfl | rfl | rfl | rfl | rfl | rfl | rfl | rfl | rfl | rfl <;> (simp only [World.cell?, heap_alloc_new]; rfl)
theorem putIn_len (R : List Pc) (k j : Nat) (b : Pc) : (putIn R k j b).length ≤ R.flatten.length + b.length := by
 have h1 : (R.take j).flatten.length ≤ R.flatten.length := by
  conv => rhs; rw [← List.take_append_drop j R, List.flatten_append, List.length_append]
  omega
 unfold putIn
 split
 ·rename_i h
  have h2 : ((R.take k).flatten ++ ((R.take j).drop k).flatten).length = (R.take j).flatten.length := by
   have : (R.take k) = (R.take j).take k := by rw [List.take_take, Nat.min_eq_left (by omega)]
   rw [this, ← List.flatten_append, List.take_append_drop]
  simp only [List.length_append] at h2 ⊢
  omega
 ·omega
set_option maxRecDepth 100000 in
set_option maxHeartbeats 4000000 in
theorem sheetBad_walk (l : List Fn) (v : Value) (at_ bad : Int) (w : World) (hS : StdR w.heap.size w) (hv : ProgVal w v l) (hwf : ∀ f ∈ l, f.wf) (ha : I64 at_) (hb : I64 bad) :
  Calls Tryd.prog 7 #[v, .int .i64 at_, .int .i64 bad] w fun e w' => e = .returned (.bool true) ∧ Below w.heap.size w w' := by
 obtain ⟨iS, hiS, hzS0, hzS1, hzS2⟩ := info_parts infoS
 have hok := shaped_ok l
 have himm := shaped_imm l hwf
 have HSH : Hid (Calls Tryd.prog 11 #[v] w fun e w' => ∃ v' us, e = .returned (.agg #[v']) ∧ Built w' w.heap.size 37 51 v' (shapedP l) us ∧ Below w.heap.size w w') := shaped_mk l v w hv hwf
 obtain ⟨_, hPwf⟩ := told_all hok himm
 obtain ⟨ao, n, cap, rfl⟩ := hv.shape
 have HS : Hid (StdR w.heap.size w) := hS
 have hpos : 0 < (showOf (shapedP l)).length := showOf_pos _ (codeProg_zero hok).1
 have hlen := show_len' hok himm
 have HSW : Hid (∀ v W, Std W.heap.size W → ProgVal W v (shapedP l) → Calls Tryd.prog 12 #[.agg #[v]] W fun e w' => e = .returned (.tuple #[.string ⟨(showOf (shapedP l)).toArray⟩, .int .i64 0]) ∧ Below W.heap.size W w') := fun v W h1 h2 => show_ok _ v W h1 h2 hPwf hok
 have hR := linesB_show (shapedP l)
 have hRl : ∀ x ∈ linesB (showOf (shapedP l)), IsLine x := by rw [hR]; exact rows_lines _
 have HRB : Hid (∀ k : Nat, k ≤ (linesB (showOf (shapedP l))).length → ∀ b ∈ badLines, ∀ W, StdR W.heap.size W → Calls Tryd.prog 8 #[.string ⟨(((linesB (showOf (shapedP l))).take k).flatten ++ b ++ ((linesB (showOf (shapedP l))).drop k).flatten).toArray⟩] W fun e w' => ∃ ao cap, e = .returned (.tuple #[.agg #[.slice ao 0 cap], .int .i64 k, .int .i64 5]) ∧ Below W.heap.size W w') := fun k hk b hb W hW => by
  have h := read_all (((linesB (showOf (shapedP l))).take k).flatten ++ b ++ ((linesB (showOf (shapedP l))).drop k).flatten) W hW
  refine h.mono fun e w' ⟨u, us, h1, h2, h3⟩ => ?_
  rw [hR] at h1 h2 hk
  obtain ⟨r1, r2, r3⟩ := read_bad hok himm k hk b hb
  rw [r1, r2] at h1
  rw [r3] at h2
  obtain ⟨a, c, rfl⟩ := own_shape h2.row
  exact ⟨a, c, h1, h3⟩
 generalize showOf (shapedP l) = t at HSW HRB hpos hlen hR hRl
 generalize shapedP l = P at hok himm HSH HSW hPwf hR
 have HRL : Hid (∀ x ∈ linesB t, IsLine x) := hRl
 have ht0 : ((t.length : Int) == 0) = false := by rw [beq_eq_false_iff_ne]; omega
 clear hS hv hwf hok himm hPwf hR hRl
 go_enter Tryd.func7, Tryd.ntmps7
 go_upto_region 4 with (first
  | (go_at_call 11; refine HSH.out.mono ?_; rintro e w1 ⟨v1, us1, rfl, hbt1, hb1⟩; obtain ⟨ao1, cap1, rfl⟩ := own_shape hbt1.row; have B1 : Hid (Below w.heap.size w w1) := hb1; have HT : Hid (StdR w1.heap.size w1) := HS.out.later B1.out; have HP : Hid (ProgVal w1 (.slice ao1 P.length cap1) P) := hbt1.prog; clear hbt1 hb1)
  | (go_at_call 12; refine (HSW.out _ _ HT.out.std HP.out).mono ?_; rintro e w2 ⟨rfl, hb2⟩; have B2 : Hid (Below w.heap.size w w2) := B1.out.trans (hb2.mono B1.out.size); have HT2 : Hid (StdR w2.heap.size w2) := HT.out.later hb2; clear hb2))
 clear HP HT B1 HSH HSW
 go_wp2
 go_loopw [9, 10, 11] (fun ls fr i wr => ∃ (Ls : List Pc) (F k : Nat), Cut t Ls F k ∧ i = .int .i64 k ∧ fr = .int .i64 F ∧ wr.ownsRow w2.heap.size 9 1 ls Ls.length (strs Ls) ∧ Below w2.heap.size w2 wr) (fun _ _ i _ => t.length - (intOf i).toNat)
 case atStart => exact ⟨[], 0, 0, Cut.zero t, rfl, rfl, World.ownsRow_nil _ _ _ _, Below.refl _ _⟩
 case round =>
  obtain ⟨Ls, F, k, hc, rfl, rfl, hown, hbw⟩ := hrel
  obtain ⟨aol, capl, rfl⟩ := own_shape hown
  have hFk := hc.le
  have hkt := hc.kle
  have HC : Hid (Cut t Ls F k) := hc
  have HO : Hid (wr.ownsRow w2.heap.size 9 1 (.slice aol Ls.length capl) Ls.length (strs Ls)) := hown
  have HB : Hid (Below w2.heap.size w2 wr) := hbw
  clear hc hown hbw
  by_cases hlt : k < t.length
  ·have hk2 : k < (⟨t.toArray⟩ : ByteArray).size := hlt
   have hgk : ((⟨t.toArray⟩ : ByteArray)[k]'hk2) = t.getD k 0 := by
    show t.toArray[k] = _
    simp [List.getD, hlt]
   have hcnt := HC.out.count
   by_cases h10 : t.getD k 0 = 10
   ·have hq : ((((⟨t.toArray⟩ : ByteArray)[k]'hk2).toNat : Int) == 10) = true := by rw [hgk, h10]; rfl
    have hE : Hid ((⟨t.toArray⟩ : ByteArray).extract F (k + 1) = ⟨((t.drop F).take (k + 1 - F)).toArray⟩) := ext_mid t F (k + 1)
    have HL : Hid (Cut t (Ls ++ [(t.drop F).take (k + 1 - F)]) (k + 1) (k + 1)) := HC.out.line hlt h10
    clear h10 hgk
    go_wp2_with (at_builtin; refine wpList_append_own _ rfl (.tmp 42) (.tmp 48) 38 rfl w2.heap.size 9 iS _ 1 16 Tryd.underlying38 hiS hzS0 hzS1 hzS2 rfl (by decide) (.slice aol Ls.length capl) Ls.length (strs Ls) rfl (HO.out.alloc _) ⟨wr.heap.size, 0, none⟩ 1 1 [.string ((⟨t.toArray⟩ : ByteArray).extract F (k + 1))] rfl rfl (news_list _ _ _ _ rfl) (by intro u hu; simp at hu; subst hu; rfl) (by unfold maxLen; omega) (by omega) (by have := HB.out.size; simp; omega) ?_; intro v1 w3 hown1 hg1 _; obtain ⟨ao3, cap3, rfl⟩ := own_shape hown1; have HB3 : Hid (Below w2.heap.size w2 w3) := (HB.out.alloc (by have := HB.out.size; omega) _).grown hg1 (by have := HB.out.size; simp; omega) (fun j hj => (HO.out.lt j hj).1); have HO3 : Hid (w3.ownsRow w2.heap.size 9 1 (.slice ao3 (Ls.length + 1) cap3) (Ls.length + 1) (strs (Ls ++ [(t.drop F).take (k + 1 - F)]))) := (by rw [strs_snoc, ← hE.out]; exact hown1); clear hown1 hg1)
    go_roundw
    case rel => exact ⟨Ls ++ [(t.drop F).take (k + 1 - F)], k + 1, k + 1, HL.out, by go_num, by go_num, by simpa using HO3.out, HB3.out⟩
    case measure => simp [intOf]; omega
   ·have hq : ((((⟨t.toArray⟩ : ByteArray)[k]'hk2).toNat : Int) == 10) = false := by
     rw [hgk]
     have : (t.getD k 0).toNat ≠ 10 := fun e => h10 (UInt8.toNat_inj.1 e)
     simp only [beq_eq_false_iff_ne]
     omega
    have HL : Hid (Cut t Ls F (k + 1)) := HC.out.on hlt h10
    clear h10 hgk
    go_wp2
    go_roundw
    case rel => exact ⟨Ls, F, k + 1, HL.out, by go_num, rfl, HO.out, HB.out⟩
    case measure => simp [intOf]; omega
  ·have hdn : Ls = linesB t := HC.out.done (by omega) HRL.out
   subst hdn
   have hRn : 0 < (linesB t).length := by
    cases ht : t with
    | nil => rw [ht] at hpos; simp at hpos
    | cons c r => rw [linesB]; split <;> simp
   have hRm := HC.out.count
   have hfl : (linesB t).flatten.length = t.length := by rw [linesB_flat]
   generalize linesB t = R at HRB HRL HC HO hRn hRm hfl ⊢
   obtain ⟨g, rfl⟩ : ∃ g, aol = some ⟨g, 0, none⟩ := by
    rcases HO.out.2 with ⟨e, h0⟩ | ⟨g, cap', cur, e, _⟩
    ·omega
    ·exact ⟨g, (Value.slice.inj e).1⟩
   obtain ⟨K, hK⟩ : ∃ K : Nat, pickI at_ ((R.length : Int) + 1) = K := ⟨(pickI at_ ((R.length : Int) + 1)).toNat, by have := pickI_bounds at_ ((R.length : Int) + 1) (by omega); omega⟩
   have hKl : K ≤ R.length := by have := pickI_bounds at_ ((R.length : Int) + 1) (by omega); omega
   obtain ⟨K2, hK2⟩ : ∃ K2 : Nat, pickI bad 12 = K2 := ⟨(pickI bad 12).toNat, by have := pickI_bounds bad 12 (by decide); omega⟩
   have hK2l : K2 < 12 := by have := pickI_bounds bad 12 (by decide); omega
   have CP1 : Hid (∀ w, Calls Tryd.prog 14 #[.int .i64 at_, .int .i64 ((R.length : Int) + 1)] w fun e w' => e = .returned (.int .i64 K) ∧ w' = w) := fun w => by rw [← hK]; exact picked_any at_ _ w ha (by omega) (by omega)
   have CP2 : Hid (∀ w, Calls Tryd.prog 14 #[.int .i64 bad, .int .i64 12] w fun e w' => e = .returned (.int .i64 K2) ∧ w' = w) := fun w => by rw [← hK2]; exact picked_any bad _ w hb (by omega) (by omega)
   have hcells := bad_cells wr K2 hK2l
   have HBB : Hid (badLines.getD K2 [] ∈ badLines) := by
    show _ ∈ _
    have : K2 < badLines.length := hK2l
    simp [List.getD, this]
   have hbl := badLines_len _ HBB.out
   generalize badLines.getD K2 [] = b at hcells HBB hbl
   clear hK hK2
   go_upto_region 14 with (go_at_call 14; refine (CP1.out _).mono ?_; rintro e w3 ⟨rfl, hw3⟩; replace hw3 := hw3.symm; subst hw3)
   have hzW : w2.heap.size ≤ wr.heap.size := HB.out.size
   have HBW : Hid (Below w2.heap.size w2 (wr.alloc (.cells #[.string ⟨#[115, 101, 116, 32, 114, 48, 10]⟩, .string ⟨#[115, 101, 116, 32, 48, 32, 49, 10]⟩, .string ⟨#[97, 100, 100, 32, 114, 48, 32, 114, 48, 10]⟩, .string ⟨#[10]⟩, .string ⟨#[106, 117, 109, 112, 32, 114, 48, 10]⟩, .string ⟨#[114, 101, 116, 32, 114, 48, 32, 10]⟩, .string ⟨#[82, 101, 116, 32, 114, 48, 10]⟩, .string ⟨#[115, 101, 116, 32, 114, 48, 32, 48, 49, 10]⟩, .string ⟨#[115, 101, 116, 32, 114, 48, 32, 43, 49, 10]⟩, .string ⟨#[102, 117, 110, 99, 32, 49, 10]⟩, .string ⟨#[99, 97, 108, 108, 32, 114, 48, 32, 48, 32, 114, 48, 10]⟩, .string ⟨#[108, 111, 97, 100, 32, 114, 45, 48, 32, 114, 48, 10]⟩] 9))) := HB.out.alloc hzW _
   have HOW : Hid (World.ownsRow (wr.alloc (.cells #[.string ⟨#[115, 101, 116, 32, 114, 48, 10]⟩, .string ⟨#[115, 101, 116, 32, 48, 32, 49, 10]⟩, .string ⟨#[97, 100, 100, 32, 114, 48, 32, 114, 48, 10]⟩, .string ⟨#[10]⟩, .string ⟨#[106, 117, 109, 112, 32, 114, 48, 10]⟩, .string ⟨#[114, 101, 116, 32, 114, 48, 32, 10]⟩, .string ⟨#[82, 101, 116, 32, 114, 48, 10]⟩, .string ⟨#[115, 101, 116, 32, 114, 48, 32, 48, 49, 10]⟩, .string ⟨#[115, 101, 116, 32, 114, 48, 32, 43, 49, 10]⟩, .string ⟨#[102, 117, 110, 99, 32, 49, 10]⟩, .string ⟨#[99, 97, 108, 108, 32, 114, 48, 32, 48, 32, 114, 48, 10]⟩, .string ⟨#[108, 111, 97, 100, 32, 114, 45, 48, 32, 114, 48, 10]⟩] 9)) w2.heap.size 9 1 (.slice (some ⟨g, 0, none⟩) R.length capl) R.length (strs R)) := HO.out.alloc _
   obtain ⟨WB, hWB⟩ : ∃ WB, WB = wr.heap.size := ⟨_, rfl⟩
   rw [← hWB] at hcells ⊢
   generalize wr.alloc (.cells #[.string ⟨#[115, 101, 116, 32, 114, 48, 10]⟩, .string ⟨#[115, 101, 116, 32, 48, 32, 49, 10]⟩, .string ⟨#[97, 100, 100, 32, 114, 48, 32, 114, 48, 10]⟩, .string ⟨#[10]⟩, .string ⟨#[106, 117, 109, 112, 32, 114, 48, 10]⟩, .string ⟨#[114, 101, 116, 32, 114, 48, 32, 10]⟩, .string ⟨#[82, 101, 116, 32, 114, 48, 10]⟩, .string ⟨#[115, 101, 116, 32, 114, 48, 32, 48, 49, 10]⟩, .string ⟨#[115, 101, 116, 32, 114, 48, 32, 43, 49, 10]⟩, .string ⟨#[102, 117, 110, 99, 32, 49, 10]⟩, .string ⟨#[99, 97, 108, 108, 32, 114, 48, 32, 48, 32, 114, 48, 10]⟩, .string ⟨#[108, 111, 97, 100, 32, 114, 45, 48, 32, 114, 48, 10]⟩] 9) = W4 at hcells HBW HOW ⊢
   have HT4 : Hid (StdR W4.heap.size W4) := HT2.out.later HBW.out
   have HP0 : Hid (⟨#[]⟩ = (⟨(putIn R K 0 b).toArray⟩ : ByteArray)) := by show _ = _; rw [putIn_zero]
   have HPL : Hid (∀ j, (putIn R K j b).length ≤ 7000) := fun j => by have := putIn_len R K j b; omega
   have HPE : Hid (K = R.length → putIn R K R.length b ++ b = (R.take K).flatten ++ b ++ (R.drop K).flatten) := fun e => by subst e; exact putIn_last R b
   have HPF : Hid (K < R.length → putIn R K R.length b = (R.take K).flatten ++ b ++ (R.drop K).flatten) := fun h => putIn_end R K b h
   clear hWB hzW HB HO HC HT2
   go_wp2
   go_loopw [14, 15] (fun s i wx => ∃ j : Nat, j ≤ R.length ∧ i = .int .i64 j ∧ s = .string ⟨(putIn R K j b).toArray⟩ ∧ wx = W4) (fun _ i _ => R.length - (intOf i).toNat)
   case atStart => exact ⟨0, Nat.zero_le _, rfl, by rw [HP0.out], rfl⟩
   case round =>
    obtain ⟨j, hj, rfl, rfl, hwx⟩ := hrel
    rename World => wx
    subst hwx
    have hpj := HPL.out j
    by_cases hjl : j < R.length
    ·have cR := strs_cell HOW.out j hjl
     have hpj1 := HPL.out (j + 1)
     by_cases hjk : j = K
     ·subst hjk
      have hq : ((j : Int) == (j : Int)) = true := by simp
      have HPS : Hid (putIn R j (j + 1) b = putIn R j j b ++ b ++ R[j]) := putIn_here R j b hjl
      have hrl : R[j].length ≤ 7000 := by have := congrArg List.length HPS.out; simp only [List.length_append] at this; omega
      generalize R[j] = r at cR HPS hrl
      generalize hpn : putIn R j (j + 1) b = pn at HPS
      have HPN : Hid (putIn R j (j + 1) b = pn) := hpn
      clear hpn
      generalize putIn R j j b = pj at hpj HPS
      have HT : Hid ((((⟨pj.toArray⟩ : ByteArray) ++ (⟨b.toArray⟩ : ByteArray)) ++ (⟨r.toArray⟩ : ByteArray)) = ⟨pn.toArray⟩) := by show _ = _; rw [HPS.out, str_add, str_add]
      have l1 : ¬ 9223372036854775807 < pj.length + b.length := by omega
      have l2 : ¬ 9223372036854775807 < pj.length + b.length + r.length := by omega
      clear hpj1
      go_wp2_with (go_at_call 14; refine (CP2.out _).mono ?_; rintro e w3 ⟨rfl, hw3⟩; replace hw3 := hw3.symm; subst hw3)
      exact ⟨⟨j + 1, by omega, by go_num, by rw [HT.out, HPN.out], trivial⟩, by simp [intOf]; omega⟩
     ·have hq : ((j : Int) == (K : Int)) = false := by rw [beq_eq_false_iff_ne]; omega
      have HPS : Hid (putIn R K (j + 1) b = putIn R K j b ++ R[j]) := putIn_on R K j b hjl hjk
      have hrl : R[j].length ≤ 7000 := by have := congrArg List.length HPS.out; simp only [List.length_append] at this; omega
      generalize R[j] = r at cR HPS hrl
      generalize hpn : putIn R K (j + 1) b = pn at HPS
      have HPN : Hid (putIn R K (j + 1) b = pn) := hpn
      clear hpn
      generalize putIn R K j b = pj at hpj HPS
      have HT : Hid (((⟨pj.toArray⟩ : ByteArray) ++ (⟨r.toArray⟩ : ByteArray)) = ⟨pn.toArray⟩) := by show _ = _; rw [HPS.out, str_add]
      have l1 : ¬ 9223372036854775807 < pj.length + r.length := by omega
      clear hpj1
      go_wp2
      go_roundw
      case rel => exact ⟨j + 1, by omega, by go_num, by rw [HT.out, HPN.out], trivial⟩
      case measure => simp [intOf]; omega
    ·have hjR : j = R.length := by omega
     subst hjR
     by_cases hKR : K = R.length
     ·have hq : ((K : Int) == (R.length : Int)) = true := by rw [hKR]; simp
      have HPX := HPE.out hKR
      have HRD : Hid (∀ W, StdR W.heap.size W → Calls Tryd.prog 8 #[.string ((⟨(putIn R K R.length b).toArray⟩ : ByteArray) ++ (⟨b.toArray⟩ : ByteArray))] W fun e w' => ∃ ao cap, e = .returned (.tuple #[.agg #[.slice ao 0 cap], .int .i64 K, .int .i64 5]) ∧ Below W.heap.size W w') := fun W hW => by
       rw [str_add, HPX]
       exact HRB.out K hKl b HBB.out W hW
      generalize putIn R K R.length b = pj at hpj HRD
      have l1 : ¬ 9223372036854775807 < pj.length + b.length := by omega
      clear HPX hKR
      go_wp2_with (first
       | (go_at_call 14; refine (CP2.out _).mono ?_; rintro e w3 ⟨rfl, hw3⟩; replace hw3 := hw3.symm; subst hw3)
       | (go_at_call 8; refine (HRD.out _ HT4.out).mono ?_; rintro e w5 ⟨a5, c5, rfl, hb5⟩; have B5 : Hid (Below w2.heap.size w2 w5) := HBW.out.trans (hb5.mono HBW.out.size); clear hb5))
      go_ret
      exact ⟨rfl, B2.out.trans ((B5.out.alloc B5.out.size _).mono B2.out.size)⟩
     ·have hq : ((K : Int) == (R.length : Int)) = false := by rw [beq_eq_false_iff_ne]; omega
      have HPX := HPF.out (by omega)
      have HRD : Hid (∀ W, StdR W.heap.size W → Calls Tryd.prog 8 #[.string (⟨(putIn R K R.length b).toArray⟩ : ByteArray)] W fun e w' => ∃ ao cap, e = .returned (.tuple #[.agg #[.slice ao 0 cap], .int .i64 K, .int .i64 5]) ∧ Below W.heap.size W w') := fun W hW => by
       rw [HPX]
       exact HRB.out K hKl b HBB.out W hW
      generalize putIn R K R.length b = pj at hpj HRD
      clear HPX hKR
      go_wp2_with (go_at_call 8; refine (HRD.out _ HT4.out).mono ?_; rintro e w5 ⟨a5, c5, rfl, hb5⟩; have B5 : Hid (Below w2.heap.size w2 w5) := HBW.out.trans (hb5.mono HBW.out.size); clear hb5)
      go_ret
      exact ⟨rfl, B2.out.trans ((B5.out.alloc B5.out.size _).mono B2.out.size)⟩
end Go.Proofs.YtfacdhkadnmnlaaDoor
