import Derived.Laws.IdiomStrings
import Derived.Test.YtfacdhkadnmnlaaDoorPXAppIns
import Derived.Test.YtfacdhkadnmnlaaDoorPGroupA
import Derived.Stop.LaidErr
import Derived.Test.YtfacdhkadnmnlaaDoorPXOpen
import Derived.Lib.ItoaLen
import Derived.Lib.ParseIntBTie
import Derived.Lib.CountLaws
import Derived.Lib.CutLaws
import Derived.Lib.IndexLaws
import Derived.Lib.SplitLaws
import Derived.Lib.Bytealg
import Derived.Lib.Strings
import Derived.Test.YtfacdhkadnmnlaaDoorPXAppLay
namespace Go.Proofs.YtfacdhkadnmnlaaDoor
open Go Go.RowKit

theorem Std.push {w : World} (h : Std w.heap.size w) (o : Obj) : Std (w.heap.size + 1) (w.alloc o) :=
 ⟨fun w' hb => h.pow w' (((Below.refl _ _).alloc (Nat.le_refl _) o).trans (hb.mono (by omega))), fun w' hb => h.tabs w' (((Below.refl _ _).alloc (Nat.le_refl _) o).trans (hb.mono (by omega)))⟩
theorem txt_nil (w : World) (B : Nat) : Txt w B (.slice none 0 0) [] := ⟨rfl, .inl ⟨rfl, rfl⟩⟩
theorem txt_conv {w : World} {B : Nat} {v : Value} {l : List UInt8} (h : Txt w B v l) (hl : 0 < l.length) : ∃ g cap, v = .slice (some ⟨g, 0, none⟩) l.length cap ∧ (convert 58 9 (.slice (some ⟨g, 0, none⟩) l.length cap)).run Tryd.prog w = .ok (.string ⟨l.toArray⟩) w := by
 obtain ⟨g, cap, rfl, hc⟩ := own_some h hl
 refine ⟨g, cap, rfl, run_convert_bytes_back w _ _ _ _ cap l Tryd.underlying58 Tryd.underlying5 Tryd.underlying9 fun j hj => hc j _ ?_⟩
 simp [Lib.byteCells, hj]
theorem showOf_pos (p : List Fn) (h : 1 ≤ p.length) : 0 < (showOf p).length := by
 cases p with
 | nil => simp at h
 | cons f r =>
  rw [showOf, List.flatMap_cons, List.length_append, fnLines, List.length_append, fnLine, List.length_append]
  simp only [List.length_cons]
  omega
set_option maxRecDepth 100000 in
set_option maxHeartbeats 4000000 in
theorem show_ok (p : List Fn) (v : Value) (w : World) (hs : Std w.heap.size w) (hv : ProgVal w v p) (hwf : ∀ f ∈ p, f.wf) (hc : codeProg p = 0) :
  Calls Tryd.prog 12 #[.agg #[v]] w fun e w' => e = .returned (.tuple #[.string ⟨(showOf p).toArray⟩, .int .i64 0]) ∧ Below w.heap.size w w' := by
 obtain ⟨ao, n, cap, rfl⟩ := hv.shape
 have hb0 : Below w.heap.size w (w.alloc (.cells #[.slice ao n cap] 24)) := (Below.refl _ _).alloc (Nat.le_refl _) _
 have hT : TabOk (w.alloc (.cells #[.slice ao n cap] 24)) := (hs.tabs _ hb0).2
 have hP := hv.keeps (keeps_below hb0)
 have HST : Hid (Std (w.heap.size + 1) (w.alloc (.cells #[.slice ao n cap] 24))) := hs.push _
 obtain ⟨hp1, hp4, hpf⟩ := codeProg_zero hc
 have HPOS : Hid (0 < (showOf p).length) := showOf_pos p hp1
 have HSL : Hid (∀ k, (showPart p k).length ≤ 20000) := fun k => by
  have := showPart_len p k hwf fun f hf => (codeFunc_zero (hpf f hf)).2.2.2.2.2.2.1
  omega
 obtain ⟨ao', b, off, n', cap', hve, ⟨hlen, haddr, hat⟩, hcap, hmax⟩ := hv
 simp only [Value.slice.injEq] at hve
 obtain ⟨rfl, rfl, rfl⟩ := hve
 obtain rfl := haddr (by omega)
 have HL : Hid (p.length = n) := hlen
 have hn1 : 1 ≤ n := by omega
 have hn4 : n ≤ 4 := by omega
 have HF : Hid (∀ f ∈ p, codeFunc f p.length = 0) := hpf
 have HW : Hid (∀ f ∈ p, f.wf) := hwf
 have HAT : Hid (∀ (k : Nat) (h : k < p.length), ∃ v, FnAt w b (off + k * 3) p[k] v) := hat
 have HPB : Hid (showOf p = showPart p n) := by show _ = _; rw [showOf, showPart, ← hlen, List.take_length]
 generalize showOf p = R at HPB HPOS
 clear haddr hlen hp1 hp4 hpf hat hcap hwf hs
 go_enter Tryd.func12, Tryd.ntmps12
 go_wp2_with (go_at_call 17; refine (check_any p _ _ hT hP).mono ?_; rintro e w1 ⟨rfl, hb1⟩; rw [hc]; have c1 : w1.cell? ⟨w.heap.size, 0, none⟩ = some (.slice (some ⟨b, off, none⟩) n cap) := keeps_below hb1 _ _ (by simp))
 have HB1 : Hid (Below (w.heap.size + 1) (w.alloc (.cells #[.slice (some ⟨b, off, none⟩) n cap] 24)) w1) := hb1.mono (by simp)
 clear hb1 hc hP hT c1
 go_loopw [5, 18] (fun l i wr => ∃ k : Nat, k ≤ n ∧ i = .int .i64 k ∧ Txt wr (w.heap.size + 1) l (showPart p k) ∧ Below (w.heap.size + 1) (w.alloc (.cells #[.slice (some ⟨b, off, none⟩) n cap] 24)) wr) (fun _ i _ => n - (intOf i).toNat)
 case atStart => exact ⟨0, Nat.zero_le _, rfl, by simpa [showPart] using txt_nil _ _, HB1.out⟩
 case round =>
  obtain ⟨k, hk, rfl, hr, hb⟩ := hrel
  clear HB1
  have hbw : Below w.heap.size w wr := hb0.trans (hb.mono (by omega))
  have hz : w.heap.size + 1 ≤ wr.heap.size := by have := hb.size; simp at this; omega
  have HB : Hid (Below (w.heap.size + 1) (w.alloc (.cells #[.slice (some ⟨b, off, none⟩) n cap] 24)) wr) := hb
  by_cases hlt : k < n
  ·obtain ⟨aor, capr, rfl⟩ := own_shape hr
   have hkx : k < p.length := by rw [HL.out]; exact hlt
   obtain ⟨u, hfn⟩ := HAT.out k hkx
   obtain ⟨d0, d1, d2, hu⟩ := hfn
   replace d0 := keeps_below hbw _ _ d0
   replace d1 := keeps_below hbw _ _ d1
   replace d2 := keeps_below hbw _ _ d2
   obtain ⟨r1, r12, r0, r2, _, r3, r40, rall⟩ := codeFunc_zero (HF.out p[k] (List.getElem_mem hkx))
   have HWX : Hid (p[k].wf) := HW.out p[k] (List.getElem_mem hkx)
   have HS : Hid (showPart p (k + 1) = showPart p k ++ fnLines p[k]) := showPart_succ p k hkx
   generalize hx : p[k] = x at d0 d1 d2 hu r1 r12 r0 r2 r3 r40 rall HS HWX
   obtain ⟨params, regs, xs⟩ := x
   obtain ⟨ao1, b1, off1, n1, cap1, rfl, ⟨hlen1, haddr1, hat1⟩, hcap1, hmax1⟩ := hu
   dsimp only at d0 d1 d2 hlen1 hat1 r1 r12 r0 r2 r3 r40 rall
   have HL1 : Hid (xs.length = n1) := hlen1
   have HOP : Hid (∀ x ∈ xs, 1 ≤ x.op ∧ x.op < 20) := fun x hx => op_of_zero (rall x hx)
   have HWI : Hid (∀ x ∈ xs, x.wf) := HWX.out.2.2
   rw [hlen1] at r3 r40
   obtain rfl := haddr1 (by omega)
   have HC1 : Hid (∀ (k : Nat) (h : k < xs.length), insAt w b1 (off1 + k * 5) xs[k]) := hat1
   have hS := HSL.out k
   generalize showPart p k = S at hS HS hr
   have HR : Hid (Txt wr (w.heap.size + 1) (.slice aor S.length capr) S) := hr
   have HU : Hid (showPart p (k + 1) = S ++ fnLine ⟨params, regs, xs⟩ ++ xs.flatMap insLine) := by
    have h := HS.out
    show _ = _
    rw [h, fnLines, ← List.append_assoc]
   have hfl : (fnLine ⟨params, regs, xs⟩).length ≤ 49 := fnLine_len _ HWX.out
   have HFA : Hid (∀ v w', Txt w' (w.heap.size + 1) v S → w.heap.size + 1 ≤ w'.heap.size → PowB (w.heap.size + 1) w' → Calls Tryd.prog 23 #[v, .agg #[.int .i64 params, .int .i64 regs, .slice (some ⟨b1, off1, none⟩) n1 cap1]] w' fun e w2 => ∃ v', e = .returned v' ∧ Txt w2 (w.heap.size + 1) v' (S ++ fnLine ⟨params, regs, xs⟩) ∧ Grew (w.heap.size + 1) w' w2) := fun v w' h1 h2 h3 => func_any _ params regs _ xs v S w' HWX.out.1 HWX.out.2.1 h1 h2 (by omega) h3
   generalize fnLine ⟨params, regs, xs⟩ = FL at HU hfl HFA
   clear hx hat1 haddr1 hlen1 hb HS hcap1 rall hr
   rename World => wo
   go_wp2_with (go_at_call 23; refine (HFA.out _ _ (HR.out.alloc _) (by simp; omega) (HST.out.pow.on (HB.out.alloc hz _))).mono ?_; rintro e w2 ⟨v2, rfl, hown2, hg2⟩; have X2 : w2.heap[wo.heap.size]? = some (.cells #[.int .i64 params, .int .i64 regs, .slice (some ⟨b1, off1, none⟩) n1 cap1] 37) := hg2.box (heap_alloc_new wo _) (by decide); have c2 : w2.cell? ⟨wo.heap.size, 2, none⟩ = some (.slice (some ⟨b1, off1, none⟩) n1 cap1) := (by simp [World.cell?, X2]); have HB2 : Hid (Below (w.heap.size + 1) (w.alloc (.cells #[.slice (some ⟨b, off, none⟩) n cap] 24)) w2) := (show Below _ _ _ from (HB.out.alloc hz _).trans hg2.below); have T2 : Hid (Txt w2 (w.heap.size + 1) v2 (S ++ FL)) := hown2; clear hown2 hg2 X2)
   clear d0 d1 d2 c2 hbw
   go_loopw [5, 28] (fun l i wi => ∃ j : Nat, j ≤ n1 ∧ i = .int .i64 j ∧ Txt wi (w.heap.size + 1) l (S ++ FL ++ (xs.take j).flatMap insLine) ∧ Below (w.heap.size + 1) (w.alloc (.cells #[.slice (some ⟨b, off, none⟩) n cap] 24)) wi) (fun _ i _ => n1 - (intOf i).toNat)
   case atStart => exact ⟨0, Nat.zero_le _, rfl, by simpa using T2.out, HB2.out⟩
   case round =>
    obtain ⟨j, hj, rfl, hri, hbi⟩ := hrel
    clear T2 HB2
    have hbwi : Below w.heap.size w wr := hb0.trans (hbi.mono (by omega))
    have hzi : w.heap.size + 1 ≤ wr.heap.size := by have := hbi.size; simp at this; omega
    have HBI : Hid (Below (w.heap.size + 1) (w.alloc (.cells #[.slice (some ⟨b, off, none⟩) n cap] 24)) wr) := hbi
    by_cases hlj : j < n1
    ·have hjx : j < xs.length := by rw [HL1.out]; exact hlj
     obtain ⟨g0, g1, g2, g3, g4⟩ := (HC1.out j hjx).keeps (keeps_below hbwi)
     have HTI : Hid ((xs.take (j + 1)).flatMap insLine = (xs.take j).flatMap insLine ++ insLine xs[j]) := linePart_succ xs j hjx
     obtain ⟨o0, o1⟩ := HOP.out xs[j] (List.getElem_mem hjx)
     obtain ⟨_, w1', w2', w3', w4'⟩ := HWI.out xs[j] (List.getElem_mem hjx)
     have hll : (S ++ FL ++ (xs.take j).flatMap insLine).length ≤ 30000 := by
      have h1 := insLines_len (xs.take j) fun x hx => HWI.out x (List.mem_of_mem_take hx)
      have h2 : (xs.take j).length ≤ 40 := by rw [List.length_take]; omega
      rw [List.length_append, List.length_append]
      omega
     generalize hxx : xs[j] = x at g0 g1 g2 g3 g4 HTI o0 o1 w1' w2' w3' w4'
     obtain ⟨op, dst, a, b9, imm⟩ := x
     dsimp only at g0 g1 g2 g3 g4 o0 o1 w1' w2' w3' w4'
     have HE : Hid (S ++ FL ++ (xs.take (j + 1)).flatMap insLine = (S ++ FL ++ (xs.take j).flatMap insLine) ++ insLine ⟨op, dst, a, b9, imm⟩) := by
      show _ = _
      rw [HTI.out]
      simp only [List.append_assoc]
     obtain ⟨aoi, capi, rfl⟩ := own_shape hri
     generalize S ++ FL ++ (xs.take j).flatMap insLine = T at hll HE hri
     have HRI : Hid (Txt wr (w.heap.size + 1) (.slice aoi T.length capi) T) := hri
     have HIA : Hid (∀ v w', Txt w' (w.heap.size + 1) v T → w.heap.size + 1 ≤ w'.heap.size → Std (w.heap.size + 1) w' → Calls Tryd.prog 24 #[v, .agg #[.int .i64 op, .int .i64 dst, .int .i64 a, .int .i64 b9, .int .i64 imm]] w' fun e w2 => ∃ v', e = .returned v' ∧ Txt w2 (w.heap.size + 1) v' (T ++ insLine ⟨op, dst, a, b9, imm⟩) ∧ Grew (w.heap.size + 1) w' w2) := fun v w' h1 h2 h3 => appInstr_any _ op dst a b9 imm v T w' o0 o1 w1' w2' w3' w4' h1 h2 (by omega) h3
     generalize insLine ⟨op, dst, a, b9, imm⟩ = LN at HIA HE
     clear hbi hbwi hxx hri o0 o1 w1' w2' w3' w4'
     go_wp2_with (go_at_call 24; refine (HIA.out _ _ (HRI.out.alloc _) (by simp; omega) (HST.out.on (HBI.out.alloc hzi _))).mono ?_; rintro e w3 ⟨v3, rfl, hown3, hg3⟩; have HB3 : Hid (Below (w.heap.size + 1) (w.alloc (.cells #[.slice (some ⟨b, off, none⟩) n cap] 24)) w3) := (show Below _ _ _ from (HBI.out.alloc hzi _).trans hg3.below); have T3 : Hid (Txt w3 (w.heap.size + 1) v3 (T ++ LN)) := hown3; clear hown3 hg3)
     go_roundw
     case rel => exact ⟨j + 1, by omega, by go_num, txt_eq HE.out T3.out, HB3.out⟩
     case measure => simp [intOf]; omega
    ·have hxj : xs.take j = xs := List.take_of_length_le (by rw [HL1.out]; omega)
     rw [hxj, ← HU.out] at hri
     have HRI : Hid (Txt wr (w.heap.size + 1) _ (showPart p (k + 1))) := hri
     clear hbi hbwi hxj hri
     go_wp2
     go_roundw
     case rel => exact ⟨k + 1, by omega, by go_num, HRI.out, HBI.out⟩
     case measure => simp [intOf]; omega
  ·have hkn : k = n := by omega
   subst hkn
   rw [← HPB.out] at hr
   obtain ⟨g, cg, rfl, hcv⟩ := txt_conv hr HPOS.out
   clear hb hr
   go_wp2
   go_ret2
   exact ⟨rfl, hbw⟩
end Go.Proofs.YtfacdhkadnmnlaaDoor
namespace Go.Proofs.YtfacdhkadnmnlaaDoor
open Go Go.ChangeShapes Go.WideShapes Go.ChangeAt Go.RowKit

def strData {H : Type} (ls : List (List UInt8)) : DataW H := .agg (ls.map fun l => .lit (.string l))
theorem cells_of_strs {H : Type} {enc : TypeId × Value → H} {P : Program} {w : World} {base : Nat} {sp : Nat → Bool} {held : Bool} {fuel : Nat} {t e : TypeId} {n : Nat} {cs : List Value} {ls : List (List UInt8)} {p : List MemPlace}
  (ht : P.underlying t = some (.array n e)) (he : P.underlying e = some .string) (hce : P.cellsOf e = 1) (hct : P.cellsOf t = n)
  (h : DataW.trod enc P w base sp held fuel t cs = some (strData ls, p)) : cs = ls.map fun l => Value.string ⟨l.toArray⟩ := by
 cases fuel with
 | zero => simp [DataW.trod] at h
 | succ fuel =>
  simp only [DataW.trod, ht, hce, hct, Nat.mul_one] at h
  split at h
  ·rename_i hl
   obtain ⟨xs, hm, hx⟩ := Option.map_eq_some_iff.1 h
   have hxs : xs.map (·.1) = ls.map fun l => (DataW.lit (.string l) : DataW H) := by
    have := congrArg Prod.fst hx
    simpa [strData] using this
   have hxl : xs.length = n := by simpa using Lib.mapM_length hm
   have hzl : ls.length = n := by
    have := congrArg List.length hxs
    simp at this
    omega
   apply List.ext_getElem?
   intro i
   by_cases hi : i < n
   ·obtain ⟨b, hb, hf⟩ := Lib.mapM_at hm i i (by simp [hi])
    obtain ⟨s, hc, rfl, _⟩ := DataW.trod_string he hf
    have h1 : cs[i]? = some (.string s) := by
     have := congrArg (·[0]?) hc
     simpa [List.getElem?_take, List.getElem?_drop] using this
    have h2 : (xs.map (·.1))[i]? = some (DataW.lit (.string s.data.toList) : DataW H) := by simp [hb]
    rw [hxs] at h2
    simp only [List.getElem?_map, Option.map_eq_some_iff, DataW.lit.injEq, Lit.string.injEq] at h2
    obtain ⟨l, hl', rfl⟩ := h2
    simp [h1, hl']
   ·rw [List.getElem?_eq_none (by omega), List.getElem?_eq_none (by simp; omega)]
  ·cases h
theorem strs_of_head {P : Program} {W : World} {name : String} {ls : List (List UInt8)} {rest : List (String × DataW Unit)} {g : Nat} {t e : TypeId} {n : Nat}
  (hg : P.globalNamed name = some g) (hty : (P.globals[g]?).map (·.type) = some t) (ht : P.underlying t = some (.array n e)) (he : P.underlying e = some .string) (hce : P.cellsOf e = 1) (hct : P.cellsOf t = n)
  (h : laidMet P ((name, strData ls) :: rest) W) (i : Nat) (hi : i < ls.length) : W.cell? ⟨g, i, none⟩ = some (.string ⟨(ls.getD i []).toArray⟩) := by
 obtain ⟨ps, ⟨g', t', cs, fuel, p, q, hg', ht', hvar, hd, _, _⟩, _⟩ := h
 obtain rfl := Option.some.inj (hg.symm.trans hg')
 obtain rfl := Option.some.inj (hty.symm.trans ht')
 have e := cells_of_strs ht he hce hct hd
 have := World.var?_cell hg hvar i
 rw [this]
 have hc : cs = (ls.map fun l => Value.string ⟨l.toArray⟩).toArray := by first | exact e | (rw [← e]) | (apply Array.ext'; simpa using e)
 rw [hc]
 simp [List.getD, hi]
theorem gPow : Tryd.prog.globalNamed "internal/strconv.uint64pow10" = some 5 := by kernel_rfl
theorem tPow : (Tryd.prog.globals[5]?).map (·.type) = some 129 := by kernel_rfl
theorem cellsPow : Tryd.prog.cellsOf 129 = 20 := by kernel_rfl
theorem cells64 : Tryd.prog.cellsOf 106 = 1 := by kernel_rfl
theorem gWords : Tryd.prog.globalNamed "tierline/sheet.words" = some 0 := by kernel_rfl
theorem tWords : (Tryd.prog.globals[0]?).map (·.type) = some 83 := by kernel_rfl
theorem cellsWords : Tryd.prog.cellsOf 83 = 20 := by kernel_rfl
theorem cellsStr : Tryd.prog.cellsOf 9 = 1 := by kernel_rfl
end Go.Proofs.YtfacdhkadnmnlaaDoor
namespace Go.Proofs.YtfacdhkadnmnlaaDoor
open Go

theorem uint_append (M acc : Nat) (a b : List UInt8) : Lib.parseUintM M acc (a ++ b) = match Lib.parseUintM M acc a with | .ok x => Lib.parseUintM M x b | .range => .range | .syntax => .syntax := by
 induction a generalizing acc with
 | nil => rfl
 | cons c r ih =>
  rw [List.cons_append, Lib.parseUintM, Lib.parseUintM]
  split
  ·split
   ·rfl
   ·split
    ·rfl
    ·exact ih _
  ·rfl
theorem uint_digits (M : Nat) (hM : M ≤ 18446744073709551615) (u : Nat) (h : u ≤ M) : Lib.parseUintM M 0 (Lib.decDigits u) = .ok u := by
 induction u using Nat.strongRecOn with
 | _ u ih =>
  have hd : (UInt8.ofNat (48 + u % 10)).toNat = 48 + u % 10 := UInt8.toNat_ofNat_of_lt' (by show _ < 256; omega)
  have step : ∀ acc, acc * 10 + u % 10 = u → Lib.parseUintM M acc [UInt8.ofNat (48 + u % 10)] = .ok u := by
   intro acc ha
   rw [Lib.parseUintM, hd, if_pos (by omega), if_neg (by omega), if_neg (by omega), Lib.parseUintM]
   exact congrArg _ (by omega)
  by_cases h10 : u < 10
  ·rw [Lib.decDigits, dif_pos h10]
   have := step 0 (by omega)
   rwa [Nat.mod_eq_of_lt h10] at this
  ·rw [Lib.decDigits, dif_neg h10, uint_append, ih (u / 10) (by omega) (by omega)]
   exact step (u / 10) (by omega)
theorem digits_head (u : Nat) : ∃ c r, Lib.decDigits u = c :: r ∧ 48 ≤ c.toNat ∧ c.toNat ≤ 57 := by
 induction u using Nat.strongRecOn with
 | _ u ih =>
  by_cases h10 : u < 10
  ·refine ⟨_, [], by rw [Lib.decDigits, dif_pos h10], ?_⟩
   rw [UInt8.toNat_ofNat_of_lt' (by show _ < 256; omega)]
   omega
  ·obtain ⟨c, r, e, h⟩ := ih (u / 10) (by omega)
   exact ⟨c, _, by rw [Lib.decDigits, dif_neg h10, e]; rfl, h⟩
theorem uintB_digits (u : Nat) (h : u ≤ 18446744073709551615) : Lib.parseUintB 64 (Lib.decDigits u) = .ok u := by
 obtain ⟨c, r, e, _⟩ := digits_head u
 rw [Lib.parseUintB, if_neg (by rw [e]; simp)]
 exact uint_digits _ (by decide) u (by simpa using h)
theorem two63 : (2 : Nat) ^ (64 - 1) = 9223372036854775808 := by decide
theorem parse_itoa (n : Int) (h0 : -9223372036854775808 ≤ n) (h1 : n ≤ 9223372036854775807) : Lib.parseIntB 64 (Lib.itoa n) = .ok n := by
 by_cases hn : n < 0
 ·rw [Lib.itoa, if_pos hn, Lib.parseIntB_minus, uintB_digits _ (by omega), Lib.signedC, if_neg (by rw [two63]; omega)]
  exact congrArg _ (by omega)
 ·obtain ⟨c, r, e, h2, h3⟩ := digits_head n.toNat
  rw [Lib.itoa, if_neg hn, e, Lib.parseIntB_plain _ _ _ (by omega) (by omega), ← e, uintB_digits _ (by omega), Lib.signlessC, if_neg (by rw [two63]; omega)]
  exact congrArg _ (by omega)
end Go.Proofs.YtfacdhkadnmnlaaDoor
namespace Go.Proofs.YtfacdhkadnmnlaaDoor
open Go

def wordsB : List UInt8 → List (List UInt8)
 | [] => [[]]
 | c :: r => if c = 32 then [] :: wordsB r else ((c :: (wordsB r).headD []) :: (wordsB r).tail)
theorem wordsB_ne (l : List UInt8) : wordsB l ≠ [] := by
 cases l with
 | nil => simp [wordsB]
 | cons c r => rw [wordsB]; split <;> simp
theorem wordsB_none (l : List UInt8) (h : ∀ c ∈ l, c ≠ 32) : wordsB l = [l] := by
 induction l with
 | nil => rfl
 | cons c r ih =>
  rw [wordsB, if_neg (h c (by simp)), ih fun d hd => h d (by simp [hd])]
  rfl
theorem wordsB_some (a b : List UInt8) (h : ∀ c ∈ a, c ≠ 32) : wordsB (a ++ 32 :: b) = a :: wordsB b := by
 induction a with
 | nil => rfl
 | cons c r ih =>
  rw [List.cons_append, wordsB, if_neg (h c (by simp)), ih fun d hd => h d (by simp [hd])]
  rfl
theorem indexB_blank (s : ByteArray) : Lib.indexB s ⟨#[32]⟩ = Lib.indexByte s.data.toList 32 := Lib.one s ⟨#[32]⟩ rfl
theorem extract_take (s : ByteArray) (i : Nat) : (s.extract 0 i).data.toList = s.data.toList.take i := by
 simp [ByteArray.data_extract]
theorem extract_drop (s : ByteArray) (i : Nat) : (s.extract i s.size).data.toList = s.data.toList.drop i := by
 rw [ByteArray.data_extract, Array.toList_extract]
 simp [List.take_of_length_le]
theorem no_blank {s : ByteArray} (h : Lib.indexB s ⟨#[32]⟩ = -1) : ∀ c ∈ s.data.toList, c ≠ 32 := by
 intro c hc e
 obtain ⟨j, hj⟩ := List.getElem?_of_mem hc
 rw [indexB_blank] at h
 exact Lib.indexByte_none h j (by rw [hj, e])
theorem split_words : ∀ (k : Nat) (s : ByteArray), s.size ≤ k → (Lib.splitB ⟨#[32]⟩ 0 (Lib.countB s ⟨#[32]⟩) s).map (·.data.toList) = wordsB s.data.toList := by
 intro k
 induction k with
 | zero =>
  intro s hs
  rcases Lib.indexB_cases s ⟨#[32]⟩ with h | ⟨i, h, hi⟩
  ·rw [Lib.splitB_miss _ _ _ _ h, wordsB_none _ (no_blank h)]
   rfl
  ·have hi' : i + 1 ≤ s.size := hi
   omega
 | succ k ih =>
  intro s hs
  rcases Lib.indexB_cases s ⟨#[32]⟩ with h | ⟨i, h, hi⟩
  ·rw [Lib.splitB_miss _ _ _ _ h, wordsB_none _ (no_blank h)]
   rfl
  ·have hi' : i + 1 ≤ s.size := hi
   rw [Lib.countB_hit _ _ i (by decide) h, Nat.add_comm, Lib.splitB_hit _ _ _ _ i h]
   have hz : (s.extract (i + 1) s.size).size ≤ k := by rw [ByteArray.size_extract]; omega
   have e := ih _ hz
   rw [indexB_blank] at h
   obtain ⟨h1, h2⟩ := Lib.indexByte_some h
   rw [List.map_cons]
   show (s.extract 0 i).data.toList :: ((Lib.splitB ⟨#[32]⟩ 0 (Lib.countB (s.extract (i + 1) s.size) ⟨#[32]⟩) (s.extract (i + 1) s.size)).map (·.data.toList)) = _
   rw [e, extract_take, extract_drop]
   have hl : s.data.toList = s.data.toList.take i ++ 32 :: s.data.toList.drop (i + 1) := by
    obtain ⟨hlt, hv⟩ := List.getElem?_eq_some_iff.1 h1
    rw [← hv, ← List.drop_eq_getElem_cons hlt, List.take_append_drop]
   conv => rhs; rw [hl]
   rw [wordsB_some]
   intro c hc e
   obtain ⟨j, hj⟩ := List.getElem?_of_mem hc
   have hji : j < i := by
    have := (List.getElem?_eq_some_iff.1 hj).1
    rw [List.length_take] at this
    omega
   rw [List.getElem?_take_of_lt hji, e] at hj
   exact h2 j hji hj
end Go.Proofs.YtfacdhkadnmnlaaDoor
namespace Go.Proofs.YtfacdhkadnmnlaaDoor
open Go

abbrev Pc := List UInt8
def numOk (l : Pc) : Option Int := match Lib.parseIntB 64 l with | .ok v => if Lib.itoa v = l then some v else none | _ => none
def regOk (l : Pc) : Option Int := match l with | [] => none | c :: r => if c = 114 then numOk r else none
structure RS where
 rest : List Pc
 bad : Bool
def RS.word (s : RS) : Pc := s.rest.headD []
def RS.take (f : Pc → Option Int) (s : RS) : Int × RS := ((f s.word).getD 0, ⟨s.rest.tail, s.bad || (f s.word).isNone⟩)
def RS.opt (is : Bool) (f : Pc → Option Int) (s : RS) (n : Int) : Int × RS := if is = true then s.take f else (n, s)
def RS.right (s : RS) : Bool := !s.bad && s.rest.isEmpty
def insR1 (op : Int) (s : RS) : Int × RS := s.opt (setsB op) regOk 0
def insR2 (op : Int) (s : RS) : Int × RS := (insR1 op s).2.opt (decide (op = 17 ∨ op = 1)) numOk 0
def insR3 (op : Int) (s : RS) : Int × RS := (insR2 op s).2.opt (readsAB op) regOk 0
def insR4 (op : Int) (s : RS) : Int × RS := (insR3 op s).2.opt (readsBB op) regOk 0
def insR5 (op : Int) (s : RS) : Int × RS := (insR4 op s).2.opt (decide (op = 15 ∨ op = 16)) numOk (insR2 op s).1
def insR (op : Int) (s : RS) : Ins × RS := (⟨op, (insR1 op s).1, (insR3 op s).1, (insR4 op s).1, (insR5 op s).1⟩, (insR5 op s).2)
def funcW : Pc := [102, 117, 110, 99]
def opIx (w : Pc) : Nat := if wordL.idxOf w < 20 then wordL.idxOf w else 0
def addLast (P : List Fn) (x : Ins) : List Fn := match P.getLast? with | none => [] | some f => P.dropLast ++ [⟨f.params, f.regs, f.code ++ [x]⟩]
def addIns (P : List Fn) (op : Int) (s : RS) : Option (List Fn) := if op = 0 then none else if P.isEmpty = true then none else if (insR op s).2.right = true then some (addLast P (insR op s).1) else none
def addFn (P : List Fn) (s : RS) : Option (List Fn) := if ((s.take numOk).2.take numOk).2.right = true ∧ 0 ≤ (s.take numOk).1 ∧ 0 ≤ ((s.take numOk).2.take numOk).1 then some (P ++ [⟨(s.take numOk).1, ((s.take numOk).2.take numOk).1, []⟩]) else none
def addWords (P : List Fn) (ws : List Pc) : Option (List Fn) := if ws.headD [] = funcW then addFn P ⟨ws.tail, false⟩ else addIns P (opIx (ws.headD [])) ⟨ws.tail, false⟩
def addLine (P : List Fn) (l : Pc) : Option (List Fn) := if Lib.hasSuffix l [10] = true then addWords P (wordsB (l.take (l.length - 1))) else none
def linesB : List UInt8 → List Pc
 | [] => []
 | c :: r => if c = 10 then [10] :: linesB r else (c :: (linesB r).headD []) :: (linesB r).tail
def lineEnd (s : Pc) : Nat := if Lib.indexByte s 10 = -1 then s.length else (Lib.indexByte s 10).toNat + 1
def readOn : List Fn → List Pc → Option (List Fn)
 | P, [] => some P
 | P, l :: r => match addLine P l with | none => none | some Q => readOn Q r
def readAt : List Fn → List Pc → Nat
 | _, [] => 0
 | P, l :: r => match addLine P l with | none => 0 | some Q => readAt Q r + 1
theorem lineEnd_cons (c : UInt8) (r : Pc) : lineEnd (c :: r) = if c = 10 then 1 else lineEnd r + 1 := by
 unfold lineEnd
 have hge := Lib.indexByte_ge r 10
 by_cases h : c = 10
 ·subst h; simp [Lib.indexByte]
 ·rw [if_neg h]
  have hb : (c == 10) = false := by simpa using h
  have he : Lib.indexByte (c :: r) 10 = if Lib.indexByte r 10 == -1 then -1 else Lib.indexByte r 10 + 1 := by rw [Lib.indexByte, hb]; rfl
  rw [he]
  generalize Lib.indexByte r 10 = z at hge
  by_cases h2 : z = -1
  ·simp [h2]
  ·have hb2 : (z == -1) = false := by simpa using h2
   simp only [hb2, Bool.false_eq_true, if_false]
   rw [if_neg (by omega), if_neg h2]
   omega
theorem lineEnd_pos (c : UInt8) (r : Pc) : 1 ≤ lineEnd (c :: r) := by rw [lineEnd_cons]; split <;> omega
theorem lineEnd_le (s : Pc) : lineEnd s ≤ s.length := by
 induction s with
 | nil => simp [lineEnd, Lib.indexByte]
 | cons c r ih => rw [lineEnd_cons]; split <;> simp; omega
theorem linesB_eq (s : Pc) (h : s ≠ []) : linesB s = s.take (lineEnd s) :: linesB (s.drop (lineEnd s)) := by
 induction s with
 | nil => exact absurd rfl h
 | cons c r ih =>
  rw [lineEnd_cons, linesB]
  by_cases hc : c = 10
  ·subst hc; simp
  ·rw [if_neg hc, if_neg hc]
   cases r with
   | nil => simp [linesB, lineEnd, Lib.indexByte]
   | cons d q => rw [ih (by simp)]; simp
theorem linesB_line (t r : Pc) (h : ∀ c ∈ t, c ≠ 10) : linesB (t ++ [10] ++ r) = (t ++ [10]) :: linesB r := by
 induction t with
 | nil => simp [linesB]
 | cons c t ih =>
  rw [List.cons_append, List.cons_append, linesB, if_neg (h c (by simp)), ih fun d hd => h d (by simp [hd])]
  simp
theorem linesB_torn (t : Pc) (h : ∀ c ∈ t, c ≠ 10) (hn : t ≠ []) : linesB t = [t] := by
 induction t with
 | nil => exact absurd rfl hn
 | cons c t ih =>
  rw [linesB, if_neg (h c (by simp))]
  cases t with
  | nil => simp [linesB]
  | cons d q => rw [ih (fun e he => h e (by simp [he])) (by simp)]; simp
theorem linesB_flat (s : Pc) : (linesB s).flatten = s := by
 induction s with
 | nil => rfl
 | cons c r ih =>
  rw [linesB]
  split
  ·rename_i h; subst h; rw [List.flatten_cons, ih]; rfl
  ·cases hl : linesB r with
   | nil => rw [hl] at ih; simp at ih; subst ih; simp
   | cons a b => rw [hl] at ih; simp at ih ⊢; exact ih
theorem readOn_snoc (P : List Fn) (a : List Pc) (l : Pc) : readOn P (a ++ [l]) = (readOn P a).bind fun Q => addLine Q l := by
 induction a generalizing P with
 | nil => simp only [List.nil_append, readOn]; cases h : addLine P l <;> simp [h]
 | cons x r ih =>
  rw [List.cons_append, readOn, readOn]
  cases h : addLine P x with
  | none => rfl
  | some Q => exact ih Q
theorem readOn_fail (P Q : List Fn) (a : List Pc) (l : Pc) (r : List Pc) (h : readOn P a = some Q) (hl : addLine Q l = none) : readOn P (a ++ l :: r) = none ∧ readAt P (a ++ l :: r) = a.length := by
 induction a generalizing P with
 | nil => simp only [readOn] at h; injection h with h; subst h; simp [readOn, readAt, hl]
 | cons x t ih =>
  rw [readOn] at h
  rw [List.cons_append, readOn, readAt]
  cases hx : addLine P x with
  | none => rw [hx] at h; exact absurd h (by simp)
  | some S => rw [hx] at h; exact ⟨(ih S h).1, by rw [List.length_cons]; show readAt S (t ++ l :: r) + 1 = _; rw [(ih S h).2]⟩
theorem readOn_append (P Q : List Fn) (a b : List Pc) (h : readOn P a = some Q) : readOn P (a ++ b) = readOn Q b := by
 induction a generalizing P with
 | nil => simp only [readOn] at h; injection h with h; subst h; rfl
 | cons x t ih =>
  rw [readOn] at h
  rw [List.cons_append, readOn]
  cases hx : addLine P x with
  | none => rw [hx] at h; exact absurd h (by simp)
  | some S => rw [hx] at h; exact ih S h
/-! What is read is shown as it was. -/
def blanks (ps : List Pc) : Pc := ps.flatMap (32 :: ·)
theorem numOk_nil : numOk [] = none := rfl
theorem i64_zero : I64 0 := ⟨by decide, by decide⟩
theorem opIx_eq {w : Pc} (h : opIx w ≠ 0) : wordL.getD (opIx w) [] = w ∧ 1 ≤ opIx w ∧ opIx w < 20 := by
 unfold opIx at h ⊢
 split at h
 ·rename_i hl
  rw [if_pos hl]
  refine ⟨?_, by omega, hl⟩
  have hl' : wordL.idxOf w < wordL.length := hl
  have : wordL[wordL.idxOf w]? = some w := by
   rw [List.getElem?_eq_getElem hl']
   exact congrArg some (List.getElem_idxOf hl')
  simp [List.getD, this]
 ·exact absurd rfl h
theorem last_cases {P : List Fn} (h : P.isEmpty = false) : ∃ Q f, P = Q ++ [f] := by
 have hne : P ≠ [] := by intro e; subst e; simp at h
 exact ⟨P.dropLast, P.getLast hne, (List.dropLast_concat_getLast hne).symm⟩
theorem addLast_eq (Q : List Fn) (f : Fn) (x : Ins) : addLast (Q ++ [f]) x = Q ++ [⟨f.params, f.regs, f.code ++ [x]⟩] := by simp [addLast]
theorem addWords_cons (P : List Fn) (w : Pc) (r : List Pc) : addWords P (w :: r) = if w = funcW then addFn P ⟨r, false⟩ else addIns P (opIx w) ⟨r, false⟩ := rfl
end Go.Proofs.YtfacdhkadnmnlaaDoor
