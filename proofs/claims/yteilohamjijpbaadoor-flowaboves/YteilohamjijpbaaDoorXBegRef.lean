/- Contracts of the document's answer to P7.1 (package tierlineref): EndsBlock, beginsBlock. -/
import Derived.Test.YteilohamjijpbaaDoorXFlowBegun
import Derived.Test.YteilohamjijpbaaDoorGroupC
namespace Go.Proofs.YteilohamjijpbaaDoor
open Go Go.RowKit

set_option maxRecDepth 100000 in
theorem refEnds_any (op : Int) (w : World) :
    Calls Tryd.prog 40 #[.int .i64 op] w fun e w' => e = .returned (.bool (inB op 15 19)) ∧ w' = w := by
  go_enter Tryd.func40, Tryd.ntmps40
  go_wp2_with (go_at_call 54; refine (in_any _ _ _ _).mono ?_; rintro e w' ⟨rfl, hw'⟩; replace hw' := hw'.symm; subst hw')
  go_ret
  exact ⟨rfl, rfl⟩
theorem ends_yes {P : List Fn} {x : Ins} (h : InsOk P x) (h15 : 15 ≤ x.op) : inB x.op 15 19 = true := by
  have := h.op2
  unfold inB
  rw [decide_eq_true_eq]
  omega
theorem ends_no {x : Ins} (h15 : ¬ 15 ≤ x.op) : inB x.op 15 19 = false := by
  unfold inB
  rw [decide_eq_false_iff_not]
  omega
/-- Which places are reached, as a list of numbers tells it. -/
def Tells (f : Fn) (A : List Int) : Prop := f.code.length ≤ A.length ∧ ∀ q, q < f.code.length → (A.getD q 0 < 0 ∧ ¬ Way f 63 q) ∨ (¬ A.getD q 0 < 0 ∧ Way f 63 q)

def BegPost (f : Fn) (pc : Nat) (w : World) (e : Ending) (w' : World) : Prop := ∃ b : Bool, e = .returned (.bool b) ∧ (b = true ↔ Beg f pc) ∧ Below w.heap.size w w'

set_option maxRecDepth 100000 in
set_option maxHeartbeats 4000000 in
theorem beginsBlock_any (P : List Fn) (f : Fn) (ok : FlowOk P f) (fp fr : Int) (cv sv : Value) (A : List Int) (pc : Nat) (w : World) (hcv : CodeVal w cv f.code) (hsv : IntsVal w sv A) (hA : Tells f A) (hpc : pc < f.code.length) :
    Calls Tryd.prog 39 #[.agg #[.int .i64 fp, .int .i64 fr, cv], sv, .int .i64 pc] w fun e w' => BegPost f pc w e w' := by
  have hl1 := ok.ok.len1
  have hl2 := ok.ok.len2
  have OK : Hid (FlowOk P f) := ok
  have HBT : Hid (∀ k, k ≤ f.code.length → BegTo f k (pc : Int) → Beg f pc) := fun k hk h => by
    have h2 : BegTo f f.code.length (pc : Int) := by
      rcases h with h | ⟨p, t, h1, h3⟩
      · exact Or.inl h
      · exact Or.inr ⟨p, t, by omega, h3⟩
    obtain ⟨q, -, hq, e⟩ := (begTo_all ok _).1 h2
    obtain rfl : pc = q := by omega
    exact hq
  have HBN : Hid (¬ BegTo f f.code.length (pc : Int) → ¬ Beg f pc) := fun h hb => h ((begTo_all ok _).2 ⟨pc, hpc, hb, rfl⟩)
  obtain ⟨ao2, b2, off2, n, cap2, rfl, ⟨hlen2, haddr2, hat2⟩, hcap2, hmx2⟩ := hcv
  obtain rfl := haddr2 (by omega)
  obtain ⟨ao3, b3, off3, n3, cap3, rfl, hl3, ha3, hc3, hcp3, hm3⟩ := ints_get hsv
  have hn3 : n ≤ n3 := by have := hA.1; omega
  obtain rfl := ha3 (by omega)
  have HN : Hid (f.code.length = n) := hlen2
  have HAT : Hid (∀ W, Below w.heap.size w W → ∀ q, q < n → insAt W b2 (off2 + q * 5) (insD f q) ∧ W.cell? ⟨b3, off3 + q, none⟩ = some (.int .i64 (A.getD q 0))) := fun W hW q hq => by
    have hqf : q < f.code.length := by rw [hlen2]; exact hq
    rw [insD_eq hqf]
    exact ⟨(hat2 q hqf).keeps (keeps_below hW), keeps_below hW _ _ (hc3 q (by omega))⟩
  have HAW : Hid (∀ q, q < n → (A.getD q 0 < 0 ∧ ¬ Way f 63 q) ∨ (¬ A.getD q 0 < 0 ∧ Way f 63 q)) := fun q hq => hA.2 q (by rw [hlen2]; exact hq)
  have hcc := hcap2.1
  have hc3' := hcp3
  rw [hlen2] at hl1 hl2 hpc HBN HBT
  unfold maxLen at hmx2
  clear hsv hat2 haddr2 ha3 hc3 hA hlen2 hl3 hcap2 ok
  by_cases hp0 : pc = 0
  · subst hp0
    have HX : Hid (Beg f 0) := Or.inl rfl
    go_enter Tryd.func39, Tryd.ntmps39
    go_wp2
    go_ret
    exact ⟨true, rfl, ⟨fun _ => HX.out, fun _ => rfl⟩, (Below.refl _ _).alloc (Nat.le_refl _) _⟩
  have hp1 : ((pc : Int) == 0) = false := by rw [beq_eq_false_iff_ne]; omega
  have HB0 : Hid (¬ BegTo f 0 (pc : Int)) := by
    rintro (h | ⟨p, t, h1, _⟩)
    · omega
    · omega
  go_enter Tryd.func39, Tryd.ntmps39
  go_wp2
  have HW0 : Hid (Below w.heap.size w (w.alloc (.cells #[.int .i64 fp, .int .i64 fr, .slice (some ⟨b2, off2, none⟩) n cap2] 59))) := (Below.refl _ _).alloc (Nat.le_refl _) _
  have HBX : Hid (∀ W, Below (w.heap.size + 1) (w.alloc (.cells #[.int .i64 fp, .int .i64 fr, .slice (some ⟨b2, off2, none⟩) n cap2] 59)) W → W.cell? ⟨w.heap.size, 0, none⟩ = some (.int .i64 fp) ∧ W.cell? ⟨w.heap.size, 1, none⟩ = some (.int .i64 fr) ∧ W.cell? ⟨w.heap.size, 2, none⟩ = some (.slice (some ⟨b2, off2, none⟩) n cap2) ∧ Below w.heap.size w W ∧ w.heap.size < W.heap.size) := fun W hW => by
    have hb := (hW.block w.heap.size (by omega)).trans (heap_alloc_last w _)
    refine ⟨by rw [cell_of_row _ _ _ _ _ _ hb]; rfl, by rw [cell_of_row _ _ _ _ _ _ hb]; rfl, by rw [cell_of_row _ _ _ _ _ _ hb]; rfl, HW0.out.trans (hW.mono (by omega)), ?_⟩
    have := hW.size
    simp at this
    omega
  generalize (w.alloc (.cells #[.int .i64 fp, .int .i64 fr, .slice (some ⟨b2, off2, none⟩) n cap2] 59)) = W0 at *
  clear hp0
  go_loopw [7] (fun i wr => ∃ q : Nat, q ≤ n ∧ i = .int .i64 q ∧ ¬ BegTo f q (pc : Int) ∧ Below (w.heap.size + 1) W0 wr) (fun i _ => n - (intOf i).toNat)
  case atStart => exact ⟨0, Nat.zero_le _, rfl, HB0.out, Below.refl _ _⟩
  case round =>
    obtain ⟨q, hq, rfl, hno, hbr⟩ := hrel
    rename World => wo
    obtain ⟨k0, k1, k2, hbw, hzo⟩ := HBX.out wo hbr
    have HBR : Hid (Below (w.heap.size + 1) W0 wo) := hbr
    have HBW : Hid (Below w.heap.size w wo) := hbw
    have HNO : Hid (¬ BegTo f q (pc : Int)) := hno
    clear hno hbr hbw
    by_cases hlt : q < n
    · have hqf : q < f.code.length := by rw [HN.out]; exact hlt
      obtain ⟨hins, ds⟩ := HAT.out wo HBW.out q hlt
      have hio := (OK.out.insD hqf).1
      have himm := (OK.out.insD hqf).2
      have hqI : (q : Int) < n := by omega
      have hqI3 : (q : Int) < n3 := by omega
      have HSK : Hid (¬ (Way f 63 q ∧ 15 ≤ (insD f q).op) → ¬ BegTo f (q + 1) (pc : Int)) := fun h hb => HNO.out ((begTo_skip h _).1 hb)
      have HST : Hid (Way f 63 q → 15 ≤ (insD f q).op → (BegTo f (q + 1) (pc : Int) ↔ pc ∈ behind (insD f q) q)) := fun h h2 => by
        rw [begTo_step h h2]
        constructor
        · rintro (h3 | ⟨t, ht, e⟩)
          · exact absurd h3 HNO.out
          · obtain rfl : pc = t := by omega
            exact ht
        · intro hm
          exact Or.inr ⟨pc, hm, rfl⟩
      have hBH := fun W (hW : Below wo.heap.size wo W) => behind_any fp fr b2 off2 n cap2 q (insD f q) W (hins.keeps (keeps_below hW)) himm hlt (by omega)
      rcases HAW.out q hlt with ⟨hs, hw⟩ | ⟨hs, hw⟩
      · have HX := HSK.out (fun h => hw h.1)
        have HXX : Hid (¬ BegTo f (q + 1) (pc : Int)) := HX
        generalize A.getD q 0 = z0 at ds hs
        clear HX hw hBH hins hio himm hqf
        go_wp2
        go_roundw
        case rel => exact ⟨q + 1, by omega, by go_num, HXX.out, HBR.out⟩
        case measure => simp [intOf]; omega
      · generalize A.getD q 0 = z0 at ds hs
        by_cases h15 : 15 ≤ (insD f q).op
        · have hey := ends_yes hio h15
          have HST2 : Hid (BegTo f (q + 1) (pc : Int) ↔ pc ∈ behind (insD f q) q) := HST.out hw h15
          have hEB := fun W => refEnds_any (insD f q).op W
          rw [hey] at hEB
          have hBH0 := hBH wo (Below.refl _ _)
          have HBI : Hid (behindI (insD f q) q = (behind (insD f q) q).map fun (n : Nat) => (n : Int)) := rfl
          generalize hbI : behindI (insD f q) q = bI at HBI hBH0
          clear hbI hey h15 hw hBH HSK HST himm hio hqf
          generalize behind (insD f q) q = bs at *
          generalize insD f q = xx at *
          obtain ⟨op, dst, xa, xb, imm⟩ := xx
          obtain ⟨d0, d1, d2, d3, d4⟩ := hins
          dsimp only at d0 d1 d2 d3 d4 hEB
          go_wp2_with (first
            | (go_at_call 40; refine (hEB _).mono ?_; rintro e w' ⟨rfl, hw'⟩; replace hw' := hw'.symm; subst hw')
            | (go_at_call 41; refine hBH0.mono ?_; rintro e w2 ⟨v2, rfl, hI2, -, hb2⟩; obtain ⟨ao4, b4, off4, n4, cap4, rfl, hl4, ha4, hc4, hcp4, hm4⟩ := ints_get hI2))
          have hz2 := hb2.size
          have HB2 : Hid (Below (w.heap.size + 1) W0 w2) := HBR.out.trans (hb2.mono (by omega))
          have HBW2 : Hid (Below w.heap.size w w2) := HBW.out.trans (hb2.mono (by omega))
          have HL4 : Hid (bs.length = n4) := by show _ = _; rw [← hl4, HBI.out, List.length_map]
          have HC4 : Hid (∀ e (h : e < bs.length), w2.cell? ⟨b4, off4 + e, none⟩ = some (.int .i64 ((bs[e] : Nat) : Int))) := fun e h => by
            rw [hc4 e (by rw [← HL4.out]; exact h)]; congr 2; rw [HBI.out]; simp [List.getD, h]
          clear hI2 hl4 hc4 hb2 hBH0 hEB d0 d1 d2 d3 d4 ds k0 k1 k2 hs
          go_loopw [9] (fun i wr => ∃ e : Nat, e ≤ n4 ∧ i = .int .i64 e ∧ ¬ pc ∈ bs.take e ∧ wr = w2) (fun i _ => n4 - (intOf i).toNat)
          case atStart => exact ⟨0, Nat.zero_le _, rfl, by simp, rfl⟩
          case round =>
            obtain ⟨e, he, rfl, hnm, rfl⟩ := hrel
            by_cases hle : e < n4
            · obtain rfl := ha4 (by omega)
              have heb : e < bs.length := by rw [HL4.out]; exact hle
              have c4 := HC4.out e heb
              have heI : (e : Int) < n4 := by omega
              by_cases hpe : bs[e] = pc
              · have HY : Hid (Beg f pc) := HBT.out (q + 1) (by omega) (HST2.out.2 (by rw [← hpe]; exact List.getElem_mem heb))
                rw [hpe] at c4
                clear hpe hnm
                go_wp2
                go_ret
                exact ⟨true, rfl, ⟨fun _ => HY.out, fun _ => rfl⟩, HBW2.out⟩
              · have hpf : (((bs[e] : Nat) : Int) == (pc : Int)) = false := by rw [beq_eq_false_iff_ne]; omega
                have HNM : Hid (¬ pc ∈ bs.take (e + 1)) := fun h => by
                  rw [List.take_add_one, List.getElem?_eq_getElem heb] at h
                  rcases List.mem_append.1 h with h | h
                  · exact hnm h
                  · exact hpe (by simp at h; exact h.symm)
                generalize ((bs[e] : Nat) : Int) = zz at c4 hpf
                clear hpe hnm
                go_wp2
                go_roundw
                case rel => exact ⟨e + 1, by omega, by go_num, HNM.out, trivial⟩
                case measure => simp [intOf]; omega
            · obtain rfl : e = n4 := by omega
              have HXX : Hid (¬ BegTo f (q + 1) (pc : Int)) := fun h => hnm (by rw [List.take_of_length_le (by rw [HL4.out]; exact Nat.le_refl _)]; exact HST2.out.1 h)
              clear hnm
              go_wp2
              go_roundw
              case rel => exact ⟨q + 1, by omega, by go_num, HXX.out, HB2.out⟩
              case measure => simp [intOf]; omega
        · have hen := ends_no h15
          have HXX : Hid (¬ BegTo f (q + 1) (pc : Int)) := HSK.out (fun h => h15 h.2)
          have hEB := fun W => refEnds_any (insD f q).op W
          rw [hen] at hEB
          clear hen h15 hw hBH HSK HST himm hio hqf
          generalize insD f q = xx at *
          obtain ⟨op, dst, xa, xb, imm⟩ := xx
          obtain ⟨d0, d1, d2, d3, d4⟩ := hins
          dsimp only at d0 d1 d2 d3 d4 hEB
          go_wp2_with (go_at_call 40; refine (hEB _).mono ?_; rintro e w' ⟨rfl, hw'⟩; replace hw' := hw'.symm; subst hw')
          go_roundw
          case rel => exact ⟨q + 1, by omega, by go_num, HXX.out, HBR.out⟩
          case measure => simp [intOf]; omega
    · obtain rfl : q = n := by omega
      have HY : Hid (¬ Beg f pc) := HBN.out HNO.out
      go_wp2
      go_ret
      exact ⟨false, rfl, ⟨(fun h => by cases h), fun h => absurd h HY.out⟩, HBW.out⟩
end Go.Proofs.YteilohamjijpbaaDoor
