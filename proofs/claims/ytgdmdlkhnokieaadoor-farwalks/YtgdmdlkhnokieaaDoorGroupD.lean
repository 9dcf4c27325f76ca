/- Texts put together: FramesMay, Barred, OwnSt, StepMath, RunMath, Engine, Eng, EngWork, EngRet, EngCall, StepCheck. -/
import Derived.Test.YtgdmdlkhnokieaaDoorXPlace
import Derived.Deep.RegionHeld3
import Derived.Deep.Cut
import Derived.Test.YtgdmdlkhnokieaaDoorGroupC
import Derived.Test.YtgdmdlkhnokieaaDoorGroupB
import Derived.Deep.AppendLies
import Derived.Laws.OwnMore
import Derived.WalkSmall
import Derived.Deep.RegionLaw
/- Contract of step.framesMayBe. -/
namespace Go.Proofs.YtgdmdlkhnokieaaDoor
open Go Go.RowKit

theorem wrap_fits (n : Int) (h0 : 0 ≤ n) (h1 : n ≤ 9223372036854775807) : IntKind.i64.wrap n = n := by
  have e : n % 2 ^ 64 = n := Int.emod_eq_of_lt h0 (by simp; omega)
  have w1 : IntKind.i64.wrap n = if (true && decide (n ≥ 2 ^ 63)) = true then n - (2 ^ 64 : Int) else n := by
    simp only [IntKind.wrap, IntKind.bits, IntKind.signed, e]
  rw [w1, if_neg (by simp; omega)]
/-- The instruction at a frame's place. -/
def insAtFr (P : List Fn) (f : Fr) : Ins := ((P.getD f.fn.toNat ⟨0, 0, []⟩).code).getD f.pc.toNat ⟨0, 0, 0, 0, 0⟩
def frOf (fs : List Fr) (k : Nat) : Fr := fs.getD k ⟨0, 0, []⟩
/-- May the frame k be where it is? -/
def frB (P : List Fn) (fs : List Fr) (k : Nat) : Bool := placeB P (frOf fs k) && (decide (fs.length ≤ k + 1) || (decide ((insAtFr P (frOf fs k)).op = 17) && decide ((insAtFr P (frOf fs k)).imm = (frOf fs (k + 1)).fn)))
def framesB (P : List Fn) (fs : List Fr) : Bool := (List.range fs.length).all fun k => frB P fs k
theorem framesB_false {P : List Fn} {fs : List Fr} {k : Nat} (hk : k < fs.length) (h : frB P fs k = false) : framesB P fs = false := by
  unfold framesB
  rw [List.all_eq_false]
  exact ⟨k, List.mem_range.2 hk, by simp [h]⟩
theorem framesB_true {P : List Fn} {fs : List Fr} (h : ∀ j, j < fs.length → frB P fs j = true) : framesB P fs = true := by
  unfold framesB
  rw [List.all_eq_true]
  exact fun k hk => h k (List.mem_range.1 hk)

/-- A function, and an instruction, of a program that lies in memory. -/
theorem prog_ins {w : World} {v : Value} {P : List Fn} (hv : ProgVal w v P) {f : Fr} (hp : placeB P f = true) :
    ∃ (k j b off cap b1 off1 m cap1 : Nat), f.fn = k ∧ f.pc = j ∧ v = .slice (some ⟨b, off, none⟩) P.length cap ∧ k < P.length ∧ w.cell? ⟨b, off + k * 3 + 2, none⟩ = some (.slice (some ⟨b1, off1, none⟩) m cap1) ∧ j < m ∧ m ≤ cap1 ∧ cap1 ≤ 9223372036854775807 ∧ P.length ≤ cap ∧ cap ≤ 9223372036854775807 ∧ insAt w b1 (off1 + j * 5) (insAtFr P f) := by
  unfold placeB at hp
  simp only [decide_eq_true_eq] at hp
  obtain ⟨p0, p1, p2, p3⟩ := hp
  obtain ⟨k, hk⟩ := Int.eq_ofNat_of_zero_le p0
  obtain ⟨j, hj⟩ := Int.eq_ofNat_of_zero_le p2
  have hkl : k < P.length := by omega
  have eP : (P.getD f.fn.toNat ⟨0, 0, []⟩) = P[k] := by rw [hk]; simp [List.getD, List.getElem?_eq_getElem hkl]
  rw [eP] at p3
  have hjl : j < P[k].code.length := by omega
  obtain ⟨ao, b, off, n, cap, rfl, ⟨hlen, haddr, hat⟩, hcap, hmax⟩ := hv
  subst hlen
  obtain rfl := haddr (by omega)
  obtain ⟨u, d0, d1, d2, hcv⟩ := hat k hkl
  obtain ⟨ao1, b1, off1, n1, cap1, rfl, ⟨hlen1, haddr1, hat1⟩, hc1, hmax1⟩ := hcv
  subst hlen1
  obtain rfl := haddr1 (by omega)
  have eI : insAtFr P f = P[k].code[j] := by unfold insAtFr; rw [eP, hj]; simp [List.getD, List.getElem?_eq_getElem hjl]
  refine ⟨k, j, b, off, cap, b1, off1, _, cap1, hk, hj, rfl, hkl, d2, hjl, hc1.1, by simpa [maxLen] using hmax1, hcap.1, by simpa [maxLen] using hmax, ?_⟩
  rw [eI]
  exact hat1 j hjl

set_option maxRecDepth 100000 in
set_option maxHeartbeats 2000000 in
theorem framesMay_any (P : List Fn) (v fv : Value) (fs : List Fr) (w : World) (hv : ProgVal w v P) (hf : FramesVal w fv fs) :
    Calls Tryd.prog 33 #[.agg #[v], fv] w fun e w' => e = .returned (.bool (framesB P fs)) ∧ Below w.heap.size w w' := by
  obtain ⟨ao, n0, cap0, rfl⟩ := hv.shape
  have HV : Hid (ProgVal w (.slice ao n0 cap0) P) := hv
  obtain ⟨hwf, fo, b, off, n, cap, rfl, hl, hp, hr, hc, hx⟩ := hf
  have HL : Hid (fs.length = n) := hl
  have HR : Hid (∀ k (h : k < fs.length), w.rangeAt b (off + k * 14) (frCells fs[k])) := hr
  have HPO : Hid (0 < n → fo = some ⟨b, off, none⟩) := hp
  have HW : Hid (FrsWf fs) := hwf
  have hcap := hc.1
  unfold maxLen at hx
  have hB0 : Below w.heap.size w (w.alloc (.cells #[.slice ao n0 cap0] 29)) := (Below.refl _ _).alloc (Nat.le_refl _) _
  have hk0 : (w.alloc (.cells #[.slice ao n0 cap0] 29)).cell? ⟨w.heap.size, 0, none⟩ = some (.slice ao n0 cap0) := by simp
  clear hl hr hp hwf hc hv
  go_enter Tryd.func33, Tryd.ntmps33
  go_wp2
  go_loopw [10] (fun i wr => ∃ k : Nat, k ≤ n ∧ i = .int .i64 k ∧ (∀ j, j < k → frB P fs j = true) ∧ Below (w.heap.size + 1) (w.alloc (.cells #[.slice ao n0 cap0] 29)) wr) (fun i _ => n - (intOf i).toNat)
  case atStart => exact ⟨0, Nat.zero_le _, rfl, fun j hj => by omega, Below.refl _ _⟩
  case round =>
    obtain ⟨k, hk, rfl, hok, hb⟩ := hrel
    have HOK : Hid (∀ j, j < k → frB P fs j = true) := hok
    have HB : Hid (Below w.heap.size w wr) := hB0.trans (hb.mono (by omega))
    have HBB : Hid (Below (w.heap.size + 1) (w.alloc (.cells #[.slice ao n0 cap0] 29)) wr) := hb
    have k0 : wr.cell? ⟨w.heap.size, 0, none⟩ = some (.slice ao n0 cap0) := (hb.cell (p := ⟨w.heap.size, 0, none⟩) (by simp)).trans hk0
    have z0 : w.heap.size < wr.heap.size := by have := hb.size; simp at this; omega
    clear hok hb
    by_cases hlt : k < n
    · obtain rfl := HPO.out (by omega)
      have hkl : k < fs.length := by rw [HL.out]; exact hlt
      have hkI : (k : Int) < n := by omega
      have hf12 := HW.out _ (List.getElem_mem hkl)
      have eF : frOf fs k = fs[k] := by simp [frOf, List.getD, List.getElem?_eq_getElem hkl]
      have hrg := HR.out k hkl
      obtain ⟨fr, hF⟩ : ∃ fr, fs[k] = fr := ⟨_, rfl⟩
      rw [hF] at hf12 hrg eF
      obtain ⟨fn, pc, regs⟩ := fr
      dsimp only at hf12
      obtain ⟨r0, r1, r2, r3, r4, r5, r6, r7, r8, r9, r10, r11, rfl⟩ := list12 hf12
      have hrw : ∀ j u, ([.int .i64 fn, .int .i64 pc, .int .i64 r0, .int .i64 r1, .int .i64 r2, .int .i64 r3, .int .i64 r4, .int .i64 r5, .int .i64 r6, .int .i64 r7, .int .i64 r8, .int .i64 r9, .int .i64 r10, .int .i64 r11] : List Value)[j]? = some u → wr.cell? ⟨b, off + k * 14 + j, none⟩ = some u := fun j u hu => keeps_below HB.out _ _ (hrg j u hu)
      have c0 := hrw 0 _ rfl
      have c1 := hrw 1 _ rfl
      have c2 := hrw 2 _ rfl
      have c3 := hrw 3 _ rfl
      have c4 := hrw 4 _ rfl
      have c5 := hrw 5 _ rfl
      have c6 := hrw 6 _ rfl
      have c7 := hrw 7 _ rfl
      have c8 := hrw 8 _ rfl
      have c9 := hrw 9 _ rfl
      have c10 := hrw 10 _ rfl
      have c11 := hrw 11 _ rfl
      have c12 := hrw 12 _ rfl
      have c13 := hrw 13 _ rfl
      simp only [Nat.add_zero] at c0
      have hPL : Hid (∀ W, Below w.heap.size w W → Calls Tryd.prog 20 #[.agg #[.slice ao n0 cap0], .agg #[.int .i64 fn, .int .i64 pc, .int .i64 r0, .int .i64 r1, .int .i64 r2, .int .i64 r3, .int .i64 r4, .int .i64 r5, .int .i64 r6, .int .i64 r7, .int .i64 r8, .int .i64 r9, .int .i64 r10, .int .i64 r11]] W fun e w' => e = .returned (.bool (placeB P ⟨fn, pc, [r0, r1, r2, r3, r4, r5, r6, r7, r8, r9, r10, r11]⟩)) ∧ Below W.heap.size W w') := fun W hW => hasPlace_any P _ ⟨fn, pc, [r0, r1, r2, r3, r4, r5, r6, r7, r8, r9, r10, r11]⟩ W (HV.out.keeps (keeps_below hW)) rfl
      cases hpb : placeB P ⟨fn, pc, [r0, r1, r2, r3, r4, r5, r6, r7, r8, r9, r10, r11]⟩
      · have HF : Hid (framesB P fs = false) := framesB_false hkl (by unfold frB; rw [eF, hpb]; rfl)
        rw [hpb] at hPL
        clear hrw hrg hpb
        go_wp2_with (go_at_call 20; refine (hPL.out _ (HB.out.alloc (by omega) _)).mono ?_; rintro e w3 ⟨rfl, hb3⟩)
        go_ret
        exact ⟨by rw [HF.out]; rfl, (HB.out.alloc (by omega) _).trans (hb3.mono (by simp; omega))⟩
      · obtain ⟨kf, jf, pb, po, pcap, b1, off1, m, cap1, efn, epc, hve, hkf, d2, hjm, hmc, hc1, hpc, hpm, hins⟩ := prog_ins HV.out hpb
        dsimp only at efn epc
        subst efn
        subst epc
        rw [hpb] at hPL
        obtain ⟨rfl, rfl, rfl⟩ : ao = some ⟨pb, po, none⟩ ∧ n0 = P.length ∧ cap0 = pcap := by simpa using hve
        have hkfI : (kf : Int) < P.length := by omega
        have hjfI : (jf : Int) < m := by omega
        clear hrw hrg hve
        go_upto_region 6 with (go_at_call 20; refine (hPL.out _ (HB.out.alloc (by omega) _)).mono ?_; rintro e w3 ⟨rfl, hb3⟩)
        have hba : Below wr.heap.size wr (wr.alloc (.cells #[.int .i64 (kf : Int), .int .i64 (jf : Int), .int .i64 r0, .int .i64 r1, .int .i64 r2, .int .i64 r3, .int .i64 r4, .int .i64 r5, .int .i64 r6, .int .i64 r7, .int .i64 r8, .int .i64 r9, .int .i64 r10, .int .i64 r11] 45)) := (Below.refl _ _).alloc (Nat.le_refl _) _
        have B3 : Below wr.heap.size wr w3 := hba.trans (hb3.mono (by simp))
        have z3 : wr.heap.size < w3.heap.size := by have := hb3.size; simp at this; omega
        have BW3 : Below w.heap.size w w3 := HB.out.trans (B3.mono (by omega))
        have x0 := keeps_below B3 _ _ k0
        have f0 := keeps_below hb3 ⟨wr.heap.size, 0, none⟩ (.int .i64 (kf : Int)) (by simp)
        have f1 := keeps_below hb3 ⟨wr.heap.size, 1, none⟩ (.int .i64 (jf : Int)) (by simp)
        have g2 := keeps_below BW3 _ _ d2
        obtain ⟨i0, i1, i2, i3, i4⟩ := hins.keeps (keeps_below BW3)
        obtain ⟨xi, hxi⟩ : ∃ x, insAtFr P ⟨kf, jf, [r0, r1, r2, r3, r4, r5, r6, r7, r8, r9, r10, r11]⟩ = x := ⟨_, rfl⟩
        rw [hxi] at i0 i1 i2 i3 i4
        obtain ⟨op, dst, xa, xb, imm⟩ := xi
        dsimp only at i0 i1 i2 i3 i4
        have HB3 : Hid (Below wr.heap.size wr w3) := B3
        have HXI : Hid (insAtFr P ⟨kf, jf, [r0, r1, r2, r3, r4, r5, r6, r7, r8, r9, r10, r11]⟩ = ⟨op, dst, xa, xb, imm⟩) := hxi
        clear hb3 hba B3 d2 hins k0 c0 c1 c2 c3 c4 c5 c6 c7 c8 c9 c10 c11 c12 c13 hxi hPL
        go_region_held3 (fun w' => w'.cell? ⟨w.heap.size, 0, none⟩ = some (.slice (some ⟨pb, po, none⟩) P.length cap0) ∧ w'.cell? ⟨wr.heap.size, 0, none⟩ = some (.int .i64 (kf : Int)) ∧ w'.cell? ⟨wr.heap.size, 1, none⟩ = some (.int .i64 (jf : Int)) ∧ w'.cell? ⟨pb, po + kf * 3 + 2, none⟩ = some (.slice (some ⟨b1, off1, none⟩) m cap1) ∧ w'.cell? ⟨b1, off1 + jf * 5, none⟩ = some (.int .i64 op) ∧ w'.cell? ⟨b1, off1 + jf * 5 + 1, none⟩ = some (.int .i64 dst) ∧ w'.cell? ⟨b1, off1 + jf * 5 + 2, none⟩ = some (.int .i64 xa) ∧ w'.cell? ⟨b1, off1 + jf * 5 + 3, none⟩ = some (.int .i64 xb) ∧ w'.cell? ⟨b1, off1 + jf * 5 + 4, none⟩ = some (.int .i64 imm)) (go_keep) (fail)
        have HFB : Hid (frB P fs k = (decide (fs.length ≤ k + 1) || (decide (op = 17) && decide (imm = (frOf fs (k + 1)).fn)))) := by
          show _ = _
          unfold frB
          rw [eF, hpb, HXI.out]
          rfl
        clear x0 f0 f1 g2 i0 i1 i2 i3 i4
        try clear hHeld
        have hn63 : (n : Int) ≤ 9223372036854775807 := by omega
        by_cases hn1 : k + 1 < n
        · have hk1 : k + 1 < fs.length := by rw [HL.out]; exact hn1
          obtain ⟨k1, hk1e⟩ : ∃ k1 : Nat, k1 = k + 1 := ⟨_, rfl⟩
          have hwk : IntKind.i64.wrap ((k : Int) + 1) = (k1 : Int) := by rw [wrap_fits _ (by omega) (by omega)]; omega
          have nc := keeps_below BW3 _ _ (HR.out (k + 1) hk1 0 (.int .i64 (frOf fs (k + 1)).fn) (by simp [frCells, frOf, List.getD, List.getElem?_eq_getElem hk1]))
          simp only [Nat.add_zero] at nc
          have qI : (k1 : Int) < n := by omega
          have HD : Hid (decide (fs.length ≤ k + 1) = false) := by show _ = _; simp; omega
          generalize (frOf fs (k + 1)).fn = nf at nc HFB
          rw [← hk1e] at nc
          replace nc := fun o => cell_alloc nc o
          have HK1 : Hid (k1 = k + 1) := hk1e
          clear hk1e hn1
          by_cases ho : op = 17
          · by_cases hi : imm = nf
            · have HF : Hid (frB P fs k = true) := by show _ = _; rw [HFB.out, HD.out]; simp [ho, hi]
              subst ho
              subst hi
              go_wp2
              go_quiet (fail)
              go_wp2
              refine ⟨⟨k + 1, by omega, by rw [HK1.out], fun j hj => (by rcases Nat.lt_or_ge j k with h | h; exact HOK.out j h; obtain rfl : j = k := (by omega); exact HF.out), (by first | exact below_drewN ((HBB.out.trans (HB3.out.mono (by omega))).alloc (by omega) _) _ | exact below_drewN ((HBB.out.trans (HB3.out.mono (by omega))).alloc (by omega) _).drew _)⟩, ?_⟩
              have := HK1.out
              simp [intOf]
              omega
            · have HF : Hid (framesB P fs = false) := framesB_false hkl (by rw [HFB.out, HD.out]; simp [ho, hi])
              have q3 : (imm != nf) = true := by simpa using hi
              subst ho
              go_wp2
              go_quiet (fail)
              go_wp2
              go_ret
              refine ⟨by rw [HF.out]; rfl, ?_⟩
              first | exact below_drewN (BW3.alloc (by omega) _) _ | exact below_drewN (BW3.alloc (by omega) _).drew _
          · have HF : Hid (framesB P fs = false) := framesB_false hkl (by rw [HFB.out, HD.out]; simp [ho])
            have q2 : (op == 17) = false := by simpa using ho
            go_wp2
            go_quiet (fail)
            go_wp2
            go_ret
            refine ⟨by rw [HF.out]; rfl, ?_⟩
            first | exact below_drewN (BW3.alloc (by omega) _) _ | exact below_drewN (BW3.alloc (by omega) _).drew _
        · have HF : Hid (frB P fs k = true) := by
            show _ = _
            rw [HFB.out]
            have : decide (fs.length ≤ k + 1) = true := by simp; rw [HL.out]; omega
            rw [this]; rfl
          have q1 : decide ((k : Int) + 1 < n) = false := by simp; omega
          go_wp2
          go_quiet (fail)
          go_wp2
          go_roundw
          case rel => exact ⟨k + 1, by omega, by go_num, fun j hj => (by rcases Nat.lt_or_ge j k with h | h; exact HOK.out j h; obtain rfl : j = k := (by omega); exact HF.out), (by first | exact below_drewN ((HBB.out.trans (HB3.out.mono (by omega))).alloc (by omega) _) _ | exact below_drewN ((HBB.out.trans (HB3.out.mono (by omega))).alloc (by omega) _).drew _)⟩
          case measure => simp [intOf]; omega
    · obtain rfl : k = n := by omega
      have HT : Hid (framesB P fs = true) := framesB_true (fun j hj => HOK.out j (by rw [HL.out] at hj; exact hj))
      go_wp2
      go_ret
      exact ⟨by rw [HT.out]; rfl, HB.out⟩
end Go.Proofs.YtgdmdlkhnokieaaDoor

/- Contracts of step.barred and step.put. -/
namespace Go.Proofs.YtgdmdlkhnokieaaDoor
open Go Go.RowKit

/-- The status of an instruction that cannot be done with these numbers; 0: it can. -/
def barredI (x : Ins) (a b : Int) : Int := if x.op = 5 then (if b = 0 then 3 else 0) else if x.op = 13 ∨ x.op = 14 then (if a < 0 ∨ 16 ≤ a then 4 else 0) else 0

set_option maxRecDepth 100000 in
theorem barred_any (x : Ins) (a b : Int) (w : World) :
    Calls Tryd.prog 37 #[x.val, .int .i64 a, .int .i64 b] w fun e w' => e = .returned (.int .i64 (barredI x a b)) ∧ Below w.heap.size w w' := by
  obtain ⟨op, dst, xa, xb, imm⟩ := x
  unfold Ins.val barredI
  dsimp only
  have hg : ∀ o, Below w.heap.size w (w.alloc o) := fun o => (Below.refl _ _).alloc (Nat.le_refl _) _
  by_cases h5 : op = 5
  · subst h5
    by_cases hb : b = 0
    · subst hb
      go_enter Tryd.func37, Tryd.ntmps37
      go_wp2
      go_ret
      exact ⟨rfl, hg _⟩
    · rw [if_pos rfl, if_neg hb]
      go_enter Tryd.func37, Tryd.ntmps37
      go_wp2
      go_ret
      exact ⟨rfl, hg _⟩
  · rw [if_neg h5]
    by_cases h13 : op = 13
    · subst h13
      rw [if_pos (Or.inl rfl)]
      by_cases c1 : a < 0
      · rw [if_pos (Or.inl c1)]
        go_enter Tryd.func37, Tryd.ntmps37
        go_wp2
        go_ret
        exact ⟨rfl, hg _⟩
      · by_cases c2 : 16 ≤ a
        · rw [if_pos (Or.inr c2)]
          go_enter Tryd.func37, Tryd.ntmps37
          go_wp2
          go_ret
          exact ⟨rfl, hg _⟩
        · rw [if_neg (by omega)]
          go_enter Tryd.func37, Tryd.ntmps37
          go_wp2
          go_ret
          exact ⟨rfl, hg _⟩
    · by_cases h14 : op = 14
      · subst h14
        rw [if_pos (Or.inr rfl)]
        by_cases c1 : a < 0
        · rw [if_pos (Or.inl c1)]
          go_enter Tryd.func37, Tryd.ntmps37
          go_wp2
          go_ret
          exact ⟨rfl, hg _⟩
        · by_cases c2 : 16 ≤ a
          · rw [if_pos (Or.inr c2)]
            go_enter Tryd.func37, Tryd.ntmps37
            go_wp2
            go_ret
            exact ⟨rfl, hg _⟩
          · rw [if_neg (by omega)]
            go_enter Tryd.func37, Tryd.ntmps37
            go_wp2
            go_ret
            exact ⟨rfl, hg _⟩
      · rw [if_neg (by omega)]
        go_enter Tryd.func37, Tryd.ntmps37
        go_wp2
        go_ret
        exact ⟨rfl, hg _⟩

theorem cell_set_same_block {w : World} {g i j : Nat} {cur : Array Value} {t : TypeId} (hg : w.heap[g]? = some (.cells cur t (0, 0))) (u : Value) (h : i ≠ j) : (w.setCell ⟨g, i, none⟩ u).cell? ⟨g, j, none⟩ = w.cell? ⟨g, j, none⟩ := by
  rw [cell_of_row _ _ _ _ _ _ (heap_setCell_same _ _ _ _ _ _ hg), cell_of_row _ _ _ _ _ _ hg, Array.getElem?_setIfInBounds, if_neg h]

set_option maxRecDepth 100000 in
/-- put: the register, then the place. -/
theorem put_any (g off r : Nat) (pc v : Int) (w : World) {cur : Array Value} {t : TypeId} (hg : w.heap[g]? = some (.cells cur t (0, 0))) (hs : off + 14 ≤ cur.size) (hr : r < 12) (hp : w.cell? ⟨g, off + 1, none⟩ = some (.int .i64 pc)) (p0 : 0 ≤ pc) (p1 : pc ≤ 1000000) :
    Calls Tryd.prog 50 #[.pointer (some ⟨g, off, none⟩), .int .i64 r, .int .i64 v] w fun e w' => e = .returned (.tuple #[]) ∧ w' = (w.setCell ⟨g, off + 2 + r, none⟩ (.int .i64 v)).setCell ⟨g, off + 1, none⟩ (.int .i64 (pc + 1)) := by
  obtain ⟨u, hu⟩ : ∃ u, w.cell? ⟨g, off + 2 + r, none⟩ = some u := by
    rw [cell_of_row _ _ _ _ _ _ hg]
    exact ⟨_, Array.getElem?_eq_getElem (by omega)⟩
  have f1 : w.frozen? ⟨g, off + 2 + r, none⟩ = false := frozen_of_row _ _ _ _ _ hg
  have q : (w.setCell ⟨g, off + 2 + r, none⟩ (.int .i64 v)).cell? ⟨g, off + 1, none⟩ = some (.int .i64 pc) := by rw [cell_set_same_block hg _ (by omega)]; exact hp
  have f2 : (w.setCell ⟨g, off + 2 + r, none⟩ (.int .i64 v)).frozen? ⟨g, off + 1, none⟩ = false := frozen_of_row _ _ _ _ _ (heap_setCell_same _ _ _ _ _ _ hg)
  have hrI : (r : Int) < 12 := by omega
  clear hg hs hp
  go_enter Tryd.func50, Tryd.ntmps50
  go_wp2
  go_end0
  exact ⟨rfl, rfl⟩
end Go.Proofs.YtgdmdlkhnokieaaDoor

/- Contract of step.own: a state in memory of the call's own. -/
namespace Go.Proofs.YtgdmdlkhnokieaaDoor
open Go Go.RowKit

theorem stCells_set2 (s : St) (fv ev av u : Value) : (stCells s fv ev av).toArray.setIfInBounds 2 u = (stCells s u ev av).toArray := by
  rw [List.setIfInBounds_toArray]; rfl
theorem stCells_set5 (s : St) (fv ev av u : Value) (hm : s.mem.length = 16) : (stCells s fv ev av).toArray.setIfInBounds 20 u = (stCells s fv u av).toArray := by
  rw [List.setIfInBounds_toArray]
  congr 1
  unfold stCells
  rw [List.set_append_right _ _ (by simp [i64s, hm])]
  simp [i64s, hm]
theorem stCells_set6 (s : St) (fv ev av u : Value) (hm : s.mem.length = 16) : (stCells s fv ev av).toArray.setIfInBounds 21 u = (stCells s fv ev u).toArray := by
  rw [List.setIfInBounds_toArray]
  congr 1
  unfold stCells
  rw [List.set_append_right _ _ (by simp [i64s, hm])]
  simp [i64s, hm]
theorem stCells_get (s : St) (fv ev av : Value) (hm : s.mem.length = 16) : (stCells s fv ev av).toArray[2]? = some fv ∧ (stCells s fv ev av).toArray[20]? = some ev ∧ (stCells s fv ev av).toArray[21]? = some av := by
  refine ⟨rfl, ?_, ?_⟩
  · rw [List.getElem?_toArray]; unfold stCells; rw [List.getElem?_append_right (by simp [i64s, hm])]; simp [i64s, hm]
  · rw [List.getElem?_toArray]; unfold stCells; rw [List.getElem?_append_right (by simp [i64s, hm])]; simp [i64s, hm]

/-- A state whose lists are rows of the call's own, each a block by itself. -/
structure OwnState (w : World) (base : Nat) (v : Value) (s : St) (fv ev av : Value) : Prop where
  val : v = .agg (stCells s fv ev av).toArray
  mem : s.mem.length = 16
  wf : FrsWf s.frames
  frames : w.ownsRow base 45 14 fv s.frames.length (framesCells s.frames)
  events : w.ownsRow base 3 1 ev s.events.length (i64s s.events)
  answers : w.ownsRow base 3 1 av s.answers.length (i64s s.answers)
  apart : ev.ownBlock = none ∨ av.ownBlock = none ∨ ev.ownBlock ≠ av.ownBlock
theorem ownsRow_mono {w : World} {base base' t size n : Nat} {v : Value} {xs : List Value} (h : w.ownsRow base t size v n xs) (hb : base' ≤ base) : w.ownsRow base' t size v n xs := by
  refine ⟨h.1, ?_⟩
  rcases h.2 with h2 | ⟨g, cap, cur, hv, hg, r⟩
  · exact .inl h2
  · exact .inr ⟨g, cap, cur, hv, by omega, r⟩
theorem own_new {w : World} {base t size n : Nat} {v : Value} {xs : List Value} (h : w.ownsRow base t size v n xs) (k : Nat) (hk : v.ownBlock = some k) : base ≤ k := by
  rcases h.2 with ⟨rfl, _⟩ | ⟨g, cap, cur, rfl, hg, _⟩
  · simp [Value.ownBlock] at hk
  · simp [Value.ownBlock] at hk; omega

set_option maxRecDepth 100000 in
set_option maxHeartbeats 2000000 in
theorem own_any (s : St) (v : Value) (w : World) (hv : StVal w v s) (h1 : s.frames.length * 112 ≤ 140737488355328) (h2 : s.events.length * 8 ≤ 140737488355328) (h3 : s.answers.length * 8 ≤ 140737488355328) :
    Calls Tryd.prog 19 #[v] w fun e w' => ∃ v' fv ev av, e = .returned v' ∧ OwnState w' w.heap.size v' s fv ev av ∧ Below w.heap.size w w' := by
  obtain ⟨fv, ev, av, rfl, hm, hf, he, ha⟩ := hv
  obtain ⟨fa, fc, rfl⟩ := hf.shape
  obtain ⟨ea, ec, rfl⟩ := he.shape
  obtain ⟨aa, ac, rfl⟩ := ha.shape
  have HWF : Hid (FrsWf s.frames) := hf.1
  have hbx : ∀ o o', Below w.heap.size w ((w.alloc o).alloc o') := fun o o' => ((Below.refl _ _).alloc (Nat.le_refl _) _).alloc (by simp) _
  have HF : Hid (∀ W, Below w.heap.size w W → FramesVal W (.slice fa s.frames.length fc) s.frames ∧ IntsVal W (.slice ea s.events.length ec) s.events ∧ IntsVal W (.slice aa s.answers.length ac) s.answers) := fun W hW => ⟨hf.keeps (keeps_below hW), he.keeps (keeps_below hW), ha.keeps (keeps_below hW)⟩
  obtain ⟨g2, g20, g21⟩ := stCells_get s (.slice fa s.frames.length fc) (.slice ea s.events.length ec) (.slice aa s.answers.length ac) hm
  have HM : Hid (s.mem.length = 16) := hm
  obtain ⟨cs, hcs⟩ : ∃ cs, cs = (stCells s (.slice fa s.frames.length fc) (.slice ea s.events.length ec) (.slice aa s.answers.length ac)).toArray := ⟨_, rfl⟩
  have HCS : Hid (cs = (stCells s (.slice fa s.frames.length fc) (.slice ea s.events.length ec) (.slice aa s.answers.length ac)).toArray) := hcs
  rw [← hcs] at g2 g20 g21
  rw [← hcs]
  clear hf he ha hm hcs
  go_enter Tryd.func19, Tryd.ntmps19
  go_upto_region 2 with (go_at_call 34; refine (clone_frames _ s.frames _ (HF.out _ (hbx _ _)).1 h1).mono ?_; rintro e w1 ⟨v1, rfl, ho1, hb1⟩; obtain ⟨a1, c1, rfl⟩ := own_shape ho1; have h8 : w1.heap[w.heap.size]? = some (.cells cs 34 (0, 0)) := (hb1.block _ (by simp; omega)).trans (heap_alloc2_old _ _ _); have x2 : w1.cell? ⟨w.heap.size, 2, none⟩ = some (.slice fa s.frames.length fc) := (by rw [cell_of_row _ _ _ _ _ _ h8]; exact g2); have y2 : w1.frozen? ⟨w.heap.size, 2, none⟩ = false := frozen_of_row _ _ _ _ _ h8)
  have z1 : w.heap.size + 2 ≤ w1.heap.size := by have := hb1.size; simpa using this
  have BW1 : Below w.heap.size w (w1.setCell ⟨w.heap.size, 2, none⟩ (.slice a1 s.frames.length c1)) := ((hbx _ _).trans (hb1.mono (by simp; omega))).setCell (Nat.le_refl _) _
  have R1 : (w1.setCell ⟨w.heap.size, 2, none⟩ (.slice a1 s.frames.length c1)).ownsRow (w.heap.size + 2) 45 14 (.slice a1 s.frames.length c1) s.frames.length (framesCells s.frames) := ownsRow_setCell_below (ownsRow_mono ho1 (by simp)) (by simp) _
  have Z1 : (w1.setCell ⟨w.heap.size, 2, none⟩ (.slice a1 s.frames.length c1)).heap[w.heap.size + 1]? = some (.cells zeroStCells 34 (0, 0)) := by
    rw [heap_setCell_other _ _ _ _ (by simp)]
    exact (hb1.block _ (by simp)).trans (heap_alloc2_new _ _ _)
  have S1 : (w1.setCell ⟨w.heap.size, 2, none⟩ (.slice a1 s.frames.length c1)).heap[w.heap.size]? = some (.cells (stCells s (.slice a1 s.frames.length c1) (.slice ea s.events.length ec) (.slice aa s.answers.length ac)).toArray 34 (0, 0)) := by
    rw [heap_setCell_same _ _ _ _ _ _ h8, HCS.out, stCells_set2]
  have zz1 : w.heap.size + 2 ≤ (w1.setCell ⟨w.heap.size, 2, none⟩ (.slice a1 s.frames.length c1)).heap.size := by simpa using z1
  generalize w1.setCell ⟨w.heap.size, 2, none⟩ (.slice a1 s.frames.length c1) = W1 at BW1 R1 Z1 S1 zz1
  clear x2 y2 h8 ho1 hb1 z1 hbx g2 g20 g21 w1 HCS
  obtain ⟨p2, p20, p21⟩ := stCells_get s (.slice a1 s.frames.length c1) (.slice ea s.events.length ec) (.slice aa s.answers.length ac) HM.out
  have x20 : W1.cell? ⟨w.heap.size, 20, none⟩ = some (.slice ea s.events.length ec) := by rw [cell_of_row _ _ _ _ _ _ S1]; exact p20
  go_upto_region 3 with (go_at_call 35; refine (clone_ints _ s.events _ (HF.out _ BW1).2.1 h2).mono ?_; rintro e w2 ⟨v2, rfl, ho2, hb2⟩; obtain ⟨a2, c2, rfl⟩ := own_shape ho2; have h8 : w2.heap[w.heap.size]? = some (.cells (stCells s (.slice a1 s.frames.length c1) (.slice ea s.events.length ec) (.slice aa s.answers.length ac)).toArray 34 (0, 0)) := (hb2.block _ (by omega)).trans S1; have x2 : w2.cell? ⟨w.heap.size, 20, none⟩ = some (.slice ea s.events.length ec) := (by rw [cell_of_row _ _ _ _ _ _ h8]; exact p20); have y2 : w2.frozen? ⟨w.heap.size, 20, none⟩ = false := frozen_of_row _ _ _ _ _ h8)
  have z2 : w.heap.size + 2 ≤ w2.heap.size := by have := hb2.size; omega
  have BW2 : Below w.heap.size w (w2.setCell ⟨w.heap.size, 20, none⟩ (.slice a2 s.events.length c2)) := (BW1.trans (hb2.mono (by omega))).setCell (Nat.le_refl _) _
  have R2 : (w2.setCell ⟨w.heap.size, 20, none⟩ (.slice a2 s.events.length c2)).ownsRow (w.heap.size + 2) 45 14 (.slice a1 s.frames.length c1) s.frames.length (framesCells s.frames) := ownsRow_setCell_below (ownsRow_below R1 hb2) (by simp) _
  have E2 : (w2.setCell ⟨w.heap.size, 20, none⟩ (.slice a2 s.events.length c2)).ownsRow (w.heap.size + 2) 3 1 (.slice a2 s.events.length c2) s.events.length (i64s s.events) := ownsRow_setCell_below (ownsRow_mono ho2 zz1) (by simp) _
  have Z2 : (w2.setCell ⟨w.heap.size, 20, none⟩ (.slice a2 s.events.length c2)).heap[w.heap.size + 1]? = some (.cells zeroStCells 34 (0, 0)) := by
    rw [heap_setCell_other _ _ _ _ (by simp)]
    exact (hb2.block _ (by omega)).trans Z1
  have S2 : (w2.setCell ⟨w.heap.size, 20, none⟩ (.slice a2 s.events.length c2)).heap[w.heap.size]? = some (.cells (stCells s (.slice a1 s.frames.length c1) (.slice a2 s.events.length c2) (.slice aa s.answers.length ac)).toArray 34 (0, 0)) := by
    rw [heap_setCell_same _ _ _ _ _ _ h8, stCells_set5 _ _ _ _ _ HM.out]
  have zz2 : w.heap.size + 2 ≤ (w2.setCell ⟨w.heap.size, 20, none⟩ (.slice a2 s.events.length c2)).heap.size := by simpa using z2
  generalize w2.setCell ⟨w.heap.size, 20, none⟩ (.slice a2 s.events.length c2) = W2 at BW2 R2 E2 Z2 S2 zz2
  clear x2 y2 h8 ho2 hb2 z2 x20 p2 p20 p21 w2 R1 Z1 S1 zz1 BW1 W1
  obtain ⟨p2, p20, p21⟩ := stCells_get s (.slice a1 s.frames.length c1) (.slice a2 s.events.length c2) (.slice aa s.answers.length ac) HM.out
  have x21 : W2.cell? ⟨w.heap.size, 21, none⟩ = some (.slice aa s.answers.length ac) := by rw [cell_of_row _ _ _ _ _ _ S2]; exact p21
  go_upto_region 4 with (go_at_call 35; refine (clone_ints _ s.answers _ (HF.out _ BW2).2.2 h3).mono ?_; rintro e w3 ⟨v3, rfl, ho3, hb3⟩; obtain ⟨a3, c3, rfl⟩ := own_shape ho3; have h8 : w3.heap[w.heap.size]? = some (.cells (stCells s (.slice a1 s.frames.length c1) (.slice a2 s.events.length c2) (.slice aa s.answers.length ac)).toArray 34 (0, 0)) := (hb3.block _ (by omega)).trans S2; have x2 : w3.cell? ⟨w.heap.size, 21, none⟩ = some (.slice aa s.answers.length ac) := (by rw [cell_of_row _ _ _ _ _ _ h8]; exact p21); have y2 : w3.frozen? ⟨w.heap.size, 21, none⟩ = false := frozen_of_row _ _ _ _ _ h8)
  have z3 : w.heap.size + 2 ≤ w3.heap.size := by have := hb3.size; omega
  have BW3 : Below w.heap.size w (w3.setCell ⟨w.heap.size, 21, none⟩ (.slice a3 s.answers.length c3)) := (BW2.trans (hb3.mono (by omega))).setCell (Nat.le_refl _) _
  have R3 : (w3.setCell ⟨w.heap.size, 21, none⟩ (.slice a3 s.answers.length c3)).ownsRow (w.heap.size + 2) 45 14 (.slice a1 s.frames.length c1) s.frames.length (framesCells s.frames) := ownsRow_setCell_below (ownsRow_below R2 hb3) (by simp) _
  have E3 : (w3.setCell ⟨w.heap.size, 21, none⟩ (.slice a3 s.answers.length c3)).ownsRow (w.heap.size + 2) 3 1 (.slice a2 s.events.length c2) s.events.length (i64s s.events) := ownsRow_setCell_below (ownsRow_below E2 hb3) (by simp) _
  have A3 : (w3.setCell ⟨w.heap.size, 21, none⟩ (.slice a3 s.answers.length c3)).ownsRow (w.heap.size + 2) 3 1 (.slice a3 s.answers.length c3) s.answers.length (i64s s.answers) := ownsRow_setCell_below (ownsRow_mono ho3 zz2) (by simp) _
  have AP : (Value.slice a2 s.events.length c2).ownBlock = none ∨ (Value.slice a3 s.answers.length c3).ownBlock = none ∨ (Value.slice a2 s.events.length c2).ownBlock ≠ (Value.slice a3 s.answers.length c3).ownBlock := by
    cases hx : (Value.slice a2 s.events.length c2).ownBlock with
    | none => exact .inl rfl
    | some k =>
      right; right
      intro e
      have h4 := own_new ho3 k e.symm
      have h5 := (E2.lt k hx).2
      omega
  have Z3 : (w3.setCell ⟨w.heap.size, 21, none⟩ (.slice a3 s.answers.length c3)).heap[w.heap.size + 1]? = some (.cells zeroStCells 34 (0, 0)) := by
    rw [heap_setCell_other _ _ _ _ (by simp)]
    exact (hb3.block _ (by omega)).trans Z2
  have S3 : (w3.setCell ⟨w.heap.size, 21, none⟩ (.slice a3 s.answers.length c3)).heap[w.heap.size]? = some (.cells (stCells s (.slice a1 s.frames.length c1) (.slice a2 s.events.length c2) (.slice a3 s.answers.length c3)).toArray 34 (0, 0)) := by
    rw [heap_setCell_same _ _ _ _ _ _ h8, stCells_set6 _ _ _ _ _ HM.out]
  generalize (w3.setCell ⟨w.heap.size, 21, none⟩ (.slice a3 s.answers.length c3)) = W3 at BW3 R3 E3 A3 Z3 S3
  have hl := stCells_length s (.slice a1 s.frames.length c1) (.slice a2 s.events.length c2) (.slice a3 s.answers.length c3) HM.out
  have hsi : (Tryd.prog.info? 34).map (·.size) = some (stCells s (.slice a1 s.frames.length c1) (.slice a2 s.events.length c2) (.slice a3 s.answers.length c3)).toArray.size := by rw [List.size_toArray, hl]; exact infoSt
  have hold : zeroStCells.size = (stCells s (.slice a1 s.frames.length c1) (.slice a2 s.events.length c2) (.slice a3 s.answers.length c3)).toArray.size := (show zeroStCells.size = 22 from rfl).trans (by rw [List.size_toArray, hl])
  have hone : (stCells s (.slice a1 s.frames.length c1) (.slice a2 s.events.length c2) (.slice a3 s.answers.length c3)).toArray.all (·.oneCell') = true := stCells_one _ _ _ _ rfl rfl rfl
  clear x2 y2 h8 ho3 hb3 z3 x21 p2 p20 p21 w3 R2 Z2 S2 zz2 BW2 W2 E2 hl
  go_wp2_with (first
    | (refine wpList_load_row rfl _ _ rfl _ rfl _ _ _ _ S3 Tryd.underlying34 rfl hsi ?_)
    | (refine wpList_store_row rfl _ _ _ rfl _ _ rfl rfl _ _ Z3 hsi hold hone ?_))
  refine bodyPost_ret (results_cell_row rfl _ _ (w.heap.size + 1) 34 (stCells s (.slice a1 s.frames.length c1) (.slice a2 s.events.length c2) (.slice a3 s.answers.length c3)).toArray (0, 0) _ rfl (setRow_heap _ _ _ _ _ _ Z3) Tryd.underlying34 rfl hsi) rfl ⟨_, _, _, _, rfl, ⟨rfl, HM.out, HWF.out, ownsRow_mono (ownsRow_setRow R3 (by omega) _) (by omega), ownsRow_mono (ownsRow_setRow E3 (by omega) _) (by omega), ownsRow_mono (ownsRow_setRow A3 (by omega) _) (by omega), AP⟩, below_setRow BW3 (by omega) _⟩
end Go.Proofs.YtgdmdlkhnokieaaDoor

/- What a step does, as plain data; no program is walked here. -/
namespace Go.Proofs.YtgdmdlkhnokieaaDoor
open Go Go.RowKit

def fnD (P : List Fn) (k : Int) : Fn := P.getD k.toNat ⟨0, 0, []⟩
/-- The instruction at a frame's place. -/
def insOfFr (P : List Fn) (f : Fr) : Ins := insD (fnD P f.fn) f.pc.toNat
def regD (f : Fr) (r : Int) : Int := f.regs.getD r.toNat 0
/-- A number is put into a register, and the frame goes on. -/
def putF (f : Fr) (r v : Int) : Fr := ⟨f.fn, f.pc + 1, f.regs.set r.toNat v⟩
/-- The frames behind a return, and whether it was the last one. -/
def retS (P : List Fn) (S : St) (fs : List Fr) (a : Int) : St :=
  match fs.getLast? with
  | none => { S with frames := [], status := 1, value := a }
  | some h => { S with frames := fs.dropLast ++ [putF h (insOfFr P h).dst a] }
/-- What an instruction of the last frame does, where it is not barred. -/
def doS (P : List Fn) (S : St) (fs : List Fr) (f : Fr) (x : Ins) : St :=
  if x.op = 13 then { S with frames := fs ++ [putF f x.dst (S.mem.getD (regD f x.a).toNat 0)] }
  else if x.op = 14 then { S with mem := S.mem.set (regD f x.a).toNat (regD f x.b), frames := fs ++ [⟨f.fn, f.pc + 1, f.regs⟩] }
  else if x.op = 15 then { S with frames := fs ++ [⟨f.fn, x.imm, f.regs⟩] }
  else if x.op = 16 then { S with frames := fs ++ [⟨f.fn, if regD f x.a = 0 then f.pc + 1 else x.imm, f.regs⟩] }
  else if x.op = 17 then (if fs.length + 1 = 8 then { S with status := 5 } else { S with frames := fs ++ [f, begunFr x.imm ([regD f x.a, regD f x.b].take (fnD P x.imm).params.toNat)] })
  else if x.op = 18 then { S with events := S.events ++ [regD f x.a], answers := S.answers.tail, frames := fs ++ [putF f x.dst (S.answers.headD 0)] }
  else if x.op = 19 then retS P S fs (regD f x.a)
  else { S with frames := fs ++ [putF f x.dst (mk x.op (regD f x.a) (regD f x.b) x.imm)] }
/-- A step of a state that is running. -/
def stepS (P : List Fn) (S : St) : St :=
  if S.fuel = 0 then { S with status := 2 }
  else match S.frames.getLast? with
    | none => S
    | some f =>
      if barredI (insOfFr P f) (regD f (insOfFr P f).a) (regD f (insOfFr P f).b) = 0 then doS P { S with fuel := S.fuel - 1, status := 0 } S.frames.dropLast f (insOfFr P f)
      else { S with status := barredI (insOfFr P f) (regD f (insOfFr P f).a) (regD f (insOfFr P f).b) }
/-- So many steps; a state that is not running stays. -/
def walkS (P : List Fn) : Nat → St → St
  | 0, S => S
  | n + 1, S => if S.status = 0 then walkS P n (stepS P S) else S
theorem walkS_stays (P : List Fn) (n : Nat) (S : St) (h : S.status ≠ 0) : walkS P n S = S := by
  cases n with
  | zero => rfl
  | succ n => rw [walkS, if_neg h]
theorem walkS_add (P : List Fn) (m n : Nat) (S : St) : walkS P (m + n) S = walkS P n (walkS P m S) := by
  induction m generalizing S with
  | zero => simp [walkS]
  | succ m ih =>
    rw [show m + 1 + n = (m + n) + 1 by omega]
    by_cases h : S.status = 0
    · rw [walkS, if_pos h, ih, walkS, if_pos h]
    · rw [walkS, if_neg h, walkS, if_neg h, walkS_stays P n S h]
theorem retS_fuel (P : List Fn) (S : St) (fs : List Fr) (a : Int) : (retS P S fs a).fuel = S.fuel := by
  unfold retS; split <;> rfl
theorem doS_fuel (P : List Fn) (S : St) (fs : List Fr) (f : Fr) (x : Ins) : (doS P S fs f x).fuel = S.fuel := by
  unfold doS
  repeat' split
  all_goals first | rfl | exact retS_fuel _ _ _ _
/-- A step takes one from the fuel, or the state runs no more and has kept it. -/
theorem stepS_fuel (P : List Fn) (S : St) (hf : S.frames ≠ []) : ((stepS P S).fuel = S.fuel - 1 ∧ S.fuel ≠ 0) ∨ ((stepS P S).fuel = S.fuel ∧ (stepS P S).status ≠ 0) := by
  unfold stepS
  by_cases h0 : S.fuel = 0
  · rw [if_pos h0]; exact Or.inr ⟨rfl, by show (2 : Int) ≠ 0; decide⟩
  rw [if_neg h0]
  cases hl : S.frames.getLast? with
  | none => exact absurd (List.getLast?_eq_none_iff.1 hl) hf
  | some f =>
    dsimp only
    by_cases hb : barredI (insOfFr P f) (regD f (insOfFr P f).a) (regD f (insOfFr P f).b) = 0
    · rw [if_pos hb]; exact Or.inl ⟨doS_fuel _ _ _ _ _, h0⟩
    · rw [if_neg hb]; exact Or.inr ⟨rfl, hb⟩
theorem retS_events (P : List Fn) (S : St) (fs : List Fr) (a : Int) : (retS P S fs a).events = S.events := by
  unfold retS; split <;> rfl
/-- Events grow at their end. -/
theorem stepS_events (P : List Fn) (S : St) : ∃ l, (stepS P S).events = S.events ++ l := by
  unfold stepS
  by_cases h0 : S.fuel = 0
  · rw [if_pos h0]; exact ⟨[], by simp⟩
  rw [if_neg h0]
  cases S.frames.getLast? with
  | none => exact ⟨[], by simp⟩
  | some f =>
    dsimp only
    split
    · unfold doS
      repeat' split
      all_goals first
        | exact ⟨[], (List.append_nil _).symm⟩
        | exact ⟨[regD f (insOfFr P f).a], rfl⟩
        | exact ⟨[], (retS_events _ _ _ _).trans (List.append_nil _).symm⟩
    · exact ⟨[], by simp⟩
end Go.Proofs.YtgdmdlkhnokieaaDoor

/- Runs stay at places that are reached: plain mathematics; no program is walked here. -/
namespace Go.Proofs.YtgdmdlkhnokieaaDoor
open Go Go.RowKit

/-- Frames that may be. -/
structure FOk (P : List Fn) (fs : List Fr) : Prop where
  place : ∀ f ∈ fs, placeB P f = true
  calls : ∀ (k : Nat) (f h : Fr), fs[k]? = some f → fs[k + 1]? = some h → (insOfFr P f).op = 17 ∧ (insOfFr P f).imm = h.fn
theorem frOf_get {fs : List Fr} {k : Nat} (h : k < fs.length) : frOf fs k = fs[k] := by simp [frOf, List.getD, h]
theorem insAtFr_eq (P : List Fn) (f : Fr) : insAtFr P f = insOfFr P f := rfl
theorem framesB_iff (P : List Fn) (fs : List Fr) : framesB P fs = true ↔ FOk P fs := by
  unfold framesB
  rw [List.all_eq_true]
  constructor
  · intro h
    have hk : ∀ k, k < fs.length → frB P fs k = true := fun k hk => h k (List.mem_range.2 hk)
    refine ⟨fun f hf => ?_, fun k f g h1 h2 => ?_⟩
    · obtain ⟨k, hkl, rfl⟩ := List.getElem_of_mem hf
      have := hk k hkl
      unfold frB at this
      rw [frOf_get hkl, Bool.and_eq_true] at this
      exact this.1
    · obtain ⟨hl, rfl⟩ := List.getElem?_eq_some_iff.1 h1
      obtain ⟨hl2, rfl⟩ := List.getElem?_eq_some_iff.1 h2
      have := hk k hl
      unfold frB at this
      rw [frOf_get hl, frOf_get hl2, insAtFr_eq, Bool.and_eq_true] at this
      have h3 := this.2
      rw [show decide (fs.length ≤ k + 1) = false by simp; omega, Bool.false_or, Bool.and_eq_true] at h3
      exact ⟨by simpa using h3.1, by simpa using h3.2⟩
  · intro h k hk
    have hkl := List.mem_range.1 hk
    unfold frB
    rw [frOf_get hkl, Bool.and_eq_true]
    refine ⟨h.place _ (List.getElem_mem hkl), ?_⟩
    by_cases hl : fs.length ≤ k + 1
    · simp [hl]
    · have hl2 : k + 1 < fs.length := by omega
      have := h.calls k _ _ (List.getElem?_eq_getElem hkl) (List.getElem?_eq_getElem hl2)
      rw [frOf_get hl2, insAtFr_eq, Bool.or_eq_true, Bool.and_eq_true]
      exact Or.inr ⟨by simpa using this.1, by simpa using this.2⟩
theorem fok_nil (P : List Fn) : FOk P [] := ⟨fun f h => by simp at h, fun k f h e => by simp at e⟩
theorem fok_snoc (P : List Fn) (fs : List Fr) (f : Fr) : FOk P (fs ++ [f]) ↔ FOk P fs ∧ placeB P f = true ∧ ∀ g, fs.getLast? = some g → (insOfFr P g).op = 17 ∧ (insOfFr P g).imm = f.fn := by
  constructor
  · intro h
    refine ⟨⟨fun g hg => h.place g (List.mem_append_left _ hg), fun k a b ha hb => ?_⟩, h.place f (by simp), fun g hg => ?_⟩
    · obtain ⟨l1, _⟩ := List.getElem?_eq_some_iff.1 ha
      obtain ⟨l2, _⟩ := List.getElem?_eq_some_iff.1 hb
      exact h.calls k a b (by rw [List.getElem?_append_left l1]; exact ha) (by rw [List.getElem?_append_left l2]; exact hb)
    · rw [List.getLast?_eq_getElem?] at hg
      obtain ⟨l1, _⟩ := List.getElem?_eq_some_iff.1 hg
      refine h.calls (fs.length - 1) g f (by rw [List.getElem?_append_left l1]; exact hg) ?_
      rw [show fs.length - 1 + 1 = fs.length by omega, List.getElem?_append_right (Nat.le_refl _)]
      simp
  · rintro ⟨h1, h2, h3⟩
    refine ⟨fun g hg => ?_, fun k a b ha hb => ?_⟩
    · rcases List.mem_append.1 hg with hg | hg
      · exact h1.place g hg
      · rw [List.mem_singleton.1 hg]; exact h2
    · obtain ⟨l2, _⟩ := List.getElem?_eq_some_iff.1 hb
      simp only [List.length_append, List.length_cons, List.length_nil] at l2
      rw [List.getElem?_append_left (by omega)] at ha
      by_cases hk : k + 1 < fs.length
      · rw [List.getElem?_append_left hk] at hb
        exact h1.calls k a b ha hb
      · have hk2 : k + 1 = fs.length := by omega
        rw [hk2, List.getElem?_append_right (Nat.le_refl _)] at hb
        obtain rfl : f = b := by simpa using hb
        exact h3 a (by rw [List.getLast?_eq_getElem?, show fs.length - 1 = k by omega]; exact ha)
theorem FOk.swap {P : List Fn} {fs : List Fr} {f f' : Fr} (h : FOk P (fs ++ [f])) (he : f'.fn = f.fn) (hp : placeB P f' = true) : FOk P (fs ++ [f']) := by
  obtain ⟨h1, _, h3⟩ := (fok_snoc _ _ _).1 h
  exact (fok_snoc _ _ _).2 ⟨h1, hp, fun g hg => by rw [he]; exact h3 g hg⟩
theorem FOk.push {P : List Fn} {fs : List Fr} {f g : Fr} (h : FOk P (fs ++ [f])) (h1 : (insOfFr P f).op = 17) (h2 : (insOfFr P f).imm = g.fn) (hp : placeB P g = true) : FOk P (fs ++ [f, g]) := by
  have e : fs ++ [f, g] = (fs ++ [f]) ++ [g] := by simp
  rw [e]
  refine (fok_snoc _ _ _).2 ⟨h, hp, fun a ha => ?_⟩
  have : a = f := by simpa using ha.symm
  subst this
  exact ⟨h1, h2⟩

/-- A frame's place as numbers. -/
theorem place_nat {P : List Fn} {f : Fr} (h : placeB P f = true) : ∃ (k j : Nat) (hk : k < P.length) (hj : j < P[k].code.length), f.fn = k ∧ f.pc = j ∧ fnD P f.fn = P[k] ∧ insOfFr P f = P[k].code[j] := by
  unfold placeB at h
  simp only [decide_eq_true_eq] at h
  obtain ⟨p0, p1, p2, p3⟩ := h
  obtain ⟨k, hk⟩ := Int.eq_ofNat_of_zero_le p0
  obtain ⟨j, hj⟩ := Int.eq_ofNat_of_zero_le p2
  have hkl : k < P.length := by omega
  have e : P.getD f.fn.toNat ⟨0, 0, []⟩ = P[k] := by rw [hk]; simp [List.getD, hkl]
  rw [e] at p3
  have hjl : j < P[k].code.length := by omega
  refine ⟨k, j, hkl, hjl, hk, hj, e, ?_⟩
  unfold insOfFr fnD
  rw [e, hj]
  exact insD_eq hjl
theorem place_of {P : List Fn} {k j : Nat} (hk : k < P.length) (hj : j < P[k].code.length) (l : List Int) : placeB P ⟨k, j, l⟩ = true := by
  unfold placeB
  simp only [decide_eq_true_eq]
  have e : P.getD (k : Int).toNat ⟨0, 0, []⟩ = P[k] := by simp [List.getD, hk]
  rw [e]
  omega
theorem place_ins {P : List Fn} (hc : codeProg P = 0) {f : Fr} (h : placeB P f = true) : InsOk P (insOfFr P f) := by
  obtain ⟨k, j, hk, hj, _, _, _, e⟩ := place_nat h
  rw [e]
  exact insOk_of hc (List.getElem_mem hk) (List.getElem_mem hj)

/-- On from a place that is reached. -/
theorem way_on {P : List Fn} (h : ProofAns P 0) {k : Nat} (hk : k < P.length) {j q : Nat} (hj : j < P[k].code.length) (hw : Way P[k] 63 j) (ht : q ∈ behind P[k].code[j] j) : Way P[k] 63 q ∧ q < P[k].code.length := by
  have hc := right_code h
  have hf := List.getElem_mem hk
  obtain ⟨ok, hi⟩ := fnOk_of hc hf
  have hx := (hi _ (List.getElem_mem hj)).1
  have hw2 : Way P[k] 63 q := Way.step hj hw (by rw [insD_eq hj]; exact set_high _ hx.dst0 hx.dst1) (by rw [insD_eq hj]; exact ht)
  refine ⟨hw2, ?_⟩
  have h1 := ok.goes j hj q (by rw [insD_eq hj]; exact ht)
  obtain ⟨L, _, _, hn⟩ := right_fn h hf
  rcases Nat.lt_or_ge q P[k].code.length with h2 | h2
  · exact h2
  · obtain rfl : q = P[k].code.length := by omega
    exact absurd hw2 hn

/-- Is a frame at a reached place? -/
def ReachFr (P : List Fn) (f : Fr) : Prop := Way (fnD P f.fn) 63 f.pc.toNat
/-- What holds of a state all along a run. -/
structure RunInv (P : List Fn) (S : St) : Prop where
  may : mayB S = true
  fok : FOk P S.frames
  reach : ∀ f ∈ S.frames, ReachFr P f
  wf : FrsWf S.frames
  mem : S.mem.length = 16

theorem mayB_iff (s : St) : mayB s = true ↔ (0 ≤ s.status ∧ s.status ≤ 5 ∧ 0 ≤ s.fuel ∧ s.fuel ≤ 10000 ∧ s.frames.length ≤ 8 ∧ s.answers.length ≤ 100 ∧ (s.status = 1 ↔ s.frames.length = 0) ∧ (s.status = 1 ∨ s.value = 0)) := by
  unfold mayB; simp only [decide_eq_true_eq]

/-- A frame of the same function that goes on to a place behind. -/
theorem goes_on {P : List Fn} (h : ProofAns P 0) {f : Fr} (hp : placeB P f = true) (hr : ReachFr P f) {f' : Fr} (e1 : f'.fn = f.fn) (q : Nat) (e2 : f'.pc = q) (ht : q ∈ behind (insOfFr P f) f.pc.toNat) : placeB P f' = true ∧ ReachFr P f' := by
  obtain ⟨k, j, hk, hj, h1, h2, h3, h4⟩ := place_nat hp
  unfold ReachFr at hr ⊢
  rw [h3, h2] at hr
  rw [h4, h2] at ht
  obtain ⟨a, b⟩ := way_on h hk hj hr ht
  obtain ⟨fn, pc, regs⟩ := f'
  dsimp only at e1 e2 ⊢
  rw [h1] at e1
  subst e1 e2
  have e : fnD P (k : Int) = P[k] := by unfold fnD; simp [List.getD, hk]
  rw [e]
  exact ⟨place_of hk b regs, a⟩
theorem behind_next (x : Ins) (pc : Nat) (h1 : x.op ≠ 15) (h2 : x.op ≠ 19) : pc + 1 ∈ behind x pc := by
  unfold behind
  rw [if_neg h1]
  split
  · simp
  · simp
theorem behind_jump (x : Ins) (pc : Nat) (h1 : x.op = 15 ∨ x.op = 16) : x.imm.toNat ∈ behind x pc := by
  unfold behind
  rcases h1 with h | h
  · rw [if_pos h]; simp
  · rw [if_neg (by omega), if_pos h]; simp
theorem fn_begins {P : List Fn} (h : ProofAns P 0) {k : Nat} (hk : k < P.length) (l : List Int) : placeB P ⟨k, 0, l⟩ = true ∧ ReachFr P ⟨k, 0, l⟩ := by
  obtain ⟨ok, _⟩ := fnOk_of (right_code h) (List.getElem_mem hk)
  refine ⟨place_of (j := 0) hk (by have := ok.len1; omega) l, ?_⟩
  unfold ReachFr
  have e : fnD P (k : Int) = P[k] := by unfold fnD; simp [List.getD, hk]
  show Way (fnD P (k : Int)) 63 0
  rw [e]
  exact Way.start (by have := ok.p2; omega)
theorem FrsWf.init {fs gs : List Fr} (h : FrsWf (fs ++ gs)) : FrsWf fs := fun f hf => h f (List.mem_append_left _ hf)
theorem FrsWf.snoc {fs : List Fr} {f : Fr} (h : FrsWf fs) (hf : f.regs.length = 12) : FrsWf (fs ++ [f]) := fun g hg => by
  rcases List.mem_append.1 hg with hg | hg
  · exact h g hg
  · rw [List.mem_singleton.1 hg]; exact hf

/-- The last frame goes on: everything else stays as it may be. -/
theorem RunInv.on {P : List Fn} {S : St} {fs : List Fr} {f f' : Fr} (h : RunInv P S) (hS : S.frames = fs ++ [f]) (he : f'.fn = f.fn) (hp : placeB P f' = true) (hr : ReachFr P f') (hl : f'.regs.length = 12)
    {S' : St} (e1 : S'.frames = fs ++ [f']) (e2 : S'.status = S.status) (e3 : S'.value = S.value) (e4 : 0 ≤ S'.fuel ∧ S'.fuel ≤ 10000) (e5 : S'.answers.length ≤ S.answers.length) (e6 : S'.mem.length = 16) : RunInv P S' := by
  have hm := (mayB_iff S).1 h.may
  have hf := h.fok
  have hw := h.wf
  have hr0 := h.reach
  rw [hS] at hf hw hr0 hm
  refine ⟨(mayB_iff S').2 ?_, ?_, ?_, ?_, e6⟩
  · rw [e1, e2, e3]
    simp only [List.length_append, List.length_cons, List.length_nil] at hm ⊢
    omega
  · rw [e1]; exact hf.swap he hp
  · rw [e1]
    intro g hg
    rcases List.mem_append.1 hg with hg | hg
    · exact hr0 g (List.mem_append_left _ hg)
    · rw [List.mem_singleton.1 hg]; exact hr
  · rw [e1]; exact hw.init.snoc hl

theorem putF_len (f : Fr) (r v : Int) : (putF f r v).regs.length = f.regs.length := by simp [putF]
theorem begunFr_len (k : Int) (l : List Int) (h : l.length ≤ 12) : (begunFr k l).regs.length = 12 := regsOf_length l h

theorem snoc_of_last {fs : List Fr} {f : Fr} (h : fs.getLast? = some f) : fs = fs.dropLast ++ [f] := by
  obtain ⟨l, rfl⟩ := List.getLast?_eq_some_iff.1 h
  simp
/-- A step of a running state keeps what holds. -/
theorem runInv_step {P : List Fn} (hR : ProofAns P 0) {S : St} (h : RunInv P S) (h0 : S.status = 0) : RunInv P (stepS P S) := by
  have hm := (mayB_iff S).1 h.may
  unfold stepS
  by_cases hfu : S.fuel = 0
  · rw [if_pos hfu]
    refine ⟨(mayB_iff _).2 ?_, h.fok, h.reach, h.wf, h.mem⟩
    dsimp only
    omega
  rw [if_neg hfu]
  cases hl : S.frames.getLast? with
  | none => exact h
  | some f =>
    dsimp only
    have hS := snoc_of_last hl
    generalize hfs : S.frames.dropLast = fs at hS
    have hfm : f ∈ S.frames := by rw [hS]; simp
    have hp := h.fok.place f hfm
    have hrf := h.reach f hfm
    have h12 := h.wf f hfm
    have ok := place_ins (right_code hR) hp
    obtain ⟨k, j, hk, hj, k1, k2, k3, k4⟩ := place_nat hp
    generalize hx : insOfFr P f = x at ok k4
    have hpn : ∀ f' : Fr, f'.fn = f.fn → f'.pc = f.pc + 1 → x.op ≠ 15 → x.op ≠ 19 → placeB P f' = true ∧ ReachFr P f' := fun f' e1 e2 n1 n2 =>
      goes_on hR hp hrf e1 (j + 1) (by rw [e2, k2]; simp) (by rw [hx, k2]; exact behind_next x _ n1 n2)
    split
    · rename_i hb
      have hfu2 : 0 ≤ S.fuel - 1 ∧ S.fuel - 1 ≤ 10000 := by omega
      unfold doS
      split
      · rename_i o
        obtain ⟨a, b⟩ := hpn (putF f x.dst (S.mem.getD (regD f x.a).toNat 0)) rfl rfl (by omega) (by omega)
        exact h.on (f' := (putF f x.dst (S.mem.getD (regD f x.a).toNat 0))) hS rfl a b (by rw [putF_len]; exact h12) rfl h0.symm rfl hfu2 (Nat.le_refl _) h.mem
      split
      · rename_i o
        obtain ⟨a, b⟩ := hpn ⟨f.fn, f.pc + 1, f.regs⟩ rfl rfl (by omega) (by omega)
        exact h.on (f' := ⟨f.fn, f.pc + 1, f.regs⟩) hS rfl a b h12 rfl h0.symm rfl hfu2 (Nat.le_refl _) (by simp [h.mem])
      split
      · rename_i o
        obtain ⟨_, hi⟩ := fnOk_of (right_code hR) (List.getElem_mem hk)
        have him := (hi _ (List.getElem_mem hj)).2
        rw [← k4] at him
        obtain ⟨a, b⟩ := goes_on hR hp hrf (f' := ⟨f.fn, x.imm, f.regs⟩) rfl x.imm.toNat (by have := him (Or.inl o); dsimp only; omega) (by rw [hx]; exact behind_jump x _ (Or.inl o))
        exact h.on (f' := ⟨f.fn, x.imm, f.regs⟩) hS rfl a b h12 rfl h0.symm rfl hfu2 (Nat.le_refl _) h.mem
      split
      · rename_i o
        obtain ⟨_, hi⟩ := fnOk_of (right_code hR) (List.getElem_mem hk)
        have him := (hi _ (List.getElem_mem hj)).2
        rw [← k4] at him
        by_cases hz : regD f x.a = 0
        · obtain ⟨a, b⟩ := hpn ⟨f.fn, if regD f x.a = 0 then f.pc + 1 else x.imm, f.regs⟩ rfl (by dsimp only; rw [if_pos hz]) (by omega) (by omega)
          exact h.on (f' := ⟨f.fn, if regD f x.a = 0 then f.pc + 1 else x.imm, f.regs⟩) hS rfl a b h12 rfl h0.symm rfl hfu2 (Nat.le_refl _) h.mem
        · obtain ⟨a, b⟩ := goes_on hR hp hrf (f' := ⟨f.fn, if regD f x.a = 0 then f.pc + 1 else x.imm, f.regs⟩) rfl x.imm.toNat (by have := him (Or.inr o); dsimp only; rw [if_neg hz]; omega) (by rw [hx]; exact behind_jump x _ (Or.inr o))
          exact h.on (f' := ⟨f.fn, if regD f x.a = 0 then f.pc + 1 else x.imm, f.regs⟩) hS rfl a b h12 rfl h0.symm rfl hfu2 (Nat.le_refl _) h.mem
      split
      · rename_i o
        obtain ⟨c0, c1, c2, c3⟩ := ok.call o
        split
        · rename_i h8
          refine ⟨(mayB_iff _).2 ?_, h.fok, h.reach, h.wf, h.mem⟩
          dsimp only
          omega
        · rename_i h8
          obtain ⟨t, ht⟩ := Int.eq_ofNat_of_zero_le c0
          have htl : t < P.length := by omega
          obtain ⟨a, b⟩ := fn_begins hR htl (regsOf ([regD f x.a, regD f x.b].take (fnD P x.imm).params.toNat))
          have hlen : (begunFr x.imm ([regD f x.a, regD f x.b].take (fnD P x.imm).params.toNat)).regs.length = 12 := begunFr_len _ _ (by simp; omega)
          have eb : begunFr x.imm ([regD f x.a, regD f x.b].take (fnD P x.imm).params.toNat) = ⟨(t : Int), 0, regsOf ([regD f x.a, regD f x.b].take (fnD P x.imm).params.toNat)⟩ := by unfold begunFr; rw [← ht]
          have hf := h.fok
          have hw := h.wf
          have hr0 := h.reach
          rw [hS] at hf hw hr0 hm
          simp only [List.length_append, List.length_cons, List.length_nil] at hm
          have e2 : ∀ g : Fr, fs ++ [f, g] = (fs ++ [f]) ++ [g] := fun g => by simp
          refine ⟨(mayB_iff _).2 ?_, ?_, ?_, ?_, h.mem⟩
          · dsimp only
            simp only [List.length_append, List.length_cons, List.length_nil]
            omega
          · dsimp only
            refine hf.push (by rw [hx]; exact o) (by rw [hx]; rfl) (by rw [eb]; exact a)
          · dsimp only
            rw [e2]
            intro g hg
            rcases List.mem_append.1 hg with hg | hg
            · exact hr0 g hg
            · rw [List.mem_singleton.1 hg, eb]; exact b
          · dsimp only
            rw [e2]
            exact hw.snoc hlen
      split
      · rename_i o
        obtain ⟨a, b⟩ := hpn (putF f x.dst (S.answers.headD 0)) rfl rfl (by omega) (by omega)
        exact h.on (f' := (putF f x.dst (S.answers.headD 0))) hS rfl a b (by rw [putF_len]; exact h12) rfl h0.symm rfl hfu2 (by simp) h.mem
      split
      · rename_i o
        have hf := h.fok
        have hw := h.wf
        have hr0 := h.reach
        rw [hS] at hf hw hr0 hm
        simp only [List.length_append, List.length_cons, List.length_nil] at hm
        obtain ⟨f1, _, f3⟩ := (fok_snoc _ _ _).1 hf
        unfold retS
        cases hg : fs.getLast? with
        | none =>
          dsimp only
          refine ⟨(mayB_iff _).2 ?_, fok_nil P, fun g hg => by simp at hg, fun g hg => by simp at hg, h.mem⟩
          exact ⟨(by decide : (0 : Int) ≤ 1), (by decide : (1 : Int) ≤ 5), hfu2.1, hfu2.2, Nat.zero_le _, by show S.answers.length ≤ 100; omega, by simp, Or.inl rfl⟩
        | some c =>
          dsimp only
          have hS2 := snoc_of_last hg
          have hcm : c ∈ fs := by rw [hS2]; simp
          obtain ⟨o17, _⟩ := f3 c hg
          have hcp := f1.place c hcm
          have hcr := hr0 c (List.mem_append_left _ hcm)
          obtain ⟨kc, jc, hkc, hjc, c1, c2, c3, c4⟩ := place_nat hcp
          obtain ⟨a, b⟩ := goes_on hR hcp hcr (f' := putF c (insOfFr P c).dst (regD f x.a)) rfl (jc + 1) (by show c.pc + 1 = _; rw [c2]; simp) (by rw [c2]; exact behind_next _ _ (by omega) (by omega))
          have f1' := f1
          rw [hS2] at f1'
          refine ⟨(mayB_iff _).2 ?_, f1'.swap rfl a, ?_, ?_, h.mem⟩
          · dsimp only
            have := List.length_pos_of_mem hcm
            simp only [List.length_append, List.length_cons, List.length_nil, List.length_dropLast]
            omega
          · intro g hgm
            rcases List.mem_append.1 hgm with hgm | hgm
            · exact hr0 g (List.mem_append_left _ (List.dropLast_subset _ hgm))
            · rw [List.mem_singleton.1 hgm]; exact b
          · intro g hgm
            rcases List.mem_append.1 hgm with hgm | hgm
            · exact hw g (List.mem_append_left _ (List.dropLast_subset _ hgm))
            · rw [List.mem_singleton.1 hgm, putF_len]; exact hw c (List.mem_append_left _ hcm)
      · rename_i n1 n2 n3 n4 n5 n6 n7
        obtain ⟨a, b⟩ := hpn (putF f x.dst (mk x.op (regD f x.a) (regD f x.b) x.imm)) rfl rfl (by omega) (by omega)
        exact h.on (f' := (putF f x.dst (mk x.op (regD f x.a) (regD f x.b) x.imm))) hS rfl a b (by rw [putF_len]; exact h12) rfl h0.symm rfl hfu2 (Nat.le_refl _) h.mem
    · rename_i hb
      refine ⟨(mayB_iff _).2 ?_, h.fok, h.reach, h.wf, h.mem⟩
      dsimp only
      have hbb : barredI x (regD f x.a) (regD f x.b) = 3 ∨ barredI x (regD f x.a) (regD f x.b) = 4 := by
        unfold barredI at hb ⊢
        repeat' split
        all_goals first | (left; rfl) | (right; rfl) | (exfalso; simp_all)
      omega
theorem runInv_walk {P : List Fn} (hR : ProofAns P 0) (n : Nat) : ∀ {S : St}, RunInv P S → RunInv P (walkS P n S) := by
  induction n with
  | zero => exact fun h => h
  | succ n ih =>
    intro S h
    rw [walkS]
    split
    · rename_i h0; exact ih (runInv_step hR h h0)
    · exact h
/-- A run begins as it may. -/
theorem runInv_begin {P : List Fn} (hR : ProofAns P 0) (args answers : List Int) (fuel : Int) (ha : args.length ≤ 12) (hn : answers.length ≤ 100) (h0 : 0 ≤ fuel) (h1 : fuel ≤ 10000) : RunInv P (beginSt args answers fuel) := by
  have hp := (codeProg_zero (right_code hR)).1
  obtain ⟨a, b⟩ := fn_begins hR (k := 0) (by omega) (regsOf args)
  refine ⟨(mayB_iff _).2 ?_, ?_, ?_, ?_, rfl⟩
  · exact ⟨(by decide : (0 : Int) ≤ 0), (by decide : (0 : Int) ≤ 5), h0, h1, (by decide : 1 ≤ 8), hn, by simp [beginSt], Or.inr rfl⟩
  · show FOk P ([] ++ [begunFr 0 args])
    exact (fok_snoc _ _ _).2 ⟨fok_nil P, a, fun g hg => by simp at hg⟩
  · intro f hf
    have hf : f ∈ [begunFr 0 args] := hf
    rw [List.mem_singleton.1 hf]; exact b
  · intro f hf
    have hf : f ∈ [begunFr 0 args] := hf
    rw [List.mem_singleton.1 hf]; exact regsOf_length args ha
end Go.Proofs.YtgdmdlkhnokieaaDoor

/- Contracts of the engine's small methods: last, at. -/
namespace Go.Proofs.YtgdmdlkhnokieaaDoor
open Go Go.RowKit

set_option maxRecDepth 100000 in
theorem last_any (g f n cap : Nat) (w : World) (h2 : w.cell? ⟨g, 2, none⟩ = some (.slice (some ⟨f, 0, none⟩) (n + 1) cap)) (hc : n + 1 ≤ cap) (hm : cap ≤ 9223372036854775807) :
    Calls Tryd.prog 21 #[.pointer (some ⟨g, 0, none⟩)] w fun e w' => e = .returned (.pointer (some ⟨f, n * 14, none⟩)) ∧ Below w.heap.size w w' := by
  obtain ⟨m, hme⟩ : ∃ m : Nat, m = n + 1 := ⟨_, rfl⟩
  rw [← hme] at h2 hc
  have hs : (m : Int) - 1 = n := by omega
  have hw : IntKind.i64.wrap ((m : Int) - 1) = n := by rw [hs]; exact wrap_fits _ (by omega) (by omega)
  have hnm : (n : Int) < m := by omega
  clear hme
  go_enter Tryd.func21, Tryd.ntmps21
  go_wp2
  go_quiet (fail)
  go_wp2
  go_ret
  exact ⟨by simp, below_drewN (Below.refl _ _) _⟩

theorem infoIns : (Tryd.prog.info? 47).map (·.size) = some 5 := by kernel_rfl
set_option maxRecDepth 100000 in
set_option maxHeartbeats 1000000 in
theorem at_any (g f o pb po np cap k j b1 off1 m cap1 : Nat) (x : Ins) (w : World) (h22 : w.cell? ⟨g, 22, none⟩ = some (.slice (some ⟨pb, po, none⟩) np cap)) (f0 : w.cell? ⟨f, o, none⟩ = some (.int .i64 (k : Int))) (f1 : w.cell? ⟨f, o + 1, none⟩ = some (.int .i64 (j : Int)))
    (d2 : w.cell? ⟨pb, po + k * 3 + 2, none⟩ = some (.slice (some ⟨b1, off1, none⟩) m cap1)) (hi : insAt w b1 (off1 + j * 5) x) (hk : k < np) (hj : j < m) (_hc : np ≤ cap ∧ cap ≤ 9223372036854775807) (_hc1 : m ≤ cap1 ∧ cap1 ≤ 9223372036854775807) :
    Calls Tryd.prog 36 #[.pointer (some ⟨g, 0, none⟩), .pointer (some ⟨f, o, none⟩)] w fun e w' => e = .returned x.val ∧ Below w.heap.size w w' := by
  obtain ⟨op, dst, xa, xb, imm⟩ := x
  obtain ⟨i0, i1, i2, i3, i4⟩ := hi
  dsimp only at i0 i1 i2 i3 i4
  unfold Ins.val
  dsimp only
  have hkI : (k : Int) < np := by omega
  have hjI : (j : Int) < m := by omega
  have e22 := cell_alloc h22
  have e0 := cell_alloc f0
  have e1 := cell_alloc f1
  have e2 := cell_alloc d2
  have j0 := cell_alloc i0
  have j1 := cell_alloc i1
  have j2 := cell_alloc i2
  have j3 := cell_alloc i3
  have j4 := cell_alloc i4
  go_enter Tryd.func36, Tryd.ntmps36
  go_wp2
  go_region_held3 (fun w' => w'.cell? ⟨g, 22, none⟩ = some (.slice (some ⟨pb, po, none⟩) np cap) ∧ w'.cell? ⟨f, o, none⟩ = some (.int .i64 (k : Int)) ∧ w'.cell? ⟨f, o + 1, none⟩ = some (.int .i64 (j : Int)) ∧ w'.cell? ⟨pb, po + k * 3 + 2, none⟩ = some (.slice (some ⟨b1, off1, none⟩) m cap1) ∧ w'.cell? ⟨b1, off1 + j * 5, none⟩ = some (.int .i64 op) ∧ w'.cell? ⟨b1, off1 + j * 5 + 1, none⟩ = some (.int .i64 dst) ∧ w'.cell? ⟨b1, off1 + j * 5 + 2, none⟩ = some (.int .i64 xa) ∧ w'.cell? ⟨b1, off1 + j * 5 + 3, none⟩ = some (.int .i64 xb) ∧ w'.cell? ⟨b1, off1 + j * 5 + 4, none⟩ = some (.int .i64 imm)) (go_keep) (fail)
  go_wp2
  refine bodyPost_ret (results_cell_row rfl _ _ w.heap.size 47 #[.int .i64 op, .int .i64 dst, .int .i64 xa, .int .i64 xb, .int .i64 imm] (0, 0) _ rfl (heap_alloc_last w _) Tryd.underlying47 rfl infoIns) rfl ⟨rfl, ((Below.refl _ w).alloc (Nat.le_refl _) _).drew⟩
end Go.Proofs.YtgdmdlkhnokieaaDoor

/- How an engine lies in memory. -/
namespace Go.Proofs.YtgdmdlkhnokieaaDoor
open Go Go.RowKit

def engCells (S : St) (fv ev av pv : Value) : List Value := [.int .i64 S.status, .int .i64 S.value, fv] ++ (i64s S.mem ++ [.int .i64 S.fuel, ev, av, pv])
theorem engCells_length {S : St} (fv ev av pv : Value) (h : S.mem.length = 16) : (engCells S fv ev av pv).length = 23 := by simp [engCells, i64s, h]
theorem engCells_head (S : St) (fv ev av pv : Value) : (engCells S fv ev av pv)[0]? = some (.int .i64 S.status) ∧ (engCells S fv ev av pv)[1]? = some (.int .i64 S.value) ∧ (engCells S fv ev av pv)[2]? = some fv := ⟨rfl, rfl, rfl⟩
theorem engCells_tail {S : St} (fv ev av pv : Value) (h : S.mem.length = 16) (i : Nat) : (engCells S fv ev av pv)[19 + i]? = [Value.int .i64 S.fuel, ev, av, pv][i]? := by
  unfold engCells
  rw [List.getElem?_append_right (by simp; omega), List.getElem?_append_right (by simp [i64s, h]; omega)]
  congr 1
  simp [i64s, h]; omega
theorem engCells_set {S : St} (fv ev av pv u : Value) (h : S.mem.length = 16) (i : Nat) : (engCells S fv ev av pv).set (19 + i) u = [.int .i64 S.status, .int .i64 S.value, fv] ++ (i64s S.mem ++ [Value.int .i64 S.fuel, ev, av, pv].set i u) := by
  unfold engCells
  rw [List.set_append_right _ _ (by simp; omega), List.set_append_right _ _ (by simp [i64s, h]; omega)]
  congr 3
  simp [i64s, h]; omega
theorem row_setCell {w : World} {g t i : Nat} {cur : Array Value} (v : Value) (h : w.heap[g]? = some (.cells cur t (0, 0))) : (w.setCell ⟨g, i, none⟩ v).heap[g]? = some (.cells (cur.setIfInBounds i v) t (0, 0)) := by
  have hl := lt_of_block h
  have e : w.heap[g] = .cells cur t (0, 0) := by
    have := Array.getElem?_eq_getElem hl
    rw [h] at this
    exact (Option.some.inj this).symm
  rw [Array.getElem?_eq_getElem (by simp [World.setCell]; exact hl)]
  simp [World.setCell, Array.getElem_modify, e]
theorem row_free {w : World} {g t : Nat} {cur : Array Value} (h : w.heap[g]? = some (.cells cur t (0, 0))) (i : Nat) : w.frozen? ⟨g, i, none⟩ = false := by
  simp [World.frozen?, h]

/-- An engine, and the state that it is in; what it owns lies at base and above. -/
structure EngAt (w : World) (base g : Nat) (P : List Fn) (pv : Value) (S : St) (fv ev av : Value) : Prop where
  cells : w.heap[g]? = some (.cells (engCells S fv ev av pv).toArray 73 (0, 0))
  low : base ≤ g
  mem : S.mem.length = 16
  wf : FrsWf S.frames
  frames : w.ownsRow base 45 14 fv S.frames.length (framesCells S.frames)
  events : w.ownsRow base 3 1 ev S.events.length (i64s S.events)
  answers : IntsVal w av S.answers
  apart : ∀ a n cp, av = .slice (some a) n cp → 0 < n → a.block ≠ g ∧ some a.block ≠ ev.ownBlock ∧ some a.block ≠ fv.ownBlock
  alow : ∀ a n cp, av = .slice (some a) n cp → 0 < n → base ≤ a.block
  prog : ∀ W, Below base w W → ProgVal W pv P

theorem i64s_get (l : List Int) (k : Nat) (h : k < l.length) : (i64s l)[k]? = some (.int .i64 l[k]) := by simp [i64s, h]
theorem ints_tail {w : World} {b off n cap : Nat} {z : Int} {l : List Int} (h : IntsVal w (.slice (some ⟨b, off, none⟩) n cap) (z :: l)) : w.cell? ⟨b, off, none⟩ = some (.int .i64 z) ∧ n = l.length + 1 ∧ n ≤ cap ∧ cap ≤ 9223372036854775807 ∧ IntsVal w (.slice (some ⟨b, off + 1, none⟩) (n - 1) (cap - 1)) l := by
  obtain ⟨ao, b', off', n', cap', e, hl, ha, hc, ⟨hle, _⟩, hm⟩ := h
  obtain ⟨rfl, rfl, rfl⟩ : ao = some ⟨b, off, none⟩ ∧ n = n' ∧ cap = cap' := by
    simp only [Value.slice.injEq] at e
    exact ⟨e.1.symm, e.2.1, e.2.2⟩
  have hn : n = l.length + 1 := by simpa using hl.symm
  have e2 := ha (by omega)
  obtain ⟨rfl, rfl⟩ : b = b' ∧ off = off' := by simpa using e2
  have h0 := hc 0 (by simp)
  refine ⟨by simpa using h0, hn, hle, by simpa [maxLen] using hm, some ⟨b, off + 1, none⟩, b, off + 1, n - 1, cap - 1, rfl, by omega, fun _ => rfl, fun k hk => ?_, ⟨by omega, fun e => by cases e⟩, by omega⟩
  have := hc (k + 1) (by simp; exact hk)
  rw [show off + 1 + k = off + (k + 1) by omega, this]; simp
theorem block_ne_own {w : World} {base t size n g tt : Nat} {v : Value} {xs : List Value} {cur : Array Value} (h : w.ownsRow base t size v n xs) (hg : w.heap[g]? = some (.cells cur tt (0, 0))) (ht : t ≠ tt) : v.ownBlock ≠ some g := by
  intro e
  rcases h.2 with ⟨rfl, _⟩ | ⟨g', cap, cur', rfl, _, hh, _⟩
  · simp [Value.ownBlock] at e
  · obtain rfl : g' = g := by simpa [Value.ownBlock] using e
    rw [hg] at hh
    simp at hh
    exact ht hh.2.symm

theorem cell_setCell_other {w : World} {g i : Nat} {u v : Value} {p : Addr} (h : w.cell? p = some v) (hne : p.block ≠ g) : (w.setCell ⟨g, i, none⟩ u).cell? p = some v :=
  (World.cell?_of_block (Below.heap_setCell _ _ _ _ (by simpa using hne))).trans h
theorem tell_eng {w w1 : World} {base g g1 cap1 : Nat} {P : List Fn} {pv fv ev av : Value} {S : St} {a : Int} {o : Obj} (h : EngAt w base g P pv S fv ev av)
    (hown : w1.ownsRow base 3 1 (.slice (some ⟨g1, 0, none⟩) (S.events.length + 1) cap1) (S.events.length + 1) (i64s (S.events ++ [a]))) (hg : (w.alloc o).grownBy w1 ev.ownBlock) (hat : ev.ownBlock = some g1 ∨ g1 = w.heap.size + 1) :
    w1.heap[g]? = some (.cells (engCells S fv ev av pv).toArray 73 (0, 0)) ∧
    EngAt (w1.setCell ⟨g, 20, none⟩ (.slice (some ⟨g1, 0, none⟩) (S.events.length + 1) cap1)) base g P pv { S with events := S.events ++ [a] } fv (.slice (some ⟨g1, 0, none⟩) (S.events.length + 1) cap1) av ∧
    Below base w (w1.setCell ⟨g, 20, none⟩ (.slice (some ⟨g1, 0, none⟩) (S.events.length + 1) cap1)) ∧
    (∀ b, b < w.heap.size → b ≠ g → some b ≠ ev.ownBlock → (w1.setCell ⟨g, 20, none⟩ (.slice (some ⟨g1, 0, none⟩) (S.events.length + 1) cap1)).heap[b]? = w.heap[b]?) := by
  have hz := lt_of_block h.cells
  have hne : ev.ownBlock ≠ some g := block_ne_own h.events h.cells (by decide)
  have hnf : fv.ownBlock ≠ some g := block_ne_own h.frames h.cells (by decide)
  have h1 : w1.heap[g]? = some (.cells (engCells S fv ev av pv).toArray 73 (0, 0)) := (hg.block g (by simp; omega) (fun e => hne e.symm)).trans ((heap_alloc_old _ _ hz).trans h.cells)
  have hg1 : g1 ≠ g := by
    rcases hat with e | e
    · intro e2; rw [e2] at e; exact hne e
    · omega
  have hbl : Below base w (w1.setCell ⟨g, 20, none⟩ (.slice (some ⟨g1, 0, none⟩) (S.events.length + 1) cap1)) :=
    (((Below.refl _ _).alloc (by have := h.low; omega) _).grown hg (by have := h.low; simp; omega) (fun k hk => (h.events.lt k hk).1)).setCell (by simpa using h.low) _
  refine ⟨h1, ⟨?_, h.low, h.mem, h.wf, ?_, ?_, ?_, fun a' n cp e hn => ?_, h.alow, fun W hW => h.prog W (hbl.trans hW)⟩, hbl, fun b hb hbg hbe => ?_⟩
  rotate_left 5
  · rw [heap_setCell_other _ _ _ _ (by simpa using hbg)]
    exact (hg.block b (by simp; omega) hbe).trans (heap_alloc_old _ _ hb)
  · rw [row_setCell _ h1, List.setIfInBounds_toArray, show (20 : Nat) = 19 + 1 from rfl, engCells_set _ _ _ _ _ h.mem]; rfl
  · exact ownsRow_setCell_other ((h.frames.alloc o).kept hg (own_apart h.frames h.events (by decide))) hnf _
  · have := ownsRow_setCell_other hown (a := ⟨g, 20, none⟩) (by simpa [Value.ownBlock] using hg1) (.slice (some ⟨g1, 0, none⟩) (S.events.length + 1) cap1)
    simpa using this
  · have hap := h.apart
    obtain ⟨ao, b, off, n, cap, rfl, hl, ha, hc, hcp, hm⟩ := h.answers
    refine ⟨ao, b, off, n, cap, rfl, hl, ha, fun k hk => ?_, hcp, hm⟩
    have hk' : k < S.answers.length := hk
    have e := ha (by omega)
    obtain ⟨a1, a2, _⟩ := hap _ _ _ (by rw [e]) (by omega)
    exact cell_setCell_other (hg.cell (cell_alloc (hc k hk') o) a2) a1
  · obtain ⟨a1, a2, a3⟩ := h.apart a' n cp e hn
    refine ⟨a1, ?_, a3⟩
    rcases hat with e1 | e1
    · rw [e1] at a2; simpa [Value.ownBlock] using a2
    · obtain ⟨ao, b, off, n', cap, e2, hl, ha, hc, _⟩ := h.answers
      rw [e] at e2
      simp only [Value.slice.injEq] at e2
      obtain ⟨e3, rfl, rfl⟩ := e2
      have e4 := ha hn
      rw [← e3] at e4
      obtain rfl : a' = ⟨b, off, none⟩ := by simpa using e4
      have := World.block_lt_of_cell? _ _ (hc 0 (by omega))
      simp only [Value.ownBlock, ne_eq, Option.some.injEq]
      simp at this
      omega

theorem answers_eng {w : World} {base g b off cap : Nat} {P : List Fn} {pv fv ev : Value} {S : St} {z : Int} {l : List Int} (hS : S.answers = z :: l) (h : EngAt w base g P pv S fv ev (.slice (some ⟨b, off, none⟩) (l.length + 1) cap)) :
    w.cell? ⟨b, off, none⟩ = some (.int .i64 z) ∧ l.length + 1 ≤ cap ∧ cap ≤ 9223372036854775807 ∧ ∀ ad cp, (cp = 0 ∨ (ad = ⟨b, off + 1, none⟩ ∧ cp = cap - 1)) → cp = cap - 1 → EngAt (w.setCell ⟨g, 21, none⟩ (.slice (some ad) l.length cp)) base g P pv { S with answers := l } fv ev (.slice (some ad) l.length cp) ∧
    Below base w (w.setCell ⟨g, 21, none⟩ (.slice (some ad) l.length cp)) := by
  have hne : ev.ownBlock ≠ some g := block_ne_own h.events h.cells (by decide)
  have hnf : fv.ownBlock ≠ some g := block_ne_own h.frames h.cells (by decide)
  have han := h.answers
  rw [hS] at han
  obtain ⟨h1, _, h3, h4, h5⟩ := ints_tail han
  obtain ⟨a1, a2, a3⟩ := h.apart _ _ _ rfl (by omega)
  refine ⟨h1, h3, h4, fun ad cp hor hcp => ?_⟩
  have hbl : Below base w (w.setCell ⟨g, 21, none⟩ (.slice (some ad) l.length cp)) := (Below.refl _ _).setCell (by simpa using h.low) _
  have hpos : 0 < l.length → ad = ⟨b, off + 1, none⟩ := fun hl => by
    rcases hor with e | e
    · omega
    · exact e.1
  refine ⟨⟨?_, h.low, h.mem, h.wf, ownsRow_setCell_other h.frames hnf _, ownsRow_setCell_other h.events hne _, ?_, fun a' n cp' e hn => ?_, fun a' n cp' e hn => ?_, fun W hW => h.prog W (hbl.trans hW)⟩, hbl⟩
  · rw [row_setCell _ h.cells, List.setIfInBounds_toArray, show (21 : Nat) = 19 + 2 from rfl, engCells_set _ _ _ _ _ h.mem]; rfl
  · obtain ⟨ao, b', off', n, cap', e, hl, ha, hc, hcp', hm⟩ := h5
    refine ⟨some ad, b, off + 1, l.length, cp, rfl, rfl, fun hl => by rw [hpos hl], fun k hk => ?_, ⟨by omega, fun e => by cases e⟩, by unfold maxLen; omega⟩
    have hk' : k < l.length := hk
    have e2 := ha (by omega)
    simp only [Value.slice.injEq] at e
    rw [e2] at e
    obtain ⟨⟨rfl, rfl⟩, _⟩ : (b = b' ∧ off + 1 = off') ∧ _ := by simpa using e
    exact cell_setCell_other (hc k hk') a1
  · simp only [Value.slice.injEq, Option.some.injEq] at e
    have := hpos (by omega)
    rw [← e.1, this]
    exact ⟨a1, a2, a3⟩
  · simp only [Value.slice.injEq, Option.some.injEq] at e
    have := hpos (by omega)
    rw [← e.1, this]
    exact h.alow ⟨b, off, none⟩ _ _ rfl (by omega)
/-- What telling the host leaves. -/
def TellPost (base g : Nat) (P : List Fn) (pv : Value) (S : St) (fv ev : Value) (a : Int) (w : World) (e : Ending) (w' : World) : Prop :=
  ∃ ev' av', e = .returned (.int .i64 (S.answers.headD 0)) ∧ EngAt w' base g P pv { S with events := S.events ++ [a], answers := S.answers.tail } fv ev' av' ∧ Below base w w' ∧ ∀ b, b < w.heap.size → b ≠ g → some b ≠ ev.ownBlock → w'.heap[b]? = w.heap[b]?

set_option maxRecDepth 100000 in
set_option maxHeartbeats 2000000 in
theorem tell_any (base g : Nat) (P : List Fn) (pv : Value) (S : St) (fv ev av : Value) (a : Int) (w : World) (h : EngAt w base g P pv S fv ev av) (he : S.events.length * 8 + 8 ≤ 140737488355328) :
    Calls Tryd.prog 52 #[.pointer (some ⟨g, 0, none⟩), .int .i64 a] w fun e w' => TellPost base g P pv S fv ev a w e w' := by
  obtain ⟨i64i, hi64, hz0, hz1', hz2⟩ := info_parts info64
  have hev := h.events
  have hlow := h.low
  have hzg := lt_of_block h.cells
  have c20 : w.cell? ⟨g, 20, none⟩ = some ev := (cell_of_row w g 20 _ _ _ h.cells).trans (by rw [List.getElem?_toArray]; exact engCells_tail fv ev av pv h.mem 1)
  obtain ⟨ae, ce, rfl⟩ := own_shape hev
  have HE : Hid (EngAt w base g P pv S fv (.slice ae S.events.length ce) av) := h
  obtain ⟨aa, ca, hav⟩ := h.answers.shape
  subst hav
  have HR21 : Hid (∀ W : World, W.heap[g]? = some (.cells (engCells S fv (.slice ae S.events.length ce) (.slice aa S.answers.length ca) pv).toArray 73 (0, 0)) → W.cell? ⟨g, 21, none⟩ = some (.slice aa S.answers.length ca)) := fun W hW => (cell_of_row W g 21 _ _ _ hW).trans (by rw [List.getElem?_toArray]; exact engCells_tail fv (.slice ae S.events.length ce) (.slice aa S.answers.length ca) pv HE.out.mem 2)
  have HR20 : Hid (∀ (W : World) av', W.heap[g]? = some (.cells (engCells S fv (.slice ae S.events.length ce) av' pv).toArray 73 (0, 0)) → W.cell? ⟨g, 20, none⟩ = some (.slice ae S.events.length ce)) := fun W av' hW => (cell_of_row W g 20 _ _ _ hW).trans (by rw [List.getElem?_toArray]; exact engCells_tail fv (.slice ae S.events.length ce) av' pv HE.out.mem 1)
  rcases hS : S.answers with _ | ⟨z, l⟩
  · have HS : Hid (S.answers = []) := hS
    have hl0 : S.answers.length = 0 := by rw [hS]; rfl
    rw [hl0] at HR21 HE
    clear h hS hl0
    go_enter Tryd.func52, Tryd.ntmps52
    go_wp2_with (at_builtin; (refine wpList_append_lies _ rfl (.tmp 11) (.tmp 13) 24 rfl base 3 i64i _ 1 8 Tryd.underlying24 hi64 hz0 hz1' hz2 rfl (by decide) _ _ _ rfl (hev.alloc _) ⟨_, 0, none⟩ 1 1 (i64s [a]) rfl rfl (news_list _ _ _ _ rfl) (i64s_one _) (by omega) (by unfold maxLen; omega) (by omega) (by simp; omega) (w.heap.size + 1) (by simp) ?_; intro g1 cap1 w1 hown1 hg1 hat1 hlt1; rw [← i64s_append] at hown1; have R := tell_eng HE.out hown1 hg1 hat1; have r20 := HR20.out w1 _ R.1; have f20 := row_free R.1 20; have f21 := row_free R.1 21; have r21 := HR21.out w1 R.1))
    go_ret
    refine ⟨.slice (some ⟨g1, 0, none⟩) (S.events.length + 1) cap1, .slice aa 0 ca, by rw [HS.out]; rfl, ?_, R.2.2.1, R.2.2.2⟩
    have := R.2.1
    have e : ({ S with events := S.events ++ [a], answers := S.answers.tail } : St) = { S with events := S.events ++ [a] } := by rw [HS.out, List.tail_nil, ← HS.out]
    rw [e]; exact this
  · have HS : Hid (S.answers = z :: l) := hS
    have hl0 : S.answers.length = l.length + 1 := by rw [hS]; rfl
    have haa : ∃ b off, aa = some ⟨b, off, none⟩ := by
      obtain ⟨ao, b, off, n, cap, e, hl, ha, _⟩ := h.answers
      simp only [Value.slice.injEq] at e
      exact ⟨b, off, by rw [e.1]; exact ha (by omega)⟩
    obtain ⟨b, off, rfl⟩ := haa
    rw [hl0] at HR21 HE
    clear h hS hl0
    go_enter Tryd.func52, Tryd.ntmps52
    go_wp2_with (at_builtin; (refine wpList_append_lies _ rfl (.tmp 11) (.tmp 13) 24 rfl base 3 i64i _ 1 8 Tryd.underlying24 hi64 hz0 hz1' hz2 rfl (by decide) _ _ _ rfl (hev.alloc _) ⟨_, 0, none⟩ 1 1 (i64s [a]) rfl rfl (news_list _ _ _ _ rfl) (i64s_one _) (by omega) (by unfold maxLen; omega) (by omega) (by simp; omega) (w.heap.size + 1) (by simp) ?_; intro g1 cap1 w1 hown1 hg1 hat1 hlt1; rw [← i64s_append] at hown1; have R := tell_eng HE.out hown1 hg1 hat1; have r20 := HR20.out w1 _ R.1; have f20 := row_free R.1 20; have f21 := row_free R.1 21; have r21 := HR21.out w1 R.1; have HZ : Hid _ := answers_eng (S := { S with events := S.events ++ [a] }) HS.out R.2.1; have z1 := HZ.out.1; have z3 := HZ.out.2.1; have z4 := HZ.out.2.2.1; have HZZ : Hid _ := HZ.out.2.2.2; have HRR : Hid _ := R.2.2.1; have HRK : Hid _ := R.2.2.2; clear R))
    · have hca : ca = 1 := by assumption
      go_ret
      refine ⟨.slice (some ⟨g1, 0, none⟩) (S.events.length + 1) cap1, .slice (some ⟨b, off, none⟩) l.length 0, by rw [HS.out]; rfl, ?_, HRR.out.trans (HZZ.out ⟨b, off, none⟩ 0 (Or.inl rfl) (by omega)).2, fun b' h1 h2 h3 => (heap_setCell_other _ _ _ _ (by simpa using h2)).trans (HRK.out b' h1 h2 h3)⟩
      rw [HS.out]
      exact (HZZ.out ⟨b, off, none⟩ 0 (Or.inl rfl) (by omega)).1
    · go_ret
      refine ⟨.slice (some ⟨g1, 0, none⟩) (S.events.length + 1) cap1, .slice (some ⟨b, off + 1, none⟩) l.length (ca - 1), by rw [HS.out]; rfl, ?_, HRR.out.trans (HZZ.out ⟨b, off + 1, none⟩ (ca - 1) (Or.inr ⟨rfl, rfl⟩) rfl).2, fun b' h1 h2 h3 => (heap_setCell_other _ _ _ _ (by simpa using h2)).trans (HRK.out b' h1 h2 h3)⟩
      rw [HS.out]
      exact (HZZ.out ⟨b, off + 1, none⟩ (ca - 1) (Or.inr ⟨rfl, rfl⟩) rfl).1

end Go.Proofs.YtgdmdlkhnokieaaDoor

/- What stores do to an engine; plain facts on memory. -/
namespace Go.Proofs.YtgdmdlkhnokieaaDoor
open Go Go.RowKit

theorem ints_setCell {w : World} {v : Value} {l : List Int} (h : IntsVal w v l) {g i : Nat} (u : Value) (hne : ∀ a n cp, v = .slice (some a) n cp → 0 < n → a.block ≠ g) : IntsVal (w.setCell ⟨g, i, none⟩ u) v l := by
  obtain ⟨ao, b, off, n, cap, rfl, hl, ha, hc, hcp, hm⟩ := h
  refine ⟨ao, b, off, n, cap, rfl, hl, ha, fun k hk => ?_, hcp, hm⟩
  have e := ha (by omega)
  exact cell_setCell_other (hc k hk) (by have := hne _ _ _ (by rw [e]) (by omega); simpa using this)
theorem EngAt.below {w w' : World} {base g : Nat} {P : List Fn} {pv fv ev av : Value} {S : St} (h : EngAt w base g P pv S fv ev av) (hb : Below w.heap.size w w') : EngAt w' base g P pv S fv ev av := by
  have hz := lt_of_block h.cells
  have hlow := h.low
  exact ⟨(hb.block _ hz).trans h.cells, h.low, h.mem, h.wf, ownsRow_below h.frames hb, ownsRow_below h.events hb, h.answers.keeps (keeps_below hb), h.apart, h.alow, fun W hW => h.prog W ((hb.mono (by omega)).trans hW)⟩
theorem EngAt.base {w : World} {base g : Nat} {P : List Fn} {pv fv ev av : Value} {S : St} (h : EngAt w base g P pv S fv ev av) : base ≤ w.heap.size := by
  have hz := lt_of_block h.cells
  have hlow := h.low
  omega
/-- A number of the engine is stored. -/
theorem EngAt.put {w : World} {base g : Nat} {P : List Fn} {pv fv ev av : Value} {S : St} (h : EngAt w base g P pv S fv ev av) (i : Nat) (u : Value) (S' : St) (hc : (engCells S fv ev av pv).set i u = engCells S' fv ev av pv) (hm : S'.mem.length = 16)
    (e1 : S'.frames = S.frames) (e2 : S'.events = S.events) (e3 : S'.answers = S.answers) : EngAt (w.setCell ⟨g, i, none⟩ u) base g P pv S' fv ev av ∧ Below base w (w.setCell ⟨g, i, none⟩ u) := by
  have hne : ev.ownBlock ≠ some g := block_ne_own h.events h.cells (by decide)
  have hnf : fv.ownBlock ≠ some g := block_ne_own h.frames h.cells (by decide)
  have hbl : Below base w (w.setCell ⟨g, i, none⟩ u) := (Below.refl _ _).setCell (by simpa using h.low) _
  refine ⟨⟨?_, h.low, hm, by rw [e1]; exact h.wf, ?_, ?_, ?_, h.apart, h.alow, fun W hW => h.prog W (hbl.trans hW)⟩, hbl⟩
  · rw [row_setCell _ h.cells, List.setIfInBounds_toArray, hc]
  · rw [e1]; exact ownsRow_setCell_other h.frames hnf _
  · rw [e2]; exact ownsRow_setCell_other h.events hne _
  · rw [e3]; exact ints_setCell h.answers _ (fun a n cp e hn => (h.apart a n cp e hn).1)
theorem engCells_fuel {S : St} (fv ev av pv : Value) (h : S.mem.length = 16) (n : Int) : (engCells S fv ev av pv).set 19 (.int .i64 n) = engCells { S with fuel := n } fv ev av pv := by
  rw [show (19 : Nat) = 19 + 0 from rfl, engCells_set _ _ _ _ _ h]; rfl
theorem engCells_mem {S : St} (fv ev av pv : Value) (k : Nat) (hk : k < S.mem.length) (n : Int) : (engCells S fv ev av pv).set (3 + k) (.int .i64 n) = engCells { S with mem := S.mem.set k n } fv ev av pv := by
  unfold engCells
  rw [List.set_append_right _ _ (by simp), List.set_append_left _ _ (by simp [i64s]; exact hk)]
  congr 2
  simp [i64s, List.map_set]
theorem engCells_memGet {S : St} (fv ev av pv : Value) (k : Nat) (hk : k < S.mem.length) : (engCells S fv ev av pv)[3 + k]? = some (.int .i64 (S.mem.getD k 0)) := by
  unfold engCells
  rw [List.getElem?_append_right (by simp), List.getElem?_append_left (by simp [i64s]; exact hk)]
  simp [i64s, hk, List.getD]
/-- A cell of the frames is stored. -/
theorem EngAt.frame {w : World} {base g fb n cap : Nat} {P : List Fn} {pv ev av : Value} {S : St} (h : EngAt w base g P pv S (.slice (some ⟨fb, 0, none⟩) n cap) ev av) (j : Nat) (u : Value) (fs' : List Fr) (hl : fs'.length = S.frames.length) (hw : FrsWf fs') (hc : (framesCells S.frames).set j u = framesCells fs') :
    EngAt (w.setCell ⟨fb, j, none⟩ u) base g P pv { S with frames := fs' } (.slice (some ⟨fb, 0, none⟩) n cap) ev av ∧ Below base w (w.setCell ⟨fb, j, none⟩ u) := by
  have hnf : (Value.slice (some ⟨fb, 0, none⟩) n cap).ownBlock ≠ some g := block_ne_own h.frames h.cells (by decide)
  have hfg : fb ≠ g := by simpa [Value.ownBlock] using hnf
  have hap := own_apart h.frames h.events (by decide)
  have hef : ev.ownBlock ≠ some fb := by
    rcases hap with e | e
    · simp [Value.ownBlock] at e
    · intro e2; rw [e2] at e; simp [Value.ownBlock] at e
  have hlow := (h.frames.lt fb (by simp [Value.ownBlock])).1
  have hbl : Below base w (w.setCell ⟨fb, j, none⟩ u) := (Below.refl _ _).setCell (by simpa using hlow) _
  have hnn : n = S.frames.length := by
    rcases h.frames.2 with ⟨e, _⟩ | ⟨g', cap', cur, e, _⟩
    · cases e
    · cases e; rfl
  subst hnn
  refine ⟨⟨?_, h.low, h.mem, hw, ?_, ownsRow_setCell_other h.events hef _, ints_setCell h.answers _ (fun a n cp e hn => ?_), h.apart, h.alow, fun W hW => h.prog W (hbl.trans hW)⟩, hbl⟩
  · rw [heap_setCell_other _ _ _ _ (fun e => hfg e.symm)]; exact h.cells
  · have := (h.frames.stored j u).1
    rw [hc] at this
    show World.ownsRow _ _ _ _ _ fs'.length _
    rw [hl]; exact this
  · have := (h.apart a n cp e hn).2.2
    simpa [Value.ownBlock] using this
theorem framesCells_last (fs : List Fr) (f f' : Fr) (hw : FrsWf fs) (j : Nat) (u : Value) (hj : (frCells f).set j u = frCells f') : (framesCells (fs ++ [f])).set (fs.length * 14 + j) u = framesCells (fs ++ [f']) := by
  rw [framesCells_append, framesCells_append, List.set_append_right _ _ (by rw [framesCells_length fs hw]; omega), framesCells_length fs hw]
  congr 1
  rw [show fs.length * 14 + j - fs.length * 14 = j by omega]
  simp only [framesCells, List.flatMap_cons, List.flatMap_nil, List.append_nil]
  exact hj
theorem frCells_pc (f : Fr) (n : Int) : (frCells f).set 1 (.int .i64 n) = frCells ⟨f.fn, n, f.regs⟩ := rfl
theorem frCells_reg (f : Fr) (r : Nat) (v : Int) : (frCells f).set (2 + r) (.int .i64 v) = frCells ⟨f.fn, f.pc, f.regs.set r v⟩ := by
  rw [show 2 + r = r + 1 + 1 by omega]
  simp [frCells, i64s, List.map_set]
/-- The last frame goes on to a place. -/
theorem EngAt.goes {w : World} {base g fb n cap : Nat} {P : List Fn} {pv ev av : Value} {S : St} {fs : List Fr} {f : Fr} (h : EngAt w base g P pv S (.slice (some ⟨fb, 0, none⟩) n cap) ev av) (hS : S.frames = fs ++ [f]) (pc : Int) :
    EngAt (w.setCell ⟨fb, fs.length * 14 + 1, none⟩ (.int .i64 pc)) base g P pv { S with frames := fs ++ [⟨f.fn, pc, f.regs⟩] } (.slice (some ⟨fb, 0, none⟩) n cap) ev av ∧ Below base w (w.setCell ⟨fb, fs.length * 14 + 1, none⟩ (.int .i64 pc)) := by
  have hw := h.wf
  rw [hS] at hw
  refine h.frame _ _ _ (by rw [hS]; simp) (hw.init.snoc (hw f (by simp))) ?_
  rw [hS]
  exact framesCells_last fs f _ hw.init 1 _ (frCells_pc f pc)
/-- A number is put into a register of the last frame, which goes on. -/
theorem EngAt.puts {w : World} {base g fb n cap : Nat} {P : List Fn} {pv ev av : Value} {S : St} {fs : List Fr} {f : Fr} (h : EngAt w base g P pv S (.slice (some ⟨fb, 0, none⟩) n cap) ev av) (hS : S.frames = fs ++ [f]) (r : Nat) (v : Int) :
    EngAt ((w.setCell ⟨fb, fs.length * 14 + 2 + r, none⟩ (.int .i64 v)).setCell ⟨fb, fs.length * 14 + 1, none⟩ (.int .i64 (f.pc + 1))) base g P pv { S with frames := fs ++ [putF f r v] } (.slice (some ⟨fb, 0, none⟩) n cap) ev av ∧ Below base w ((w.setCell ⟨fb, fs.length * 14 + 2 + r, none⟩ (.int .i64 v)).setCell ⟨fb, fs.length * 14 + 1, none⟩ (.int .i64 (f.pc + 1))) := by
  have hw := h.wf
  rw [hS] at hw
  have h1 := h.frame (fs.length * 14 + 2 + r) (.int .i64 v) (fs ++ [⟨f.fn, f.pc, f.regs.set r v⟩]) (by rw [hS]; simp) (hw.init.snoc (by have := hw f (by simp); simpa using this)) (by
    rw [hS, Nat.add_assoc]
    exact framesCells_last fs f _ hw.init (2 + r) _ (frCells_reg f r v))
  have h2 := h1.1.goes (fs := fs) (f := ⟨f.fn, f.pc, f.regs.set r v⟩) rfl (f.pc + 1)
  refine ⟨?_, h1.2.trans h2.2⟩
  have e : putF f r v = ⟨f.fn, f.pc + 1, f.regs.set r v⟩ := by simp [putF]
  rw [e]; exact h2.1
/-- The last frame goes. -/
theorem EngAt.pop {w : World} {base g fb n cap : Nat} {P : List Fn} {pv ev av : Value} {S : St} {fs : List Fr} {f : Fr} (h : EngAt w base g P pv S (.slice (some ⟨fb, 0, none⟩) n cap) ev av) (hS : S.frames = fs ++ [f]) :
    EngAt (w.setCell ⟨g, 2, none⟩ (.slice (some ⟨fb, 0, none⟩) fs.length cap)) base g P pv { S with frames := fs } (.slice (some ⟨fb, 0, none⟩) fs.length cap) ev av ∧ Below base w (w.setCell ⟨g, 2, none⟩ (.slice (some ⟨fb, 0, none⟩) fs.length cap)) := by
  have hw := h.wf
  rw [hS] at hw
  have hne : ev.ownBlock ≠ some g := block_ne_own h.events h.cells (by decide)
  have hnf : (Value.slice (some ⟨fb, 0, none⟩) n cap).ownBlock ≠ some g := block_ne_own h.frames h.cells (by decide)
  have hbl : Below base w (w.setCell ⟨g, 2, none⟩ (.slice (some ⟨fb, 0, none⟩) fs.length cap)) := (Below.refl _ _).setCell (by simpa using h.low) _
  have hfr := h.frames
  rw [hS, framesCells_append] at hfr
  simp only [List.length_append, List.length_cons, List.length_nil, Nat.zero_add] at hfr
  have hnn : n = fs.length + 1 := by
    rcases hfr.2 with ⟨e, _⟩ | ⟨g', cap', cur, e, _⟩
    · cases e
    · cases e; rfl
  subst hnn
  refine ⟨⟨?_, h.low, h.mem, hw.init, ?_, ownsRow_setCell_other h.events hne _, ints_setCell h.answers _ (fun a n cp e hn => (h.apart a n cp e hn).1), fun a n cp e hn => ?_, h.alow, fun W hW => h.prog W (hbl.trans hW)⟩, hbl⟩
  · rw [row_setCell _ h.cells, List.setIfInBounds_toArray]; rfl
  · refine ownsRow_setCell_other (ownsRow_pop (framesCells_length fs hw.init) hfr) ?_ _
    simpa [Value.ownBlock] using hnf
  · obtain ⟨a1, a2, a3⟩ := h.apart a n cp e hn
    exact ⟨a1, a2, by simpa [Value.ownBlock] using a3⟩
/-- A frame more. -/
theorem EngAt.push {w w1 : World} {base g g1 cap1 : Nat} {P : List Fn} {pv fv ev av : Value} {S : St} {f : Fr} (h : EngAt w base g P pv S fv ev av) (hf : f.regs.length = 12)
    (hown : w1.ownsRow base 45 14 (.slice (some ⟨g1, 0, none⟩) (S.frames.length + 1) cap1) (S.frames.length + 1) (framesCells (S.frames ++ [f]))) (hg : w.grownBy w1 fv.ownBlock) (hat : fv.ownBlock = some g1 ∨ g1 = w.heap.size) :
    w1.heap[g]? = some (.cells (engCells S fv ev av pv).toArray 73 (0, 0)) ∧
    EngAt (w1.setCell ⟨g, 2, none⟩ (.slice (some ⟨g1, 0, none⟩) (S.frames.length + 1) cap1)) base g P pv { S with frames := S.frames ++ [f] } (.slice (some ⟨g1, 0, none⟩) (S.frames.length + 1) cap1) ev av ∧
    Below base w (w1.setCell ⟨g, 2, none⟩ (.slice (some ⟨g1, 0, none⟩) (S.frames.length + 1) cap1)) := by
  have hz := lt_of_block h.cells
  have hlow := h.low
  have hne : ev.ownBlock ≠ some g := block_ne_own h.events h.cells (by decide)
  have hnf : fv.ownBlock ≠ some g := block_ne_own h.frames h.cells (by decide)
  have h1 : w1.heap[g]? = some (.cells (engCells S fv ev av pv).toArray 73 (0, 0)) := (hg.block g hz (fun e => hnf e.symm)).trans h.cells
  have hg1 : g1 ≠ g := by
    rcases hat with e | e
    · intro e2; rw [e2] at e; exact hnf e
    · omega
  have hbl : Below base w (w1.setCell ⟨g, 2, none⟩ (.slice (some ⟨g1, 0, none⟩) (S.frames.length + 1) cap1)) :=
    ((Below.refl _ _).grown hg (by omega) (fun k hk => (h.frames.lt k hk).1)).setCell (by simpa using h.low) _
  refine ⟨h1, ⟨?_, h.low, h.mem, h.wf.snoc hf, ?_, ?_, ?_, fun a' n cp e hn => ?_, h.alow, fun W hW => h.prog W (hbl.trans hW)⟩, hbl⟩
  · rw [row_setCell _ h1, List.setIfInBounds_toArray]; rfl
  · have := ownsRow_setCell_other hown (a := ⟨g, 2, none⟩) (by simpa [Value.ownBlock] using hg1) (.slice (some ⟨g1, 0, none⟩) (S.frames.length + 1) cap1)
    simpa using this
  · exact ownsRow_setCell_other (h.events.kept hg (own_apart h.events h.frames (by decide))) hne _
  · have hap := h.apart
    obtain ⟨ao, b, off, n, cap, rfl, hl, ha, hc, hcp, hm⟩ := h.answers
    refine ⟨ao, b, off, n, cap, rfl, hl, ha, fun k hk => ?_, hcp, hm⟩
    have hk' : k < S.answers.length := hk
    have e := ha (by omega)
    obtain ⟨a1, _, a3⟩ := hap _ _ _ (by rw [e]) (by omega)
    exact cell_setCell_other (hg.cell (hc k hk') a3) a1
  · obtain ⟨a1, a2, a3⟩ := h.apart a' n cp e hn
    refine ⟨a1, a2, ?_⟩
    rcases hat with e1 | e1
    · rw [e1] at a3; simpa [Value.ownBlock] using a3
    · obtain ⟨ao, b, off, n', cap, e2, hl, ha, hc, _⟩ := h.answers
      rw [e] at e2
      simp only [Value.slice.injEq] at e2
      obtain ⟨e3, rfl, rfl⟩ := e2
      have e4 := ha hn
      rw [← e3] at e4
      obtain rfl : a' = ⟨b, off, none⟩ := by simpa using e4
      have := World.block_lt_of_cell? _ _ (hc 0 (by omega))
      simp only [Value.ownBlock, ne_eq, Option.some.injEq]
      simp at this
      omega
/-- What the cells of the last frame hold. -/
theorem EngAt.lastCells {w : World} {base g fb n cap : Nat} {P : List Fn} {pv ev av : Value} {S : St} {fs : List Fr} {f : Fr} (h : EngAt w base g P pv S (.slice (some ⟨fb, 0, none⟩) n cap) ev av) (hS : S.frames = fs ++ [f]) :
    n = fs.length + 1 ∧ n ≤ cap ∧ cap ≤ 9223372036854775807 ∧ w.cell? ⟨fb, fs.length * 14, none⟩ = some (.int .i64 f.fn) ∧ w.cell? ⟨fb, fs.length * 14 + 1, none⟩ = some (.int .i64 f.pc) ∧ (∀ r : Nat, r < 12 → w.cell? ⟨fb, fs.length * 14 + 2 + r, none⟩ = some (.int .i64 (f.regs.getD r 0))) ∧
    ∃ cur : Array Value, w.heap[fb]? = some (.cells cur 45 (0, 0)) ∧ fs.length * 14 + 14 ≤ cur.size := by
  have hw := h.wf
  have hfr := h.frames
  rw [hS] at hw hfr
  simp only [List.length_append, List.length_cons, List.length_nil, Nat.zero_add] at hfr
  have h12 := hw f (by simp)
  obtain ⟨hnn, hc, hm, cur, hcur, hsz⟩ : n = fs.length + 1 ∧ n ≤ cap ∧ cap ≤ 9223372036854775807 ∧ ∃ cur : Array Value, w.heap[fb]? = some (.cells cur 45 (0, 0)) ∧ cur.size = cap * 14 := by
    rcases hfr.2 with ⟨e, _⟩ | ⟨g', cap', cur, e, _, hh, h1, h2, h3, _⟩
    · cases e
    · cases e; exact ⟨rfl, h1, by simpa [maxLen] using h2, cur, hh, h3⟩
  subst hnn
  have hcell : ∀ j, j < 14 → w.cell? ⟨fb, fs.length * 14 + j, none⟩ = (frCells f)[j]? := by
    intro j hj
    rw [hfr.cellAt _ (by omega)]
    have := framesCells_get (fs ++ [f]) hw fs.length j (by simp) hj
    simpa using this
  refine ⟨rfl, hc, hm, ?_, ?_, fun r hr => ?_, cur, hcur, by omega⟩
  · have := hcell 0 (by omega); simpa [frCells] using this
  · have := hcell 1 (by omega); simpa [frCells] using this
  · rw [Nat.add_assoc, hcell (2 + r) (by omega), show 2 + r = r + 1 + 1 by omega]
    simp [frCells, i64s, List.getD, h12, hr]
theorem EngAt.fshape {w : World} {base g : Nat} {P : List Fn} {pv fv ev av : Value} {S : St} (h : EngAt w base g P pv S fv ev av) (hne : S.frames ≠ []) : ∃ fb cap, fv = .slice (some ⟨fb, 0, none⟩) S.frames.length cap := by
  obtain ⟨fb, cap, e, _⟩ := h.frames.form (by have := List.length_pos_iff.2 hne; omega)
  exact ⟨fb, cap, e⟩
/-- What the cells of the engine hold. -/
theorem EngAt.own {w : World} {base g : Nat} {P : List Fn} {pv fv ev av : Value} {S : St} (h : EngAt w base g P pv S fv ev av) :
    w.cell? ⟨g, 0, none⟩ = some (.int .i64 S.status) ∧ w.cell? ⟨g, 1, none⟩ = some (.int .i64 S.value) ∧ w.cell? ⟨g, 2, none⟩ = some fv ∧ w.cell? ⟨g, 19, none⟩ = some (.int .i64 S.fuel) ∧ w.cell? ⟨g, 22, none⟩ = some pv ∧ (∀ k : Nat, k < 16 → w.cell? ⟨g, 3 + k, none⟩ = some (.int .i64 (S.mem.getD k 0))) ∧ (∀ i, w.frozen? ⟨g, i, none⟩ = false) := by
  have hm := h.mem
  refine ⟨?_, ?_, ?_, ?_, ?_, fun k hk => ?_, fun i => row_free h.cells i⟩
  · rw [cell_of_row _ _ _ _ _ _ h.cells]; rfl
  · rw [cell_of_row _ _ _ _ _ _ h.cells]; rfl
  · rw [cell_of_row _ _ _ _ _ _ h.cells]; rfl
  · rw [cell_of_row _ _ _ _ _ _ h.cells, List.getElem?_toArray]; exact engCells_tail fv ev av pv hm 0
  · rw [cell_of_row _ _ _ _ _ _ h.cells, List.getElem?_toArray]; exact engCells_tail fv ev av pv hm 3
  · rw [cell_of_row _ _ _ _ _ _ h.cells, List.getElem?_toArray]; exact engCells_memGet fv ev av pv k (by omega)
end Go.Proofs.YtgdmdlkhnokieaaDoor

/- Contracts of the engine's last, at, put over an engine as a whole; of its ret. -/
namespace Go.Proofs.YtgdmdlkhnokieaaDoor
open Go Go.RowKit

/-- What a method leaves that changes the engine's state. -/
def EngPost (base g : Nat) (P : List Fn) (pv : Value) (S' : St) (w : World) (e : Ending) (w' : World) : Prop :=
  e = .returned (.tuple #[]) ∧ ∃ fv ev av, EngAt w' base g P pv S' fv ev av ∧ Below base w w'

theorem run_field_dst (xo xd xa xb xi : Int) (w : World) : (Instr.field 47 (.agg #[.int .i64 xo, .int .i64 xd, .int .i64 xa, .int .i64 xb, .int .i64 xi]) 1).run Tryd.prog w = .ok (.int .i64 xd) w := by
  unfold Instr.field
  simp [run_underlying Tryd.underlying47, asAgg, part, isAgg, run_underlying Tryd.underlying3]
theorem last_eng {w : World} {base g fb n cap : Nat} {P : List Fn} {pv ev av : Value} {S : St} {fs : List Fr} {f : Fr} (h : EngAt w base g P pv S (.slice (some ⟨fb, 0, none⟩) n cap) ev av) (hS : S.frames = fs ++ [f]) :
    Calls Tryd.prog 21 #[.pointer (some ⟨g, 0, none⟩)] w fun e w' => e = .returned (.pointer (some ⟨fb, fs.length * 14, none⟩)) ∧ Below w.heap.size w w' := by
  obtain ⟨rfl, c1, c2, -⟩ := h.lastCells hS
  exact last_any g fb fs.length cap w h.own.2.2.1 c1 c2
theorem at_eng {w : World} {base g fb n cap : Nat} {P : List Fn} {pv ev av : Value} {S : St} {fs : List Fr} {f : Fr} (h : EngAt w base g P pv S (.slice (some ⟨fb, 0, none⟩) n cap) ev av) (hS : S.frames = fs ++ [f]) (hp : placeB P f = true) :
    Calls Tryd.prog 36 #[.pointer (some ⟨g, 0, none⟩), .pointer (some ⟨fb, fs.length * 14, none⟩)] w fun e w' => e = .returned (insOfFr P f).val ∧ Below w.heap.size w w' := by
  obtain ⟨rfl, c1, c2, l0, l1, -⟩ := h.lastCells hS
  obtain ⟨k, j, pb, po, pcap, b1, off1, m, cap1, e1, e2, rfl, hk, d2, hj, hm, hm1, hpc, hpm, hi⟩ := prog_ins (h.prog w (Below.refl _ _)) hp
  rw [e1] at l0
  rw [e2] at l1
  exact at_any g fb (fs.length * 14) pb po P.length pcap k j b1 off1 m cap1 (insAtFr P f) w h.own.2.2.2.2.1 l0 l1 d2 hi hk hj ⟨hpc, hpm⟩ ⟨hm, hm1⟩
theorem put_eng {w : World} {base g fb n cap : Nat} {P : List Fn} {pv ev av : Value} {S : St} {fs : List Fr} {f : Fr} (h : EngAt w base g P pv S (.slice (some ⟨fb, 0, none⟩) n cap) ev av) (hS : S.frames = fs ++ [f]) (r v : Int) (r0 : 0 ≤ r) (r1 : r < 12) (p0 : 0 ≤ f.pc) (p1 : f.pc ≤ 1000000) :
    Calls Tryd.prog 50 #[.pointer (some ⟨fb, fs.length * 14, none⟩), .int .i64 r, .int .i64 v] w fun e w' => e = .returned (.tuple #[]) ∧ EngAt w' base g P pv { S with frames := fs ++ [putF f r v] } (.slice (some ⟨fb, 0, none⟩) n cap) ev av ∧ Below base w w' := by
  obtain ⟨hn, c1, c2, l0, l1, -, cur, hcur, hsz⟩ := h.lastCells hS
  obtain ⟨k, rfl⟩ := Int.eq_ofNat_of_zero_le r0
  refine (put_any fb (fs.length * 14) k f.pc v w hcur (by omega) (by omega) l1 p0 p1).mono ?_
  rintro e w' ⟨rfl, rfl⟩
  exact ⟨rfl, h.puts hS k v⟩

set_option maxRecDepth 100000 in
set_option maxHeartbeats 2000000 in
theorem ret_last (base g : Nat) (P : List Fn) (pv : Value) (S : St) (fv ev av : Value) (f : Fr) (v : Int) (w : World) (h : EngAt w base g P pv S fv ev av) (hS : S.frames = [f]) :
    Calls Tryd.prog 53 #[.pointer (some ⟨g, 0, none⟩), .int .i64 v] w (EngPost base g P pv { S with frames := [], status := 1, value := v } w) := by
  obtain ⟨fb, cap, rfl⟩ := h.fshape (by rw [hS]; simp)
  have hl : S.frames.length = 1 := by rw [hS]; rfl
  rw [hl] at h
  obtain ⟨q0, q1, q2, -, -, -, qf⟩ := h.own
  obtain ⟨-, c1, c2, -⟩ := h.lastCells (fs := []) (f := f) hS
  have HE : Hid (EngAt w base g P pv S (.slice (some ⟨fb, 0, none⟩) 1 cap) ev av) := h
  have HS : Hid (S.frames = [f]) := hS
  have f0 := qf 0
  have f1 := qf 1
  have f2 := qf 2
  have HP := h.pop (fs := []) (f := f) hS
  obtain ⟨r0, r1, r2, -, -, -, rf⟩ := HP.1.own
  have g0 := rf 0
  have g1 := rf 1
  clear h hS hl HP qf rf
  go_enter Tryd.func53, Tryd.ntmps53
  go_wp2
  go_region
  go_wp2
  go_end0
  have h1 := HE.out.pop (fs := []) (f := f) HS.out
  have h2 := h1.1.put 0 (.int .i64 1) { S with frames := [], status := 1 } rfl HE.out.mem rfl rfl rfl
  have h3 := h2.1.put 1 (.int .i64 v) { S with frames := [], status := 1, value := v } rfl HE.out.mem rfl rfl rfl
  exact ⟨rfl, _, _, _, h3.1.below ((Below.refl _ _).drew), ((h1.2.trans h2.2).trans h3.2).drew⟩

set_option maxRecDepth 100000 in
set_option maxHeartbeats 2000000 in
theorem ret_more (base g : Nat) (P : List Fn) (pv : Value) (S : St) (fv ev av : Value) (fs : List Fr) (c f : Fr) (v : Int) (w : World) (h : EngAt w base g P pv S fv ev av) (hS : S.frames = fs ++ [c] ++ [f]) (hc : codeProg P = 0) (hp : placeB P c = true) :
    Calls Tryd.prog 53 #[.pointer (some ⟨g, 0, none⟩), .int .i64 v] w (EngPost base g P pv { S with frames := fs ++ [putF c (insOfFr P c).dst v] } w) := by
  obtain ⟨fb, cap, rfl⟩ := h.fshape (by rw [hS]; simp)
  have hx := place_ins hc hp
  obtain ⟨k, j, hk, hj, -, hpc, -, -⟩ := place_nat hp
  have hl40 := (fnOk_of hc (List.getElem_mem hk)).1.len2
  have p0 : 0 ≤ c.pc := by omega
  have p1 : c.pc ≤ 1000000 := by omega
  have hAT := fun (w1 : World) (ev1 av1 : Value) (n1 cap1 : Nat) (h1 : EngAt w1 base g P pv { S with frames := fs ++ [c] } (.slice (some ⟨fb, 0, none⟩) n1 cap1) ev1 av1) => at_eng h1 rfl hp
  have d0 := hx.dst0
  have d1 := hx.dst1
  generalize insOfFr P c = x at hAT d0 d1
  obtain ⟨xo, xd, xa, xb, xi⟩ := x
  dsimp only at d0 d1
  unfold Ins.val at hAT
  dsimp only at hAT
  obtain ⟨m, hm⟩ : ∃ m : Nat, m = S.frames.length := ⟨_, rfl⟩
  rw [← hm] at h
  have hml : m = fs.length + 1 + 1 := by rw [hm, hS]; simp
  obtain ⟨q0, q1, q2, -, -, -, qf⟩ := h.own
  obtain ⟨-, c1, c2, -⟩ := h.lastCells hS
  have f2 := qf 2
  have HP := h.pop hS
  have hlen : (fs ++ [c]).length = fs.length + 1 := by simp
  rw [hlen] at HP
  obtain ⟨k, hk2⟩ : ∃ k : Nat, k = fs.length + 1 := ⟨_, rfl⟩
  rw [← hk2] at HP
  obtain ⟨-, -, r2, -, -, -, -⟩ := HP.1.own
  have hw1 : IntKind.i64.wrap ((m : Int) - 1) = k := by rw [show (m : Int) - 1 = k by omega]; exact wrap_fits _ (by omega) (by omega)
  have hk0 : ¬ (k : Int) = 0 := by omega
  have hkc : k ≤ cap := by omega
  have hkI : (k : Int) ≤ cap := by omega
  have HP2 : Hid (EngAt (w.setCell ⟨g, 2, none⟩ (.slice (some ⟨fb, 0, none⟩) k cap)).drew base g P pv { S with frames := fs ++ [c] } (.slice (some ⟨fb, 0, none⟩) k cap) ev av) := HP.1.below ((Below.refl _ _).drew)
  have HPB : Hid (Below base w (w.setCell ⟨g, 2, none⟩ (.slice (some ⟨fb, 0, none⟩) k cap)).drew) := HP.2.drew
  have HATE : Hid _ := hAT
  have hfd := run_field_dst xo xd xa xb xi
  clear h hS HP qf hm hml hlen hk2 hx hp hpc hAT
  go_enter Tryd.func53, Tryd.ntmps53
  go_wp2
  go_region
  go_wp2_with (first
    | (go_at_call 21; refine (last_eng HP2.out rfl).mono ?_; rintro e w2 ⟨rfl, hb2⟩; have HE2 : Hid _ := HP2.out.below hb2; have HZ2 : Hid (base ≤ (w.setCell ⟨g, 2, none⟩ (.slice (some ⟨fb, 0, none⟩) k cap)).drew.heap.size) := HP2.out.base)
    | (go_at_call 36; refine (HATE.out _ _ _ _ _ HE2.out).mono ?_; rintro e w3 ⟨rfl, hb3⟩; have HE3 : Hid _ := HE2.out.below hb3; have HZ3 : Hid (base ≤ w2.heap.size) := HE2.out.base)
    | (go_at_call 50; refine (put_eng HE3.out rfl xd v d0 d1 p0 p1).mono ?_; rintro e w4 ⟨rfl, he4, hb4⟩))
  go_end0
  exact ⟨rfl, _, _, _, he4, (((HPB.out.trans (hb2.mono HZ2.out)).trans (hb3.mono HZ3.out)).trans hb4)⟩
end Go.Proofs.YtgdmdlkhnokieaaDoor

/- Contract of the engine's call. -/
namespace Go.Proofs.YtgdmdlkhnokieaaDoor
open Go Go.RowKit

set_option maxRecDepth 100000 in
set_option maxHeartbeats 2000000 in
theorem call_deep (base g : Nat) (P : List Fn) (pv : Value) (S : St) (fv ev av : Value) (fn a b : Int) (w : World) (h : EngAt w base g P pv S fv ev av) (h8 : S.frames.length = 8) :
    Calls Tryd.prog 51 #[.pointer (some ⟨g, 0, none⟩), .int .i64 fn, .int .i64 a, .int .i64 b] w (EngPost base g P pv { S with status := 5 } w) := by
  obtain ⟨fb, cap, rfl⟩ := h.fshape (by intro e; rw [e] at h8; cases h8)
  rw [h8] at h
  obtain ⟨q0, -, q2, -, -, -, qf⟩ := h.own
  have f0 := qf 0
  have HE : Hid (EngAt w base g P pv S (.slice (some ⟨fb, 0, none⟩) 8 cap) ev av) := h
  clear h qf h8
  go_enter Tryd.func51, Tryd.ntmps51
  go_wp2
  go_end0
  have h1 := HE.out.put 0 (.int .i64 5) { S with status := 5 } rfl HE.out.mem rfl rfl rfl
  exact ⟨rfl, _, _, _, h1.1, h1.2⟩

theorem ints_two {w : World} (a b : Int) (t p : Nat) (hp : p ≤ 2) : IntsVal (w.alloc (.cells #[.int .i64 a, .int .i64 b] t)) (.slice (some ⟨w.heap.size, 0, none⟩) p 2) ([a, b].take p) := by
  refine ⟨_, w.heap.size, 0, p, 2, rfl, by rw [List.length_take]; simp; omega, fun _ => rfl, fun k hk => ?_, ⟨hp, fun e => by cases e⟩, by simp [maxLen]⟩
  rw [cell_of_row _ _ _ _ _ _ (heap_alloc_last w _)]
  rcases (show p = 0 ∨ p = 1 ∨ p = 2 by omega) with rfl | rfl | rfl
  · exact absurd hk (by simp)
  · obtain rfl : k = 0 := by have : k < 1 := hk; omega
    rfl
  · rcases (show k = 0 ∨ k = 1 by have : k < 2 := hk; omega) with rfl | rfl <;> rfl
/-- A frame more, as the walk of an append leaves it. -/
theorem push_eng {w w1 : World} {base g n cap g1 cap1 : Nat} {P : List Fn} {pv ev av : Value} {S : St} {fa : Option Addr} {f : Fr} {cs : List Value} {o : Obj} (h : EngAt w base g P pv S (.slice fa n cap) ev av) (hn : n = S.frames.length) (hf : f.regs.length = 12) (hcs : framesCells [f] = cs)
    (hown : w1.ownsRow base 45 14 (.slice (some ⟨g1, 0, none⟩) (n + 1) cap1) (n + 1) (framesCells S.frames ++ cs)) (hg : (w.alloc o).grownBy w1 (Value.slice fa n cap).ownBlock) (hat : (Value.slice fa n cap).ownBlock = some g1 ∨ g1 = w.heap.size + 1) :
    w1.cell? ⟨g, 2, none⟩ = some (.slice fa n cap) ∧ w1.frozen? ⟨g, 2, none⟩ = false ∧ EngAt (w1.setCell ⟨g, 2, none⟩ (.slice (some ⟨g1, 0, none⟩) (n + 1) cap1)) base g P pv { S with frames := S.frames ++ [f] } (.slice (some ⟨g1, 0, none⟩) (n + 1) cap1) ev av ∧
    Below base w (w1.setCell ⟨g, 2, none⟩ (.slice (some ⟨g1, 0, none⟩) (n + 1) cap1)) := by
  subst hn
  rw [← hcs, ← framesCells_append] at hown
  have hb := (Below.refl w.heap.size w).alloc (Nat.le_refl _) o
  obtain ⟨h1, h2, h3⟩ := (h.below hb).push hf hown hg (by simpa using hat)
  refine ⟨?_, row_free h1 2, h2, (hb.mono h.base).trans h3⟩
  rw [cell_of_row _ _ _ _ _ _ h1]; rfl

set_option maxRecDepth 100000 in
set_option maxHeartbeats 4000000 in
theorem call_more (base g : Nat) (P : List Fn) (pv : Value) (S : St) (fv ev av : Value) (k : Nat) (a b : Int) (w : World) (h : EngAt w base g P pv S fv ev av) (hc : codeProg P = 0) (hk : k < P.length) (h8 : ¬ S.frames.length = 8) (h9 : S.frames.length ≤ 8) :
    Calls Tryd.prog 51 #[.pointer (some ⟨g, 0, none⟩), .int .i64 k, .int .i64 a, .int .i64 b] w (EngPost base g P pv { S with frames := S.frames ++ [begunFr k ([a, b].take P[k].params.toNat)] } w) := by
  obtain ⟨i, hi, e1, e2⟩ : ∃ i, Tryd.prog.info? 45 = some i ∧ i.size = 14 ∧ i.bytes = 112 := by
    have := infoFrame
    cases h : Tryd.prog.info? 45 with
    | none => rw [h] at this; simp at this
    | some i => rw [h] at this; simp at this; exact ⟨i, rfl, this.1, this.2⟩
  have ez : i.zero = some (.agg (zeroFr 0).toArray) := by have := zeroFrame; rw [hi] at this; simpa using this
  have hfn := (fnOk_of hc (List.getElem_mem hk)).1
  obtain ⟨pb, po, pcap, -, rfl, d0, -, -, -, hpm, hpc⟩ := prog_fn (h.prog w (Below.refl _ _)) hk
  obtain ⟨p, hp⟩ := Int.eq_ofNat_of_zero_le hfn.p0
  have hp2 : p ≤ 2 := by have := hfn.p2; omega
  rw [hp] at d0 ⊢
  rw [show ((p : Nat) : Int).toNat = p from rfl]
  have D0 := fun o => cell_alloc d0 o
  obtain ⟨-, -, q2, -, q22, -, qf⟩ := h.own
  have f2 := qf 2
  have Q22 := fun o => cell_alloc q22 o
  obtain ⟨n, hn⟩ : ∃ n : Nat, n = S.frames.length := ⟨_, rfl⟩
  have hfr := h.frames
  rw [← hn] at hfr h8 h9
  obtain ⟨fa, cap, rfl⟩ := own_shape hfr
  have hkI : (k : Int) < P.length := by omega
  have hpI : (p : Int) ≤ 2 := by omega
  have h8I : ¬ (n : Int) = 8 := by omega
  have hlt2 : ([a, b].take p).length ≤ 12 := by simp; omega
  have h12 := begunFr_len k ([a, b].take p) hlt2
  obtain ⟨r0, r1, r2, r3, r4, r5, r6, r7, r8, r9, r10, r11, hrr⟩ := list12 (regsOf_length ([a, b].take p) hlt2)
  have efc : frCells (begunFr k ([a, b].take p)) = [.int .i64 k, .int .i64 0, .int .i64 r0, .int .i64 r1, .int .i64 r2, .int .i64 r3, .int .i64 r4, .int .i64 r5, .int .i64 r6, .int .i64 r7, .int .i64 r8, .int .i64 r9, .int .i64 r10, .int .i64 r11] := by
    unfold frCells begunFr
    dsimp only
    rw [hrr]; rfl
  have HBG : Hid (Calls Tryd.prog 46 #[.int .i64 k, .slice (some ⟨w.heap.size, 0, none⟩) p 2] (w.alloc (.cells #[.int .i64 a, .int .i64 b] 3)).drew fun e w' => e = .returned (.agg #[.int .i64 k, .int .i64 0, .int .i64 r0, .int .i64 r1, .int .i64 r2, .int .i64 r3, .int .i64 r4, .int .i64 r5, .int .i64 r6, .int .i64 r7, .int .i64 r8, .int .i64 r9, .int .i64 r10, .int .i64 r11]) ∧ Below (w.alloc (.cells #[.int .i64 a, .int .i64 b] 3)).drew.heap.size (w.alloc (.cells #[.int .i64 a, .int .i64 b] 3)).drew w') := by
    have := begun_any k (.slice (some ⟨w.heap.size, 0, none⟩) p 2) ([a, b].take p) (w.alloc (.cells #[.int .i64 a, .int .i64 b] 3)).drew ((ints_two a b _ p hp2).keeps (keeps_below ((Below.refl _ _).drew))) hlt2
    rw [efc] at this
    exact this
  have HFC : Hid (framesCells [begunFr k ([a, b].take p)] = [.int .i64 k, .int .i64 0, .int .i64 r0, .int .i64 r1, .int .i64 r2, .int .i64 r3, .int .i64 r4, .int .i64 r5, .int .i64 r6, .int .i64 r7, .int .i64 r8, .int .i64 r9, .int .i64 r10, .int .i64 r11]) := by
    show _ = _
    rw [← efc]; simp [framesCells]
  have HE : Hid (EngAt (w.alloc (.cells #[.int .i64 a, .int .i64 b] 3)).drew base g P (.slice (some ⟨pb, po, none⟩) P.length pcap) S (.slice fa n cap) ev av) := h.below (((Below.refl _ _).alloc (Nat.le_refl _) _).drew)
  have H12 : Hid ((begunFr k ([a, b].take p)).regs.length = 12) := h12
  have HN : Hid (n = S.frames.length) := hn
  have HBW : Hid (Below base w (w.alloc (.cells #[.int .i64 a, .int .i64 b] 3)).drew) := ((Below.refl _ _).alloc h.base _).drew
  have c2 : (w.alloc (.cells #[.int .i64 a, .int .i64 b] 3)).drew.cell? ⟨g, 2, none⟩ = some (.slice fa n cap) := HE.out.own.2.2.1
  clear h hfr qf hn hp hfn hc hrr efc h12 hlt2 q22 d0
  go_enter Tryd.func51, Tryd.ntmps51
  go_wp2
  go_region_law ((first
      | (refine step_append_lies _ (by rfl) (.tmp 38) (.tmp 42) 31 (by rfl) base 45 i _ 14 112 Tryd.underlying31 hi ez e1 e2 rfl (by decide) (.slice fa n cap) n (framesCells S.frames) (by rfl) (HO.out.alloc _) ⟨w2.heap.size, 0, none⟩ 1 1 [.int .i64 k, .int .i64 0, .int .i64 r0, .int .i64 r1, .int .i64 r2, .int .i64 r3, .int .i64 r4, .int .i64 r5, .int .i64 r6, .int .i64 r7, .int .i64 r8, .int .i64 r9, .int .i64 r10, .int .i64 r11] (by rfl) rfl (news_list _ _ _ _ rfl) (by rw [← HFC.out]; exact framesCells_one _) (by omega) (by unfold maxLen; omega) (by omega) (by simp; omega) (w2.heap.size + 1) (by simp) ?_; intro g4 cap4 w4 hown4 hg4 hat4 hlt4; have HQ : Hid _ := push_eng HE2.out HN.out H12.out HFC.out hown4 hg4 hat4; have qc := HQ.out.1; have qf := HQ.out.2.1)
      | (go_simp; go_at_call 46; refine HBG.out.mono ?_; rintro e w2 ⟨rfl, hb2⟩; have HE2 : Hid (EngAt w2 base g P (.slice (some ⟨pb, po, none⟩) P.length pcap) S (.slice fa n cap) ev av) := HE.out.below hb2; have s2 : w2.cell? ⟨g, 2, none⟩ = some (.slice fa n cap) := HE2.out.own.2.2.1; have s3 := cell_alloc s2; have z1 := HE2.out.base; have HO : Hid (w2.ownsRow base 45 14 (.slice fa n cap) n (framesCells S.frames)) := (by have := HE2.out.frames; rw [← HN.out] at this; exact this); go_wp2_with fail)))
  all_goals
    go_end0
    exact ⟨rfl, _, _, _, HQ.out.2.2.1, (HBW.out.trans (hb2.mono HE.out.base)).trans HQ.out.2.2.2⟩
end Go.Proofs.YtgdmdlkhnokieaaDoor

/- Contract of step.Check. -/
namespace Go.Proofs.YtgdmdlkhnokieaaDoor
open Go Go.RowKit

/-- What Check answers, behind what the proof says. -/
def checkE (E : Int) (P : List Fn) (s : St) : Int := if ¬ E = 0 then E else if mayB s && framesB P s.frames then 0 else 8

set_option maxRecDepth 100000 in
set_option maxHeartbeats 2000000 in
theorem stepCheck_any (P : List Fn) (v sv : Value) (s : St) (w : World) (ht : TabOk w) (hc : CallOk w) (hv : ProgVal w v P) (hs : StVal w sv s) :
    Calls Tryd.prog 18 #[.agg #[v], sv] w fun e w' => ∃ E, ProofAns P E ∧ e = .returned (.int .i64 (checkE E P s)) ∧ Below w.heap.size w w' := by
  have hbx : ∀ o o', Below w.heap.size w ((w.alloc o).alloc o') := fun o o' => ((Below.refl _ _).alloc (Nat.le_refl _) _).alloc (by simp) _
  obtain ⟨ao, n0, cap0, rfl⟩ := hv.shape
  have HV : Hid (ProgVal w (.slice ao n0 cap0) P) := hv
  have HTC : Hid (TabOk w ∧ CallOk w) := ⟨ht, hc⟩
  obtain ⟨status, value, frames, mem, fuel, events, answers⟩ := s
  have hS := hs
  obtain ⟨fv, ev, av, rfl, hm, hf, he, ha⟩ := hs
  dsimp only at hm hf he ha
  have HF : Hid (FramesVal w fv frames) := hf
  obtain ⟨fa, fc, rfl⟩ := hf.shape
  obtain ⟨ea, ec, rfl⟩ := he.shape
  obtain ⟨aa, ac, rfl⟩ := ha.shape
  obtain ⟨cs, hcs⟩ : ∃ cs, cs = (stCells ⟨status, value, frames, mem, fuel, events, answers⟩ (.slice fa frames.length fc) (.slice ea events.length ec) (.slice aa answers.length ac)).toArray := ⟨_, rfl⟩
  have hsz : (Tryd.prog.info? 34).map (·.size) = some cs.size := by rw [hcs, List.size_toArray, stCells_length _ _ _ _ hm]; exact infoSt
  have h2 : cs[2]? = some (.slice fa frames.length fc) := by rw [hcs]; simp [stCells]
  rw [← hcs] at hS
  rw [← hcs]
  have HS : Hid (StVal w (.agg cs) ⟨status, value, frames, mem, fuel, events, answers⟩) := hS
  have hC := fun o o' => pcheck_any P (.slice ao n0 cap0) ((w.alloc o).alloc o') (ht.below (hbx o o')) (hc.below (hbx o o')) (hv.keeps (keeps_below (hbx o o')))
  clear hf he ha hS hcs hm ht hc hv
  go_enter Tryd.func18, Tryd.ntmps18
  go_upto_region 2 with (go_at_call 13; refine (hC _ _).mono ?_; rintro e w1 ⟨E, rfl, hE, hb1⟩)
  have k0 := keeps_below hb1 ⟨w.heap.size, 0, none⟩ (.slice ao n0 cap0) (by rw [cell_of_row _ _ _ _ _ _ (heap_alloc2_old _ _ _)]; rfl)
  have h9 : w1.heap[w.heap.size + 1]? = some (.cells cs 34 (0, 0)) := (hb1.block _ (by simp)).trans (heap_alloc2_new _ _ _)
  have f2 : w1.cell? ⟨w.heap.size + 1, 2, none⟩ = some (.slice fa frames.length fc) := by rw [cell_of_row _ _ _ _ _ _ h9]; exact h2
  have hz1 : w.heap.size + 2 ≤ w1.heap.size := by have := hb1.size; simpa using this
  have HB1 : Hid (Below w.heap.size w w1) := (hbx _ _).trans (hb1.mono (by simp; omega))
  have hM : Hid (∀ W, Below w.heap.size w W → Calls Tryd.prog 32 #[.agg cs] W fun e w' => e = .returned (.bool (mayB ⟨status, value, frames, mem, fuel, events, answers⟩)) ∧ Below W.heap.size W w') := fun W hW => mayBe_any _ _ W (HS.out.keeps (keeps_below hW))
  have hFM : Hid (∀ W, Below w.heap.size w W → Calls Tryd.prog 33 #[.agg #[.slice ao n0 cap0], .slice fa frames.length fc] W fun e w' => e = .returned (.bool (framesB P frames)) ∧ Below W.heap.size W w') := fun W hW => framesMay_any P _ _ frames W (HV.out.keeps (keeps_below hW)) (HF.out.keeps (keeps_below hW))
  have HE : Hid (ProofAns P E) := hE
  clear hb1 hC hE
  by_cases hE0 : E = 0
  · subst hE0
    cases hmb : mayB ⟨status, value, frames, mem, fuel, events, answers⟩
    · have HR : Hid (checkE 0 P ⟨status, value, frames, mem, fuel, events, answers⟩ = 8) := by show _ = _; unfold checkE; rw [hmb]; rfl
      rw [hmb] at hM
      clear hmb
      go_wp2_with (first
        | (refine wpList_load_row rfl _ _ rfl _ rfl _ _ _ _ h9 Tryd.underlying34 rfl hsz ?_)
        | (go_at_call 32; refine (hM.out _ HB1.out).mono ?_; rintro e w2 ⟨rfl, hb2⟩; have k2 := keeps_below hb2 _ _ k0; have f2' := keeps_below hb2 _ _ f2; have HB2 : Hid (Below w.heap.size w w2) := HB1.out.trans (hb2.mono (by omega)); clear hb2)
        | (go_at_call 33; refine (hFM.out _ HB2.out).mono ?_; rintro e w3 ⟨rfl, hb3⟩))
      go_ret
      exact ⟨0, HE.out, by rw [HR.out]; rfl, HB2.out⟩
    · cases hfb : framesB P frames
      · have HR : Hid (checkE 0 P ⟨status, value, frames, mem, fuel, events, answers⟩ = 8) := by show _ = _; unfold checkE; dsimp only; rw [hmb, hfb]; rfl
        rw [hmb] at hM
        rw [hfb] at hFM
        clear hmb hfb
        go_wp2_with (first
          | (refine wpList_load_row rfl _ _ rfl _ rfl _ _ _ _ h9 Tryd.underlying34 rfl hsz ?_)
          | (go_at_call 32; refine (hM.out _ HB1.out).mono ?_; rintro e w2 ⟨rfl, hb2⟩; have k2 := keeps_below hb2 _ _ k0; have f2' := keeps_below hb2 _ _ f2; have HB2 : Hid (Below w.heap.size w w2) := HB1.out.trans (hb2.mono (by omega)); clear hb2)
          | (go_at_call 33; refine (hFM.out _ HB2.out).mono ?_; rintro e w3 ⟨rfl, hb3⟩))
        go_ret
        exact ⟨0, HE.out, by rw [HR.out]; rfl, HB2.out.trans (hb3.mono HB2.out.size)⟩
      · have HR : Hid (checkE 0 P ⟨status, value, frames, mem, fuel, events, answers⟩ = 0) := by show _ = _; unfold checkE; dsimp only; rw [hmb, hfb]; rfl
        rw [hmb] at hM
        rw [hfb] at hFM
        clear hmb hfb
        go_wp2_with (first
          | (refine wpList_load_row rfl _ _ rfl _ rfl _ _ _ _ h9 Tryd.underlying34 rfl hsz ?_)
          | (go_at_call 32; refine (hM.out _ HB1.out).mono ?_; rintro e w2 ⟨rfl, hb2⟩; have k2 := keeps_below hb2 _ _ k0; have f2' := keeps_below hb2 _ _ f2; have HB2 : Hid (Below w.heap.size w w2) := HB1.out.trans (hb2.mono (by omega)); clear hb2)
          | (go_at_call 33; refine (hFM.out _ HB2.out).mono ?_; rintro e w3 ⟨rfl, hb3⟩))
        go_ret
        exact ⟨0, HE.out, by rw [HR.out]; rfl, HB2.out.trans (hb3.mono HB2.out.size)⟩
  · have HR : Hid (checkE E P ⟨status, value, frames, mem, fuel, events, answers⟩ = E) := by show _ = _; unfold checkE; rw [if_pos hE0]
    go_wp2
    go_ret
    exact ⟨E, HE.out, by rw [HR.out]; rfl, HB1.out⟩
end Go.Proofs.YtgdmdlkhnokieaaDoor
