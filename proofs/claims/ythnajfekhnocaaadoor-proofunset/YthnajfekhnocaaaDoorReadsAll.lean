/- Contracts of proof.checkFunction and proof.Reads. -/
import Derived.Test.YthnajfekhnocaaaDoorReads
import Derived.Test.YthnajfekhnocaaaDoorZero
import Derived.Test.YthnajfekhnocaaaDoorRefProg
import Derived.Test.YthnajfekhnocaaaDoorLater
import Derived.OwnWalk
namespace Go.Proofs.YthnajfekhnocaaaDoor
open Go Go.RowKit

/-- What a well shaped program's instructions are. -/
theorem insOk_of {P : List Fn} (h : codeProg P = 0) {f : Fn} (hf : f ∈ P) {x : Ins} (hx : x ∈ f.code) : InsOk P x := by
  obtain ⟨h1, h4, hall⟩ := codeProg_zero h
  obtain ⟨r1, r2, _, _, _, _, l2, hi⟩ := codeFunc_zero (hall f hf)
  have hz := hi x hx
  rw [instr_same] at hz
  unfold refInstr at hz
  by_cases k1 : inB x.op 1 19 = false
  · rw [if_pos k1] at hz; cases hz
  rw [if_neg k1] at hz
  by_cases k2 : refOk1 x f.regs = false
  · rw [if_pos k2] at hz; cases hz
  rw [if_neg k2] at hz
  by_cases k3 : refOk2 x f.code.length P.length = false
  · rw [if_pos k3] at hz; cases hz
  replace k1 : inB x.op 1 19 = true := by simpa using k1
  replace k2 : refOk1 x f.regs = true := by simpa using k2
  replace k3 : refOk2 x f.code.length P.length = true := by simpa using k3
  obtain ⟨o1, o2⟩ : 1 ≤ x.op ∧ x.op ≤ 19 := by simpa [inB] using k1
  have may : ∀ (n : Int) (is : Bool), regMayB n is f.regs = true → 0 ≤ n ∧ n < 12 := by
    intro n is h
    cases is
    · have : n = 0 := by simpa [regMayB] using h
      omega
    · have : 0 ≤ n ∧ n ≤ f.regs - 1 := by simpa [regMayB, inB] using h
      omega
  simp only [refOk1, Bool.and_eq_true] at k2
  obtain ⟨⟨m1, m2⟩, m3⟩ := k2
  refine ⟨o1, o2, (may _ _ m1).1, (may _ _ m1).2, (may _ _ m2).1, (may _ _ m2).2, (may _ _ m3).1, (may _ _ m3).2, fun h17 => ?_⟩
  have : 0 ≤ x.imm ∧ x.imm ≤ (P.length : Int) - 1 := by simpa [refOk2, h17, inB] using k3
  have hk : x.imm.toNat < P.length := by omega
  obtain ⟨_, _, p0, p1, _⟩ := codeFunc_zero (hall P[x.imm.toNat] (List.getElem_mem hk))
  have e : paramsAt P x.imm = P[x.imm.toNat].params := by simp [paramsAt, List.getD, hk]
  rw [e]
  exact ⟨this.1, by omega, p0, p1⟩

/-- Is there such a function in a program that may be? -/
def fnErr (P : List Fn) (fn : Int) : Int := if codeProg P = 0 then (if 0 ≤ fn ∧ fn < P.length then 0 else 2) else codeProg P

theorem checkFunction_any (P : List Fn) (v : Value) (fn : Int) (w : World) (ht : TabOk w) (hv : ProgVal w v P) :
    Calls Tryd.prog 22 #[.agg #[v], .int .i64 fn] w fun e w' => e = .returned (.int .i64 (fnErr P fn)) ∧ Below w.heap.size w w' := by
  have hbx : ∀ o, Below w.heap.size w (w.alloc o) := fun o => (Below.refl _ _).alloc (Nat.le_refl _) _
  have hC := fun o => check_any P v (w.alloc o) (ht.below (hbx o)) (hv.keeps (keeps_below (hbx o)))
  obtain ⟨ao, b, off, n, cap, rfl, hin, hcap, hmax⟩ := hv
  obtain ⟨hlen, _, _⟩ := hin
  unfold maxLen at hmax
  unfold fnErr
  rw [hlen]
  clear ht hbx hlen
  by_cases h0 : codeProg P = 0
  · rw [if_pos h0]
    rw [h0] at hC
    clear h0
    by_cases h1 : 0 ≤ fn
    · by_cases h2 : fn < n
      · rw [if_pos ⟨h1, h2⟩]
        go_enter Tryd.func22, Tryd.ntmps22
        go_wp2_with (go_at_call 27; refine (hC _).mono ?_; rintro e w1 ⟨rfl, hb1⟩; have k0 := keeps_below hb1 ⟨w.heap.size, 0, none⟩ (.slice ao n cap) (by simp))
        go_ret
        exact ⟨rfl, ((Below.refl _ _).alloc (Nat.le_refl _) _).trans (hb1.mono (by simp))⟩
      · rw [if_neg (by omega)]
        go_enter Tryd.func22, Tryd.ntmps22
        go_wp2_with (go_at_call 27; refine (hC _).mono ?_; rintro e w1 ⟨rfl, hb1⟩; have k0 := keeps_below hb1 ⟨w.heap.size, 0, none⟩ (.slice ao n cap) (by simp))
        go_ret
        exact ⟨rfl, ((Below.refl _ _).alloc (Nat.le_refl _) _).trans (hb1.mono (by simp))⟩
    · rw [if_neg (by omega)]
      go_enter Tryd.func22, Tryd.ntmps22
      go_wp2_with (go_at_call 27; refine (hC _).mono ?_; rintro e w1 ⟨rfl, hb1⟩; have k0 := keeps_below hb1 ⟨w.heap.size, 0, none⟩ (.slice ao n cap) (by simp))
      go_ret
      exact ⟨rfl, ((Below.refl _ _).alloc (Nat.le_refl _) _).trans (hb1.mono (by simp))⟩
  · rw [if_neg h0]
    have h0' : (codeProg P != 0) = true := by simpa using h0
    clear h0
    go_enter Tryd.func22, Tryd.ntmps22
    go_wp2_with (go_at_call 27; refine (hC _).mono ?_; rintro e w1 ⟨rfl, hb1⟩; have k0 := keeps_below hb1 ⟨w.heap.size, 0, none⟩ (.slice ao n cap) (by simp))
    go_ret
    exact ⟨rfl, ((Below.refl _ _).alloc (Nat.le_refl _) _).trans (hb1.mono (by simp))⟩

def codeAt (P : List Fn) (fn : Nat) : List Ins := (P.getD fn ⟨0, 0, []⟩).code
def insAtP (P : List Fn) (fn pc : Nat) : Ins := (codeAt P fn).getD pc ⟨0, 0, 0, 0, 0⟩

theorem reads_bad (P : List Fn) (v : Value) (fn pc : Int) (w : World) (ht : TabOk w) (hv : ProgVal w v P) (h : fnErr P fn ≠ 0) :
    Calls Tryd.prog 16 #[.agg #[v], .int .i64 fn, .int .i64 pc] w fun e w' => e = .returned (.tuple #[.int .i64 0, .int .i64 0, .int .i64 (fnErr P fn)]) ∧ Below w.heap.size w w' := by
  have hbx : ∀ o, Below w.heap.size w (w.alloc o) := fun o => (Below.refl _ _).alloc (Nat.le_refl _) _
  have hC := fun o => checkFunction_any P v fn (w.alloc o) (ht.below (hbx o)) (hv.keeps (keeps_below (hbx o)))
  obtain ⟨ao, b, off, n, cap, rfl, _⟩ := hv
  have h' : (fnErr P fn != 0) = true := by simpa using h
  clear h ht hbx
  go_enter Tryd.func16, Tryd.ntmps16
  go_wp2_with (go_at_call 22; refine (hC _).mono ?_; rintro e w1 ⟨rfl, hb1⟩)
  go_ret3
  exact ⟨rfl, ((Below.refl _ _).alloc (Nat.le_refl _) _).trans (hb1.mono (by simp))⟩

theorem fnErr_zero {P : List Fn} {fn : Int} (h : fnErr P fn = 0) : codeProg P = 0 ∧ 0 ≤ fn ∧ fn < P.length := by
  unfold fnErr at h
  by_cases h0 : codeProg P = 0
  · rw [if_pos h0] at h
    by_cases h1 : 0 ≤ fn ∧ fn < P.length
    · exact ⟨h0, h1⟩
    · rw [if_neg h1] at h; cases h
  · rw [if_neg h0] at h; exact absurd h h0

set_option maxHeartbeats 1000000 in
theorem reads_range (P : List Fn) (v : Value) (fn pc : Int) (w : World) (ht : TabOk w) (hv : ProgVal w v P) (h : fnErr P fn = 0) (hpc : pc < 0 ∨ (codeAt P fn.toNat).length ≤ pc) :
    Calls Tryd.prog 16 #[.agg #[v], .int .i64 fn, .int .i64 pc] w fun e w' => e = .returned (.tuple #[.int .i64 0, .int .i64 0, .int .i64 2]) ∧ Below w.heap.size w w' := by
  have hbx : ∀ o, Below w.heap.size w (w.alloc o) := fun o => (Below.refl _ _).alloc (Nat.le_refl _) _
  have hC := fun o => checkFunction_any P v fn (w.alloc o) (ht.below (hbx o)) (hv.keeps (keeps_below (hbx o)))
  rw [h] at hC
  obtain ⟨h0, f0, f1⟩ := fnErr_zero h
  obtain ⟨ao, b, off, n, cap, rfl, ⟨hlen, haddr, hat⟩, hcap, hmax⟩ := hv
  obtain ⟨k, rfl⟩ := Int.eq_ofNat_of_zero_le f0
  have hk : k < P.length := by omega
  obtain ⟨u, hu⟩ := hat k hk
  obtain rfl := haddr (by omega)
  have e : codeAt P (k : Int).toNat = P[k].code := by simp [codeAt, List.getD, hk]
  rw [e] at hpc
  generalize hg : P[k] = g at hu hpc e
  clear hg e
  obtain ⟨d0, d1, d2, hcv⟩ := hu
  obtain ⟨ao1, b1, off1, n1, cap1, rfl, ⟨hlen1, _, _⟩, _, hmax1⟩ := hcv
  unfold maxLen at hmax1
  rw [hlen1] at hpc
  have hkn : (k : Int) < n := by omega
  have t0 := fun o => cell_alloc d0 o
  have t1 := fun o => cell_alloc d1 o
  have t2 := fun o => cell_alloc d2 o
  clear hlen1 d0 d1 d2 hat haddr hlen f1 f0 ht hbx h h0 hk
  rcases hpc with hpc | hpc
  all_goals
    go_enter Tryd.func16, Tryd.ntmps16
    go_wp2_with (go_at_call 22; refine (hC _).mono ?_; rintro e w1 ⟨rfl, hb1⟩; have k0 := keeps_below hb1 ⟨w.heap.size, 0, none⟩ (.slice (some ⟨b, off, none⟩) n cap) (by simp); have k1 := keeps_below hb1 _ _ (t0 _); have k2 := keeps_below hb1 _ _ (t1 _); have k3 := keeps_below hb1 _ _ (t2 _))
    go_ret3
    exact ⟨rfl, (((Below.refl _ _).alloc (Nat.le_refl _) _).trans (hb1.mono (by simp))).alloc (by have := hb1.size; simp at this; omega) _⟩

set_option maxHeartbeats 1000000 in
theorem reads_ok (P : List Fn) (v : Value) (k j : Nat) (w : World) (ht : TabOk w) (hc : CallOk w) (hv : ProgVal w v P) (h : fnErr P k = 0) (hpc : j < (codeAt P k).length) :
    Calls Tryd.prog 16 #[.agg #[v], .int .i64 k, .int .i64 j] w fun e w' => e = .returned (.tuple #[.int .i64 (rdMask P (insAtP P k j)), .int .i64 (setMask (insAtP P k j)), .int .i64 0]) ∧ Below w.heap.size w w' := by
  have hbx : ∀ o, Below w.heap.size w (w.alloc o) := fun o => (Below.refl _ _).alloc (Nat.le_refl _) _
  have hC := fun o => checkFunction_any P v k (w.alloc o) (ht.below (hbx o)) (hv.keeps (keeps_below (hbx o)))
  rw [h] at hC
  obtain ⟨h0, f0, f1⟩ := fnErr_zero h
  have hv' := hv
  obtain ⟨ao, b, off, n, cap, rfl, ⟨hlen, haddr, hat⟩, hcap, hmax⟩ := hv'
  have hk : k < P.length := by omega
  obtain ⟨u, hu⟩ := hat k hk
  obtain rfl := haddr (by omega)
  have e : codeAt P k = P[k].code := by simp [codeAt, List.getD, hk]
  have hj : j < P[k].code.length := by rw [← e]; exact hpc
  have e2 : insAtP P k j = P[k].code[j] := by simp [insAtP, e, List.getD, hj]
  have hio : InsOk P P[k].code[j] := insOk_of h0 (List.getElem_mem hk) (List.getElem_mem hj)
  rw [e2]
  clear e2 hpc e
  generalize hg : P[k] = g at hu hj hio
  obtain ⟨d0, d1, d2, hcv⟩ := hu
  obtain ⟨ao1, b1, off1, n1, cap1, rfl, ⟨hlen1, haddr1, hat1⟩, _, hmax1⟩ := hcv
  obtain rfl := haddr1 (by omega)
  have gi := hat1 j hj
  generalize hgx : g.code[j] = x at hio gi
  have gj : ∀ o, insAt (w.alloc o) b1 (off1 + j * 5) x := fun o => gi.keeps (keeps_below (hbx o))
  unfold maxLen at hmax1
  have hkn : (k : Int) < n := by omega
  have hjn : (j : Int) < n1 := by omega
  have hB0 : ∀ o, TabOk (w.alloc o) ∧ CallOk (w.alloc o) ∧ ProgVal (w.alloc o) (.slice (some ⟨b, off, none⟩) n cap) P := fun o => ⟨ht.below (hbx o), hc.below (hbx o), hv.keeps (keeps_below (hbx o))⟩
  have t0 := fun o => cell_alloc d0 o
  have t1 := fun o => cell_alloc d1 o
  have t2 := fun o => cell_alloc d2 o
  clear hlen1 d0 d1 d2 hat haddr hlen f1 f0 ht hbx h h0 hk hg hgx hat1 gi hc hv haddr1 hj
  go_enter Tryd.func16, Tryd.ntmps16
  go_wp2_with (go_at_call 22; refine (hC _).mono ?_; rintro e w1 ⟨rfl, hb1⟩; have k0 := keeps_below hb1 ⟨w.heap.size, 0, none⟩ (.slice (some ⟨b, off, none⟩) n cap) (by simp); have k1 := keeps_below hb1 _ _ (t0 _); have k2 := keeps_below hb1 _ _ (t1 _); have k3 := keeps_below hb1 _ _ (t2 _); have hz : w.heap.size < w1.heap.size := (by have := hb1.size; simp at this; omega))
  have hal : Below w1.heap.size w1 (w1.alloc (.cells #[.int .i64 g.params, .int .i64 g.regs, .slice (some ⟨b1, off1, none⟩) n1 cap1] 43)) := (Below.refl _ _).alloc (Nat.le_refl _) _
  have HB : Hid (Below w.heap.size w (w1.alloc (.cells #[.int .i64 g.params, .int .i64 g.regs, .slice (some ⟨b1, off1, none⟩) n1 cap1] 43))) := (((Below.refl _ _).alloc (Nat.le_refl _) _).trans (hb1.mono (by simp))).alloc (by omega) _
  obtain ⟨g0, g1, g2, g3, g4⟩ := ((gj _).keeps (keeps_below hb1)).keeps (keeps_below hal)
  have hW := hB0 (.cells #[.slice (some ⟨b, off, none⟩) n cap] 24)
  have hTW := (hW.1.below hb1).below hal
  have hCW := (hW.2.1.below hb1).below hal
  have hPW := (hW.2.2.keeps (keeps_below hb1)).keeps (keeps_below hal)
  have hTd : ∀ d : Later (w1.alloc (.cells #[.int .i64 g.params, .int .i64 g.regs, .slice (some ⟨b1, off1, none⟩) n1 cap1] 43)), TabOk d.to ∧ CallOk d.to ∧ ProgVal d.to (.slice (some ⟨b, off, none⟩) n cap) P := fun d => ⟨hTW.below d.below, hCW.below d.below, hPW.keeps (keeps_below d.below)⟩
  have e0 := Later.cell (cell_alloc k0 (.cells #[.int .i64 g.params, .int .i64 g.regs, .slice (some ⟨b1, off1, none⟩) n1 cap1] 43))
  have e1 := Later.cell (show (w1.alloc (.cells #[.int .i64 g.params, .int .i64 g.regs, .slice (some ⟨b1, off1, none⟩) n1 cap1] 43)).cell? ⟨w1.heap.size, 2, none⟩ = some (.slice (some ⟨b1, off1, none⟩) n1 cap1) by simp)
  have m0 := Later.cell g0
  have m1 := Later.cell g1
  have m2 := Later.cell g2
  have m3 := Later.cell g3
  have m4 := Later.cell g4
  clear hW hTW hCW hPW hB0 k0 k1 k2 k3 g0 g1 g2 g3 g4 t0 t1 t2 hb1 hal gj hC
  refine wp_region_later (by kernel_rfl) (by kernel_rfl) ?_
  repeat (go_big_quiet_step ((first | (go_at_call 31; exact calls_later (readBits_any P _ x _ (hTd _).1 (hTd _).2.1 (hTd _).2.2 hio)) | (go_at_call 32; exact calls_later (setBit_any P x _ (hTd _).1 hio)))))
  refine wpQuiet_nil ?_
  intro _ hw'
  obtain ⟨d, hw''⟩ := hw'
  subst hw''
  go_wp2
  go_ret3
  exact ⟨rfl, HB.out.trans (d.below.mono (by have := HB.out.size; omega))⟩

end Go.Proofs.YthnajfekhnocaaaDoor
