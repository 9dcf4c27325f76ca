/- Contracts of step.hasPlace and step.mayBe. -/
import Derived.Test.YtgdmdlkhnokieaaDoorGroupC
import Derived.BigQuiet
import Derived.Deep.QuietTactic
namespace Go.Proofs.YtgdmdlkhnokieaaDoor
open Go Go.RowKit

/-- Is a frame at a place of the program? -/
def placeB (P : List Fn) (f : Fr) : Bool := decide (0 ≤ f.fn ∧ f.fn < P.length ∧ 0 ≤ f.pc ∧ f.pc < ((P.getD f.fn.toNat ⟨0, 0, []⟩).code.length : Int))

theorem prog_code {w : World} {v : Value} {P : List Fn} (hv : ProgVal w v P) {k : Nat} (hk : k < P.length) :
    ∃ b off cap a1 cap1, v = .slice (some ⟨b, off, none⟩) P.length cap ∧ w.cell? ⟨b, off + k * 3 + 2, none⟩ = some (.slice a1 P[k].code.length cap1) ∧ P.length ≤ cap ∧ cap ≤ 9223372036854775807 := by
  obtain ⟨ao, b, off, n, cap, rfl, ⟨hlen, haddr, hat⟩, hcap, hmax⟩ := hv
  subst hlen
  obtain rfl := haddr (by omega)
  obtain ⟨u, d0, d1, d2, hcv⟩ := hat k hk
  obtain ⟨ao1, b1, off1, n1, cap1, rfl, ⟨hlen1, haddr1, hat1⟩, hc1, hmax1⟩ := hcv
  subst hlen1
  exact ⟨b, off, cap, ao1, cap1, rfl, d2, hcap.1, by simpa [maxLen] using hmax⟩

set_option maxRecDepth 100000 in
set_option maxHeartbeats 1000000 in
theorem hasPlace_any (P : List Fn) (v : Value) (f : Fr) (w : World) (hv : ProgVal w v P) (hf : f.regs.length = 12) :
    Calls Tryd.prog 20 #[.agg #[v], .agg (frCells f).toArray] w fun e w' => e = .returned (.bool (placeB P f)) ∧ Below w.heap.size w w' := by
  obtain ⟨fn, pc, regs⟩ := f
  obtain ⟨r0, r1, r2, r3, r4, r5, r6, r7, r8, r9, r10, r11, rfl⟩ := list12 hf
  have hbx : ∀ o o', Below w.heap.size w ((w.alloc o).alloc o') := fun o o' => ((Below.refl _ _).alloc (Nat.le_refl _) _).alloc (by simp) _
  simp only [frCells, i64s, List.map_cons, List.map_nil]
  by_cases c1 : 0 ≤ fn
  · by_cases c2 : fn < P.length
    · obtain ⟨k, rfl⟩ := Int.eq_ofNat_of_zero_le c1
      have hk : k < P.length := by omega
      obtain ⟨b, off, cap, a1, cap1, rfl, d2, hpc, hcm⟩ := prog_code hv hk
      have eP : (P.getD (k : Int).toNat ⟨0, 0, []⟩) = P[k] := by simp [List.getD, List.getElem?_eq_getElem hk]
      have HP : Hid (placeB P ⟨k, pc, [r0, r1, r2, r3, r4, r5, r6, r7, r8, r9, r10, r11]⟩ = decide (0 ≤ pc ∧ pc < (P[k].code.length : Int))) := by
        show _ = _
        unfold placeB
        dsimp only
        rw [eP]
        exact decide_eq_decide.2 ⟨fun h => ⟨h.2.2.1, h.2.2.2⟩, fun h => ⟨by omega, by omega, h.1, h.2⟩⟩
      have D2 : ∀ o o', ((w.alloc o).alloc o').cell? ⟨b, off + k * 3 + 2, none⟩ = some (.slice a1 P[k].code.length cap1) := fun o o' => keeps_below (hbx o o') _ _ d2
      generalize P[k].code.length = m at HP D2
      by_cases c3 : 0 ≤ pc
      · by_cases c4 : pc < m
        · have e : placeB P ⟨k, pc, [r0, r1, r2, r3, r4, r5, r6, r7, r8, r9, r10, r11]⟩ = true := by rw [HP.out]; simp; omega
          rw [e]
          clear e hv d2
          go_enter Tryd.func20, Tryd.ntmps20
          go_wp2
          go_quiet (fail)
          go_wp2
          go_ret
          exact ⟨rfl, below_drewN (hbx _ _) _⟩
        · have e : placeB P ⟨k, pc, [r0, r1, r2, r3, r4, r5, r6, r7, r8, r9, r10, r11]⟩ = false := by rw [HP.out]; simp; omega
          rw [e]
          have d4 : decide (pc < (m : Int)) = false := by simp; omega
          clear e hv d2
          go_enter Tryd.func20, Tryd.ntmps20
          go_wp2
          go_quiet (fail)
          go_wp2
          go_ret
          exact ⟨rfl, below_drewN (hbx _ _) _⟩
      · have e : placeB P ⟨k, pc, [r0, r1, r2, r3, r4, r5, r6, r7, r8, r9, r10, r11]⟩ = false := by rw [HP.out]; simp; omega
        rw [e]
        have d3 : decide (0 ≤ pc) = false := by simp; omega
        clear e hv d2
        go_enter Tryd.func20, Tryd.ntmps20
        go_wp2
        go_quiet (fail)
        go_wp2
        go_ret
        exact ⟨rfl, below_drewN (hbx _ _) _⟩
    · have e : placeB P ⟨fn, pc, [r0, r1, r2, r3, r4, r5, r6, r7, r8, r9, r10, r11]⟩ = false := by unfold placeB; simp; omega
      rw [e]
      obtain ⟨ao, n, cap, rfl⟩ := hv.shape
      have hn : P.length = n := by obtain ⟨_, _, _, _, _, hh, ⟨hl, _⟩, _⟩ := hv; simp at hh; rw [hl, hh.2.1]
      rw [hn] at c2
      have d2 : decide (fn < (n : Int)) = false := by simp; omega
      clear e hv hn
      go_enter Tryd.func20, Tryd.ntmps20
      go_wp2
      go_quiet (fail)
      go_wp2
      go_ret
      exact ⟨rfl, below_drewN (hbx _ _) _⟩
  · have e : placeB P ⟨fn, pc, [r0, r1, r2, r3, r4, r5, r6, r7, r8, r9, r10, r11]⟩ = false := by unfold placeB; simp; omega
    rw [e]
    obtain ⟨ao, n, cap, rfl⟩ := hv.shape
    have d1 : decide (0 ≤ fn) = false := by simp; omega
    clear e hv
    go_enter Tryd.func20, Tryd.ntmps20
    go_wp2
    go_quiet (fail)
    go_wp2
    go_ret
    exact ⟨rfl, below_drewN (hbx _ _) _⟩

/-- What must hold of a state, whatever its program is. -/
def mayB (s : St) : Bool := decide (0 ≤ s.status ∧ s.status ≤ 5 ∧ 0 ≤ s.fuel ∧ s.fuel ≤ 10000 ∧ s.frames.length ≤ 8 ∧ s.answers.length ≤ 100 ∧ (s.status = 1 ↔ s.frames.length = 0) ∧ (s.status = 1 ∨ s.value = 0))
set_option maxRecDepth 100000 in
set_option maxHeartbeats 2000000 in
theorem mayBe_any (s : St) (v : Value) (w : World) (hv : StVal w v s) :
    Calls Tryd.prog 32 #[v] w fun e w' => e = .returned (.bool (mayB s)) ∧ Below w.heap.size w w' := by
  obtain ⟨status, value, frames, mem, fuel, events, answers⟩ := s
  obtain ⟨fv, ev, av, rfl, hm, hf, he, ha⟩ := hv
  dsimp only at hm hf he ha
  obtain ⟨fa, fc, rfl⟩ := hf.shape
  obtain ⟨ea, ec, rfl⟩ := he.shape
  obtain ⟨aa, ac, rfl⟩ := ha.shape
  match mem, hm with
  | [m0, m1, m2, m3, m4, m5, m6, m7, m8, m9, m10, m11, m12, m13, m14, m15], _ =>
    unfold mayB
    dsimp only
    simp only [stCells, i64s, List.map_cons, List.map_nil, List.cons_append, List.nil_append]
    clear hf he ha
    generalize frames.length = nf
    generalize answers.length = na
    generalize events.length = ne
    by_cases c1 : 0 ≤ status
    · by_cases c2 : status ≤ 5
      · by_cases c3 : 0 ≤ fuel
        · by_cases c4 : fuel ≤ 10000
          · by_cases c5 : nf ≤ 8
            · by_cases c6 : na ≤ 100
              · by_cases c7 : status = 1
                · have s1 : (status == 1) = true := by simpa using c7
                  by_cases c8 : nf = 0
                  · have s2 : ((nf : Int) == 0) = true := by simp; omega
                    have e : decide (0 ≤ status ∧ status ≤ 5 ∧ 0 ≤ fuel ∧ fuel ≤ 10000 ∧ nf ≤ 8 ∧ na ≤ 100 ∧ (status = 1 ↔ nf = 0) ∧ (status = 1 ∨ value = 0)) = true := by simp only [decide_eq_true_iff]; omega
                    rw [e]
                    have q0 : (decide (0 ≤ status)) = true := by simp; omega
                    have q1 : (decide (status ≤ 5)) = true := by simp; omega
                    have q2 : (decide (0 ≤ fuel)) = true := by simp; omega
                    have q3 : (decide (fuel ≤ 10000)) = true := by simp; omega
                    have q4 : (decide ((nf : Int) ≤ 8)) = true := by simp; omega
                    have q5 : (decide ((na : Int) ≤ 100)) = true := by simp; omega
                    clear e
                    go_enter Tryd.func32, Tryd.ntmps32
                    go_wp2
                    go_ret
                    exact ⟨rfl, by go_grown⟩
                  · have s2 : ((nf : Int) == 0) = false := by simp; omega
                    have e : decide (0 ≤ status ∧ status ≤ 5 ∧ 0 ≤ fuel ∧ fuel ≤ 10000 ∧ nf ≤ 8 ∧ na ≤ 100 ∧ (status = 1 ↔ nf = 0) ∧ (status = 1 ∨ value = 0)) = false := by simp only [decide_eq_false_iff_not]; omega
                    rw [e]
                    have q0 : (decide (0 ≤ status)) = true := by simp; omega
                    have q1 : (decide (status ≤ 5)) = true := by simp; omega
                    have q2 : (decide (0 ≤ fuel)) = true := by simp; omega
                    have q3 : (decide (fuel ≤ 10000)) = true := by simp; omega
                    have q4 : (decide ((nf : Int) ≤ 8)) = true := by simp; omega
                    have q5 : (decide ((na : Int) ≤ 100)) = true := by simp; omega
                    clear e
                    go_enter Tryd.func32, Tryd.ntmps32
                    go_wp2
                    go_ret
                    exact ⟨rfl, by go_grown⟩
                · have s1 : (status == 1) = false := by simpa using c7
                  by_cases c8 : nf = 0
                  · have s2 : ((nf : Int) == 0) = true := by simp; omega
                    have e : decide (0 ≤ status ∧ status ≤ 5 ∧ 0 ≤ fuel ∧ fuel ≤ 10000 ∧ nf ≤ 8 ∧ na ≤ 100 ∧ (status = 1 ↔ nf = 0) ∧ (status = 1 ∨ value = 0)) = false := by simp only [decide_eq_false_iff_not]; omega
                    rw [e]
                    have q0 : (decide (0 ≤ status)) = true := by simp; omega
                    have q1 : (decide (status ≤ 5)) = true := by simp; omega
                    have q2 : (decide (0 ≤ fuel)) = true := by simp; omega
                    have q3 : (decide (fuel ≤ 10000)) = true := by simp; omega
                    have q4 : (decide ((nf : Int) ≤ 8)) = true := by simp; omega
                    have q5 : (decide ((na : Int) ≤ 100)) = true := by simp; omega
                    clear e
                    go_enter Tryd.func32, Tryd.ntmps32
                    go_wp2
                    go_ret
                    exact ⟨rfl, by go_grown⟩
                  · have s2 : ((nf : Int) == 0) = false := by simp; omega
                    by_cases c9 : value = 0
                    · have s3 : (value == 0) = true := by simpa using c9
                      have e : decide (0 ≤ status ∧ status ≤ 5 ∧ 0 ≤ fuel ∧ fuel ≤ 10000 ∧ nf ≤ 8 ∧ na ≤ 100 ∧ (status = 1 ↔ nf = 0) ∧ (status = 1 ∨ value = 0)) = true := by simp only [decide_eq_true_iff]; omega
                      rw [e]
                      have q0 : (decide (0 ≤ status)) = true := by simp; omega
                      have q1 : (decide (status ≤ 5)) = true := by simp; omega
                      have q2 : (decide (0 ≤ fuel)) = true := by simp; omega
                      have q3 : (decide (fuel ≤ 10000)) = true := by simp; omega
                      have q4 : (decide ((nf : Int) ≤ 8)) = true := by simp; omega
                      have q5 : (decide ((na : Int) ≤ 100)) = true := by simp; omega
                      clear e
                      go_enter Tryd.func32, Tryd.ntmps32
                      go_wp2
                      go_ret
                      exact ⟨rfl, by go_grown⟩
                    · have s3 : (value == 0) = false := by simpa using c9
                      have e : decide (0 ≤ status ∧ status ≤ 5 ∧ 0 ≤ fuel ∧ fuel ≤ 10000 ∧ nf ≤ 8 ∧ na ≤ 100 ∧ (status = 1 ↔ nf = 0) ∧ (status = 1 ∨ value = 0)) = false := by simp only [decide_eq_false_iff_not]; omega
                      rw [e]
                      have q0 : (decide (0 ≤ status)) = true := by simp; omega
                      have q1 : (decide (status ≤ 5)) = true := by simp; omega
                      have q2 : (decide (0 ≤ fuel)) = true := by simp; omega
                      have q3 : (decide (fuel ≤ 10000)) = true := by simp; omega
                      have q4 : (decide ((nf : Int) ≤ 8)) = true := by simp; omega
                      have q5 : (decide ((na : Int) ≤ 100)) = true := by simp; omega
                      clear e
                      go_enter Tryd.func32, Tryd.ntmps32
                      go_wp2
                      go_ret
                      exact ⟨rfl, by go_grown⟩
              · by_cases cs : status = 1
                · have s1 : (status == 1) = true := by simpa using cs
                  have e : decide (0 ≤ status ∧ status ≤ 5 ∧ 0 ≤ fuel ∧ fuel ≤ 10000 ∧ nf ≤ 8 ∧ na ≤ 100 ∧ (status = 1 ↔ nf = 0) ∧ (status = 1 ∨ value = 0)) = false := by simp only [decide_eq_false_iff_not]; omega
                  rw [e]
                  have q0 : (decide (0 ≤ status)) = true := by simp; omega
                  have q1 : (decide (status ≤ 5)) = true := by simp; omega
                  have q2 : (decide (0 ≤ fuel)) = true := by simp; omega
                  have q3 : (decide (fuel ≤ 10000)) = true := by simp; omega
                  have q4 : (decide ((nf : Int) ≤ 8)) = true := by simp; omega
                  have q5 : (decide ((na : Int) ≤ 100)) = false := by simp; omega
                  clear e
                  go_enter Tryd.func32, Tryd.ntmps32
                  go_wp2
                  go_ret
                  exact ⟨rfl, by go_grown⟩
                · have s1 : (status == 1) = false := by simpa using cs
                  have e : decide (0 ≤ status ∧ status ≤ 5 ∧ 0 ≤ fuel ∧ fuel ≤ 10000 ∧ nf ≤ 8 ∧ na ≤ 100 ∧ (status = 1 ↔ nf = 0) ∧ (status = 1 ∨ value = 0)) = false := by simp only [decide_eq_false_iff_not]; omega
                  rw [e]
                  have q0 : (decide (0 ≤ status)) = true := by simp; omega
                  have q1 : (decide (status ≤ 5)) = true := by simp; omega
                  have q2 : (decide (0 ≤ fuel)) = true := by simp; omega
                  have q3 : (decide (fuel ≤ 10000)) = true := by simp; omega
                  have q4 : (decide ((nf : Int) ≤ 8)) = true := by simp; omega
                  have q5 : (decide ((na : Int) ≤ 100)) = false := by simp; omega
                  clear e
                  go_enter Tryd.func32, Tryd.ntmps32
                  go_wp2
                  go_ret
                  exact ⟨rfl, by go_grown⟩
            · by_cases cs : status = 1
              · have s1 : (status == 1) = true := by simpa using cs
                have e : decide (0 ≤ status ∧ status ≤ 5 ∧ 0 ≤ fuel ∧ fuel ≤ 10000 ∧ nf ≤ 8 ∧ na ≤ 100 ∧ (status = 1 ↔ nf = 0) ∧ (status = 1 ∨ value = 0)) = false := by simp only [decide_eq_false_iff_not]; omega
                rw [e]
                have q0 : (decide (0 ≤ status)) = true := by simp; omega
                have q1 : (decide (status ≤ 5)) = true := by simp; omega
                have q2 : (decide (0 ≤ fuel)) = true := by simp; omega
                have q3 : (decide (fuel ≤ 10000)) = true := by simp; omega
                have q4 : (decide ((nf : Int) ≤ 8)) = false := by simp; omega
                clear e
                go_enter Tryd.func32, Tryd.ntmps32
                go_wp2
                go_ret
                exact ⟨rfl, by go_grown⟩
              · have s1 : (status == 1) = false := by simpa using cs
                have e : decide (0 ≤ status ∧ status ≤ 5 ∧ 0 ≤ fuel ∧ fuel ≤ 10000 ∧ nf ≤ 8 ∧ na ≤ 100 ∧ (status = 1 ↔ nf = 0) ∧ (status = 1 ∨ value = 0)) = false := by simp only [decide_eq_false_iff_not]; omega
                rw [e]
                have q0 : (decide (0 ≤ status)) = true := by simp; omega
                have q1 : (decide (status ≤ 5)) = true := by simp; omega
                have q2 : (decide (0 ≤ fuel)) = true := by simp; omega
                have q3 : (decide (fuel ≤ 10000)) = true := by simp; omega
                have q4 : (decide ((nf : Int) ≤ 8)) = false := by simp; omega
                clear e
                go_enter Tryd.func32, Tryd.ntmps32
                go_wp2
                go_ret
                exact ⟨rfl, by go_grown⟩
          · by_cases cs : status = 1
            · have s1 : (status == 1) = true := by simpa using cs
              have e : decide (0 ≤ status ∧ status ≤ 5 ∧ 0 ≤ fuel ∧ fuel ≤ 10000 ∧ nf ≤ 8 ∧ na ≤ 100 ∧ (status = 1 ↔ nf = 0) ∧ (status = 1 ∨ value = 0)) = false := by simp only [decide_eq_false_iff_not]; omega
              rw [e]
              have q0 : (decide (0 ≤ status)) = true := by simp; omega
              have q1 : (decide (status ≤ 5)) = true := by simp; omega
              have q2 : (decide (0 ≤ fuel)) = true := by simp; omega
              have q3 : (decide (fuel ≤ 10000)) = false := by simp; omega
              clear e
              go_enter Tryd.func32, Tryd.ntmps32
              go_wp2
              go_ret
              exact ⟨rfl, by go_grown⟩
            · have s1 : (status == 1) = false := by simpa using cs
              have e : decide (0 ≤ status ∧ status ≤ 5 ∧ 0 ≤ fuel ∧ fuel ≤ 10000 ∧ nf ≤ 8 ∧ na ≤ 100 ∧ (status = 1 ↔ nf = 0) ∧ (status = 1 ∨ value = 0)) = false := by simp only [decide_eq_false_iff_not]; omega
              rw [e]
              have q0 : (decide (0 ≤ status)) = true := by simp; omega
              have q1 : (decide (status ≤ 5)) = true := by simp; omega
              have q2 : (decide (0 ≤ fuel)) = true := by simp; omega
              have q3 : (decide (fuel ≤ 10000)) = false := by simp; omega
              clear e
              go_enter Tryd.func32, Tryd.ntmps32
              go_wp2
              go_ret
              exact ⟨rfl, by go_grown⟩
        · by_cases cs : status = 1
          · have s1 : (status == 1) = true := by simpa using cs
            have e : decide (0 ≤ status ∧ status ≤ 5 ∧ 0 ≤ fuel ∧ fuel ≤ 10000 ∧ nf ≤ 8 ∧ na ≤ 100 ∧ (status = 1 ↔ nf = 0) ∧ (status = 1 ∨ value = 0)) = false := by simp only [decide_eq_false_iff_not]; omega
            rw [e]
            have q0 : (decide (0 ≤ status)) = true := by simp; omega
            have q1 : (decide (status ≤ 5)) = true := by simp; omega
            have q2 : (decide (0 ≤ fuel)) = false := by simp; omega
            clear e
            go_enter Tryd.func32, Tryd.ntmps32
            go_wp2
            go_ret
            exact ⟨rfl, by go_grown⟩
          · have s1 : (status == 1) = false := by simpa using cs
            have e : decide (0 ≤ status ∧ status ≤ 5 ∧ 0 ≤ fuel ∧ fuel ≤ 10000 ∧ nf ≤ 8 ∧ na ≤ 100 ∧ (status = 1 ↔ nf = 0) ∧ (status = 1 ∨ value = 0)) = false := by simp only [decide_eq_false_iff_not]; omega
            rw [e]
            have q0 : (decide (0 ≤ status)) = true := by simp; omega
            have q1 : (decide (status ≤ 5)) = true := by simp; omega
            have q2 : (decide (0 ≤ fuel)) = false := by simp; omega
            clear e
            go_enter Tryd.func32, Tryd.ntmps32
            go_wp2
            go_ret
            exact ⟨rfl, by go_grown⟩
      · by_cases cs : status = 1
        · exact absurd cs (by omega)
        · have s1 : (status == 1) = false := by simpa using cs
          have e : decide (0 ≤ status ∧ status ≤ 5 ∧ 0 ≤ fuel ∧ fuel ≤ 10000 ∧ nf ≤ 8 ∧ na ≤ 100 ∧ (status = 1 ↔ nf = 0) ∧ (status = 1 ∨ value = 0)) = false := by simp only [decide_eq_false_iff_not]; omega
          rw [e]
          have q0 : (decide (0 ≤ status)) = true := by simp; omega
          have q1 : (decide (status ≤ 5)) = false := by simp; omega
          clear e
          go_enter Tryd.func32, Tryd.ntmps32
          go_wp2
          go_ret
          exact ⟨rfl, by go_grown⟩
    · by_cases cs : status = 1
      · exact absurd cs (by omega)
      · have s1 : (status == 1) = false := by simpa using cs
        have e : decide (0 ≤ status ∧ status ≤ 5 ∧ 0 ≤ fuel ∧ fuel ≤ 10000 ∧ nf ≤ 8 ∧ na ≤ 100 ∧ (status = 1 ↔ nf = 0) ∧ (status = 1 ∨ value = 0)) = false := by simp only [decide_eq_false_iff_not]; omega
        rw [e]
        have q0 : (decide (0 ≤ status)) = false := by simp; omega
        clear e
        go_enter Tryd.func32, Tryd.ntmps32
        go_wp2
        go_ret
        exact ⟨rfl, by go_grown⟩
end Go.Proofs.YtgdmdlkhnokieaaDoor
