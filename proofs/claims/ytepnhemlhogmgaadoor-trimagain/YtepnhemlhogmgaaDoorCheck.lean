/- Contracts of code.checkFunc and code.Check: each answers what a plain function of the program's data says, and nothing that was there has turned. -/
import Derived.Test.YtepnhemlhogmgaaDoorOps
namespace Go.Proofs.YtepnhemlhogmgaaDoor
open Go Go.RowKit

def codeFunc (f : Fn) (funcs : Int) : Int :=
  if f.regs < 1 then 2 else if 12 < f.regs then 2
  else if f.params < 0 then 2 else if 2 < f.params then 2 else if f.regs < f.params then 2
  else if f.code.length < 1 then 1 else if 40 < f.code.length then 1
  else firstErr (fun x => codeInstr x f.regs f.code.length funcs) f.code

set_option maxRecDepth 100000 in
set_option maxHeartbeats 2000000 in
theorem checkFunc_any (f : Fn) (v : Value) (funcs : Int) (w : World) (ht : TabOk w) (hv : CodeVal w v f.code) :
    Calls Tryd.prog 55 #[.agg #[.int .i64 f.params, .int .i64 f.regs, v], .int .i64 funcs] w fun e w' => e = .returned (.int .i64 (codeFunc f funcs)) ∧ Below w.heap.size w w' := by
  obtain ⟨params, regs, xs⟩ := f
  obtain ⟨ao, b, off, n, cap, rfl, hc, hcap, hmax⟩ := hv
  obtain ⟨hlen, haddr, hat⟩ := hc
  dsimp only at hlen haddr hat
  have HL : Hid (xs.length = n) := hlen
  unfold codeFunc
  dsimp only
  rw [hlen]
  clear hlen
  by_cases h1 : regs < 1
  · rw [if_pos h1]
    go_enter Tryd.func55, Tryd.ntmps55
    go_wp2
    go_ret
    exact ⟨rfl, (Below.refl _ _).alloc (Nat.le_refl _) _⟩
  rw [if_neg h1]
  by_cases h2 : 12 < regs
  · rw [if_pos h2]
    go_enter Tryd.func55, Tryd.ntmps55
    go_wp2
    go_ret
    exact ⟨rfl, (Below.refl _ _).alloc (Nat.le_refl _) _⟩
  rw [if_neg h2]
  by_cases h3 : params < 0
  · rw [if_pos h3]
    go_enter Tryd.func55, Tryd.ntmps55
    go_wp2
    go_ret
    exact ⟨rfl, (Below.refl _ _).alloc (Nat.le_refl _) _⟩
  rw [if_neg h3]
  by_cases h4 : 2 < params
  · rw [if_pos h4]
    go_enter Tryd.func55, Tryd.ntmps55
    go_wp2
    go_ret
    exact ⟨rfl, (Below.refl _ _).alloc (Nat.le_refl _) _⟩
  rw [if_neg h4]
  by_cases h5 : regs < params
  · rw [if_pos h5]
    go_enter Tryd.func55, Tryd.ntmps55
    go_wp2
    go_ret
    exact ⟨rfl, (Below.refl _ _).alloc (Nat.le_refl _) _⟩
  rw [if_neg h5]
  by_cases h6 : n < 1
  · rw [if_pos h6]
    go_enter Tryd.func55, Tryd.ntmps55
    go_wp2
    go_ret
    exact ⟨rfl, (Below.refl _ _).alloc (Nat.le_refl _) _⟩
  rw [if_neg h6]
  by_cases h7 : 40 < n
  · rw [if_pos h7]
    go_enter Tryd.func55, Tryd.ntmps55
    go_wp2
    go_ret
    exact ⟨rfl, (Below.refl _ _).alloc (Nat.le_refl _) _⟩
  rw [if_neg h7]
  obtain rfl := haddr (by omega)
  clear haddr
  go_enter Tryd.func55, Tryd.ntmps55
  go_wp2
  go_loopw [44] (fun i wr => ∃ k : Nat, k ≤ n ∧ i = .int .i64 k ∧ Below (w.heap.size + 1) (w.alloc (.cells #[.int .i64 params, .int .i64 regs, .slice (some ⟨b, off, none⟩) n cap] 44)) wr ∧
      firstErr (fun x => codeInstr x regs n funcs) xs = firstErr (fun x => codeInstr x regs n funcs) (xs.drop k)) (fun i _ => n - (intOf i).toNat)
  case atStart => exact ⟨0, Nat.zero_le _, rfl, Below.refl _ _, rfl⟩
  case round =>
    obtain ⟨k, hk, rfl, hb, hf⟩ := hrel
    have hbw : Below w.heap.size w wr := ((Below.refl _ _).alloc (Nat.le_refl _) _).trans (hb.mono (by omega))
    by_cases hlt : k < n
    · have hkx : k < xs.length := by rw [HL.out]; exact hlt
      have c0 : wr.cell? ⟨w.heap.size, 1, none⟩ = some (.int .i64 regs) := (hb.cell (p := ⟨w.heap.size, 1, none⟩) (by simp)).trans (by simp)
      have c1 : wr.cell? ⟨w.heap.size, 2, none⟩ = some (.slice (some ⟨b, off, none⟩) n cap) := (hb.cell (p := ⟨w.heap.size, 2, none⟩) (by simp)).trans (by simp)
      obtain ⟨d0, d1, d2, d3, d4⟩ := (hat k hkx).keeps (keeps_below hbw)
      have hz : w.heap.size < wr.heap.size := by have := hb.size; simp at this; omega
      have hta : ∀ o, TabOk (wr.alloc o) := fun o => (ht.below hbw).below ((Below.refl _ _).alloc (Nat.le_refl _) _)
      have HF : Hid (firstErr (fun x => codeInstr x regs n funcs) xs = if codeInstr xs[k] regs n funcs = 0 then firstErr (fun x => codeInstr x regs n funcs) (xs.drop (k + 1)) else codeInstr xs[k] regs n funcs) :=
        hf.trans (firstErr_drop _ xs k hkx)
      generalize hx : xs[k] = x at d0 d1 d2 d3 d4 HF
      have HB : Hid (Below (w.heap.size + 1) (w.alloc (.cells #[.int .i64 params, .int .i64 regs, .slice (some ⟨b, off, none⟩) n cap] 44)) wr) := hb
      clear hf hat hx hb hbw
      go_wp2_with (go_at_call 70; refine (instr_any x regs n funcs _ (hta _)).mono ?_; rintro e w1 ⟨rfl, hb1⟩)
      · have hne : (codeInstr x regs n funcs != 0) = true := by assumption
        go_ret
        exact ⟨ret_int (by rw [HF.out, if_neg (by simpa using hne)]), below_step (((Below.refl _ _).alloc (Nat.le_refl _) _).trans (HB.out.mono (by omega))) (by omega) hb1⟩
      · have hne : (codeInstr x regs n funcs != 0) = false := by assumption
        go_roundw
        case rel => exact ⟨k + 1, by omega, by go_num, below_step HB.out (by omega) hb1, by rw [HF.out, if_pos (by simpa using hne)]⟩
        case measure => simp [intOf]; omega
    · have HE := (firstErr_end (fun x => codeInstr x regs n funcs) xs k (by rw [HL.out]; omega))
      have HF : Hid (firstErr (fun x => codeInstr x regs n funcs) xs = 0) := hf.trans HE
      clear hf HE hat
      go_wp2
      go_ret
      exact ⟨ret_int HF.out.symm, hbw⟩

def codeProg (p : List Fn) : Int :=
  if p.length < 1 then 1 else if 4 < p.length then 1 else firstErr (fun f => codeFunc f p.length) p

set_option maxRecDepth 100000 in
set_option maxHeartbeats 2000000 in
theorem check_any (p : List Fn) (v : Value) (w : World) (ht : TabOk w) (hv : ProgVal w v p) :
    Calls Tryd.prog 35 #[.agg #[v]] w fun e w' => e = .returned (.int .i64 (codeProg p)) ∧ Below w.heap.size w w' := by
  obtain ⟨ao, b, off, n, cap, rfl, hc, hcap, hmax⟩ := hv
  obtain ⟨hlen, haddr, hat⟩ := hc
  have HL : Hid (p.length = n) := hlen
  unfold codeProg
  rw [hlen]
  clear hlen
  by_cases h6 : n < 1
  · rw [if_pos h6]
    go_enter Tryd.func35, Tryd.ntmps35
    go_wp2
    go_ret
    exact ⟨rfl, (Below.refl _ _).alloc (Nat.le_refl _) _⟩
  rw [if_neg h6]
  by_cases h7 : 4 < n
  · rw [if_pos h7]
    go_enter Tryd.func35, Tryd.ntmps35
    go_wp2
    go_ret
    exact ⟨rfl, (Below.refl _ _).alloc (Nat.le_refl _) _⟩
  rw [if_neg h7]
  obtain rfl := haddr (by omega)
  clear haddr
  go_enter Tryd.func35, Tryd.ntmps35
  go_wp2
  go_loopw [19] (fun i wr => ∃ k : Nat, k ≤ n ∧ i = .int .i64 k ∧ Below (w.heap.size + 1) (w.alloc (.cells #[.slice (some ⟨b, off, none⟩) n cap] 24)) wr ∧
      firstErr (fun f => codeFunc f n) p = firstErr (fun f => codeFunc f n) (p.drop k)) (fun i _ => n - (intOf i).toNat)
  case atStart => exact ⟨0, Nat.zero_le _, rfl, Below.refl _ _, rfl⟩
  case round =>
    obtain ⟨k, hk, rfl, hb, hf⟩ := hrel
    have hbw : Below w.heap.size w wr := ((Below.refl _ _).alloc (Nat.le_refl _) _).trans (hb.mono (by omega))
    by_cases hlt : k < n
    · have hkx : k < p.length := by rw [HL.out]; exact hlt
      have c0 : wr.cell? ⟨w.heap.size, 0, none⟩ = some (.slice (some ⟨b, off, none⟩) n cap) := (hb.cell (p := ⟨w.heap.size, 0, none⟩) (by simp)).trans (by simp)
      obtain ⟨u, hfn⟩ := hat k hkx
      obtain ⟨d0, d1, d2, hu⟩ := hfn.keeps (keeps_below hbw)
      have hz : w.heap.size < wr.heap.size := by have := hb.size; simp at this; omega
      have hta : ∀ o, TabOk (wr.alloc o) := fun o => (ht.below hbw).below ((Below.refl _ _).alloc (Nat.le_refl _) _)
      have hua : ∀ o, CodeVal (wr.alloc o) u p[k].code := fun o => hu.keeps (keeps_below ((Below.refl _ _).alloc (Nat.le_refl _) _))
      have HF : Hid (firstErr (fun f => codeFunc f n) p = if codeFunc p[k] n = 0 then firstErr (fun f => codeFunc f n) (p.drop (k + 1)) else codeFunc p[k] n) :=
        hf.trans (firstErr_drop _ p k hkx)
      generalize hx : p[k] = x at d0 d1 d2 hu hua HF
      obtain ⟨ao1, b1, off1, n1, cap1, rfl, _⟩ := hu
      have HB : Hid (Below (w.heap.size + 1) (w.alloc (.cells #[.slice (some ⟨b, off, none⟩) n cap] 24)) wr) := hb
      clear hf hat hx hb hbw hfn
      go_wp2_with (go_at_call 55; refine (checkFunc_any x _ n _ (hta _) (hua _)).mono ?_; rintro e w1 ⟨rfl, hb1⟩)
      · have hne : (codeFunc x n != 0) = true := by assumption
        go_ret
        exact ⟨ret_int (by rw [HF.out, if_neg (by simpa using hne)]), below_step (((Below.refl _ _).alloc (Nat.le_refl _) _).trans (HB.out.mono (by omega))) (by omega) hb1⟩
      · have hne : (codeFunc x n != 0) = false := by assumption
        go_roundw
        case rel => exact ⟨k + 1, by omega, by go_num, below_step HB.out (by omega) hb1, by rw [HF.out, if_pos (by simpa using hne)]⟩
        case measure => simp [intOf]; omega
    · have HE := (firstErr_end (fun f => codeFunc f n) p k (by rw [HL.out]; omega))
      have HF : Hid (firstErr (fun f => codeFunc f n) p = 0) := hf.trans HE
      clear hf HE hat
      go_wp2
      go_ret
      exact ⟨ret_int HF.out.symm, hbw⟩

end Go.Proofs.YtepnhemlhogmgaaDoor
