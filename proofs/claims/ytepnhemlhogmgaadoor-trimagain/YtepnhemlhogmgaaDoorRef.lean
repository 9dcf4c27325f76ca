/- Contracts of the document's answer to P1.1 to P1.3 (package tierlineref): each answers what a plain function of its data says. -/
import Derived.Test.YtepnhemlhogmgaaDoorOps
namespace Go.Proofs.YtepnhemlhogmgaaDoor
open Go Go.RowKit

def inB (n low high : Int) : Bool := decide (low ≤ n ∧ n ≤ high)
set_option maxRecDepth 100000 in
theorem in_any (n low high : Int) (w : World) :
    Calls Tryd.prog 45 #[.int .i64 n, .int .i64 low, .int .i64 high] w fun e w' => e = .returned (.bool (inB n low high)) ∧ w' = w := by
  by_cases h0 : low ≤ n
  · by_cases h1 : n ≤ high
    · have e : inB n low high = true := by simp [inB, h0, h1]
      rw [e]; clear e
      go_enter Tryd.func45, Tryd.ntmps45
      go_wp2
      go_ret
      exact ⟨rfl, rfl⟩
    · have e : inB n low high = false := by simp [inB, h1]
      rw [e]; clear e
      go_enter Tryd.func45, Tryd.ntmps45
      go_wp2
      go_ret
      exact ⟨rfl, rfl⟩
  · have e : inB n low high = false := by simp [inB, h0]
    rw [e]; clear e
    go_enter Tryd.func45, Tryd.ntmps45
    go_wp2
    go_ret
    exact ⟨rfl, rfl⟩

def setsB (op : Int) : Bool := decide ((1 ≤ op ∧ op ≤ 13) ∨ op = 17 ∨ op = 18)
def readsAB (op : Int) : Bool := decide (op ≠ 1 ∧ op ≠ 15)
def readsBB (op : Int) : Bool := decide ((2 ≤ op ∧ op ≤ 12) ∨ op = 14 ∨ op = 17)

set_option maxRecDepth 100000 in
theorem Sets_any (op : Int) (w : World) :
    Calls Tryd.prog 46 #[.int .i64 op] w fun e w' => e = .returned (.bool (setsB op)) ∧ w' = w := by
  by_cases h : inB op 1 13 = true
  · have e : setsB op = true := by simp [inB] at h; simp [setsB, h]
    rw [e]; clear e
    go_enter Tryd.func46, Tryd.ntmps46
    go_wp2_with (go_at_call 45; refine (in_any _ _ _ _).mono ?_; rintro e w' ⟨rfl, rfl⟩)
    go_ret
    exact ⟨rfl, rfl⟩
  have hf : inB op 1 13 = false := by simpa using h
  by_cases h1 : op = 17
  · have e : setsB op = true := by simp [setsB, h1]
    rw [e]; clear e h
    subst h1
    go_enter Tryd.func46, Tryd.ntmps46
    go_wp2_with (go_at_call 45; refine (in_any _ _ _ _).mono ?_; rintro e w' ⟨rfl, rfl⟩)
    go_ret
    exact ⟨rfl, rfl⟩
  by_cases h2 : op = 18
  · have e : setsB op = true := by simp [setsB, h2]
    rw [e]; clear e h
    subst h2
    go_enter Tryd.func46, Tryd.ntmps46
    go_wp2_with (go_at_call 45; refine (in_any _ _ _ _).mono ?_; rintro e w' ⟨rfl, rfl⟩)
    go_ret
    exact ⟨rfl, rfl⟩
  · have e : setsB op = false := by simp [inB] at h; simp [setsB, h1, h2]; omega
    have h1' : (op == 17) = false := by simpa using h1
    have h2' : (op == 18) = false := by simpa using h2
    rw [e]; clear e h h1 h2
    go_enter Tryd.func46, Tryd.ntmps46
    go_wp2_with (go_at_call 45; refine (in_any _ _ _ _).mono ?_; rintro e w' ⟨rfl, rfl⟩)
    go_ret
    exact ⟨rfl, rfl⟩

set_option maxRecDepth 100000 in
theorem ReadsB_any (op : Int) (w : World) :
    Calls Tryd.prog 69 #[.int .i64 op] w fun e w' => e = .returned (.bool (readsBB op)) ∧ w' = w := by
  by_cases h : inB op 2 12 = true
  · have e : readsBB op = true := by simp [inB] at h; simp [readsBB, h]
    rw [e]; clear e
    go_enter Tryd.func69, Tryd.ntmps69
    go_wp2_with (go_at_call 45; refine (in_any _ _ _ _).mono ?_; rintro e w' ⟨rfl, rfl⟩)
    go_ret
    exact ⟨rfl, rfl⟩
  have hf : inB op 2 12 = false := by simpa using h
  by_cases h1 : op = 14
  · have e : readsBB op = true := by simp [readsBB, h1]
    rw [e]; clear e h
    subst h1
    go_enter Tryd.func69, Tryd.ntmps69
    go_wp2_with (go_at_call 45; refine (in_any _ _ _ _).mono ?_; rintro e w' ⟨rfl, rfl⟩)
    go_ret
    exact ⟨rfl, rfl⟩
  by_cases h2 : op = 17
  · have e : readsBB op = true := by simp [readsBB, h2]
    rw [e]; clear e h
    subst h2
    go_enter Tryd.func69, Tryd.ntmps69
    go_wp2_with (go_at_call 45; refine (in_any _ _ _ _).mono ?_; rintro e w' ⟨rfl, rfl⟩)
    go_ret
    exact ⟨rfl, rfl⟩
  · have e : readsBB op = false := by simp [inB] at h; simp [readsBB, h1, h2]; omega
    have h1' : (op == 14) = false := by simpa using h1
    have h2' : (op == 17) = false := by simpa using h2
    rw [e]; clear e h h1 h2
    go_enter Tryd.func69, Tryd.ntmps69
    go_wp2_with (go_at_call 45; refine (in_any _ _ _ _).mono ?_; rintro e w' ⟨rfl, rfl⟩)
    go_ret
    exact ⟨rfl, rfl⟩

set_option maxRecDepth 100000 in
theorem ReadsA_any (op : Int) (w : World) :
    Calls Tryd.prog 68 #[.int .i64 op] w fun e w' => e = .returned (.bool (readsAB op)) ∧ w' = w := by
  by_cases h1 : op = 1
  · have e : readsAB op = false := by simp [readsAB, h1]
    rw [e]; clear e
    subst h1
    go_enter Tryd.func68, Tryd.ntmps68
    go_wp2
    go_ret
    exact ⟨rfl, rfl⟩
  have h1' : (op != 1) = true := by simpa using h1
  by_cases h2 : op = 15
  · have e : readsAB op = false := by simp [readsAB, h2]
    rw [e]; clear e h1 h1'
    subst h2
    go_enter Tryd.func68, Tryd.ntmps68
    go_wp2
    go_ret
    exact ⟨rfl, rfl⟩
  · have h2' : (op != 15) = true := by simpa using h2
    have e : readsAB op = true := by simp [readsAB, h1, h2]
    rw [e]; clear e h1 h2
    go_enter Tryd.func68, Tryd.ntmps68
    go_wp2
    go_ret
    exact ⟨rfl, rfl⟩

def regMayB (n : Int) (is : Bool) (regs : Int) : Bool := if is = true then inB n 0 (regs - 1) else (n == 0)
set_option maxRecDepth 100000 in
theorem regMay_any (n : Int) (is : Bool) (regs : Int) (w : World) (h1 : 1 ≤ regs) (h2 : regs ≤ 12) :
    Calls Tryd.prog 80 #[.int .i64 n, .bool is, .int .i64 regs] w fun e w' => e = .returned (.bool (regMayB n is regs)) ∧ w' = w := by
  cases is
  · have e : regMayB n false regs = (n == 0) := rfl
    rw [e]; clear e
    go_enter Tryd.func80, Tryd.ntmps80
    go_wp2
    go_ret
    exact ⟨rfl, rfl⟩
  · have e : regMayB n true regs = inB n 0 (regs - 1) := rfl
    rw [e]; clear e
    go_enter Tryd.func80, Tryd.ntmps80
    go_wp2_with (go_at_call 45; refine (in_any _ _ _ _).mono ?_; rintro e w' ⟨rfl, rfl⟩)
    go_ret
    exact ⟨rfl, rfl⟩

theorem regMay_val {n : Int} {is : Bool} {regs : Int} {v : Bool} (w : World) (h1 : 1 ≤ regs) (h2 : regs ≤ 12) (h : regMayB n is regs = v) :
    Calls Tryd.prog 80 #[.int .i64 n, .bool is, .int .i64 regs] w fun e w' => e = .returned (.bool v) ∧ w' = w := by
  rw [← h]; exact regMay_any n is regs w h1 h2

def refOk1 (x : Ins) (regs : Int) : Bool := regMayB x.dst (setsB x.op) regs && regMayB x.a (readsAB x.op) regs && regMayB x.b (readsBB x.op) regs
def refOk2 (x : Ins) (places funcs : Int) : Bool :=
  if x.op = 15 ∨ x.op = 16 then inB x.imm 0 (places - 1) else if x.op = 17 then inB x.imm 0 (funcs - 1) else if x.op = 1 then true else (x.imm == 0)
def refInstr (x : Ins) (regs places funcs : Int) : Int :=
  if inB x.op 1 19 = false then 3 else if refOk1 x regs = false then 2 else if refOk2 x places funcs = false then 2 else 0

set_option maxRecDepth 100000 in
set_option maxHeartbeats 1000000 in
theorem if_bad1 (op dst a b imm params regs : Int) (ao : Option Addr) (n cap : Nat) (funcs : Int) (w : World) (h1 : 1 ≤ regs) (h2 : regs ≤ 12) (_hn1 : 1 ≤ n) (_hn : n ≤ 40) (_hf1 : 1 ≤ funcs) (_hf2 : funcs ≤ 4) (_h0 : inB op 1 19 = true) (kd : (op == 15) = true ∨ ((op == 15) = false ∧ (op == 16) = true) ∨ ((op == 15) = false ∧ (op == 16) = false ∧ (op == 17) = true) ∨ ((op == 15) = false ∧ (op == 16) = false ∧ (op == 17) = false ∧ (op != 1) = false) ∨ ((op == 15) = false ∧ (op == 16) = false ∧ (op == 17) = false ∧ (op != 1) = true)) (k1 : regMayB dst (setsB op) regs = false) :
    Calls Tryd.prog 67 #[.agg #[.int .i64 op, .int .i64 dst, .int .i64 a, .int .i64 b, .int .i64 imm], .agg #[.int .i64 params, .int .i64 regs, .slice ao n cap], .int .i64 funcs] w fun e w' => e = .returned (.int .i64 2) ∧ Below w.heap.size w w' := by
  rcases kd with _ | ⟨_, _⟩ | ⟨_, _, _⟩ | ⟨_, _, _, _⟩ | ⟨_, _, _, _⟩
  all_goals
    (go_enter Tryd.func67, Tryd.ntmps67
     go_wp2_with (go_at_call 45; refine (in_any _ _ _ _).mono ?_; rintro e w' ⟨rfl, rfl⟩)
     go_quiet ((first | (go_at_call 80; exact Calls.quiet_of_same (regMay_val _ h1 h2 k1)) | (go_at_call 46; exact Calls.quiet_of_same (Sets_any _ _)) | (go_at_call 68; exact Calls.quiet_of_same (ReadsA_any _ _)) | (go_at_call 69; exact Calls.quiet_of_same (ReadsB_any _ _))))
     go_wp2_with (go_at_call 45; refine (in_any _ _ _ _).mono ?_; rintro e w' ⟨rfl, rfl⟩)
     go_ret
     exact ⟨rfl, below_drewN (((Below.refl _ _).alloc (Nat.le_refl _) _).alloc (by simp) _) _⟩)
set_option maxRecDepth 100000 in
set_option maxHeartbeats 1000000 in
theorem if_bad2 (op dst a b imm params regs : Int) (ao : Option Addr) (n cap : Nat) (funcs : Int) (w : World) (h1 : 1 ≤ regs) (h2 : regs ≤ 12) (_hn1 : 1 ≤ n) (_hn : n ≤ 40) (_hf1 : 1 ≤ funcs) (_hf2 : funcs ≤ 4) (_h0 : inB op 1 19 = true) (kd : (op == 15) = true ∨ ((op == 15) = false ∧ (op == 16) = true) ∨ ((op == 15) = false ∧ (op == 16) = false ∧ (op == 17) = true) ∨ ((op == 15) = false ∧ (op == 16) = false ∧ (op == 17) = false ∧ (op != 1) = false) ∨ ((op == 15) = false ∧ (op == 16) = false ∧ (op == 17) = false ∧ (op != 1) = true)) (k1 : regMayB dst (setsB op) regs = true) (k2 : regMayB a (readsAB op) regs = false) :
    Calls Tryd.prog 67 #[.agg #[.int .i64 op, .int .i64 dst, .int .i64 a, .int .i64 b, .int .i64 imm], .agg #[.int .i64 params, .int .i64 regs, .slice ao n cap], .int .i64 funcs] w fun e w' => e = .returned (.int .i64 2) ∧ Below w.heap.size w w' := by
  rcases kd with _ | ⟨_, _⟩ | ⟨_, _, _⟩ | ⟨_, _, _, _⟩ | ⟨_, _, _, _⟩
  all_goals
    (go_enter Tryd.func67, Tryd.ntmps67
     go_wp2_with (go_at_call 45; refine (in_any _ _ _ _).mono ?_; rintro e w' ⟨rfl, rfl⟩)
     go_quiet ((first | (go_at_call 80; exact Calls.quiet_of_same (regMay_val _ h1 h2 k1)) | (go_at_call 80; exact Calls.quiet_of_same (regMay_val _ h1 h2 k2)) | (go_at_call 46; exact Calls.quiet_of_same (Sets_any _ _)) | (go_at_call 68; exact Calls.quiet_of_same (ReadsA_any _ _)) | (go_at_call 69; exact Calls.quiet_of_same (ReadsB_any _ _))))
     go_wp2_with (go_at_call 45; refine (in_any _ _ _ _).mono ?_; rintro e w' ⟨rfl, rfl⟩)
     go_ret
     exact ⟨rfl, below_drewN (((Below.refl _ _).alloc (Nat.le_refl _) _).alloc (by simp) _) _⟩)
set_option maxRecDepth 100000 in
set_option maxHeartbeats 1000000 in
theorem if_bad3 (op dst a b imm params regs : Int) (ao : Option Addr) (n cap : Nat) (funcs : Int) (w : World) (h1 : 1 ≤ regs) (h2 : regs ≤ 12) (_hn1 : 1 ≤ n) (_hn : n ≤ 40) (_hf1 : 1 ≤ funcs) (_hf2 : funcs ≤ 4) (_h0 : inB op 1 19 = true) (kd : (op == 15) = true ∨ ((op == 15) = false ∧ (op == 16) = true) ∨ ((op == 15) = false ∧ (op == 16) = false ∧ (op == 17) = true) ∨ ((op == 15) = false ∧ (op == 16) = false ∧ (op == 17) = false ∧ (op != 1) = false) ∨ ((op == 15) = false ∧ (op == 16) = false ∧ (op == 17) = false ∧ (op != 1) = true)) (k1 : regMayB dst (setsB op) regs = true) (k2 : regMayB a (readsAB op) regs = true) (k3 : regMayB b (readsBB op) regs = false) :
    Calls Tryd.prog 67 #[.agg #[.int .i64 op, .int .i64 dst, .int .i64 a, .int .i64 b, .int .i64 imm], .agg #[.int .i64 params, .int .i64 regs, .slice ao n cap], .int .i64 funcs] w fun e w' => e = .returned (.int .i64 2) ∧ Below w.heap.size w w' := by
  rcases kd with _ | ⟨_, _⟩ | ⟨_, _, _⟩ | ⟨_, _, _, _⟩ | ⟨_, _, _, _⟩
  all_goals
    (go_enter Tryd.func67, Tryd.ntmps67
     go_wp2_with (go_at_call 45; refine (in_any _ _ _ _).mono ?_; rintro e w' ⟨rfl, rfl⟩)
     go_quiet ((first | (go_at_call 80; exact Calls.quiet_of_same (regMay_val _ h1 h2 k1)) | (go_at_call 80; exact Calls.quiet_of_same (regMay_val _ h1 h2 k2)) | (go_at_call 80; exact Calls.quiet_of_same (regMay_val _ h1 h2 k3)) | (go_at_call 46; exact Calls.quiet_of_same (Sets_any _ _)) | (go_at_call 68; exact Calls.quiet_of_same (ReadsA_any _ _)) | (go_at_call 69; exact Calls.quiet_of_same (ReadsB_any _ _))))
     go_wp2_with (go_at_call 45; refine (in_any _ _ _ _).mono ?_; rintro e w' ⟨rfl, rfl⟩)
     go_ret
     exact ⟨rfl, below_drewN (((Below.refl _ _).alloc (Nat.le_refl _) _).alloc (by simp) _) _⟩)
set_option maxRecDepth 100000 in
set_option maxHeartbeats 1000000 in
theorem if_jump (op dst a b imm params regs : Int) (ao : Option Addr) (n cap : Nat) (funcs : Int) (w : World) (h1 : 1 ≤ regs) (h2 : regs ≤ 12) (_hn1 : 1 ≤ n) (_hn : n ≤ 40) (_hf1 : 1 ≤ funcs) (_hf2 : funcs ≤ 4) (_h0 : inB op 1 19 = true) (kd : (op == 15) = true ∨ ((op == 15) = false ∧ (op == 16) = true)) (k1 : regMayB dst (setsB op) regs = true) (k2 : regMayB a (readsAB op) regs = true) (k3 : regMayB b (readsBB op) regs = true) :
    Calls Tryd.prog 67 #[.agg #[.int .i64 op, .int .i64 dst, .int .i64 a, .int .i64 b, .int .i64 imm], .agg #[.int .i64 params, .int .i64 regs, .slice ao n cap], .int .i64 funcs] w fun e w' => e = .returned (.int .i64 (if inB imm 0 (n - 1) = false then 2 else 0)) ∧ Below w.heap.size w w' := by
  by_cases hi : inB imm 0 (n - 1) = false
  · rw [if_pos hi]
    rcases kd with _ | ⟨_, _⟩
    all_goals
    (go_enter Tryd.func67, Tryd.ntmps67
     go_wp2_with (go_at_call 45; refine (in_any _ _ _ _).mono ?_; rintro e w' ⟨rfl, rfl⟩)
     go_quiet ((first | (go_at_call 80; exact Calls.quiet_of_same (regMay_val _ h1 h2 k1)) | (go_at_call 80; exact Calls.quiet_of_same (regMay_val _ h1 h2 k2)) | (go_at_call 80; exact Calls.quiet_of_same (regMay_val _ h1 h2 k3)) | (go_at_call 46; exact Calls.quiet_of_same (Sets_any _ _)) | (go_at_call 68; exact Calls.quiet_of_same (ReadsA_any _ _)) | (go_at_call 69; exact Calls.quiet_of_same (ReadsB_any _ _))))
     go_wp2_with (go_at_call 45; refine (in_any _ _ _ _).mono ?_; rintro e w' ⟨rfl, rfl⟩)
     go_ret
     exact ⟨rfl, below_drewN (((Below.refl _ _).alloc (Nat.le_refl _) _).alloc (by simp) _) _⟩)
  · rw [if_neg hi]
    replace hi : inB imm 0 (n - 1) = true := by simpa using hi
    rcases kd with _ | ⟨_, _⟩
    all_goals
    (go_enter Tryd.func67, Tryd.ntmps67
     go_wp2_with (go_at_call 45; refine (in_any _ _ _ _).mono ?_; rintro e w' ⟨rfl, rfl⟩)
     go_quiet ((first | (go_at_call 80; exact Calls.quiet_of_same (regMay_val _ h1 h2 k1)) | (go_at_call 80; exact Calls.quiet_of_same (regMay_val _ h1 h2 k2)) | (go_at_call 80; exact Calls.quiet_of_same (regMay_val _ h1 h2 k3)) | (go_at_call 46; exact Calls.quiet_of_same (Sets_any _ _)) | (go_at_call 68; exact Calls.quiet_of_same (ReadsA_any _ _)) | (go_at_call 69; exact Calls.quiet_of_same (ReadsB_any _ _))))
     go_wp2_with (go_at_call 45; refine (in_any _ _ _ _).mono ?_; rintro e w' ⟨rfl, rfl⟩)
     go_ret
     exact ⟨rfl, below_drewN (((Below.refl _ _).alloc (Nat.le_refl _) _).alloc (by simp) _) _⟩)
set_option maxRecDepth 100000 in
set_option maxHeartbeats 1000000 in
theorem if_call (op dst a b imm params regs : Int) (ao : Option Addr) (n cap : Nat) (funcs : Int) (w : World) (h1 : 1 ≤ regs) (h2 : regs ≤ 12) (_hn1 : 1 ≤ n) (_hn : n ≤ 40) (_hf1 : 1 ≤ funcs) (_hf2 : funcs ≤ 4) (_h0 : inB op 1 19 = true) (kd : (op == 15) = false ∧ (op == 16) = false ∧ (op == 17) = true) (k1 : regMayB dst (setsB op) regs = true) (k2 : regMayB a (readsAB op) regs = true) (k3 : regMayB b (readsBB op) regs = true) :
    Calls Tryd.prog 67 #[.agg #[.int .i64 op, .int .i64 dst, .int .i64 a, .int .i64 b, .int .i64 imm], .agg #[.int .i64 params, .int .i64 regs, .slice ao n cap], .int .i64 funcs] w fun e w' => e = .returned (.int .i64 (if inB imm 0 (funcs - 1) = false then 2 else 0)) ∧ Below w.heap.size w w' := by
  obtain ⟨_, _, _⟩ := kd
  by_cases hi : inB imm 0 (funcs - 1) = false
  · rw [if_pos hi]
    (go_enter Tryd.func67, Tryd.ntmps67
     go_wp2_with (go_at_call 45; refine (in_any _ _ _ _).mono ?_; rintro e w' ⟨rfl, rfl⟩)
     go_quiet ((first | (go_at_call 80; exact Calls.quiet_of_same (regMay_val _ h1 h2 k1)) | (go_at_call 80; exact Calls.quiet_of_same (regMay_val _ h1 h2 k2)) | (go_at_call 80; exact Calls.quiet_of_same (regMay_val _ h1 h2 k3)) | (go_at_call 46; exact Calls.quiet_of_same (Sets_any _ _)) | (go_at_call 68; exact Calls.quiet_of_same (ReadsA_any _ _)) | (go_at_call 69; exact Calls.quiet_of_same (ReadsB_any _ _))))
     go_wp2_with (go_at_call 45; refine (in_any _ _ _ _).mono ?_; rintro e w' ⟨rfl, rfl⟩)
     go_ret
     exact ⟨rfl, below_drewN (((Below.refl _ _).alloc (Nat.le_refl _) _).alloc (by simp) _) _⟩)
  · rw [if_neg hi]
    replace hi : inB imm 0 (funcs - 1) = true := by simpa using hi
    (go_enter Tryd.func67, Tryd.ntmps67
     go_wp2_with (go_at_call 45; refine (in_any _ _ _ _).mono ?_; rintro e w' ⟨rfl, rfl⟩)
     go_quiet ((first | (go_at_call 80; exact Calls.quiet_of_same (regMay_val _ h1 h2 k1)) | (go_at_call 80; exact Calls.quiet_of_same (regMay_val _ h1 h2 k2)) | (go_at_call 80; exact Calls.quiet_of_same (regMay_val _ h1 h2 k3)) | (go_at_call 46; exact Calls.quiet_of_same (Sets_any _ _)) | (go_at_call 68; exact Calls.quiet_of_same (ReadsA_any _ _)) | (go_at_call 69; exact Calls.quiet_of_same (ReadsB_any _ _))))
     go_wp2_with (go_at_call 45; refine (in_any _ _ _ _).mono ?_; rintro e w' ⟨rfl, rfl⟩)
     go_ret
     exact ⟨rfl, below_drewN (((Below.refl _ _).alloc (Nat.le_refl _) _).alloc (by simp) _) _⟩)
set_option maxRecDepth 100000 in
set_option maxHeartbeats 1000000 in
theorem if_set (op dst a b imm params regs : Int) (ao : Option Addr) (n cap : Nat) (funcs : Int) (w : World) (h1 : 1 ≤ regs) (h2 : regs ≤ 12) (_hn1 : 1 ≤ n) (_hn : n ≤ 40) (_hf1 : 1 ≤ funcs) (_hf2 : funcs ≤ 4) (_h0 : inB op 1 19 = true) (kd : (op == 15) = false ∧ (op == 16) = false ∧ (op == 17) = false ∧ (op != 1) = false) (k1 : regMayB dst (setsB op) regs = true) (k2 : regMayB a (readsAB op) regs = true) (k3 : regMayB b (readsBB op) regs = true) :
    Calls Tryd.prog 67 #[.agg #[.int .i64 op, .int .i64 dst, .int .i64 a, .int .i64 b, .int .i64 imm], .agg #[.int .i64 params, .int .i64 regs, .slice ao n cap], .int .i64 funcs] w fun e w' => e = .returned (.int .i64 0) ∧ Below w.heap.size w w' := by
  obtain ⟨_, _, _, _⟩ := kd
  all_goals
    (go_enter Tryd.func67, Tryd.ntmps67
     go_wp2_with (go_at_call 45; refine (in_any _ _ _ _).mono ?_; rintro e w' ⟨rfl, rfl⟩)
     go_quiet ((first | (go_at_call 80; exact Calls.quiet_of_same (regMay_val _ h1 h2 k1)) | (go_at_call 80; exact Calls.quiet_of_same (regMay_val _ h1 h2 k2)) | (go_at_call 80; exact Calls.quiet_of_same (regMay_val _ h1 h2 k3)) | (go_at_call 46; exact Calls.quiet_of_same (Sets_any _ _)) | (go_at_call 68; exact Calls.quiet_of_same (ReadsA_any _ _)) | (go_at_call 69; exact Calls.quiet_of_same (ReadsB_any _ _))))
     go_wp2_with (go_at_call 45; refine (in_any _ _ _ _).mono ?_; rintro e w' ⟨rfl, rfl⟩)
     go_ret
     exact ⟨rfl, below_drewN (((Below.refl _ _).alloc (Nat.le_refl _) _).alloc (by simp) _) _⟩)
set_option maxRecDepth 100000 in
set_option maxHeartbeats 1000000 in
theorem if_else (op dst a b imm params regs : Int) (ao : Option Addr) (n cap : Nat) (funcs : Int) (w : World) (h1 : 1 ≤ regs) (h2 : regs ≤ 12) (_hn1 : 1 ≤ n) (_hn : n ≤ 40) (_hf1 : 1 ≤ funcs) (_hf2 : funcs ≤ 4) (_h0 : inB op 1 19 = true) (kd : (op == 15) = false ∧ (op == 16) = false ∧ (op == 17) = false ∧ (op != 1) = true) (k1 : regMayB dst (setsB op) regs = true) (k2 : regMayB a (readsAB op) regs = true) (k3 : regMayB b (readsBB op) regs = true) :
    Calls Tryd.prog 67 #[.agg #[.int .i64 op, .int .i64 dst, .int .i64 a, .int .i64 b, .int .i64 imm], .agg #[.int .i64 params, .int .i64 regs, .slice ao n cap], .int .i64 funcs] w fun e w' => e = .returned (.int .i64 (if (imm == 0) = false then 2 else 0)) ∧ Below w.heap.size w w' := by
  obtain ⟨_, _, _, _⟩ := kd
  by_cases hi : (imm == 0) = false
  · rw [if_pos hi]
    (go_enter Tryd.func67, Tryd.ntmps67
     go_wp2_with (go_at_call 45; refine (in_any _ _ _ _).mono ?_; rintro e w' ⟨rfl, rfl⟩)
     go_quiet ((first | (go_at_call 80; exact Calls.quiet_of_same (regMay_val _ h1 h2 k1)) | (go_at_call 80; exact Calls.quiet_of_same (regMay_val _ h1 h2 k2)) | (go_at_call 80; exact Calls.quiet_of_same (regMay_val _ h1 h2 k3)) | (go_at_call 46; exact Calls.quiet_of_same (Sets_any _ _)) | (go_at_call 68; exact Calls.quiet_of_same (ReadsA_any _ _)) | (go_at_call 69; exact Calls.quiet_of_same (ReadsB_any _ _))))
     go_wp2_with (go_at_call 45; refine (in_any _ _ _ _).mono ?_; rintro e w' ⟨rfl, rfl⟩)
     go_ret
     exact ⟨rfl, below_drewN (((Below.refl _ _).alloc (Nat.le_refl _) _).alloc (by simp) _) _⟩)
  · rw [if_neg hi]
    replace hi : (imm == 0) = true := by simpa using hi
    (go_enter Tryd.func67, Tryd.ntmps67
     go_wp2_with (go_at_call 45; refine (in_any _ _ _ _).mono ?_; rintro e w' ⟨rfl, rfl⟩)
     go_quiet ((first | (go_at_call 80; exact Calls.quiet_of_same (regMay_val _ h1 h2 k1)) | (go_at_call 80; exact Calls.quiet_of_same (regMay_val _ h1 h2 k2)) | (go_at_call 80; exact Calls.quiet_of_same (regMay_val _ h1 h2 k3)) | (go_at_call 46; exact Calls.quiet_of_same (Sets_any _ _)) | (go_at_call 68; exact Calls.quiet_of_same (ReadsA_any _ _)) | (go_at_call 69; exact Calls.quiet_of_same (ReadsB_any _ _))))
     go_wp2_with (go_at_call 45; refine (in_any _ _ _ _).mono ?_; rintro e w' ⟨rfl, rfl⟩)
     go_ret
     exact ⟨rfl, below_drewN (((Below.refl _ _).alloc (Nat.le_refl _) _).alloc (by simp) _) _⟩)

set_option maxRecDepth 100000 in
set_option maxHeartbeats 1000000 in
theorem instrFault_any (x : Ins) (params regs : Int) (ao : Option Addr) (n cap : Nat) (funcs : Int) (w : World) (h1 : 1 ≤ regs) (h2 : regs ≤ 12) (hn1 : 1 ≤ n) (hn : n ≤ 40) (hf1 : 1 ≤ funcs) (hf2 : funcs ≤ 4) :
    Calls Tryd.prog 67 #[x.val, .agg #[.int .i64 params, .int .i64 regs, .slice ao n cap], .int .i64 funcs] w fun e w' => e = .returned (.int .i64 (refInstr x regs n funcs)) ∧ Below w.heap.size w w' := by
  obtain ⟨op, dst, a, b, imm⟩ := x
  unfold Ins.val
  dsimp only
  by_cases h0 : inB op 1 19 = false
  · have e : refInstr ⟨op, dst, a, b, imm⟩ regs n funcs = 3 := by unfold refInstr; rw [if_pos h0]
    rw [e]; clear e
    go_enter Tryd.func67, Tryd.ntmps67
    go_wp2_with (go_at_call 45; refine (in_any _ _ _ _).mono ?_; rintro e w' ⟨rfl, rfl⟩)
    go_ret
    exact ⟨rfl, ((Below.refl _ _).alloc (Nat.le_refl _) _).alloc (by simp) _⟩
  have h0' : inB op 1 19 = true := by simpa using h0
  clear h0
  have kd : (op == 15) = true ∨ ((op == 15) = false ∧ (op == 16) = true) ∨ ((op == 15) = false ∧ (op == 16) = false ∧ (op == 17) = true) ∨ ((op == 15) = false ∧ (op == 16) = false ∧ (op == 17) = false ∧ (op != 1) = false) ∨ ((op == 15) = false ∧ (op == 16) = false ∧ (op == 17) = false ∧ (op != 1) = true) := by simp; omega
  unfold refInstr
  rw [if_neg (by simp [h0'])]
  by_cases k1 : regMayB dst (setsB op) regs = false
  · rw [if_pos (by simp [refOk1, k1])]
    exact if_bad1 op dst a b imm params regs ao n cap funcs w h1 h2 hn1 hn hf1 hf2 h0' kd k1
  replace k1 : regMayB dst (setsB op) regs = true := by simpa using k1
  by_cases k2 : regMayB a (readsAB op) regs = false
  · rw [if_pos (by simp [refOk1, k1, k2])]
    exact if_bad2 op dst a b imm params regs ao n cap funcs w h1 h2 hn1 hn hf1 hf2 h0' kd k1 k2
  replace k2 : regMayB a (readsAB op) regs = true := by simpa using k2
  by_cases k3 : regMayB b (readsBB op) regs = false
  · rw [if_pos (by simp [refOk1, k1, k2, k3])]
    exact if_bad3 op dst a b imm params regs ao n cap funcs w h1 h2 hn1 hn hf1 hf2 h0' kd k1 k2 k3
  replace k3 : regMayB b (readsBB op) regs = true := by simpa using k3
  rw [if_neg (by simp [refOk1, k1, k2, k3])]
  unfold refOk2
  dsimp only
  by_cases c1 : op = 15 ∨ op = 16
  · rw [if_pos c1]
    exact if_jump op dst a b imm params regs ao n cap funcs w h1 h2 hn1 hn hf1 hf2 h0' (by simp; omega) k1 k2 k3
  rw [if_neg c1]
  by_cases c2 : op = 17
  · rw [if_pos c2]
    exact if_call op dst a b imm params regs ao n cap funcs w h1 h2 hn1 hn hf1 hf2 h0' (by simp; omega) k1 k2 k3
  rw [if_neg c2]
  by_cases c3 : op = 1
  · rw [if_pos c3]
    exact if_set op dst a b imm params regs ao n cap funcs w h1 h2 hn1 hn hf1 hf2 h0' (by simp; omega) k1 k2 k3
  · rw [if_neg c3]
    exact if_else op dst a b imm params regs ao n cap funcs w h1 h2 hn1 hn hf1 hf2 h0' (by simp; omega) k1 k2 k3

end Go.Proofs.YtepnhemlhogmgaaDoor
