/- Machines as values; contracts of cpu.machineOf and (*cpu.machine).cpu (written by gen/mkcpuval.py). -/
import Derived.Test.YtapjfiihfgndeaaDoorCpuDo
import Derived.Deep.Cut
import Derived.Laws.ResultCell
namespace Go.Proofs.YtapjfiihfgndeaaDoor
open Go Go.RowKit

def cpuCells (c : Cp) : List Value := i64s c.regs ++ (.int .i64 c.pc :: (i64s c.data ++ [.bool c.halted]))
def Cp.val (c : Cp) : Value := .agg (cpuCells c).toArray
theorem cp_len {c : Cp} (h : c.Ok) : (cpuCells c).length = 98 := by simp [cpuCells, i64s, h.r, h.d]
theorem infoCp : (Tryd.prog.info? 26).map (·.size) = some 98 := by kernel_rfl
theorem infoMc : (Tryd.prog.info? 60).map (·.size) = some 99 := by kernel_rfl
theorem infoCpC {c : Cp} (h : c.Ok) : (Tryd.prog.info? 26).map (·.size) = some (cpuCells c).toArray.size := by rw [List.size_toArray, cp_len h]; exact infoCp
theorem infoMcC {c : Cp} (h : c.Ok) (wv : Value) : (Tryd.prog.info? 60).map (·.size) = some (mcCells c wv).toArray.size := by rw [List.size_toArray, mc_len h]; exact infoMc
theorem infoR32 : (Tryd.prog.info? 23).map (·.size) = some 32 := by kernel_rfl
theorem infoD64 : (Tryd.prog.info? 24).map (·.size) = some 64 := by kernel_rfl
theorem infoRg : (Tryd.prog.info? 57).map (·.size) = some 32 := by kernel_rfl
theorem infoDt : (Tryd.prog.info? 58).map (·.size) = some 64 := by kernel_rfl
theorem cons_of {l : List Int} {n : Nat} (h : l.length = n + 1) : ∃ a l', l = a :: l' ∧ l'.length = n := by
  cases l with
  | nil => simp at h
  | cons a l' => exact ⟨a, l', rfl, by simpa using h⟩
theorem list32 {l : List Int} (h : l.length = 32) : ∃ r0 r1 r2 r3 r4 r5 r6 r7 r8 r9 r10 r11 r12 r13 r14 r15 r16 r17 r18 r19 r20 r21 r22 r23 r24 r25 r26 r27 r28 r29 r30 r31, l = [r0, r1, r2, r3, r4, r5, r6, r7, r8, r9, r10, r11, r12, r13, r14, r15, r16, r17, r18, r19, r20, r21, r22, r23, r24, r25, r26, r27, r28, r29, r30, r31] := by
  obtain ⟨r0, lr0, hr0, kr0⟩ := cons_of h
  obtain ⟨r1, lr1, hr1, kr1⟩ := cons_of kr0
  obtain ⟨r2, lr2, hr2, kr2⟩ := cons_of kr1
  obtain ⟨r3, lr3, hr3, kr3⟩ := cons_of kr2
  obtain ⟨r4, lr4, hr4, kr4⟩ := cons_of kr3
  obtain ⟨r5, lr5, hr5, kr5⟩ := cons_of kr4
  obtain ⟨r6, lr6, hr6, kr6⟩ := cons_of kr5
  obtain ⟨r7, lr7, hr7, kr7⟩ := cons_of kr6
  obtain ⟨r8, lr8, hr8, kr8⟩ := cons_of kr7
  obtain ⟨r9, lr9, hr9, kr9⟩ := cons_of kr8
  obtain ⟨r10, lr10, hr10, kr10⟩ := cons_of kr9
  obtain ⟨r11, lr11, hr11, kr11⟩ := cons_of kr10
  obtain ⟨r12, lr12, hr12, kr12⟩ := cons_of kr11
  obtain ⟨r13, lr13, hr13, kr13⟩ := cons_of kr12
  obtain ⟨r14, lr14, hr14, kr14⟩ := cons_of kr13
  obtain ⟨r15, lr15, hr15, kr15⟩ := cons_of kr14
  obtain ⟨r16, lr16, hr16, kr16⟩ := cons_of kr15
  obtain ⟨r17, lr17, hr17, kr17⟩ := cons_of kr16
  obtain ⟨r18, lr18, hr18, kr18⟩ := cons_of kr17
  obtain ⟨r19, lr19, hr19, kr19⟩ := cons_of kr18
  obtain ⟨r20, lr20, hr20, kr20⟩ := cons_of kr19
  obtain ⟨r21, lr21, hr21, kr21⟩ := cons_of kr20
  obtain ⟨r22, lr22, hr22, kr22⟩ := cons_of kr21
  obtain ⟨r23, lr23, hr23, kr23⟩ := cons_of kr22
  obtain ⟨r24, lr24, hr24, kr24⟩ := cons_of kr23
  obtain ⟨r25, lr25, hr25, kr25⟩ := cons_of kr24
  obtain ⟨r26, lr26, hr26, kr26⟩ := cons_of kr25
  obtain ⟨r27, lr27, hr27, kr27⟩ := cons_of kr26
  obtain ⟨r28, lr28, hr28, kr28⟩ := cons_of kr27
  obtain ⟨r29, lr29, hr29, kr29⟩ := cons_of kr28
  obtain ⟨r30, lr30, hr30, kr30⟩ := cons_of kr29
  obtain ⟨r31, lr31, hr31, kr31⟩ := cons_of kr30
  obtain rfl : lr31 = [] := List.length_eq_zero_iff.1 kr31
  subst hr31
  subst hr30
  subst hr29
  subst hr28
  subst hr27
  subst hr26
  subst hr25
  subst hr24
  subst hr23
  subst hr22
  subst hr21
  subst hr20
  subst hr19
  subst hr18
  subst hr17
  subst hr16
  subst hr15
  subst hr14
  subst hr13
  subst hr12
  subst hr11
  subst hr10
  subst hr9
  subst hr8
  subst hr7
  subst hr6
  subst hr5
  subst hr4
  subst hr3
  subst hr2
  subst hr1
  subst hr0
  exact ⟨r0, r1, r2, r3, r4, r5, r6, r7, r8, r9, r10, r11, r12, r13, r14, r15, r16, r17, r18, r19, r20, r21, r22, r23, r24, r25, r26, r27, r28, r29, r30, r31, rfl⟩
theorem list64 {l : List Int} (h : l.length = 64) : ∃ d0 d1 d2 d3 d4 d5 d6 d7 d8 d9 d10 d11 d12 d13 d14 d15 d16 d17 d18 d19 d20 d21 d22 d23 d24 d25 d26 d27 d28 d29 d30 d31 d32 d33 d34 d35 d36 d37 d38 d39 d40 d41 d42 d43 d44 d45 d46 d47 d48 d49 d50 d51 d52 d53 d54 d55 d56 d57 d58 d59 d60 d61 d62 d63, l = [d0, d1, d2, d3, d4, d5, d6, d7, d8, d9, d10, d11, d12, d13, d14, d15, d16, d17, d18, d19, d20, d21, d22, d23, d24, d25, d26, d27, d28, d29, d30, d31, d32, d33, d34, d35, d36, d37, d38, d39, d40, d41, d42, d43, d44, d45, d46, d47, d48, d49, d50, d51, d52, d53, d54, d55, d56, d57, d58, d59, d60, d61, d62, d63] := by
  obtain ⟨d0, ld0, hd0, kd0⟩ := cons_of h
  obtain ⟨d1, ld1, hd1, kd1⟩ := cons_of kd0
  obtain ⟨d2, ld2, hd2, kd2⟩ := cons_of kd1
  obtain ⟨d3, ld3, hd3, kd3⟩ := cons_of kd2
  obtain ⟨d4, ld4, hd4, kd4⟩ := cons_of kd3
  obtain ⟨d5, ld5, hd5, kd5⟩ := cons_of kd4
  obtain ⟨d6, ld6, hd6, kd6⟩ := cons_of kd5
  obtain ⟨d7, ld7, hd7, kd7⟩ := cons_of kd6
  obtain ⟨d8, ld8, hd8, kd8⟩ := cons_of kd7
  obtain ⟨d9, ld9, hd9, kd9⟩ := cons_of kd8
  obtain ⟨d10, ld10, hd10, kd10⟩ := cons_of kd9
  obtain ⟨d11, ld11, hd11, kd11⟩ := cons_of kd10
  obtain ⟨d12, ld12, hd12, kd12⟩ := cons_of kd11
  obtain ⟨d13, ld13, hd13, kd13⟩ := cons_of kd12
  obtain ⟨d14, ld14, hd14, kd14⟩ := cons_of kd13
  obtain ⟨d15, ld15, hd15, kd15⟩ := cons_of kd14
  obtain ⟨d16, ld16, hd16, kd16⟩ := cons_of kd15
  obtain ⟨d17, ld17, hd17, kd17⟩ := cons_of kd16
  obtain ⟨d18, ld18, hd18, kd18⟩ := cons_of kd17
  obtain ⟨d19, ld19, hd19, kd19⟩ := cons_of kd18
  obtain ⟨d20, ld20, hd20, kd20⟩ := cons_of kd19
  obtain ⟨d21, ld21, hd21, kd21⟩ := cons_of kd20
  obtain ⟨d22, ld22, hd22, kd22⟩ := cons_of kd21
  obtain ⟨d23, ld23, hd23, kd23⟩ := cons_of kd22
  obtain ⟨d24, ld24, hd24, kd24⟩ := cons_of kd23
  obtain ⟨d25, ld25, hd25, kd25⟩ := cons_of kd24
  obtain ⟨d26, ld26, hd26, kd26⟩ := cons_of kd25
  obtain ⟨d27, ld27, hd27, kd27⟩ := cons_of kd26
  obtain ⟨d28, ld28, hd28, kd28⟩ := cons_of kd27
  obtain ⟨d29, ld29, hd29, kd29⟩ := cons_of kd28
  obtain ⟨d30, ld30, hd30, kd30⟩ := cons_of kd29
  obtain ⟨d31, ld31, hd31, kd31⟩ := cons_of kd30
  obtain ⟨d32, ld32, hd32, kd32⟩ := cons_of kd31
  obtain ⟨d33, ld33, hd33, kd33⟩ := cons_of kd32
  obtain ⟨d34, ld34, hd34, kd34⟩ := cons_of kd33
  obtain ⟨d35, ld35, hd35, kd35⟩ := cons_of kd34
  obtain ⟨d36, ld36, hd36, kd36⟩ := cons_of kd35
  obtain ⟨d37, ld37, hd37, kd37⟩ := cons_of kd36
  obtain ⟨d38, ld38, hd38, kd38⟩ := cons_of kd37
  obtain ⟨d39, ld39, hd39, kd39⟩ := cons_of kd38
  obtain ⟨d40, ld40, hd40, kd40⟩ := cons_of kd39
  obtain ⟨d41, ld41, hd41, kd41⟩ := cons_of kd40
  obtain ⟨d42, ld42, hd42, kd42⟩ := cons_of kd41
  obtain ⟨d43, ld43, hd43, kd43⟩ := cons_of kd42
  obtain ⟨d44, ld44, hd44, kd44⟩ := cons_of kd43
  obtain ⟨d45, ld45, hd45, kd45⟩ := cons_of kd44
  obtain ⟨d46, ld46, hd46, kd46⟩ := cons_of kd45
  obtain ⟨d47, ld47, hd47, kd47⟩ := cons_of kd46
  obtain ⟨d48, ld48, hd48, kd48⟩ := cons_of kd47
  obtain ⟨d49, ld49, hd49, kd49⟩ := cons_of kd48
  obtain ⟨d50, ld50, hd50, kd50⟩ := cons_of kd49
  obtain ⟨d51, ld51, hd51, kd51⟩ := cons_of kd50
  obtain ⟨d52, ld52, hd52, kd52⟩ := cons_of kd51
  obtain ⟨d53, ld53, hd53, kd53⟩ := cons_of kd52
  obtain ⟨d54, ld54, hd54, kd54⟩ := cons_of kd53
  obtain ⟨d55, ld55, hd55, kd55⟩ := cons_of kd54
  obtain ⟨d56, ld56, hd56, kd56⟩ := cons_of kd55
  obtain ⟨d57, ld57, hd57, kd57⟩ := cons_of kd56
  obtain ⟨d58, ld58, hd58, kd58⟩ := cons_of kd57
  obtain ⟨d59, ld59, hd59, kd59⟩ := cons_of kd58
  obtain ⟨d60, ld60, hd60, kd60⟩ := cons_of kd59
  obtain ⟨d61, ld61, hd61, kd61⟩ := cons_of kd60
  obtain ⟨d62, ld62, hd62, kd62⟩ := cons_of kd61
  obtain ⟨d63, ld63, hd63, kd63⟩ := cons_of kd62
  obtain rfl : ld63 = [] := List.length_eq_zero_iff.1 kd63
  subst hd63
  subst hd62
  subst hd61
  subst hd60
  subst hd59
  subst hd58
  subst hd57
  subst hd56
  subst hd55
  subst hd54
  subst hd53
  subst hd52
  subst hd51
  subst hd50
  subst hd49
  subst hd48
  subst hd47
  subst hd46
  subst hd45
  subst hd44
  subst hd43
  subst hd42
  subst hd41
  subst hd40
  subst hd39
  subst hd38
  subst hd37
  subst hd36
  subst hd35
  subst hd34
  subst hd33
  subst hd32
  subst hd31
  subst hd30
  subst hd29
  subst hd28
  subst hd27
  subst hd26
  subst hd25
  subst hd24
  subst hd23
  subst hd22
  subst hd21
  subst hd20
  subst hd19
  subst hd18
  subst hd17
  subst hd16
  subst hd15
  subst hd14
  subst hd13
  subst hd12
  subst hd11
  subst hd10
  subst hd9
  subst hd8
  subst hd7
  subst hd6
  subst hd5
  subst hd4
  subst hd3
  subst hd2
  subst hd1
  subst hd0
  exact ⟨d0, d1, d2, d3, d4, d5, d6, d7, d8, d9, d10, d11, d12, d13, d14, d15, d16, d17, d18, d19, d20, d21, d22, d23, d24, d25, d26, d27, d28, d29, d30, d31, d32, d33, d34, d35, d36, d37, d38, d39, d40, d41, d42, d43, d44, d45, d46, d47, d48, d49, d50, d51, d52, d53, d54, d55, d56, d57, d58, d59, d60, d61, d62, d63, rfl⟩
theorem built_mc {c : Cp} (h : c.Ok) (ao : Option Addr) (n cap : Nat) : Tryd.prog.built 60 [(0, .agg (i64s c.regs).toArray), (1, .agg (i64s c.data).toArray), (2, .int .i64 c.pc), (3, .bool c.halted), (4, .slice ao n cap)] = some (mcCells c (.slice ao n cap)).toArray := by
  obtain ⟨regs, pc, data, halted⟩ := c
  obtain ⟨hr, hd⟩ := h
  dsimp only at hr hd ⊢
  obtain ⟨r0, r1, r2, r3, r4, r5, r6, r7, r8, r9, r10, r11, r12, r13, r14, r15, r16, r17, r18, r19, r20, r21, r22, r23, r24, r25, r26, r27, r28, r29, r30, r31, rfl⟩ := list32 hr
  obtain ⟨d0, d1, d2, d3, d4, d5, d6, d7, d8, d9, d10, d11, d12, d13, d14, d15, d16, d17, d18, d19, d20, d21, d22, d23, d24, d25, d26, d27, d28, d29, d30, d31, d32, d33, d34, d35, d36, d37, d38, d39, d40, d41, d42, d43, d44, d45, d46, d47, d48, d49, d50, d51, d52, d53, d54, d55, d56, d57, d58, d59, d60, d61, d62, d63, rfl⟩ := list64 hd
  kernel_rfl
theorem built_cp {c : Cp} (h : c.Ok) : Tryd.prog.built 26 [(0, .agg (i64s c.regs).toArray), (1, .int .i64 c.pc), (2, .agg (i64s c.data).toArray), (3, .bool c.halted)] = some (cpuCells c).toArray := by
  obtain ⟨regs, pc, data, halted⟩ := c
  obtain ⟨hr, hd⟩ := h
  dsimp only at hr hd ⊢
  obtain ⟨r0, r1, r2, r3, r4, r5, r6, r7, r8, r9, r10, r11, r12, r13, r14, r15, r16, r17, r18, r19, r20, r21, r22, r23, r24, r25, r26, r27, r28, r29, r30, r31, rfl⟩ := list32 hr
  obtain ⟨d0, d1, d2, d3, d4, d5, d6, d7, d8, d9, d10, d11, d12, d13, d14, d15, d16, d17, d18, d19, d20, d21, d22, d23, d24, d25, d26, d27, d28, d29, d30, d31, d32, d33, d34, d35, d36, d37, d38, d39, d40, d41, d42, d43, d44, d45, d46, d47, d48, d49, d50, d51, d52, d53, d54, d55, d56, d57, d58, d59, d60, d61, d62, d63, rfl⟩ := list64 hd
  kernel_rfl
theorem built_cp0 : Tryd.prog.built 26 [] = some (cpuCells zeroCp).toArray := by kernel_rfl
theorem all_one (l : List Value) (h : ∀ u ∈ l, u.oneCell' = true) : l.toArray.all (·.oneCell') = true := by
  rw [Array.all_eq_true_iff_forall_mem]
  intro u hu
  exact h u (by simpa using hu)
theorem cp_one (c : Cp) : (cpuCells c).toArray.all (·.oneCell') = true := by
  refine all_one _ fun u hu => ?_
  simp only [cpuCells, List.mem_append, List.mem_cons, List.not_mem_nil, or_false] at hu
  rcases hu with hu | rfl | hu | rfl
  · exact i64s_one _ u hu
  · rfl
  · exact i64s_one _ u hu
  · rfl
theorem mc_one (c : Cp) (ao : Option Addr) (n cap : Nat) : (mcCells c (.slice ao n cap)).toArray.all (·.oneCell') = true := by
  refine all_one _ fun u hu => ?_
  simp only [mcCells, List.mem_append, List.mem_cons, List.not_mem_nil, or_false] at hu
  rcases hu with hu | hu | rfl | rfl | rfl
  · exact i64s_one _ u hu
  · exact i64s_one _ u hu
  · rfl
  · rfl
  · rfl
theorem range_of_row {w : World} {g t : Nat} {l : List Value} (h : w.heap[g]? = some (.cells l.toArray t (0, 0))) (o : Nat) (cs : List Value) (hc : ∀ j u, cs[j]? = some u → l[o + j]? = some u) : w.rangeAt g o cs := by
  intro j u hu
  rw [cell_of_row _ _ _ _ _ _ h, List.getElem?_toArray]
  exact hc j u hu
theorem cp_regs {c : Cp} (_h : c.Ok) (j : Nat) (u : Value) (hu : (i64s c.regs)[j]? = some u) : (cpuCells c)[0 + j]? = some u := by
  have hj : j < (i64s c.regs).length := (List.getElem?_eq_some_iff.1 hu).1
  unfold cpuCells
  rw [Nat.zero_add, List.getElem?_append_left hj]; exact hu
theorem cp_data {c : Cp} (h : c.Ok) (j : Nat) (u : Value) (hu : (i64s c.data)[j]? = some u) : (cpuCells c)[33 + j]? = some u := by
  have hj : j < (i64s c.data).length := (List.getElem?_eq_some_iff.1 hu).1
  unfold cpuCells
  rw [List.getElem?_append_right (by simp [i64s, h.r]; omega)]
  rw [show 33 + j - (i64s c.regs).length = j + 1 by simp [i64s, h.r]; omega, List.getElem?_cons_succ, List.getElem?_append_left hj]; exact hu
theorem cp_pc {c : Cp} (h : c.Ok) : (cpuCells c)[32]? = some (.int .i64 c.pc) := by
  unfold cpuCells
  rw [List.getElem?_append_right (by simp [i64s, h.r])]
  simp [i64s, h.r]
theorem cp_halt {c : Cp} (h : c.Ok) : (cpuCells c)[97]? = some (.bool c.halted) := by
  unfold cpuCells
  rw [List.getElem?_append_right (by simp [i64s, h.r]), show 97 - (i64s c.regs).length = 64 + 1 by simp [i64s, h.r], List.getElem?_cons_succ, List.getElem?_append_right (by simp [i64s, h.d])]
  simp [i64s, h.d]
theorem mcr_regs {c : Cp} (wv : Value) (j : Nat) (u : Value) (hu : (i64s c.regs)[j]? = some u) : (mcCells c wv)[0 + j]? = some u := by
  have hj : j < (i64s c.regs).length := (List.getElem?_eq_some_iff.1 hu).1
  unfold mcCells
  rw [Nat.zero_add, List.getElem?_append_left hj]; exact hu
theorem mcr_data {c : Cp} (h : c.Ok) (wv : Value) (j : Nat) (u : Value) (hu : (i64s c.data)[j]? = some u) : (mcCells c wv)[32 + j]? = some u := by
  have hj : j < (i64s c.data).length := (List.getElem?_eq_some_iff.1 hu).1
  unfold mcCells
  rw [List.getElem?_append_right (by simp [i64s, h.r]), show 32 + j - (i64s c.regs).length = j by simp [i64s, h.r], List.getElem?_append_left hj]; exact hu
def zeroMc : List Value := mcCells zeroCp (.slice none 0 0)

theorem wpList_build_to {P : Program} {ops : Array Oper} {rest : List Oper} {o : Oper} {a : Act} {w : World} {Q : Exit → Act → World → Prop} (hg : o.guard = none) (t : TypeId) (parts : Array (Nat × Operand)) (ho : o.op = .build t parts) (cs : Array Value)
    (hf : P.built t (parts.map fun (i, x) => (i, a.eval x)).toList = some cs) (h : wpList P ops Q rest (a.put o.dst (.agg cs)) w) : wpList P ops Q (o :: rest) a w := by
  refine wpList_build hg t parts ho (by rw [hf]; rfl) ?_
  rw [hf]
  exact h
theorem zc_mc : Tryd.zeroCells60.size = 99 := by kernel_rfl
theorem zc_cp : Tryd.zeroCells26.size = 98 := by kernel_rfl
theorem begun_set {c : Cp} (h : c.Ok) (wv : Value) : (mcCells c wv).set 0 (.int .i64 0) = mcCells c.begun wv := mc_setReg h wv 0 (by decide) 0

set_option maxRecDepth 100000 in
set_option maxHeartbeats 4000000 in
theorem machineOf_any (c : Cp) (h : c.Ok) (ao : Option Addr) (n cap : Nat) (w : World) :
    Calls Tryd.prog 25 #[.slice ao n cap, c.val] w fun e w' => e = .returned (.agg (mcCells c.begun (.slice ao n cap)).toArray) ∧ Below w.heap.size w w' := by
  have HB0 : Hid (Below w.heap.size w ((w.alloc (.cells (cpuCells c).toArray 26)).alloc (.cells Tryd.zeroCells60 60))) := ((Below.refl _ _).alloc (Nat.le_refl _) _).alloc (by simp) _
  have H0 : Hid (((w.alloc (.cells (cpuCells c).toArray 26)).alloc (.cells Tryd.zeroCells60 60)).heap[w.heap.size]? = some (.cells (cpuCells c).toArray 26 (0, 0))) := heap_alloc2_old _ _ _
  have H1 : Hid (((w.alloc (.cells (cpuCells c).toArray 26)).alloc (.cells Tryd.zeroCells60 60)).heap[w.heap.size + 1]? = some (.cells Tryd.zeroCells60 60 (0, 0))) := heap_alloc2_new _ _ _
  have HZ : Hid (((w.alloc (.cells (cpuCells c).toArray 26)).alloc (.cells Tryd.zeroCells60 60)).heap.size = w.heap.size + 2) := by show _ = _; simp
  unfold Cp.val
  go_enter Tryd.func25, Tryd.ntmps25
  go_upto_region 1 with fail
  generalize (w.alloc (.cells (cpuCells c).toArray 26)).alloc (.cells Tryd.zeroCells60 60) = W at HB0 H0 H1 HZ ⊢
  have c32 : W.cell? ⟨w.heap.size, 32, none⟩ = some (.int .i64 c.pc) := by rw [cell_of_row _ _ _ _ _ _ H0.out, List.getElem?_toArray]; exact cp_pc h
  have c97 : W.cell? ⟨w.heap.size, 97, none⟩ = some (.bool c.halted) := by rw [cell_of_row _ _ _ _ _ _ H0.out, List.getElem?_toArray]; exact cp_halt h
  have HR : Hid (W.rangeAt w.heap.size 0 (i64s c.regs)) := range_of_row H0.out 0 _ (cp_regs h)
  have HD : Hid (W.rangeAt w.heap.size 33 (i64s c.data)) := range_of_row H0.out 33 _ (cp_data h)
  have i1 : (Tryd.prog.info? 23).map (·.size) = some (i64s c.regs).length := by rw [i64s_length, h.r]; exact infoR32
  have i2 : (Tryd.prog.info? 24).map (·.size) = some (i64s c.data).length := by rw [i64s_length, h.d]; exact infoD64
  have HI1 : Hid ((Tryd.prog.info? 23).map (·.size) = some (i64s c.regs).length) := i1
  have HI2 : Hid ((Tryd.prog.info? 24).map (·.size) = some (i64s c.data).length) := i2
  have HS : Hid (((W.alloc (.cells Tryd.zeroCells60 60)).heap[w.heap.size + 2]? = some (.cells Tryd.zeroCells60 60 (0, 0)))) := by
    have := heap_alloc_last W (.cells Tryd.zeroCells60 60)
    rw [HZ.out] at this; exact this
  have hz : W.heap.size = w.heap.size + 2 := HZ.out
  clear i1 i2
  go_upto_region 2 with (first | (refine wpList_load_mid rfl 23 _ rfl w.heap.size 0 rfl (i64s c.regs) _ HR.out Tryd.underlying23 rfl HI1.out ?_) | (refine wpList_load_mid rfl 24 _ rfl w.heap.size 33 rfl (i64s c.data) _ HD.out Tryd.underlying24 rfl HI2.out ?_) | (refine wpList_build_to rfl _ _ rfl (mcCells c (.slice ao n cap)).toArray (by simpa [Act.eval, Act.put] using built_mc h ao n cap) ?_) | (refine wpList_store_row rfl _ _ _ rfl _ (mcCells c (.slice ao n cap)).toArray rfl rfl _ _ HS.out (infoMcC h _) (by rw [zc_mc, List.size_toArray, mc_len h]) (mc_one _ _ _ _) ?_))
  have G2 : ((W.alloc (.cells Tryd.zeroCells60 60)).setRow (w.heap.size + 2) (mcCells c (.slice ao n cap)).toArray).heap[w.heap.size + 2]? = some (.cells (mcCells c (.slice ao n cap)).toArray 60 (0, 0)) := setRow_heap _ _ _ _ _ _ HS.out
  have G1 : ((W.alloc (.cells Tryd.zeroCells60 60)).setRow (w.heap.size + 2) (mcCells c (.slice ao n cap)).toArray).heap[w.heap.size + 1]? = some (.cells Tryd.zeroCells60 60 (0, 0)) := by
    have hb := below_setRowR ((Below.refl (w.heap.size + 2) W).alloc (by omega) (.cells Tryd.zeroCells60 60)) (Nat.le_refl (w.heap.size + 2)) (mcCells c (.slice ao n cap)).toArray
    exact (hb.block _ (by omega)).trans H1.out
  have HB2 : Hid (Below w.heap.size w ((W.alloc (.cells Tryd.zeroCells60 60)).setRow (w.heap.size + 2) (mcCells c (.slice ao n cap)).toArray)) := below_setRowR (HB0.out.alloc (by omega) _) (by omega) _
  have hMAt : MAt ((W.alloc (.cells Tryd.zeroCells60 60)).setRow (w.heap.size + 2) (mcCells c (.slice ao n cap)).toArray) (w.heap.size + 2) (w.heap.size + 2) c (.slice ao n cap) := ⟨G2, Nat.le_refl _, h⟩
  generalize (W.alloc (.cells Tryd.zeroCells60 60)).setRow (w.heap.size + 2) (mcCells c (.slice ao n cap)).toArray = W2 at G2 G1 HB2 hMAt ⊢
  have c0 := hMAt.reg 0 (by decide)
  have f0 := hMAt.free 0
  have hs := (hMAt.set 0 (.int .i64 0) (begun_set h _) h.begun)
  have G3 := hs.1.cells
  have G4 : (W2.setCell ⟨w.heap.size + 2, 0, none⟩ (.int .i64 0)).heap[w.heap.size + 1]? = some (.cells Tryd.zeroCells60 60 (0, 0)) := (hs.2.block _ (by omega)).trans G1
  have HB3 : Hid (Below w.heap.size w (W2.setCell ⟨w.heap.size + 2, 0, none⟩ (.int .i64 0))) := HB2.out.trans (hs.2.mono (by omega))
  clear hs hMAt G1 G2 HB2 HS H0 H1 HR HD HI1 HI2 c32 c97 HB0 HZ hz
  go_wp2_with (first | (refine wpList_load_row rfl _ _ rfl _ rfl _ _ _ _ G3 Tryd.underlying60 rfl (infoMcC h.begun _) ?_) | (refine wpList_store_row rfl _ _ _ rfl _ _ rfl rfl _ _ G4 (infoMcC h.begun _) (by rw [zc_mc, List.size_toArray, mc_len h.begun]) (mc_one _ _ _ _) ?_))
  try simp only [Exit.inBlock, Exit.then]
  exact bodyPost_ret (results_cell_row rfl _ _ (w.heap.size + 1) 60 _ (0, 0) _ rfl (setRow_heap _ _ _ _ _ _ G4) Tryd.underlying60 rfl (infoMcC h.begun _)) rfl ⟨rfl, below_setRowR HB3.out (by omega) _⟩

theorem yieldsIf_build_to {P : Program} {ops : Array Oper} {S : World → Prop} {o : Oper} {a : Act} (hw : Region.wanted o (yielded ops a.tmps) = true) (t : TypeId) (parts : Array (Nat × Operand)) (ho : o.op = .build t parts) (cs : Array Value)
    (hf : P.built t (parts.map fun (i, x) => (i, a.eval x)).toList = some cs) : YieldsIf P ops S o (.agg cs) a :=
  .inl ⟨hw, fun w _ => by
    unfold execOp
    simp only [ho, Sem.run_bind, run_build (P := P) w t _ cs hf, Result.andThen_ok]
    rfl⟩
set_option maxRecDepth 100000 in
set_option maxHeartbeats 4000000 in
theorem cpu_any (base g : Nat) (c : Cp) (wv : Value) (w : World) (h : MAt w base g c wv) :
    Calls Tryd.prog 26 #[.pointer (some ⟨g, 0, none⟩)] w fun e w' => e = .returned c.val ∧ Below w.heap.size w w' := by
  have HB0 : Hid (Below w.heap.size w (w.alloc (.cells Tryd.zeroCells26 26))) := (Below.refl _ _).alloc (Nat.le_refl _) _
  have HM : Hid (MAt (w.alloc (.cells Tryd.zeroCells26 26)) base g c wv) := h.box _
  have H1 : Hid ((w.alloc (.cells Tryd.zeroCells26 26)).heap[w.heap.size]? = some (.cells Tryd.zeroCells26 26 (0, 0))) := heap_alloc_last _ _
  have HOK : Hid c.Ok := h.ok
  unfold Cp.val
  go_enter Tryd.func26, Tryd.ntmps26
  go_upto_region 1 with fail
  generalize w.alloc (.cells Tryd.zeroCells26 26) = W1 at HB0 HM H1 ⊢
  have c96 := HM.out.pc
  have c97 := HM.out.halted
  have HLT : Hid (g < W1.heap.size) := HM.out.lt
  have HR0 : Hid (W1.rangeAt g 0 (i64s c.regs)) := range_of_row HM.out.cells 0 _ (mcr_regs wv)
  have HR32 : Hid (W1.rangeAt g 32 (i64s c.data)) := range_of_row HM.out.cells 32 _ (mcr_data HOK.out wv)
  have HI1 : Hid ((Tryd.prog.info? 57).map (·.size) = some (i64s c.regs).length) := by show _ = _; rw [i64s_length, HOK.out.r]; exact infoRg
  have HI2 : Hid ((Tryd.prog.info? 58).map (·.size) = some (i64s c.data).length) := by show _ = _; rw [i64s_length, HOK.out.d]; exact infoDt
  clear h
  refine wp_region_last (S := fun W => Below W1.heap.size W1 W) _ 17 (by kernel_rfl) (by kernel_rfl) rfl ((Below.refl _ _).drew) (fun hHeld => ?_)
  simp only [List.pop_toArray, List.dropLast]
  refine wpAnyH_take (i := 0) (v := ?_) rfl (by kernel_rfl) (by kernel_rfl) (by kernel_rfl) (fun _ _ _ h => h) (Or.inl ⟨by rfl, ?_⟩) (by assumption) ?_
  rotate_left
  · (intro W hSW; go_simp; try (with_reducible rfl))
  (try simp only [Act.put, List.setIfInBounds_toArray])
  refine wpAnyH_take (i := 1) (v := ?_) rfl (by kernel_rfl) (by kernel_rfl) (by kernel_rfl) (fun _ _ _ h => h) (Or.inl ⟨by rfl, ?_⟩) (by assumption) ?_
  rotate_left
  · (intro W hSW; go_simp; try (with_reducible rfl))
  (try simp only [Act.put])
  refine wpAnyH_take (i := 2) (v := ?_) rfl (by kernel_rfl) (by kernel_rfl) (by kernel_rfl) (fun _ _ _ h => h) (Or.inl ⟨by rfl, ?_⟩) (by assumption) ?_
  rotate_left
  · (intro W hSW; go_simp; try (with_reducible rfl))
  (try simp only [Act.put])
  refine wpAnyH_take (i := 3) (v := .agg (i64s c.regs).toArray) rfl (by kernel_rfl) (by kernel_rfl) (by kernel_rfl) (fun _ _ _ h => h) (yieldsIf_load_mid (by rfl) 57 (.tmp 5) rfl g (0) rfl (i64s c.regs) _ (fun V hV => range_below HR0.out hV HLT.out) Tryd.underlying57 rfl HI1.out) (by assumption) ?_
  simp only [List.getElem_toArray, List.getElem_cons_succ, List.getElem_cons_zero]
  (try simp only [Act.put, List.setIfInBounds_toArray, List.set_cons_zero, List.set_cons_succ])
  refine wpAnyH_take (i := 4) (v := ?_) rfl (by kernel_rfl) (by kernel_rfl) (by kernel_rfl) (fun _ _ _ h => h) (Or.inl ⟨by rfl, ?_⟩) (by assumption) ?_
  rotate_left
  · (intro W hSW; go_simp; try (with_reducible rfl))
  (try simp only [Act.put, List.setIfInBounds_toArray])
  refine wpAnyH_take (i := 5) (v := ?_) rfl (by kernel_rfl) (by kernel_rfl) (by kernel_rfl) (fun _ _ _ h => h) (Or.inl ⟨by rfl, ?_⟩) (by assumption) ?_
  rotate_left
  · (intro W hSW; go_simp; try (with_reducible rfl))
  (try simp only [Act.put])
  refine wpAnyH_take (i := 6) (v := ?_) rfl (by kernel_rfl) (by kernel_rfl) (by kernel_rfl) (fun _ _ _ h => h) (Or.inl ⟨by rfl, ?_⟩) (by assumption) ?_
  rotate_left
  · (intro W hSW; go_simp; try (with_reducible rfl))
  (try simp only [Act.put])
  refine wpAnyH_take (i := 7) (v := ?_) rfl (by kernel_rfl) (by kernel_rfl) (by kernel_rfl) (fun _ _ _ h => h) (Or.inl ⟨by rfl, ?_⟩) (by assumption) ?_
  rotate_left
  · (intro W hSW; have z0 := keeps_below hSW _ _ c96; go_simp; try (with_reducible rfl))
  (try simp only [Act.put])
  refine wpAnyH_take (i := 8) (v := ?_) rfl (by kernel_rfl) (by kernel_rfl) (by kernel_rfl) (fun _ _ _ h => h) (Or.inl ⟨by rfl, ?_⟩) (by assumption) ?_
  rotate_left
  · (intro W hSW; go_simp; try (with_reducible rfl))
  (try simp only [Act.put])
  refine wpAnyH_take (i := 9) (v := ?_) rfl (by kernel_rfl) (by kernel_rfl) (by kernel_rfl) (fun _ _ _ h => h) (Or.inl ⟨by rfl, ?_⟩) (by assumption) ?_
  rotate_left
  · (intro W hSW; go_simp; try (with_reducible rfl))
  (try simp only [Act.put])
  refine wpAnyH_take (i := 10) (v := ?_) rfl (by kernel_rfl) (by kernel_rfl) (by kernel_rfl) (fun _ _ _ h => h) (Or.inl ⟨by rfl, ?_⟩) (by assumption) ?_
  rotate_left
  · (intro W hSW; go_simp; try (with_reducible rfl))
  (try simp only [Act.put])
  refine wpAnyH_take (i := 11) (v := .agg (i64s c.data).toArray) rfl (by kernel_rfl) (by kernel_rfl) (by kernel_rfl) (fun _ _ _ h => h) (yieldsIf_load_mid (by rfl) 58 (.tmp 13) rfl g (32) rfl (i64s c.data) _ (fun V hV => range_below HR32.out hV HLT.out) Tryd.underlying58 rfl HI2.out) (by assumption) ?_
  simp only [List.getElem_toArray, List.getElem_cons_succ, List.getElem_cons_zero]
  (try simp only [Act.put, List.setIfInBounds_toArray, List.set_cons_zero, List.set_cons_succ])
  refine wpAnyH_take (i := 12) (v := ?_) rfl (by kernel_rfl) (by kernel_rfl) (by kernel_rfl) (fun _ _ _ h => h) (Or.inl ⟨by rfl, ?_⟩) (by assumption) ?_
  rotate_left
  · (intro W hSW; go_simp; try (with_reducible rfl))
  (try simp only [Act.put, List.setIfInBounds_toArray])
  refine wpAnyH_take (i := 13) (v := ?_) rfl (by kernel_rfl) (by kernel_rfl) (by kernel_rfl) (fun _ _ _ h => h) (Or.inl ⟨by rfl, ?_⟩) (by assumption) ?_
  rotate_left
  · (intro W hSW; go_simp; try (with_reducible rfl))
  (try simp only [Act.put])
  refine wpAnyH_take (i := 14) (v := ?_) rfl (by kernel_rfl) (by kernel_rfl) (by kernel_rfl) (fun _ _ _ h => h) (Or.inl ⟨by rfl, ?_⟩) (by assumption) ?_
  rotate_left
  · (intro W hSW; go_simp; try (with_reducible rfl))
  (try simp only [Act.put])
  refine wpAnyH_take (i := 15) (v := ?_) rfl (by kernel_rfl) (by kernel_rfl) (by kernel_rfl) (fun _ _ _ h => h) (Or.inl ⟨by rfl, ?_⟩) (by assumption) ?_
  rotate_left
  · (intro W hSW; have z0 := keeps_below hSW _ _ c97; go_simp; try (with_reducible rfl))
  (try simp only [Act.put])
  refine wpAnyH_take (i := 16) (v := .agg (cpuCells c).toArray) rfl (by kernel_rfl) (by kernel_rfl) (by kernel_rfl) (fun _ _ _ h => h) (yieldsIf_build_to (by rfl) _ _ rfl _ (by simpa [Act.eval, Act.put] using built_cp HOK.out)) (by assumption) ?_
  simp only [List.getElem_toArray, List.getElem_cons_succ, List.getElem_cons_zero]
  (try simp only [Act.put, List.setIfInBounds_toArray, List.set_cons_zero, List.set_cons_succ])
  refine wpAnyH_done (by kernel_rfl) ?_ _
  refine Or.inl ?_
  refine wp_store_row _ _ _ rfl _ (cpuCells c).toArray rfl rfl _ _ H1.out (infoCpC HOK.out) (by rw [zc_cp, List.size_toArray, cp_len HOK.out]) (cp_one _) ?_
  rename_i KK hKK
  refine hKK _ _ (wp_ret ?_)
  change bodyPost Tryd.prog Tryd.f26 (fun e w' => e = .returned (.agg (cpuCells c).toArray) ∧ Below w.heap.size w w') .ret _ _
  exact bodyPost_ret (results_cell_row rfl _ _ w.heap.size 26 _ (0, 0) _ rfl (setRow_heap _ _ _ _ _ _ H1.out) Tryd.underlying26 rfl (infoCpC HOK.out)) rfl ⟨rfl, below_setRowR HB0.out.drew (by omega) _⟩
end Go.Proofs.YtapjfiihfgndeaaDoor
