/- Bytes and programs: what Decode reads of what Encode wrote, and the other way round. No walk. -/
import Derived.Test.YtjckpdeogbamjaaDoorDecode
import Derived.Test.YtjckpdeogbamjaaDoorOpen
namespace Go.Proofs.YtjckpdeogbamjaaDoor
open Go Go.RowKit

theorem seg_eq (l : List Int) (a k : Nat) (h : a + k ≤ l.length) : (l.drop a).take k = (List.range k).map fun j => l.getD (a + j) 0 := by
  apply List.ext_getElem
  · simp; omega
  · intro i h1 h2
    simp at h2
    simp [List.getD_eq_getElem?_getD, List.getElem?_eq_getElem (show a + i < l.length by omega)]
theorem seg_add (l : List Int) (a k m : Nat) : (l.drop a).take (k + m) = (l.drop a).take k ++ (l.drop (a + k)).take m := by
  rw [List.take_add, List.drop_drop]

theorem wrap_back (x : Int) (h0 : 0 ≤ x) (h1 : x < 18446744073709551616) : IntKind.u64.wrap (wrap64 x) = x := by
  simp [IntKind.wrap, IntKind.signed, IntKind.bits, wrap64]; omega
theorem immByte_be (l : List Int) (a : Nat) (h : ∀ i, 0 ≤ l.getD i 0 ∧ l.getD i 0 ≤ 255) (j : Nat) (hj : j < 8) : immByte (wrap64 (beNum l a 8)) (7 - j) = l.getD (a + j) 0 := by
  have hb := beNum_bounds l a h 8
  rw [immByte, wrap_back _ hb.1 (by have := hb.2; simpa using this)]
  have h0 := h (a + 0)
  have h1 := h (a + 1)
  have h2 := h (a + 2)
  have h3 := h (a + 3)
  have h4 := h (a + 4)
  have h5 := h (a + 5)
  have h6 := h (a + 6)
  have h7 := h (a + 7)
  clear hb
  have hc : j = 0 ∨ j = 1 ∨ j = 2 ∨ j = 3 ∨ j = 4 ∨ j = 5 ∨ j = 6 ∨ j = 7 := by omega
  clear hj h
  simp only [beNum]
  rcases hc with rfl | rfl | rfl | rfl | rfl | rfl | rfl | rfl
  all_goals
    generalize l.getD (a + 0) 0 = b0 at *
    generalize l.getD (a + 1) 0 = b1 at *
    generalize l.getD (a + 2) 0 = b2 at *
    generalize l.getD (a + 3) 0 = b3 at *
    generalize l.getD (a + 4) 0 = b4 at *
    generalize l.getD (a + 5) 0 = b5 at *
    generalize l.getD (a + 6) 0 = b6 at *
    generalize l.getD (a + 7) 0 = b7 at *
    simp only [Nat.sub_self, Nat.reduceSub, Nat.reduceMul, Int.reducePow, Nat.mul_zero, Int.pow_zero]
    omega

theorem insBytes_of (l : List Int) (a : Nat) (h : ∀ i, 0 ≤ l.getD i 0 ∧ l.getD i 0 ≤ 255) (hl : a + 12 ≤ l.length) : insBytes (insOf l a) = (l.drop a).take 12 := by
  rw [seg_eq l a 12 hl]
  have e : ∀ i, l.getD i 0 % 256 = l.getD i 0 := fun i => by have := h i; omega
  have k := fun j hj => immByte_be l (a + 4) h j hj
  simp only [insBytes, headBytes, immPart, insOf, e]
  simp only [List.range_succ, List.range_zero, List.map_cons, List.map_nil, List.nil_append, List.cons_append]
  rw [k 0 (by omega), k 1 (by omega), k 2 (by omega), k 3 (by omega), k 4 (by omega), k 5 (by omega), k 6 (by omega), k 7 (by omega)]
  simp [Nat.add_assoc]

theorem insList_bytes (l : List Int) (a : Nat) (h : ∀ i, 0 ≤ l.getD i 0 ∧ l.getD i 0 ≤ 255) : ∀ k, a + 12 * k ≤ l.length → (insList l a k).flatMap insBytes = (l.drop a).take (12 * k)
  | 0, _ => by simp [insList]
  | k + 1, hk => by
    rw [insList_succ, List.flatMap_append, insList_bytes l a h k (by omega), show 12 * (k + 1) = 12 * k + 12 by omega, seg_add]
    simp [insBytes_of l (a + 12 * k) h (by omega)]

theorem fnBytes_of (l : List Int) (a : Nat) (h : ∀ i, 0 ≤ l.getD i 0 ∧ l.getD i 0 ≤ 255) (hl : a + 3 + 12 * (l.getD (a + 2) 0).toNat ≤ l.length) : fnBytes (fnOf l a) = (l.drop a).take (3 + 12 * (l.getD (a + 2) 0).toNat) := by
  have h2 := h (a + 2)
  rw [seg_add, seg_eq l a 3 (by omega), ← insList_bytes l (a + 3) h _ hl]
  have e : (insList l (a + 3) (l.getD (a + 2) 0).toNat).length = (l.getD (a + 2) 0).toNat := by simp [insList]
  simp only [fnBytes, fnHead, fnOf, e]
  simp only [List.range_succ, List.range_zero, List.map_cons, List.map_nil, List.nil_append, List.cons_append]
  simp only [Nat.add_zero]
  congr 3
  omega

theorem fnsPart_bytes (l : List Int) (h : ∀ i, 0 ≤ l.getD i 0 ∧ l.getD i 0 ≤ 255) : ∀ k, atK l k ≤ l.length → 1 ≤ atK l k ∧ (fnsPart l k).flatMap fnBytes = (l.drop 1).take (atK l k - 1)
  | 0, _ => by simp [fnsPart, atK]
  | k + 1, hk => by
    rw [atK] at hk ⊢
    obtain ⟨h1, ih⟩ := fnsPart_bytes l h k (by omega)
    refine ⟨by omega, ?_⟩
    rw [fnsPart_succ, List.flatMap_append, ih, show atK l k + 3 + 12 * (l.getD (atK l k + 2) 0).toNat - 1 = (atK l k - 1) + (3 + 12 * (l.getD (atK l k + 2) 0).toNat) by omega, seg_add, show 1 + (atK l k - 1) = atK l k by omega]
    simp [fnBytes_of l (atK l k) h (by omega)]

/-- A program that was read is written as it was. -/
theorem progBytes_progOf (l : List Int) (h : ∀ i, 0 ≤ l.getD i 0 ∧ l.getD i 0 ≤ 255) (he : endOf l = l.length) : progBytes (progOf l) = l := by
  have h0 := h 0
  obtain ⟨h1, hp⟩ := fnsPart_bytes l h (l.getD 0 0).toNat (by rw [← he]; exact Nat.le_refl _)
  have hl : (progOf l).length = (l.getD 0 0).toNat := by simp [progOf, fnsPart]
  rw [progBytes, progPart, List.take_length, hl, progOf, hp]
  rw [show atK l (l.getD 0 0).toNat = l.length from he] at h1 ⊢
  match l, h1, h0 with
  | x :: r, _, h0 =>
    simp at h0 ⊢
    omega

theorem flat_at {α : Type} (g : α → List Int) (l : List α) (j : Nat) (h : j < l.length) : l.flatMap g = (l.take j).flatMap g ++ (g l[j] ++ (l.drop (j + 1)).flatMap g) := by
  have hc : l = l.take j ++ l[j] :: l.drop (j + 1) := by rw [List.getElem_cons_drop, List.take_append_drop]
  have h2 := congrArg (fun k => k.flatMap g) hc
  rw [List.flatMap_append, List.flatMap_cons] at h2
  exact h2

/-- What lies in the midst of a list. -/
theorem getD_mid (pre m suf : List Int) (j : Nat) (hj : j < m.length) : (pre ++ m ++ suf).getD (pre.length + j) 0 = m.getD j 0 := by
  simp only [List.getD_eq_getElem?_getD]
  rw [List.append_assoc, List.getElem?_append_right (by omega), show pre.length + j - pre.length = j by omega, List.getElem?_append_left hj]

/-- An instruction whose fields are bytes, and whose number has 64 bits. -/
def Ins.small (x : Ins) : Prop := (0 ≤ x.op ∧ x.op ≤ 255) ∧ (0 ≤ x.dst ∧ x.dst ≤ 255) ∧ (0 ≤ x.a ∧ x.a ≤ 255) ∧ (0 ≤ x.b ∧ x.b ≤ 255) ∧ I64 x.imm

theorem insBytes_getD (x : Ins) : (insBytes x).getD 0 0 = x.op % 256 ∧ (insBytes x).getD 1 0 = x.dst % 256 ∧ (insBytes x).getD 2 0 = x.a % 256 ∧ (insBytes x).getD 3 0 = x.b % 256 ∧
    ∀ j, j < 8 → (insBytes x).getD (4 + j) 0 = immByte x.imm (7 - j) := by
  refine ⟨rfl, rfl, rfl, rfl, fun j hj => ?_⟩
  have hc : j = 0 ∨ j = 1 ∨ j = 2 ∨ j = 3 ∨ j = 4 ∨ j = 5 ∨ j = 6 ∨ j = 7 := by omega
  rcases hc with rfl | rfl | rfl | rfl | rfl | rfl | rfl | rfl <;> rfl

theorem beNum_imm (l : List Int) (a : Nat) (imm : Int) (hi : I64 imm) (h : ∀ j, j < 8 → l.getD (a + j) 0 = immByte imm (7 - j)) : wrap64 (beNum l a 8) = imm := by
  simp only [beNum]
  rw [h 0 (by omega), h 1 (by omega), h 2 (by omega), h 3 (by omega), h 4 (by omega), h 5 (by omega), h 6 (by omega), h 7 (by omega)]
  have e : IntKind.u64.wrap imm = imm % 18446744073709551616 := by simp [IntKind.wrap, IntKind.signed, IntKind.bits]
  simp only [immByte, e, Nat.sub_self, Nat.reduceSub, Nat.reduceMul, Int.reducePow, Nat.mul_zero, Int.pow_zero, wrap64]
  unfold I64 at hi
  have h0 : 0 ≤ imm % 18446744073709551616 ∧ imm % 18446744073709551616 < 18446744073709551616 := by omega
  have h1 : (imm % 18446744073709551616 + 9223372036854775808) % 18446744073709551616 - 9223372036854775808 = imm := by omega
  generalize imm % 18446744073709551616 = u at h0 h1 ⊢
  have h2 : ((((((((0 * 256 + u / 72057594037927936 % 256) * 256 + u / 281474976710656 % 256) * 256 + u / 1099511627776 % 256) * 256 + u / 4294967296 % 256) * 256 + u / 16777216 % 256) * 256 + u / 65536 % 256) * 256 + u / 256 % 256) * 256 + u / 1 % 256) = u := by omega
  rw [h2]
  exact h1

theorem insOf_mid (pre suf : List Int) (x : Ins) (hx : x.small) : insOf (pre ++ insBytes x ++ suf) pre.length = x := by
  obtain ⟨h1, h2, h3, h4, h5⟩ := hx
  obtain ⟨g0, g1, g2, g3, g4⟩ := insBytes_getD x
  have hl := insBytes_length x
  have e0 := getD_mid pre (insBytes x) suf 0 (by omega)
  have e1 := getD_mid pre (insBytes x) suf 1 (by omega)
  have e2 := getD_mid pre (insBytes x) suf 2 (by omega)
  have e3 := getD_mid pre (insBytes x) suf 3 (by omega)
  have e4 := beNum_imm (pre ++ insBytes x ++ suf) (pre.length + 4) x.imm h5 (fun j hj => by rw [Nat.add_assoc, getD_mid pre (insBytes x) suf (4 + j) (by omega), g4 j hj])
  rw [Nat.add_zero] at e0
  unfold insOf
  rw [e0, e1, e2, e3, e4, g0, g1, g2, g3]
  obtain ⟨o, d, a, b, i⟩ := x
  dsimp only at *
  rw [Int.emod_eq_of_lt (by omega) (by omega), Int.emod_eq_of_lt (by omega) (by omega), Int.emod_eq_of_lt (by omega) (by omega), Int.emod_eq_of_lt (by omega) (by omega)]

/-- A function whose fields are bytes. -/
def Fn.small (f : Fn) : Prop := (0 ≤ f.params ∧ f.params ≤ 255) ∧ (0 ≤ f.regs ∧ f.regs ≤ 255) ∧ f.code.length ≤ 255 ∧ ∀ x ∈ f.code, x.small

theorem fnOf_mid (pre suf : List Int) (f : Fn) (hf : f.small) : fnOf (pre ++ fnBytes f ++ suf) pre.length = f ∧ ((pre ++ fnBytes f ++ suf).getD (pre.length + 2) 0).toNat = f.code.length := by
  obtain ⟨h1, h2, h3, h4⟩ := hf
  have hl := fnBytes_length f
  have e0 := getD_mid pre (fnBytes f) suf 0 (by omega)
  have e1 := getD_mid pre (fnBytes f) suf 1 (by omega)
  have e2 := getD_mid pre (fnBytes f) suf 2 (by omega)
  have g0 : (fnBytes f).getD 0 0 = f.params := rfl
  have g1 : (fnBytes f).getD 1 0 = f.regs := rfl
  have g2 : (fnBytes f).getD 2 0 = (f.code.length : Int) := rfl
  rw [Nat.add_zero] at e0
  have hn : ((pre ++ fnBytes f ++ suf).getD (pre.length + 2) 0).toNat = f.code.length := by rw [e2, g2]; rfl
  refine ⟨?_, hn⟩
  unfold fnOf
  rw [e0, e1, hn, g0, g1]
  have hc : insList (pre ++ fnBytes f ++ suf) (pre.length + 3) f.code.length = f.code := by
    apply List.ext_getElem
    · simp [insList]
    · intro j hj hj'
      simp only [insList, List.getElem_map, List.getElem_range]
      have hsplit : pre ++ fnBytes f ++ suf = (pre ++ fnHead f ++ (f.code.take j).flatMap insBytes) ++ insBytes f.code[j] ++ ((f.code.drop (j + 1)).flatMap insBytes ++ suf) := by
        rw [fnBytes, flat_at insBytes f.code j hj']
        simp only [List.append_assoc]
      have hlen : (pre ++ fnHead f ++ (f.code.take j).flatMap insBytes).length = pre.length + 3 + 12 * j := by
        rw [List.length_append, List.length_append, insBytes_flat, List.length_take]
        simp [fnHead]; omega
      rw [hsplit, ← hlen]
      exact insOf_mid _ _ _ (h4 _ (List.getElem_mem hj'))
  rw [hc]

/-- A program that was written is read as it was. -/
theorem progOf_progBytes (p : List Fn) (hp : ∀ f ∈ p, f.small) : progOf (progBytes p) = p ∧ endOf (progBytes p) = (progBytes p).length := by
  have h0 : ((progBytes p).getD 0 0).toNat = p.length := rfl
  have hsplit : ∀ k (hk : k < p.length), progBytes p = progPart p p.length k ++ fnBytes p[k] ++ (p.drop (k + 1)).flatMap fnBytes := fun k hk => by
    rw [progBytes, progPart, List.take_length, progPart, flat_at fnBytes p k hk]
    simp only [List.append_assoc]
  have hat : ∀ k, k ≤ p.length → atK (progBytes p) k = (progPart p p.length k).length := by
    intro k
    induction k with
    | zero => intro _; simp [atK, progPart]
    | succ k ih =>
      intro hk
      have hf := fnOf_mid (progPart p p.length k) ((p.drop (k + 1)).flatMap fnBytes) p[k] (hp _ (List.getElem_mem (by omega)))
      rw [atK, ih (by omega), progPart_succ p p.length k (by omega), List.length_append, fnBytes_length]
      rw [← hsplit k (by omega)] at hf
      rw [hf.2]
      omega
  refine ⟨?_, by rw [endOf, h0, hat _ (Nat.le_refl _)]; rfl⟩
  rw [progOf, h0]
  apply List.ext_getElem
  · simp [fnsPart]
  · intro k hk hk'
    simp only [fnsPart, List.getElem_map, List.getElem_range]
    have hf := fnOf_mid (progPart p p.length k) ((p.drop (k + 1)).flatMap fnBytes) p[k] (hp _ (List.getElem_mem hk'))
    rw [← hsplit k hk'] at hf
    rw [hat k (by omega)]
    exact hf.1

/-- Where two lists agree as far as a program reaches, it ends at the same place. -/
theorem endOf_agree (l l' : List Int) (m : Nat) (h : ∀ i, i < m → l.getD i 0 = l'.getD i 0) (hm : endOf l ≤ m) : endOf l' = endOf l := by
  have h1 : 1 ≤ endOf l := atK_mono l (Nat.zero_le _)
  have e0 := h 0 (by omega)
  have all : ∀ k, k ≤ (l.getD 0 0).toNat → atK l' k = atK l k := by
    intro k
    induction k with
    | zero => intro _; rfl
    | succ k ih =>
      intro hk
      have hk2 : atK l (k + 1) ≤ m := Nat.le_trans (atK_mono l hk) hm
      rw [atK] at hk2
      rw [atK, atK, ih (by omega), h (atK l k + 2) (by omega)]
  rw [endOf, endOf, ← e0]
  exact all _ (Nat.le_refl _)

theorem codeInstr_small {x : Ins} {regs places funcs : Int} (h : codeInstr x regs places funcs = 0) (hr1 : 1 ≤ regs) (hr : regs ≤ 12) (hi : I64 x.imm) : x.small := by
  have room : ∀ has part, 1 ≤ roomOf has part regs ∧ roomOf has part regs ≤ 12 := fun has part => by unfold roomOf; split <;> omega
  unfold codeInstr at h
  split at h
  · omega
  rename_i h0
  split at h
  · omega
  rename_i h1
  split at h
  · omega
  rename_i h2
  split at h
  · omega
  rename_i h3
  have r1 := room (hasOf x.op) 1
  have r2 := room (hasOf x.op) 2
  have r3 := room (hasOf x.op) 4
  simp [belowB] at h1 h2 h3
  have hop : 0 ≤ x.op ∧ x.op < 20 := by
    by_cases c : 0 ≤ x.op ∧ x.op < 20
    · exact c
    · simp [hasOf, c] at h0
  exact ⟨by omega, by omega, by omega, by omega, hi⟩

theorem prog_small {p : List Fn} (h : codeProg p = 0) (hwf : ∀ f ∈ p, ∀ x ∈ f.code, I64 x.imm) : p.length ≤ 4 ∧ (∀ f ∈ p, f.small) ∧ (∀ f ∈ p, f.code.length ≤ 40) := by
  obtain ⟨h1, h2, h3⟩ := codeProg_zero h
  refine ⟨h2, fun f hf => ?_, fun f hf => (codeFunc_zero (h3 f hf)).2.2.2.2.2.2.1⟩
  obtain ⟨a1, a2, a3, a4, a5, a6, a7, a8⟩ := codeFunc_zero (h3 f hf)
  exact ⟨by omega, by omega, by omega, fun x hx => codeInstr_small (a8 x hx) a1 a2 (hwf f hf x hx)⟩

theorem progPart_length' (p : List Fn) (n : Nat) (h : ∀ f ∈ p, f.code.length ≤ 40) : ∀ k, k ≤ p.length → (progPart p n k).length ≤ 1 + k * 483
  | 0, _ => by simp [progPart]
  | k + 1, hk => by
    have := progPart_length' p n h k (by omega)
    have h2 := h p[k] (List.getElem_mem (by omega))
    rw [progPart_succ p n k (by omega), List.length_append, fnBytes_length]
    omega

/-- What Encode writes are bytes, and not too many. -/
theorem progBytes_bytes {p : List Fn} (h1 : p.length ≤ 4) (h2 : ∀ f ∈ p, f.small) (h3 : ∀ f ∈ p, f.code.length ≤ 40) : (progBytes p).length ≤ 4000 ∧ ∀ i, 0 ≤ (progBytes p).getD i 0 ∧ (progBytes p).getD i 0 ≤ 255 := by
  have hlen := progPart_length' p p.length h3 p.length (Nat.le_refl _)
  refine ⟨by rw [progBytes]; omega, fun i => ?_⟩
  have hall : ∀ y ∈ progBytes p, 0 ≤ y ∧ y ≤ 255 := by
    intro y hy
    rw [progBytes, progPart, List.take_length] at hy
    rcases List.mem_append.1 hy with hy | hy
    · simp at hy; omega
    · obtain ⟨f, hf, hy⟩ := List.mem_flatMap.1 hy
      obtain ⟨b1, b2, b3, b4⟩ := h2 f hf
      rcases List.mem_append.1 hy with hy | hy
      · simp [fnHead] at hy; omega
      · obtain ⟨x, hx, hy⟩ := List.mem_flatMap.1 hy
        rcases List.mem_append.1 hy with hy | hy
        · simp [headBytes] at hy; omega
        · obtain ⟨j, _, rfl⟩ := List.mem_map.1 hy
          unfold immByte
          omega
  rcases Nat.lt_or_ge i (progBytes p).length with hi | hi
  · rw [List.getD_eq_getElem?_getD, List.getElem?_eq_getElem hi]
    exact hall _ (List.getElem_mem hi)
  · rw [List.getD_eq_getElem?_getD, List.getElem?_eq_none hi]
    simp

end Go.Proofs.YtjckpdeogbamjaaDoor
