import Derived.Test.YtldbmdgpdolaaaaDoorPGroupA
import Derived.Laws.CopyOwn
import Derived.OwnWalk
import Derived.WalkLawsBesides
import Derived.Deep.LoopGhost
import Derived.Laws.OwnMore
import Derived.BigQuiet
import Derived.Deep.QuietTactic
import Derived.Test.YtldbmdgpdolaaaaDoorProg
import Derived.WalkKit
import Derived.WalkSpells
import Derived.Deep.RegionHeld
import Derived.OrdersHeld
namespace Go.Proofs.YtldbmdgpdolaaaaDoor
open Go Go.RowKit

def hasB (n bit : Nat) : Bool := ((n / 2 ^ bit % 2 : Nat) : Int) == 1
def readsL (P : List Fn) (x : Ins) : List Int := (if rdA P x = true then [x.a] else []) ++ (if rdB P x = true then [x.b] else [])
end Go.Proofs.YtldbmdgpdolaaaaDoor
namespace Go.Proofs.YtldbmdgpdolaaaaDoor
open Go Go.RowKit

def badB (P : List Fn) (z : Int) (x : Ins) : Bool := decide (0 ≤ z) && (readsL P x).any fun r => !(hasB z.toNat r.toNat)
def SureNum (z : Int) : Prop := z = -1 ∨ (0 ≤ z ∧ z < 4096)
theorem SureSpec.num {f : Fn} {L : List Int} (h : SureSpec f L) (q : Nat) (hq : q < f.code.length + 1) : SureNum (L.getD q 0) := by
  rcases h.2 q hq with ⟨_, e⟩ | ⟨_, m, hm, e, _⟩
  · exact Or.inl e
  · exact Or.inr (by omega)
theorem hasB_bit (n r : Nat) : hasB n r = n.testBit r := by
  rw [testBit_div]; unfold hasB; generalize n / 2 ^ r % 2 = z; rw [Bool.eq_iff_iff]; simp; omega
theorem rdMask_bit (P : List Fn) (x : Ins) (r : Nat) : (rdMask P x).testBit r = (readsL P x).any fun s => decide (s.toNat = r) := by
  unfold rdMask readsL
  cases rdA P x <;> cases rdB P x <;> simp [Nat.testBit_two_pow]
theorem andNot_minus (a : Nat) (h : a < 65536) : bits .andNot .i64 (a : Int) (-1) = 0 := by
  have e : (-1 : Int) = (BitVec.allOnes 64).toInt := by decide
  rw [e, ← bvn_toInt a h, bits_andNot_bv]
  have : bvn a &&& ~~~BitVec.allOnes 64 = 0#64 := by simp
  rw [this]; rfl
theorem andNot_nat (a m : Nat) (ha : a < 65536) (hm : m < 65536) : (bits .andNot .i64 (a : Int) (m : Int) != 0) = true ↔ ∃ r, a.testBit r = true ∧ m.testBit r = false := by
  rw [← bvn_toInt a ha, ← bvn_toInt m hm, bits_andNot_bv]
  have hz : ((bvn a &&& ~~~bvn m).toInt != 0) = true ↔ bvn a &&& ~~~bvn m ≠ 0#64 := by
    have h0 : (0 : Int) = (0#64 : BitVec 64).toInt := rfl
    generalize bvn a &&& ~~~bvn m = y
    rw [h0, bne_iff_ne, ne_eq, BitVec.toInt_inj]
  rw [hz]
  refine ⟨fun h => ?_, fun ⟨r, h1, h2⟩ h => ?_⟩
  · have hex : ∃ r, r < 64 ∧ (bvn a &&& ~~~bvn m).getLsbD r = true := by
      refine Classical.byContradiction fun hn => h ?_
      apply BitVec.eq_of_getLsbD_eq
      intro r hr
      cases hb : (bvn a &&& ~~~bvn m).getLsbD r
      · simp
      · exact absurd ⟨r, hr, hb⟩ hn
    obtain ⟨r, hr, hb⟩ := hex
    rw [BitVec.getLsbD_and, BitVec.getLsbD_not, bvn_bit _ _ hr, bvn_bit _ _ hr] at hb
    refine ⟨r, ?_, ?_⟩
    · cases h1 : a.testBit r <;> simp_all
    · cases h1 : m.testBit r <;> simp_all
  · have hr : r < 64 := by
      rcases Nat.lt_or_ge r 64 with hr | hr
      · exact hr
      · rw [Nat.testBit_lt_two_pow (Nat.lt_of_lt_of_le (show a < 2 ^ 64 by omega) (Nat.pow_le_pow_right (by decide) hr))] at h1; cases h1
    have hb : (bvn a &&& ~~~bvn m).getLsbD r = true := by
      rw [BitVec.getLsbD_and, BitVec.getLsbD_not, bvn_bit _ _ hr, bvn_bit _ _ hr, h1, h2]; simp [hr]
    rw [h] at hb
    simp at hb
theorem bad_bits (P : List Fn) (x : Ins) (hx : InsOk P x) (z : Int) (hz : SureNum z) : (bits .andNot .i64 (rdMask P x : Int) z != 0) = badB P z x := by
  have hl := rdMask_lt hx
  rcases hz with rfl | ⟨h0, h1⟩
  · rw [andNot_minus _ hl]; rfl
  · obtain ⟨m, rfl⟩ := Int.eq_ofNat_of_zero_le h0
    rw [Bool.eq_iff_iff, andNot_nat _ _ hl (by omega)]
    unfold badB
    have hd : decide (0 ≤ (m : Int)) = true := by simp
    rw [hd, Bool.true_and, List.any_eq_true]
    refine ⟨fun ⟨r, h2, h3⟩ => ?_, fun ⟨s, hs, h2⟩ => ?_⟩
    · rw [rdMask_bit, List.any_eq_true] at h2
      obtain ⟨s, hs, he⟩ := h2
      refine ⟨s, hs, ?_⟩
      have he : s.toNat = r := by simpa using he
      rw [hasB_bit, he]
      simp [h3]
    · refine ⟨s.toNat, ?_, ?_⟩
      · rw [rdMask_bit, List.any_eq_true]; exact ⟨s, hs, by simp⟩
      · rw [hasB_bit] at h2
        simpa using h2
def proveE (P : List Fn) (f : Fn) (L : List Int) : Int :=
  if (List.range f.code.length).any (fun pc => badB P (L.getD pc 0) (insD f pc)) = true then 6 else if L.getD f.code.length 0 = -1 then 0 else 7
theorem prove_bad {P : List Fn} {f : Fn} {L : List Int} {k : Nat} (hk : k < f.code.length) (h : badB P (L.getD k 0) (insD f k) = true) : proveE P f L = 6 := by
  unfold proveE
  rw [if_pos (List.any_eq_true.2 ⟨k, by simpa using hk, h⟩)]
theorem prove_good {P : List Fn} {f : Fn} {L : List Int} (h : ∀ k, k < f.code.length → badB P (L.getD k 0) (insD f k) = false) : proveE P f L = if L.getD f.code.length 0 = -1 then 0 else 7 := by
  unfold proveE
  rw [if_neg]
  intro ha
  obtain ⟨k, hk, hb⟩ := List.any_eq_true.1 ha
  rw [h k (by simpa using hk)] at hb
  cases hb
def ProvesTo (P : List Fn) (f : Fn) (E : Int) : Prop := ∃ L, SureSpec f L ∧ E = proveE P f L
theorem provesTo_unique {P : List Fn} {f : Fn} {E E' : Int} (h : ProvesTo P f E) (h' : ProvesTo P f E') : E = E' := by
  obtain ⟨L, hL, rfl⟩ := h
  obtain ⟨L', hL', rfl⟩ := h'
  rw [sure_unique hL hL']
def ChecksTo (P : List Fn) : List Fn → Int → Prop
  | [], E => E = 0
  | f :: fs, E => ∃ e, ProvesTo P f e ∧ ((e ≠ 0 ∧ E = e) ∨ (e = 0 ∧ ChecksTo P fs E))
theorem checksTo_unique {P : List Fn} : ∀ {fs : List Fn} {E E' : Int}, ChecksTo P fs E → ChecksTo P fs E' → E = E'
  | [], E, E', h, h' => by rw [show E = 0 from h, show E' = 0 from h']
  | f :: fs, E, E', ⟨e, he, h⟩, ⟨e', he', h'⟩ => by
    obtain rfl := provesTo_unique he he'
    rcases h with ⟨h1, rfl⟩ | ⟨h1, h⟩ <;> rcases h' with ⟨h2, rfl⟩ | ⟨h2, h'⟩
    · rfl
    · exact absurd h2 h1
    · exact absurd h1 h2
    · exact checksTo_unique h h'
def SoFar (P : List Fn) (k : Nat) : Prop := ∀ E, ChecksTo P (P.drop k) E → ChecksTo P P E
theorem soFar_zero (P : List Fn) : SoFar P 0 := fun E h => by simpa using h
theorem soFar_next {P : List Fn} {k : Nat} (h : SoFar P k) (hk : k < P.length) (hp : ProvesTo P P[k] 0) : SoFar P (k + 1) := fun E he => h E (by
  rw [List.drop_eq_getElem_cons hk]; exact ⟨0, hp, Or.inr ⟨rfl, he⟩⟩)
theorem soFar_bad {P : List Fn} {k : Nat} (h : SoFar P k) (hk : k < P.length) {e : Int} (hp : ProvesTo P P[k] e) (he : e ≠ 0) : ChecksTo P P e := h e (by
  rw [List.drop_eq_getElem_cons hk]; exact ⟨e, hp, Or.inl ⟨he, rfl⟩⟩)
theorem soFar_end {P : List Fn} {k : Nat} (h : SoFar P k) (hk : P.length ≤ k) : ChecksTo P P 0 := h 0 (by rw [List.drop_eq_nil_of_le hk]; rfl)
def ProofAns (P : List Fn) (E : Int) : Prop := (codeProg P ≠ 0 ∧ E = codeProg P) ∨ (codeProg P = 0 ∧ ChecksTo P P E)
theorem proofAns_unique {P : List Fn} {E E' : Int} (h : ProofAns P E) (h' : ProofAns P E') : E = E' := by
  rcases h with ⟨h1, rfl⟩ | ⟨h1, h⟩ <;> rcases h' with ⟨h2, rfl⟩ | ⟨h2, h'⟩
  · rfl
  · exact absurd h2 h1
  · exact absurd h1 h2
  · exact checksTo_unique h h'
theorem checks_each {P : List Fn} : ∀ {fs : List Fn}, ChecksTo P fs 0 → ∀ f ∈ fs, ∃ L, SureSpec f L ∧ proveE P f L = 0
  | [], _, f, hf => by simp at hf
  | g :: fs, ⟨e, ⟨L, hL, he⟩, h⟩, f, hf => by
    rcases h with ⟨h1, h2⟩ | ⟨h1, h2⟩
    · exact absurd h2.symm h1
    · rcases List.mem_cons.1 hf with rfl | hf
      · exact ⟨L, hL, by rw [← he]; exact h1⟩
      · exact checks_each h2 f hf
theorem right_fn {P : List Fn} (h : ProofAns P 0) {f : Fn} (hf : f ∈ P) : ∃ L, SureSpec f L ∧ (∀ q, q < f.code.length → badB P (L.getD q 0) (insD f q) = false) ∧ ¬ Way f 63 f.code.length := by
  rcases h with ⟨h1, h2⟩ | ⟨_, h2⟩
  · exact absurd h2.symm h1
  obtain ⟨L, hL, he⟩ := checks_each h2 f hf
  unfold proveE at he
  split at he
  · cases he
  · rename_i hb
    split at he
    · rename_i hl
      refine ⟨L, hL, fun q hq => ?_, fun hw => ?_⟩
      · cases hbb : badB P (L.getD q 0) (insD f q)
        · rfl
        · exact absurd (List.any_eq_true.2 ⟨q, by simpa using hq, hbb⟩) hb
      · rcases hL.2 f.code.length (by omega) with ⟨hn, _⟩ | ⟨_, m, _, e, _⟩
        · exact hn hw
        · omega
    · cases he
theorem right_code {P : List Fn} (h : ProofAns P 0) : codeProg P = 0 := by
  rcases h with ⟨h1, h2⟩ | ⟨h1, _⟩
  · exact h2.symm
  · exact h1
end Go.Proofs.YtldbmdgpdolaaaaDoor
namespace Go.Proofs.YtldbmdgpdolaaaaDoor
open Go Go.RowKit

theorem ints_second (w : World) (o1 : Obj) (l : List Int) (t : Nat) (hm : l.length ≤ 10) : IntsVal ((w.alloc o1).alloc (.cells (i64s l).toArray t)) (.slice (some ⟨w.heap.size + 1, 0, none⟩) l.length l.length) l := by
  have hg : ((w.alloc o1).alloc (.cells (i64s l).toArray t)).heap[w.heap.size + 1]? = some (.cells (i64s l).toArray t) := by
    have := heap_alloc_new (w.alloc o1) (.cells (i64s l).toArray t)
    simpa using this
  refine ⟨_, w.heap.size + 1, 0, _, l.length, rfl, rfl, fun _ => rfl, fun k hk => ?_, ⟨Nat.le_refl _, fun e => by cases e⟩, by unfold maxLen; omega⟩
  rw [Nat.zero_add, cell_of_row _ _ k (i64s l).toArray t (0, 0) hg]
  simp [i64s, hk]
def behindI (x : Ins) (pc : Nat) : List Int := (behind x pc).map fun (n : Nat) => (n : Int)
set_option maxRecDepth 100000 in
theorem onward_any (x : Ins) (pc : Nat) (w : World) (h0 : x.op = 15 ∨ x.op = 16 → 0 ≤ x.imm) (hp : pc < 1000) :
    Calls Tryd.prog 60 #[x.val, .int .i64 pc] w fun e w' => ∃ v', e = .returned v' ∧ IntsVal w' v' (behindI x pc) ∧ (∀ b off n c, v' = .slice (some ⟨b, off, none⟩) n c → w.heap.size ≤ b) ∧ Below w.heap.size w w' := by
  obtain ⟨op, dst, a, b', imm⟩ := x
  dsimp only at h0
  unfold Ins.val
  dsimp only
  by_cases h15 : op = 15
  · subst h15
    have e : behindI ⟨15, dst, a, b', imm⟩ pc = [imm] := by have := h0 (Or.inl rfl); simp [behindI, behind]; omega
    rw [e]
    clear e h0
    go_enter Tryd.func60, Tryd.ntmps60
    go_wp2
    go_ret
    exact ⟨_, rfl, ints_second w _ [imm] _ (by simp), fun b off n c h => by simp at h; omega, ((Below.refl _ _).alloc (Nat.le_refl _) _).alloc (by simp) _⟩
  by_cases h16 : op = 16
  · subst h16
    have e : behindI ⟨16, dst, a, b', imm⟩ pc = [(pc : Int) + 1, imm] := by have := h0 (Or.inr rfl); simp [behindI, behind]; omega
    rw [e]
    clear e h0
    go_enter Tryd.func60, Tryd.ntmps60
    go_wp2
    go_ret
    exact ⟨_, rfl, ints_second w _ [(pc : Int) + 1, imm] _ (by simp), fun b off n c h => by simp at h; omega, ((Below.refl _ _).alloc (Nat.le_refl _) _).alloc (by simp) _⟩
  by_cases h19 : op = 19
  · subst h19
    have e : behindI ⟨19, dst, a, b', imm⟩ pc = [] := by simp [behindI, behind]
    rw [e]
    clear e h0
    go_enter Tryd.func60, Tryd.ntmps60
    go_wp2
    go_ret
    exact ⟨_, rfl, ints_nil _, fun b off n c h => by simp at h, (Below.refl _ _).alloc (Nat.le_refl _) _⟩
  · have e : behindI ⟨op, dst, a, b', imm⟩ pc = [(pc : Int) + 1] := by simp [behindI, behind, h15, h16, h19]
    have e1 : (op == 15) = false := by simpa using h15
    have e2 : (op == 16) = false := by simpa using h16
    have e3 : (op == 19) = false := by simpa using h19
    rw [e]
    clear e h0 h15 h16 h19
    go_enter Tryd.func60, Tryd.ntmps60
    go_wp2
    go_ret
    exact ⟨_, rfl, ints_second w _ [(pc : Int) + 1] _ (by simp), fun b off n c h => by simp at h; omega, ((Below.refl _ _).alloc (Nat.le_refl _) _).alloc (by simp) _⟩
theorem u64_mask (c : Nat) (h : c < 65536) : bits .and .u64 (c : Int) 4294967295 = (c : Int) := by
  show IntKind.u64.wrap ((BitVec.ofInt 64 (c : Int) &&& BitVec.ofInt 64 ((4294967295 : Nat) : Int)).toNat : Int) = _
  rw [BitVec.toNat_and]
  have e1 : (BitVec.ofInt 64 (c : Int)).toNat = c := by simp; omega
  have e2 : (BitVec.ofInt 64 ((4294967295 : Nat) : Int)).toNat = 2 ^ 32 - 1 := by decide
  rw [e1, e2, Nat.and_two_pow_sub_one_eq_mod, Nat.mod_eq_of_lt (by omega)]
  simp [IntKind.wrap, IntKind.bits, IntKind.signed]
  omega
set_option maxRecDepth 100000 in
set_option maxHeartbeats 400000 in
theorem mul64_any (c : Nat) (w : World) (h : c < 65536) :
    Calls Tryd.prog 95 #[.int .u64 1, .int .u64 c] w fun e w' => e = .returned (.tuple #[.int .u64 0, .int .u64 c]) ∧ w' = w := by
  have e1 : bits .and .u64 1 4294967295 = 1 := by decide
  have e2 := u64_mask c h
  have e3 : (c : Int) / 4294967296 = 0 := by omega
  have e4 : bits .and .u64 0 4294967295 = 0 := by decide
  go_enter Tryd.func95, Tryd.ntmps95
  go_wp2
  go_ret2
  exact ⟨rfl, rfl⟩
set_option maxRecDepth 100000 in
theorem mul_any (c : Nat) (w : World) (h : c < 65536) :
    Calls Tryd.prog 84 #[.int .u64 1, .int .u64 c] w fun e w' => e = .returned (.tuple #[.int .u64 0, .int .u64 c]) ∧ w' = w := by
  go_enter Tryd.func84, Tryd.ntmps84
  go_wp2_with (go_at_call 95; refine (mul64_any c _ h).mono ?_; rintro e w' ⟨rfl, hw'⟩; replace hw' := hw'.symm; subst hw')
  go_ret2
  exact ⟨rfl, rfl⟩
def rowL (d : Int) (c k : Nat) : List Value := i64s (List.replicate k d ++ List.replicate (c - k) 0)
theorem rowL_length (d : Int) (c k : Nat) (h : k ≤ c) : (rowL d c k).length = c := by simp [rowL, i64s]; omega
theorem rowL_splice (d : Int) (c k m : Nat) (_h : k + m ≤ c) : splice (rowL d c k) k (i64s (List.replicate m d)) = rowL d c (k + m) := by
  unfold splice rowL i64s
  have e1 : (List.map (Value.int .i64) (List.replicate k d ++ List.replicate (c - k) 0)).take k = List.map (Value.int .i64) (List.replicate k d) := by
    rw [← List.map_take]; congr 1; simp
  have e2 : (List.map (Value.int .i64) (List.replicate k d ++ List.replicate (c - k) 0)).drop (k + (List.map (Value.int .i64) (List.replicate m d)).length) = List.map (Value.int .i64) (List.replicate (c - (k + m)) 0) := by
    rw [← List.map_drop]; congr 1
    simp [List.drop_append]
    omega
  rw [e1, e2, ← List.map_append, ← List.map_append, ← List.append_assoc, List.replicate_append_replicate]
theorem rowL_get (d : Int) (c k j : Nat) (h : j < k) : (rowL d c k)[j]? = some (.int .i64 d) := by
  unfold rowL i64s
  rw [List.getElem?_map, List.getElem?_append_left (by simpa using h)]
  simp [h]
theorem made_zero (c : Nat) : (madeCells (Value.int .i64 0).cells (c * 1)).toList = rowL 0 c 0 := by
  simp [madeCells, rowL, i64s, Value.cells]
  apply List.ext_getElem
  · simp
  · intro i h1 h2
    have : i % 1 = 0 := Nat.mod_one i
    simp [this]
theorem own_heap {w : World} {base t g n : Nat} {xs : List Value} (h : w.ownsRow base t 1 (.slice (some ⟨g, 0, none⟩) n n) n xs) : w.heap[g]? = some (.cells xs.toArray t (0, 0)) := by
  rcases h.2 with ⟨h2, _⟩ | ⟨g', cap, cur, hv, _, hg, _, _, hs, ht⟩
  · cases h2
  · simp at hv
    obtain ⟨rfl, rfl⟩ := hv
    rw [hg]
    have hl := h.1
    have : cur = xs.toArray := by
      apply Array.ext'
      have e : cur.toList.length = n := by simpa using hs
      have e2 : cur.toList.take n = xs := by simpa using ht
      rw [List.take_of_length_le (by omega)] at e2
      simpa using e2
    rw [this]
theorem one_size : (Tryd.prog.info? 3).map (·.size) = some 1 := by kernel_rfl
theorem copy_src {w : World} {g o : Nat} {d : Int} (h : w.cell? ⟨g, o, none⟩ = some (.int .i64 d)) : ∀ (j : Nat) (v : Value), (i64s (List.replicate 1 d))[j]? = some v → w.cell? ((⟨g, o, none⟩ : Addr).add j) = some v := by
  intro j v hj
  cases j with
  | zero => simp [i64s] at hj; subst hj; simpa [Addr.add] using h
  | succ j => simp [i64s] at hj
set_option maxRecDepth 100000 in
set_option maxHeartbeats 1000000 in
theorem repeat_any (c g0 o0 cap0 : Nat) (d : Int) (w : World) (h1 : 1 ≤ c) (h2 : c ≤ 1000) (hd : w.cell? ⟨g0, o0, none⟩ = some (.int .i64 d)) :
    Calls Tryd.prog 55 #[.slice (some ⟨g0, o0, none⟩) 1 cap0, .int .i64 c] w fun e w' => e = .returned (.slice (some ⟨w.heap.size, 0, none⟩) c c) ∧ w'.heap[w.heap.size]? = some (.cells (rowL d c c).toArray 3 (0, 0)) ∧ Below w.heap.size w w' := by
  obtain ⟨i64i, hi64, hz0, hz1, hz2⟩ := info_parts info64
  have hgl : g0 < w.heap.size := World.block_lt_of_cell? _ _ hd
  have hm0 := made_zero c
  have hn1 : Hid ((i64s (List.replicate 1 d)).length = Nat.min 1 c) := by
    show _ = _
    rw [show Nat.min 1 c = 1 from Nat.min_eq_left h1]; rfl
  have hf1 : Hid (0 + (i64s (List.replicate 1 d)).length ≤ (rowL 0 c 0).length) := by
    show _ ≤ _
    rw [rowL_length _ _ _ (Nat.zero_le _)]; simpa [i64s] using h1
  go_enter Tryd.func55, Tryd.ntmps55
  go_wp2_with (first
    | (go_at_call 84; refine (mul_any c _ (by omega)).mono ?_; rintro e w' ⟨rfl, hw'⟩; replace hw' := hw'.symm; subst hw')
    | (at_make; refine wpList_make_full _ rfl (.tmp 29) (.tmp 29) 37 rfl w.heap.size 3 i64i _ 1 Tryd.underlying37 hi64 hz0 hz1 .i64 .i64 c c c rfl rfl rfl rfl (by rw [hz2]; omega) (by unfold maxLen; omega) (Nat.le_refl _) ?_; intro w1 hown1 hg1; rw [hm0] at hown1; have hh1 := own_heap hown1; have hb1 := below_grown hg1; have hd1 := keeps_below hb1 _ _ hd)
    | (show wpList _ _ _ (Oper.mk (some 33) _ _ _ _ _ :: _) _ _; refine wpList_copy_splice rfl (.tmp 31) (.tmp 32) 37 37 rfl 3 Tryd.underlying37 one_size _ _ c c 1 cap0 rfl rfl w.heap.size 0 (rowL 0 c 0) 3 hh1 (i64s (List.replicate 1 d)) hn1.out (fun _ => ⟨rfl, _, rfl, copy_src hd1⟩) hf1.out (i64s_one _) w.heap.size w hb1 (Nat.le_refl _) ?_; intro w2 hg2 hb2))
  have HG2 : Hid (w2.heap[w.heap.size]? = some (.cells (rowL d c 1).toArray 3 (0, 0))) := by
    have h := hg2.out
    rw [show rowL 0 c 0 = rowL d c 0 from rfl, rowL_splice d c 0 1 (by omega)] at h
    exact h
  have HB2 : Hid (Below w.heap.size w w2) := hb2
  clear hg2 hb2 hd1 hb1 hh1 hg1 hown1 hm0 hn1 hf1 hd hgl
  go_loopw [8] (fun i wr => ∃ k : Nat, 1 ≤ k ∧ k ≤ c ∧ i = .int .i64 k ∧ wr.heap[w.heap.size]? = some (.cells (rowL d c k).toArray 3 (0, 0)) ∧ Below w.heap.size w wr) (fun i _ => c - (intOf i).toNat)
  case atStart => exact ⟨1, Nat.le_refl _, h1, rfl, HG2.out, HB2.out⟩
  case round =>
    obtain ⟨k, hk1, hk, rfl, hg, hb⟩ := hrel
    by_cases hlt : k < c
    · have hn : Hid ((i64s (List.replicate (min k (c - k)) d)).length = Nat.min k (c - k)) := by show _ = _; simp [i64s]
      have hf : Hid (k + (i64s (List.replicate (min k (c - k)) d)).length ≤ (rowL d c k).length) := by
        show _ ≤ _
        rw [rowL_length _ _ _ hk]; simp [i64s]; omega
      have hsrc : Hid (∀ (j : Nat) (v : Value), (i64s (List.replicate (min k (c - k)) d))[j]? = some v → wr.cell? ((⟨w.heap.size, 0, none⟩ : Addr).add j) = some v) := by
        intro j v hj
        have hj2 : j < min k (c - k) := by
          rcases Nat.lt_or_ge j (min k (c - k)) with h | h
          · exact h
          · rw [List.getElem?_eq_none (by simpa [i64s] using h)] at hj; cases hj
        have e : v = .int .i64 d := by simp [i64s, hj2] at hj; exact hj.symm
        have hadd : (⟨w.heap.size, 0, none⟩ : Addr).add j = ⟨w.heap.size, j, none⟩ := by unfold Addr.add; split <;> simp_all
        rw [hadd, e, cell_of_row wr w.heap.size j (rowL d c k).toArray 3 (0, 0) hg]
        simpa using rowL_get d c k j (by omega)
      have HG : Hid (wr.heap[w.heap.size]? = some (.cells (rowL d c k).toArray 3 (0, 0))) := hg
      have HB : Hid (Below w.heap.size w wr) := hb
      have hcI : (k : Int) < c := by omega
      have hck : ((c : Int) - k).toNat = c - k := by omega
      clear hg hb
      go_wp2_with fail
      go_region_law (refine step_copy_splice rfl (.tmp 41) (.tmp 44) 37 37 rfl 3 Tryd.underlying37 one_size (some ⟨w.heap.size, k, none⟩) (some ⟨w.heap.size, 0, none⟩) (c - k) (c - k) k c (by simp [Act.eval, Act.put]; omega) (by simp [Act.eval, Act.put]) w.heap.size k (rowL d c k) 3 HG.out (i64s (List.replicate (min k (c - k)) d)) hn.out (fun _ => ⟨rfl, _, rfl, hsrc.out⟩) hf.out (i64s_one _) w.heap.size w HB.out.drew (Nat.le_refl _) ?_; intro w4 hg4 hb4)
      have HG4 : Hid (w4.heap[w.heap.size]? = some (.cells (rowL d c (k + min k (c - k))).toArray 3 (0, 0))) := by
        have h := hg4.out
        rw [rowL_splice d c k _ (by omega)] at h
        exact h
      have HB4 : Hid (Below w.heap.size w w4) := hb4
      have HLE : Hid ((i64s (List.replicate (min k (c - k)) d)).length = min k (c - k)) := by show _ = _; simp [i64s]
      clear hg4 hb4
      generalize (i64s (List.replicate (min k (c - k)) d)).length = len at HLE
      have hlen : len ≤ c := by rw [HLE.out]; omega
      have HW : Hid (IntKind.i64.wrap ((k : Int) + (len : Int)) = ((k + min k (c - k) : Nat) : Int)) := by
        show _ = _
        rw [HLE.out, ← Int.natCast_add]; exact wrap_small _ (by omega)
      go_wp2
      go_roundw
      case rel => exact ⟨k + min k (c - k), by omega, by omega, by rw [HW.out], HG4.out, HB4.out⟩
      case measure => simp only [intOf]; simp; rw [HW.out]; omega
    · obtain rfl : k = c := by omega
      go_wp2
      go_ret
      exact ⟨rfl, hg, hb⟩
end Go.Proofs.YtldbmdgpdolaaaaDoor
namespace Go.Proofs.YtldbmdgpdolaaaaDoor
open Go Go.RowKit

theorem gb_refl (w : World) (r : Option Nat) : w.grownBy w r := ⟨rfl, rfl, rfl, Nat.le_refl _, fun _ _ _ => rfl⟩
theorem gb_trans {a b c : World} {r : Option Nat} (h : a.grownBy b r) (k : b.grownBy c r) : a.grownBy c r :=
  ⟨k.os.trans h.os, k.tape.trans h.tape, k.output.trans h.output, Nat.le_trans h.size k.size, fun i hi hr => (k.block i (Nat.lt_of_lt_of_le hi h.size) hr).trans (h.block i hi hr)⟩
theorem gb_below {a b : World} (r : Option Nat) (h : Below a.heap.size a b) : a.grownBy b r := ⟨h.os, h.tape, h.output, h.size, fun i hi _ => h.block i hi⟩
theorem gb_alloc (w : World) (r : Option Nat) (o : Obj) : w.grownBy (w.alloc o) r := gb_below r ((Below.refl _ _).alloc (Nat.le_refl _) _)
theorem gb_cell {a b : World} {g : Nat} (h : a.grownBy b (some g)) {p : Addr} {v : Value} (hc : a.cell? p = some v) (hne : p.block ≠ g) : b.cell? p = some v := by
  rw [World.cell?_of_block (h.block p.block (World.block_lt_of_cell? _ _ hc) (by simpa using hne))]; exact hc
theorem below_gb {B g : Nat} {w0 a b : World} (h : Below B w0 a) (hg : a.grownBy b (some g)) (hB : B ≤ g) (hs : B ≤ a.heap.size) : Below B w0 b :=
  h.grown hg hs (fun k hk => by simp at hk; omega)
def bvs (l : List (BitVec 64)) : List Value := l.map fun b => Value.int .i64 b.toInt
theorem bvs_get (l : List (BitVec 64)) (i : Nat) (h : i < l.length) : (bvs l)[i]? = some (.int .i64 (l.getD i 0#64).toInt) := by simp [bvs, List.getD, h]
theorem bvs_set (l : List (BitVec 64)) (i : Nat) (v : BitVec 64) : (bvs l).set i (.int .i64 v.toInt) = bvs (l.set i v) := by simp [bvs, List.map_set]
abbrev PlaceRow (w : World) (g n : Nat) (l : List (BitVec 64)) : Prop := w.ownsRow 0 3 1 (.slice (some ⟨g, 0, none⟩) n n) n (bvs l)
theorem place_cell {w : World} {g n : Nat} {l : List (BitVec 64)} (h : PlaceRow w g n l) (hl : l.length = n) (i : Nat) (hi : i < n) : w.cell? ⟨g, i, none⟩ = some (.int .i64 (l.getD i 0#64).toInt) := by
  rw [h.cellAt i (by omega)]; exact bvs_get l i (by omega)
theorem cut_int (l : List (BitVec 64)) (k to : Nat) (x : Ins) (h : setMask x < 65536) : bits .and .i64 (l.getD to 0#64).toInt (bits .or .i64 (l.getD k 0#64).toInt (setMask x : Int)) = (cutV l k x to).toInt := by
  rw [← bvn_toInt _ h, bits_or_bv, bits_and_bv]; rfl
theorem toInt_ne (a b : BitVec 64) : (a.toInt != b.toInt) = (a != b) := by
  rw [Bool.eq_iff_iff]; simp [BitVec.toInt_inj]
set_option maxRecDepth 100000 in
set_option maxHeartbeats 2000000 in
theorem cutDown_any (P : List Fn) (f : Fn) (hf : FnOk f) (hins : ∀ x ∈ f.code, InsOk P x ∧ (x.op = 15 ∨ x.op = 16 → 0 ≤ x.imm)) (cv : Value) (l0 : List (BitVec 64)) (g : Nat) (w0 w : World)
    (hb0 : Below w0.heap.size w0 w) (hg0 : w0.heap.size ≤ g) (hgw : g < w.heap.size) (ht : TabOk w0) (hcv : CodeVal w0 cv f.code) (hl0 : l0.length = f.code.length + 1) (hrow : PlaceRow w g (f.code.length + 1) l0) :
    Calls Tryd.prog 56 #[.slice (some ⟨g, 0, none⟩) (f.code.length + 1) (f.code.length + 1), .agg #[.int .i64 f.params, .int .i64 f.regs, cv]] w
      fun e w' => ∃ again l, e = .returned (.bool again) ∧ Mid f l0 f.code.length 0 again l ∧ PlaceRow w' g (f.code.length + 1) l ∧ w.grownBy w' (some g) := by
  obtain ⟨ao, b, off, n, cap, rfl, ⟨hlen, haddr, hat⟩, hcap, hmax⟩ := hcv
  have hl1 := hf.len1
  have hl2 := hf.len2
  obtain rfl := haddr (by omega)
  subst hlen
  obtain ⟨fp, fr, fc⟩ := f
  dsimp only at hl1 hl2 hat hins hl0 hrow hcap hmax ⊢
  have hbg : b < w0.heap.size := World.block_lt_of_cell? _ _ (hat 0 (by omega)).1
  have HW : Hid (Below w0.heap.size w0 (w.alloc (.cells #[.int .i64 fp, .int .i64 fr, .slice (some ⟨b, off, none⟩) fc.length cap] 44))) := hb0.alloc hb0.size _
  have HZ0 : Hid (w0.heap.size ≤ w.heap.size) := hb0.size
  have HR0 : Hid (PlaceRow (w.alloc (.cells #[.int .i64 fp, .int .i64 fr, .slice (some ⟨b, off, none⟩) fc.length cap] 44)) g (fc.length + 1) l0) := hrow.alloc _
  have HI : Hid (∀ x ∈ fc, InsOk P x ∧ (x.op = 15 ∨ x.op = 16 → 0 ≤ x.imm)) := hins
  have HA : Hid (∀ k (h : k < fc.length), insAt w0 b (off + k * 5) fc[k]) := hat
  clear hins hat hb0 hrow haddr
  generalize hN : fc.length = n at hl0 hl1 hl2 hcap HW HR0 ⊢
  have HN : Hid (fc.length = n) := hN
  clear hN
  unfold maxLen at hmax
  go_enter Tryd.func56, Tryd.ntmps56
  go_wp2
  go_loopw [5, 14] (fun ag i wr => ∃ (k : Nat) (again : Bool) (l : List (BitVec 64)), k ≤ n ∧ i = .int .i64 k ∧ ag = .bool again ∧ Mid ⟨fp, fr, fc⟩ l0 k 0 again l ∧ PlaceRow wr g (n + 1) l ∧
      (w.alloc (.cells #[.int .i64 fp, .int .i64 fr, .slice (some ⟨b, off, none⟩) n cap] 44)).grownBy wr (some g)) (fun _ i _ => n - (intOf i).toNat)
  case atStart => exact ⟨0, false, l0, Nat.zero_le _, rfl, rfl, Mid.start _ _, HR0.out, gb_refl _ _⟩
  case round =>
    obtain ⟨k, again, l, hk, rfl, rfl, hmid, hrow, hgr⟩ := hrel
    rename World => wo
    have hbr : Below w0.heap.size w0 wo := below_gb HW.out hgr hg0 (by have := HZ0.out; simp; omega)
    have hzr : w.heap.size < wo.heap.size := by have := hgr.size; simp at this; omega
    by_cases hlt : k < n
    · have hkx : k < fc.length := by rw [HN.out]; exact hlt
      obtain ⟨d0, d1, d2, d3, d4⟩ := (HA.out k hkx).keeps (keeps_below hbr)
      obtain ⟨hio, himm⟩ := HI.out fc[k] (List.getElem_mem hkx)
      have HX : Hid (insD ⟨fp, fr, fc⟩ k = fc[k]) := insD_eq (f := ⟨fp, fr, fc⟩) hkx
      generalize fc[k] = x at d0 d1 d2 d3 d4 hio himm HX
      have HMID : Hid (Mid ⟨fp, fr, fc⟩ l0 k 0 again l) := hmid
      have HROW : Hid (PlaceRow wo g (n + 1) l) := hrow
      have HGR : Hid ((w.alloc (.cells #[.int .i64 fp, .int .i64 fr, .slice (some ⟨b, off, none⟩) n cap] 44)).grownBy wo (some g)) := hgr
      have HBR : Hid (Below w0.heap.size w0 wo) := hbr
      have hkI : (k : Int) < n := by omega
      have hon := fun W => onward_any x k W himm (by omega)
      have hsb := fun W a => setBit_any P x W a hio
      have hsl := setMask_lt hio
      clear hmid hrow hgr hbr hio himm
      obtain ⟨op, dst, xa, xb, imm⟩ := x
      unfold Ins.val at hon hsb
      dsimp only at d0 d1 d2 d3 d4 hon hsb
      go_wp2_with (go_at_call 60; refine (hon _).mono ?_; rintro e w1 ⟨v1, rfl, hI1, hfr1, hb1⟩; obtain ⟨ao1, b1, off1, n1, cap1, rfl, hl1', ha1, hc1, hcp1, hmx1⟩ := hI1)
      have xc0 := keeps_below hb1 ⟨wo.heap.size, 0, none⟩ (.int .i64 op) (by simp)
      have xc1 := keeps_below hb1 ⟨wo.heap.size, 1, none⟩ (.int .i64 dst) (by simp)
      have xc2 := keeps_below hb1 ⟨wo.heap.size, 2, none⟩ (.int .i64 xa) (by simp)
      have xc3 := keeps_below hb1 ⟨wo.heap.size, 3, none⟩ (.int .i64 xb) (by simp)
      have xc4 := keeps_below hb1 ⟨wo.heap.size, 4, none⟩ (.int .i64 imm) (by simp)
      have hz1 : wo.heap.size < w1.heap.size := by have := hb1.size; simp at this; omega
      have HROW1 : Hid (PlaceRow w1 g (n + 1) l) := ownsRow_below (HROW.out.alloc _) hb1
      have HG1 : Hid (wo.grownBy w1 (some g)) := gb_trans (gb_alloc wo _ _) (gb_below _ hb1)
      have HB1 : Hid (Below w0.heap.size w0 w1) := below_gb HBR.out HG1.out hg0 (by have := HZ0.out; omega)
      have HFR : Hid (∀ b off n c, Value.slice ao1 n1 cap1 = .slice (some ⟨b, off, none⟩) n c → (wo.alloc (.cells #[.int .i64 op, .int .i64 dst, .int .i64 xa, .int .i64 xb, .int .i64 imm] 42)).heap.size ≤ b) := hfr1
      have HL1 : Hid ((behindI ⟨op, dst, xa, xb, imm⟩ k).length = n1) := hl1'
      have HA1 : Hid (0 < n1 → ao1 = some ⟨b1, off1, none⟩) := ha1
      have HC1 : Hid (∀ q (h : q < (behindI ⟨op, dst, xa, xb, imm⟩ k).length), w1.cell? ⟨b1, off1 + q, none⟩ = some (.int .i64 (behindI ⟨op, dst, xa, xb, imm⟩ k)[q])) := hc1
      have hcp := hcp1.1
      unfold maxLen at hmx1
      clear hl1' ha1 hc1 hcp1 hfr1 hb1 hon d0 d1 d2 d3 d4
      go_loopw [5, 23] (fun ag i wi => ∃ (e : Nat) (again' : Bool) (l' : List (BitVec 64)), e ≤ n1 ∧ i = .int .i64 e ∧ ag = .bool again' ∧ Mid ⟨fp, fr, fc⟩ l0 k e again' l' ∧ PlaceRow wi g (n + 1) l' ∧ w1.grownBy wi (some g)) (fun _ i _ => n1 - (intOf i).toNat)
      case atStart => exact ⟨0, again, l, Nat.zero_le _, rfl, rfl, HMID.out, HROW1.out, gb_refl _ _⟩
      case round =>
        obtain ⟨e, again', l', he, rfl, rfl, hmid, hrow, hgr⟩ := hrel
        by_cases hle : e < n1
        · obtain rfl := HA1.out (by omega)
          have heb : e < (behindI ⟨op, dst, xa, xb, imm⟩ k).length := by rw [HL1.out]; exact hle
          have heb2 : e < (behind ⟨op, dst, xa, xb, imm⟩ k).length := by simpa [behindI] using heb
          have hbg1 : b1 ≠ g := by have := HFR.out b1 off1 n1 cap1 rfl; simp at this; omega
          have cq := gb_cell hgr (HC1.out e heb) hbg1
          have hto : (behindI ⟨op, dst, xa, xb, imm⟩ k)[e] = (((behind ⟨op, dst, xa, xb, imm⟩ k)[e] : Nat) : Int) := by simp [behindI]
          rw [hto] at cq
          have HTO : Hid ((behind (insD ⟨fp, fr, fc⟩ k) k)[e]? = some (behind ⟨op, dst, xa, xb, imm⟩ k)[e]) := by
            show _ = _
            rw [HX.out]; exact List.getElem?_eq_getElem heb2
          have hgo : (behind ⟨op, dst, xa, xb, imm⟩ k)[e] < n + 1 := by
            have := hf.goes k (by show k < fc.length; rw [HN.out]; exact hlt) (behind ⟨op, dst, xa, xb, imm⟩ k)[e] (by rw [HX.out]; exact List.getElem_mem heb2)
            have h2 : (⟨fp, fr, fc⟩ : Fn).code.length = n := HN.out
            omega
          generalize (behind ⟨op, dst, xa, xb, imm⟩ k)[e] = to at cq HTO hgo
          clear hto heb heb2
          have hll : l'.length = n + 1 := hmid.len.trans hl0
          have ct := place_cell hrow hll to hgo
          have ck := place_cell hrow hll k (by omega)
          have y0 := gb_cell hgr xc0 (by show wo.heap.size ≠ g; omega)
          have y1 := gb_cell hgr xc1 (by show wo.heap.size ≠ g; omega)
          have y2 := gb_cell hgr xc2 (by show wo.heap.size ≠ g; omega)
          have y3 := gb_cell hgr xc3 (by show wo.heap.size ≠ g; omega)
          have y4 := gb_cell hgr xc4 (by show wo.heap.size ≠ g; omega)
          have HBI : Hid (Below w0.heap.size w0 wr) := below_gb HB1.out hgr hg0 (by have := HZ0.out; omega)
          have hTd : ∀ d : Later wr, TabOk d.to := fun d => (ht.below HBI.out).below d.below
          have hcut := cut_int l' k to ⟨op, dst, xa, xb, imm⟩ hsl
          have HNE : Hid (((cutV l' k ⟨op, dst, xa, xb, imm⟩ to).toInt != (l'.getD to 0#64).toInt) = (cutV l' k ⟨op, dst, xa, xb, imm⟩ to != l'.getD to 0#64)) := toInt_ne _ _
          have HSET : Hid (∀ W, PlaceRow W g (n + 1) l' → PlaceRow (W.setCell ⟨g, to, none⟩ (.int .i64 (cutV l' k ⟨op, dst, xa, xb, imm⟩ to).toInt)) g (n + 1) (l'.set to (cutV l' k ⟨op, dst, xa, xb, imm⟩ to)) ∧ W.grownBy (W.setCell ⟨g, to, none⟩ (.int .i64 (cutV l' k ⟨op, dst, xa, xb, imm⟩ to).toInt)) (some g)) := by
            intro W h
            have := h.stored to (.int .i64 (cutV l' k ⟨op, dst, xa, xb, imm⟩ to).toInt)
            rw [bvs_set] at this
            exact this
          have HSTEP : Hid (Mid ⟨fp, fr, fc⟩ l0 k (e + 1) (again' || (cutV l' k ⟨op, dst, xa, xb, imm⟩ to != l'.getD to 0#64)) (l'.set to (cutV l' k ⟨op, dst, xa, xb, imm⟩ to))) := by
            have := hmid.step (by show k < fc.length; rw [HN.out]; exact hlt) (by omega) HTO.out (by omega)
            rw [HX.out] at this
            exact this
          have HRI : Hid (PlaceRow wr g (n + 1) l') := hrow
          have HGI : Hid (w1.grownBy wr (some g)) := hgr
          have e0 := Later.cell ct
          have e1 := Later.cell ck
          have m0 := Later.cell y0
          have m1 := Later.cell y1
          have m2 := Later.cell y2
          have m3 := Later.cell y3
          have m4 := Later.cell y4
          have htoI : (to : Int) < n + 1 := by omega
          have hkI2 : (k : Int) < n + 1 := by omega
          have heI : (e : Int) < n1 := by omega
          clear ct ck y0 y1 y2 y3 y4 hmid hrow hgr xc0 xc1 xc2 xc3 xc4
          generalize (l'.set to (cutV l' k ⟨op, dst, xa, xb, imm⟩ to)) = l2 at HSET HSTEP
          generalize hcw : (cutV l' k ⟨op, dst, xa, xb, imm⟩ to != l'.getD to 0#64) = ne at HNE HSTEP
          clear hcw
          generalize (cutV l' k ⟨op, dst, xa, xb, imm⟩ to).toInt = CV at hcut HNE HSET
          generalize (l'.getD to 0#64).toInt = LT at e0 hcut HNE
          generalize (l'.getD k 0#64).toInt = LK at e1 hcut
          generalize setMask ⟨op, dst, xa, xb, imm⟩ = SM at hcut hsb hsl
          go_wp2
          refine wp_region_later (by kernel_rfl) (by kernel_rfl) ?_
          repeat (go_big_quiet_step ((go_at_call 85; exact calls_later (hsb _ (hTd _)))))
          refine wpQuiet_nil ?_
          intro _ hw'
          obtain ⟨d, hw''⟩ := hw'
          subst hw''
          have e0d := e0 d
          have hRd : Hid (PlaceRow d.to g (n + 1) l') := ownsRow_below HRI.out d.below
          have hfz := hRd.out.frozenAt to
          have HSd := HSET.out d.to hRd.out
          have HS1 : Hid (PlaceRow (d.to.setCell ⟨g, to, none⟩ (.int .i64 CV)) g (n + 1) l2) := HSd.1
          have HS2 : Hid (w1.grownBy (d.to.setCell ⟨g, to, none⟩ (.int .i64 CV)) (some g)) := gb_trans (gb_trans HGI.out (gb_below _ d.below)) HSd.2
          clear HSd e0 e1 m0 m1 m2 m3 m4 hTd
          cases again'
          · cases ne
            · have hne : (CV != LT) = false := HNE.out
              go_wp2
              go_roundw
              case rel => exact ⟨e + 1, false, l2, by omega, by go_num, rfl, HSTEP.out, HS1.out, HS2.out⟩
              case measure => simp [intOf]; omega
            · have hne : (CV != LT) = true := HNE.out
              go_wp2
              go_roundw
              case rel => exact ⟨e + 1, true, l2, by omega, by go_num, rfl, HSTEP.out, HS1.out, HS2.out⟩
              case measure => simp [intOf]; omega
          · go_wp2
            go_roundw
            case rel => exact ⟨e + 1, true, l2, by omega, by go_num, rfl, HSTEP.out, HS1.out, HS2.out⟩
            case measure => simp [intOf]; omega
        · obtain rfl : e = n1 := by omega
          have HNX : Hid (Mid ⟨fp, fr, fc⟩ l0 (k + 1) 0 again' l') := hmid.next (by rw [HX.out]; have := HL1.out; simp [behindI] at this; omega)
          have HRI : Hid (PlaceRow wr g (n + 1) l') := hrow
          have HGI : Hid ((w.alloc (.cells #[.int .i64 fp, .int .i64 fr, .slice (some ⟨b, off, none⟩) n cap] 44)).grownBy wr (some g)) := gb_trans (gb_trans HGR.out HG1.out) hgr
          clear hmid hrow hgr
          go_wp2
          go_roundw
          case rel => exact ⟨k + 1, again', l', by omega, by go_num, rfl, HNX.out, HRI.out, HGI.out⟩
          case measure => simp [intOf]; omega
    · obtain rfl : k = n := by omega
      go_wp2
      go_ret
      exact ⟨again, l, rfl, hmid, hrow, gb_trans (gb_alloc w _ _) hgr⟩
end Go.Proofs.YtldbmdgpdolaaaaDoor
namespace Go.Proofs.YtldbmdgpdolaaaaDoor
open Go Go.RowKit

def initL (p n : Nat) : List (BitVec 64) := (List.replicate (n + 1) (BitVec.allOnes 64)).set 0 (bvn (2 ^ p - 1))
theorem initL_length (p n : Nat) : (initL p n).length = n + 1 := by simp [initL]
theorem initL_bit (p n q r : Nat) (_hp : p ≤ 2) (hq : q < n + 1) (hr : r < 64) : bitOf (initL p n) q r = if q = 0 then decide (r < p) else true := by
  unfold bitOf initL
  rw [getD_set _ 0 q _ (by simp)]
  by_cases h : q = 0
  · rw [if_pos h, if_pos h, bvn_bit _ _ hr, Nat.testBit_two_pow_sub_one]
  · have e : (List.replicate (n + 1) (BitVec.allOnes 64)).getD q 0#64 = BitVec.allOnes 64 := by
      rw [List.getD_eq_getElem?_getD, List.getElem?_replicate, if_pos hq]; rfl
    rw [if_neg h, if_neg h, e, BitVec.getLsbD_allOnes]; simp [hr]
theorem init_sound (f : Fn) (p : Nat) (hp : f.params = p) (hp2 : p ≤ 2) (n : Nat) : Sound f (initL p n) := by
  intro q r hq hr hb
  rw [initL_bit p n q r hp2 (by rw [initL_length] at hq; exact hq) hr] at hb
  by_cases h : q = 0
  · subst h
    rw [if_pos rfl] at hb
    have : ¬ r < p := by simpa using hb
    exact Way.start (by rw [hp]; omega)
  · rw [if_neg h] at hb; cases hb
theorem init_zero (f : Fn) (p : Nat) (hp : f.params = p) (hp2 : p ≤ 2) (n : Nat) (r : Nat) (hr : r < 64) (h : f.params ≤ (r : Int)) : bitOf (initL p n) 0 r = false := by
  rw [initL_bit p n 0 r hp2 (by omega) hr, if_pos rfl]
  simp; omega
theorem rowL_bvs (n : Nat) : rowL (-1) n n = bvs (List.replicate n (BitVec.allOnes 64)) := by
  unfold rowL bvs i64s
  simp
theorem place_of_heap {w : World} {g n : Nat} {l : List (BitVec 64)} (h : w.heap[g]? = some (.cells (bvs l).toArray 3 (0, 0))) (hl : l.length = n) (hn : n ≤ 1000) : PlaceRow w g n l :=
  ⟨by simp [bvs, hl], Or.inr ⟨g, n, (bvs l).toArray, rfl, Nat.zero_le _, h, Nat.le_refl _, by unfold maxLen; omega, by simp [bvs, hl], by rw [List.take_of_length_le (by simp [bvs, hl])]⟩⟩
structure Loops (f : Fn) (again : Bool) (l : List (BitVec 64)) : Prop where
  len : l.length = f.code.length + 1
  sound : Sound f l
  zero : ∀ r : Nat, r < 64 → f.params ≤ (r : Int) → bitOf l 0 r = false
  closed : again = false → ∀ pc, pc < f.code.length → ∀ to ∈ behind (insD f pc) pc, EdgeOk l pc (insD f pc) to
theorem Loops.next {f : Fn} {l l' : List (BitVec 64)} {again again' : Bool} (h : Loops f again l) (m : Mid f l f.code.length 0 again' l') :
    Loops f again' l' ∧ total l' + (if again' = true then 1 else 0) < total l + 1 := by
  refine ⟨⟨m.len.trans h.len, m.sound h.sound, fun r hr hp => m.zeros 0 r (h.zero r hr hp), fun ha => ?_⟩, ?_⟩
  · obtain ⟨rfl, h2, _⟩ := m.same ha
    exact fun pc hpc to hto => h2 pc hpc to hto
  · cases again' with
    | false => obtain ⟨rfl, _⟩ := m.same rfl; simp
    | true => have := m.less rfl; simp; omega
theorem Loops.spec {f : Fn} (hf : FnOk f) {l : List (BitVec 64)} (h : Loops f false l) : SureSpec f (l.map BitVec.toInt) :=
  spec_of_bits hf h.len fun q r hq hr => way_iff h.len h.sound h.zero (h.closed rfl) q r hq hr
theorem init_row {w : World} {g n p : Nat} {z : Int} (h : PlaceRow w g (n + 1) (List.replicate (n + 1) (BitVec.allOnes 64))) (hz : (bvn (2 ^ p - 1)).toInt = z) :
    PlaceRow (w.setCell ⟨g, 0, none⟩ (.int .i64 z)) g (n + 1) (initL p n) ∧ w.grownBy (w.setCell ⟨g, 0, none⟩ (.int .i64 z)) (some g) := by
  have := h.stored 0 (.int .i64 z)
  rw [← hz, bvs_set] at this
  rw [← hz]
  exact this
theorem ints_place {w : World} {g n : Nat} {l : List (BitVec 64)} (h : PlaceRow w g (n + 1) l) (hl : l.length = n + 1) : IntsVal w (.slice (some ⟨g, 0, none⟩) n n) ((l.map BitVec.toInt).take n) := by
  have hm : n ≤ maxLen := by
    rcases h.2 with ⟨h2, _⟩ | ⟨g', cap, cur, _, _, _, hn, hm, _⟩
    · cases h2
    · omega
  refine ⟨_, g, 0, n, n, rfl, by simp; omega, fun _ => rfl, fun k hk => ?_, ⟨Nat.le_refl _, fun e => by cases e⟩, hm⟩
  have hkn : k < n := by simp at hk; omega
  have := place_cell h hl k (by omega)
  rw [Nat.zero_add, this]
  simp [List.getD, show k < l.length by omega]
theorem ints_drewN {w : World} {v : Value} {l : List Int} {m : Nat} (h : IntsVal w v l) : IntsVal (w.drewN m) v l := h.keeps fun _ _ e => e
theorem sure_box0 (w : World) (a b c : Value) (o : Obj) : ((w.alloc (.cells #[a, b, c] 44)).alloc o).cell? ⟨w.heap.size, 0, none⟩ = some a := cell_alloc (by simp) _
theorem sure_box1 (w : World) (a b c : Value) (o : Obj) : ((w.alloc (.cells #[a, b, c] 44)).alloc o).cell? ⟨w.heap.size, 1, none⟩ = some b := cell_alloc (by simp) _
theorem sure_box2 (w : World) (a b c : Value) (o : Obj) : ((w.alloc (.cells #[a, b, c] 44)).alloc o).cell? ⟨w.heap.size, 2, none⟩ = some c := cell_alloc (by simp) _
set_option maxRecDepth 100000 in
set_option maxHeartbeats 2000000 in
theorem sure_lit (P : List Fn) (f : Fn) (hf : FnOk f) (hins : ∀ x ∈ f.code, InsOk P x ∧ (x.op = 15 ∨ x.op = 16 → 0 ≤ x.imm)) (cv : Value) (w : World) (ht : TabOk w) (hcv : CodeVal w cv f.code) (p : Nat) (hp : f.params = p) (hp2 : p ≤ 2) :
    Calls Tryd.prog 35 #[.agg #[.int .i64 f.params, .int .i64 f.regs, cv]] w
      fun e w' => ∃ v' L, e = .returned (.tuple #[v', .int .i64 (L.getD f.code.length 0)]) ∧ SureSpec f L ∧ IntsVal w' v' (L.take f.code.length) ∧ Below w.heap.size w w' := by
  have hl1 := hf.len1
  have hl2 := hf.len2
  have hCut := fun l0 g W a b c d e => cutDown_any P f hf hins cv l0 g w W a b c ht hcv d e
  obtain ⟨ao, b, off, n, cap, rfl, ⟨hlen, haddr, hat⟩, hcap, hmax⟩ := hcv
  obtain rfl := haddr (by omega)
  subst hlen
  have HL0 : Hid (Loops f true (initL p f.code.length)) := ⟨initL_length _ _, init_sound f p hp hp2 _, init_zero f p hp hp2 _, fun h => by cases h⟩
  have HSP : Hid (∀ l, Loops f false l → SureSpec f (l.map BitVec.toInt)) := fun l h => h.spec hf
  have HNX : Hid (∀ again again' l l', Loops f again l → Mid f l f.code.length 0 again' l' → Loops f again' l' ∧ total l' + (if again' = true then 1 else 0) < total l + 1) := fun _ _ _ _ h m => h.next m
  have HLE : Hid (∀ again l, Loops f again l → l.length = f.code.length + 1) := fun _ _ h => h.len
  clear hat hins haddr ht hf
  generalize f.code.length = n at *
  unfold maxLen at hmax
  have hpp : (f.params = 0 ∧ p = 0) ∨ (f.params = 1 ∧ p = 1) ∨ (f.params = 2 ∧ p = 2) := by omega
  clear hp hp2
  generalize f.params = fp at hpp hCut
  have hRep := fun W (hd : W.cell? ⟨w.heap.size + 1, 0, none⟩ = some (.int .i64 (-1))) => repeat_any (n + 1) (w.heap.size + 1) 0 1 (-1) W (by omega) (by omega) hd
  rw [show (((n + 1 : Nat)) : Int) = (n : Int) + 1 by omega] at hRep
  rcases hpp with ⟨rfl, rfl⟩ | ⟨rfl, rfl⟩ | ⟨rfl, rfl⟩
  · go_enter Tryd.func35, Tryd.ntmps35
    go_wp2_with (go_at_call 55; refine (hRep _ (by simp)).mono ?_; rintro e w1 ⟨rfl, hr1, hb1⟩; rw [rowL_bvs] at hr1; simp only [World.size_alloc] at hr1; have hz1 : w.heap.size + 1 + 1 < w1.heap.size := lt_of_block hr1; have k0 := keeps_below hb1 ⟨w.heap.size, 0, none⟩ _ (sure_box0 _ _ _ _ _); have k2 := keeps_below hb1 ⟨w.heap.size, 2, none⟩ _ (sure_box2 _ _ _ _ _); have k1 := keeps_below hb1 ⟨w.heap.size, 1, none⟩ _ (sure_box1 _ _ _ _ _); have hrow := place_of_heap (n := n + 1) hr1 (by simp) (by omega); have c0 := place_cell hrow (by simp) 0 (by omega); have f0 := hrow.frozenAt 0)
    have HB1 : Hid (Below w.heap.size w w1) := (((Below.refl _ _).alloc (Nat.le_refl _) _).alloc (by simp) _).trans (hb1.mono (by simp; omega))
    have HIR := init_row (p := 0) (z := 0) hrow (by decide)
    have HS1 : Hid (PlaceRow (w1.setCell ⟨w.heap.size + 1 + 1, 0, none⟩ (.int .i64 0)) (w.heap.size + 1 + 1) (n + 1) (initL 0 n)) := HIR.1
    have HS2 : Hid (w1.grownBy (w1.setCell ⟨w.heap.size + 1 + 1, 0, none⟩ (.int .i64 0)) (some (w.heap.size + 1 + 1))) := HIR.2
    clear HIR hrow c0 f0 hr1 hb1 hRep
    go_loopg [5] (total (initL 0 n) + 1) (fun m ag wr => ∃ (again : Bool) (l : List (BitVec 64)), m = total l + (if again = true then 1 else 0) ∧ ag = .bool again ∧ Loops f again l ∧ PlaceRow wr (w.heap.size + 1 + 1) (n + 1) l ∧ w1.grownBy wr (some (w.heap.size + 1 + 1)))
    case atStart => exact ⟨true, initL 0 n, rfl, rfl, HL0.out, HS1.out, HS2.out⟩
    case round =>
      obtain ⟨again, l, hm, rfl, hlp, hrow, hgr⟩ := hrel
      have j0 := gb_cell hgr k0 (by show w.heap.size ≠ _; omega)
      have j1 := gb_cell hgr k1 (by show w.heap.size ≠ _; omega)
      have j2 := gb_cell hgr k2 (by show w.heap.size ≠ _; omega)
      have hbr : Below w.heap.size w wr := below_gb HB1.out hgr (by omega) (by omega)
      have hzr : w.heap.size + 1 + 1 < wr.heap.size := by have := hgr.size; omega
      have hll := HLE.out _ _ hlp
      have HM : Hid (gk = total l + (if again = true then 1 else 0)) := hm
      have HLP : Hid (Loops f again l) := hlp
      have HRW : Hid (PlaceRow wr (w.heap.size + 1 + 1) (n + 1) l) := hrow
      have HGR : Hid (w1.grownBy wr (some (w.heap.size + 1 + 1))) := hgr
      have HBR : Hid (Below w.heap.size w wr) := hbr
      clear hm hlp hgr hbr
      cases again
      · have cn := place_cell hrow hll n (by omega)
        have hnI : (n : Int) < n + 1 := by omega
        have HV : Hid ((l.getD n 0#64).toInt = (l.map BitVec.toInt).getD n 0) := by
          show _ = _
          simp [List.getD, show n < l.length by omega]
        generalize (l.getD n 0#64).toInt = EV at cn HV
        clear hrow
        go_wp2
        go_quiet (fail)
        go_wp2
        go_ret2
        refine ⟨_, l.map BitVec.toInt, by rw [← HV.out]; rfl, HSP.out l HLP.out, ints_drewN (ints_place HRW.out hll), below_drewN HBR.out _⟩
      · have hC := hCut l (w.heap.size + 1 + 1) wr HBR.out (by omega) hzr hll hrow
        clear hrow
        go_wp2_with (go_at_call 56; refine hC.mono ?_; rintro e w2 ⟨again', l2, rfl, hmid, hrow2, hgr2⟩)
        have HX := HNX.out _ _ _ _ HLP.out hmid
        go_roundg (total l2 + (if again' = true then 1 else 0))
        case measure => rw [HM.out]; exact HX.2
        case rel => exact ⟨again', l2, rfl, rfl, HX.1, hrow2, gb_trans HGR.out hgr2⟩
  · go_enter Tryd.func35, Tryd.ntmps35
    go_wp2_with (go_at_call 55; refine (hRep _ (by simp)).mono ?_; rintro e w1 ⟨rfl, hr1, hb1⟩; rw [rowL_bvs] at hr1; simp only [World.size_alloc] at hr1; have hz1 : w.heap.size + 1 + 1 < w1.heap.size := lt_of_block hr1; have k0 := keeps_below hb1 ⟨w.heap.size, 0, none⟩ _ (sure_box0 _ _ _ _ _); have k2 := keeps_below hb1 ⟨w.heap.size, 2, none⟩ _ (sure_box2 _ _ _ _ _); have k1 := keeps_below hb1 ⟨w.heap.size, 1, none⟩ _ (sure_box1 _ _ _ _ _); have hrow := place_of_heap (n := n + 1) hr1 (by simp) (by omega); have c0 := place_cell hrow (by simp) 0 (by omega); have f0 := hrow.frozenAt 0)
    have HB1 : Hid (Below w.heap.size w w1) := (((Below.refl _ _).alloc (Nat.le_refl _) _).alloc (by simp) _).trans (hb1.mono (by simp; omega))
    have HIR := init_row (p := 1) (z := 1) hrow (by decide)
    have HS1 : Hid (PlaceRow (w1.setCell ⟨w.heap.size + 1 + 1, 0, none⟩ (.int .i64 1)) (w.heap.size + 1 + 1) (n + 1) (initL 1 n)) := HIR.1
    have HS2 : Hid (w1.grownBy (w1.setCell ⟨w.heap.size + 1 + 1, 0, none⟩ (.int .i64 1)) (some (w.heap.size + 1 + 1))) := HIR.2
    clear HIR hrow c0 f0 hr1 hb1 hRep
    go_loopg [5] (total (initL 1 n) + 1) (fun m ag wr => ∃ (again : Bool) (l : List (BitVec 64)), m = total l + (if again = true then 1 else 0) ∧ ag = .bool again ∧ Loops f again l ∧ PlaceRow wr (w.heap.size + 1 + 1) (n + 1) l ∧ w1.grownBy wr (some (w.heap.size + 1 + 1)))
    case atStart => exact ⟨true, initL 1 n, rfl, rfl, HL0.out, HS1.out, HS2.out⟩
    case round =>
      obtain ⟨again, l, hm, rfl, hlp, hrow, hgr⟩ := hrel
      have j0 := gb_cell hgr k0 (by show w.heap.size ≠ _; omega)
      have j1 := gb_cell hgr k1 (by show w.heap.size ≠ _; omega)
      have j2 := gb_cell hgr k2 (by show w.heap.size ≠ _; omega)
      have hbr : Below w.heap.size w wr := below_gb HB1.out hgr (by omega) (by omega)
      have hzr : w.heap.size + 1 + 1 < wr.heap.size := by have := hgr.size; omega
      have hll := HLE.out _ _ hlp
      have HM : Hid (gk = total l + (if again = true then 1 else 0)) := hm
      have HLP : Hid (Loops f again l) := hlp
      have HRW : Hid (PlaceRow wr (w.heap.size + 1 + 1) (n + 1) l) := hrow
      have HGR : Hid (w1.grownBy wr (some (w.heap.size + 1 + 1))) := hgr
      have HBR : Hid (Below w.heap.size w wr) := hbr
      clear hm hlp hgr hbr
      cases again
      · have cn := place_cell hrow hll n (by omega)
        have hnI : (n : Int) < n + 1 := by omega
        have HV : Hid ((l.getD n 0#64).toInt = (l.map BitVec.toInt).getD n 0) := by
          show _ = _
          simp [List.getD, show n < l.length by omega]
        generalize (l.getD n 0#64).toInt = EV at cn HV
        clear hrow
        go_wp2
        go_quiet (fail)
        go_wp2
        go_ret2
        refine ⟨_, l.map BitVec.toInt, by rw [← HV.out]; rfl, HSP.out l HLP.out, ints_drewN (ints_place HRW.out hll), below_drewN HBR.out _⟩
      · have hC := hCut l (w.heap.size + 1 + 1) wr HBR.out (by omega) hzr hll hrow
        clear hrow
        go_wp2_with (go_at_call 56; refine hC.mono ?_; rintro e w2 ⟨again', l2, rfl, hmid, hrow2, hgr2⟩)
        have HX := HNX.out _ _ _ _ HLP.out hmid
        go_roundg (total l2 + (if again' = true then 1 else 0))
        case measure => rw [HM.out]; exact HX.2
        case rel => exact ⟨again', l2, rfl, rfl, HX.1, hrow2, gb_trans HGR.out hgr2⟩
  · go_enter Tryd.func35, Tryd.ntmps35
    go_wp2_with (go_at_call 55; refine (hRep _ (by simp)).mono ?_; rintro e w1 ⟨rfl, hr1, hb1⟩; rw [rowL_bvs] at hr1; simp only [World.size_alloc] at hr1; have hz1 : w.heap.size + 1 + 1 < w1.heap.size := lt_of_block hr1; have k0 := keeps_below hb1 ⟨w.heap.size, 0, none⟩ _ (sure_box0 _ _ _ _ _); have k2 := keeps_below hb1 ⟨w.heap.size, 2, none⟩ _ (sure_box2 _ _ _ _ _); have k1 := keeps_below hb1 ⟨w.heap.size, 1, none⟩ _ (sure_box1 _ _ _ _ _); have hrow := place_of_heap (n := n + 1) hr1 (by simp) (by omega); have c0 := place_cell hrow (by simp) 0 (by omega); have f0 := hrow.frozenAt 0)
    have HB1 : Hid (Below w.heap.size w w1) := (((Below.refl _ _).alloc (Nat.le_refl _) _).alloc (by simp) _).trans (hb1.mono (by simp; omega))
    have HIR := init_row (p := 2) (z := 3) hrow (by decide)
    have HS1 : Hid (PlaceRow (w1.setCell ⟨w.heap.size + 1 + 1, 0, none⟩ (.int .i64 3)) (w.heap.size + 1 + 1) (n + 1) (initL 2 n)) := HIR.1
    have HS2 : Hid (w1.grownBy (w1.setCell ⟨w.heap.size + 1 + 1, 0, none⟩ (.int .i64 3)) (some (w.heap.size + 1 + 1))) := HIR.2
    clear HIR hrow c0 f0 hr1 hb1 hRep
    go_loopg [5] (total (initL 2 n) + 1) (fun m ag wr => ∃ (again : Bool) (l : List (BitVec 64)), m = total l + (if again = true then 1 else 0) ∧ ag = .bool again ∧ Loops f again l ∧ PlaceRow wr (w.heap.size + 1 + 1) (n + 1) l ∧ w1.grownBy wr (some (w.heap.size + 1 + 1)))
    case atStart => exact ⟨true, initL 2 n, rfl, rfl, HL0.out, HS1.out, HS2.out⟩
    case round =>
      obtain ⟨again, l, hm, rfl, hlp, hrow, hgr⟩ := hrel
      have j0 := gb_cell hgr k0 (by show w.heap.size ≠ _; omega)
      have j1 := gb_cell hgr k1 (by show w.heap.size ≠ _; omega)
      have j2 := gb_cell hgr k2 (by show w.heap.size ≠ _; omega)
      have hbr : Below w.heap.size w wr := below_gb HB1.out hgr (by omega) (by omega)
      have hzr : w.heap.size + 1 + 1 < wr.heap.size := by have := hgr.size; omega
      have hll := HLE.out _ _ hlp
      have HM : Hid (gk = total l + (if again = true then 1 else 0)) := hm
      have HLP : Hid (Loops f again l) := hlp
      have HRW : Hid (PlaceRow wr (w.heap.size + 1 + 1) (n + 1) l) := hrow
      have HGR : Hid (w1.grownBy wr (some (w.heap.size + 1 + 1))) := hgr
      have HBR : Hid (Below w.heap.size w wr) := hbr
      clear hm hlp hgr hbr
      cases again
      · have cn := place_cell hrow hll n (by omega)
        have hnI : (n : Int) < n + 1 := by omega
        have HV : Hid ((l.getD n 0#64).toInt = (l.map BitVec.toInt).getD n 0) := by
          show _ = _
          simp [List.getD, show n < l.length by omega]
        generalize (l.getD n 0#64).toInt = EV at cn HV
        clear hrow
        go_wp2
        go_quiet (fail)
        go_wp2
        go_ret2
        refine ⟨_, l.map BitVec.toInt, by rw [← HV.out]; rfl, HSP.out l HLP.out, ints_drewN (ints_place HRW.out hll), below_drewN HBR.out _⟩
      · have hC := hCut l (w.heap.size + 1 + 1) wr HBR.out (by omega) hzr hll hrow
        clear hrow
        go_wp2_with (go_at_call 56; refine hC.mono ?_; rintro e w2 ⟨again', l2, rfl, hmid, hrow2, hgr2⟩)
        have HX := HNX.out _ _ _ _ HLP.out hmid
        go_roundg (total l2 + (if again' = true then 1 else 0))
        case measure => rw [HM.out]; exact HX.2
        case rel => exact ⟨again', l2, rfl, rfl, HX.1, hrow2, gb_trans HGR.out hgr2⟩
end Go.Proofs.YtldbmdgpdolaaaaDoor
namespace Go.Proofs.YtldbmdgpdolaaaaDoor
open Go Go.RowKit

def SSound (f : Fn) (r : Nat) (s : List Bool) : Prop := ∀ q, s.getD q false = true → Way f r q
def unseen (s : List Bool) : Nat := s.count false
theorem bget_set (s : List Bool) (i q : Nat) (v : Bool) (hi : i < s.length) : (s.set i v).getD q false = if q = i then v else s.getD q false := by
  rw [List.getD_eq_getElem?_getD, List.getElem?_set, List.getD_eq_getElem?_getD]
  by_cases h : i = q
  · subst h; simp [hi]
  · simp [h, Ne.symm h]
theorem unseen_set (s : List Bool) (i : Nat) (hi : i < s.length) (h : s.getD i false = false) : unseen (s.set i true) + 1 = unseen s := by
  induction s generalizing i with
  | nil => simp at hi
  | cons a s ih =>
    cases i with
    | zero =>
      have : a = false := by simpa using h
      subst this
      simp [unseen]
    | succ i =>
      have := ih i (by simpa using hi) (by simpa using h)
      simp [unseen, List.count_cons] at this ⊢
      omega
structure SMid (f : Fn) (r : Nat) (s0 : List Bool) (k e : Nat) (again : Bool) (s : List Bool) : Prop where
  len : s.length = s0.length
  sound : SSound f r s0 → SSound f r s
  keeps : ∀ q, s0.getD q false = true → s.getD q false = true
  less : again = true → unseen s < unseen s0
  same : again = false → s = s0 ∧ (∀ pc, pc < k → s0.getD pc false = true → (setMask (insD f pc)).testBit r = false → ∀ to ∈ behind (insD f pc) pc, s0.getD to false = true) ∧ ∀ to ∈ (behind (insD f k) k).take e, s0.getD to false = true
theorem SMid.start (f : Fn) (r : Nat) (s0 : List Bool) : SMid f r s0 0 0 false s0 :=
  ⟨rfl, id, fun _ h => h, fun h => (by cases h), fun _ => ⟨rfl, fun pc h => (by omega), fun to h => (by simp at h)⟩⟩
theorem SMid.next {f : Fn} {r : Nat} {s0 s : List Bool} {k e : Nat} {again : Bool} (h : SMid f r s0 k e again s) (he : (behind (insD f k) k).length ≤ e) : SMid f r s0 (k + 1) 0 again s :=
  ⟨h.len, h.sound, h.keeps, h.less, fun ha => by
    obtain ⟨h1, h2, h3⟩ := h.same ha
    refine ⟨h1, fun pc hpc hs hb to hto => ?_, fun to hto => by simp at hto⟩
    rcases Nat.lt_or_ge pc k with hlt | hge
    · exact h2 pc hlt hs hb to hto
    · obtain rfl : pc = k := by omega
      exact h3 to (by rw [List.take_of_length_le he]; exact hto)⟩
theorem SMid.skip {f : Fn} {r : Nat} {s0 s : List Bool} {k : Nat} {again : Bool} (h : SMid f r s0 k 0 again s) (hk : s.getD k false = false ∨ (setMask (insD f k)).testBit r = true) : SMid f r s0 (k + 1) 0 again s :=
  ⟨h.len, h.sound, h.keeps, h.less, fun ha => by
    obtain ⟨h1, h2, h3⟩ := h.same ha
    refine ⟨h1, fun pc hpc hs hb to hto => ?_, fun to hto => by simp at hto⟩
    rcases Nat.lt_or_ge pc k with hlt | hge
    · exact h2 pc hlt hs hb to hto
    · obtain rfl : pc = k := by omega
      subst h1
      rcases hk with hk | hk
      · rw [hs] at hk; cases hk
      · rw [hb] at hk; cases hk⟩
theorem SMid.new {f : Fn} {r : Nat} {s0 s : List Bool} {k e to : Nat} {again : Bool} (h : SMid f r s0 k e again s) (hk : k < f.code.length) (hk2 : s.getD k false = true) (hb : (setMask (insD f k)).testBit r = false)
    (he : (behind (insD f k) k)[e]? = some to) (hto : to < s0.length) (hs : s.getD to false = false) : SMid f r s0 k (e + 1) true (s.set to true) := by
  have htl : to < s.length := by rw [h.len]; exact hto
  have hu := unseen_set s to htl hs
  refine ⟨by simp [h.len], fun h0 q hq => ?_, fun q hq => ?_, fun _ => ?_, fun ha => by cases ha⟩
  · rw [bget_set s to q true htl] at hq
    by_cases e : q = to
    · subst e; exact Way.step hk (h.sound h0 k hk2) hb (List.mem_of_getElem? he)
    · rw [if_neg e] at hq; exact h.sound h0 q hq
  · rw [bget_set s to q true htl]
    split
    · rfl
    · exact h.keeps q hq
  · cases ha : again
    · obtain ⟨rfl, _⟩ := h.same ha; omega
    · have := h.less ha; omega
structure SLoops (f : Fn) (r : Nat) (again : Bool) (s : List Bool) : Prop where
  len : s.length = f.code.length + 1
  sound : SSound f r s
  zero : f.params ≤ (r : Int) → s.getD 0 false = true
  closed : again = false → ∀ pc, pc < f.code.length → s.getD pc false = true → (setMask (insD f pc)).testBit r = false → ∀ to ∈ behind (insD f pc) pc, s.getD to false = true
theorem SLoops.next {f : Fn} {r : Nat} {s s' : List Bool} {again again' : Bool} (h : SLoops f r again s) (m : SMid f r s f.code.length 0 again' s') :
    SLoops f r again' s' ∧ unseen s' + (if again' = true then 1 else 0) < unseen s + 1 := by
  refine ⟨⟨m.len.trans h.len, m.sound h.sound, fun hp => m.keeps 0 (h.zero hp), fun ha => ?_⟩, ?_⟩
  · obtain ⟨rfl, h2, _⟩ := m.same ha
    exact fun pc hpc hs hb to hto => h2 pc hpc hs hb to hto
  · cases again' with
    | false => obtain ⟨rfl, _⟩ := m.same rfl; simp
    | true => have := m.less rfl; simp; omega
def SeenSpec (f : Fn) (r : Nat) (s : List Bool) : Prop := s.length = f.code.length + 1 ∧ ∀ q, s.getD q false = true ↔ Way f r q
theorem SLoops.spec {f : Fn} {r : Nat} {s : List Bool} (h : SLoops f r false s) : SeenSpec f r s := by
  refine ⟨h.len, fun q => ⟨h.sound q, fun hw => ?_⟩⟩
  induction hw with
  | start hp => exact h.zero hp
  | @step pc to hpc hw hset ht ih => exact h.closed rfl pc hpc ih hset to ht
theorem set_bit (x : Ins) (h0 : 0 ≤ x.dst) (r : Nat) : (setMask x).testBit r = (setsB x.op && (x.dst == (r : Int))) := by
  unfold setMask
  cases hs : setsB x.op
  · simp
  · simp only [if_true, Bool.true_and, Nat.testBit_two_pow]
    rw [Bool.eq_iff_iff]; simp; omega
theorem set_high (x : Ins) (h0 : 0 ≤ x.dst) (h1 : x.dst < 12) : (setMask x).testBit 63 = false := by
  rw [set_bit x h0 63]
  have : (x.dst == ((63 : Nat) : Int)) = false := by simp; omega
  rw [this]; simp
def OutOk (f : Fn) (r q : Nat) (v : Int) : Prop := (¬ Way f 63 q ∧ v = -1) ∨ (Way f 63 q ∧ ∃ m : Nat, m < 2 ^ r ∧ v = m ∧ ∀ i, i < r → (m.testBit i = true ↔ ¬ Way f i q))
theorem out_zero_yes {f : Fn} {q : Nat} (h : Way f 63 q) : OutOk f 0 q 0 := Or.inr ⟨h, 0, by simp, rfl, fun i hi => by omega⟩
theorem out_zero_no {f : Fn} {q : Nat} (h : ¬ Way f 63 q) : OutOk f 0 q (-1) := Or.inl ⟨h, rfl⟩
theorem out_add {f : Fn} {r q : Nat} {v : Int} (h : OutOk f r q v) (hr : r < 12) (hw : Way f 63 q) (hn : ¬ Way f r q) : OutOk f (r + 1) q (v + (2 ^ r : Nat)) ∧ 0 ≤ v ∧ v < 4096 := by
  rcases h with ⟨h, _⟩ | ⟨_, m, hm, rfl, hb⟩
  · exact absurd hw h
  · have hlt : m < 4096 := Nat.lt_of_lt_of_le hm (show 2 ^ r ≤ 2 ^ 12 from Nat.pow_le_pow_right (by decide) (by omega))
    have hz : m.testBit r = false := Nat.testBit_lt_two_pow hm
    have e := or_pow m r (by omega) hr hz
    refine ⟨Or.inr ⟨hw, m + 2 ^ r, ?_, by simp, fun i hi => ?_⟩, by omega, by omega⟩
    · rw [Nat.pow_succ]; omega
    · rw [← e, Nat.testBit_or, Nat.testBit_two_pow]
      by_cases hir : r = i
      · subst hir; simp [hz, hn]
      · simp [hir, hb i (by omega)]
theorem out_same {f : Fn} {r q : Nat} {v : Int} (h : OutOk f r q v) (hn : Way f 63 q → Way f r q) : OutOk f (r + 1) q v := by
  rcases h with h | ⟨hw, m, hm, rfl, hb⟩
  · exact Or.inl h
  · refine Or.inr ⟨hw, m, by rw [Nat.pow_succ]; omega, rfl, fun i hi => ?_⟩
    rcases Nat.lt_or_ge i r with hlt | hge
    · exact hb i hlt
    · obtain rfl : i = r := by omega
      rw [Nat.testBit_lt_two_pow hm]
      simp [hn hw]
theorem spec_of_out {f : Fn} {L : List Int} (hl : L.length = f.code.length + 1) (h : ∀ q, q < f.code.length + 1 → OutOk f 12 q (L.getD q 0)) : SureSpec f L :=
  ⟨hl, fun q hq => by
    rcases h q hq with h | ⟨hw, m, hm, e, hb⟩
    · exact Or.inl h
    · exact Or.inr ⟨hw, m, hm, e, hb⟩⟩
theorem fnOk_of {P : List Fn} (h : codeProg P = 0) {f : Fn} (hf : f ∈ P) : FnOk f ∧ ∀ x ∈ f.code, InsOk P x ∧ (x.op = 15 ∨ x.op = 16 → 0 ≤ x.imm) := by
  obtain ⟨h1, h4, hall⟩ := codeProg_zero h
  obtain ⟨r1, r2, p0, p2, _, l1, l2, hi⟩ := codeFunc_zero (hall f hf)
  have imm : ∀ x ∈ f.code, x.op = 15 ∨ x.op = 16 → 0 ≤ x.imm ∧ x.imm < f.code.length := by
    intro x hx hop
    have hz := hi x hx
    rw [instr_same] at hz
    unfold refInstr at hz
    by_cases k1 : inB x.op 1 19 = false
    · rw [if_pos k1] at hz; cases hz
    rw [if_neg k1] at hz
    by_cases k2 : refOk1 x f.regs = false
    · rw [if_pos k2] at hz; cases hz
    rw [if_neg k2] at hz
    by_cases k3 : refOk2 x f.code.length P.length = false
    · rw [if_pos k3] at hz; cases hz
    have k3 : refOk2 x f.code.length P.length = true := by simpa using k3
    have : 0 ≤ x.imm ∧ x.imm ≤ (f.code.length : Int) - 1 := by simpa [refOk2, hop, inB] using k3
    omega
  refine ⟨⟨p0, p2, fun pc => ?_, l1, l2, fun pc hpc to hto => ?_⟩, fun x hx => ⟨insOk_of h hf hx, fun ho => (imm x hx ho).1⟩⟩
  · rcases Nat.lt_or_ge pc f.code.length with hlt | hge
    · rw [insD_eq hlt]
      have ok := insOk_of h hf (List.getElem_mem hlt)
      unfold setMask
      have d0 := ok.dst0
      have d1 := ok.dst1
      have : 2 ^ f.code[pc].dst.toNat ≤ 2 ^ 11 := Nat.pow_le_pow_right (by decide) (by omega)
      split <;> omega
    · have : insD f pc = ⟨0, 0, 0, 0, 0⟩ := by unfold insD; rw [List.getD_eq_getElem?_getD, List.getElem?_eq_none hge]; rfl
      rw [this]; decide
  · rw [insD_eq hpc] at hto
    have hx := List.getElem_mem hpc
    unfold behind at hto
    split at hto
    · rename_i h15
      have := imm _ hx (Or.inl h15)
      simp at hto; omega
    · split at hto
      · rename_i h16
        have := imm _ hx (Or.inr h16)
        simp at hto; omega
      · split at hto
        · simp at hto
        · simp at hto; omega
end Go.Proofs.YtldbmdgpdolaaaaDoor
namespace Go.Proofs.YtldbmdgpdolaaaaDoor
open Go Go.RowKit

def mk (op a b imm : Int) : Int :=
  if op = 1 then imm else if op = 2 then wrap64 (a + b) else if op = 3 then wrap64 (a - b) else if op = 4 then wrap64 (a * b)
  else if op = 5 then (if b = 0 then 0 else wrap64 (a.tdiv b)) else if op = 6 then bits .and .i64 a b else if op = 7 then bits .or .i64 a b else if op = 8 then bits .xor .i64 a b
  else if op = 9 then wrap64 (a * 2 ^ (b % 64).toNat) else if op = 10 then a / 2 ^ (b % 64).toNat
  else if op = 11 then (if a < b then 1 else 0) else if op = 12 then (if a = b then 1 else 0) else 0
end Go.Proofs.YtldbmdgpdolaaaaDoor
namespace Go.Proofs.YtldbmdgpdolaaaaDoor
open Go

def lastPost (P : Program) (o : Oper) (Q : Exit → Act → World → Prop) : Exit → Act → World → Prop
  | .normal, a, w => o.wp P a w (fun a w => Q .normal a w) Q ∨ (o.asks P a w ∧ LetsOut Q)
  | e, a, w => Q e a w
def lastB (md : Region.Mode) (ops : Array Oper) (n : Nat) : Bool :=
  ops.size == n + 1 && ops.all (fun o => o.guard.isNone) &&
  (match ops[n]? with
   | some o => (List.range n).all (fun i => (List.range (n + 1)).any fun j => decide (i < j) && (match ops[j]? with
       | some oj => oj.after.any fun e => Region.binds md e && e.on == i
       | none => false)) && o.after.all (fun e => decide (e.on < n))
   | none => false) &&
  (List.range n).all fun i => match ops[i]? with
    | some o => o.after.all fun e => decide (e.on < i)
    | none => true
section
variable {P : Program} {ops : Array Oper} {Q : Exit → Act → World → Prop} {md : Region.Mode}

theorem upon_last {o oi : Oper} {a : Act} {next : Act → World → Prop} (r : Result Next) : oi.upon P a next (lastPost P o Q) r → oi.upon P a next Q r := by
  intro h
  cases r with
  | ok n w' => cases n <;> exact h
  | halt x w' => cases x <;> exact h
theorem getD_push_lt (l : Array Bool) (i : Nat) (d : Bool) (h : i < l.size) : (l.push false).getD i d = l.getD i d := by
  simp [Array.getElem?_push, show ¬ i = l.size by omega]
theorem getD_push_ge (l : Array Bool) (i : Nat) (h : l.size ≤ i) : (l.push false).getD i false = false := by
  rcases Nat.eq_or_lt_of_le h with e | e
  · subst e; simp
  · simp [Array.getElem?_eq_none (show (l.push false).size ≤ i by simp; omega)]
structure Last (md : Region.Mode) (ops : Array Oper) (n : Nat) (o : Oper) : Prop where
  size : ops.size = n + 1
  guards : ∀ (i : Nat) (oi : Oper), ops[i]? = some oi → oi.guard = none
  at_ : ops[n]? = some o
  waits : ∀ i : Nat, i < n → ∃ (j : Nat) (oj : Oper), i < j ∧ j ≤ n ∧ ops[j]? = some oj ∧ ∃ e ∈ oj.after, Region.binds md e = true ∧ e.on = i
  within : ∀ e ∈ o.after, e.on < n
  down : ∀ (i : Nat) (oi : Oper), i < n → ops[i]? = some oi → ∀ e ∈ oi.after, e.on < i
theorem Last.of {n : Nat} {o : Oper} (h : lastB md ops n = true) (ho : ops[n]? = some o) : Last md ops n o := by
  simp only [lastB, ho, Bool.and_eq_true] at h
  obtain ⟨⟨⟨h1, h2⟩, h3, h4⟩, h5⟩ := h
  refine ⟨by simpa using h1, fun i oi hi => ?_, ho, fun i hi => ?_, fun e he => ?_, fun i oi hi hoi e he => ?_⟩
  · obtain ⟨hlt, rfl⟩ := Array.getElem?_eq_some_iff.1 hi
    have := Array.all_eq_true.1 h2 i hlt
    simpa using this
  · have := List.all_eq_true.1 h3 i (List.mem_range.2 hi)
    obtain ⟨j, hj, hb⟩ := List.any_eq_true.1 this
    simp only [Bool.and_eq_true, decide_eq_true_eq] at hb
    cases hoj : ops[j]? with
    | none => rw [hoj] at hb; simp at hb
    | some oj =>
      rw [hoj] at hb
      obtain ⟨e, he, hb2⟩ := Array.any_eq_true'.1 hb.2
      simp only [Bool.and_eq_true, beq_iff_eq] at hb2
      exact ⟨j, oj, hb.1, by have := List.mem_range.1 hj; omega, hoj, e, he, hb2.1, hb2.2⟩
  · have := Array.all_eq_true'.1 h4 e he
    simpa using this
  · have := List.all_eq_true.1 h5 i (List.mem_range.2 hi)
    rw [hoi] at this
    have := Array.all_eq_true'.1 this e he
    simpa using this
def Closed (md : Region.Mode) (ops : Array Oper) (n : Nat) (listed : Array Bool) : Prop :=
  ∀ (j : Nat) (oj : Oper), j < n → ops[j]? = some oj → listed.getD j false = true → ∀ e ∈ oj.after, Region.binds md e = true → listed.getD e.on false = true
theorem pop_get {n i : Nat} {o : Oper} (L : Last md ops n o) (h : i < n) : ops.pop[i]? = ops[i]? := by
  rw [Array.getElem?_pop, L.size]
  simp [h]
theorem ready_lt {n i : Nat} {o : Oper} {listed : Array Bool} (L : Last md ops n o) (hl : listed.size = n) (hcl : Closed md ops n listed) : i ∈ Region.ready md ops (listed.push false) → (i < n ∧ i ∈ Region.ready md ops.pop listed) ∨ (i = n ∧ ∀ j, j < n → listed.getD j false = true) := by
  intro h
  obtain ⟨h1, oi, hoi, hall⟩ := mem_ready.1 h
  have hi : i < n + 1 := by have := (Array.getElem?_eq_some_iff.1 hoi).1; rw [L.size] at this; exact this
  have key : ∀ e ∈ oi.after, Region.binds md e = true → listed.getD e.on false = true := fun e he hb => by
    have h2 := hall e he hb
    rcases Nat.lt_or_ge e.on listed.size with h3 | h3
    · rwa [getD_push_lt _ _ _ h3] at h2
    · rw [getD_push_ge _ _ h3] at h2; cases h2
  rcases Nat.lt_or_ge i n with h' | h'
  · exact Or.inl ⟨h', mem_ready.2 ⟨by rwa [getD_push_lt _ _ _ (by omega)] at h1, oi, by rw [pop_get L h']; exact hoi, key⟩⟩
  · obtain rfl : i = n := by omega
    obtain rfl : oi = o := Option.some.inj (hoi.symm.trans L.at_)
    have all : ∀ d j, i - j = d → j < i → listed.getD j false = true := by
      intro d
      induction d using Nat.strongRecOn with
      | _ d ih =>
        intro j hd hj
        obtain ⟨j', oj, h1, h2, h3, e, he, hb, rfl⟩ := L.waits j hj
        rcases Nat.lt_or_ge j' i with h4 | h4
        · exact hcl j' oj h4 h3 (ih (i - j') (by omega) j' rfl h4) e he hb
        · obtain rfl : j' = i := by omega
          obtain rfl : oj = oi := Option.some.inj (h3.symm.trans L.at_)
          exact key e he hb
    exact Or.inr ⟨rfl, fun j hj => all _ j rfl hj⟩
theorem ready_of {n i : Nat} {o : Oper} {listed : Array Bool} (L : Last md ops n o) (hl : listed.size = n) (h : i ∈ Region.ready md ops.pop listed) : i < n ∧ i ∈ Region.ready md ops (listed.push false) := by
  obtain ⟨h1, oi, hoi, hall⟩ := mem_ready.1 h
  have hi : i < n := by have := (Array.getElem?_eq_some_iff.1 hoi).1; simp [L.size] at this; exact this
  rw [pop_get L hi] at hoi
  refine ⟨hi, mem_ready.2 ⟨by rw [getD_push_lt _ _ _ (by omega)]; exact h1, oi, hoi, fun e he hb => ?_⟩⟩
  have := L.down i oi hi hoi e he
  rw [getD_push_lt _ _ _ (by omega)]
  exact hall e he hb
theorem all_listed {n : Nat} {o : Oper} {listed : Array Bool} (L : Last md ops n o) (hl : listed.size = n) (h : Region.ready md ops.pop listed = []) : ∀ j, j < n → listed.getD j false = true := by
  intro j
  induction j using Nat.strongRecOn with
  | _ j ih =>
    intro hj
    cases hd : listed.getD j false with
    | true => rfl
    | false =>
      exfalso
      obtain ⟨oj, hjo⟩ : ∃ oj, ops[j]? = some oj := ⟨ops[j]'(by rw [L.size]; omega), Array.getElem?_eq_getElem (by rw [L.size]; omega)⟩
      have hm : j ∈ Region.ready md ops.pop listed := mem_ready.2 ⟨by simp [show j < listed.size by omega] at hd ⊢; exact hd, _, by rw [pop_get L hj]; exact hjo, fun e he _ => by
        have := L.down j _ hj hjo e he
        exact ih e.on this (by omega)⟩
      rw [h] at hm
      cases hm
theorem last_ready {n : Nat} {o : Oper} {listed : Array Bool} (L : Last md ops n o) (hl : listed.size = n) (h : ∀ j, j < n → listed.getD j false = true) : n ∈ Region.ready md ops (listed.push false) :=
  mem_ready.2 ⟨by simp [← hl], o, L.at_, fun e he _ => by
    have := L.within e he
    rw [getD_push_lt _ _ _ (by omega)]
    exact h _ this⟩
theorem none_ready {m : Nat} {ops : Array Oper} {listed : Array Bool} (hs : ops.size = m) (h : ∀ j, j < m → listed.getD j false = true) : Region.ready md ops listed = [] := by
  apply List.eq_nil_iff_forall_not_mem.2
  intro j hj
  obtain ⟨h1, oi, hoi, _⟩ := mem_ready.1 hj
  have hi := (Array.getElem?_eq_some_iff.1 hoi).1
  have h2 := h j (by omega)
  rcases Nat.lt_or_ge j listed.size with h3 | h3
  · simp [h3] at h1 h2; rw [h1] at h2; cases h2
  · simp [Array.getElem?_eq_none h3] at h2
theorem set_push (l : Array Bool) (i : Nat) (h : i < l.size) : (l.push false).setIfInBounds i true = (l.setIfInBounds i true).push false := by
  apply Array.ext_getElem?
  intro j
  rw [Array.getElem?_setIfInBounds, Array.getElem?_push, Array.getElem?_push, Array.getElem?_setIfInBounds]
  simp only [Array.size_setIfInBounds, Array.size_push]
  by_cases hij : i = j
  · subst hij
    simp [h, show ¬ i = l.size by omega, show i < l.size + 1 by omega]
  · simp [hij]
theorem wanted_none {o : Oper} (h : o.guard = none) (y : Nat → Option Bool) : Region.wanted o y = true := by simp [Region.wanted, h]
theorem wp_last {o oi : Oper} {a : Act} {w : World} {K K' : Act → World → Prop} (hK : ∀ a w, K a w → K' a w) (h : oi.wp P a w K (lastPost P o Q) ∨ (oi.asks P a w ∧ LetsOut (lastPost P o Q))) : oi.wp P a w K' Q ∨ (oi.asks P a w ∧ LetsOut Q) := by
  rcases h with h | ⟨h1, h2⟩
  · exact Or.inl (Oper.wp_mono hK (upon_last _ h))
  · exact Or.inr ⟨h1, h2⟩
theorem last_step {n : Nat} {o : Oper} {listed : Array Bool} {a : Act} {w : World} (L : Last md ops n o) (hl : listed.size = n) (hall : ∀ j, j < n → listed.getD j false = true) (h : lastPost P o Q .normal a w) (fuel : Nat) :
    wpOp P ops Q n (wpAny P md ops Q fuel ((listed.push false).setIfInBounds n true)) a w := by
  unfold wpOp
  simp only [L.at_, wanted_none (L.guards n o L.at_), if_true]
  have hr : Region.ready md ops ((listed.push false).setIfInBounds n true) = [] := by
    refine none_ready L.size fun j hj => ?_
    rcases Nat.lt_or_ge j n with h' | h'
    · rw [getD_set_ne false (by omega), getD_push_lt _ _ _ (by omega)]; exact hall j h'
    · obtain rfl : j = n := by omega
      simp [← hl]
  exact h.imp (Oper.wp_mono fun a w hq => wpAny_done hr hq fuel) id
theorem closed_set {n i : Nat} {o : Oper} {listed : Array Bool} (L : Last md ops n o) (hl : listed.size = n) (hcl : Closed md ops n listed) (hi : i ∈ Region.ready md ops.pop listed) : Closed md ops n (listed.setIfInBounds i true) := by
  obtain ⟨_, oi, hoi, hall⟩ := mem_ready.1 hi
  have hin : i < n := by have := (Array.getElem?_eq_some_iff.1 hoi).1; simp [L.size] at this; exact this
  rw [pop_get L hin] at hoi
  have up : ∀ m, listed.getD m false = true → (listed.setIfInBounds i true).getD m false = true := fun m hm => by
    by_cases him : i = m
    · subst him; simp [hl, hin]
    · rw [getD_set_ne false him]; exact hm
  intro j oj hj hoj hlj e he hb
  by_cases hij : i = j
  · subst hij
    obtain rfl : oj = oi := Option.some.inj (hoj.symm.trans hoi)
    exact up _ (hall e he hb)
  · rw [getD_set_ne false hij] at hlj
    exact up _ (hcl j oj hj hoj hlj e he hb)
theorem wpAny_last {n : Nat} {o : Oper} (L : Last md ops n o) : ∀ (fuel : Nat) (listed : Array Bool) (a : Act) (w : World), listed.size = n → Closed md ops n listed →
    wpAny P md ops.pop (lastPost P o Q) fuel listed a w → wpAny P md ops Q (fuel + 1) (listed.push false) a w := by
  intro fuel
  induction fuel with
  | zero =>
    intro listed a w hl hcl h
    have hall := all_listed L hl h.1
    refine ⟨fun h0 => (by have := last_ready L hl hall; rw [h0] at this; cases this), fun i hi => ?_⟩
    rcases ready_lt L hl hcl hi with ⟨_, h2⟩ | ⟨rfl, _⟩
    · rw [h.1] at h2; cases h2
    · exact last_step L hl hall h.2 0
  | succ f ih =>
    intro listed a w hl hcl h
    refine ⟨fun h0 => ?_, fun i hi => ?_⟩
    · exfalso
      cases hr : Region.ready md ops.pop listed with
      | nil => have := last_ready L hl (all_listed L hl hr); rw [h0] at this; cases this
      | cons x xs => have := (ready_of L hl (i := x) (by rw [hr]; simp)).2; rw [h0] at this; cases this
    · rcases ready_lt L hl hcl hi with ⟨h1, h2⟩ | ⟨rfl, hall⟩
      · have h3 := h.2 i h2
        obtain ⟨_, oi, hoi, _⟩ := mem_ready.1 h2
        have hoi' : ops[i]? = some oi := by rw [← pop_get L h1]; exact hoi
        unfold wpOp at h3 ⊢
        simp only [hoi, hoi', wanted_none (L.guards i oi hoi'), if_true] at h3 ⊢
        refine wp_last (fun a' w' hk => ?_) h3
        rw [set_push _ _ (by omega)]
        exact ih _ a' w' (by simpa using hl) (closed_set L hl hcl h2) hk
      · have hr : Region.ready md ops.pop listed = [] := none_ready (m := i) (by simp [L.size]) hall
        exact last_step L hl hall (h.1 hr) (f + 1)
theorem wp_region_last {S : World → Prop} (id n : Nat) {o : Oper} {a : Act} {w : World} (hm : P.follows .mixedOrders = true) (hb : lastB .any ops n = true) (ho : ops[n]? = some o)
    (hS : S w.drew) (h : S w.drew → wpAnyH P .any ops.pop (lastPost P o Q) S n (Array.replicate n false) a w.drew) : (Code.region id ops true).wp P Q a w := by
  have L := Last.of hb ho
  refine wp_region_any hm ?_
  have h2 := wpAny_last L n (Array.replicate n false) a w.drew (by simp) (fun j oj hj _ hlj => by simp [hj] at hlj) (wpAny_of_held n _ a _ (h hS))
  rw [← Array.replicate_succ, ← L.size] at h2
  exact h2
end
end Go.Proofs.YtldbmdgpdolaaaaDoor
namespace Go.Proofs.YtldbmdgpdolaaaaDoor
open Go

theorem wp_region_last2 {P : Program} {ops : Array Oper} {Q : Exit → Act → World → Prop} {S : World → Prop} (id n : Nat) {o1 o2 : Oper} {a : Act} {w : World} (hm : P.follows .mixedOrders = true) (hb2 : lastB .any ops (n + 1) = true) (ho2 : ops[n + 1]? = some o2)
    (hb1 : lastB .any ops.pop n = true) (ho1 : ops.pop[n]? = some o1) (hS : S w.drew) (h : S w.drew → wpAnyH P .any ops.pop.pop (lastPost P o1 (lastPost P o2 Q)) S n (Array.replicate n false) a w.drew) : (Code.region id ops true).wp P Q a w := by
  have L2 := Last.of hb2 ho2
  have L1 := Last.of hb1 ho1
  refine wp_region_any hm ?_
  have h1 := wpAny_last L1 n (Array.replicate n false) a w.drew (by simp) (fun j oj hj _ hlj => by simp [hj] at hlj) (wpAny_of_held n _ a _ (h hS))
  rw [← Array.replicate_succ] at h1
  have h2 := wpAny_last L2 (n + 1) (Array.replicate (n + 1) false) a w.drew (by simp) (fun j oj hj _ hlj => by simp [hj] at hlj) h1
  rw [← Array.replicate_succ, ← L2.size] at h2
  exact h2
end Go.Proofs.YtldbmdgpdolaaaaDoor
