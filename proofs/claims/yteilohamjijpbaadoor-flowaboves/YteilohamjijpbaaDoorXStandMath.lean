/- The rounds of flow.standing: plain mathematics. -/
import Derived.Test.YteilohamjijpbaaDoorXAboveMath
namespace Go.Proofs.YteilohamjijpbaaDoor
open Go Go.RowKit

theorem bv_sub_le {x y : BitVec 64} (h : ∀ d, d < 64 → x.getLsbD d = true → y.getLsbD d = true) : x.toNat ≤ y.toNat := by
  refine sub_le fun r hr => ?_
  rw [BitVec.testBit_toNat] at hr ⊢
  by_cases h64 : r < 64
  · exact h r h64 hr
  · rw [BitVec.getLsbD_of_ge _ _ (by omega)] at hr; cases hr
theorem bset_self (l : List (BitVec 64)) (i : Nat) (hi : i < l.length) : l.set i (l.getD i 0#64) = l := by
  have e : l.getD i 0#64 = l[i] := by simp [List.getD, hi]
  rw [e, List.set_getElem_self]
/-- In the midst of a round. -/
structure OMid (pv : Nat → List Nat) (K : Nat) (on0 : List (BitVec 64)) (b : Nat) (again : Bool) (on : List (BitVec 64)) : Prop where
  inv : OnInv pv K on
  fix : again = false → on = on0 ∧ ∀ c, 1 ≤ c → c < b → on.getD c 0#64 = leftB pv on c
  less : again = true → total on < total on0
  le : total on ≤ total on0
theorem OMid.start {pv : Nat → List Nat} {K : Nat} {on : List (BitVec 64)} (h : OnInv pv K on) : OMid pv K on 1 false on :=
  ⟨h, fun _ => ⟨rfl, fun c h1 h2 => by omega⟩, (fun h => by cases h), Nat.le_refl _⟩
theorem OMid.step {pv : Nat → List Nat} {K : Nat} (hp : ∀ b p, p ∈ pv b → p < K) {on0 on : List (BitVec 64)} {b : Nat} {again : Bool} (h : OMid pv K on0 b again on) (hb1 : 1 ≤ b) (hb : b < K) :
    OMid pv K on0 (b + 1) (again || (leftB pv on b != on.getD b 0#64)) (on.set b (leftB pv on b)) := by
  have hl : b < on.length := by rw [h.inv.len]; exact hb
  by_cases he : leftB pv on b = on.getD b 0#64
  · have e : (leftB pv on b != on.getD b 0#64) = false := by rw [he]; simp
    rw [e, Bool.or_false]
    have e2 : on.set b (leftB pv on b) = on := by rw [he]; exact bset_self on b hl
    rw [e2]
    refine ⟨h.inv, fun ha => ⟨(h.fix ha).1, fun c h1 h2 => ?_⟩, h.less, h.le⟩
    by_cases hc : c = b
    · rw [hc]; exact he.symm
    · exact (h.fix ha).2 c h1 (by omega)
  · have e : (leftB pv on b != on.getD b 0#64) = true := by simpa using he
    rw [e, Bool.or_true]
    have hle := bv_sub_le fun d hd hq => h.inv.post b hb1 hb d hd hq
    have hne : (leftB pv on b).toNat ≠ (on.getD b 0#64).toNat := fun ee => he (BitVec.eq_of_toNat_eq ee)
    have ht := total_set on b (leftB pv on b) hl
    have := h.le
    exact ⟨h.inv.step hp hb1 hb, (fun h => by cases h), fun _ => by omega, by omega⟩
/-- Where the rounds begin. -/
theorem OnInv.begin (pv : Nat → List Nat) (K : Nat) (hK : 0 < K) : OnInv pv K ((List.replicate K (BitVec.allOnes 64)).set 0 1#64) := by
  have hs : ∀ q, q < K → ((List.replicate K (BitVec.allOnes 64)).set 0 1#64).getD q 0#64 = if q = 0 then 1#64 else BitVec.allOnes 64 := fun q hq => by
    rw [bgetD_set _ _ _ _ (by simpa using hK)]
    by_cases h : q = 0
    · rw [if_pos h, if_pos h]
    · rw [if_neg h, if_neg h]; simp [List.getD, hq]
  refine ⟨by simp, by rw [hs 0 hK, if_pos rfl], fun b hb d hd hn => ?_, fun b h1 hb d hd _ => ?_⟩
  · rw [hs b hb]
    by_cases h : b = 0
    · subst h
      have h0 : d = 0 := by
        by_cases h0 : 0 = d
        · exact h0.symm
        · exact absurd (WayB.start h0) hn
      subst h0
      rw [if_pos rfl]; decide
    · rw [if_neg h, BitVec.getLsbD_allOnes]; simpa using hd
  · rw [hs b hb, if_neg (by omega), BitVec.getLsbD_allOnes]; simpa using hd

/-- The blocks that lead to a block. -/
def pvN (f : Fn) (S : List Nat) (T : Nat → Nat) (b : Nat) : List Nat := (List.range S.length).filter fun j => decide (((b : Nat) : Int) ∈ nxI f S (T j))
theorem pvN_mem (f : Fn) (S : List Nat) (T : Nat → Nat) (b j : Nat) : j ∈ pvN f S T b ↔ j < S.length ∧ ((b : Nat) : Int) ∈ nxI f S (T j) := by
  unfold pvN
  rw [List.mem_filter, List.mem_range, decide_eq_true_eq]
theorem pvN_pvI (f : Fn) (S : List Nat) (T : Nat → Nat) (b : Nat) (hb : b ≠ 0) : pvI f S T S.length b = (pvN f S T b).map fun j => ((j : Nat) : Int) := by
  unfold pvI pvN
  rw [if_neg hb]; rfl
theorem BlkOk.pvN_lt {P : List Fn} {f : Fn} (ok : FlowOk P f) {S : List Nat} {T : Nat → Nat} (h : BlkOk f S T) (b p : Nat) (hp : p ∈ pvN f S T b) : p < S.length ∧ b < S.length := by
  obtain ⟨h1, h2⟩ := (pvN_mem f S T b p).1 hp
  obtain ⟨q, hq, e⟩ := (nxI_mem f S (T p) _).1 h2
  have hm := (h.ends p h1).leads ok h.starts (h.starts.reach ok (List.getElem_mem h1)).1 hq
  have := (rank_lt h.starts.rises hm).1
  exact ⟨h1, by omega⟩
/-- Each block is come to. -/
theorem BlkOk.come {P : List Fn} {f : Fn} (ok : FlowOk P f) {S : List Nat} {T : Nat → Nat} (h : BlkOk f S T) {b : Nat} (hb : b < S.length) : Come (pvN f S T) b := by
  have key : ∀ pc, Way f 63 pc → ∃ i, InBlk S T pc i ∧ WayB (pvN f S T) S.length i := fun pc hw => by
    induction hw with
    | start _ =>
      refine ⟨_, h.start h.starts.zero, ?_⟩
      rw [rank_zero]
      exact WayB.start (by have := h.starts.first.1; omega)
    | @step pc q hpc hw _ ht ih =>
      obtain ⟨i, hin, hwi⟩ := ih
      by_cases hl : pc = T i - 1
      · obtain ⟨hi, a1, a2⟩ := hin
        have hm := (h.ends i hi).leads ok h.starts (h.starts.reach ok (List.getElem_mem hi)).1 (q := q) (by rw [← hl]; exact ht)
        refine ⟨_, h.start hm, WayB.step hwi ((pvN_mem f S T _ i).2 ⟨hi, (nxI_mem f S (T i) _).2 ⟨q, by rw [← hl]; exact ht, rfl⟩⟩) ?_⟩
        have := (rank_lt h.starts.rises hm).1
        omega
      · have hop := h.mid hin hl
        rw [behind_on _ _ hop] at ht
        have e : q = pc + 1 := by simpa using ht
        subst e
        obtain ⟨hi, a1, a2⟩ := hin
        exact ⟨i, ⟨hi, by omega, by omega⟩, hwi⟩
  have hm : S[b] ∈ S := List.getElem_mem hb
  obtain ⟨i, hin, hw⟩ := key S[b] (h.starts.reach ok hm).1
  have e := h.one hin (h.start hm)
  rw [rank_at h.starts.rises b hb] at e
  subst e
  exact ⟨_, hw⟩
end Go.Proofs.YteilohamjijpbaaDoor
