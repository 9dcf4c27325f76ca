/- Contract of the document's answer to P3.4 (tierlineref.ReadsAndSets). -/
import Derived.Test.YtepnhemlhogmgaaDoorRefReads
import Derived.Test.YtepnhemlhogmgaaDoorRefWalk
import Derived.Test.YtepnhemlhogmgaaDoorBitsMore
namespace Go.Proofs.YtepnhemlhogmgaaDoor
open Go Go.RowKit

def maskPart (l : List Int) (k : Nat) : Nat := (l.take k).foldl (fun m r => m ||| 2 ^ r.toNat) 0
theorem maskPart_succ (l : List Int) (k : Nat) (h : k < l.length) : maskPart l (k + 1) = maskPart l k ||| 2 ^ (l[k]).toNat := by
  unfold maskPart
  rw [List.take_succ_eq_append_getElem h, List.foldl_append]; rfl
theorem maskPart_lt (l : List Int) (hl : ∀ r ∈ l, 0 ≤ r ∧ r < 12) (k : Nat) : maskPart l k < 65536 := by
  induction k with
  | zero => simp [maskPart]
  | succ k ih =>
    by_cases h : k < l.length
    · rw [maskPart_succ l k h]
      have := hl l[k] (List.getElem_mem h)
      exact or_lt _ _ ih (two_lt _ (by omega))
    · have e : maskPart l (k + 1) = maskPart l k := by unfold maskPart; rw [List.take_of_length_le (by omega), List.take_of_length_le (by omega)]
      rw [e]; exact ih
theorem readsL_small {P : List Fn} {x : Ins} (hx : InsOk P x) : ∀ r ∈ readsL P x, 0 ≤ r ∧ r < 12 := by
  intro r hr
  obtain ⟨_, _, _, _, a0, a1, b0, b1, _⟩ := hx
  unfold readsL at hr
  rcases List.mem_append.1 hr with h | h
  · split at h
    · simp at h; subst h; exact ⟨a0, a1⟩
    · simp at h
  · split at h
    · simp at h; subst h; exact ⟨b0, b1⟩
    · simp at h
theorem mask_reads (P : List Fn) (x : Ins) : maskPart (readsL P x) (readsL P x).length = rdMask P x := by
  unfold maskPart readsL rdMask
  rw [List.take_length]
  cases rdA P x <;> cases rdB P x <;> simp
theorem mask_step (l : List Int) (hl : ∀ r ∈ l, 0 ≤ r ∧ r < 12) (k : Nat) (h : k < l.length) :
    maskPart l (k + 1) = if hasB (maskPart l k) (l[k]).toNat = true then maskPart l k else maskPart l k + 2 ^ (l[k]).toNat := by
  rw [maskPart_succ l k h]
  have hb := hl l[k] (List.getElem_mem h)
  have e : hasB (maskPart l k) (l[k]).toNat = (maskPart l k).testBit (l[k]).toNat := by
    rw [testBit_div]; unfold hasB; generalize maskPart l k / 2 ^ (l[k]).toNat % 2 = z; rw [Bool.eq_iff_iff]; simp; omega
  rw [e]
  cases ht : (maskPart l k).testBit (l[k]).toNat
  · rw [if_neg (by simp)]; exact or_pow _ _ (maskPart_lt l hl k) (by omega) ht
  · rw [if_pos rfl]; exact or_pow_same _ _ ht

/-- 2 to a power. -/
def pw (d : Int) : Nat := 2 ^ d.toNat
theorem pw_lt (d : Int) (_h0 : 0 ≤ d) (h1 : d < 12) : pw d < 65536 := two_lt d.toNat (by omega)
theorem hasBit_int (n : Nat) (d : Int) (v : Bool) (w : World) (hn : n < 65536) (h0 : 0 ≤ d) (h1 : d < 12) (h : hasB n d.toNat = v) :
    Calls Tryd.prog 52 #[.int .i64 n, .int .i64 d] w fun e w' => e = .returned (.bool v) ∧ w' = w := by
  obtain ⟨k, rfl⟩ := Int.eq_ofNat_of_zero_le h0
  rw [← h]
  exact hasBit_any n k w hn (by omega)

end Go.Proofs.YtepnhemlhogmgaaDoor
