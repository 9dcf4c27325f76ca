/- Contracts of the document's answer to P7.4: inList and LiveOf of package tierlineref; and flow.Live at every argument. -/
import Derived.Test.YteilohamjijpbaaDoorXLiveRef
import Derived.Test.YteilohamjijpbaaDoorXRefWhere
import Derived.Test.YteilohamjijpbaaDoorGroupB
import Derived.Test.YteilohamjijpbaaDoorGroupC
import Derived.Test.YteilohamjijpbaaDoorXFlowFace
namespace Go.Proofs.YteilohamjijpbaaDoor
open Go Go.RowKit

/-- What flow.Live answers. -/
def LiveAns (P : List Fn) (fn E : Int) (A : List Int) : Prop :=
  (E ≠ 0 ∧ ProofAns P E ∧ A = []) ∨ (ProofAns P 0 ∧ ¬ (0 ≤ fn ∧ fn < P.length) ∧ E = 2 ∧ A = []) ∨ (ProofAns P 0 ∧ E = 0 ∧ ∃ k : Nat, fn = k ∧ ∃ hk : k < P.length, LiveSpec P P[k] A)
theorem liveAns_unique {P : List Fn} {fn E E' : Int} {A A' : List Int} (h : LiveAns P fn E A) (h' : LiveAns P fn E' A') : E = E' ∧ A = A' := by
  rcases h with ⟨h0, h1, rfl⟩ | ⟨h1, h2, rfl, rfl⟩ | ⟨h1, rfl, k, rfl, hk, hs⟩ <;> rcases h' with ⟨g0, g1, rfl⟩ | ⟨g1, g2, rfl, rfl⟩ | ⟨g1, rfl, k', g2, hk', hs'⟩
  · exact ⟨proofAns_unique h1 g1, rfl⟩
  · exact absurd (proofAns_unique h1 g1) h0
  · exact absurd (proofAns_unique h1 g1) h0
  · exact absurd (proofAns_unique g1 h1) g0
  · exact ⟨rfl, rfl⟩
  · exact absurd (by omega) h2
  · exact absurd (proofAns_unique g1 h1) g0
  · exact absurd (by omega) g2
  · obtain rfl : k = k' := by omega
    exact ⟨rfl, spec_unique hs hs'⟩
def LivePost (P : List Fn) (fn : Int) (w : World) (e : Ending) (w' : World) : Prop :=
  ∃ v' E A, e = .returned (.tuple #[v', .int .i64 E]) ∧ LiveAns P fn E A ∧ IntsVal w' v' A ∧ Below w.heap.size w w'

set_option maxRecDepth 100000 in
theorem inList_any (l : List Int) (v : Value) (r : Int) (w : World) (hv : IntsVal w v l) :
    Calls Tryd.prog 42 #[v, .int .i64 r] w fun e w' => e = .returned (.bool (l.contains r)) ∧ w' = w := by
  obtain ⟨ao, b, off, n, cap, rfl, hl, ha, hc, hcp, hm⟩ := ints_get hv
  have HNO : Hid (∀ q, q ≤ n → (∀ j, j < q → l.getD j 0 ≠ r) → q = n → l.contains r = false) := fun q hq h e => by
    rw [← Bool.not_eq_true, List.contains_iff_mem]
    intro hmem
    obtain ⟨j, hj, e2⟩ := List.getElem_of_mem hmem
    exact h j (by omega) (by simp [List.getD, hj, e2])
  have HYES : Hid (∀ q, q < n → l.getD q 0 = r → l.contains r = true) := fun q hq h => by
    rw [List.contains_iff_mem]
    have : l[q]? = some r := by rw [List.getElem?_eq_getElem (by omega)]; simpa [List.getD, show q < l.length by omega] using h
    exact List.mem_of_getElem? this
  have HC : Hid (∀ q, q < n → w.cell? ⟨b, off + q, none⟩ = some (.int .i64 (l.getD q 0))) := hc
  generalize l.contains r = cb at *
  go_enter Tryd.func42, Tryd.ntmps42
  go_wp2
  clear hc hl hv
  go_loopw [5] (fun i wr => ∃ q : Nat, q ≤ n ∧ i = .int .i64 q ∧ (∀ j, j < q → l.getD j 0 ≠ r) ∧ wr = w) (fun i _ => n - (intOf i).toNat)
  case atStart => exact ⟨0, Nat.zero_le _, rfl, fun j hj => by omega, rfl⟩
  case round =>
    obtain ⟨q, hq, rfl, hne, rfl⟩ := hrel
    by_cases hlt : q < n
    · have hqI : (q : Int) < n := by omega
      obtain rfl := ha (by omega)
      have c := HC.out q hlt
      by_cases he : l.getD q 0 = r
      · have HX : Hid (cb = true) := HYES.out q hlt he
        rw [he] at c
        clear hne he
        go_wp2
        go_ret
        exact ⟨by rw [HX.out]; rfl, rfl⟩
      · have HX : Hid (∀ j, j < q + 1 → l.getD j 0 ≠ r) := fun j hj => by
          rcases Nat.lt_or_ge j q with h | h
          · exact hne j h
          · obtain rfl : j = q := by omega
            exact he
        have hee : (l.getD q 0 == r) = false := by simpa using he
        generalize l.getD q 0 = z at c hee
        clear hne he
        go_wp2
        go_roundw
        case rel => exact ⟨q + 1, by omega, by go_num, HX.out, trivial⟩
        case measure => simp [intOf]; omega
    · have HX : Hid (cb = false) := HNO.out q hq hne (by omega)
      obtain rfl : q = n := by omega
      clear hne
      go_wp2
      go_ret
      exact ⟨by rw [HX.out]; rfl, rfl⟩
theorem reads_bit {P : List Fn} {x : Ins} (hx : InsOk P x) (r : Nat) : (readsL P x).contains (r : Int) = (rdMask P x).testBit r := by
  have h1 := hx.a0
  have h3 := hx.b0
  obtain ⟨ka, hka⟩ := Int.eq_ofNat_of_zero_le h1
  obtain ⟨kb, hkb⟩ := Int.eq_ofNat_of_zero_le h3
  unfold readsL rdMask
  rw [hka, hkb, Int.toNat_natCast, Int.toNat_natCast, Nat.testBit_or, Bool.eq_iff_iff, List.contains_iff_mem, List.mem_append, Bool.or_eq_true]
  have e : ∀ (c : Bool) (k : Nat), ((r : Int) ∈ (if c = true then [(k : Int)] else [])) ↔ (if c = true then 2 ^ k else 0).testBit r = true := fun c k => by
    cases c
    · simp
    · simp only [if_true, List.mem_singleton, Nat.testBit_two_pow, decide_eq_true_eq]; omega
  exact or_congr (e _ _) (e _ _)
theorem sets_bit {P : List Fn} {x : Ins} (hx : InsOk P x) (r : Nat) : (setMask x).testBit r = (setsB x.op && decide (x.dst = (r : Int))) := by
  obtain ⟨kd, hkd⟩ := Int.eq_ofNat_of_zero_le hx.dst0
  unfold setMask
  rw [hkd, Int.toNat_natCast]
  cases setsB x.op
  · simp
  · simp only [if_true, Nat.testBit_two_pow, Bool.true_and]
    rw [Bool.eq_iff_iff, decide_eq_true_eq, decide_eq_true_eq]; omega
end Go.Proofs.YteilohamjijpbaaDoor
