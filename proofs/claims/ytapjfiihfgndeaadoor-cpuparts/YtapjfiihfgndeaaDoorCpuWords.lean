/- Contract of tierlinekeep.words: instructions that may be, as words. -/
import Derived.Test.YtapjfiihfgndeaaDoorCpuRun
import Derived.Test.YtapjfiihfgndeaaDoorCpuEval
namespace Go.Proofs.YtapjfiihfgndeaaDoor
open Go Go.RowKit

/-- A list of instructions lies in memory. -/
def RvsAt (w : World) (b : Nat) (xs : List Mi) : Prop := ∀ k (h : k < xs.length), w.rangeAt b (k * 5) (miC xs[k])
theorem miC_val' (x : Mi) : x.val = Value.agg (miC x).toArray := rfl
theorem enc_word {x : Mi} (h : MiOk x) : encI x = wordI x ∧ rvE x = 0 := by
  have e := h.e
  refine ⟨?_, e⟩
  unfold encI; rw [if_pos e]

set_option maxRecDepth 100000 in
set_option maxHeartbeats 4000000 in
theorem words_any (xs : List Mi) (hx : ∀ x ∈ xs, MiOk x) (hn : xs.length ≤ 20) (b cap : Nat) (w : World) (ht : RvTab w) (hv : RvsAt w b xs) (hz : b < w.heap.size) :
    Calls Tryd.prog 20 #[.slice (some ⟨b, 0, none⟩) xs.length cap] w fun e w' => ∃ v', e = .returned (.tuple #[v', .bool true]) ∧ w'.ownsRow w.heap.size 3 1 v' xs.length (i64s (xs.map wordI)) ∧ Below w.heap.size w w' := by
  obtain ⟨i64i, hi64, hz0, hz1, hz2⟩ := info_parts info64
  have HV : Hid (∀ V, Below w.heap.size w V → ∀ k (h : k < xs.length), V.rangeAt b (k * 5) (miC xs[k])) := fun V hV k h => range_below (hv k h) hV hz
  have HT : Hid (∀ V, Below w.heap.size w V → RvTab V) := fun V hV => ht.below hV
  have HX : Hid (∀ x ∈ xs, MiOk x) := hx
  obtain ⟨n, hnx⟩ : ∃ n, n = xs.length := ⟨_, rfl⟩
  have HL : Hid (xs.length = n) := hnx.symm
  rw [← hnx] at hn ⊢
  clear hv ht hz hx hnx
  go_enter Tryd.func20, Tryd.ntmps20
  go_wp2
  go_loopw [4, 5] (fun o i wr => ∃ k : Nat, k ≤ n ∧ i = .int .i64 k ∧ wr.ownsRow w.heap.size 3 1 o k (i64s ((xs.map wordI).take k)) ∧ Below w.heap.size w wr) (fun _ i _ => n - (intOf i).toNat)
  case atStart => exact ⟨0, Nat.zero_le _, rfl, World.ownsRow_nil _ _ _ _, Below.refl _ _⟩
  case round =>
    obtain ⟨k, hk, rfl, hr, hb⟩ := hrel
    have hz : w.heap.size ≤ wr.heap.size := hb.size
    have HB : Hid (Below w.heap.size w wr) := hb
    obtain ⟨ao1, cap1, rfl⟩ := own_shape hr
    by_cases hlt : k < n
    · have hkl : k < xs.length := by rw [HL.out]; exact hlt
      have HRG : Hid (wr.rangeAt b (k * 5) (miC xs[k])) := HV.out wr hb k hkl
      have hok := HX.out _ (List.getElem_mem hkl)
      have hen := rencode_any xs[k] wr (HT.out wr hb)
      rw [(enc_word hok).1, (enc_word hok).2] at hen
      have HEN : Hid (Calls Tryd.prog 22 #[.agg (miC xs[k]).toArray] wr fun e w' => e = .returned (.tuple #[.int .i64 (wordI xs[k]), .int .i64 0]) ∧ Below wr.heap.size wr w') := hen
      have HTK : Hid (i64s ((xs.map wordI).take k) ++ i64s [wordI xs[k]] = i64s ((xs.map wordI).take (k + 1))) := by
        show _ = _
        rw [← i64s_append, List.take_succ_eq_append_getElem (by simpa using hkl)]; simp
      generalize wordI xs[k] = x at HEN HTK
      generalize xs[k] = X at HRG HEN
      have hkI : (k : Int) < n := by omega
      have HR : Hid (wr.ownsRow w.heap.size 3 1 (.slice ao1 k cap1) k (i64s ((xs.map wordI).take k))) := hr
      clear hb hr hok hen hkl
      go_wp2_with (first
        | (refine wpList_load_mid rfl 41 _ rfl b (k * 5) rfl (miC X) _ HRG.out Tryd.underlying41 rfl infoRv ?_)
        | (go_at_call 22; refine HEN.out.mono ?_; rintro e w1 ⟨rfl, hb1⟩; have HB1 : Hid (Below wr.heap.size wr w1) := hb1; have HR1 : Hid (w1.ownsRow w.heap.size 3 1 (.slice ao1 k cap1) k (i64s ((xs.map wordI).take k))) := ownsRow_below HR.out hb1; have hz1w := hb1.size; clear hb1)
        | (at_builtin; refine wpList_append_own _ rfl (.tmp 24) (.tmp 26) 22 rfl w.heap.size 3 i64i _ 1 8 Tryd.underlying22 hi64 hz0 hz1 hz2 rfl (by decide) _ _ _ rfl (HR1.out.alloc _) ⟨w1.heap.size, 0, none⟩ 1 1 (i64s [x]) rfl rfl (news_list _ _ _ _ rfl) (i64s_one _) (by unfold maxLen; omega) (by omega) (by simp; omega) ?_; intro v2 w2 hown2 hg2 _))
      rw [HTK.out] at hown2
      go_roundw
      case rel => exact ⟨k + 1, by omega, by go_num, hown2, ((HB.out.trans (HB1.out.mono hz)).alloc (by omega) _).trans (grown_base (HR1.out.alloc _) (by simp; omega) hg2)⟩
      case measure => simp [intOf]; omega
    · obtain rfl : k = n := by omega
      have HTK : Hid ((xs.map wordI).take k = xs.map wordI) := by show _ = _; rw [← HL.out]; exact List.take_of_length_le (by simp)
      have HR := hr
      rw [HTK.out] at HR
      clear hr hb
      go_wp2
      go_ret2
      exact ⟨_, rfl, HR, HB.out⟩
end Go.Proofs.YtapjfiihfgndeaaDoor
