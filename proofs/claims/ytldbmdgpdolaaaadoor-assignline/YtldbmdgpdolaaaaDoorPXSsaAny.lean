import Derived.Test.YtldbmdgpdolaaaaDoorPXSsaFrom
namespace Go.Proofs.YtldbmdgpdolaaaaDoor
open Go Go.RowKit

theorem fromS_any {P : List Fn} {f : Fn} {S : List Nat} {T : Nat → Nat} {L : List Int} {pv cv bv lv : Value} {b : Nat} {l : List Int} (hf : FromR f S T L b l) : ∀ (w : World), SsaFn w P f S T L pv cv bv lv → TabOk w → b < S.length →
    Calls Tryd.prog 45 #[.agg (fnV f pv cv bv lv), .int .i64 b] w fun e w' => e = .returned (.agg (i64s l).toArray) ∧ Below w.heap.size w w' := by
  induction hf with
  | joins h => exact fun w hs _ hb => fromS_joins w hs _ hb h
  | first h => exact fun w hs _ hb => fromS_one w hs _ hb (-1) h _ (parR_len _) (fun W _ => behindS_start f pv cv bv lv W)
  | @one b j l h hf ih =>
    intro w hs ht hb
    have hj : j < S.length := by
      have hm : ((j : Nat) : Int) ∈ prevs f S T b := by rw [h]; simp
      rcases (prevs_mem _).1 hm with ⟨-, e⟩ | ⟨j', hj', e, -⟩
      · omega
      · have : j = j' := by omega
        rw [this]; exact hj'
    exact fromS_one w hs b hb _ h _ (by rw [onR_len]; exact hf.len) (fun W hW => behindS_one W (hs.below hW) (ht.below hW) j hj l hf.len (fun W' hW' => ih W' ((hs.below hW).below hW') ((ht.below hW).below hW') hj))
theorem fromS_all {P : List Fn} {f : Fn} {S : List Nat} {T : Nat → Nat} {L : List Int} {pv cv bv lv : Value} (w : World) (h : SsaFn w P f S T L pv cv bv lv) (ht : TabOk w) (b : Nat) (hb : b < S.length) :
    Calls Tryd.prog 45 #[.agg (fnV f pv cv bv lv), .int .i64 b] w fun e w' => e = .returned (.agg (i64s (fromR f S T L b)).toArray) ∧ Below w.heap.size w w' := fromS_any (fromR_is h.flow h.ok L hb) w h ht hb
theorem behindS_all {P : List Fn} {f : Fn} {S : List Nat} {T : Nat → Nat} {L : List Int} {pv cv bv lv : Value} (w : World) (h : SsaFn w P f S T L pv cv bv lv) (ht : TabOk w) (b : Nat) (z : Int) (hz : z ∈ prevs f S T b) :
    Calls Tryd.prog 76 #[.agg (fnV f pv cv bv lv), .int .i64 z] w fun e w' => e = .returned (.agg (i64s (behR f S T L z)).toArray) ∧ Below w.heap.size w w' := by
  rcases (prevs_mem z).1 hz with ⟨-, rfl⟩ | ⟨j, hj, rfl, -⟩
  · unfold behR; rw [if_pos rfl]; exact behindS_start f pv cv bv lv w
  · unfold behR
    rw [if_neg (by omega), Int.toNat_natCast]
    exact behindS_one w h ht j hj _ (fromR_is h.flow h.ok L hj).len (fun W hW => fromS_all W (h.below hW) (ht.below hW) j hj)
end Go.Proofs.YtldbmdgpdolaaaaDoor
