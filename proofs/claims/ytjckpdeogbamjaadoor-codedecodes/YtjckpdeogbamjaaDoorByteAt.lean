/- Contract of tierlineref.byteAt. -/
import Derived.Test.YtjckpdeogbamjaaDoorSameBytes
import Derived.WalkLawsBesides
namespace Go.Proofs.YtjckpdeogbamjaaDoor
open Go Go.RowKit

def byteAtI (l : List Int) (a : Nat) : Int := if a < l.length then l.getD a 0 else -1

theorem byteAt_any (l : List Int) (ao : Option Addr) (n cap : Nat) (a : Nat) (w : World) (hv : BytesVal w (.slice ao n cap) l) (hby : ∀ i, 0 ≤ l.getD i 0 ∧ l.getD i 0 ≤ 255) (ha : a ≤ 100000) (hn : n ≤ 100000) :
    Calls Tryd.prog 20 #[.slice ao n cap, .int .i64 a] w fun e w' => e = .returned (.int .i64 (byteAtI l a)) ∧ w' = w := by
  obtain ⟨ao', n', cap', e, hl, _, h1⟩ := hv
  simp only [Value.slice.injEq] at e
  obtain ⟨rfl, rfl, rfl⟩ := e
  by_cases h : a < n
  · have e : byteAtI l a = l.getD a 0 := by unfold byteAtI; rw [if_pos (by omega)]
    rw [e]
    obtain ⟨b, off, rfl, hc⟩ := h1 (by omega)
    have cb := hc a h
    obtain ⟨b0, b1⟩ := hby a
    generalize l.getD a 0 = x at cb b0 b1
    have hlt : (a : Int) < (n : Int) := by omega
    clear e hc h1 hby hl
    go_enter Tryd.func20, Tryd.ntmps20
    go_wp2
    go_ret
    exact ⟨rfl, rfl⟩
  · have e : byteAtI l a = -1 := by unfold byteAtI; rw [if_neg (by omega)]
    rw [e]
    clear e h1 hby hl
    go_enter Tryd.func20, Tryd.ntmps20
    go_wp2
    go_ret
    exact ⟨rfl, rfl⟩

def byteAtZ (l : List Int) (z : Int) : Int := byteAtI l z.toNat
theorem byteAt_z (l : List Int) (ao : Option Addr) (n cap : Nat) (z : Int) (w : World) (hv : BytesVal w (.slice ao n cap) l) (hby : ∀ i, 0 ≤ l.getD i 0 ∧ l.getD i 0 ≤ 255) (hz : 0 ≤ z) (ha : z ≤ 100000) (hn : n ≤ 100000) :
    Calls Tryd.prog 20 #[.slice ao n cap, .int .i64 z] w fun e w' => e = .returned (.int .i64 (byteAtZ l z)) ∧ w' = w := by
  have h := byteAt_any l ao n cap z.toNat w hv hby (by omega) hn
  rw [Int.toNat_of_nonneg hz] at h
  exact h

end Go.Proofs.YtjckpdeogbamjaaDoor
