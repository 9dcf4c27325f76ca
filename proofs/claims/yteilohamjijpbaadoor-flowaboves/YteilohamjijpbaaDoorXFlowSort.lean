/- Contracts of slices.Sort and slices.Compact at lists of at most two numbers. -/
import Derived.Test.YteilohamjijpbaaDoorXBlockRow
import Derived.WalkSmall
import Derived.Lib.SliceRun
namespace Go.Proofs.YteilohamjijpbaaDoor
open Go Go.RowKit

theorem nan_any (a : Int) (w : World) : Calls Tryd.prog 140 #[.int .i64 a] w fun e w' => e = .returned (.bool false) ∧ w' = w := by
  go_enter Tryd.func140, Tryd.ntmps140
  go_wp2
  go_ret
  exact ⟨by simp, rfl⟩
theorem less_any (a b : Int) (w : World) : Calls Tryd.prog 123 #[.int .i64 a, .int .i64 b] w fun e w' => e = .returned (.bool (decide (a < b))) ∧ w' = w := by
  go_enter Tryd.func123, Tryd.ntmps123
  go_wp2_with (go_at_call 140; refine (nan_any _ _).mono ?_; rintro e w' ⟨rfl, hw'⟩; replace hw' := hw'.symm; subst hw')
  go_ret
  exact ⟨rfl, rfl⟩
set_option maxRecDepth 100000 in
theorem len64_two (n : Nat) (h : n ≤ 2) (w : World) : Calls Tryd.prog 127 #[.int .u64 n] w fun e w' => ∃ z, e = .returned (.int .i64 z) ∧ w' = w := by
  rcases (show n = 0 ∨ n = 1 ∨ n = 2 by omega) with rfl | rfl | rfl
  all_goals
    go_enter Tryd.func127, Tryd.ntmps127
    go_wp2
    go_ret
    exact ⟨_, rfl, rfl⟩
theorem len_two (n : Nat) (h : n ≤ 2) (w : World) : Calls Tryd.prog 105 #[.int .u64 n] w fun e w' => ∃ z, e = .returned (.int .i64 z) ∧ w' = w := by
  go_enter Tryd.func105, Tryd.ntmps105
  go_wp2_with (go_at_call 127; refine (len64_two n h _).mono ?_; rintro e w' ⟨z, rfl, hw'⟩; replace hw' := hw'.symm; subst hw')
  go_ret
  exact ⟨z, rfl, rfl⟩
def sort2 : List Int → List Int
  | [a, b] => if b < a then [b, a] else [a, b]
  | l => l
def comp2 : List Int → List Int
  | [a, b] => if a = b then [a] else [a, b]
  | l => l
theorem own_two {w : World} {base g cap : Nat} {a b : Int} (h : OwnI w base (.slice (some ⟨g, 0, none⟩) 2 cap) [a, b]) : w.cell? ⟨g, 0, none⟩ = some (.int .i64 a) ∧ w.cell? ⟨g, 1, none⟩ = some (.int .i64 b) := by
  exact ⟨h.cellAt 0 (by simp), h.cellAt 1 (by simp)⟩
theorem own_set {w : World} {base g cap n : Nat} {l : List Int} (h : w.ownsRow base 3 1 (.slice (some ⟨g, 0, none⟩) n cap) n (i64s l)) (i : Nat) (z : Int) : (w.setCell ⟨g, i, none⟩ (.int .i64 z)).ownsRow base 3 1 (.slice (some ⟨g, 0, none⟩) n cap) n (i64s (l.set i z)) ∧ w.grownBy (w.setCell ⟨g, i, none⟩ (.int .i64 z)) (some g) := by
  have := h.stored i (.int .i64 z)
  have e : (i64s l).set i (.int .i64 z) = i64s (l.set i z) := by simp [i64s, List.map_set]
  rw [e] at this
  exact this
set_option maxRecDepth 100000 in
theorem insSort_less (v : Value) (n : Nat) (h : n ≤ 1) (w : World) : Calls Tryd.prog 117 #[v, .int .i64 0, .int .i64 n] w fun e w' => e = .returned (.tuple #[]) ∧ w' = w := by
  have hn : ¬ (1 : Int) < n := by omega
  have hn2 : decide ((1 : Int) < n) = false := by simpa using hn
  go_enter Tryd.func117, Tryd.ntmps117
  go_wp2
  go_loopw [6] (fun i wr => i = .int .i64 1 ∧ wr = w) (fun _ _ => 0)
  case atStart => exact ⟨rfl, rfl⟩
  case round =>
    obtain ⟨rfl, rfl⟩ := hrel
    go_wp2
    go_end0
    exact ⟨rfl, rfl⟩
def swp (a b : Int) : List Int := if b < a then [b, a] else [a, b]
theorem swp_lt {a b : Int} (h : b < a) : swp a b = [b, a] := if_pos h
theorem swp_ge {a b : Int} (h : ¬ b < a) : swp a b = [a, b] := if_neg h
set_option maxRecDepth 100000 in
set_option maxHeartbeats 1000000 in
theorem insSort_two (g cap base : Nat) (a b : Int) (w : World) (h : OwnI w base (.slice (some ⟨g, 0, none⟩) 2 cap) [a, b]) (_hcap : 2 ≤ cap) (_hmx : cap ≤ 9223372036854775807) :
    Calls Tryd.prog 117 #[.slice (some ⟨g, 0, none⟩) 2 cap, .int .i64 0, .int .i64 2] w fun e w' => e = .returned (.tuple #[]) ∧ w'.ownsRow base 3 1 (.slice (some ⟨g, 0, none⟩) 2 cap) 2 (i64s (swp a b)) ∧ w.grownBy w' (some g) := by
  have HO : Hid (OwnI w base (.slice (some ⟨g, 0, none⟩) 2 cap) [a, b]) := h
  have hL := fun W => less_any b a W
  clear h
  go_enter Tryd.func117, Tryd.ntmps117
  go_wp2
  go_loopw [6] (fun i wr => (i = .int .i64 1 ∧ wr = w) ∨ (i = .int .i64 2 ∧ wr.ownsRow base 3 1 (.slice (some ⟨g, 0, none⟩) 2 cap) 2 (i64s (swp a b)) ∧ w.grownBy wr (some g))) (fun i _ => 2 - (intOf i).toNat)
  case atStart => exact Or.inl ⟨rfl, rfl⟩
  case round =>
    rcases hrel with ⟨rfl, hwr⟩ | ⟨rfl, hown, hgr⟩
    · subst hwr
      go_wp2
      go_loopw [7] (fun i wi => (i = .int .i64 1 ∧ wi = wr) ∨ (b < a ∧ i = .int .i64 0 ∧ wi.ownsRow base 3 1 (.slice (some ⟨g, 0, none⟩) 2 cap) 2 (i64s [b, a]) ∧ wr.grownBy wi (some g))) (fun i _ => (intOf i).toNat)
      case atStart => exact Or.inl ⟨rfl, rfl⟩
      case round =>
        rcases hrel with ⟨rfl, hwi⟩ | ⟨hba, rfl, hown, hgr⟩
        · subst hwi
          rename World => wi
          obtain ⟨c0, c1⟩ := own_two HO.out
          have f0 := HO.out.frozenAt 0
          have f1 := HO.out.frozenAt 1
          by_cases hba : b < a
          · have hd : decide (b < a) = true := by simpa using hba
            rw [hd] at hL
            have HST : Hid (∀ W, OwnI W base (.slice (some ⟨g, 0, none⟩) 2 cap) [a, b] → ((W.setCell ⟨g, 1, none⟩ (.int .i64 a)).setCell ⟨g, 0, none⟩ (.int .i64 b)).ownsRow base 3 1 (.slice (some ⟨g, 0, none⟩) 2 cap) 2 (i64s [b, a]) ∧ W.grownBy ((W.setCell ⟨g, 1, none⟩ (.int .i64 a)).setCell ⟨g, 0, none⟩ (.int .i64 b)) (some g)) := fun W hW => by
              have h1 := own_set hW 1 a
              have h2 := own_set h1.1 0 b
              exact ⟨h2.1, gb_trans h1.2 h2.2⟩
            have HBA : Hid (b < a) := hba
            have HX : Hid (∀ m, _) := fun m => HST.out (wi.drewN m) HO.out
            clear hd hba
            go_wp2
            go_quiet ((go_at_call 123; exact Calls.quiet_of_same (hL _)))
            go_wp2
            go_region
            go_wp2
            go_roundw
            case rel => exact Or.inr ⟨HBA.out, rfl, (HX.out _).1, gb_trans (gb_below _ (below_drewN (Below.refl _ _) _)) (HX.out _).2⟩
            case measure => simp [intOf]
          · have hd : decide (b < a) = false := by simpa using hba
            rw [hd] at hL
            have HBA : Hid (¬ b < a) := hba
            clear hd hba
            go_wp2
            go_quiet ((go_at_call 123; exact Calls.quiet_of_same (hL _)))
            go_wp2
            go_roundw
            case rel => exact Or.inr ⟨rfl, by rw [swp_ge (by have := HBA.out; omega)]; exact HO.out, gb_below _ (below_drewN (Below.refl _ _) _)⟩
            case measure => simp [intOf]
        · have HOW : Hid (wr.ownsRow base 3 1 (.slice (some ⟨g, 0, none⟩) 2 cap) 2 (i64s [b, a])) := hown
          have HGR : Hid _ := hgr
          have HBA : Hid (b < a) := hba
          clear hown hgr hba
          go_wp2
          go_quiet (fail)
          go_wp2
          go_roundw
          case rel => exact Or.inr ⟨rfl, by rw [swp_lt (by have := HBA.out; omega)]; exact HOW.out, gb_trans HGR.out (gb_below _ (below_drewN (Below.refl _ _) _))⟩
          case measure => simp [intOf]
    · have HOW : Hid _ := hown
      have HGR : Hid _ := hgr
      clear hown hgr
      go_wp2
      go_end0
      exact ⟨rfl, HOW.out, HGR.out⟩
set_option maxRecDepth 100000 in
theorem pdq_two (v : Value) (n : Nat) (z : Int) (h : n ≤ 2) (w : World) {Q : Ending → World → Prop} (hQ : Calls Tryd.prog 117 #[v, .int .i64 0, .int .i64 n] w fun e w' => e = .returned (.tuple #[]) ∧ Q (.returned (.tuple #[])) w') :
    Calls Tryd.prog 104 #[v, .int .i64 0, .int .i64 n, .int .i64 z] w Q := by
  have HQ : Hid (Calls Tryd.prog 117 #[v, .int .i64 0, .int .i64 n] w fun e w' => e = .returned (.tuple #[]) ∧ Q (.returned (.tuple #[])) w') := hQ
  have hn : (n : Int) ≤ 12 := by omega
  have hw : IntKind.i64.wrap ((n : Int) - 0) = n := by rw [Int.sub_zero]; exact wrap_signed _ (by omega) (by omega)
  clear hQ
  go_enter Tryd.func104, Tryd.ntmps104
  go_wp2
  go_loopw [1, 2] (fun x y wr => x = .int .i64 0 ∧ y = .int .i64 n ∧ wr = w) (fun _ _ _ => 0)
  case atStart => exact ⟨rfl, rfl, rfl⟩
  case round =>
    obtain ⟨rfl, rfl, rfl⟩ := hrel
    go_wp2_with (go_at_call 117; refine HQ.out.mono ?_; rintro e w1 ⟨rfl, hq⟩)
    ((try simp only [Exit.inBlock, Exit.then]); refine bodyPost_ret (results_none rfl _ _ _) rfl ?_)
    exact hq

set_option maxRecDepth 100000 in
theorem sort_two (v : Value) (ao : Option Addr) (n cap : Nat) (hv : v = .slice ao n cap) (h : n ≤ 2) (w : World) {Q : Ending → World → Prop} (hQ : Calls Tryd.prog 117 #[v, .int .i64 0, .int .i64 n] w fun e w' => e = .returned (.tuple #[]) ∧ Q (.returned (.tuple #[])) w') :
    Calls Tryd.prog 88 #[v] w Q := by
  have HQ : Hid (∀ z, Calls Tryd.prog 104 #[v, .int .i64 0, .int .i64 n, .int .i64 z] w fun e w' => e = .returned (.tuple #[]) ∧ Q (.returned (.tuple #[])) w') := fun z => pdq_two v n z h w (hQ.mono fun e w' hh => ⟨hh.1, rfl, hh.2⟩)
  have hLn := fun W => len_two n h W
  subst hv
  have hnI : (n : Int) ≤ 2 := by omega
  have hu : IntKind.u64.wrap (n : Int) = n := by
    simp [IntKind.wrap, IntKind.bits, IntKind.signed]
    omega
  clear hQ
  go_enter Tryd.func88, Tryd.ntmps88
  go_wp2_with (first
    | (go_at_call 105; refine (hLn _).mono ?_; rintro e w' ⟨z, rfl, hw'⟩; replace hw' := hw'.symm; subst hw')
    | (go_at_call 104; refine (HQ.out _).mono ?_; rintro e w1 ⟨rfl, hq⟩))
  go_end0
  exact hq
/-- slices.Sort, of a list of at most two numbers that the call has built. -/
theorem sort_own (l : List Int) (hl : l.length ≤ 2) (v : Value) (base : Nat) (w : World) (h : OwnI w base v l) :
    Calls Tryd.prog 88 #[v] w fun e w' => e = .returned (.tuple #[]) ∧ OwnI w' base v (sort2 l) ∧ w.grownBy w' v.ownBlock := by
  have h0 := h
  rcases h.2 with ⟨rfl, hn⟩ | ⟨g, cap, cur, rfl, hbg, hh, hn, hm, hs, ht⟩
  · obtain rfl : l = [] := List.length_eq_zero_iff.1 hn
    exact sort_two _ none 0 0 rfl (by omega) w ((insSort_less _ 0 (by omega) w).mono fun e w' hh => ⟨hh.1, rfl, by rw [hh.2]; exact h0, by rw [hh.2]; exact gb_refl _ _⟩)
  · refine sort_two _ (some ⟨g, 0, none⟩) l.length cap rfl hl w ?_
    match l, hl with
    | [], _ => exact (insSort_less _ 0 (by omega) w).mono fun e w' hh => ⟨hh.1, rfl, by rw [hh.2]; exact h0, by rw [hh.2]; exact gb_refl _ _⟩
    | [a], _ => exact (insSort_less _ 1 (by omega) w).mono fun e w' hh => ⟨hh.1, rfl, by rw [hh.2]; exact h0, by rw [hh.2]; exact gb_refl _ _⟩
    | [a, b], _ =>
      refine (insSort_two g cap base a b w h0 hn (by simpa [maxLen] using hm)).mono fun e w' hh => ⟨hh.1, rfl, ?_, hh.2.2⟩
      have e1 : sort2 [a, b] = swp a b := rfl
      have e2 : (swp a b).length = 2 := by unfold swp; split <;> rfl
      show World.ownsRow _ _ _ _ _ (sort2 [a, b]).length (i64s (sort2 [a, b]))
      rw [e1, e2]
      exact hh.2.1

set_option maxRecDepth 100000 in
theorem compact_less (ao : Option Addr) (n cap : Nat) (h : n ≤ 1) (w : World) : Calls Tryd.prog 89 #[.slice ao n cap] w fun e w' => e = .returned (.slice ao n cap) ∧ w' = w := by
  have hn : (n : Int) < 2 := by omega
  go_enter Tryd.func89, Tryd.ntmps89
  go_wp2
  go_ret
  exact ⟨rfl, rfl⟩

set_option maxRecDepth 100000 in
set_option maxHeartbeats 1000000 in
theorem compact_diff (g cap base : Nat) (a b : Int) (hab : a ≠ b) (w : World) (h : OwnI w base (.slice (some ⟨g, 0, none⟩) 2 cap) [a, b]) (_hcap : 2 ≤ cap) (_hmx : cap ≤ 9223372036854775807) :
    Calls Tryd.prog 89 #[.slice (some ⟨g, 0, none⟩) 2 cap] w fun e w' => e = .returned (.slice (some ⟨g, 0, none⟩) 2 cap) ∧ Below w.heap.size w w' := by
  have HO : Hid (OwnI w base (.slice (some ⟨g, 0, none⟩) 2 cap) [a, b]) := h
  have hne : (b == a) = false := by simpa using fun e => hab (Eq.symm e)
  clear h
  go_enter Tryd.func89, Tryd.ntmps89
  go_wp2
  go_loopw [3] (fun i wr => (i = .int .i64 1 ∧ wr = w) ∨ (i = .int .i64 2 ∧ Below w.heap.size w wr)) (fun i _ => 2 - (intOf i).toNat)
  case atStart => exact Or.inl ⟨rfl, rfl⟩
  case round =>
    rcases hrel with ⟨rfl, hwr⟩ | ⟨rfl, hbr⟩
    · subst hwr
      obtain ⟨c0, c1⟩ := own_two HO.out
      go_wp2
      go_quiet (fail)
      go_wp2
      go_roundw
      case rel => exact Or.inr ⟨rfl, below_drewN (Below.refl _ _) _⟩
      case measure => simp [intOf]
    · have HB : Hid (Below w.heap.size w wr) := hbr
      clear hbr
      go_wp2
      go_ret
      exact ⟨rfl, HB.out⟩
theorem clear_one (w : World) (g : Nat) (a : Int) (ty : TypeId) (c : Nat) (hc : w.cell? ⟨g, 1, none⟩ = some (.int .i64 a)) (hf : w.frozen? ⟨g, 1, none⟩ = false) :
    (Builtin.clear_ #[37] ty #[.slice (some ⟨g, 1, none⟩) 1 c]).run Tryd.prog w = .ok (.tuple #[]) (w.setCell ⟨g, 1, none⟩ (.int .i64 0)) := by
  refine Lib.run_clear_slice w 37 3 ty (.int .i64 0) Tryd.underlying37 zero_int rfl rfl g 1 1 c (by omega) (fun j hj => ?_) (fun j hj => ?_)
  · obtain rfl : j = 0 := by omega
    rw [Nat.add_zero, hc]
    rfl
  · obtain rfl : j = 0 := by omega
    exact hf
set_option maxRecDepth 100000 in
set_option maxHeartbeats 1000000 in
theorem compact_same (g cap base : Nat) (a : Int) (w : World) (h : OwnI w base (.slice (some ⟨g, 0, none⟩) 2 cap) [a, a]) (hcap : 2 ≤ cap) (hmx : cap ≤ 9223372036854775807) :
    Calls Tryd.prog 89 #[.slice (some ⟨g, 0, none⟩) 2 cap] w fun e w' => e = .returned (.slice (some ⟨g, 0, none⟩) 1 cap) ∧ w'.ownsRow base 3 1 (.slice (some ⟨g, 0, none⟩) 2 cap) 2 (i64s [a, 0]) ∧ w.grownBy w' (some g) := by
  have HO : Hid (OwnI w base (.slice (some ⟨g, 0, none⟩) 2 cap) [a, a]) := h
  clear h
  go_enter Tryd.func89, Tryd.ntmps89
  go_wp2
  go_loopw [3] (fun i wr => i = .int .i64 1 ∧ wr = w) (fun i _ => 0)
  case atStart => exact ⟨rfl, rfl⟩
  case round =>
    obtain ⟨rfl, hwr⟩ := hrel
    subst hwr
    obtain ⟨c0, c1⟩ := own_two HO.out
    go_wp2
    go_quiet (fail)
    go_wp2
    go_loopw [3, 5] (fun i j wi => i = .int .i64 1 ∧ j = .int .i64 1 ∧ wi.ownsRow base 3 1 (.slice (some ⟨g, 0, none⟩) 2 cap) 2 (i64s [a, a]) ∧ wr.grownBy wi (some g)) (fun _ _ _ => 0)
    case atStart => exact ⟨rfl, rfl, HO.out, gb_below _ (below_drewN (Below.refl _ _) _)⟩
    case round =>
      obtain ⟨rfl, rfl, hown, hgr⟩ := hrel
      rename World => wi
      obtain ⟨d0, d1⟩ := own_two hown
      have f1 := hown.frozenAt 1
      have HST := own_set hown 1 0
      have HS1 : Hid ((wi.setCell ⟨g, 1, none⟩ (.int .i64 0)).ownsRow base 3 1 (.slice (some ⟨g, 0, none⟩) 2 cap) 2 (i64s [a, 0])) := HST.1
      have HS2 : Hid (wr.grownBy (wi.setCell ⟨g, 1, none⟩ (.int .i64 0)) (some g)) := gb_trans hgr HST.2
      have hcl := fun ty c => clear_one wi g a ty c d1 f1
      clear hown hgr HST
      go_wp2
      go_ret
      exact ⟨rfl, HS1.out, HS2.out⟩

/-- slices.Compact, of a list of at most two numbers that the call has built. -/
theorem compact_own (l : List Int) (hl : l.length ≤ 2) (v : Value) (base : Nat) (w : World) (h : OwnI w base v l) :
    Calls Tryd.prog 89 #[v] w fun e w' => ∃ v', e = .returned v' ∧ OwnI w' base v' (comp2 l) ∧ v'.ownBlock = v.ownBlock ∧ w.grownBy w' v.ownBlock := by
  have h0 := h
  rcases h.2 with ⟨rfl, hn⟩ | ⟨g, cap, cur, rfl, hbg, hh, hn, hm, hs, ht⟩
  · obtain rfl : l = [] := List.length_eq_zero_iff.1 hn
    exact (compact_less none 0 0 (by omega) w).mono fun e w' hh => ⟨_, hh.1, by rw [hh.2]; exact h0, rfl, by rw [hh.2]; exact gb_refl _ _⟩
  · have hm' : cap ≤ 9223372036854775807 := by simpa [maxLen] using hm
    match l, hl with
    | [], _ => exact (compact_less _ 0 cap (by omega) w).mono fun e w' hh => ⟨_, hh.1, by rw [hh.2]; exact h0, rfl, by rw [hh.2]; exact gb_refl _ _⟩
    | [a], _ => exact (compact_less _ 1 cap (by omega) w).mono fun e w' hh => ⟨_, hh.1, by rw [hh.2]; exact h0, rfl, by rw [hh.2]; exact gb_refl _ _⟩
    | [a, b], _ =>
      by_cases hab : a = b
      · subst hab
        refine (compact_same g cap base a w h0 hn hm').mono fun e w' hh => ⟨_, hh.1, ?_, rfl, hh.2.2⟩
        have e1 : comp2 [a, a] = [a] := if_pos rfl
        rw [e1]
        obtain ⟨x1, x2⟩ := hh.2.1
        rcases x2 with ⟨y1, _⟩ | ⟨g', cap', cur', y1, y2, y3, y4, y5, y6, y7⟩
        · cases y1
        · simp at y1
          obtain ⟨rfl, rfl⟩ := y1
          refine ⟨rfl, Or.inr ⟨g, cap, cur', rfl, y2, y3, by simp; omega, y5, y6, ?_⟩⟩
          have y8 : (cur'.toList.take (2 * 1)).take 1 = (i64s [a, 0]).take 1 := by rw [y7]
          rw [List.take_take] at y8
          exact y8
      · refine (compact_diff g cap base a b hab w h0 hn hm').mono fun e w' hh => ⟨_, hh.1, ?_, rfl, gb_below _ hh.2⟩
        have e1 : comp2 [a, b] = [a, b] := if_neg hab
        rw [e1]
        exact ownsRow_below h0 hh.2
end Go.Proofs.YteilohamjijpbaaDoor
