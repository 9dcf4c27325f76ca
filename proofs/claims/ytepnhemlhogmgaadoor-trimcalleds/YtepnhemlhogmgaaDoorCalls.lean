/- Contract of trim.calls. -/
import Derived.Test.YtepnhemlhogmgaaDoorCalledMath
import Derived.Test.YtepnhemlhogmgaaDoorWheres
namespace Go.Proofs.YtepnhemlhogmgaaDoor
open Go Go.RowKit

set_option maxRecDepth 100000 in
set_option maxHeartbeats 2000000 in
theorem calls_any (P : List Fn) (hP : codeProg P = 0) (k : Nat) (hk : k < P.length) (v : Value) (w : World) (ht : TabOk w) (hv : ProgVal w v P) :
    Calls Tryd.prog 48 #[.agg #[v], .int .i64 k] w fun e w' => ∃ v' L, e = .returned v' ∧ CallsTo P[k] P[k].code.length L ∧ IntsVal w' v' L ∧ Below w.heap.size w w' := by
  obtain ⟨i64i, hi64, hz0, hz1', hz2⟩ := info_parts info64
  have hbx : ∀ o, Below w.heap.size w (w.alloc o) := fun o => (Below.refl _ _).alloc (Nat.le_refl _) _
  have hR := fun o => reached_any P hP k hk v (w.alloc o) (ht.below (hbx o)) (hv.keeps (keeps_below (hbx o)))
  have hfo := (fnOk_of hP (List.getElem_mem hk)).1
  have hl1 := hfo.len1
  have hl2 := hfo.len2
  obtain ⟨b, off, cap, u, rfl, d0, d1, d2, hcv, hm, hcc⟩ := prog_fn hv hk
  have hkI : (k : Int) < P.length := by omega
  clear hbx hfo ht hv
  generalize P[k] = f at hR hl1 hl2 d0 d1 hcv ⊢
  generalize P.length = N at *
  have hcu := hcv
  obtain ⟨ao1, b1, off1, n, cap1, rfl, ⟨hln, had1, hat1⟩, hcp1, hmx1⟩ := hcv
  obtain rfl := had1 (by omega)
  have HAT : Hid (∀ q (h : q < f.code.length), insAt w b1 (off1 + q * 5) f.code[q]) := hat1
  have HLN : Hid (f.code.length = n) := hln
  rw [hln] at hR hl1 hl2 ⊢
  unfold maxLen at hmx1
  clear hat1 had1 hln hcu d0 d1
  have t2 := fun o => cell_alloc d2 o
  go_enter Tryd.func48, Tryd.ntmps48
  go_wp2_with (go_at_call 28; refine (hR _).mono ?_; rintro e w1 ⟨g, s, rfl, hre, hrow, hg, hb1⟩; have k0 := keeps_below hb1 ⟨w.heap.size, 0, none⟩ (.slice (some ⟨b, off, none⟩) N cap) (by simp); have k2 := keeps_below hb1 _ _ (t2 _); have HB1 : Hid (Below w.heap.size w w1) := ((Below.refl _ _).alloc (Nat.le_refl _) _).trans (hb1.mono (by simp)); have HRE : Hid (s.length = n ∧ ∀ q, q < n → (s.getD q false = true ↔ Way f 63 q)) := (by have := hre; unfold Reach at this; rw [HLN.out] at this; exact this); have HC : Hid (∀ q, q < n → w1.cell? ⟨g, q, none⟩ = some (.bool (s.getD q false))) := (fun q hq => bool_cell hrow HRE.out.1 q hq); clear hre hrow hb1)
  have hz1 := HB1.out.size
  clear hR t2 d2
  go_loopw [5, 13] (fun v i wr => ∃ (q : Nat) (L : List Int), q ≤ n ∧ i = .int .i64 q ∧ CallsTo f q L ∧ wr.ownsRow w1.heap.size 3 1 v L.length (i64s L) ∧ Below w1.heap.size w1 wr) (fun _ i _ => n - (intOf i).toNat)
  case atStart => exact ⟨0, [], Nat.zero_le _, rfl, callsTo_zero f, World.ownsRow_nil _ _ _ _, Below.refl _ _⟩
  case round =>
    obtain ⟨q, L, hq, rfl, hL, hown, hbr⟩ := hrel
    have j0 := keeps_below hbr _ _ k0
    have j2 := keeps_below hbr _ _ k2
    have hzr : w1.heap.size ≤ wr.heap.size := hbr.size
    have HBR : Hid (Below w1.heap.size w1 wr) := hbr
    have HBW : Hid (Below w.heap.size w wr) := below_call HB1.out hz1 hbr
    by_cases hlt : q < n
    · have c1 := keeps_below hbr _ _ (HC.out q hlt)
      have hqx : q < f.code.length := by rw [HLN.out]; exact hlt
      have hx := (HAT.out q hqx).keeps (keeps_below HBW.out)
      have HX : Hid (insD f q = f.code[q]) := insD_eq hqx
      have hll := hL.len
      have HW : Hid (s.getD q false = true ↔ Way f 63 q) := HRE.out.2 q hlt
      have HNO : Hid ((∀ t, ¬ CallsAt f q t) → CallsTo f (q + 1) L) := fun h => callsTo_skip hL h
      have HYES : Hid (∀ t, CallsAt f q t → CallsTo f (q + 1) (L ++ [t])) := fun t h => callsTo_add hL h
      have HQX : Hid (q < f.code.length) := hqx
      generalize f.code[q] = x at hx HX
      obtain ⟨op, dst, xa, xb, imm⟩ := x
      obtain ⟨e0, e1, e2, e3, e4⟩ := hx
      dsimp only at e0 e1 e2 e3 e4
      obtain ⟨aov, capv, rfl⟩ := own_shape hown
      have HOW := fun o => hown.alloc o
      have hqI : (q : Int) < n := by omega
      clear hL hbr hqx
      generalize s.getD q false = sb at c1 HW
      cases sb
      · have HN : Hid (CallsTo f (q + 1) L) := HNO.out fun t ht => by have := HW.out.2 ht.2.1; cases this
        go_wp2
        go_roundw
        case rel => exact ⟨q + 1, L, by omega, by go_num, HN.out, HOW _, HBR.out.alloc (by omega) _⟩
        case measure => simp [intOf]; omega
      · by_cases h17 : op = 17
        · subst h17
          have HN : Hid (CallsTo f (q + 1) (L ++ [imm])) := HYES.out imm ⟨HQX.out, HW.out.1 rfl, by rw [HX.out], by rw [HX.out]⟩
          go_wp2_with (at_builtin; refine wpList_append_own _ rfl (.tmp 33) (.tmp 36) 25 rfl w1.heap.size 3 i64i _ 1 8 Tryd.underlying25 hi64 hz0 hz1' hz2 rfl (by decide) _ _ _ rfl ((hown.alloc _).alloc _) ⟨_, 0, none⟩ 1 1 (i64s [imm]) rfl rfl (news_list _ _ _ _ (by simp)) (i64s_one _) (by unfold maxLen; omega) (by omega) (by simp; omega) ?_; intro v2 w3 hown2 hg2 _; rw [← i64s_append] at hown2; have hb2 : Below w1.heap.size w1 w3 := ((HBR.out.alloc (by omega) _).alloc (by simp; omega) _).trans (grown_base ((hown.alloc _).alloc _) (by simp; omega) hg2))
          go_roundw
          case rel => exact ⟨q + 1, _, by omega, by go_num, HN.out, by simpa using hown2, hb2⟩
          case measure => simp [intOf]; omega
        · have HN : Hid (CallsTo f (q + 1) L) := HNO.out fun t ht => by have := ht.2.2.1; rw [HX.out] at this; exact h17 this
          have ho : (op == 17) = false := by simpa using h17
          clear h17
          go_wp2
          go_roundw
          case rel => exact ⟨q + 1, L, by omega, by go_num, HN.out, HOW _, HBR.out.alloc (by omega) _⟩
          case measure => simp [intOf]; omega
    · obtain rfl : q = n := by omega
      have HL : Hid (CallsTo f q L) := hL
      have HIV : Hid (IntsVal wr _ L) := ints_of_own hown
      obtain ⟨aov, capv, rfl⟩ := own_shape hown
      clear hL hown hbr
      go_wp2
      go_ret
      exact ⟨_, L, rfl, HL.out, HIV.out, HBW.out⟩

end Go.Proofs.YtepnhemlhogmgaaDoor
