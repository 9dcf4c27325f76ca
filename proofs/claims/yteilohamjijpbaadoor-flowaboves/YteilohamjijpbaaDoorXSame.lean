/- Contract of sameProgram: of two programs that lie in memory with the same data it says true, and nothing that was there has turned. -/
import Derived.Test.YteilohamjijpbaaDoorGroupA
namespace Go.Proofs.YteilohamjijpbaaDoor
open Go Go.RowKit

set_option maxRecDepth 100000 in
set_option maxHeartbeats 1000000 in
theorem same_true (p : List Fn) (v1 v2 : Value) (w : World) (hv1 : ProgVal w v1 p) (hv2 : ProgVal w v2 p) :
    Calls Tryd.prog 15 #[.agg #[v1], .agg #[v2]] w fun e w' => e = .returned (.bool true) ∧ Below w.heap.size w w' := by
  obtain ⟨ao, b, off, n, cap, rfl, ⟨hlen, haddr, hat⟩, hcap, hmax⟩ := hv1
  obtain ⟨ao', b', off', n', cap', rfl, ⟨hlen', haddr', hat'⟩, hcap', hmax'⟩ := hv2
  obtain rfl : n' = n := hlen'.symm.trans hlen
  have HL : Hid (p.length = n') := hlen
  clear hlen hlen'
  go_enter Tryd.func15, Tryd.ntmps15
  go_wp2
  have h47 : (n' : Int) ≤ 9223372036854775807 := by unfold maxLen at hmax; omega
  go_loopw [5] (fun i wr => ∃ k : Nat, k ≤ n' ∧ i = .int .i64 k ∧ Below (w.heap.size + 2) ((w.alloc (.cells #[.slice ao n' cap] 24)).alloc (.cells #[.slice ao' n' cap'] 24)) wr) (fun i _ => n' - (intOf i).toNat)
  case atStart => exact ⟨0, Nat.zero_le _, rfl, Below.refl _ _⟩
  case round =>
    obtain ⟨k, hk, rfl, hb⟩ := hrel
    have hbw : Below w.heap.size w wr := (((Below.refl _ _).alloc (Nat.le_refl _) _).alloc (by simp) _).trans (hb.mono (by omega))
    have c0 : wr.cell? ⟨w.heap.size, 0, none⟩ = some (.slice ao n' cap) := (hb.cell (p := ⟨w.heap.size, 0, none⟩) (by simp)).trans (by simp)
    have c1 : wr.cell? ⟨w.heap.size + 1, 0, none⟩ = some (.slice ao' n' cap') := (hb.cell (p := ⟨w.heap.size + 1, 0, none⟩) (by simp)).trans (by simp)
    have hz : w.heap.size + 1 < wr.heap.size := by have := hb.size; simp at this; omega
    by_cases hlt : k < n'
    · have hkx : k < p.length := by rw [HL.out]; exact hlt
      obtain rfl := haddr (by omega)
      obtain rfl := haddr' (by omega)
      obtain ⟨u, hfn⟩ := hat k hkx
      obtain ⟨u', hfn'⟩ := hat' k hkx
      obtain ⟨d0, d1, d2, hu⟩ := hfn.keeps (keeps_below hbw)
      obtain ⟨d0', d1', d2', hu'⟩ := hfn'.keeps (keeps_below hbw)
      generalize hx : p[k] = x at d0 d1 d2 hu d0' d1' d2' hu'
      obtain ⟨params, regs, xs⟩ := x
      obtain ⟨ao1, b1, off1, n1, cap1, rfl, ⟨hlen1, haddr1, hat1⟩, hcap1, hmax1⟩ := hu
      obtain ⟨ao2, b2, off2, n2, cap2, rfl, ⟨hlen2, haddr2, hat2⟩, hcap2, hmax2⟩ := hu'
      obtain rfl : n2 = n1 := hlen2.symm.trans hlen1
      dsimp only at d0 d1 d2 d0' d1' d2'
      have HL1 : Hid (xs.length = n2) := hlen1
      have HB : Hid (Below (w.heap.size + 2) ((w.alloc (.cells #[.slice (some ⟨b, off, none⟩) n' cap] 24)).alloc (.cells #[.slice (some ⟨b', off', none⟩) n' cap'] 24)) wr) := hb
      have h47' : (n2 : Int) ≤ 9223372036854775807 := by unfold maxLen at hmax1; omega
      clear hat hat' haddr haddr' hx hb hfn hfn' hlen1 hlen2
      have HA1 : Hid (0 < n2 → ao1 = some ⟨b1, off1, none⟩) := haddr1
      have HA2 : Hid (0 < n2 → ao2 = some ⟨b2, off2, none⟩) := haddr2
      have HC1 : Hid (∀ k (h : k < xs.length), insAt wr b1 (off1 + k * 5) xs[k]) := hat1
      have HC2 : Hid (∀ k (h : k < xs.length), insAt wr b2 (off2 + k * 5) xs[k]) := hat2
      clear haddr1 haddr2 hat1 hat2
      have s0 := cell_alloc d0'
      have s1 := cell_alloc d1'
      have s2 := cell_alloc d2'
      have s3 := cell_alloc c1
      go_wp2
      rename World => wo
      go_loopw [8] (fun i wi => ∃ j : Nat, j ≤ n2 ∧ i = .int .i64 j ∧ Below (wo.heap.size + 2) ((wo.alloc (.cells #[.int .i64 params, .int .i64 regs, .slice ao1 n2 cap1] 59)).alloc (.cells #[.int .i64 params, .int .i64 regs, .slice ao2 n2 cap2] 59)) wi) (fun i _ => n2 - (intOf i).toNat)
      case atStart => exact ⟨0, Nat.zero_le _, rfl, Below.refl _ _⟩
      case round =>
        obtain ⟨j, hj, rfl, hbi⟩ := hrel
        have hbo : Below wo.heap.size wo wr := (((Below.refl _ _).alloc (Nat.le_refl _) _).alloc (by simp) _).trans (hbi.mono (by omega))
        have i1 : wr.cell? ⟨wo.heap.size, 2, none⟩ = some (.slice ao1 n2 cap1) := (hbi.cell (p := ⟨wo.heap.size, 2, none⟩) (by simp)).trans (by simp)
        have i2 : wr.cell? ⟨wo.heap.size + 1, 2, none⟩ = some (.slice ao2 n2 cap2) := (hbi.cell (p := ⟨wo.heap.size + 1, 2, none⟩) (by simp)).trans (by simp)
        have hzi : wo.heap.size + 1 < wr.heap.size := by have := hbi.size; simp at this; omega
        by_cases hlj : j < n2
        · have hjx : j < xs.length := by rw [HL1.out]; exact hlj
          obtain ⟨g0, g1, g2, g3, g4⟩ := (HC1.out j hjx).keeps (keeps_below hbo)
          obtain ⟨f0, f1, f2, f3, f4⟩ := (HC2.out j hjx).keeps (keeps_below hbo)
          generalize hxx : xs[j] = x at g0 g1 g2 g3 g4 f0 f1 f2 f3 f4
          obtain rfl := HA1.out (by omega)
          obtain rfl := HA2.out (by omega)
          have HBI : Hid (Below (wo.heap.size + 2) ((wo.alloc (.cells #[.int .i64 params, .int .i64 regs, .slice (some ⟨b1, off1, none⟩) n2 cap1] 59)).alloc (.cells #[.int .i64 params, .int .i64 regs, .slice (some ⟨b2, off2, none⟩) n2 cap2] 59)) wr) := hbi
          clear s0 s1 s2 s3 HC1 HC2 HA1 HA2 hxx hbi hbo d0 d1 d2 d0' d1' d2' c0 c1 hbw
          go_wp2
          go_quiet (fail)
          go_wp2
          go_roundw
          case rel => exact ⟨j + 1, by omega, by go_num, below_drewN HBI.out _⟩
          case measure => simp [intOf]; omega
        · have HBI : Hid (Below (w.heap.size + 2) ((w.alloc (.cells #[.slice (some ⟨b, off, none⟩) n' cap] 24)).alloc (.cells #[.slice (some ⟨b', off', none⟩) n' cap'] 24)) wr) :=
            (HB.out.alloc (by omega) _).trans (((Below.refl _ _).alloc (by simp; omega) _).trans (hbi.mono (by omega)))
          clear s0 s1 s2 s3 HC1 HC2 HA1 HA2 hbi hbo d0 d1 d2 d0' d1' d2' c0 c1 hbw
          go_wp2
          go_roundw
          case rel => exact ⟨k + 1, by omega, by go_num, HBI.out⟩
          case measure => simp [intOf]; omega
    · clear hat hat' haddr haddr' hb
      go_wp2
      go_ret
      exact ⟨rfl, hbw⟩

end Go.Proofs.YteilohamjijpbaaDoor
