/- Contract of code.Decode. -/
import Derived.Test.YtjckpdeogbamjaaDoorReadProg
import Derived.Test.YtjckpdeogbamjaaDoorCheck
import Derived.Defers
import Derived.Recover
import Derived.RegionTactic
namespace Go.Proofs.YtjckpdeogbamjaaDoor
open Go Go.RowKit

/-- The deferred closure, where the call panics: the panic is taken back, and the two results are set. -/
theorem catch_panicking (p q : Nat) (hpq : ¬ p = q) (x y : Value) (w : World) (hp : w.cell? ⟨p, 0, none⟩ = some x) (hpf : w.frozen? ⟨p, 0, none⟩ = false) (hq : w.cell? ⟨q, 0, none⟩ = some y) (hqf : w.frozen? ⟨q, 0, none⟩ = false) :
    CallsD Tryd.prog 18 #[.pointer (some ⟨p, 0, none⟩), .pointer (some ⟨q, 0, none⟩)] (.panicking ({ v := .iface 27 (.int .i64 4), recovered := false } :: [])) w fun e u' w' =>
      e = .returned (.tuple #[]) ∧ u' = .panicking ({ v := .iface 27 (.int .i64 4), recovered := true } :: []) ∧ w' = ((w.setCell ⟨p, 0, none⟩ (.slice none 0 0)).setCell ⟨q, 0, none⟩ (.int .i64 4)).drew := by
  refine callsD_of_wpS Tryd.func18 rfl fun c₀ cs hu => ?_
  have hqp : ¬ q = p := fun e => hpq e.symm
  have hta : ∀ w : World, (Instr.typeAssert (.iface 27 (.int .i64 4)) 20 27 false).run Tryd.prog w = .ok (.int .i64 4) w := fun _ => rfl
  apply wpS_seq
  apply wpS_region
  simp [wpOpsS, go_sem, recoverD, hu, Tryd.ntmps18, Exit.thenS]
  apply wpS_seq
  apply wpS_region
  simp [wpOpsS, go_sem, Exit.thenS]
  refine wpS_cond (t := true) (by simp [Act.eval, Array.replicate]) ?_
  simp only [if_true]
  refine wpS_of_wp ?_
  simp only [Array.replicate, List.replicate, List.append_toArray, List.cons_append, List.nil_append, List.setIfInBounds_toArray, List.set_cons_zero, List.set_cons_succ]
  go_region
  simp [bodyPostS, results, Tryd.results18]

theorem catch_idle (p q : Addr) (w : World) :
    CallsD Tryd.prog 18 #[.pointer (some p), .pointer (some q)] .returning w fun e u' w' => e = .returned (.tuple #[]) ∧ u' = .returning ∧ w' = w := by
  refine callsD_of_wpS Tryd.func18 rfl fun c₀ cs hu => ?_
  apply wpS_seq
  apply wpS_region
  simp [wpOpsS, go_sem, recoverD, hu, Tryd.ntmps18, Exit.thenS]
  apply wpS_seq
  apply wpS_region
  simp [wpOpsS, go_sem, Exit.thenS]
  refine wpS_cond (t := false) (by simp [Act.eval, Array.replicate]) ?_
  simp only [Bool.false_eq_true, if_false]
  refine wpS_of_wp (wp_skip ?_)
  cases c₀
  simp_all [bodyPostS, results, Tryd.results18]

/-- What Decode says of bytes, and which program it answers. -/
def decErr (l : List Int) : Int := if 4000 < l.length then 1 else if l.length < endOf l then 4 else if endOf l < l.length then 5 else codeProg (progOf l)
def decProg (l : List Int) : List Fn := if decErr l = 0 then progOf l else []

theorem decode_long (l : List Int) (v : Value) (w : World) (hv : BytesVal w v l) (hl : 4000 < l.length) :
    Calls Tryd.prog 9 #[v] w fun e w' => ∃ u us, e = .returned (.tuple #[.agg #[u], .int .i64 (decErr l)]) ∧ Built w' w.heap.size 42 44 u (decProg l) us ∧ Below w.heap.size w w' := by
  have he : decErr l = 1 := by simp [decErr, hl]
  have hp : decProg l = [] := by simp [decProg, he]
  rw [hp, he]
  obtain ⟨ao, n, cap, rfl, hlen, _⟩ := hv
  have hn : 4000 < n := by omega
  clear hp he hlen hl
  have hb : Below w.heap.size w ((w.alloc (.cells #[.slice none 0 0] 26)).alloc (.cells #[.int .i64 1] 27)) := ((Below.refl _ _).alloc (Nat.le_refl _) _).alloc (by simp) _
  go_enter_defers Tryd.func9, Tryd.ntmps9
  go_wp2_with fail
  exact ⟨.tuple #[.agg #[.slice none 0 0], .int .i64 1], by simp [results, Tryd.results9, go_sem], .slice none 0 0, [], rfl, built_nil _ _ _ _, hb⟩

theorem dec_start {w : World} {v : Value} {l : List Int} (hv : BytesVal w v l) (hl : l.length ≤ 4000) (hby : ∀ i, 0 ≤ l.getD i 0 ∧ l.getD i 0 ≤ 255) :
    ∃ ao b off cap, v = .slice ao l.length cap ∧ b < w.heap.size + 1 ∧
      RD (((w.alloc (.cells #[.slice none 0 0] 26)).alloc (.cells #[.int .i64 0] 27)).alloc (.cells #[.slice ao l.length cap, .int .i64 0] 49)) (w.heap.size + 1 + 1) ao b off l.length cap 0 l := by
  obtain ⟨ao, n, cap, rfl, rfl, h0, h1⟩ := hv
  have hnew := heap_alloc_new ((w.alloc (.cells #[.slice none 0 0] 26)).alloc (.cells #[.int .i64 0] 27)) (.cells #[.slice ao l.length cap, .int .i64 0] 49)
  simp only [World.size_alloc] at hnew
  rcases Nat.eq_zero_or_pos l.length with hz | hz
  · exact ⟨ao, 0, 0, cap, rfl, by omega, hnew, by omega, rfl, hl, fun h => by omega, fun i hi => by omega, hby⟩
  · obtain ⟨b, off, rfl, hc⟩ := h1 hz
    have hb := World.block_lt_of_cell? _ _ (hc 0 hz)
    dsimp only at hb
    exact ⟨_, b, off, cap, rfl, by omega, hnew, by omega, rfl, hl, fun _ => rfl, fun i hi => cell_alloc (cell_alloc (cell_alloc (hc i hi) _) _) _, hby⟩

/-- What stands in the world in which the reader begins, and what is left of it behind the reader. -/
theorem dec_world {w w1 : World} {c : Array Value} {t : Nat} (hg : (((w.alloc (.cells #[.slice none 0 0] 26)).alloc (.cells #[.int .i64 0] 27)).alloc (.cells c t)).grownBy w1 (some (w.heap.size + 1 + 1))) :
    w1.heap[w.heap.size]? = some (.cells #[.slice none 0 0] 26 (0, 0)) ∧ w1.heap[w.heap.size + 1]? = some (.cells #[.int .i64 0] 27 (0, 0)) ∧ Below w.heap.size w w1 ∧ w.heap.size + 3 ≤ w1.heap.size := by
  have hn := heap_alloc_new (w.alloc (.cells #[.slice none 0 0] 26)) (.cells #[.int .i64 0] 27)
  simp only [World.size_alloc] at hn
  have hz := hg.size
  simp at hz
  refine ⟨?_, ?_, ?_, by omega⟩
  · exact (hg.block _ (by simp; omega) (by simp; omega)).trans ((heap_alloc_old _ _ (by simp; omega)).trans ((heap_alloc_old _ _ (by simp)).trans (heap_alloc_new w _)))
  · exact (hg.block _ (by simp) (by simp)).trans ((heap_alloc_old _ _ (by simp)).trans hn)
  · have hb : Below w.heap.size w (((w.alloc (.cells #[.slice none 0 0] 26)).alloc (.cells #[.int .i64 0] 27)).alloc (.cells c t)) := (((Below.refl _ _).alloc (Nat.le_refl _) _).alloc (by simp) _).alloc (by simp; omega) _
    exact ⟨hg.os.trans hb.os, hg.tape.trans hb.tape, hg.output.trans hb.output, by omega, fun k hk => (hg.block k (by have := hb.size; omega) (by simp; omega)).trans (hb.block k hk)⟩

set_option maxHeartbeats 1000000 in
theorem decode_short (l : List Int) (v : Value) (w : World) (hv : BytesVal w v l) (hby : ∀ i, 0 ≤ l.getD i 0 ∧ l.getD i 0 ≤ 255) (hl : l.length ≤ 4000) (hs : l.length < endOf l) :
    Calls Tryd.prog 9 #[v] w fun e w' => ∃ u us, e = .returned (.tuple #[.agg #[u], .int .i64 (decErr l)]) ∧ Built w' w.heap.size 42 44 u (decProg l) us ∧ Below w.heap.size w w' := by
  have he : decErr l = 4 := by simp [decErr, show ¬ 4000 < l.length by omega, hs]
  have hp : decProg l = [] := by simp [decProg, he]
  rw [hp, he]
  obtain ⟨ao, b, off, cap, rfl, _, hr⟩ := dec_start hv hl hby
  have HC : Hid (Calls Tryd.prog 19 #[.pointer (some ⟨w.heap.size + 1 + 1, 0, none⟩)] (((w.alloc (.cells #[.slice none 0 0] 26)).alloc (.cells #[.int .i64 0] 27)).alloc (.cells #[.slice ao l.length cap, .int .i64 0] 49)) fun e w' => e = .panicked [{ v := .iface 27 (.int .i64 4), recovered := false }] ∧ (((w.alloc (.cells #[.slice none 0 0] 26)).alloc (.cells #[.int .i64 0] 27)).alloc (.cells #[.slice ao l.length cap, .int .i64 0] 49)).grownBy w' (some (w.heap.size + 1 + 1))) := program_short hr hs
  obtain ⟨n, hn⟩ : ∃ n, n = l.length := ⟨_, rfl⟩
  rw [← hn] at HC hl ⊢
  clear hp he hv hr hs hn hby
  go_enter_defers Tryd.func9, Tryd.ntmps9
  go_wp2_with (go_at_call 19; refine HC.out.mono ?_; rintro e w1 ⟨rfl, hg1⟩; obtain ⟨p1, p2, p3, p4⟩ := dec_world hg1)
  refine leaves_cons (f := 18) (args := #[.pointer (some ⟨w.heap.size, 0, none⟩), .pointer (some ⟨w.heap.size + 1, 0, none⟩)]) (by simp) (by simp [go_sem]) ?_
  refine (catch_panicking w.heap.size (w.heap.size + 1) (by omega) _ _ w1 (cell_of_one p1) (free_of_one p1) (cell_of_one p2) (free_of_one p2)).mono ?_
  rintro e u' w'' ⟨rfl, rfl, rfl⟩
  have q1 : (w1.setCell ⟨w.heap.size, 0, none⟩ (.slice none 0 0)).heap[w.heap.size + 1]? = some (.cells #[.int .i64 0] 27 (0, 0)) := (Below.heap_setCell _ _ _ _ (by simp)).trans p2
  have q2 := one_setCell (u := .int .i64 4) q1
  have q3 : ((w1.setCell ⟨w.heap.size, 0, none⟩ (.slice none 0 0)).setCell ⟨w.heap.size + 1, 0, none⟩ (.int .i64 4)).heap[w.heap.size]? = some (.cells #[.slice none 0 0] 26 (0, 0)) := (Below.heap_setCell _ _ _ _ (by simp)).trans (one_setCell p1)
  have r2 := cell_of_one q2
  have r3 := cell_of_one q3
  exact ⟨.tuple #[.agg #[.slice none 0 0], .int .i64 4], by simp [results, Tryd.results9, go_sem, r2, r3], .slice none 0 0, [], rfl, built_nil _ _ _ _, ((p3.setCell (Nat.le_refl _) _).setCell (by simp) _).drew⟩

set_option maxHeartbeats 1000000 in
theorem decode_form (l : List Int) (v : Value) (w : World) (hv : BytesVal w v l) (hby : ∀ i, 0 ≤ l.getD i 0 ∧ l.getD i 0 ≤ 255) (hl : l.length ≤ 4000) (hs : endOf l < l.length) :
    Calls Tryd.prog 9 #[v] w fun e w' => ∃ u us, e = .returned (.tuple #[.agg #[u], .int .i64 (decErr l)]) ∧ Built w' w.heap.size 42 44 u (decProg l) us ∧ Below w.heap.size w w' := by
  have he : decErr l = 5 := by simp [decErr, show ¬ 4000 < l.length by omega, show ¬ l.length < endOf l by omega, hs]
  have hp : decProg l = [] := by simp [decProg, he]
  rw [hp, he]
  obtain ⟨ao, b, off, cap, rfl, _, hr⟩ := dec_start hv hl hby
  have HC : Hid (Calls Tryd.prog 19 #[.pointer (some ⟨w.heap.size + 1 + 1, 0, none⟩)] (((w.alloc (.cells #[.slice none 0 0] 26)).alloc (.cells #[.int .i64 0] 27)).alloc (.cells #[.slice ao l.length cap, .int .i64 0] 49)) fun e w' => ∃ v us, e = .returned (.agg #[v]) ∧ Built w' (((w.alloc (.cells #[.slice none 0 0] 26)).alloc (.cells #[.int .i64 0] 27)).alloc (.cells #[.slice ao l.length cap, .int .i64 0] 49)).heap.size 42 44 v (progOf l) us ∧ (((w.alloc (.cells #[.slice none 0 0] 26)).alloc (.cells #[.int .i64 0] 27)).alloc (.cells #[.slice ao l.length cap, .int .i64 0] 49)).grownBy w' (some (w.heap.size + 1 + 1)) ∧ RD w' (w.heap.size + 1 + 1) ao b off l.length cap (endOf l) l) := program_ok hr (by omega)
  obtain ⟨n, hn⟩ : ∃ n, n = l.length := ⟨_, rfl⟩
  obtain ⟨E, hE⟩ : ∃ E, E = endOf l := ⟨_, rfl⟩
  rw [← hn] at HC hl hs ⊢
  rw [← hE] at HC hs
  have hsi : (E : Int) < (n : Int) := by omega
  clear hp he hv hr hn hby hE
  go_enter_defers Tryd.func9, Tryd.ntmps9
  go_wp2_with (go_at_call 19; refine HC.out.mono ?_; rintro e w1 ⟨v1, us, rfl, hbt, hg1, hr1⟩; obtain ⟨aov, capv, rfl⟩ := own_shape hbt.row; have D := dec_world hg1; have D1 := D.1; have D2 := D.2.1; have D3 : Hid _ := D.2.2.1; have D4 := D.2.2.2; have c1 := cell_of_one D1; have f1 := free_of_one D1; have c2 := cell_of_one D2; have f2 := free_of_one D2; have c3 : w1.cell? ⟨w.heap.size + 1 + 1, 1, none⟩ = some (.int .i64 E) := (by simp [World.cell?, hr1.blk]); have HB : Hid _ := hbt; have H1 : Hid _ := D1; have H2 : Hid _ := D2; clear D D1 D2 hr1 hbt hg1)
  refine leaves_cons (f := 18) (args := #[.pointer (some ⟨w.heap.size, 0, none⟩), .pointer (some ⟨w.heap.size + 1, 0, none⟩)]) (by simp) (by simp [go_sem]) ?_
  refine (catch_idle ⟨w.heap.size, 0, none⟩ ⟨w.heap.size + 1, 0, none⟩ _).mono ?_
  rintro e u' w'' ⟨rfl, rfl, rfl⟩
  have g1 : ((w1.setCell ⟨w.heap.size, 0, none⟩ (.slice aov (progOf l).length capv)).setCell ⟨w.heap.size, 0, none⟩ (.slice none 0 0)).heap[w.heap.size]? = some (.cells #[.slice none 0 0] 26 (0, 0)) := one_setCell (one_setCell H1.out)
  have g2 : ((w1.setCell ⟨w.heap.size, 0, none⟩ (.slice aov (progOf l).length capv)).setCell ⟨w.heap.size, 0, none⟩ (.slice none 0 0)).heap[w.heap.size + 1]? = some (.cells #[.int .i64 0] 27 (0, 0)) := (Below.heap_setCell _ _ _ _ (by simp)).trans ((Below.heap_setCell _ _ _ _ (by simp)).trans H2.out)
  have r1 := cell_of_one ((Below.heap_setCell _ ⟨w.heap.size + 1, 0, none⟩ (.int .i64 5) _ (by simp)).trans g1)
  have r2 := cell_of_one (one_setCell (u := .int .i64 5) g2)
  exact ⟨.tuple #[.agg #[.slice none 0 0], .int .i64 5], by simp [results, Tryd.results9, go_sem, r1, r2], .slice none 0 0, [], rfl, built_nil _ _ _ _, ((D3.out.setCell (Nat.le_refl _) _).setCell (Nat.le_refl _) _).setCell (by simp) _⟩

set_option maxHeartbeats 1000000 in
theorem decode_refused (l : List Int) (v : Value) (w : World) (ht : TabOk w) (hv : BytesVal w v l) (hby : ∀ i, 0 ≤ l.getD i 0 ∧ l.getD i 0 ≤ 255) (hl : l.length ≤ 4000) (hs : endOf l = l.length) (hc : codeProg (progOf l) ≠ 0) :
    Calls Tryd.prog 9 #[v] w fun e w' => ∃ u us, e = .returned (.tuple #[.agg #[u], .int .i64 (decErr l)]) ∧ Built w' w.heap.size 42 44 u (decProg l) us ∧ Below w.heap.size w w' := by
  have he : decErr l = codeProg (progOf l) := by simp [decErr, show ¬ 4000 < l.length by omega, show ¬ l.length < endOf l by omega, show ¬ endOf l < l.length by omega]
  have hp : decProg l = [] := by simp [decProg, he, hc]
  rw [hp, he]
  obtain ⟨ao, b, off, cap, rfl, _, hr⟩ := dec_start hv hl hby
  have HC : Hid (Calls Tryd.prog 19 #[.pointer (some ⟨w.heap.size + 1 + 1, 0, none⟩)] (((w.alloc (.cells #[.slice none 0 0] 26)).alloc (.cells #[.int .i64 0] 27)).alloc (.cells #[.slice ao l.length cap, .int .i64 0] 49)) fun e w' => ∃ v us, e = .returned (.agg #[v]) ∧ Built w' (((w.alloc (.cells #[.slice none 0 0] 26)).alloc (.cells #[.int .i64 0] 27)).alloc (.cells #[.slice ao l.length cap, .int .i64 0] 49)).heap.size 42 44 v (progOf l) us ∧ (((w.alloc (.cells #[.slice none 0 0] 26)).alloc (.cells #[.int .i64 0] 27)).alloc (.cells #[.slice ao l.length cap, .int .i64 0] 49)).grownBy w' (some (w.heap.size + 1 + 1)) ∧ RD w' (w.heap.size + 1 + 1) ao b off l.length cap (endOf l) l) := program_ok hr (by omega)
  obtain ⟨n, hn⟩ : ∃ n, n = l.length := ⟨_, rfl⟩
  obtain ⟨E, hE⟩ : ∃ E, E = endOf l := ⟨_, rfl⟩
  rw [← hn] at HC hl hs ⊢
  rw [← hE] at HC hs
  have hsi : ¬ (E : Int) < (n : Int) := by omega
  obtain ⟨p, hpe⟩ : ∃ p, p = progOf l := ⟨_, rfl⟩
  rw [← hpe] at hc HC ⊢
  have HK : Hid (∀ v W, TabOk W → ProgVal W v p → Calls Tryd.prog 16 #[.agg #[v]] W fun e w' => e = .returned (.int .i64 (codeProg p)) ∧ Below W.heap.size W w') := fun v W h1 h2 => check_any p v W h1 h2
  generalize codeProg p = c at hc HK ⊢
  have HT : Hid (TabOk w) := ht
  clear hp he hv hr hn hby ht hE hpe
  go_enter_defers Tryd.func9, Tryd.ntmps9
  go_wp2_with (first | (go_at_call 19; refine HC.out.mono ?_; rintro e w1 ⟨v1, us, rfl, hbt, hg1, hr1⟩; obtain ⟨aov, capv, rfl⟩ := own_shape hbt.row; have D := dec_world hg1; have D1 := D.1; have D2 := D.2.1; have D3 : Hid _ := D.2.2.1; have D4 := D.2.2.2; have c1 := cell_of_one D1; have f1 := free_of_one D1; have c2 := cell_of_one D2; have f2 := free_of_one D2; have c3 : w1.cell? ⟨w.heap.size + 1 + 1, 1, none⟩ = some (.int .i64 E) := (by simp [World.cell?, hr1.blk]); have HB : Hid _ := hbt; have H1 : Hid _ := D1; have H2 : Hid _ := D2; clear D D1 D2 hr1 hbt hg1) | (go_at_call 16; (refine (HK.out _ _ (HT.out.below (D3.out.setCell (Nat.le_refl _) _)) ((HB.out.setCell (a := ⟨w.heap.size, 0, none⟩) (by simp; omega) _).prog)).mono ?_; rintro e w2 ⟨rfl, hb2⟩; have HB2 : Hid _ := hb2; have G1 : w2.heap[w.heap.size]? = some (.cells #[.slice aov p.length capv] 26 (0, 0)) := (hb2.block _ (by simp [World.setCell]; omega)).trans (one_setCell H1.out); have G2 : w2.heap[w.heap.size + 1]? = some (.cells #[.int .i64 0] 27 (0, 0)) := (hb2.block _ (by simp [World.setCell]; omega)).trans ((Below.heap_setCell _ _ _ _ (by simp)).trans H2.out); have k1 := cell_of_one G1; have k2 := cell_of_one G2; have l1 := free_of_one G1; have l2 := free_of_one G2; have J1 : Hid _ := G1; have J2 : Hid _ := G2; clear G1 G2 hb2)))
  go_region
  go_wp2
  refine leaves_cons (f := 18) (args := #[.pointer (some ⟨w.heap.size, 0, none⟩), .pointer (some ⟨w.heap.size + 1, 0, none⟩)]) (by simp) (by simp [go_sem]) ?_
  refine (catch_idle ⟨w.heap.size, 0, none⟩ ⟨w.heap.size + 1, 0, none⟩ _).mono ?_
  rintro e u' w'' ⟨rfl, rfl, rfl⟩
  have t1 := one_setCell (u := .int .i64 c) J2.out
  have t2 : (w2.setCell ⟨w.heap.size + 1, 0, none⟩ (.int .i64 c)).heap[w.heap.size]? = some (.cells #[.slice aov p.length capv] 26 (0, 0)) := (Below.heap_setCell _ _ _ _ (by simp)).trans J1.out
  have t3 := one_setCell (u := .slice none 0 0) t2
  have t4 : ((w2.setCell ⟨w.heap.size + 1, 0, none⟩ (.int .i64 c)).setCell ⟨w.heap.size, 0, none⟩ (.slice none 0 0)).heap[w.heap.size + 1]? = some (.cells #[.int .i64 c] 27 (0, 0)) := (Below.heap_setCell _ _ _ _ (by simp)).trans t1
  have r1 := cell_of_one ((Below.heap_setCell _ ⟨w.heap.size + 1, 0, none⟩ (.int .i64 c) _ (by simp)).trans t3)
  have r2 := cell_of_one (one_setCell (u := .int .i64 c) t4)
  have HBL : Hid (Below w.heap.size w w2) := (D3.out.setCell (Nat.le_refl _) _).trans (HB2.out.mono (by simp [World.setCell]; omega))
  exact ⟨.tuple #[.agg #[.slice none 0 0], .int .i64 c], by simp [results, Tryd.results9, go_sem, r1, r2], .slice none 0 0, [], rfl, built_nil _ _ _ _, (((HBL.out.setCell (by simp) _).setCell (Nat.le_refl _) _).setCell (by simp) _).drew⟩

set_option maxHeartbeats 1000000 in
theorem decode_right (l : List Int) (v : Value) (w : World) (ht : TabOk w) (hv : BytesVal w v l) (hby : ∀ i, 0 ≤ l.getD i 0 ∧ l.getD i 0 ≤ 255) (hl : l.length ≤ 4000) (hs : endOf l = l.length) (hc : codeProg (progOf l) = 0) :
    Calls Tryd.prog 9 #[v] w fun e w' => ∃ u us, e = .returned (.tuple #[.agg #[u], .int .i64 (decErr l)]) ∧ Built w' w.heap.size 42 44 u (decProg l) us ∧ Below w.heap.size w w' := by
  have he : decErr l = 0 := by simp [decErr, show ¬ 4000 < l.length by omega, show ¬ l.length < endOf l by omega, show ¬ endOf l < l.length by omega, hc]
  have hp : decProg l = progOf l := by simp [decProg, he]
  rw [hp, he]
  obtain ⟨ao, b, off, cap, rfl, _, hr⟩ := dec_start hv hl hby
  have HC : Hid (Calls Tryd.prog 19 #[.pointer (some ⟨w.heap.size + 1 + 1, 0, none⟩)] (((w.alloc (.cells #[.slice none 0 0] 26)).alloc (.cells #[.int .i64 0] 27)).alloc (.cells #[.slice ao l.length cap, .int .i64 0] 49)) fun e w' => ∃ v us, e = .returned (.agg #[v]) ∧ Built w' (((w.alloc (.cells #[.slice none 0 0] 26)).alloc (.cells #[.int .i64 0] 27)).alloc (.cells #[.slice ao l.length cap, .int .i64 0] 49)).heap.size 42 44 v (progOf l) us ∧ (((w.alloc (.cells #[.slice none 0 0] 26)).alloc (.cells #[.int .i64 0] 27)).alloc (.cells #[.slice ao l.length cap, .int .i64 0] 49)).grownBy w' (some (w.heap.size + 1 + 1)) ∧ RD w' (w.heap.size + 1 + 1) ao b off l.length cap (endOf l) l) := program_ok hr (by omega)
  obtain ⟨n, hn⟩ : ∃ n, n = l.length := ⟨_, rfl⟩
  obtain ⟨E, hE⟩ : ∃ E, E = endOf l := ⟨_, rfl⟩
  rw [← hn] at HC hl hs ⊢
  rw [← hE] at HC hs
  have hsi : ¬ (E : Int) < (n : Int) := by omega
  obtain ⟨p, hpe⟩ : ∃ p, p = progOf l := ⟨_, rfl⟩
  rw [← hpe] at hc HC ⊢
  have HK : Hid (∀ v W, TabOk W → ProgVal W v p → Calls Tryd.prog 16 #[.agg #[v]] W fun e w' => e = .returned (.int .i64 (codeProg p)) ∧ Below W.heap.size W w') := fun v W h1 h2 => check_any p v W h1 h2
  rw [hc] at HK
  have HT : Hid (TabOk w) := ht
  clear hp he hv hr hn hby ht hE hpe hc
  go_enter_defers Tryd.func9, Tryd.ntmps9
  go_wp2_with (first | (go_at_call 19; refine HC.out.mono ?_; rintro e w1 ⟨v1, us, rfl, hbt, hg1, hr1⟩; obtain ⟨aov, capv, rfl⟩ := own_shape hbt.row; have D := dec_world hg1; have D1 := D.1; have D2 := D.2.1; have D3 : Hid _ := D.2.2.1; have D4 := D.2.2.2; have c1 := cell_of_one D1; have f1 := free_of_one D1; have c2 := cell_of_one D2; have f2 := free_of_one D2; have c3 : w1.cell? ⟨w.heap.size + 1 + 1, 1, none⟩ = some (.int .i64 E) := (by simp [World.cell?, hr1.blk]); have HB : Hid _ := hbt; have H1 : Hid _ := D1; have H2 : Hid _ := D2; clear D D1 D2 hr1 hbt hg1) | (go_at_call 16; (refine (HK.out _ _ (HT.out.below (D3.out.setCell (Nat.le_refl _) _)) ((HB.out.setCell (a := ⟨w.heap.size, 0, none⟩) (by simp; omega) _).prog)).mono ?_; rintro e w2 ⟨rfl, hb2⟩; have HB2 : Hid _ := hb2; have G1 : w2.heap[w.heap.size]? = some (.cells #[.slice aov p.length capv] 26 (0, 0)) := (hb2.block _ (by simp [World.setCell]; omega)).trans (one_setCell H1.out); have G2 : w2.heap[w.heap.size + 1]? = some (.cells #[.int .i64 0] 27 (0, 0)) := (hb2.block _ (by simp [World.setCell]; omega)).trans ((Below.heap_setCell _ _ _ _ (by simp)).trans H2.out); have k1 := cell_of_one G1; have k2 := cell_of_one G2; have l1 := free_of_one G1; have l2 := free_of_one G2; have J1 : Hid _ := G1; have J2 : Hid _ := G2; clear G1 G2 hb2)))
  refine leaves_cons (f := 18) (args := #[.pointer (some ⟨w.heap.size, 0, none⟩), .pointer (some ⟨w.heap.size + 1, 0, none⟩)]) (by simp) (by simp [go_sem]) ?_
  refine (catch_idle ⟨w.heap.size, 0, none⟩ ⟨w.heap.size + 1, 0, none⟩ _).mono ?_
  rintro e u' w'' ⟨rfl, rfl, rfl⟩
  have t1 := one_setCell (u := .int .i64 0) J2.out
  have t2 : (w2.setCell ⟨w.heap.size + 1, 0, none⟩ (.int .i64 0)).heap[w.heap.size]? = some (.cells #[.slice aov p.length capv] 26 (0, 0)) := (Below.heap_setCell _ _ _ _ (by simp)).trans J1.out
  have t3 := one_setCell (u := .slice aov p.length capv) t2
  have t4 : ((w2.setCell ⟨w.heap.size + 1, 0, none⟩ (.int .i64 0)).setCell ⟨w.heap.size, 0, none⟩ (.slice aov p.length capv)).heap[w.heap.size + 1]? = some (.cells #[.int .i64 0] 27 (0, 0)) := (Below.heap_setCell _ _ _ _ (by simp)).trans t1
  have r1 := cell_of_one ((Below.heap_setCell _ ⟨w.heap.size + 1, 0, none⟩ (.int .i64 0) _ (by simp)).trans t3)
  have r2 := cell_of_one (one_setCell (u := .int .i64 0) t4)
  have HBL : Hid (Below w.heap.size w w2) := (D3.out.setCell (Nat.le_refl _) _).trans (HB2.out.mono (by simp [World.setCell]; omega))
  have HBT : Hid (Built w2 (w.heap.size + 3) 42 44 (.slice aov p.length capv) p us) := (built_base' (HB.out.setCell (a := ⟨w.heap.size, 0, none⟩) (by simp; omega) _) (by simp)).below HB2.out
  exact ⟨.tuple #[.agg #[.slice aov p.length capv], .int .i64 0], by simp [results, Tryd.results9, go_sem, r1, r2], .slice aov p.length capv, us, rfl, built_base' (((HBT.out.setCell (by simp) _).setCell (by simp) _).setCell (by simp) _) (by omega), ((HBL.out.setCell (by simp) _).setCell (Nat.le_refl _) _).setCell (by simp) _⟩

/-- Decode, whatever the bytes. -/
theorem decode_any (l : List Int) (v : Value) (w : World) (ht : TabOk w) (hv : BytesVal w v l) (hby : ∀ i, 0 ≤ l.getD i 0 ∧ l.getD i 0 ≤ 255) :
    Calls Tryd.prog 9 #[v] w fun e w' => ∃ u us, e = .returned (.tuple #[.agg #[u], .int .i64 (decErr l)]) ∧ Built w' w.heap.size 42 44 u (decProg l) us ∧ Below w.heap.size w w' := by
  by_cases h1 : 4000 < l.length
  · exact decode_long l v w hv h1
  by_cases h2 : l.length < endOf l
  · exact decode_short l v w hv hby (by omega) h2
  by_cases h3 : endOf l < l.length
  · exact decode_form l v w hv hby (by omega) h3
  by_cases h4 : codeProg (progOf l) = 0
  · exact decode_right l v w ht hv hby (by omega) (by omega) h4
  · exact decode_refused l v w ht hv hby (by omega) (by omega) h4

end Go.Proofs.YtjckpdeogbamjaaDoor
