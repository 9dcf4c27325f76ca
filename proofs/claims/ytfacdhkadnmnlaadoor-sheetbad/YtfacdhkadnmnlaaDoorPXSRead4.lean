import Derived.BigQuiet
import Derived.Deep.AppendLies
import Derived.Deep.RegionHeld
import Derived.Deep.RegionHeld3
import Derived.OrdersHeld
import Derived.Test.YtfacdhkadnmnlaaDoorPXBrief
import Derived.Test.YtfacdhkadnmnlaaDoorPXSRead3
namespace Go.Proofs.YtfacdhkadnmnlaaDoor
open Go Go.RowKit

def AddPost (O base : Nat) (w : World) (r : Option (List Fn)) (e : Ending) (w' : World) : Prop :=
 e = .returned (.bool r.isSome) ∧ Went O w w' ∧ ∀ P', r = some P' → ∃ vo us, PBx w' O base P' vo us
theorem sres_none {O base : Nat} {w w' : World} {e : Ending} (he : e = .returned (.bool false)) (hw : Went O w w') : AddPost O base w none e w' := ⟨he, hw, fun _ h => by cases h⟩
theorem PBx.addFn {w w3 : World} {O base g cap : Nat} {P : List Fn} {vo : Value} {us : List Value} {a r : Int} (h : PBx w O base P vo us) (hB : base ≤ w.heap.size) (hg : w.grownBy w3 vo.ownBlock)
  (hown : w3.ownsRow base 37 3 (.slice (some ⟨g, 0, none⟩) (P.length + 1) cap) (P.length + 1) (fnsCells P us ++ [.int .i64 a, .int .i64 r, .slice none 0 0])) :
  w3.heap[O]? = some (.cells #[vo] 24 (0, 0)) ∧ PBx (w3.setCell ⟨O, 0, none⟩ (.slice (some ⟨g, 0, none⟩) (P.length + 1) cap)) O base (P ++ [⟨a, r, []⟩]) (.slice (some ⟨g, 0, none⟩) (P.length + 1) cap) (us ++ [.slice none 0 0]) ∧ Went O w (w3.setCell ⟨O, 0, none⟩ (.slice (some ⟨g, 0, none⟩) (P.length + 1) cap)) := by
 have hl := h.low
 have hm := built_more (f := ⟨a, r, []⟩) (u := .slice none 0 0) (by decide) h.low h.blt h.box (World.ownsRow_nil _ _ _ _) hB hg (by simpa [fnCells] using hown)
 refine ⟨hm.1, ⟨hm.2.2.1, hm.2.1, codesApart_snoc h.apart (fun v _ k hk e => by cases e), h.low⟩, ?_⟩
 exact (Went.grown hg (by omega) fun k hk => ⟨by have := (h.blt.row.lt k hk).1; omega, (own_cellsAt h.blt.row k hk).2⟩).trans (Went.set (p := ⟨O, 0, none⟩) (Nat.le_refl _) _)
set_option maxRecDepth 100000 in
set_option maxHeartbeats 2000000 in
theorem saddFunc_any {w : World} {N R O base : Nat} {P : List Fn} {vo : Value} {us : List Value} {s : RS} (hp : PBx w O base P vo us) (h : SR w N R s) (hS : StdR O w) (hO : O < R) (hB : base ≤ w.heap.size) (hlen : P.length ≤ 20000) :
  Calls Tryd.prog 30 #[.pointer (some ⟨O, 0, none⟩), .pointer (some ⟨R, 0, none⟩)] w fun e w' => AddPost O base w (addFn P s) e w' := by
 obtain ⟨iF, hiF, hzF0, hzF1, hzF2⟩ := info_parts infoF
 have hlt := h.lt
 obtain ⟨a, s1, e1⟩ : ∃ a t, s.take numOk = (a, t) := ⟨_, _, rfl⟩
 obtain ⟨r, s2, e2⟩ : ∃ a t, s1.take numOk = (a, t) := ⟨_, _, rfl⟩
 have C1 : Hid (Calls Tryd.prog 50 #[.pointer (some ⟨R, 0, none⟩)] w fun e w' => e = .returned (.int .i64 a) ∧ w.grownBy w' (some R) ∧ SR w' N R s1) := by
  have := snumber_any h hS (by omega)
  rw [e1] at this
  exact this
 have C2 : Hid (∀ w1, StdR O w1 → SR w1 N R s1 → Calls Tryd.prog 50 #[.pointer (some ⟨R, 0, none⟩)] w1 fun e w' => e = .returned (.int .i64 r) ∧ w1.grownBy w' (some R) ∧ SR w' N R s2) := fun w1 hs hr => by
  have := snumber_any hr hs (by omega)
  rw [e2] at this
  exact this
 have HR : Hid (addFn P s = if s2.right = true ∧ 0 ≤ a ∧ 0 ≤ r then some (P ++ [⟨a, r, []⟩]) else none) := by
  show _ = _
  unfold addFn
  rw [e1]
  dsimp only
  rw [e2]
 have HP : Hid _ := hp
 have H0 : Hid (SR w N R s) := h
 have HS : Hid _ := hS
 have HZ : Hid (addFn P s = addFn P s) := rfl
 generalize addFn P s = res at HR
 clear e1 e2 hp h hS
 go_enter Tryd.func30, Tryd.ntmps30
 go_upto_region 2 with (first
  | (go_at_call 50; refine C1.out.mono ?_; rintro e w1 ⟨rfl, hg1, hr1⟩; have G1 : Hid (Went O w w1) := Went.reader H0.out hg1 (by omega); have P1 : Hid _ := HP.out.reader H0.out hg1; have R1 : Hid (SR w1 N R s1) := hr1; clear hg1 hr1 C1)
  | (go_at_call 50; refine (C2.out _ (HS.out.on G1.out.below) R1.out).mono ?_; rintro e w2 ⟨rfl, hg2, hr2⟩; have G2 : Hid (Went O w w2) := G1.out.trans (Went.reader R1.out hg2 (by omega)); have P2 : Hid _ := P1.out.reader R1.out hg2; have R2 : Hid (SR w2 N R s2) := hr2; clear hg2 hr2 C2))
 have hz2 := G2.out.below.size
 have hOz : O < w2.heap.size := lt_of_block P2.out.box
 have HA : Hid (Below w2.heap.size w2 (w2.alloc (.cells #[.int .i64 a, .int .i64 r, .slice none 0 0] 37))) := (Below.refl _ _).alloc (Nat.le_refl _) _
 have GA : Hid (Went O w (w2.alloc (.cells #[.int .i64 a, .int .i64 r, .slice none 0 0] 37))) := G2.out.trans (Went.of_below HA.out (by omega))
 have PA : Hid _ := P2.out.keep HA.out
 have RA : Hid (SR (w2.alloc (.cells #[.int .i64 a, .int .i64 r, .slice none 0 0] 37)) N R s2) := R2.out.kept HA.out
 have f0 : (w2.alloc (.cells #[.int .i64 a, .int .i64 r, .slice none 0 0] 37)).cell? ⟨w2.heap.size, 0, none⟩ = some (.int .i64 a) := by simp
 have f1 : (w2.alloc (.cells #[.int .i64 a, .int .i64 r, .slice none 0 0] 37)).cell? ⟨w2.heap.size, 1, none⟩ = some (.int .i64 r) := by simp
 have f2 : (w2.alloc (.cells #[.int .i64 a, .int .i64 r, .slice none 0 0] 37)).cell? ⟨w2.heap.size, 2, none⟩ = some (.slice none 0 0) := by simp
 have hzA : (w2.alloc (.cells #[.int .i64 a, .int .i64 r, .slice none 0 0] 37)).heap.size = w2.heap.size + 1 := by simp
 obtain ⟨F, hF⟩ : ∃ F, F = w2.heap.size := ⟨_, rfl⟩
 have hbF : base ≤ F := by omega
 have HLT : Hid (∀ k, vo.ownBlock = some k → k < F) := fun k hk => by have := (P2.out.blt.row.lt k hk).2; omega
 rw [← hF] at f0 f1 f2 hzA hOz ⊢
 generalize w2.alloc (.cells #[.int .i64 a, .int .i64 r, .slice none 0 0] 37) = V at GA PA RA f0 f1 f2 hzA ⊢
 clear hF hz2 HA G2 P2 R2 G1 P1 R1
 cases hr : s2.right with
 | false =>
  have HE : Hid (res = none) := by show _ = _; rw [HR.out, if_neg (by simp [hr])]
  go_wp2_with (go_at_call 51; refine (sright_any RA.out).mono ?_; rintro e w3 ⟨rfl, hw3⟩; replace hw3 := hw3.symm; subst hw3; rw [hr])
  go_ret
  rw [HE.out]
  exact sres_none rfl GA.out
 | true =>
  by_cases ha : 0 ≤ a
  ·by_cases hb : 0 ≤ r
   ·have HE : Hid (res = some (P ++ [⟨a, r, []⟩])) := by show _ = _; rw [HR.out, if_pos ⟨hr, ha, hb⟩]
    have ha' : decide (a < 0) = false := by simp; omega
    have hb' : decide (r < 0) = false := by simp; omega
    obtain ⟨aov, capv, rfl⟩ := own_shape PA.out.blt.row
    have cO := cell_of_one PA.out.box
    go_upto_region 3 with (go_at_call 51; refine (sright_any RA.out).mono ?_; rintro e w3 ⟨rfl, hw3⟩; replace hw3 := hw3.symm; subst hw3; rw [hr])
    refine wp_region_last (S := fun w' => w'.cell? ⟨O, 0, none⟩ = some (.slice aov P.length capv) ∧ w'.cell? ⟨F, 0, none⟩ = some (.int .i64 a) ∧ w'.cell? ⟨F, 1, none⟩ = some (.int .i64 r) ∧ w'.cell? ⟨F, 2, none⟩ = some (.slice none 0 0)) _ 10 (by kernel_rfl) (by kernel_rfl) rfl ⟨cO, f0, f1, f2⟩ (fun hHeld => ?_)
    simp only [List.pop_toArray, List.dropLast]
    refine tkA (i := 0) (v := ?_) rfl (Or.inl ⟨by rfl, ?_⟩) ?_
    rotate_left
    ·(intro w hSw; (try dsimp only at hSw); go_simp; try (with_reducible rfl))
    (try simp only [zA])
    refine tkA (i := 1) (v := ?_) rfl (Or.inl ⟨by rfl, ?_⟩) ?_
    rotate_left
    ·(intro w hSw; (try dsimp only at hSw); go_simp; try (with_reducible rfl))
    (try simp only [Act.put])
    refine tkA (i := 2) (v := ?_) rfl (Or.inl ⟨by rfl, ?_⟩) ?_
    rotate_left
    ·(intro w hSw; (try dsimp only at hSw); go_simp; try (with_reducible rfl))
    (try simp only [Act.put])
    refine tkA (i := 3) (v := ?_) rfl (Or.inl ⟨by rfl, ?_⟩) ?_
    rotate_left
    ·(intro w hSw; (try dsimp only at hSw); go_simp; try (with_reducible rfl))
    (try simp only [Act.put])
    refine tkA (i := 4) (v := ?_) rfl (Or.inl ⟨by rfl, ?_⟩) ?_
    rotate_left
    ·(intro w hSw; (try dsimp only at hSw); go_simp; try (with_reducible rfl))
    (try simp only [Act.put])
    refine tkA (i := 5) (v := ?_) rfl (Or.inl ⟨by rfl, ?_⟩) ?_
    rotate_left
    ·(intro w hSw; (try dsimp only at hSw); go_simp; try (with_reducible rfl))
    (try simp only [Act.put])
    have o0 := cell_alloc (show V.drew.cell? _ = _ from cO)
    have d0 := cell_alloc (show V.drew.cell? _ = _ from f0)
    have d1 := cell_alloc (show V.drew.cell? _ = _ from f1)
    have d2 := cell_alloc (show V.drew.cell? _ = _ from f2)
    refine wpAnyH_ready (rs := [6]) (by kernel_rfl) (by simp) ?_
    refine AllReadyH.cons rfl (fun K hK => ?_) AllReadyH.nil
    go_simp
    refine hK.out _ _ (⟨o0 _, d0 _, d1 _, d2 _⟩) (fun hHeld => ?_)
    clear hK K
    (try simp only [zB])
    (try simp only [zA])
    have HW : Hid (PBx (V.alloc (.cells #[.int .i64 a, .int .i64 r, .slice none 0 0] 37)).drew O base P (.slice aov P.length capv) us) := PA.out.keep (((Below.refl _ _).alloc (Nat.le_refl _) _).drew)
    have own' : (V.alloc (.cells #[.int .i64 a, .int .i64 r, .slice none 0 0] 37)).drew.ownsRow base 37 3 (.slice aov P.length capv) P.length (fnsCells P us) := HW.out.blt.row
    have news' : ∀ (i : Nat) (u : Value), (fnCells ⟨a, r, []⟩ (.slice none 0 0))[i]? = some u → (V.alloc (.cells #[.int .i64 a, .int .i64 r, .slice none 0 0] 37)).drew.cell? ((⟨V.heap.size, 0, none⟩ : Addr).add i) = some u := news_list V (fnCells ⟨a, r, []⟩ (.slice none 0 0)) _ _ rfl
    rw [hzA] at news'
    refine wpAnyH_ready (rs := [7]) (by kernel_rfl) (by simp) ?_
    refine AllReadyH.cons rfl (fun K hK => ?_) AllReadyH.nil
    refine step_append_lies _ (by rfl) (.tmp 28) (.tmp 30) 22 (by rfl) base 37 iF _ 3 40 Tryd.underlying22 hiF hzF0 hzF1 hzF2 rfl (by decide) (.slice aov P.length capv) P.length (fnsCells P us) (by rfl) own' ⟨F + 1, 0, none⟩ 1 1 (fnCells ⟨a, r, []⟩ (.slice none 0 0)) (by rfl) rfl news' (fnCells_one _ _ _ _) (by omega) (by unfold maxLen; omega) (by omega) (by simp; omega) (F + 2) (by simp; omega) ?_
    intro g4 cap4 w4 hown4 hg4 hat4 hlt4
    have BP := HW.out.addFn (by simp; omega) hg4 hown4
    have q0 := cell_of_one BP.1
    have qf := free_of_one BP.1
    have hneF : some F ≠ (Value.slice aov P.length capv).ownBlock := fun e => by have := HLT.out F e.symm; omega
    have s0 := hg4.cell (d0 _) hneF
    have s1 := hg4.cell (d1 _) hneF
    have s2 := hg4.cell (d2 _) hneF
    refine hK.out _ _ (⟨q0, s0, s1, s2⟩) (fun hHeld => ?_)
    clear hK K
    (try simp only [zB])
    (try simp only [zA])
    refine tkA (i := 8) (v := ?_) rfl (Or.inl ⟨by rfl, ?_⟩) ?_
    rotate_left
    ·(intro w hSw; (try dsimp only at hSw); go_simp; try (with_reducible rfl))
    (try simp only [zA])
    refine tkA (i := 9) (v := ?_) rfl (Or.inl ⟨by rfl, ?_⟩) ?_
    rotate_left
    ·(intro w hSw; (try dsimp only at hSw); go_simp; try (with_reducible rfl))
    (try simp only [Act.put])
    refine wpAnyH_done (by kernel_rfl) ?_ _
    refine Or.inl ?_
    (try simp only [zB])
    go_simp
    have BQ : Hid (PBx (w4.setCell ⟨O, 0, none⟩ (.slice (some ⟨g4, 0, none⟩) (P.length + 1) cap4)) O base (P ++ [⟨a, r, []⟩]) (.slice (some ⟨g4, 0, none⟩) (P.length + 1) cap4) (us ++ [.slice none 0 0])) := BP.2.1
    have BW : Hid (Went O w (w4.setCell ⟨O, 0, none⟩ (.slice (some ⟨g4, 0, none⟩) (P.length + 1) cap4))) := GA.out.trans (((Went.alloc (by omega) _).trans (Went.drew _)).trans BP.2.2)
    clear BP hHeld q0 s0 s1 s2 own' news' HW hown4 hg4 hat4 hlt4 hneF o0 d0 d1 d2 cO f0 f1 f2
    go_wp2
    go_ret
    rw [HE.out]
    exact ⟨rfl, BW.out, fun P3 h => by cases h; exact ⟨_, _, BQ.out⟩⟩
   ·have HE : Hid (res = none) := by show _ = _; rw [HR.out, if_neg (fun h => hb h.2.2)]
    have ha' : decide (a < 0) = false := by simp; omega
    have hb' : decide (r < 0) = true := by simp; omega
    go_wp2_with (go_at_call 51; refine (sright_any RA.out).mono ?_; rintro e w3 ⟨rfl, hw3⟩; replace hw3 := hw3.symm; subst hw3; rw [hr])
    go_ret
    rw [HE.out]
    exact sres_none rfl GA.out
  ·have HE : Hid (res = none) := by show _ = _; rw [HR.out, if_neg (fun h => ha h.2.1)]
   have ha' : decide (a < 0) = true := by simp; omega
   go_wp2_with (go_at_call 51; refine (sright_any RA.out).mono ?_; rintro e w3 ⟨rfl, hw3⟩; replace hw3 := hw3.symm; subst hw3; rw [hr])
   go_ret
   rw [HE.out]
   exact sres_none rfl GA.out
theorem us_last {us : List Value} {n : Nat} (h : us.length = n + 1) : ∃ us' u, us = us' ++ [u] ∧ us'.length = n := by
 have hne : us ≠ [] := by intro e; subst e; simp at h
 exact ⟨us.dropLast, us.getLast hne, (List.dropLast_concat_getLast hne).symm, by simp [h]⟩
theorem PBx.addIns {w w4 : World} {O base g cap g4 cap4 : Nat} {Q : List Fn} {f : Fn} {u : Value} {us : List Value} {x : Ins} (h : PBx w O base (Q ++ [f]) (.slice (some ⟨g, 0, none⟩) (Q.length + 1) cap) (us ++ [u])) (hg : w.grownBy w4 u.ownBlock)
  (hown : w4.ownsRow base 51 5 (.slice (some ⟨g4, 0, none⟩) (f.code.length + 1) cap4) (f.code.length + 1) (codeCells f.code ++ insCells x)) (hat : u.ownBlock = some g4 ∨ g4 = w.heap.size) :
  w4.heap[g]? = w.heap[g]? ∧ PBx (w4.setCell ⟨g, Q.length * 3 + 2, none⟩ (.slice (some ⟨g4, 0, none⟩) (f.code.length + 1) cap4)) O base (Q ++ [⟨f.params, f.regs, f.code ++ [x]⟩]) (.slice (some ⟨g, 0, none⟩) (Q.length + 1) cap) (us ++ [.slice (some ⟨g4, 0, none⟩) (f.code.length + 1) cap4]) ∧
   Went O w (w4.setCell ⟨g, Q.length * 3 + 2, none⟩ (.slice (some ⟨g4, 0, none⟩) (f.code.length + 1) cap4)) := by
 have hl := h.low
 have hus : us.length = Q.length := by have := h.blt.len; simpa using this
 obtain ⟨a, b, c⟩ := built_last (by decide) h.blt h.apart hg hown hat
 have hlast := h.blt.codes Q.length (by simp)
 have eu : (us ++ [u])[Q.length]'(by simp [hus]) = u := by simp [← hus]
 rw [eu] at hlast
 have hgb := h.blt.row.lt g rfl
 have hneO : some O ≠ u.ownBlock := fun e => by have := (hlast.lt O e.symm).1; omega
 refine ⟨a, ⟨?_, b, c, h.low⟩, ?_⟩
 ·exact (Below.heap_setCell _ _ _ _ (by simp; omega)).trans ((hg.block O (lt_of_block h.box) hneO).trans h.box)
 ·exact (Went.grown hg (by omega) fun k hk => ⟨by have := (hlast.lt k hk).1; omega, (own_cellsAt hlast k hk).2⟩).trans (Went.set (p := ⟨g, Q.length * 3 + 2, none⟩) (by simp; omega) _)
theorem PBx.lastCell {w : World} {O base g cap : Nat} {Q : List Fn} {f : Fn} {u : Value} {us : List Value} (h : PBx w O base (Q ++ [f]) (.slice (some ⟨g, 0, none⟩) (Q.length + 1) cap) (us ++ [u])) :
  w.cell? ⟨g, Q.length * 3 + 2, none⟩ = some u ∧ w.frozen? ⟨g, Q.length * 3 + 2, none⟩ = false ∧ Q.length + 1 ≤ cap ∧ g < w.heap.size ∧ w.ownsRow base 51 5 u f.code.length (codeCells f.code) := by
 have hus : us.length = Q.length := by have := h.blt.len; simpa using this
 have hrow : w.ownsRow base 37 3 (.slice (some ⟨g, 0, none⟩) (Q.length + 1) cap) (Q.length + 1) (fnsCells (Q ++ [f]) (us ++ [u])) := by have := h.blt.row; simpa using this
 have hlast := h.blt.codes Q.length (by simp)
 have eu : (us ++ [u])[Q.length]'(by simp [hus]) = u := by simp [← hus]
 have ef : (Q ++ [f])[Q.length]'(by simp) = f := by simp
 rw [eu, ef] at hlast
 have hc := @World.ownsRow.cells _ _ _ _ _ _ _ hrow
 have h2 := hc (g := g) rfl (Q.length * 3 + 2) u (by
  rw [fnsCells_get (Q ++ [f]) (us ++ [u]) (by simp [hus]) Q.length 2 (by simp) (by omega), eu, ef]; rfl)
 rw [Addr.add_lit, Nat.zero_add] at h2
 rcases hrow.2 with ⟨e, _⟩ | ⟨g', cap', cur, e, _, hh, hn, _⟩
 ·cases e
 ·simp only [Value.slice.injEq, Option.some.injEq, Addr.mk.injEq, and_true, true_and] at e
  obtain ⟨rfl, rfl⟩ := e
  exact ⟨h2, by simp [World.frozen?, hh], hn, lt_of_block hh, hlast⟩
set_option maxRecDepth 100000 in
set_option maxHeartbeats 2000000 in
theorem saddInstr_any {w : World} {N R O base : Nat} {P : List Fn} {vo : Value} {us : List Value} {s : RS} (op : Nat) (hop : op < 20) (hp : PBx w O base P vo us) (h : SR w N R s) (hS : StdR O w) (hO : O < R) (hB : base ≤ w.heap.size) (hN : N ≤ w.heap.size) (hlen : P.length ≤ 20000) (hcl : ∀ f ∈ P, f.code.length ≤ 20000) :
  Calls Tryd.prog 31 #[.pointer (some ⟨O, 0, none⟩), .int .i64 op, .pointer (some ⟨R, 0, none⟩)] w fun e w' => AddPost O base w (addIns P op s) e w' := by
 obtain ⟨iI, hiI, hzI0, hzI1, hzI2⟩ := info_parts infoI
 by_cases h0 : op = 0
 ·subst h0
  have HE : Hid (addIns P (0 : Nat) s = none) := by show _ = _; simp [addIns]
  generalize addIns P (0 : Nat) s = res at HE
  clear hp h hS
  go_enter Tryd.func31, Tryd.ntmps31
  go_wp2
  go_ret
  rw [HE.out]
  exact sres_none rfl (Went.refl _ _)
 have hq0 : (((op : Nat) : Int) == 0) = false := by simp; omega
 obtain ⟨aov, capv, rfl⟩ := own_shape hp.blt.row
 have cO := cell_of_one hp.box
 cases hPe : P.isEmpty with
 | true =>
  have hP0 : P = [] := by simpa using hPe
  subst hP0
  have HE : Hid (addIns [] op s = none) := by show _ = _; simp [addIns]
  generalize addIns [] op s = res at HE
  clear hp h hS hcl
  go_enter Tryd.func31, Tryd.ntmps31
  go_wp2
  go_ret
  rw [HE.out]
  exact sres_none rfl (Went.refl _ _)
 | false =>
 obtain ⟨Q, f, rfl⟩ := last_cases hPe
 obtain ⟨us', u, rfl, hul⟩ := us_last (n := Q.length) (by have := hp.blt.len; simpa using this)
 have hQl : (Q ++ [f]).length = Q.length + 1 := by simp
 rw [hQl] at cO hlen
 have hfl := hcl f (by simp)
 have hp' : PBx w O base (Q ++ [f]) (.slice aov (Q.length + 1) capv) (us' ++ [u]) := by rw [hQl] at hp; exact hp
 obtain ⟨g, rfl⟩ : ∃ g, aov = some ⟨g, 0, none⟩ := by
  rcases hp'.blt.row.2 with ⟨e, _⟩ | ⟨g, cap', cur, e, _⟩
  ·simp at e
  ·exact ⟨g, (Value.slice.inj e).1⟩
 obtain ⟨x, s1, e1⟩ : ∃ a t, insR op s = (a, t) := ⟨_, _, rfl⟩
 have C1 : Hid (Calls Tryd.prog 52 #[.pointer (some ⟨R, 0, none⟩), .int .i64 op] w fun e w' => e = .returned x.val ∧ w.grownBy w' (some R) ∧ SR w' N R s1) := by
  have := sinstr_any (B := O) op (by omega) (by omega) h hN hS (by omega)
  rw [e1] at this
  exact this
 have HR : Hid (addIns (Q ++ [f]) op s = if s1.right = true then some (Q ++ [⟨f.params, f.regs, f.code ++ [x]⟩]) else none) := by
  show _ = _
  unfold addIns
  rw [if_neg (by omega), if_neg (by simp), e1]
  dsimp only
  rw [addLast_eq]
 have HP : Hid (PBx w O base (Q ++ [f]) (.slice (some ⟨g, 0, none⟩) (Q.length + 1) capv) (us' ++ [u])) := hp'
 have H0 : Hid (SR w N R s) := h
 have hlt := h.lt
 generalize addIns (Q ++ [f]) op s = res at HR
 obtain ⟨xo, xd, xa, xb, xi⟩ := x
 unfold Ins.val at C1
 dsimp only at C1
 have hn0 : (((Q.length + 1 : Nat) : Int) == 0) = false := by simp; omega
 have hn1 : ((Q.length : Int) + 1 == 0) = false := by simp; omega
 clear e1 hp hp' h hS hcl hPe hul hQl
 go_enter Tryd.func31, Tryd.ntmps31
 go_upto_region 4 with (first
  | (go_at_call 52; refine C1.out.mono ?_; rintro e w1 ⟨rfl, hg1, hr1⟩; have G1 : Hid (Went O w w1) := Went.reader H0.out hg1 (by omega); have P1 : Hid (PBx w1 O base (Q ++ [f]) (.slice (some ⟨g, 0, none⟩) (Q.length + 1) capv) (us' ++ [u])) := HP.out.reader H0.out hg1; have R1 : Hid (SR w1 N R s1) := hr1; clear hg1 hr1 C1))
 have hz1 := G1.out.below.size
 have HLT : Hid (∀ k, u.ownBlock = some k → k < w1.heap.size) := fun k hk => (P1.out.lastCell.2.2.2.2.lt k hk).2
 have HA : Hid (Below w1.heap.size w1 (w1.alloc (.cells #[.int .i64 xo, .int .i64 xd, .int .i64 xa, .int .i64 xb, .int .i64 xi] 51))) := (Below.refl _ _).alloc (Nat.le_refl _) _
 have hOz : O < w1.heap.size := lt_of_block P1.out.box
 have GA : Hid (Went O w (w1.alloc (.cells #[.int .i64 xo, .int .i64 xd, .int .i64 xa, .int .i64 xb, .int .i64 xi] 51))) := G1.out.trans (Went.of_below HA.out (by omega))
 have PA : Hid (PBx (w1.alloc (.cells #[.int .i64 xo, .int .i64 xd, .int .i64 xa, .int .i64 xb, .int .i64 xi] 51)) O base (Q ++ [f]) (.slice (some ⟨g, 0, none⟩) (Q.length + 1) capv) (us' ++ [u])) := P1.out.keep HA.out
 have RA : Hid (SR (w1.alloc (.cells #[.int .i64 xo, .int .i64 xd, .int .i64 xa, .int .i64 xb, .int .i64 xi] 51)) N R s1) := R1.out.kept HA.out
 have f0 : (w1.alloc (.cells #[.int .i64 xo, .int .i64 xd, .int .i64 xa, .int .i64 xb, .int .i64 xi] 51)).cell? ⟨w1.heap.size, 0, none⟩ = some (.int .i64 xo) := by simp
 have f1 : (w1.alloc (.cells #[.int .i64 xo, .int .i64 xd, .int .i64 xa, .int .i64 xb, .int .i64 xi] 51)).cell? ⟨w1.heap.size, 1, none⟩ = some (.int .i64 xd) := by simp
 have f2 : (w1.alloc (.cells #[.int .i64 xo, .int .i64 xd, .int .i64 xa, .int .i64 xb, .int .i64 xi] 51)).cell? ⟨w1.heap.size, 2, none⟩ = some (.int .i64 xa) := by simp
 have f3 : (w1.alloc (.cells #[.int .i64 xo, .int .i64 xd, .int .i64 xa, .int .i64 xb, .int .i64 xi] 51)).cell? ⟨w1.heap.size, 3, none⟩ = some (.int .i64 xb) := by simp
 have f4 : (w1.alloc (.cells #[.int .i64 xo, .int .i64 xd, .int .i64 xa, .int .i64 xb, .int .i64 xi] 51)).cell? ⟨w1.heap.size, 4, none⟩ = some (.int .i64 xi) := by simp
 have hzA : (w1.alloc (.cells #[.int .i64 xo, .int .i64 xd, .int .i64 xa, .int .i64 xb, .int .i64 xi] 51)).heap.size = w1.heap.size + 1 := by simp
 obtain ⟨F, hF⟩ : ∃ F, F = w1.heap.size := ⟨_, rfl⟩
 have hbF : base ≤ F := by omega
 rw [← hF] at f0 f1 f2 f3 f4 hzA hOz HLT ⊢
 generalize w1.alloc (.cells #[.int .i64 xo, .int .i64 xd, .int .i64 xa, .int .i64 xb, .int .i64 xi] 51) = V at GA PA RA f0 f1 f2 f3 f4 hzA ⊢
 clear hF hz1 HA G1 P1 R1 cO
 cases hr : s1.right with
 | false =>
  have HE : Hid (res = none) := by show _ = _; rw [HR.out, if_neg (by simp [hr])]
  go_wp2_with (go_at_call 51; refine (sright_any RA.out).mono ?_; rintro e w3 ⟨rfl, hw3⟩; replace hw3 := hw3.symm; subst hw3; rw [hr])
  go_ret
  rw [HE.out]
  exact sres_none rfl GA.out
 | true =>
  have HE : Hid (res = some (Q ++ [⟨f.params, f.regs, f.code ++ [⟨xo, xd, xa, xb, xi⟩]⟩])) := by show _ = _; rw [HR.out, if_pos hr]
  obtain ⟨hcu, hfu, hcap, hgl, hou⟩ := PA.out.lastCell
  obtain ⟨aou, capu, rfl⟩ := own_shape hou
  have hcO := cell_of_one PA.out.box
  have HOU : Hid _ := hou
  have HFU : Hid _ := hfu
  clear hou hfu
  obtain ⟨n, hn⟩ : ∃ n, n = Q.length := ⟨_, rfl⟩
  have HNQ : Hid (n = Q.length) := hn
  rw [← hn] at hcu hcO hcap hn0 hn1 hlen
  clear hn
  have hw1 : IntKind.i64.wrap ((n : Int) + 1 - 1) = n := by rw [IntKind.wrap_i64]; omega
  go_upto_region 6 with (go_at_call 51; refine (sright_any RA.out).mono ?_; rintro e w3 ⟨rfl, hw3⟩; replace hw3 := hw3.symm; subst hw3; rw [hr])
  go_quiet (fail)
  go_upto_region 7 with fail
  have t0 : (V.drewN nq).cell? ⟨F, 0, none⟩ = some (.int .i64 xo) := f0
  have t1 : (V.drewN nq).cell? ⟨F, 1, none⟩ = some (.int .i64 xd) := f1
  have t2 : (V.drewN nq).cell? ⟨F, 2, none⟩ = some (.int .i64 xa) := f2
  have t3 : (V.drewN nq).cell? ⟨F, 3, none⟩ = some (.int .i64 xb) := f3
  have t4 : (V.drewN nq).cell? ⟨F, 4, none⟩ = some (.int .i64 xi) := f4
  have tu : (V.drewN nq).cell? ⟨g, n * 3 + 2, none⟩ = some (.slice aou f.code.length capu) := hcu
  have hbd : Below V.heap.size V (V.drewN nq) := ⟨rfl, rfl, rfl, Nat.le_refl _, fun _ _ => rfl⟩
  have PB2 : Hid (PBx (V.drewN nq) O base (Q ++ [f]) (.slice (some ⟨g, 0, none⟩) (Q.length + 1) capv) (us' ++ [.slice aou f.code.length capu])) := PA.out.keep hbd
  have GB : Hid (Went O w (V.drewN nq)) := GA.out.trans (Went.of_below hbd (by omega))
  have hzB : (V.drewN nq).heap.size = F + 1 := hzA
  clear hbd f0 f1 f2 f3 f4 hcu hcO PA GA RA hzA hw1
  generalize V.drewN nq = V2 at t0 t1 t2 t3 t4 tu PB2 GB hzB ⊢
  refine wp_region_last (S := fun w' => w'.cell? ⟨g, n * 3 + 2, none⟩ = some (.slice aou f.code.length capu) ∧ w'.cell? ⟨F, 0, none⟩ = some (.int .i64 xo) ∧ w'.cell? ⟨F, 1, none⟩ = some (.int .i64 xd) ∧ w'.cell? ⟨F, 2, none⟩ = some (.int .i64 xa) ∧ w'.cell? ⟨F, 3, none⟩ = some (.int .i64 xb) ∧ w'.cell? ⟨F, 4, none⟩ = some (.int .i64 xi)) _ 10 (by kernel_rfl) (by kernel_rfl) rfl ⟨tu, t0, t1, t2, t3, t4⟩ (fun hHeld => ?_)
  simp only [List.pop_toArray, List.dropLast]
  refine tkA (i := 0) (v := ?_) rfl (Or.inl ⟨by rfl, ?_⟩) ?_
  rotate_left
  ·(intro w hSw; (try dsimp only at hSw); go_simp; try (with_reducible rfl))
  (try simp only [zA])
  refine tkA (i := 1) (v := ?_) rfl (Or.inl ⟨by rfl, ?_⟩) ?_
  rotate_left
  ·(intro w hSw; (try dsimp only at hSw); go_simp; try (with_reducible rfl))
  (try simp only [Act.put])
  refine tkA (i := 2) (v := ?_) rfl (Or.inl ⟨by rfl, ?_⟩) ?_
  rotate_left
  ·(intro w hSw; (try dsimp only at hSw); go_simp; try (with_reducible rfl))
  (try simp only [Act.put])
  refine tkA (i := 3) (v := ?_) rfl (Or.inl ⟨by rfl, ?_⟩) ?_
  rotate_left
  ·(intro w hSw; (try dsimp only at hSw); go_simp; try (with_reducible rfl))
  (try simp only [Act.put])
  refine tkA (i := 4) (v := ?_) rfl (Or.inl ⟨by rfl, ?_⟩) ?_
  rotate_left
  ·(intro w hSw; (try dsimp only at hSw); go_simp; try (with_reducible rfl))
  (try simp only [Act.put])
  refine tkA (i := 5) (v := ?_) rfl (Or.inl ⟨by rfl, ?_⟩) ?_
  rotate_left
  ·(intro w hSw; (try dsimp only at hSw); go_simp; try (with_reducible rfl))
  (try simp only [Act.put])
  have o0 := cell_alloc (show V2.drew.cell? _ = _ from tu)
  have d0 := cell_alloc (show V2.drew.cell? _ = _ from t0)
  have d1 := cell_alloc (show V2.drew.cell? _ = _ from t1)
  have d2 := cell_alloc (show V2.drew.cell? _ = _ from t2)
  have d3 := cell_alloc (show V2.drew.cell? _ = _ from t3)
  have d4 := cell_alloc (show V2.drew.cell? _ = _ from t4)
  refine wpAnyH_ready (rs := [6]) (by kernel_rfl) (by simp) ?_
  refine AllReadyH.cons rfl (fun K hK => ?_) AllReadyH.nil
  go_simp
  refine hK.out _ _ (⟨o0 _, d0 _, d1 _, d2 _, d3 _, d4 _⟩) (fun hHeld => ?_)
  clear hK K
  (try simp only [zB])
  (try simp only [zA])
  have HW : Hid (PBx (V2.alloc (.cells #[.int .i64 xo, .int .i64 xd, .int .i64 xa, .int .i64 xb, .int .i64 xi] 51)).drew O base (Q ++ [f]) (.slice (some ⟨g, 0, none⟩) (Q.length + 1) capv) (us' ++ [.slice aou f.code.length capu])) := PB2.out.keep (((Below.refl _ _).alloc (Nat.le_refl _) _).drew)
  have own' : (V2.alloc (.cells #[.int .i64 xo, .int .i64 xd, .int .i64 xa, .int .i64 xb, .int .i64 xi] 51)).drew.ownsRow base 51 5 (.slice aou f.code.length capu) f.code.length (codeCells f.code) := HW.out.lastCell.2.2.2.2
  have news' : ∀ (i : Nat) (u : Value), (insCells ⟨xo, xd, xa, xb, xi⟩)[i]? = some u → (V2.alloc (.cells #[.int .i64 xo, .int .i64 xd, .int .i64 xa, .int .i64 xb, .int .i64 xi] 51)).drew.cell? ((⟨V2.heap.size, 0, none⟩ : Addr).add i) = some u := news_list V2 (insCells ⟨xo, xd, xa, xb, xi⟩) _ _ rfl
  rw [hzB] at news'
  refine wpAnyH_ready (rs := [7]) (by kernel_rfl) (by simp) ?_
  refine AllReadyH.cons rfl (fun K hK => ?_) AllReadyH.nil
  refine step_append_lies _ (by rfl) (.tmp 40) (.tmp 42) 35 (by rfl) base 51 iI _ 5 40 Tryd.underlying35 hiI hzI0 hzI1 hzI2 rfl (by decide) (.slice aou f.code.length capu) f.code.length (codeCells f.code) (by rfl) own' ⟨F + 1, 0, none⟩ 1 1 (insCells ⟨xo, xd, xa, xb, xi⟩) (by rfl) rfl news' (fun u hu => codeCells_one [⟨xo, xd, xa, xb, xi⟩] u (by simpa [codeCells] using hu)) (by omega) (by unfold maxLen; omega) (by omega) (by simp; omega) (F + 2) (by simp; omega) ?_
  intro g4 cap4 w4 hown4 hg4 hat4 hlt4
  have BP := HW.out.addIns hg4 hown4 (hat4.imp id (fun h => by simp; omega))
  rw [← HNQ.out] at BP
  have hneF : some F ≠ (Value.slice aou f.code.length capu).ownBlock := fun e => by have := HLT.out F e.symm; omega
  have r0 : w4.cell? ⟨g, n * 3 + 2, none⟩ = some (.slice aou f.code.length capu) := (World.cell?_of_block BP.1).trans (o0 _)
  have rf : w4.frozen? ⟨g, n * 3 + 2, none⟩ = false := by
   have h4 := HW.out.lastCell.2.1
   rw [← HNQ.out] at h4
   simp only [World.frozen?] at h4 ⊢
   rw [BP.1]
   exact h4
  have s0 := hg4.cell (d0 _) hneF
  have s1 := hg4.cell (d1 _) hneF
  have s2 := hg4.cell (d2 _) hneF
  have s3 := hg4.cell (d3 _) hneF
  have s4 := hg4.cell (d4 _) hneF
  refine hK.out _ _ (⟨r0, s0, s1, s2, s3, s4⟩) (fun hHeld => ?_)
  clear hK K
  (try simp only [zB])
  (try simp only [zA])
  refine tkA (i := 8) (v := ?_) rfl (Or.inl ⟨by rfl, ?_⟩) ?_
  rotate_left
  ·(intro w hSw; (try dsimp only at hSw); go_simp; try (with_reducible rfl))
  (try simp only [zA])
  refine tkA (i := 9) (v := ?_) rfl (Or.inl ⟨by rfl, ?_⟩) ?_
  rotate_left
  ·(intro w hSw; (try dsimp only at hSw); go_simp; try (with_reducible rfl))
  (try simp only [Act.put])
  refine wpAnyH_done (by kernel_rfl) ?_ _
  refine Or.inl ?_
  (try simp only [zB])
  go_simp
  have BQ : Hid (PBx (w4.setCell ⟨g, n * 3 + 2, none⟩ (.slice (some ⟨g4, 0, none⟩) (f.code.length + 1) cap4)) O base (Q ++ [⟨f.params, f.regs, f.code ++ [⟨xo, xd, xa, xb, xi⟩]⟩]) (.slice (some ⟨g, 0, none⟩) (Q.length + 1) capv) (us' ++ [.slice (some ⟨g4, 0, none⟩) (f.code.length + 1) cap4])) := (by rw [← HNQ.out]; exact BP.2.1)
  have BW : Hid (Went O w (w4.setCell ⟨g, n * 3 + 2, none⟩ (.slice (some ⟨g4, 0, none⟩) (f.code.length + 1) cap4))) := GB.out.trans (((Went.alloc (by omega) _).trans (Went.drew _)).trans BP.2.2)
  clear BP hHeld r0 s0 s1 s2 s3 s4 own' news' HW hown4 hg4 hat4 hlt4 hneF o0 d0 d1 d2 d3 d4 t0 t1 t2 t3 t4 tu
  go_wp2
  go_ret
  rw [HE.out]
  exact ⟨rfl, BW.out, fun P3 h => by cases h; exact ⟨_, _, BQ.out⟩⟩
end Go.Proofs.YtfacdhkadnmnlaaDoor
