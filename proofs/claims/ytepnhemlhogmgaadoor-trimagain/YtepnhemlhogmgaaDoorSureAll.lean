/- Contracts of proof.Sure and of the document's SureOf. -/
import Derived.Test.YtepnhemlhogmgaaDoorSure
import Derived.Test.YtepnhemlhogmgaaDoorSureOf
import Derived.Test.YtepnhemlhogmgaaDoorRefWalk
namespace Go.Proofs.YtepnhemlhogmgaaDoor
open Go Go.RowKit

def fnAt (P : List Fn) (fn : Int) : Fn := P.getD fn.toNat ⟨0, 0, []⟩
/-- What P3.2 answers. -/
def SureAns (P : List Fn) (fn : Int) (A : List Int) : Prop :=
  (fnErr P fn ≠ 0 ∧ A = []) ∨ (fnErr P fn = 0 ∧ ∃ L, SureSpec (fnAt P fn) L ∧ A = L.take (fnAt P fn).code.length)
theorem sureAns_unique {P : List Fn} {fn : Int} {A A' : List Int} (h : SureAns P fn A) (h' : SureAns P fn A') : A = A' := by
  rcases h with ⟨h1, rfl⟩ | ⟨h1, L, hL, rfl⟩ <;> rcases h' with ⟨h2, rfl⟩ | ⟨h2, L', hL', rfl⟩
  · rfl
  · exact absurd h2 h1
  · exact absurd h1 h2
  · rw [sure_unique hL hL']

/-- A function of a program that lies in memory. -/
theorem prog_fn {w : World} {v : Value} {P : List Fn} (hv : ProgVal w v P) {k : Nat} (hk : k < P.length) :
    ∃ b off cap u, v = .slice (some ⟨b, off, none⟩) P.length cap ∧ w.cell? ⟨b, off + k * 3, none⟩ = some (.int .i64 P[k].params) ∧ w.cell? ⟨b, off + k * 3 + 1, none⟩ = some (.int .i64 P[k].regs) ∧
      w.cell? ⟨b, off + k * 3 + 2, none⟩ = some u ∧ CodeVal w u P[k].code ∧ cap ≤ 9223372036854775807 ∧ P.length ≤ cap := by
  obtain ⟨ao, b, off, n, cap, rfl, ⟨hlen, haddr, hat⟩, hcap, hmax⟩ := hv
  subst hlen
  obtain rfl := haddr (by omega)
  obtain ⟨u, d0, d1, d2, hcv⟩ := hat k hk
  exact ⟨b, off, cap, u, rfl, d0, d1, d2, hcv, by simpa [maxLen] using hmax, hcap.1⟩

theorem sure_any (P : List Fn) (hP : codeProg P = 0) (f : Fn) (hf : f ∈ P) (cv : Value) (w : World) (ht : TabOk w) (hcv : CodeVal w cv f.code) :
    Calls Tryd.prog 38 #[.agg #[.int .i64 f.params, .int .i64 f.regs, cv]] w
      fun e w' => ∃ v' L, e = .returned (.tuple #[v', .int .i64 (L.getD f.code.length 0)]) ∧ SureSpec f L ∧ IntsVal w' v' (L.take f.code.length) ∧ Below w.heap.size w w' := by
  obtain ⟨hok, hins⟩ := fnOk_of hP hf
  obtain ⟨p, hp⟩ := Int.eq_ofNat_of_zero_le hok.p0
  exact sure_lit P f hok hins cv w ht hcv p hp (by have := hok.p2; omega)

set_option maxRecDepth 100000 in
set_option maxHeartbeats 1000000 in
theorem sure_all (P : List Fn) (v : Value) (fn : Int) (w : World) (ht : TabOk w) (hv : ProgVal w v P) :
    Calls Tryd.prog 23 #[.agg #[v], .int .i64 fn] w fun e w' => ∃ v' A, e = .returned (.tuple #[v', .int .i64 (fnErr P fn)]) ∧ SureAns P fn A ∧ IntsVal w' v' A ∧ Below w.heap.size w w' := by
  have hbx : ∀ o, Below w.heap.size w (w.alloc o) := fun o => (Below.refl _ _).alloc (Nat.le_refl _) _
  have hC := fun o => checkFunction_any P v fn (w.alloc o) (ht.below (hbx o)) (hv.keeps (keeps_below (hbx o)))
  by_cases h : fnErr P fn = 0
  · have HANS : Hid (∀ L, SureSpec (fnAt P fn) L → SureAns P fn (L.take (fnAt P fn).code.length)) := fun L hL => Or.inr ⟨h, L, hL, rfl⟩
    obtain ⟨h0, f0, f1⟩ := fnErr_zero h
    obtain ⟨k, rfl⟩ := Int.eq_ofNat_of_zero_le f0
    have hk : k < P.length := by omega
    have e : fnAt P (k : Int) = P[k] := by simp [fnAt, List.getD, hk]
    rw [e] at HANS
    have hS := fun W (hT : TabOk W) cv (hcv : CodeVal W cv P[k].code) => sure_any P h0 P[k] (List.getElem_mem hk) cv W hT hcv
    obtain ⟨b, off, cap, u, rfl, d0, d1, d2, hcv, hm, hc⟩ := prog_fn hv hk
    rw [h] at hC ⊢
    generalize hg : P[k] = g at HANS hS d0 d1 hcv
    have hcu := fun o => hcv.keeps (keeps_below (hbx o))
    obtain ⟨ao1, b1, off1, n1, cap1, rfl, _⟩ := hcv
    have hT := fun o => ht.below (hbx o)
    have t0 := fun o => cell_alloc d0 o
    have t1 := fun o => cell_alloc d1 o
    have t2 := fun o => cell_alloc d2 o
    have hkI : (k : Int) < P.length := by omega
    clear hg e f0 f1 h0 h hk d0 d1 d2 hbx ht hv
    go_enter Tryd.func23, Tryd.ntmps23
    go_wp2_with (first
      | (go_at_call 37; refine (hC _).mono ?_; rintro e w1 ⟨rfl, hb1⟩; have k0 := keeps_below hb1 ⟨w.heap.size, 0, none⟩ (.slice (some ⟨b, off, none⟩) P.length cap) (by simp); have k1 := keeps_below hb1 _ _ (t0 _); have k2 := keeps_below hb1 _ _ (t1 _); have k3 := keeps_below hb1 _ _ (t2 _); have hT1 := (hT _).below hb1; have hcu1 := (hcu _).keeps (keeps_below hb1))
      | (go_at_call 38; refine (hS _ hT1 _ hcu1).mono ?_; rintro e w2 ⟨v2, L, rfl, hsp, hI, hb2⟩; have hI' := hI; obtain ⟨ao2, b2, off2, n2, cap2, rfl, -⟩ := hI'))
    go_ret2
    exact ⟨_, _, rfl, HANS.out L hsp, hI, below_call (((Below.refl _ _).alloc (Nat.le_refl _) _).trans (hb1.mono (by simp))) (by have := hb1.size; simp at this; omega) hb2⟩
  · have HANS : Hid (SureAns P fn []) := Or.inl ⟨h, rfl⟩
    have h' : (fnErr P fn != 0) = true := by simpa using h
    obtain ⟨ao, b, off, n, cap, rfl, _⟩ := hv
    clear h ht hbx
    go_enter Tryd.func23, Tryd.ntmps23
    go_wp2_with (go_at_call 37; refine (hC _).mono ?_; rintro e w1 ⟨rfl, hb1⟩)
    go_ret2
    exact ⟨_, _, rfl, HANS.out, ints_nil _, ((Below.refl _ _).alloc (Nat.le_refl _) _).trans (hb1.mono (by simp))⟩

end Go.Proofs.YtepnhemlhogmgaaDoor
