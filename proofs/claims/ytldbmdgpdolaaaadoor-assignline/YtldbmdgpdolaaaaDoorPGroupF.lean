import Derived.Test.YtldbmdgpdolaaaaDoorProg
import Derived.WalkLawsBesides
import Derived.Test.YtldbmdgpdolaaaaDoorPXOpen
import Derived.BigRegion
import Derived.Deep.DeepCutAuto
import Derived.Deep.LoopGhost
import Derived.Deep.RegionHeld3
import Derived.Deep.RegionWith
import Derived.Test.YtldbmdgpdolaaaaDoorPGroupA
import Derived.Test.YtldbmdgpdolaaaaDoorPGroupB
namespace Go.Proofs.YtldbmdgpdolaaaaDoor
open Go Go.RowKit

def pickI (n many : Int) : Int := (if n < 0 then -(n + 1) else n) % many
theorem pickI_bounds (n many : Int) (h : 0 < many) : 0 ≤ pickI n many ∧ pickI n many < many := by
  unfold pickI
  exact ⟨Int.emod_nonneg _ (by omega), Int.emod_lt_of_pos _ h⟩
set_option maxRecDepth 100000 in
theorem picked_any (n many : Int) (w : World) (hn : I64 n) (h1 : 0 < many) (h2 : many ≤ 1000000) :
    Calls Tryd.prog 6 #[.int .i64 n, .int .i64 many] w fun e w' => e = .returned (.int .i64 (pickI n many)) ∧ w' = w := by
  unfold I64 at hn
  have hm : ¬ many = 0 := by omega
  by_cases h : n < 0
  · have e : pickI n many = (-(n + 1)) % many := by unfold pickI; rw [if_pos h]
    rw [e]
    clear e
    go_enter Tryd.func6, Tryd.ntmps6
    go_wp2
    go_ret
    exact ⟨ret_int (by rw [← Int.neg_tmod, Int.tmod_eq_emod_of_nonneg (by omega)]), rfl⟩
  · have e : pickI n many = n % many := by unfold pickI; rw [if_neg h]
    rw [e]
    clear e
    go_enter Tryd.func6, Tryd.ntmps6
    go_wp2
    go_ret
    exact ⟨ret_int (by first | rfl | omega), rfl⟩
end Go.Proofs.YtldbmdgpdolaaaaDoor
namespace Go.Proofs.YtldbmdgpdolaaaaDoor
open Go Go.RowKit

theorem reads_regs {P : List Fn} (h : codeProg P = 0) {f : Fn} (hf : f ∈ P) {x : Ins} (hx : x ∈ f.code) : ∀ r ∈ readsL P x, 0 ≤ r ∧ r < f.regs := by
  obtain ⟨h1, h4, hall⟩ := codeProg_zero h
  obtain ⟨_, _, _, _, _, _, _, hi⟩ := codeFunc_zero (hall f hf)
  have hz := hi x hx
  rw [instr_same] at hz
  unfold refInstr at hz
  by_cases k1 : inB x.op 1 19 = false
  · rw [if_pos k1] at hz; cases hz
  rw [if_neg k1] at hz
  by_cases k2 : refOk1 x f.regs = false
  · rw [if_pos k2] at hz; cases hz
  have k2 : refOk1 x f.regs = true := by simpa using k2
  simp only [refOk1, Bool.and_eq_true] at k2
  obtain ⟨⟨_, m2⟩, m3⟩ := k2
  have isA : rdA P x = true → readsAB x.op = true := fun h => by
    unfold rdA at h
    split at h
    · rename_i e; rw [e]; decide
    · exact h
  have isB : rdB P x = true → readsBB x.op = true := fun h => by
    unfold rdB at h
    split at h
    · rename_i e; rw [e]; decide
    · exact h
  intro r hr
  unfold readsL at hr
  rcases List.mem_append.1 hr with hr | hr
  · split at hr
    · rename_i ha
      simp at hr
      subst hr
      rw [isA ha] at m2
      have : 0 ≤ x.a ∧ x.a ≤ f.regs - 1 := by simpa [regMayB, inB] using m2
      omega
    · simp at hr
  · split at hr
    · rename_i ha
      simp at hr
      subst hr
      rw [isB ha] at m3
      have : 0 ≤ x.b ∧ x.b ≤ f.regs - 1 := by simpa [regMayB, inB] using m3
      omega
    · simp at hr
theorem prove_zero {P : List Fn} (h : codeProg P = 0) {f : Fn} (hf : f ∈ P) {L : List Int} (hL : SureSpec f L) (hr : ∀ pc, pc < f.code.length → ∀ r ∈ readsL P (insD f pc), ¬ Way f r.toNat pc) (he : ¬ Way f 63 f.code.length) : proveE P f L = 0 := by
  have hfo := (fnOk_of h hf).1
  rw [prove_good, if_pos]
  · rcases hL.2 f.code.length (by omega) with ⟨_, e⟩ | ⟨hw, _⟩
    · exact e
    · exact absurd hw he
  · intro k hk
    rcases hL.2 k (by omega) with ⟨_, e⟩ | ⟨_, m, hm, e, hb⟩
    · rw [e]; rfl
    · rw [e]
      unfold badB
      have hd : decide (0 ≤ (m : Int)) = true := by simp
      rw [hd, Bool.true_and, List.any_eq_false]
      intro r hr2
      have hrr := reads_regs h hf (by rw [insD_eq hk] at hr2; exact List.getElem_mem hk) r (by rw [insD_eq hk] at hr2; exact hr2)
      have hregs : f.regs ≤ 12 := (codeFunc_zero ((codeProg_zero h).2.2 f hf)).2.1
      rw [hasB_bit]
      have := (hb r.toNat (by omega)).2 (hr k hk r hr2)
      simp [this]
theorem checks_all {P : List Fn} : ∀ {fs : List Fn}, (∀ f ∈ fs, ProvesTo P f 0) → ChecksTo P fs 0
  | [], _ => rfl
  | f :: fs, h => ⟨0, h f (by simp), Or.inr ⟨rfl, checks_all fun g hg => h g (by simp [hg])⟩⟩
end Go.Proofs.YtldbmdgpdolaaaaDoor
