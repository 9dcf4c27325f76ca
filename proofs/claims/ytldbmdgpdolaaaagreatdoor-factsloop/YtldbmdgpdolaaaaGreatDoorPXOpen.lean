import Derived.Deep.Fields
import Derived.Deep.Slices
import Derived.OpenShut
import Derived.ProofKit
import Derived.SizedLaws
import Derived.Test.YtldbmdgpdolaaaaGreatDoorPGroupA
import Derived.LaidMore
import Derived.Lib.LaidTab
import Derived.Stop.Joined
import Derived.Test.YtldbmdgpdolaaaaGreatDoorRows
namespace Go.Proofs.YtldbmdgpdolaaaaGreatDoor
open Go Go.RowKit Go.Deep Go.ChangeShapes Go.WideShapes

def I64 (n : Int) : Prop := -9223372036854775808 ≤ n ∧ n ≤ 9223372036854775807
def Ins.wf (x : Ins) : Prop := I64 x.op ∧ I64 x.dst ∧ I64 x.a ∧ I64 x.b ∧ I64 x.imm
def Fn.wf (f : Fn) : Prop := I64 f.params ∧ I64 f.regs ∧ ∀ x ∈ f.code, x.wf
section
variable {H : Type} {enc : TypeId × Value → H} {P : Program} {w : World} {base : Nat} {spare : Nat → Bool} {held : Bool}

variable {tint tI tIs tF tFs : TypeId}

end

end Go.Proofs.YtldbmdgpdolaaaaGreatDoor
namespace Go.Proofs.YtldbmdgpdolaaaaGreatDoor
open Go Go.ChangeShapes Go.WideShapes Go.ChangeAt Go.RowKit

theorem own : ownKnob Tryz.prog.godebug = none := by kernel_rfl
theorem gParts : Tryz.prog.globalNamed "tierline/ops.parts" = some 3 := by kernel_rfl
theorem tParts : (Tryz.prog.globals[3]?).map (·.type) = some 200 := by kernel_rfl
theorem cells3 : Tryz.prog.cellsOf 3 = 1 := by kernel_rfl
theorem cellsParts : Tryz.prog.cellsOf 200 = 20 := by kernel_rfl
theorem laidOut : laidOutB Tryz.prog = true := by kernel_rfl
end Go.Proofs.YtldbmdgpdolaaaaGreatDoor
namespace Go.Proofs.YtldbmdgpdolaaaaGreatDoor
open Go Go.RowKit

inductive FV
  | never
  | known (n : Int)
  | many
deriving DecidableEq
def FV.kind : FV → Int
  | .never => 0
  | .known _ => 1
  | .many => 2
def FV.num : FV → Int
  | .known n => n
  | _ => 0
def FV.le : FV → FV → Prop
  | .never, _ => True
  | .known a, .known b => a = b
  | _, .many => True
  | _, _ => False
theorem FV.ext {a b : FV} (h1 : a.kind = b.kind) (h2 : a.num = b.num) : a = b := by
  cases a <;> cases b <;> simp [FV.kind, FV.num] at h1 h2 ⊢
  exact h2
theorem FV.le_refl (a : FV) : a.le a := by cases a <;> simp [FV.le]
theorem FV.le_trans {a b c : FV} (h : a.le b) (k : b.le c) : a.le c := by
  cases a <;> cases b <;> cases c <;> simp [FV.le] at h k ⊢
  exact h.trans k
theorem FV.le_antisymm {a b : FV} (h : a.le b) (k : b.le a) : a = b := by
  cases a <;> cases b <;> simp [FV.le] at h k ⊢
  exact h
theorem FV.never_le (a : FV) : FV.never.le a := by cases a <;> trivial
theorem FV.le_many (a : FV) : a.le .many := by cases a <;> trivial
theorem FV.le_never {a : FV} (h : a.le .never) : a = .never := by cases a <;> simp [FV.le] at h ⊢
def eitherF (a b : FV) : FV := if a = .never ∨ a = b then b else if b = .never then a else .many
theorem eitherF_left (a b : FV) : a.le (eitherF a b) := by
  unfold eitherF
  split
  · rename_i h
    rcases h with rfl | rfl
    · exact FV.never_le _
    · exact FV.le_refl _
  · split
    · exact FV.le_refl _
    · exact FV.le_many _
theorem eitherF_right (a b : FV) : b.le (eitherF a b) := by
  unfold eitherF
  split
  · exact FV.le_refl _
  · split
    · rename_i h; rw [h]; exact FV.never_le _
    · exact FV.le_many _
theorem eitherF_least {a b c : FV} (h : a.le c) (k : b.le c) : (eitherF a b).le c := by
  unfold eitherF
  split
  · exact k
  · split
    · exact h
    · rename_i h1 h2
      cases a <;> cases b <;> cases c <;> simp_all [FV.le]
abbrev Facts := Nat → FV
abbrev Ways := List (Int × Int)
def leF (F F' : Facts) : Prop := ∀ v, (F v).le (F' v)
theorem leF.refl (F : Facts) : leF F F := fun _ => FV.le_refl _
theorem leF.trans {F F' F'' : Facts} (h : leF F F') (k : leF F' F'') : leF F F'' := fun v => FV.le_trans (h v) (k v)
def updF (F : Facts) (v : Nat) (a : FV) : Facts := fun u => if u = v then a else F u
theorem updF_same (F : Facts) (v : Nat) (a : FV) : updF F v a v = a := if_pos rfl
theorem updF_other (F : Facts) {u v : Nat} (a : FV) (h : u ≠ v) : updF F v a u = F u := if_neg h
theorem updF_self (F : Facts) (v : Nat) : updF F v (F v) = F := by
  funext u; unfold updF; split
  · rename_i h; rw [h]
  · rfl
theorem updF_le {F : Facts} {v : Nat} {a : FV} (h : (F v).le a) : leF F (updF F v a) := fun u => by
  by_cases e : u = v
  · rw [e, updF_same]; exact h
  · rw [updF_other _ _ e]; exact FV.le_refl _
structure Site where
  blk : Nat
  id : Nat
  tr : Facts → Ways → FV
structure Know where
  n : Nat
  par : Nat
  prev : Nat → List Int
  goes : Nat → Facts → List Int
  site : Site → Prop
def Know.met (C : Know) (G : Ways) (b : Nat) : Prop := ∃ z ∈ C.prev b, (z, (b : Int)) ∈ G
theorem Know.met_mono {C : Know} {G G' : Ways} (h : ∀ x ∈ G, x ∈ G') {b : Nat} (hm : C.met G b) : C.met G' b := by
  obtain ⟨z, hz, hg⟩ := hm; exact ⟨z, hz, h _ hg⟩
structure Know.Ok (C : Know) : Prop where
  blk : ∀ s, C.site s → s.blk < C.n ∧ C.par ≤ s.id
  mono : ∀ s, C.site s → ∀ F F' G G', leF F F' → (∀ x ∈ G, x ∈ G') → (s.tr F G).le (s.tr F' G')
  uniq : ∀ s s', C.site s → C.site s' → s.id = s'.id → s = s'
  goes : ∀ b, b < C.n → ∀ F F', leF F F' → ∀ z ∈ C.goes b F, z ∈ C.goes b F'
structure Know.Closed (C : Know) (F : Facts) (G : Ways) : Prop where
  par : ∀ v, v < C.par → F v = .many
  start : ((-1, 0) : Int × Int) ∈ G
  site : ∀ s, C.site s → C.met G s.blk → (s.tr F G).le (F s.id)
  go : ∀ b, b < C.n → C.met G b → ∀ z ∈ C.goes b F, ((b : Int), z) ∈ G
structure Know.Inv (C : Know) (F : Facts) (G : Ways) : Prop where
  par : ∀ v, v < C.par → F v = .many
  start : ((-1, 0) : Int × Int) ∈ G
  asc : ∀ s, C.site s → F s.id ≠ .never → C.met G s.blk ∧ (F s.id).le (s.tr F G)
  least : ∀ F' G', C.Closed F' G' → leF F F' ∧ ∀ x ∈ G, x ∈ G'
theorem Know.Inv.new {C : Know} (hC : C.Ok) : C.Inv (fun v => if v < C.par then .many else .never) [(-1, 0)] := by
  refine ⟨fun v hv => if_pos hv, by simp, fun s hs h => ?_, fun F' G' h => ⟨fun v => ?_, fun x hx => ?_⟩⟩
  · rw [if_neg (by have := (hC.blk s hs).2; omega)] at h; exact absurd rfl h
  · show FV.le (if v < C.par then .many else .never) _
    by_cases hv : v < C.par
    · rw [if_pos hv, h.par v hv]; exact FV.le_refl _
    · rw [if_neg hv]; exact FV.never_le _
  · have : x = (-1, 0) := by simpa using hx
    rw [this]; exact h.start
theorem Know.Inv.rises {C : Know} {F : Facts} {G : Ways} (h : C.Inv F G) {s : Site} (hs : C.site s) : (F s.id).le (s.tr F G) := by
  by_cases hn : F s.id = .never
  · rw [hn]; exact FV.never_le _
  · exact (h.asc s hs hn).2
theorem Know.Inv.rise {C : Know} (hC : C.Ok) {F : Facts} {G : Ways} (h : C.Inv F G) {s : Site} (hs : C.site s) (hm : C.met G s.blk) : C.Inv (updF F s.id (s.tr F G)) G := by
  have hle : leF F (updF F s.id (s.tr F G)) := updF_le (h.rises hs)
  refine ⟨fun v hv => ?_, h.start, fun s' hs' hn => ?_, fun F' G' hc => ⟨fun v => ?_, (h.least F' G' hc).2⟩⟩
  · rw [updF_other _ _ (by have := (hC.blk s hs).2; omega)]; exact h.par v hv
  · by_cases e : s'.id = s.id
    · have e := hC.uniq s' s hs' hs e
      subst e
      refine ⟨hm, ?_⟩
      rw [updF_same]
      exact hC.mono s' hs _ _ _ _ hle (fun _ h => h)
    · rw [updF_other _ _ e] at hn ⊢
      obtain ⟨h1, h2⟩ := h.asc s' hs' hn
      exact ⟨h1, FV.le_trans h2 (hC.mono s' hs' _ _ _ _ hle (fun _ h => h))⟩
  · obtain ⟨h1, h2⟩ := h.least F' G' hc
    by_cases e : v = s.id
    · rw [e, updF_same]
      exact FV.le_trans (hC.mono s hs _ _ _ _ h1 h2) (hc.site s hs (Know.met_mono h2 hm))
    · rw [updF_other _ _ e]; exact h1 v
theorem Know.Inv.go {C : Know} (hC : C.Ok) {F : Facts} {G : Ways} (h : C.Inv F G) {b : Nat} (hb : b < C.n) (hm : C.met G b) {z : Int} (hz : z ∈ C.goes b F) {G' : Ways} (hG : ∀ x, x ∈ G' ↔ x = ((b : Int), z) ∨ x ∈ G) : C.Inv F G' := by
  have hsub : ∀ x ∈ G, x ∈ G' := fun x hx => (hG x).2 (Or.inr hx)
  refine ⟨h.par, hsub _ h.start, fun s hs hn => ?_, fun F' G2 hc => ?_⟩
  · obtain ⟨h1, h2⟩ := h.asc s hs hn
    exact ⟨Know.met_mono hsub h1, FV.le_trans h2 (hC.mono s hs _ _ _ _ (leF.refl _) hsub)⟩
  · obtain ⟨h1, h2⟩ := h.least F' G2 hc
    refine ⟨h1, fun x hx => ?_⟩
    rcases (hG x).1 hx with rfl | hx
    · exact hc.go b hb (Know.met_mono h2 hm) z (hC.goes b hb _ _ h1 z hz)
    · exact h2 x hx
def rkF : FV → Nat
  | .never => 0
  | .known _ => 1
  | .many => 2
theorem rkF_le {a b : FV} (h : a.le b) : rkF a ≤ rkF b := by cases a <;> cases b <;> simp [FV.le, rkF] at h ⊢
theorem rkF_lt {a b : FV} (h : a.le b) (hn : a ≠ b) : rkF a < rkF b := by cases a <;> cases b <;> simp_all [FV.le, rkF]
theorem rkF_two (a : FV) : rkF a ≤ 2 := by cases a <;> simp [rkF]
def sumF (F : Facts) : Nat → Nat
  | 0 => 0
  | v + 1 => sumF F v + rkF (F v)
theorem sumF_le {F F' : Facts} (h : leF F F') : ∀ v, sumF F v ≤ sumF F' v
  | 0 => Nat.le_refl _
  | v + 1 => Nat.add_le_add (sumF_le h v) (rkF_le (h v))
theorem sumF_lt {F F' : Facts} (h : leF F F') {u : Nat} (hn : F u ≠ F' u) : ∀ v, u < v → sumF F v < sumF F' v
  | 0, hu => by omega
  | v + 1, hu => by
    rw [sumF, sumF]
    by_cases e : u = v
    · subst e; have := sumF_le h u; have := rkF_lt (h u) hn; omega
    · have := sumF_lt h hn v (by omega); have := rkF_le (h v); omega
theorem sumF_two (F : Facts) : ∀ v, sumF F v ≤ 2 * v
  | 0 => Nat.le_refl _
  | v + 1 => by rw [sumF]; have := sumF_two F v; have := rkF_two (F v); omega
structure Know.Mid (C : Know) (VN : Nat) (F0 : Facts) (G0 : Ways) (F : Facts) (G : Ways) (rose : Bool) (doneS : Site → Prop) (doneB : Nat → Prop) : Prop where
  inv : C.Inv F G
  le : leF F0 F
  sub : ∀ x ∈ G0, x ∈ G
  len : G0.length ≤ G.length
  same : rose = false → F = F0
  more : rose = true → ∃ v, v < VN ∧ F0 v ≠ F v
  grew : G.length = G0.length → G = G0
  site : rose = false → G = G0 → ∀ s, C.site s → doneS s → C.met G0 s.blk → (s.tr F0 G0).le (F0 s.id)
  go : rose = false → G = G0 → ∀ b, doneB b → C.met G0 b → ∀ z ∈ C.goes b F0, ((b : Int), z) ∈ G0
theorem Know.Mid.new {C : Know} {VN : Nat} {F : Facts} {G : Ways} (h : C.Inv F G) : C.Mid VN F G F G false (fun _ => False) (fun _ => False) :=
  ⟨h, leF.refl _, fun _ h => h, Nat.le_refl _, fun _ => rfl, (fun e => by cases e), fun _ => rfl, (fun _ _ _ _ h => h.elim), (fun _ _ _ h => h.elim)⟩
theorem Know.Mid.weak {C : Know} {VN : Nat} {F0 F : Facts} {G0 G : Ways} {rose : Bool} {dS dS' : Site → Prop} {dB dB' : Nat → Prop} (h : C.Mid VN F0 G0 F G rose dS dB) (h1 : ∀ s, C.site s → dS' s → C.met G0 s.blk → dS s) (h2 : ∀ b, dB' b → C.met G0 b → dB b) : C.Mid VN F0 G0 F G rose dS' dB' :=
  ⟨h.inv, h.le, h.sub, h.len, h.same, h.more, h.grew, fun a b s hs hd hm => h.site a b s hs (h1 s hs hd hm) hm, fun a b c hd hm => h.go a b c (h2 c hd hm) hm⟩
theorem Know.Mid.rise {C : Know} (hC : C.Ok) {VN : Nat} {F0 F : Facts} {G0 G : Ways} {rose : Bool} {dS : Site → Prop} {dB : Nat → Prop} (h : C.Mid VN F0 G0 F G rose dS dB) {s : Site} (hs : C.site s) (hv : s.id < VN) (hm : C.met G s.blk) : C.Mid VN F0 G0 (updF F s.id (s.tr F G)) G (rose || decide (F s.id ≠ s.tr F G)) (fun x => dS x ∨ x = s) dB := by
  have hi := h.inv.rise hC hs hm
  have hle : leF F (updF F s.id (s.tr F G)) := updF_le (h.inv.rises hs)
  have hF : F s.id = s.tr F G → updF F s.id (s.tr F G) = F := fun e => by
    rw [← e]; exact updF_self F s.id
  have hr : (rose || decide (F s.id ≠ s.tr F G)) = false → rose = false ∧ F s.id = s.tr F G := fun e => by
    rw [Bool.or_eq_false_iff] at e
    exact ⟨e.1, Classical.not_not.1 (of_decide_eq_false e.2)⟩
  refine ⟨hi, h.le.trans hle, h.sub, h.len, fun e => ?_, fun e => ?_, h.grew, fun e eG x hx hd hmx => ?_, fun e eG b hd hmb => ?_⟩
  · obtain ⟨e1, e2⟩ := hr e
    rw [hF e2]; exact h.same e1
  · rw [Bool.or_eq_true] at e
    by_cases e3 : F s.id = s.tr F G
    · rw [hF e3]
      rcases e with e | e
      · exact h.more e
      · exact absurd e3 (of_decide_eq_true e)
    · refine ⟨s.id, hv, fun e4 => ?_⟩
      rw [updF_same] at e4
      have h1 := h.le s.id
      have h2 := h.inv.rises hs
      rw [e4] at h1
      exact e3 (FV.le_antisymm h2 h1)
  · obtain ⟨e1, e2⟩ := hr e
    rcases hd with hd | rfl
    · exact h.site e1 eG x hx hd hmx
    · have e3 := h.same e1
      rw [← e3, ← eG, ← e2]
      exact FV.le_refl _
  · obtain ⟨e1, -⟩ := hr e
    exact h.go e1 eG b hd hmb
theorem Know.Mid.go1 {C : Know} (hC : C.Ok) {VN : Nat} {F0 F : Facts} {G0 G G' : Ways} {rose : Bool} {dS : Site → Prop} {dB : Nat → Prop} (h : C.Mid VN F0 G0 F G rose dS dB) {b : Nat} (hb : b < C.n) (hm : C.met G b) {z : Int} (hz : z ∈ C.goes b F) (hG : G' = if ((b : Int), z) ∈ G then G else G ++ [((b : Int), z)]) : C.Mid VN F0 G0 F G' rose dS dB := by
  have hx : ∀ x, x ∈ G' ↔ x = ((b : Int), z) ∨ x ∈ G := fun x => by
    rw [hG]; split
    · rename_i h1
      exact ⟨Or.inr, fun h2 => h2.elim (fun e => by rw [e]; exact h1) id⟩
    · rw [List.mem_append, List.mem_singleton]; exact Or.comm
  have hl : G.length ≤ G'.length := by rw [hG]; split <;> simp
  have hgr : G'.length = G0.length → G' = G ∧ G.length = G0.length := fun e => by
    have := h.len
    have e2 : G.length = G0.length := by omega
    refine ⟨?_, e2⟩
    rw [hG] at e ⊢
    split
    · rfl
    · rename_i h1; rw [if_neg h1, List.length_append] at e; simp at e; omega
  have hsame : G' = G0 → G' = G ∧ G = G0 := fun e => by
    obtain ⟨e1, e2⟩ := hgr (by rw [e])
    exact ⟨e1, h.grew e2⟩
  refine ⟨h.inv.go hC hb hm hz hx, h.le, fun x hx2 => (hx x).2 (Or.inr (h.sub x hx2)), Nat.le_trans h.len hl, h.same, h.more, fun e => ?_, fun e eG => ?_, fun e eG => ?_⟩
  · obtain ⟨e1, e2⟩ := hgr e; rw [e1]; exact h.grew e2
  · exact h.site e (hsame eG).2
  · exact h.go e (hsame eG).2
theorem Know.Mid.goAll {C : Know} {VN : Nat} {F0 F : Facts} {G0 G : Ways} {rose : Bool} {dS : Site → Prop} {dB : Nat → Prop} (h : C.Mid VN F0 G0 F G rose dS dB) {b : Nat} (hz : ∀ z ∈ C.goes b F, ((b : Int), z) ∈ G) : C.Mid VN F0 G0 F G rose dS (fun x => dB x ∨ x = b) := by
  refine ⟨h.inv, h.le, h.sub, h.len, h.same, h.more, h.grew, h.site, fun e eG x hd hm => ?_⟩
  rcases hd with hd | rfl
  · exact h.go e eG x hd hm
  · rw [← h.same e, ← eG]; exact hz
theorem Know.Mid.closed {C : Know} {VN : Nat} {F0 F : Facts} {G0 G : Ways} {rose : Bool} {dS : Site → Prop} {dB : Nat → Prop} (h : C.Mid VN F0 G0 F G rose dS dB) (hS : ∀ s, C.site s → C.met G0 s.blk → dS s) (hB : ∀ b, b < C.n → C.met G0 b → dB b) (hr : rose = false) (hg : ¬ G0.length < G.length) : F = F0 ∧ G = G0 ∧ C.Closed F0 G0 := by
  have eG := h.grew (by have := h.len; omega)
  have eF := h.same hr
  refine ⟨eF, eG, ?_⟩
  have hi := h.inv
  rw [eF, eG] at hi
  exact ⟨hi.par, hi.start, fun s hs hm => h.site hr eG s hs (hS s hs hm) hm, fun b hb hm => h.go hr eG b (hB b hb hm) hm⟩
theorem Know.Mid.less {C : Know} {VN : Nat} {F0 F : Facts} {G0 G : Ways} {rose : Bool} {dS : Site → Prop} {dB : Nat → Prop} (h : C.Mid VN F0 G0 F G rose dS dB) (hr : rose = true ∨ G0.length < G.length) : sumF F0 VN + G0.length < sumF F VN + G.length := by
  have h1 := sumF_le h.le VN
  have h2 := h.len
  rcases hr with hr | hr
  · obtain ⟨v, hv, hn⟩ := h.more hr
    have := sumF_lt h.le hn VN hv
    omega
  · omega
theorem Know.Inv.unique {C : Know} {F F' : Facts} {G G' : Ways} (h : C.Inv F G) (k : C.Closed F G) (h' : C.Inv F' G') (k' : C.Closed F' G') : F = F' ∧ ∀ x, x ∈ G ↔ x ∈ G' := by
  obtain ⟨a1, a2⟩ := h.least _ _ k'
  obtain ⟨b1, b2⟩ := h'.least _ _ k
  exact ⟨funext fun v => FV.le_antisymm (a1 v) (b1 v), fun x => ⟨a2 x, b2 x⟩⟩
end Go.Proofs.YtldbmdgpdolaaaaGreatDoor
