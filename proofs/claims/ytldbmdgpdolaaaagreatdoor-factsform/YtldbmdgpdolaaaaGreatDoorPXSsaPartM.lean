import Derived.Test.YtldbmdgpdolaaaaGreatDoorPXSsaIns
import Derived.Test.YtldbmdgpdolaaaaGreatDoorPXSsaPhis
namespace Go.Proofs.YtldbmdgpdolaaaaGreatDoor
open Go Go.RowKit

theorem gb_setCell (w : World) (g j : Nat) (v : Value) : w.grownBy (w.setCell ⟨g, j, none⟩ v) (some g) :=
  ⟨rfl, rfl, rfl, by simp, fun k _ hne => heap_setCell_other _ _ _ _ (by show k ≠ g; exact fun e => hne (by rw [e]))⟩
theorem gb_setCells (g : Nat) : ∀ (vs : List Value) (o : Nat) (w : World), w.grownBy (w.setCells g o vs) (some g)
  | [], _, _ => gb_refl _ _
  | v :: vs, o, w => gb_trans (gb_setCell w g o v) (gb_setCells g vs (o + 1) _)
theorem own_setCells {base t s g n c : Nat} : ∀ (vs : List Value) (o : Nat) (w : World) (xs : List Value), w.ownsRow base t s (.slice (some ⟨g, 0, none⟩) n c) n xs → o + vs.length ≤ xs.length → (w.setCells g o vs).ownsRow base t s (.slice (some ⟨g, 0, none⟩) n c) n (xs.take o ++ vs ++ xs.drop (o + vs.length))
  | [], o, w, xs, h, _ => by simpa [World.setCells] using h
  | v :: vs, o, w, xs, h, hl => by
    rw [List.length_cons] at hl
    have h1 := (h.stored o v).1
    have h2 := own_setCells vs (o + 1) _ _ h1 (by rw [List.length_set]; omega)
    have e : (xs.set o v).take (o + 1) ++ vs ++ (xs.set o v).drop (o + 1 + vs.length) = xs.take o ++ (v :: vs) ++ xs.drop (o + (v :: vs).length) := by
      have ho : o < xs.length := by omega
      rw [List.take_succ_eq_append_getElem (by rw [List.length_set]; exact ho), List.getElem_set_self, List.take_set_of_le (Nat.le_refl _), List.drop_set_of_lt (by omega), List.length_cons, List.append_assoc, List.append_assoc, List.append_assoc]
      rw [show o + 1 + vs.length = o + (vs.length + 1) by omega]; rfl
    rw [e] at h2
    exact h2
def inBk (b s : Nat) : Prop := 12 * b ≤ s ∧ s < 12 * b + 12
instance (b s : Nat) : Decidable (inBk b s) := by unfold inBk; infer_instance
def putK {α : Type} (g : Nat → α) (b : Nat) (h : Nat → α) : Nat → α := fun s => if inBk b s then h (s - 12 * b) else g s
theorem putK_in {α : Type} (g : Nat → α) (b : Nat) (h : Nat → α) {r : Nat} (hr : r < 12) : putK g b h (12 * b + r) = h r := by
  unfold putK
  rw [if_pos ⟨by omega, by omega⟩]
  congr 1; omega
theorem putK_out {α : Type} (g : Nat → α) (b : Nat) (h : Nat → α) {i r : Nat} (hi : i ≠ b) (hr : r < 12) : putK g b h (12 * i + r) = g (12 * i + r) := by
  unfold putK
  rw [if_neg (fun hh => by obtain ⟨h1, h2⟩ := hh; omega)]
theorem PartsAt.putPart {w : World} {base g n : Nat} {D : PDat} {L : PLay} (h : PartsAt w base g n D L) {b : Nat} (hb : b < n) {v : Value} {VA : Nat → Value} {AR : Nat → List Int} {ps : List PhiD} (hph : PhisAt w base v VA AR ps)
    (ha1 : ∀ q, v.ownBlock = some q → ∀ j, j < n → (L.vp j).ownBlock ≠ some q) (ha2 : ∀ r, r < 12 → ∀ q, (VA r).ownBlock = some q → ∀ s, s < 12 * n → (L.va s).ownBlock ≠ some q) (z : Int) {rg : List Int} (hr : rg.length = 12) :
    PartsAt (w.setCells g (b * 15) (partC z v (.slice none 0 0) rg)) base g n ⟨upd D.bk b z, upd D.ph b ps, upd D.ins b [], upd D.rg b rg, putK D.ar b AR⟩ ⟨upd L.vp b v, upd L.vi b (.slice none 0 0), putK L.va b VA⟩ ∧ w.grownBy (w.setCells g (b * 15) (partC z v (.slice none 0 0) rg)) (some g) := by
  have hpl : (partC z v (.slice none 0 0) rg).length = 15 := partC_len _ _ _ _ hr
  have hgl : (gC (pC D L) n).length = n * 15 := gC_len (pC_len h)
  have hrow := own_setCells (partC z v (.slice none 0 0) rg) (b * 15) w _ h.row (by rw [hpl, hgl]; have := at_lt (s := 15) hb (c := 14) (by omega); omega)
  rw [hpl, gC_put (pC_len h) hb hpl] at hrow
  rw [updC (D' := ⟨upd D.bk b z, upd D.ph b ps, upd D.ins b [], upd D.rg b rg, putK D.ar b AR⟩) (L' := ⟨upd L.vp b v, upd L.vi b (.slice none 0 0), putK L.va b VA⟩) (by show partC _ _ _ _ = _; simp only [upd_same]) (fun i hi => by show partC _ _ _ _ = partC _ _ _ _; simp only [upd_other _ hi])] at hrow
  have hgb := gb_setCells g (partC z v (.slice none 0 0) rg) (b * 15) w
  have hbad : ∀ (q : Nat) (cs : Array Value) (t : Nat), some g = some q → w.heap[q]? = some (.cells cs t (0, 0)) → t = 63 := fun q cs t e hh => h.typeP e hh
  refine ⟨⟨hrow, fun i hi => ?_, ?_, ?_, ?_, ?_⟩, hgb⟩
  · show (upd D.rg b rg i).length = 12
    by_cases e : i = b
    · rw [e, upd_same]; exact hr
    · rw [upd_other _ e]; exact h.rlen i hi
  · refine ((h.phis.put hb hph.row (fun q hq j hj _ => ha1 q hq j hj)).keptT hgb (fun q cs e hh => absurd (hbad q cs _ e hh) (by decide))).congr (fun i hi => ⟨rfl, ?_, ?_⟩)
    · by_cases e : i = b
      · subst e; simp [upd_same]
      · simp [upd_other _ e]
    · by_cases e : i = b
      · subst e
        simp only [upd_same]
        refine flat_congr fun p hp => ?_
        unfold phC0 phC
        rw [putK_in _ _ _ (hph.fit p hp).1]
      · simp only [upd_other _ e]
        refine flat_congr fun p hp => ?_
        unfold phC
        rw [putK_out _ _ _ e (h.fit i hi p hp).1]
  · refine ((h.ins.put hb (World.ownsRow_nil w base _ _) (fun q hq => by cases hq)).keptT hgb (fun q cs e hh => absurd (hbad q cs _ e hh) (by decide))).congr (fun i hi => ⟨rfl, ?_, ?_⟩)
    · by_cases e : i = b
      · subst e; simp [upd_same]
      · simp [upd_other _ e]
    · by_cases e : i = b
      · subst e; simp [upd_same]
      · simp [upd_other _ e]
  · have hs : SlotsT w base 3 1 (12 * n) (putK L.va b VA) (fun s => (putK D.ar b AR s).length) (fun s => i64s (putK D.ar b AR s)) := by
      refine ⟨fun i hi => ?_, fun i j hi hj hne q hq => ?_⟩
      · by_cases e : inBk b i
        · unfold putK; simp only [if_pos e]; exact hph.args.own _ (by obtain ⟨e1, e2⟩ := e; omega)
        · unfold putK; simp only [if_neg e]; exact h.args.own i hi
      · unfold putK at hq ⊢
        by_cases e : inBk b i
        · rw [if_pos e] at hq
          by_cases e2 : inBk b j
          · rw [if_pos e2]; exact hph.args.apart _ _ (by obtain ⟨e1, e3⟩ := e; omega) (by obtain ⟨e1, e3⟩ := e2; omega) (by obtain ⟨e1, e3⟩ := e; obtain ⟨e4, e5⟩ := e2; omega) q hq
          · rw [if_neg e2]; exact ha2 _ (by obtain ⟨e1, e3⟩ := e; omega) q hq j hj
        · rw [if_neg e] at hq
          by_cases e2 : inBk b j
          · rw [if_pos e2]; exact fun e3 => ha2 _ (by obtain ⟨e1, e4⟩ := e2; omega) q e3 i hi hq
          · rw [if_neg e2]; exact h.args.apart i j hi hj hne q hq
    exact hs.keptT hgb (fun q cs e hh => absurd (hbad q cs _ e hh) (by decide))
  · intro i hi p hp
    have hp : p ∈ upd D.ph b ps i := hp
    show p.reg < 12 ∧ putK D.ar b AR (12 * i + p.reg) = p.args
    by_cases e : i = b
    · subst e
      rw [upd_same] at hp
      obtain ⟨h1, h2⟩ := hph.fit p hp
      exact ⟨h1, by rw [putK_in _ _ _ h1]; exact h2⟩
    · rw [upd_other _ e] at hp
      obtain ⟨h1, h2⟩ := h.fit i hi p hp
      exact ⟨h1, by rw [putK_out _ _ _ e h1]; exact h2⟩
theorem infoPartB : (Tryz.prog.info? 63).map (fun i => (i.zero, i.size, i.bytes)) = some (some (.agg #[.int .i64 0, .slice none 0 0, .slice none 0 0, .int .i64 0, .int .i64 0, .int .i64 0, .int .i64 0, .int .i64 0, .int .i64 0, .int .i64 0, .int .i64 0, .int .i64 0, .int .i64 0, .int .i64 0, .int .i64 0]), 15, 152) := by kernel_rfl
def zD : PDat := ⟨fun _ => 0, fun _ => [], fun _ => [], fun _ => [0, 0, 0, 0, 0, 0, 0, 0, 0, 0, 0, 0], fun _ => []⟩
def zL : PLay := ⟨fun _ => .slice none 0 0, fun _ => .slice none 0 0, fun _ => .slice none 0 0⟩
theorem made_parts (k : Nat) : (madeCells (Value.agg #[.int .i64 0, .slice none 0 0, .slice none 0 0, .int .i64 0, .int .i64 0, .int .i64 0, .int .i64 0, .int .i64 0, .int .i64 0, .int .i64 0, .int .i64 0, .int .i64 0, .int .i64 0, .int .i64 0, .int .i64 0]).cells (k * 15)).toList = gC (pC zD zL) k := by
  refine gC_ext (s := 15) (fun _ _ => rfl) (by simp [madeCells]) fun i c hi hc => ?_
  simp only [madeCells, Value.cells]
  have h1 : i * 15 + c < k * 15 := at_lt hi hc
  have h2 : (i * 15 + c) % 15 = c := by rw [Nat.mul_comm, Nat.mul_add_mod]; exact Nat.mod_eq_of_lt hc
  simp [h1, h2]
  rcases (show c = 0 ∨ c = 1 ∨ c = 2 ∨ c = 3 ∨ c = 4 ∨ c = 5 ∨ c = 6 ∨ c = 7 ∨ c = 8 ∨ c = 9 ∨ c = 10 ∨ c = 11 ∨ c = 12 ∨ c = 13 ∨ c = 14 by omega) with rfl | rfl | rfl | rfl | rfl | rfl | rfl | rfl | rfl | rfl | rfl | rfl | rfl | rfl | rfl <;> rfl
theorem partsAt_zero {w : World} {base g n : Nat} (h : w.ownsRow base 63 15 (.slice (some ⟨g, 0, none⟩) n n) n (gC (pC zD zL) n)) : PartsAt w base g n zD zL :=
  ⟨h, fun _ _ => rfl, SlotsT.nils _ _ _ _ _, SlotsT.nils _ _ _ _ _, SlotsT.nils _ _ _ _ _, fun b _ p hp => by cases hp⟩
def insL (P : List Fn) (f : Fn) (fr n : Nat) (l : List Int) : List InsD := (List.range n).map fun k => insM P f (fr + k) (onR f fr k l)
theorem insL_succ (P : List Fn) (f : Fn) (fr n : Nat) (l : List Int) : insL P f fr (n + 1) l = insL P f fr n l ++ [insM P f (fr + n) (onR f fr n l)] := by
  unfold insL; rw [List.range_succ, List.map_append]; rfl
end Go.Proofs.YtldbmdgpdolaaaaGreatDoor
