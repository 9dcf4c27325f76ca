/- A list of raw instructions as an argument: opened. -/
import Derived.Test.YtapjfiihfgndeaaDoorRowV
import Derived.Test.YtapjfiihfgndeaaDoorLawCpuHalts
namespace Go.Proofs.YtapjfiihfgndeaaDoor
open Go Go.ChangeShapes Go.WideShapes Go.ChangeAt Go.RowKit Go.Deep

section
variable {H : Type} {enc : TypeId × Value → H} {w : World} {base : Nat} {spare : Nat → Bool} {held : Bool}
theorem insWd : ∃ fs, Tryd.prog.underlying 48 = some (.struct fs) ∧ oneCellFields Tryd.prog fs = true ∧ Tryd.prog.cellsOf 48 = 5 ∧ fs.size = 5 ∧ ∀ (i : Nat) (f : Field), fs[i]? = some f → f.type = 3 :=
  ⟨_, Tryd.underlying48, by kernel_rfl, by kernel_rfl, rfl, fun i f h => by
    match i, h with
    | 0, h => simp at h; subst h; rfl
    | 1, h => simp at h; subst h; rfl
    | 2, h => simp at h; subst h; rfl
    | 3, h => simp at h; subst h; rfl
    | 4, h => simp at h; subst h; rfl
    | i + 5, h => simp at h⟩
theorem open_mi {fuel : Nat} {cs : List Value} {x : DataW H × List MemPlace} (h : DataW.trod enc Tryd.prog w base spare held fuel 48 cs = some x) : ∃ y : Mi, MiFit y ∧ cs = miC y := by
  obtain ⟨fs, hs, hone, hC, hsz, hty⟩ := insWd
  obtain ⟨xs, n, _, _, hlen, hxl, hf⟩ := DataW.trod_struct hs h
  rw [hC] at hlen
  have each : ∀ i (hi : i < 5), ∃ m, I64 m ∧ cs[i]? = some (.int .i64 m) := by
    intro i hi
    obtain ⟨f, hfi⟩ : ∃ f, fs[i]? = some f := ⟨fs[i]'(by omega), Array.getElem?_eq_getElem (by omega)⟩
    obtain ⟨ho, hc⟩ := hone_of hone i f hfi
    have := hf i f hfi
    rw [hty i f hfi, ho, List.getElem?_eq_getElem (show i < xs.length by omega)] at this
    rw [hty i f hfi] at hc
    rw [hc] at this
    obtain ⟨m, e1, _, hwf⟩ := DataW.trod_int Tryd.underlying3 this
    refine ⟨m, by simpa [I64] using bounds_i64 hwf, ?_⟩
    have e2 : (cs.drop i).take 1 = [cs[i]'(by omega)] := by
      rw [List.drop_eq_getElem_cons (by omega)]; rfl
    rw [e2] at e1
    rw [List.getElem?_eq_getElem (by omega)]
    simpa using e1
  obtain ⟨m0, w0, h0⟩ := each 0 (by omega)
  obtain ⟨m1, w1, h1⟩ := each 1 (by omega)
  obtain ⟨m2, w2, h2⟩ := each 2 (by omega)
  obtain ⟨m3, w3, h3⟩ := each 3 (by omega)
  obtain ⟨m4, w4, h4⟩ := each 4 (by omega)
  refine ⟨⟨m0, m1, m2, m3, m4⟩, ⟨fit w0, fit w1, fit w2, fit w3, fit w4⟩, ?_⟩
  match cs, hlen, h0, h1, h2, h3, h4 with
  | [c0, c1, c2, c3, c4], _, h0, h1, h2, h3, h4 =>
    have e0 : c0 = _ := Option.some.inj h0
    have e1 : c1 = _ := Option.some.inj h1
    have e2 : c2 = _ := Option.some.inj h2
    have e3 : c3 = _ := Option.some.inj h3
    have e4 : c4 = _ := Option.some.inj h4
    rw [e0, e1, e2, e3, e4]; rfl

theorem open_wd {fuel : Nat} {v : Value} {x : DataW H × List MemPlace} (h : DataW.trod enc Tryd.prog w base spare held fuel 45 [v] = some x) :
    ∃ (xs : List Mi) (ao : Option Addr) (b off cap : Nat), v = .slice ao xs.length cap ∧ WdsAt w ao b off xs ∧ xs.length ≤ cap ∧ cap ≤ maxLen := by
  rcases open_slice Tryd.underlying45 h with ⟨hcs, rfl⟩ | ⟨a, len, cap, m, n, D, Pl, hcs, _, hl, hmx, hm, rfl, hx⟩
  · obtain rfl : v = .slice none 0 0 := by simpa using hcs
    exact ⟨[], none, 0, 0, 0, rfl, ⟨fun h => by simp at h, fun k h => by simp at h, fun x h => by simp at h⟩, Nat.le_refl _, by simp [maxLen]⟩
  obtain rfl : v = .slice (some a) len cap := by simpa using hcs
  have hlm : len ≤ m := by rw [hm]; split <;> omega
  obtain ⟨_, _, _, hC, _⟩ := insWd
  have each : ∀ i, i < len → ∃ y : Mi, MiFit y ∧ ∀ j, j < 5 → w.cell? (a.add (i * 5 + j)) = (miC y)[j]? := by
    intro i hi
    obtain ⟨cs', h1, h2⟩ := hx i (by omega)
    obtain ⟨y, hy, rfl⟩ := open_mi h2
    rw [hC] at h1
    obtain ⟨_, _, hcell⟩ := World.cells?_some h1
    exact ⟨y, hy, fun j hj => by rw [← add_add]; exact hcell j hj⟩
  haveI : Inhabited Mi := ⟨⟨0, 0, 0, 0, 0⟩⟩
  obtain ⟨Y, hY⟩ := choose_lt each
  have hlen : ((List.range len).map Y).length = len := by simp
  refine ⟨(List.range len).map Y, some a, a.block, a.off, cap, by rw [hlen], ⟨fun hp => ?_, fun k hk => ?_, ?_⟩, by rw [hlen]; exact hl, hmx⟩
  · have := (hY 0 (by omega)).2 0 (by omega)
    exact congrArg some (plain_of_cell (v := .int .i64 (Y 0).op) (by simpa [miC, Addr.add] using this))
  · have hk' : k < len := by simpa using hk
    have hp0 := (hY 0 (by omega)).2 0 (by omega)
    have ha := plain_of_cell (w := w) (a := a) (v := .int .i64 (Y 0).op) (by simpa [miC, Addr.add] using hp0)
    have e : ((List.range len).map Y)[k] = Y k := by simp
    rw [e]
    have cell : ∀ j, j < 5 → w.cell? ⟨a.block, a.off + k * 5 + j, none⟩ = (miC (Y k))[j]? := fun j hj => by
      have := (hY k hk').2 j hj
      rw [ha, add_plain] at this
      rw [Nat.add_assoc]
      exact this
    refine ⟨fun j u hu => ?_, ?_⟩
    · have hj : j < 5 := by have := (List.getElem?_eq_some_iff.1 hu).1; simpa [miC] using this
      rw [cell j hj]; exact hu
    · have := cell 0 (by omega)
      have h2 := World.block_lt_of_cell? _ _ (show w.cell? ⟨a.block, a.off + k * 5 + 0, none⟩ = some (.int .i64 (Y k).op) from this)
      simpa using h2
  · intro y hy
    obtain ⟨i, hi, rfl⟩ := List.mem_map.1 hy
    exact (hY i (by simpa using hi)).1
end
set_option maxRecDepth 100000 in
theorem open_words {H : Type} {enc : TypeId × Value → H} {W : World} {base : Nat} {v : Value} {d : DataW H} {ps : List MemPlace}
    (hv : Value.okWide Tryd.prog W .any base 45 v) (h : DataW.Trod enc Tryd.prog W 0 (fun _ => true) true 45 v d ps) :
    ∃ (xs : List Mi) (ao : Option Addr) (b off cap : Nat), v = .slice ao xs.length cap ∧ WdsAt W ao b off xs ∧ (xs.length ≤ cap ∧ cap ≤ 9223372036854775807) := by
  obtain ⟨a0, len, cap, rfl⟩ := okWide_slice Tryd.underlying45 hv
  obtain ⟨fuel, hf⟩ := h
  obtain ⟨xs, ao, b, off, cap', h1, h2, h3, h4⟩ := open_wd (by simpa [Value.cells] using hf)
  exact ⟨xs, ao, b, off, cap', h1, h2, h3, by unfold maxLen at h4; exact h4⟩
end Go.Proofs.YtapjfiihfgndeaaDoor
