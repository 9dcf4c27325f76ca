/- A state as an argument: opened. -/
import Derived.Test.YteabbanjjdmjkaaDoorGroupR
import Derived.Test.YteabbanjjdmjkaaDoorGroupC
namespace Go.Proofs.YteabbanjjdmjkaaDoor
open Go Go.ChangeShapes Go.WideShapes Go.ChangeAt Go.RowKit Go.Deep

theorem bytesFr : Tryd.prog.bytesOf 54 = 112 := by kernel_rfl

/-- An array of numbers. -/
theorem open_arr {H : Type} {enc : TypeId × Value → H} {W : World} {fuel n : Nat} {t : TypeId} {l : List Value} {x : DataW H × List MemPlace} (hu : Tryd.prog.underlying t = some (.array n 3)) (hc : Tryd.prog.cellsOf t = n)
    (h : DataW.trod enc Tryd.prog W 0 (fun _ => true) true fuel t l = some x) : ∃ ms : List Int, ms.length = n ∧ l = i64s ms ∧ ∀ z ∈ ms, I64 z := by
  obtain ⟨xs, m, _, _, hl, hxl, hat⟩ := DataW.trod_array hu h
  rw [hc] at hl
  have each : ∀ i, i < n → ∃ z : Int, l[i]? = some (.int .i64 z) ∧ I64 z := by
    intro i hi
    have k := hat i hi
    rw [cells3, List.getElem?_eq_getElem (show i < xs.length by omega)] at k
    obtain ⟨z, e, _, hz⟩ := DataW.trod_int Tryd.underlying3 k
    refine ⟨z, ?_, by simpa [I64] using bounds_i64 hz⟩
    have e2 : (l.drop (i * 1)).take 1 = [l[i]'(by omega)] := by rw [Nat.mul_one, List.drop_eq_getElem_cons (by omega)]; rfl
    rw [e2] at e
    rw [List.getElem?_eq_getElem (by omega)]
    simpa using e
  obtain ⟨Y, hY⟩ := choose_lt each
  refine ⟨(List.range n).map Y, by simp, ?_, fun z hz => ?_⟩
  rotate_left
  · obtain ⟨i, hi, rfl⟩ := List.mem_map.1 hz
    exact (hY i (by simpa using hi)).2
  refine List.ext_getElem? fun i => ?_
  rcases Nat.lt_or_ge i n with hi | hi
  · rw [(hY i hi).1]; simp [i64s, hi]
  · rw [List.getElem?_eq_none (by omega), List.getElem?_eq_none (by simp [i64s]; omega)]
set_option maxRecDepth 100000 in
/-- A frame. -/
theorem open_frame {H : Type} {enc : TypeId × Value → H} {W : World} {fuel : Nat} {cs : List Value} {x : DataW H × List MemPlace}
    (h : DataW.trod enc Tryd.prog W 0 (fun _ => true) true fuel 54 cs = some x) : ∃ f : Fr, f.regs.length = 12 ∧ cs = frCells f ∧ ∀ z ∈ f.regs, I64 z := by
  have hc1 : Tryd.prog.cellsOf 54 = 14 := by kernel_rfl
  have hc2 : Tryd.prog.cellsOf 52 = 12 := by kernel_rfl
  obtain ⟨xs, n, _, hx, hlen, hxl, hfs⟩ := DataW.trod_struct Tryd.underlying54 h
  rw [hc1] at hlen
  obtain ⟨y0, y1, y2, rfl⟩ : ∃ y0 y1 y2, xs = [y0, y1, y2] := by
    match xs, hxl with
    | [y0, y1, y2], _ => exact ⟨y0, y1, y2, rfl⟩
  have g0 : DataW.trod enc Tryd.prog W 0 (fun _ => true) true n 3 ((cs.drop 0).take (Tryd.prog.cellsOf 3)) = some y0 := hfs 0 _ rfl
  have g1 : DataW.trod enc Tryd.prog W 0 (fun _ => true) true n 3 ((cs.drop 1).take (Tryd.prog.cellsOf 3)) = some y1 := hfs 1 _ rfl
  have g2 : DataW.trod enc Tryd.prog W 0 (fun _ => true) true n 52 ((cs.drop 2).take (Tryd.prog.cellsOf 52)) = some y2 := hfs 2 _ rfl
  rw [cells3] at g0 g1
  rw [hc2] at g2
  clear hfs h
  match cs, hlen with
  | c0 :: c1 :: r, hlen =>
    have hr : r.length = 12 := by simpa using hlen
    obtain ⟨z0, e0, _, _⟩ := DataW.trod_int Tryd.underlying3 g0
    obtain ⟨z1, e1, _, _⟩ := DataW.trod_int Tryd.underlying3 g1
    obtain ⟨ms, hms, e2, hmi⟩ := open_arr Tryd.underlying52 hc2 g2
    have f0 : c0 = .int .i64 z0 := by simpa using e0
    have f1 : c1 = .int .i64 z1 := by simpa using e1
    have f2 : r = i64s ms := by
      rw [← e2]
      show r = (r : List Value).take 12
      rw [List.take_of_length_le (by omega)]
    refine ⟨⟨z0, z1, ms⟩, hms, ?_, hmi⟩
    rw [f0, f1, f2]; rfl
/-- A slice of frames. -/
theorem open_frames {H : Type} {enc : TypeId × Value → H} {W : World} {fuel : Nat} {v : Value} {x : DataW H × List MemPlace}
    (h : DataW.trod enc Tryd.prog W 0 (fun _ => true) true fuel 25 [v] = some x) :
    ∃ fs : List Fr, FramesVal W v fs ∧ (fs.length = 0 ∨ ∃ k, (fs.length + k) * 112 ∈ x.1.weights Tryd.prog 25) ∧ ∀ f ∈ fs, ∀ z ∈ f.regs, I64 z := by
  have hC : Tryd.prog.cellsOf 54 = 14 := by kernel_rfl
  rcases open_slice Tryd.underlying25 h with ⟨hcs, rfl⟩ | ⟨a, len, cap, m, n, D, Pl, hcs, _, hl, hmx, hm, rfl, hx⟩
  · obtain rfl : v = .slice none 0 0 := by simpa using hcs
    exact ⟨[], frames_nil W, Or.inl rfl, fun f hf => by cases hf⟩
  obtain rfl : v = .slice (some a) len cap := by simpa using hcs
  have hlm : len ≤ m := by rw [hm]; split <;> omega
  have each : ∀ i, i < len → ∃ f : Fr, f.regs.length = 12 ∧ (∀ j, j < 14 → W.cell? (a.add (i * 14 + j)) = (frCells f)[j]?) ∧ ∀ z ∈ f.regs, I64 z := by
    intro i hi
    obtain ⟨cs', h1, h2⟩ := hx i (by omega)
    obtain ⟨f, hf, rfl, hfi⟩ := open_frame h2
    rw [hC] at h1
    obtain ⟨_, _, hcell⟩ := World.cells?_some h1
    exact ⟨f, hf, fun j hj => by rw [← add_add]; exact hcell j hj, hfi⟩
  haveI : Inhabited Fr := ⟨⟨0, 0, []⟩⟩
  obtain ⟨Y, hY⟩ := choose_lt each
  have hlen : ((List.range len).map Y).length = len := by simp
  refine ⟨(List.range len).map Y, ⟨?_, some a, a.block, a.off, len, cap, rfl, hlen, fun hp => ?_, fun k hk => ?_, ⟨hl, fun e => by cases e⟩, hmx⟩, Or.inr ⟨((List.range (m - len)).map fun j => D (len + j)).length, ?_⟩, fun f hf => ?_⟩
  · intro f hf
    obtain ⟨i, hi, rfl⟩ := List.mem_map.1 hf
    exact (hY i (by simpa using hi)).1
  · have := (hY 0 hp).2.1 0 (by omega)
    exact congrArg some (plain_of_cell (v := .int .i64 (Y 0).fn) (by simpa [frCells, Addr.add] using this))
  · have hk' : k < len := by simpa using hk
    have hp0 := (hY 0 (by omega)).2.1 0 (by omega)
    have ha := plain_of_cell (w := W) (a := a) (v := .int .i64 (Y 0).fn) (by simpa [frCells, Addr.add] using hp0)
    have e : ((List.range len).map Y)[k] = Y k := by simp
    rw [e]
    intro j u hu
    have hj : j < 14 := by
      have h14 : (frCells (Y k)).length = 14 := frCells_length _ (hY k hk').1
      have := (List.getElem?_eq_some_iff.1 hu).1
      omega
    have := (hY k hk').2.1 j hj
    rw [ha, add_plain] at this
    rw [Nat.add_assoc, this]
    exact hu
  · simp [DataW.weights, Tryd.underlying25, bytesFr]
  · obtain ⟨i, hi, rfl⟩ := List.mem_map.1 hf
    exact (hY i (by simpa using hi)).2.2
theorem ints_sized {H : Type} {enc : TypeId × Value → H} {W : World} {fuel : Nat} {v : Value} {x : DataW H × List MemPlace}
    (hf : DataW.trod enc Tryd.prog W 0 (fun _ => true) true fuel 27 [v] = some x) : ∃ l : List Int, IntsVal W v l ∧ (l.length = 0 ∨ ∃ k, (l.length + k) * 8 ∈ x.1.weights Tryd.prog 27) ∧ ∀ z ∈ l, I64 z := by
  rcases open_ints Tryd.underlying27 Tryd.underlying3 cells3 hf with ⟨hcs, hx⟩ | ⟨a, len, cap, zs, hcs, _, hl, hm, hz, hx, hcell, hwz⟩
  · obtain rfl : v = .slice none 0 0 := by simpa using hcs
    exact ⟨[], ints_nil W, Or.inl rfl, fun z hz => by simp at hz⟩
  · obtain rfl : v = .slice (some a) len cap := by simpa using hcs
    simp only [if_true] at hz
    have hlen : (zs.take len).length = len := by simp; omega
    refine ⟨zs.take len, ?_, Or.inr ⟨((lits .i64 (zs.drop len)) : List (DataW H)).length, ?_⟩, fun z hz2 => by simpa [I64] using bounds_i64 (hwz z (List.mem_of_mem_take hz2))⟩
    · by_cases hp : 0 < zs.length
      · obtain ⟨b, off, rfl, hc⟩ := ints_at hcell hp
        refine ⟨_, b, off, len, cap, rfl, hlen, fun _ => rfl, fun k hk => ?_, ⟨hl, fun e => by cases e⟩, hm⟩
        have hkl : k < len := by omega
        rw [hc k (by omega)]
        simp [List.getD_eq_getElem?_getD, List.getElem?_eq_getElem (show k < zs.length by omega)]
      · have h0 : len = 0 := by omega
        exact ⟨some a, 0, 0, len, cap, rfl, hlen, fun h => by omega, fun k hk => by omega, ⟨hl, fun e => by cases e⟩, hm⟩
    · rw [hx]
      simp [DataW.weights, Tryd.underlying27, bytesInt, lits]

set_option maxRecDepth 100000 in
theorem open_stateF {H : Type} {enc : TypeId × Value → H} {W : World} {base : Nat} {v : Value} {d : DataW H} {ps : List MemPlace}
    (hv : Value.okWide Tryd.prog W .any base 29 v) (h : DataW.Trod enc Tryd.prog W 0 (fun _ => true) true 29 v d ps) (hsz : ∀ n ∈ d.weights Tryd.prog 29, n ≤ reachBytes) :
    ∃ s : St, StVal W v s ∧ s.frames.length * 112 ≤ 140737488351232 ∧ s.events.length * 8 ≤ 140737488351232 ∧ s.answers.length * 8 ≤ 140737488351232 ∧ (∀ f ∈ s.frames, ∀ z ∈ f.regs, I64 z) ∧ (∀ z ∈ s.mem, I64 z) ∧ (∀ z ∈ s.answers, I64 z) := by
  obtain ⟨cs, rfl, hs1⟩ := okWide_struct Tryd.underlying29 hv
  have hc1 : Tryd.prog.cellsOf 29 = 22 := by kernel_rfl
  have hc2 : Tryd.prog.cellsOf 26 = 16 := by kernel_rfl
  have hc3 : Tryd.prog.cellsOf 27 = 1 := by kernel_rfl
  have hc4 : Tryd.prog.cellsOf 25 = 1 := by kernel_rfl
  rw [hc1] at hs1
  obtain ⟨l⟩ := cs
  obtain ⟨fuel, hf⟩ := h
  obtain ⟨xs, n, _, hx, hlen, hxl, hfs⟩ := DataW.trod_struct Tryd.underlying29 hf
  obtain ⟨y0, y1, y2, y3, y4, y5, y6, rfl⟩ : ∃ y0 y1 y2 y3 y4 y5 y6, xs = [y0, y1, y2, y3, y4, y5, y6] := by
    match xs, hxl with
    | [y0, y1, y2, y3, y4, y5, y6], _ => exact ⟨y0, y1, y2, y3, y4, y5, y6, rfl⟩
  have g0 : DataW.trod enc Tryd.prog W 0 (fun _ => true) true n 3 ((l.drop 0).take (Tryd.prog.cellsOf 3)) = some y0 := hfs 0 _ rfl
  have g1 : DataW.trod enc Tryd.prog W 0 (fun _ => true) true n 3 ((l.drop 1).take (Tryd.prog.cellsOf 3)) = some y1 := hfs 1 _ rfl
  have g2 : DataW.trod enc Tryd.prog W 0 (fun _ => true) true n 25 ((l.drop 2).take (Tryd.prog.cellsOf 25)) = some y2 := hfs 2 _ rfl
  have g3 : DataW.trod enc Tryd.prog W 0 (fun _ => true) true n 26 ((l.drop 3).take (Tryd.prog.cellsOf 26)) = some y3 := hfs 3 _ rfl
  have g4 : DataW.trod enc Tryd.prog W 0 (fun _ => true) true n 3 ((l.drop 19).take (Tryd.prog.cellsOf 3)) = some y4 := hfs 4 _ rfl
  have g5 : DataW.trod enc Tryd.prog W 0 (fun _ => true) true n 27 ((l.drop 20).take (Tryd.prog.cellsOf 27)) = some y5 := hfs 5 _ rfl
  have g6 : DataW.trod enc Tryd.prog W 0 (fun _ => true) true n 27 ((l.drop 21).take (Tryd.prog.cellsOf 27)) = some y6 := hfs 6 _ rfl
  have hl : l.length = 22 := by simpa using hs1
  have hd : d = .agg [y0.1, y1.1, y2.1, y3.1, y4.1, y5.1, y6.1] := by simpa using congrArg Prod.fst hx
  subst hd
  have mem2 : ∀ n ∈ y2.1.weights Tryd.prog 25, n ≤ reachBytes := fun n hn => hsz n (by
    simp only [DataW.weights, Tryd.underlying29]
    exact DataW.weights_mem_each (j := 2) (t := 25) (d := y2.1) rfl rfl n hn)
  have mem5 : ∀ n ∈ y5.1.weights Tryd.prog 27, n ≤ reachBytes := fun n hn => hsz n (by
    simp only [DataW.weights, Tryd.underlying29]
    exact DataW.weights_mem_each (j := 5) (t := 27) (d := y5.1) rfl rfl n hn)
  have mem6 : ∀ n ∈ y6.1.weights Tryd.prog 27, n ≤ reachBytes := fun n hn => hsz n (by
    simp only [DataW.weights, Tryd.underlying29]
    exact DataW.weights_mem_each (j := 6) (t := 27) (d := y6.1) rfl rfl n hn)
  clear hfs hx hxl hsz hv hf
  rw [cells3] at g0 g1 g4
  rw [hc4] at g2
  rw [hc2] at g3
  rw [hc3] at g5 g6
  obtain ⟨c0, c1, c2, r, rfl⟩ : ∃ c0 c1 c2 r, l = c0 :: c1 :: c2 :: r := by
    match l, hl with
    | c0 :: c1 :: c2 :: r, _ => exact ⟨c0, c1, c2, r, rfl⟩
  have hr : r.length = 19 := by simpa using hl
  obtain ⟨z0, e0, _, _⟩ := DataW.trod_int Tryd.underlying3 g0
  obtain ⟨z1, e1, _, _⟩ := DataW.trod_int Tryd.underlying3 g1
  obtain ⟨z4, e4, _, _⟩ := DataW.trod_int Tryd.underlying3 g4
  obtain ⟨ms, hms, e3, hmi⟩ := open_arr Tryd.underlying26 hc2 g3
  have f0 : c0 = .int .i64 z0 := by simpa using e0
  have f1 : c1 = .int .i64 z1 := by simpa using e1
  have e3' : r.take 16 = i64s ms := e3
  obtain ⟨fv0, ev, av, ht⟩ : ∃ a b c, r.drop 16 = [a, b, c] := by
    have : (r.drop 16).length = 3 := by rw [List.length_drop]; omega
    match r.drop 16, this with
    | [a, b, c], _ => exact ⟨a, b, c, rfl⟩
  have hr2 : r = i64s ms ++ [fv0, ev, av] := by rw [← e3', ← ht, List.take_append_drop]
  have hil : (i64s ms).length = 16 := by simp [i64s, hms]
  subst hr2
  have f4 : fv0 = .int .i64 z4 := by
    have h := e4
    rw [show (19 : Nat) = 16 + 3 from rfl] at h
    simp only [List.drop_succ_cons] at h
    rw [List.drop_left' hil] at h
    simpa using h
  have g5' : DataW.trod enc Tryd.prog W 0 (fun _ => true) true n 27 [ev] = some y5 := by
    have h : ((c0 :: c1 :: c2 :: (i64s ms ++ [fv0, ev, av])).drop 20).take 1 = [ev] := by
      rw [show (20 : Nat) = 17 + 3 from rfl]
      simp only [List.drop_succ_cons]
      rw [show (17 : Nat) = 16 + 1 from rfl, ← List.drop_drop, List.drop_left' hil]; rfl
    rw [h] at g5; exact g5
  have g6' : DataW.trod enc Tryd.prog W 0 (fun _ => true) true n 27 [av] = some y6 := by
    have h : ((c0 :: c1 :: c2 :: (i64s ms ++ [fv0, ev, av])).drop 21).take 1 = [av] := by
      rw [show (21 : Nat) = 18 + 3 from rfl]
      simp only [List.drop_succ_cons]
      rw [show (18 : Nat) = 16 + 2 from rfl, ← List.drop_drop, List.drop_left' hil]; rfl
    rw [h] at g6; exact g6
  have g2' : DataW.trod enc Tryd.prog W 0 (fun _ => true) true n 25 [c2] = some y2 := g2
  obtain ⟨fs, hfs, hw2, hfi⟩ := open_frames g2'
  obtain ⟨le, hle, hw5, -⟩ := ints_sized g5'
  obtain ⟨la, hla, hw6, hai⟩ := ints_sized g6'
  refine ⟨⟨z0, z1, fs, ms, z4, le, la⟩, ⟨c2, ev, av, ?_, hms, hfs, hle, hla⟩, ?_, ?_, ?_, hfi, hmi, hai⟩
  · rw [f0, f1, f4]; rfl
  · rcases hw2 with h0 | ⟨k, hk⟩
    · show fs.length * 112 ≤ _; omega
    · have := mem2 _ hk
      simp only [reachBytes] at this
      show fs.length * 112 ≤ _
      omega
  · rcases hw5 with h0 | ⟨k, hk⟩
    · show le.length * 8 ≤ _; omega
    · have := mem5 _ hk
      simp only [reachBytes] at this
      show le.length * 8 ≤ _
      omega
  · rcases hw6 with h0 | ⟨k, hk⟩
    · show la.length * 8 ≤ _; omega
    · have := mem6 _ hk
      simp only [reachBytes] at this
      show la.length * 8 ≤ _
      omega
set_option maxRecDepth 100000 in
theorem open_state {H : Type} {enc : TypeId × Value → H} {W : World} {base : Nat} {v : Value} {d : DataW H} {ps : List MemPlace}
    (hv : Value.okWide Tryd.prog W .any base 29 v) (h : DataW.Trod enc Tryd.prog W 0 (fun _ => true) true 29 v d ps) (hsz : ∀ n ∈ d.weights Tryd.prog 29, n ≤ reachBytes) :
    ∃ s : St, StVal W v s ∧ s.frames.length * 112 ≤ 140737488351232 ∧ s.events.length * 8 ≤ 140737488351232 ∧ s.answers.length * 8 ≤ 140737488351232 ∧ ∀ f ∈ s.frames, ∀ z ∈ f.regs, I64 z := by
  obtain ⟨s, h1, h2, h3, h4, h5, -, -⟩ := open_stateF hv h hsz
  exact ⟨s, h1, h2, h3, h4, h5⟩
end Go.Proofs.YteabbanjjdmjkaaDoor
