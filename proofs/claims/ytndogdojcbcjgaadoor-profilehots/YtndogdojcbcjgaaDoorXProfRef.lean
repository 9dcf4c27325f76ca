/- Contract of the document's CountsOf (package tierlineref) at right programs. -/
import Derived.Test.YtndogdojcbcjgaaDoorXTraceMath
import Derived.Test.YtndogdojcbcjgaaDoorXRunRef
import Derived.Test.YtndogdojcbcjgaaDoorXRowsL
namespace Go.Proofs.YtndogdojcbcjgaaDoor
open Go Go.RowKit

/-- Two lists of numbers that a call has built, in rows of their own. -/
structure Two (w : World) (base : Nat) (a b : Value) (A B : List Int) : Prop where
  one : OwnI w base a A
  two : OwnI w base b B
  apart : ∀ g, a.ownBlock = some g → b.ownBlock ≠ some g
theorem Two.nil (w : World) (base : Nat) : Two w base (.slice none 0 0) (.slice none 0 0) [] [] := ⟨⟨rfl, Or.inl ⟨rfl, rfl⟩⟩, ⟨rfl, Or.inl ⟨rfl, rfl⟩⟩, fun g h => by cases h⟩
theorem Two.below {w w' : World} {base : Nat} {a b : Value} {A B : List Int} (h : Two w base a b A B) (hb : Below w.heap.size w w') : Two w' base a b A B := ⟨ownsRow_below h.one hb, ownsRow_below h.two hb, h.apart⟩
theorem Two.addA {w w' : World} {base : Nat} {a b a' : Value} {A B A' : List Int} (h : Two w base a b A B) (hg : w.grownBy w' a.ownBlock) (ho : OwnI w' base a' A') (hl : a'.ownBlock = a.ownBlock ∨ ∃ q, a'.ownBlock = some q ∧ w.heap.size ≤ q) : Two w' base a' b A' B := by
  refine ⟨ho, h.two.kept hg ?_, fun g hg' e => ?_⟩
  · cases hv : b.ownBlock with
    | none => exact Or.inl rfl
    | some g => exact Or.inr fun e => h.apart g e.symm hv
  · rcases hl with h1 | ⟨q, h1, h2⟩
    · exact h.apart g (by rw [← h1]; exact hg') e
    · have := (h.two.lt g e).2
      rw [h1] at hg'
      have := Option.some.inj hg'
      omega
theorem Two.addB {w w' : World} {base : Nat} {a b b' : Value} {A B B' : List Int} (h : Two w base a b A B) (hg : w.grownBy w' b.ownBlock) (ho : OwnI w' base b' B') (hl : b'.ownBlock = b.ownBlock ∨ ∃ q, b'.ownBlock = some q ∧ w.heap.size ≤ q) : Two w' base a b' A B' := by
  refine ⟨h.one.kept hg ?_, ho, fun g hg' e => ?_⟩
  · cases hv : a.ownBlock with
    | none => exact Or.inl rfl
    | some g => exact Or.inr fun e => h.apart g hv e.symm
  · rcases hl with h1 | ⟨q, h1, h2⟩
    · exact h.apart g hg' (by rw [← h1]; exact e)
    · have := (h.one.lt g hg').2
      rw [h1] at e
      have := Option.some.inj e
      omega
theorem Two.kept {w w' : World} {base r : Nat} {a b : Value} {A B : List Int} (h : Two w base a b A B) (hg : w.grownBy w' (some r)) (hr : r < base) : Two w' base a b A B := by
  refine ⟨h.one.kept hg ?_, h.two.kept hg ?_, h.apart⟩
  · cases hv : a.ownBlock with
    | none => exact Or.inl rfl
    | some g => exact Or.inr fun e => by have := (h.one.lt g hv).1; have := Option.some.inj e; omega
  · cases hv : b.ownBlock with
    | none => exact Or.inl rfl
    | some g => exact Or.inr fun e => by have := (h.two.lt g hv).1; have := Option.some.inj e; omega
/-- What another row's growth leaves. -/
theorem gbo_block {a b : World} {r : Option Nat} (h : a.grownBy b r) {k : Nat} {o : Obj} (hk : a.heap[k]? = some o) (hne : r ≠ some k) : b.heap[k]? = some o := (h.block k (lt_of_block hk) (fun e => hne e.symm)).trans hk
theorem gbo_cell {a b : World} {r : Option Nat} (h : a.grownBy b r) {p : Addr} {u : Value} (hc : a.cell? p = some u) (hne : r ≠ some p.block) : b.cell? p = some u :=
  (World.cell?_of_block (h.block p.block (World.block_lt_of_cell? _ _ hc) (fun e => hne e.symm))).trans hc
theorem two_ne {w : World} {base t size n k : Nat} {v : Value} {xs : List Value} (h : w.ownsRow base t size v n xs) (hk : k < base ∨ w.heap.size ≤ k) : v.ownBlock ≠ some k := fun e => by have := h.lt k e; omega
/-- Between a step and the next one: the boxes of a loop's round. -/
structure MidR (W w : World) (B D Gn Hf : Nat) (csk csn : Array Value) (pv : Value) (kk jj : Int) (S : St) : Prop where
  rn : W.heap[Gn]? = some (.cells csn 29 (0, 0))
  rb : W.heap[B]? = some (.cells csk 29 (0, 0))
  kp : W.cell? ⟨w.heap.size, 0, none⟩ = some pv
  t0 : W.cell? ⟨D, 0, none⟩ = some (.int .i64 kk)
  t1 : W.cell? ⟨D, 1, none⟩ = some (.int .i64 jj)
  st : StAt W Hf (.agg csn) S
  low : Below w.heap.size w W
  d : D < Hf
  g : Hf ≤ Gn
  b : w.heap.size < B
theorem MidR.alloc {W w : World} {B D Gn Hf : Nat} {csk csn : Array Value} {pv : Value} {kk jj : Int} {S : St} (h : MidR W w B D Gn Hf csk csn pv kk jj S) (o : Obj) : MidR (W.alloc o) w B D Gn Hf csk csn pv kk jj S :=
  ⟨(heap_alloc_old _ _ (lt_of_block h.rn)).trans h.rn, (heap_alloc_old _ _ (lt_of_block h.rb)).trans h.rb, cell_alloc h.kp o, cell_alloc h.t0 o, cell_alloc h.t1 o, h.st.moved (fun _ _ _ hu => cell_alloc hu o), h.low.alloc h.low.size o, h.d, h.g, h.b⟩
theorem MidR.gb {W W' w : World} {B D Gn Hf : Nat} {csk csn : Array Value} {pv : Value} {kk jj : Int} {S : St} {r : Option Nat} (h : MidR W w B D Gn Hf csk csn pv kk jj S) (hg : W.grownBy W' r) (hr : ∀ g, r = some g → B < g ∧ g < D) : MidR W' w B D Gn Hf csk csn pv kk jj S := by
  have h1 := h.d
  have h2 := h.g
  have h3 := h.b
  exact ⟨gbo_block hg h.rn (fun e => by have := hr _ e; omega), gbo_block hg h.rb (fun e => by have := hr _ e; omega), gbo_cell hg h.kp (fun e => by have := hr _ e; dsimp at this; omega), gbo_cell hg h.t0 (fun e => by have := hr _ e; dsimp at this; omega), gbo_cell hg h.t1 (fun e => by have := hr _ e; dsimp at this; omega),
    h.st.moved (fun a u ha hu => gbo_cell hg hu (fun e => by have := hr _ e; omega)), h.low.grown hg h.low.size (fun k hk => by have := hr k hk; omega), h1, h2, h3⟩
theorem own_inc {w : World} {base g n : Nat} {l : List Int} (ho : OwnI w base (.slice (some ⟨g, 0, none⟩) n n) l) (hl : l.length = n) {j : Nat} (hj : j < n) (z : Int) :
    w.cell? ⟨g, j, none⟩ = some (.int .i64 (l.getD j 0)) ∧ w.frozen? ⟨g, j, none⟩ = false ∧ OwnI (w.setCell ⟨g, j, none⟩ (.int .i64 z)) base (.slice (some ⟨g, 0, none⟩) n n) (l.set j z) ∧ w.grownBy (w.setCell ⟨g, j, none⟩ (.int .i64 z)) (some g) := by
  have ho' := ho
  unfold OwnI at ho'
  rw [hl] at ho'
  obtain ⟨s1, s2⟩ := ho'.stored j (.int .i64 z)
  have e3 : (i64s l).set j (.int .i64 z) = i64s (l.set j z) := by simp [i64s, List.map_set]
  rw [e3] at s1
  exact ⟨row_cell ho' j hj, ho'.frozenAt j, by unfold OwnI; rw [List.length_set, hl]; exact s1, s2⟩
/-- The trace, one step further. -/
theorem trS_more {P : List Fn} {S : St} {k kk jj : Nat} {fs : List Fr} {f : Fr} (hs : (walkS P k S).status = 0) (hsn : (walkS P k S).frames = fs ++ [f]) (e1 : f.fn = (kk : Int)) (e2 : f.pc = (jj : Int)) (hl : (walkS P (k + 1) S).fuel < (walkS P k S).fuel) :
    (trS P S (k + 1)).map (·.1) = (trS P S k).map (·.1) ++ [(kk : Int)] ∧ (trS P S (k + 1)).map (·.2) = (trS P S k).map (·.2) ++ [(jj : Int)] := by
  rw [walkS_succ P k S hs] at hl
  have e : trI P (walkS P k S) = [((kk : Int), (jj : Int))] := by unfold trI; rw [hsn, List.getLast?_concat]; dsimp only; rw [if_pos ⟨hs, hl⟩, e1, e2]
  simp only [trS, e, List.map_append]
  exact ⟨rfl, rfl⟩
theorem trS_same {P : List Fn} {S : St} {k : Nat} (hs : (walkS P k S).status = 0) (hl : ¬ (walkS P (k + 1) S).fuel < (walkS P k S).fuel) : trS P S (k + 1) = trS P S k := by
  rw [walkS_succ P k S hs] at hl
  have e : trI P (walkS P k S) = [] := by
    unfold trI
    cases (walkS P k S).frames.getLast? with
    | none => rfl
    | some f => exact if_neg (fun h => hl h.2)
  rw [trS, e, List.append_nil]
/-- The rows of the first functions. -/
def rowsQ (P : List Fn) (T : List (Int × Int)) (q : Nat) : List (List Int) := (List.range q).map fun i => rowT T i (P.getD i ⟨0, 0, []⟩).code.length
theorem rowsQ_all (P : List Fn) (T : List (Int × Int)) : rowsQ P T P.length = rowsT P T := rfl
theorem rowsQ_succ (P : List Fn) (T : List (Int × Int)) (q : Nat) : rowsQ P T (q + 1) = rowsQ P T q ++ [rowT T q (P.getD q ⟨0, 0, []⟩).code.length] := by unfold rowsQ; rw [List.range_succ, List.map_append]; rfl
theorem rowsQ_len (P : List Fn) (T : List (Int × Int)) (q : Nat) : (rowsQ P T q).length = q := by simp [rowsQ]
def CountsPost (P : List Fn) (S : St) (w : World) (e : Ending) (w' : World) : Prop := ∃ v vs n base, e = .returned (.tuple #[v, .int .i64 0]) ∧ RowsAt w' base v vs (cntS P S n) ∧ (walkS P n S).status ≠ 0 ∧ Below w.heap.size w w'

set_option maxRecDepth 100000 in
set_option maxHeartbeats 8000000 in
theorem countsOf_ok (P : List Fn) (v va vn : Value) (args answers : List Int) (fuel : Nat) (w : World) (hR : ProofAns P 0) (hv : ProgVal w v P) (hva : IntsVal w va args) (hvn : IntsVal w vn answers)
    (h1 : (args.length : Int) = par0 P) (h2 : answers.length ≤ 100) (h4 : fuel ≤ 10000) (hP : FitP P) (hfa : ∀ z ∈ args, Fits z) (hfn : ∀ z ∈ answers, Fits z) :
    Calls Tryd.prog 32 #[.agg #[v], va, vn, .int .i64 (fuel : Int)] w fun e w' => CountsPost P (beginSt args answers fuel) w e w' := by
  have hal : args.length ≤ 12 := by
    have := (right_head hR hv).choose_spec.choose_spec.choose_spec
    omega
  have hI : RunInv P (beginSt args answers fuel) := runInv_begin hR args answers fuel hal h2 (by omega) (by omega)
  have hF : FitSt (beginSt args answers fuel) := ⟨fun f hf z hz => by
    obtain rfl : f = begunFr 0 args := by simpa [beginSt] using hf
    simp only [begunFr, regsOf] at hz
    rcases List.mem_append.1 hz with h | h
    · exact hfa z h
    · rw [List.eq_of_mem_replicate h]; exact fits_zero, fun z hz => by
      have : z ∈ noMem := hz
      simp [noMem] at this
      rw [this]; exact fits_zero, hfn⟩
  have HRI : Hid (∀ k, RunInv P (walkS P k (beginSt args answers fuel))) := fun k => runInv_walk hR k hI
  have HFU : Hid (∀ k, (walkS P k (beginSt args answers fuel)).status = 0 → k ≤ fuel) := fun k hk => by
    rcases Nat.lt_or_ge fuel k with h | h
    · exact absurd hk (run_ended hR hI k (by show (fuel : Int) < _; omega))
    · exact h
  have HSP : Hid (∀ (k : Nat) W sv, k ≤ fuel → (walkS P k (beginSt args answers fuel)).status = 0 → Below w.heap.size w W → StVal W sv (walkS P k (beginSt args answers fuel)) → Calls Tryd.prog 66 #[.agg #[v], sv] W fun e w' => StepdPost P (walkS P k (beginSt args answers fuel)) W e w') := fun k W sv hk hs hW hsv => by
    obtain ⟨fs, f, hok⟩ := step_ok hR (runInv_walk hR k hI) (walkS_fits hP k hF) hs (by have := walkS_events_len P k (beginSt args answers fuel); have e : (beginSt args answers fuel).events.length = 0 := rfl; omega)
    exact stepped_any P _ fs f hok v sv W (hv.keeps (keeps_below hW)) hsv
  have HSU : Hid (∀ k, (walkS P k (beginSt args answers fuel)).status = 0 → walkS P (k + 1) (beginSt args answers fuel) = stepS P (walkS P k (beginSt args answers fuel))) := fun k hs => walkS_succ P k _ hs
  have hB0 : ∀ E, ProofAns P E → beginE E P args answers fuel = 0 := fun E hE => by
    obtain rfl := proofAns_unique hE hR
    unfold beginE
    rw [if_neg (by simp), if_neg (by omega), if_neg (by omega)]
  have HBG : Hid (∀ o, Calls Tryd.prog 65 #[.agg #[v], va, vn, .int .i64 (fuel : Int)] (w.alloc o) fun e w' => ∃ v', e = .returned (.tuple #[v', .int .i64 0]) ∧ StVal w' v' (beginSt args answers fuel) ∧ Below (w.alloc o).heap.size (w.alloc o) w') := fun o => by
    refine (begun_ref P v va vn args answers fuel (w.alloc o) (hv.keeps (keeps_below ((Below.refl _ _).alloc (Nat.le_refl _) _))) (hva.keeps (keeps_below ((Below.refl _ _).alloc (Nat.le_refl _) _))) (hvn.keeps (keeps_below ((Below.refl _ _).alloc (Nat.le_refl _) _)))).mono ?_
    rintro e w' ⟨E, v', hE, rfl, hsv, hb⟩
    rw [hB0 E hE] at hsv ⊢
    exact ⟨v', rfl, hsv, hb⟩
  have HTP : Hid (∀ n, ∀ q ∈ trS P (beginSt args answers fuel) n, ∃ (k j : Nat) (hk : k < P.length), q = ((k : Int), (j : Int)) ∧ j < P[k].code.length) := tr_places hR hI
  have HCT : Hid (∀ n, cntS P (beginSt args answers fuel) n = rowsT P (trS P (beginSt args answers fuel) n)) := cnt_trace hR hI
  obtain ⟨hn1, hn4, -⟩ := codeProg_zero (right_code hR)
  have HFN : Hid (∀ k, (hk : k < P.length) → ∃ b off cap ao n c, v = .slice (some ⟨b, off, none⟩) P.length cap ∧ (∀ W, Below w.heap.size w W → W.cell? ⟨b, off + k * 3 + 2, none⟩ = some (.slice ao n c)) ∧ P[k].code.length = n ∧ n ≤ 40 ∧ cap ≤ 9223372036854775807 ∧ P.length ≤ cap ∧ n ≤ c) := fun k hk => by
    obtain ⟨b, off, cap, u, e, d0, d1, d2, hcv, hm, hcc⟩ := prog_fn hv hk
    have hl2 := (fnOk_of (right_code hR) (List.getElem_mem hk)).1.len2
    obtain ⟨ao1, b1, off1, n, cap1, rfl, ⟨hln, had1, hat1⟩, hcp1, hmx1⟩ := hcv
    exact ⟨b, off, cap, ao1, n, cap1, e, fun W hW => keeps_below hW _ _ d2, hln, by omega, hm, hcc, hcp1.1⟩
  obtain ⟨b0, off0, cap0, _, _, _, rfl, -, -, -, hcm, hcp, -⟩ := HFN.out 0 (by omega)
  have HFN2 : Hid (∀ k, (hk : k < P.length) → ∃ (ao : Option Addr) (n c : Nat), (∀ W, Below w.heap.size w W → W.cell? ⟨b0, off0 + k * 3 + 2, none⟩ = some (.slice ao n c)) ∧ (P.getD k ⟨0, 0, []⟩).code.length = n ∧ n ≤ 40 ∧ n ≤ c) := fun k hk => by
    obtain ⟨b', off', cap', ao, n, c, e, hc, hn, h40, -, -, hnc⟩ := HFN.out k hk
    obtain ⟨⟨rfl, rfl⟩, -⟩ : (b0 = b' ∧ off0 = off') ∧ cap0 = cap' := by simpa using e
    exact ⟨ao, n, c, hc, by simp [List.getD, hk, hn], h40, hnc⟩
  obtain ⟨aa, ca, rfl⟩ := hva.shape
  obtain ⟨an, cn, rfl⟩ := hvn.shape
  obtain ⟨i64i, hi64, hz0, hz1', hz2⟩ := info_parts info64
  obtain ⟨iI, hiI, hzI0, hzI1, hzI2⟩ := info_parts infoInts
  clear hv hva hvn hR hI hF h1 h2 hal hP hfa hfn HFN hn1 hB0
  generalize beginSt args answers fuel = S at *
  go_enter Tryd.func32, Tryd.ntmps32
  go_upto_region 6 with (first
    | (go_at_call 65; refine (HBG.out _).mono ?_; rintro e w1 ⟨v1, rfl, hsv, hb1⟩; obtain ⟨cs1, rfl, s1, s2, s3⟩ := hsv.cells)
    | (refine wpList_store_row rfl _ _ _ rfl _ _ rfl rfl _ _ (heap_alloc_last w1 _) s1 s2 s3 ?_; rw [World.setRow_alloc_new]))
  have hz1 : w.heap.size + 1 ≤ w1.heap.size := by have := hb1.size; simpa using this
  have k0 := cell_alloc (keeps_below hb1 ⟨w.heap.size, 0, none⟩ (.slice (some ⟨b0, off0, none⟩) P.length cap0) (by simp)) (.cells cs1 29)
  have r1 : (w1.alloc (.cells cs1 29)).heap[w1.heap.size]? = some (.cells cs1 29 (0, 0)) := heap_alloc_last w1 _
  have HB2 : Hid (Below w.heap.size w (w1.alloc (.cells cs1 29))) := (((Below.refl _ _).alloc (Nat.le_refl _) _).trans (hb1.mono (by simp))).alloc (by omega) _
  have HSV : Hid (StVal (w1.alloc (.cells cs1 29)) (.agg cs1) (walkS P 0 S)) := hsv.keeps (keeps_below ((Below.refl _ _).alloc (Nat.le_refl _) _))
  have hB1 : w.heap.size < w1.heap.size := by omega
  clear hsv hb1 s3
  generalize (w1.alloc (.cells cs1 29)) = WB at *
  generalize w1.heap.size = B at *
  go_loopg [12, 13] (fuel + 2) (fun m a b wr => ∃ (k : Nat) (csk : Array Value), m + k = fuel + 2 ∧ wr.heap[B]? = some (.cells csk 29 (0, 0)) ∧ (Tryd.prog.info? 29).map (·.size) = some csk.size ∧ zeroStCells.size = csk.size ∧ StVal wr (.agg csk) (walkS P k S) ∧ wr.cell? ⟨w.heap.size, 0, none⟩ = some (.slice (some ⟨b0, off0, none⟩) P.length cap0) ∧ Two wr (B + 1) a b ((trS P S k).map (·.1)) ((trS P S k).map (·.2)) ∧ Below w.heap.size w wr)
  case atStart => exact ⟨0, cs1, rfl, r1, s1, s2, HSV.out, k0, Two.nil _ _, HB2.out⟩
  case round =>
    clear r1 s1 s2 HSV k0 HB2
    rename World => wE
    obtain ⟨k, csk, hmk, hrow, hq, hzk, hsv, hkp, htw, hbr⟩ := hrel
    have HMK : Hid (gk + k = fuel + 2) := hmk
    have HBR : Hid (Below w.heap.size w wE) := hbr
    have hc0 : wE.cell? ⟨B, 0, none⟩ = some (.int .i64 (walkS P k S).status) := by rw [cell_of_row _ _ _ _ _ _ hrow]; exact hsv.at.1
    have hc19 : wE.cell? ⟨B, 19, none⟩ = some (.int .i64 (walkS P k S).fuel) := by rw [cell_of_row _ _ _ _ _ _ hrow]; exact hsv.at.2.2.1
    have hBw : B < wE.heap.size := lt_of_block hrow
    obtain ⟨aoA, capA, rfl⟩ := own_shape htw.one
    obtain ⟨aoB, capB, rfl⟩ := own_shape htw.two
    have hTL : (trS P S k).length ≤ k := tr_len P S k
    by_cases hs : (walkS P k S).status = 0
    · have hkF := HFU.out k hs
      rw [hs] at hc0
      have hInv := HRI.out k
      obtain ⟨fs, f, kk, jj, hkk, hjj, hsn, e1, e2, -, -⟩ := run_last hInv hs
      obtain ⟨fb, foff, fcap, g2, frng, f12, fc1, fc2⟩ := hsv.framesAt hsn
      have c2 : wE.cell? ⟨B, 2, none⟩ = some (.slice (some ⟨fb, foff, none⟩) (fs.length + 1) fcap) := by rw [cell_of_row _ _ _ _ _ _ hrow]; exact g2
      have HSU1 : Hid (walkS P (k + 1) S = stepS P (walkS P k S)) := HSU.out k hs
      have HMO : Hid ((walkS P (k + 1) S).fuel < (walkS P k S).fuel → (trS P S (k + 1)).map (·.1) = (trS P S k).map (·.1) ++ [(kk : Int)] ∧ (trS P S (k + 1)).map (·.2) = (trS P S k).map (·.2) ++ [(jj : Int)]) := trS_more hs hsn e1 e2
      have HSA : Hid (¬ (walkS P (k + 1) S).fuel < (walkS P k S).fuel → trS P S (k + 1) = trS P S k) := trS_same hs
      obtain ⟨ff0, ff1⟩ := frame_fn e1 e2
      obtain ⟨m, hm⟩ : ∃ m : Nat, m = fs.length + 1 := ⟨_, rfl⟩
      obtain ⟨j, hj⟩ : ∃ j : Nat, j = fs.length := ⟨_, rfl⟩
      rw [← hm] at c2 fc1
      rw [← hj] at frng
      have hw1 : IntKind.i64.wrap ((m : Int) - 1) = (j : Int) := by rw [show (m : Int) - 1 = j by omega]; exact wrap_fits _ (by omega) (by omega)
      have hjm : (j : Int) < m := by omega
      have hjn : j < m := by omega
      have hm0 : ¬ m = 0 := by omega
      have hfl : (Tryd.prog.info? 55).map (·.size) = some (frCells f).length := by rw [frCells_length f f12]; exact infoFr
      have hfs : (Tryd.prog.info? 55).map (·.size) = some (frCells f).toArray.size := by rw [List.size_toArray]; exact hfl
      have hfo : (frCells f).toArray.all (·.oneCell') = true := by rw [Array.all_eq_true_iff_forall_mem]; intro u hu; exact frCells_one _ u (by simpa using hu)
      have hfz : (zeroFr 0).toArray.size = (frCells f).toArray.size := by rw [List.size_toArray, List.size_toArray, frCells_length f f12]; rfl
      have HSVr : Hid (StVal wE (.agg csk) (walkS P k S)) := hsv
      have HTW : Hid (Two wE (B + 1) (.slice aoA ((trS P S k).map (·.1)).length capA) (.slice aoB ((trS P S k).map (·.2)).length capB) ((trS P S k).map (·.1)) ((trS P S k).map (·.2))) := htw
      have hlA : ((trS P S k).map (·.1)).length ≤ k := by simpa using hTL
      have hlB : ((trS P S k).map (·.2)).length ≤ k := by simpa using hTL
      have HSTP : Hid (∀ W, Below w.heap.size w W → StVal W (.agg csk) (walkS P k S) → Calls Tryd.prog 66 #[.agg #[.slice (some ⟨b0, off0, none⟩) P.length cap0], .agg csk] W fun e w' => ∃ cs', e = .returned (.agg cs') ∧ (Tryd.prog.info? 29).map (·.size) = some cs'.size ∧ zeroStCells.size = cs'.size ∧ cs'.all (·.oneCell') = true ∧ StAt w' W.heap.size (.agg cs') (walkS P (k + 1) S) ∧ Below W.heap.size W w') := fun W hb hv => by
        refine (HSP.out k W (.agg csk) hkF hs hb hv).mono ?_
        rintro e w' ⟨v', rfl, hst, hb⟩
        obtain ⟨cs', rfl, c1, c2, c3⟩ := hst.val.cells
        exact ⟨cs', rfl, c1, c2, c3, by rw [HSU1.out]; exact hst, hb⟩
      have HNA : Hid (∀ g, (Value.slice aoA ((trS P S k).map (·.1)).length capA).ownBlock = some g → B < g ∧ g < wE.heap.size) := fun g e => by have := htw.one.lt g e; omega
      have HNB : Hid (∀ g, (Value.slice aoB ((trS P S k).map (·.2)).length capB).ownBlock = some g → B < g ∧ g < wE.heap.size) := fun g e => by have := htw.two.lt g e; omega
      clear g2 hm hj hsv htw hbr hmk hInv hsn hs hTL
      obtain ⟨LA, hLA⟩ : ∃ L, L = (trS P S k).map (·.1) := ⟨_, rfl⟩
      obtain ⟨LB, hLB⟩ : ∃ L, L = (trS P S k).map (·.2) := ⟨_, rfl⟩
      rw [← hLA] at HTW HMO hlA HNA ⊢
      rw [← hLB] at HTW HMO hlB HNB ⊢
      have HLA : Hid ((trS P S k).map (·.1) = LA) := hLA.symm
      have HLB : Hid ((trS P S k).map (·.2) = LB) := hLB.symm
      clear hLA hLB
      go_upto_region 8 with (first
        | (refine wpList_load_mid rfl _ _ rfl fb (foff + j * 14) rfl (frCells f) _ frng Tryd.underlying55 rfl hfl ?_)
        | (refine wpList_store_row rfl _ _ _ rfl _ (frCells f).toArray rfl rfl 55 (zeroFr 0).toArray (heap_alloc_last wE _) hfs hfz hfo ?_; rw [World.setRow_alloc_new]))
      have HA6 : Hid (Below wE.heap.size wE (wE.alloc (.cells (frCells f).toArray 55))) := (Below.refl _ _).alloc (Nat.le_refl _) _
      have rt6 : (wE.alloc (.cells (frCells f).toArray 55)).heap[wE.heap.size]? = some (.cells (frCells f).toArray 55 (0, 0)) := heap_alloc_last wE _
      have HB6 : Hid (Below w.heap.size w (wE.alloc (.cells (frCells f).toArray 55))) := HBR.out.trans (HA6.out.mono HBR.out.size)
      have hkp6 := keeps_below HA6.out _ _ hkp
      have hrow6 := (HA6.out.block _ (lt_of_block hrow)).trans hrow
      have HSV6 : Hid (StVal (wE.alloc (.cells (frCells f).toArray 55)) (.agg csk) (walkS P k S)) := HSVr.out.keeps (keeps_below HA6.out)
      have HTW6 : Hid _ := HTW.out.below HA6.out
      clear HA6 HBR HTW HSVr hkp hrow hc0 hc19 c2 frng hfl hfs hfo hfz hw1 hjm hjn hm0 fc1 fc2
      obtain ⟨D, hDe⟩ : ∃ D, D = wE.heap.size := ⟨_, rfl⟩
      rw [← hDe] at rt6 hBw HNA HNB ⊢
      clear hDe
      generalize (wE.alloc (.cells (frCells f).toArray 55)) = WF at *
      have hNX := HSTP.out WF HB6.out HSV6.out
      go_upto_region 9 with (first
        | (refine wpList_load_row rfl _ _ rfl _ rfl _ _ _ _ hrow6 Tryd.underlying29 rfl hq ?_)
        | (go_at_call 66; refine hNX.mono ?_; rintro e wn ⟨csn, rfl, d1, d2, d3, hstn, hbn⟩)
        | (refine wpList_store_row rfl _ _ _ rfl _ _ rfl rfl _ _ (heap_alloc_last wn _) d1 d2 d3 ?_; rw [World.setRow_alloc_new]))
      have HA7 : Hid (Below WF.heap.size WF (wn.alloc (.cells csn 29))) := hbn.alloc hbn.size _
      have hrow7 := (HA7.out.block _ (lt_of_block hrow6)).trans hrow6
      have rt7 := (HA7.out.block _ (lt_of_block rt6)).trans rt6
      have HMD : Hid (MidR (wn.alloc (.cells csn 29)) w B D wn.heap.size WF.heap.size csk csn (.slice (some ⟨b0, off0, none⟩) P.length cap0) kk jj (walkS P (k + 1) S)) := ⟨heap_alloc_last wn _, hrow7, keeps_below HA7.out _ _ hkp6, by rw [cell_of_row _ _ _ _ _ _ rt7]; exact ff0, by rw [cell_of_row _ _ _ _ _ _ rt7]; exact ff1, hstn.moved (fun a u ha hu => cell_alloc hu _), HB6.out.trans (HA7.out.mono HB6.out.size), lt_of_block rt6, hbn.size, hB1⟩
      have n19 : (wn.alloc (.cells csn 29)).cell? ⟨wn.heap.size, 19, none⟩ = some (.int .i64 (walkS P (k + 1) S).fuel) := by rw [cell_of_row _ _ _ _ _ _ HMD.out.rn]; exact hstn.val.at.2.2.1
      have c19 : (wn.alloc (.cells csn 29)).cell? ⟨B, 19, none⟩ = some (.int .i64 (walkS P k S).fuel) := by rw [cell_of_row _ _ _ _ _ _ hrow7]; exact HSV6.out.at.2.2.1
      have t0 := HMD.out.t0
      have t1 := HMD.out.t1
      have HTW7 : Hid (Two (wn.alloc (.cells csn 29)) (B + 1) (.slice aoA LA.length capA) (.slice aoB LB.length capB) LA LB) := HTW6.out.below HA7.out
      have hz7 : B < (wn.alloc (.cells csn 29)).heap.size := lt_of_block hrow7
      clear HA7 hbn hstn hNX hrow6 rt6 hkp6 HTW6 HSV6 HB6 ff0 ff1 hrow7 rt7
      generalize (wn.alloc (.cells csn 29)) = W8 at *
      generalize wn.heap.size = Gn at *
      generalize WF.heap.size = Hf at *
      have hcz : csk.size = csn.size := hzk.symm.trans d2
      have hmk := HMK.out
      generalize (walkS P k S).fuel = fu0 at *
      generalize hfu1 : (walkS P (k + 1) S).fuel = fu1 at *
      clear hfu1 HMK hzk
      by_cases hless : fu1 < fu0
      · obtain ⟨q1, q2⟩ := HMO.out hless
        have HQ1 : Hid ((trS P S (k + 1)).map (·.1) = LA ++ [(kk : Int)]) := q1
        have HQ2 : Hid ((trS P S (k + 1)).map (·.2) = LB ++ [(jj : Int)]) := q2
        clear q1 q2
        have hd : decide (fu1 < fu0) = true := by simpa using hless
        clear hless
        go_wp2_with (first
          | (at_builtin; refine wpList_append_lies _ rfl (.tmp 50) (.tmp 53) 27 rfl (B + 1) 3 i64i _ 1 8 Tryd.underlying27 hi64 hz0 hz1' hz2 rfl (by decide) (.slice aoA LA.length capA) LA.length (i64s LA) rfl (HTW7.out.one.alloc _) ⟨W8.heap.size, 0, none⟩ 1 1 (i64s [(kk : Int)]) rfl rfl (news_list _ _ _ _ rfl) (i64s_one _) Nat.one_pos (by unfold maxLen; omega) (by omega) (by simp; omega) (W8.heap.size + 1) (by simp) ?_; intro g4 cap4 w4 hown4 hg4 hat4 hlt4; have HT4 : Hid (Two w4 (B + 1) (.slice (some ⟨g4, 0, none⟩) (LA.length + 1) cap4) (.slice aoB LB.length capB) (LA ++ [(kk : Int)]) LB) := (HTW7.out.below ((Below.refl _ _).alloc (Nat.le_refl _) _)).addA hg4 (own_snoc rfl hown4) (lies_loc (by simpa using hat4)); have HM4 : Hid (MidR w4 w B D Gn Hf csk csn (.slice (some ⟨b0, off0, none⟩) P.length cap0) kk jj (walkS P (k + 1) S)) := (HMD.out.alloc _).gb hg4 HNA.out; have t4 := HM4.out.t1; have hz4 := lt_of_block HM4.out.rb; clear hown4 hat4 hlt4 hg4)
          | (at_builtin; refine wpList_append_lies _ rfl (.tmp 55) (.tmp 58) 27 rfl (B + 1) 3 i64i _ 1 8 Tryd.underlying27 hi64 hz0 hz1' hz2 rfl (by decide) (.slice aoB LB.length capB) LB.length (i64s LB) rfl (HT4.out.two.alloc _) ⟨w4.heap.size, 0, none⟩ 1 1 (i64s [(jj : Int)]) rfl rfl (news_list _ _ _ _ rfl) (i64s_one _) Nat.one_pos (by unfold maxLen; omega) (by omega) (by simp; omega) (w4.heap.size + 1) (by simp) ?_; intro g5 cap5 w5 hown5 hg5 hat5 hlt5; have HT5 : Hid (Two w5 (B + 1) (.slice (some ⟨g4, 0, none⟩) (LA.length + 1) cap4) (.slice (some ⟨g5, 0, none⟩) (LB.length + 1) cap5) (LA ++ [(kk : Int)]) (LB ++ [(jj : Int)])) := (HT4.out.below ((Below.refl _ _).alloc (Nat.le_refl _) _)).addB hg5 (own_snoc rfl hown5) (lies_loc (by simpa using hat5)); have HM5 : Hid (MidR w5 w B D Gn Hf csk csn (.slice (some ⟨b0, off0, none⟩) P.length cap0) kk jj (walkS P (k + 1) S)) := (HM4.out.alloc _).gb hg5 HNB.out; have rn5 := HM5.out.rn; have rb5 := HM5.out.rb; clear hown5 hat5 hlt5 hg5)
          | (refine wpList_load_row rfl _ _ rfl _ rfl _ _ _ _ rn5 Tryd.underlying29 rfl d1 ?_)
          | (refine wpList_store_row rfl _ _ _ rfl B csn rfl rfl 29 csk rb5 d1 hcz d3 ?_))
        go_roundg (gk - 1)
        case measure => omega
        case rel =>
          have hM := HM5.out
          have h1 := hM.d
          have h2 := hM.g
          have h3 := hM.b
          have hGB := gb_setRow w5 B csn
          exact ⟨k + 1, csn, by omega, setRow_heap _ _ _ _ _ _ hM.rb, d1, d2, (hM.st.setRow (by omega) _).val, gb_cell hGB hM.kp (by show w.heap.size ≠ B; omega), by rw [HQ1.out, HQ2.out]; exact HT5.out.kept hGB (by omega), below_setRow hM.low (by omega) hM.rb _⟩
      · have HQ : Hid (trS P S (k + 1) = trS P S k) := HSA.out (by omega)
        have hd : decide (fu1 < fu0) = false := by simpa using hless
        clear hless
        have rn5 := HMD.out.rn
        have rb5 := HMD.out.rb
        go_wp2_with (first
          | (refine wpList_load_row rfl _ _ rfl _ rfl _ _ _ _ rn5 Tryd.underlying29 rfl d1 ?_)
          | (refine wpList_store_row rfl _ _ _ rfl B csn rfl rfl 29 csk rb5 d1 hcz d3 ?_))
        go_roundg (gk - 1)
        case measure => omega
        case rel =>
          have hM := HMD.out
          have h1 := hM.d
          have h2 := hM.g
          have h3 := hM.b
          have hGB := gb_setRow W8 B csn
          exact ⟨k + 1, csn, by omega, setRow_heap _ _ _ _ _ _ hM.rb, d1, d2, (hM.st.setRow (by omega) _).val, gb_cell hGB hM.kp (by show w.heap.size ≠ B; omega), by rw [HQ.out, HLA.out, HLB.out]; exact HTW7.out.kept hGB (by omega), below_setRow hM.low (by omega) hM.rb _⟩
    · have hne : ((walkS P k S).status == 0) = false := by simpa using hs
      have HS : Hid ((walkS P k S).status ≠ 0) := hs
      have HCK : Hid (cntS P S k = rowsT P (trS P S k)) := HCT.out k
      have hTPk := HTP.out k
      have hkF2 : k ≤ fuel + 2 := by omega
      obtain ⟨fa, fb, foff, M, fcap, eA, hlA, haA, hcA, hcpA, hmA⟩ := ints_get (ints_of_own htw.one)
      obtain ⟨pa, pb, poff, M2, pcap, eB, hlB, haB, hcB, hcpB, hmB⟩ := ints_get (ints_of_own htw.two)
      have hM2 : M = M2 := by rw [← hlA, ← hlB]; simp
      subst hM2
      have hTM : (trS P S k).length = M := by simpa using hlA
      have HT : Hid (∀ q, q < M → ∃ (a b : Nat) (ha : a < P.length), fa = some ⟨fb, foff, none⟩ ∧ pa = some ⟨pb, poff, none⟩ ∧ (trS P S k).getD q (0, 0) = ((a : Int), (b : Int)) ∧ b < P[a].code.length ∧ ∀ W, Below wE.heap.size wE W → W.cell? ⟨fb, foff + q, none⟩ = some (.int .i64 (a : Int)) ∧ W.cell? ⟨pb, poff + q, none⟩ = some (.int .i64 (b : Int))) := fun q hq => by
        have hqT : q < (trS P S k).length := by omega
        obtain ⟨a, b, ha, e, hb⟩ := hTPk _ (List.getElem_mem hqT)
        have eA' : ((trS P S k).map (·.1)).getD q 0 = (a : Int) := by simp [List.getD, hqT, e]
        have eB' : ((trS P S k).map (·.2)).getD q 0 = (b : Int) := by simp [List.getD, hqT, e]
        refine ⟨a, b, ha, haA (by omega), haB (by omega), by simp [List.getD, hqT, e], hb, fun W hW => ⟨?_, ?_⟩⟩
        · rw [← eA']; exact keeps_below hW _ _ (hcA q hq)
        · rw [← eB']; exact keeps_below hW _ _ (hcB q hq)
      have eA2 : (Value.slice aoA ((trS P S k).map (·.1)).length capA) = .slice fa M fcap := eA
      have eB2 : (Value.slice aoB ((trS P S k).map (·.2)).length capB) = .slice pa M pcap := eB
      rw [eA2, eB2]
      have hM3 : M ≤ 10002 := by omega
      have HFB : Hid (∀ q, q < P.length → ∃ (ao : Option Addr) (n c : Nat), (∀ W, Below wE.heap.size wE W → W.cell? ⟨b0, off0 + q * 3 + 2, none⟩ = some (.slice ao n c)) ∧ (P.getD q ⟨0, 0, []⟩).code.length = n ∧ n ≤ 40 ∧ n ≤ c) := fun q hq => by
        obtain ⟨ao, n, c, hc, h1, h2, h3⟩ := HFN2.out q hq
        exact ⟨ao, n, c, fun W hW => hc W (HBR.out.trans (hW.mono HBR.out.size)), h1, h2, h3⟩
      have HKP : Hid (∀ W, Below wE.heap.size wE W → W.cell? ⟨w.heap.size, 0, none⟩ = some (.slice (some ⟨b0, off0, none⟩) P.length cap0)) := fun W hW => keeps_below hW _ _ hkp
      have HRT : Hid (∀ i n q a b : Nat, q < M → (trS P S k).getD q (0, 0) = ((a : Int), (b : Int)) → (a = i → b < n) → rowT ((trS P S k).drop q) i n = if a = i then (rowT ((trS P S k).drop (q + 1)) i n).set b ((rowT ((trS P S k).drop (q + 1)) i n).getD b 0 + 1) else rowT ((trS P S k).drop (q + 1)) i n) := fun i n q a b hq e hb => rowT_step _ i n q (by omega) a b (by rw [← e]; simp [List.getD, show q < (trS P S k).length by omega]) hb
      have HRE : Hid (∀ i n, rowT ((trS P S k).drop M) i n = List.replicate n 0) := fun i n => rowT_end _ i n M (by omega)
      have HRB : Hid (∀ i n q b, 0 ≤ (rowT ((trS P S k).drop q) i n).getD b 0 ∧ (rowT ((trS P S k).drop q) i n).getD b 0 ≤ 10002) := fun i n q b => by
        by_cases hb : b < n
        · rw [rowT_get _ _ _ _ hb]
          have := occ_le ((trS P S k).drop q) i b
          rw [List.length_drop] at this
          omega
        · simp [List.getD, rowT_len, hb]
      have HPC : Hid (∀ a (ha : a < P.length), (P.getD a ⟨0, 0, []⟩).code.length = P[a].code.length) := fun a ha => by simp [List.getD, ha]
      have HBE : Hid (Below w.heap.size w wE) := HBR.out
      have hmi : ∀ n, (madeCells (Value.int .i64 0).cells (n * 1)).toList = i64s (List.replicate n 0) := made_ints0
      have HMI : Hid _ := hmi
      have hzE : w.heap.size ≤ wE.heap.size := HBR.out.size
      clear hsv htw hbr hmk hs HBR HMK hTPk hlA hlB haA haB hcA hcB eA eB eA2 eB2 hTM hTL HTP HCT hrow hc19 hkp hmi HFN2 HSU HFU HRI HSP
      generalize hTT : trS P S k = T at *
      clear hTT
      generalize hst : (walkS P k S).status = st at hc0 hne
      clear hst
      obtain ⟨z0, hz0e⟩ : ∃ z0 : Int, z0 = (M : Int) - 1 := ⟨_, rfl⟩
      have hM0 : IntKind.i64.wrap ((M : Int) - 1) = z0 := by rw [hz0e]; exact wrap_signed _ (by omega) (by omega)
      have HZ0 : Hid (z0 = (M : Int) - 1) := hz0e
      clear hz0e
      go_upto_region 15 with fail
      go_loopw [16, 17] (fun o i wr => ∃ (q : Nat) (vs : List Value), q ≤ P.length ∧ i = .int .i64 q ∧ RowsAt wr wE.heap.size o vs (rowsQ P T q) ∧ Below wE.heap.size wE wr) (fun _ i _ => P.length - (intOf i).toNat)
      case atStart => exact ⟨0, [], Nat.zero_le _, rfl, RowsAt.nil _ _, Below.refl _ _⟩
      case round =>
        rename World => wl
        obtain ⟨q, vs, hq, rfl, hra, hbl⟩ := hrel
        obtain ⟨aov, capv, rfl⟩ := own_shape hra.row
        have HRA : Hid (RowsAt wl wE.heap.size (.slice aov vs.length capv) vs (rowsQ P T q)) := hra
        have HBL : Hid (Below wE.heap.size wE wl) := hbl
        have hzl : wE.heap.size ≤ wl.heap.size := hbl.size
        have hvl : vs.length ≤ 4 := by have := hra.len; rw [rowsQ_len] at this; omega
        have kp := HKP.out wl hbl
        by_cases hlt : q < P.length
        · obtain ⟨ao, n, c, hcell, hn, h40, hnc⟩ := HFB.out q hlt
          have j2 := hcell wl hbl
          have hqI : (q : Int) < P.length := by omega
          have HNN : Hid ((P.getD q ⟨0, 0, []⟩).code.length = n) := hn
          have hmi := HMI.out n
          clear hcell hra hbl hn
          go_wp2_with (at_make; refine wpList_make_full _ rfl (.tmp 74) (.tmp 74) 27 rfl wE.heap.size 3 i64i _ 1 Tryd.underlying27 hi64 hz0 hz1' .i64 .i64 _ _ n rfl rfl (by simp) (by simp) (by rw [hz2]; omega) (by unfold maxLen; omega) (by omega) ?_; intro w2 hown2 hg2; rw [hmi] at hown2; have HO2 : Hid (OwnI w2 wE.heap.size (.slice (some ⟨wl.heap.size, 0, none⟩) n n) (List.replicate n 0)) := (by show World.ownsRow _ _ _ _ _ _ _; rw [List.length_replicate]; exact hown2); have HB2 : Hid (Below wl.heap.size wl w2) := below_grown hg2; clear hown2 hg2)
          go_loopw [19] (fun i wr => ∃ (u : Nat) (z : Int), u ≤ M ∧ z = (u : Int) - 1 ∧ i = .int .i64 z ∧ OwnI wr wE.heap.size (.slice (some ⟨wl.heap.size, 0, none⟩) n n) (rowT (T.drop u) q n) ∧ Below wl.heap.size wl wr) (fun i _ => (intOf i + 1).toNat)
          case atStart => exact ⟨M, z0, Nat.le_refl _, HZ0.out, rfl, by rw [HRE.out]; exact HO2.out, HB2.out⟩
          case round =>
            clear HO2 HB2 j2 kp hmi
            rename World => wk
            obtain ⟨u, z, hu, hz, rfl, hown, hbk⟩ := hrel
            have HOW : Hid (OwnI wk wE.heap.size (.slice (some ⟨wl.heap.size, 0, none⟩) n n) (rowT (T.drop u) q n)) := hown
            have HBK : Hid (Below wl.heap.size wl wk) := hbk
            have hzk2 : wl.heap.size ≤ wk.heap.size := hbk.size
            have HBEk : Hid (Below wE.heap.size wE wk) := HBL.out.trans (hbk.mono hzl)
            cases u with
            | zero =>
              obtain rfl : z = -1 := by omega
              have HRL : Hid (RowsAt (wk.alloc (.cells #[.slice (some ⟨wl.heap.size, 0, none⟩) n n] 27)) wE.heap.size (.slice aov vs.length capv) vs (rowsQ P T q)) := (HRA.out.below HBK.out).below ((Below.refl _ _).alloc (Nat.le_refl _) _)
              have HOU : Hid (OwnI (wk.alloc (.cells #[.slice (some ⟨wl.heap.size, 0, none⟩) n n] 27)) wE.heap.size (.slice (some ⟨wl.heap.size, 0, none⟩) n n) (rowT T q n)) := World.ownsRow.alloc hown _
              have HBW : Hid (Below wE.heap.size wE (wk.alloc (.cells #[.slice (some ⟨wl.heap.size, 0, none⟩) n n] 27))) := HBEk.out.alloc (by omega) _
              clear hown hbk hz
              go_wp2_with (at_builtin; refine wpList_append_own _ rfl (.tmp 98) (.tmp 100) 75 rfl wE.heap.size 27 iI _ 1 24 Tryd.underlying75 hiI hzI0 hzI1 hzI2 rfl (by decide) _ _ _ rfl HRL.out.row ⟨_, 0, none⟩ 1 1 [.slice (some ⟨wl.heap.size, 0, none⟩) n n] rfl rfl (news_list _ _ _ _ (by simp)) (by simp [Value.oneCell']) (by unfold maxLen; omega) (by omega) (by simp; omega) ?_; intro v7 w7 hown7 hg7 _; have HR7 : Hid (RowsAt w7 wE.heap.size v7 (vs ++ [.slice (some ⟨wl.heap.size, 0, none⟩) n n]) (rowsQ P T q ++ [rowT T q n])) := HRL.out.add HOU.out (by simpa using hown7) hg7; have HB7 : Hid (Below wE.heap.size wE w7) := HBW.out.trans (grown_base HRL.out.row (by simp; omega) hg7); clear hown7 hg7)
              go_roundw
              case rel => exact ⟨q + 1, _, by omega, by go_num, by rw [rowsQ_succ, HNN.out]; exact HR7.out, HB7.out⟩
              case measure => simp [intOf]; omega
            | succ u =>
              obtain rfl : z = (u : Int) := by omega
              clear hz
              obtain ⟨a, b, ha, rfl, rfl, eT, hb, hcell⟩ := HT.out u (by omega)
              obtain ⟨ca, cb⟩ := hcell wk HBEk.out
              have huM : (u : Int) < M := by omega
              have huN : u < M := by omega
              obtain ⟨z1, hz1e⟩ : ∃ z1 : Int, z1 = (u : Int) - 1 := ⟨_, rfl⟩
              have hw1 : IntKind.i64.wrap ((u : Int) - 1) = z1 := by rw [hz1e]; exact wrap_signed _ (by omega) (by omega)
              have HZ1 : Hid (z1 = (u : Int) - 1) := hz1e
              by_cases haq : a = q
              · subst haq
                have hbn : b < n := by rw [← HNN.out, HPC.out a ha]; exact hb
                have HSTP : Hid (rowT (T.drop u) a n = (rowT (T.drop (u + 1)) a n).set b ((rowT (T.drop (u + 1)) a n).getD b 0 + 1)) := by show _ = _; rw [HRT.out a n u a b huN eT (fun _ => hbn), if_pos rfl]
                have hxb := HRB.out a n (u + 1) b
                obtain ⟨r1, r2, r3, r4⟩ := own_inc hown (rowT_len _ _ _) hbn ((rowT (T.drop (u + 1)) a n).getD b 0 + 1)
                have HO3 : Hid (OwnI (wk.setCell ⟨wl.heap.size, b, none⟩ (.int .i64 ((rowT (T.drop (u + 1)) a n).getD b 0 + 1))) wE.heap.size (.slice (some ⟨wl.heap.size, 0, none⟩) n n) (rowT (T.drop u) a n)) := by show OwnI _ _ _ _; rw [HSTP.out]; exact r3
                have HB3 : Hid (Below wl.heap.size wl (wk.setCell ⟨wl.heap.size, b, none⟩ (.int .i64 ((rowT (T.drop (u + 1)) a n).getD b 0 + 1)))) := below_gb HBK.out r4 (Nat.le_refl _) hzk2
                clear hown hbk r3 r4 hcell eT hb hz1e HOW HSTP
                generalize (rowT (T.drop (u + 1)) a n).getD b 0 = x at *
                have hwx : IntKind.i64.wrap (x + 1) = x + 1 := wrap_fits _ (by omega) (by omega)
                have hbI : (b : Int) < n := by omega
                clear hxb
                go_wp2
                go_roundw
                case rel => exact ⟨u, z1, by omega, HZ1.out, rfl, HO3.out, HB3.out⟩
                case measure => have := HZ1.out; simp [intOf]; omega
              · have hne2 : ((a : Int) == (q : Int)) = false := by simpa using (show ¬ (a : Int) = (q : Int) by omega)
                have hne3 : (a == q) = false := by simpa using haq
                have HO3 : Hid (OwnI wk wE.heap.size (.slice (some ⟨wl.heap.size, 0, none⟩) n n) (rowT (T.drop u) q n)) := by show OwnI _ _ _ _; rw [HRT.out q n u a b huN eT (fun e => absurd e haq), if_neg haq]; exact hown
                clear hown hbk hcell eT hb hz1e HOW
                go_wp2
                go_roundw
                case rel => exact ⟨u, z1, by omega, HZ1.out, rfl, HO3.out, HBK.out⟩
                case measure => have := HZ1.out; simp [intOf]; omega
        · obtain rfl : q = P.length := by omega
          have HFIN : Hid (RowsAt wl wE.heap.size (.slice aov vs.length capv) vs (cntS P S k)) := by show RowsAt _ _ _ _ _; rw [HCK.out, ← rowsQ_all]; exact HRA.out
          clear hra
          go_wp2
          go_ret2
          exact ⟨_, vs, k, _, rfl, HFIN.out, HS.out, HBE.out.trans (HBL.out.mono hzE)⟩
end Go.Proofs.YtndogdojcbcjgaaDoor
