/- Texts put together: FramesMay, Barred, OwnSt, StepMath, RunMath, Engine, Eng, EngWork, EngRet, EngCall, StepCheck. -/
import Derived.Test.YtdpaohmaafngkaaDoorXPlace
import Derived.Deep.RegionHeld3
import Derived.Deep.Cut
import Derived.Test.YtdpaohmaafngkaaDoorGroupC
import Derived.Test.YtdpaohmaafngkaaDoorGroupB
import Derived.Deep.AppendLies
import Derived.Laws.OwnMore
import Derived.WalkSmall
import Derived.Deep.RegionLaw
/- Contract of step.framesMayBe. -/
namespace Go.Proofs.YtdpaohmaafngkaaDoor
open Go Go.RowKit

theorem wrap_fits (n : Int) (h0 : 0 ≤ n) (h1 : n ≤ 9223372036854775807) : IntKind.i64.wrap n = n := by
  have e : n % 2 ^ 64 = n := Int.emod_eq_of_lt h0 (by simp; omega)
  have w1 : IntKind.i64.wrap n = if (true && decide (n ≥ 2 ^ 63)) = true then n - (2 ^ 64 : Int) else n := by
    simp only [IntKind.wrap, IntKind.bits, IntKind.signed, e]
  rw [w1, if_neg (by simp; omega)]
/-- The instruction at a frame's place. -/
def insAtFr (P : List Fn) (f : Fr) : Ins := ((P.getD f.fn.toNat ⟨0, 0, []⟩).code).getD f.pc.toNat ⟨0, 0, 0, 0, 0⟩
def frOf (fs : List Fr) (k : Nat) : Fr := fs.getD k ⟨0, 0, []⟩
/-- May the frame k be where it is? -/
def frB (P : List Fn) (fs : List Fr) (k : Nat) : Bool := placeB P (frOf fs k) && (decide (fs.length ≤ k + 1) || (decide ((insAtFr P (frOf fs k)).op = 17) && decide ((insAtFr P (frOf fs k)).imm = (frOf fs (k + 1)).fn)))
def framesB (P : List Fn) (fs : List Fr) : Bool := (List.range fs.length).all fun k => frB P fs k
theorem framesB_false {P : List Fn} {fs : List Fr} {k : Nat} (hk : k < fs.length) (h : frB P fs k = false) : framesB P fs = false := by
  unfold framesB
  rw [List.all_eq_false]
  exact ⟨k, List.mem_range.2 hk, by simp [h]⟩
theorem framesB_true {P : List Fn} {fs : List Fr} (h : ∀ j, j < fs.length → frB P fs j = true) : framesB P fs = true := by
  unfold framesB
  rw [List.all_eq_true]
  exact fun k hk => h k (List.mem_range.1 hk)

/-- A function, and an instruction, of a program that lies in memory. -/
theorem prog_ins {w : World} {v : Value} {P : List Fn} (hv : ProgVal w v P) {f : Fr} (hp : placeB P f = true) :
    ∃ (k j b off cap b1 off1 m cap1 : Nat), f.fn = k ∧ f.pc = j ∧ v = .slice (some ⟨b, off, none⟩) P.length cap ∧ k < P.length ∧ w.cell? ⟨b, off + k * 3 + 2, none⟩ = some (.slice (some ⟨b1, off1, none⟩) m cap1) ∧ j < m ∧ m ≤ cap1 ∧ cap1 ≤ 9223372036854775807 ∧ P.length ≤ cap ∧ cap ≤ 9223372036854775807 ∧ insAt w b1 (off1 + j * 5) (insAtFr P f) := by
  unfold placeB at hp
  simp only [decide_eq_true_eq] at hp
  obtain ⟨p0, p1, p2, p3⟩ := hp
  obtain ⟨k, hk⟩ := Int.eq_ofNat_of_zero_le p0
  obtain ⟨j, hj⟩ := Int.eq_ofNat_of_zero_le p2
  have hkl : k < P.length := by omega
  have eP : (P.getD f.fn.toNat ⟨0, 0, []⟩) = P[k] := by rw [hk]; simp [List.getD, List.getElem?_eq_getElem hkl]
  rw [eP] at p3
  have hjl : j < P[k].code.length := by omega
  obtain ⟨ao, b, off, n, cap, rfl, ⟨hlen, haddr, hat⟩, hcap, hmax⟩ := hv
  subst hlen
  obtain rfl := haddr (by omega)
  obtain ⟨u, d0, d1, d2, hcv⟩ := hat k hkl
  obtain ⟨ao1, b1, off1, n1, cap1, rfl, ⟨hlen1, haddr1, hat1⟩, hc1, hmax1⟩ := hcv
  subst hlen1
  obtain rfl := haddr1 (by omega)
  have eI : insAtFr P f = P[k].code[j] := by unfold insAtFr; rw [eP, hj]; simp [List.getD, List.getElem?_eq_getElem hjl]
  refine ⟨k, j, b, off, cap, b1, off1, _, cap1, hk, hj, rfl, hkl, d2, hjl, hc1.1, by simpa [maxLen] using hmax1, hcap.1, by simpa [maxLen] using hmax, ?_⟩
  rw [eI]
  exact hat1 j hjl

end Go.Proofs.YtdpaohmaafngkaaDoor

/- Contracts of step.barred and step.put. -/
namespace Go.Proofs.YtdpaohmaafngkaaDoor
open Go Go.RowKit

/-- The status of an instruction that cannot be done with these numbers; 0: it can. -/
def barredI (x : Ins) (a b : Int) : Int := if x.op = 5 then (if b = 0 then 3 else 0) else if x.op = 13 ∨ x.op = 14 then (if a < 0 ∨ 16 ≤ a then 4 else 0) else 0

theorem cell_set_same_block {w : World} {g i j : Nat} {cur : Array Value} {t : TypeId} (hg : w.heap[g]? = some (.cells cur t (0, 0))) (u : Value) (h : i ≠ j) : (w.setCell ⟨g, i, none⟩ u).cell? ⟨g, j, none⟩ = w.cell? ⟨g, j, none⟩ := by
  rw [cell_of_row _ _ _ _ _ _ (heap_setCell_same _ _ _ _ _ _ hg), cell_of_row _ _ _ _ _ _ hg, Array.getElem?_setIfInBounds, if_neg h]

end Go.Proofs.YtdpaohmaafngkaaDoor

/- Contract of step.own: a state in memory of the call's own. -/
namespace Go.Proofs.YtdpaohmaafngkaaDoor
open Go Go.RowKit

theorem stCells_set2 (s : St) (fv ev av u : Value) : (stCells s fv ev av).toArray.setIfInBounds 2 u = (stCells s u ev av).toArray := by
  rw [List.setIfInBounds_toArray]; rfl
theorem stCells_set5 (s : St) (fv ev av u : Value) (hm : s.mem.length = 16) : (stCells s fv ev av).toArray.setIfInBounds 20 u = (stCells s fv u av).toArray := by
  rw [List.setIfInBounds_toArray]
  congr 1
  unfold stCells
  rw [List.set_append_right _ _ (by simp [i64s, hm])]
  simp [i64s, hm]
theorem stCells_set6 (s : St) (fv ev av u : Value) (hm : s.mem.length = 16) : (stCells s fv ev av).toArray.setIfInBounds 21 u = (stCells s fv ev u).toArray := by
  rw [List.setIfInBounds_toArray]
  congr 1
  unfold stCells
  rw [List.set_append_right _ _ (by simp [i64s, hm])]
  simp [i64s, hm]
theorem stCells_get (s : St) (fv ev av : Value) (hm : s.mem.length = 16) : (stCells s fv ev av).toArray[2]? = some fv ∧ (stCells s fv ev av).toArray[20]? = some ev ∧ (stCells s fv ev av).toArray[21]? = some av := by
  refine ⟨rfl, ?_, ?_⟩
  · rw [List.getElem?_toArray]; unfold stCells; rw [List.getElem?_append_right (by simp [i64s, hm])]; simp [i64s, hm]
  · rw [List.getElem?_toArray]; unfold stCells; rw [List.getElem?_append_right (by simp [i64s, hm])]; simp [i64s, hm]

theorem ownsRow_mono {w : World} {base base' t size n : Nat} {v : Value} {xs : List Value} (h : w.ownsRow base t size v n xs) (hb : base' ≤ base) : w.ownsRow base' t size v n xs := by
  refine ⟨h.1, ?_⟩
  rcases h.2 with h2 | ⟨g, cap, cur, hv, hg, r⟩
  · exact .inl h2
  · exact .inr ⟨g, cap, cur, hv, by omega, r⟩
theorem own_new {w : World} {base t size n : Nat} {v : Value} {xs : List Value} (h : w.ownsRow base t size v n xs) (k : Nat) (hk : v.ownBlock = some k) : base ≤ k := by
  rcases h.2 with ⟨rfl, _⟩ | ⟨g, cap, cur, rfl, hg, _⟩
  · simp [Value.ownBlock] at hk
  · simp [Value.ownBlock] at hk; omega

end Go.Proofs.YtdpaohmaafngkaaDoor

/- What a step does, as plain data; no program is walked here. -/
namespace Go.Proofs.YtdpaohmaafngkaaDoor
open Go Go.RowKit

def fnD (P : List Fn) (k : Int) : Fn := P.getD k.toNat ⟨0, 0, []⟩
/-- The instruction at a frame's place. -/
def insOfFr (P : List Fn) (f : Fr) : Ins := insD (fnD P f.fn) f.pc.toNat
def regD (f : Fr) (r : Int) : Int := f.regs.getD r.toNat 0
/-- A number is put into a register, and the frame goes on. -/
def putF (f : Fr) (r v : Int) : Fr := ⟨f.fn, f.pc + 1, f.regs.set r.toNat v⟩
/-- The frames behind a return, and whether it was the last one. -/
def retS (P : List Fn) (S : St) (fs : List Fr) (a : Int) : St :=
  match fs.getLast? with
  | none => { S with frames := [], status := 1, value := a }
  | some h => { S with frames := fs.dropLast ++ [putF h (insOfFr P h).dst a] }
/-- What an instruction of the last frame does, where it is not barred. -/
def doS (P : List Fn) (S : St) (fs : List Fr) (f : Fr) (x : Ins) : St :=
  if x.op = 13 then { S with frames := fs ++ [putF f x.dst (S.mem.getD (regD f x.a).toNat 0)] }
  else if x.op = 14 then { S with mem := S.mem.set (regD f x.a).toNat (regD f x.b), frames := fs ++ [⟨f.fn, f.pc + 1, f.regs⟩] }
  else if x.op = 15 then { S with frames := fs ++ [⟨f.fn, x.imm, f.regs⟩] }
  else if x.op = 16 then { S with frames := fs ++ [⟨f.fn, if regD f x.a = 0 then f.pc + 1 else x.imm, f.regs⟩] }
  else if x.op = 17 then (if fs.length + 1 = 8 then { S with status := 5 } else { S with frames := fs ++ [f, begunFr x.imm ([regD f x.a, regD f x.b].take (fnD P x.imm).params.toNat)] })
  else if x.op = 18 then { S with events := S.events ++ [regD f x.a], answers := S.answers.tail, frames := fs ++ [putF f x.dst (S.answers.headD 0)] }
  else if x.op = 19 then retS P S fs (regD f x.a)
  else { S with frames := fs ++ [putF f x.dst (mk x.op (regD f x.a) (regD f x.b) x.imm)] }
/-- A step of a state that is running. -/
def stepS (P : List Fn) (S : St) : St :=
  if S.fuel = 0 then { S with status := 2 }
  else match S.frames.getLast? with
    | none => S
    | some f =>
      if barredI (insOfFr P f) (regD f (insOfFr P f).a) (regD f (insOfFr P f).b) = 0 then doS P { S with fuel := S.fuel - 1, status := 0 } S.frames.dropLast f (insOfFr P f)
      else { S with status := barredI (insOfFr P f) (regD f (insOfFr P f).a) (regD f (insOfFr P f).b) }
/-- So many steps; a state that is not running stays. -/
def walkS (P : List Fn) : Nat → St → St
  | 0, S => S
  | n + 1, S => if S.status = 0 then walkS P n (stepS P S) else S
theorem walkS_stays (P : List Fn) (n : Nat) (S : St) (h : S.status ≠ 0) : walkS P n S = S := by
  cases n with
  | zero => rfl
  | succ n => rw [walkS, if_neg h]
theorem walkS_add (P : List Fn) (m n : Nat) (S : St) : walkS P (m + n) S = walkS P n (walkS P m S) := by
  induction m generalizing S with
  | zero => simp [walkS]
  | succ m ih =>
    rw [show m + 1 + n = (m + n) + 1 by omega]
    by_cases h : S.status = 0
    · rw [walkS, if_pos h, ih, walkS, if_pos h]
    · rw [walkS, if_neg h, walkS, if_neg h, walkS_stays P n S h]
theorem retS_fuel (P : List Fn) (S : St) (fs : List Fr) (a : Int) : (retS P S fs a).fuel = S.fuel := by
  unfold retS; split <;> rfl
theorem doS_fuel (P : List Fn) (S : St) (fs : List Fr) (f : Fr) (x : Ins) : (doS P S fs f x).fuel = S.fuel := by
  unfold doS
  repeat' split
  all_goals first | rfl | exact retS_fuel _ _ _ _
/-- A step takes one from the fuel, or the state runs no more and has kept it. -/
theorem stepS_fuel (P : List Fn) (S : St) (hf : S.frames ≠ []) : ((stepS P S).fuel = S.fuel - 1 ∧ S.fuel ≠ 0) ∨ ((stepS P S).fuel = S.fuel ∧ (stepS P S).status ≠ 0) := by
  unfold stepS
  by_cases h0 : S.fuel = 0
  · rw [if_pos h0]; exact Or.inr ⟨rfl, by show (2 : Int) ≠ 0; decide⟩
  rw [if_neg h0]
  cases hl : S.frames.getLast? with
  | none => exact absurd (List.getLast?_eq_none_iff.1 hl) hf
  | some f =>
    dsimp only
    by_cases hb : barredI (insOfFr P f) (regD f (insOfFr P f).a) (regD f (insOfFr P f).b) = 0
    · rw [if_pos hb]; exact Or.inl ⟨doS_fuel _ _ _ _ _, h0⟩
    · rw [if_neg hb]; exact Or.inr ⟨rfl, hb⟩
theorem retS_events (P : List Fn) (S : St) (fs : List Fr) (a : Int) : (retS P S fs a).events = S.events := by
  unfold retS; split <;> rfl
/-- Events grow at their end. -/
theorem stepS_events (P : List Fn) (S : St) : ∃ l, (stepS P S).events = S.events ++ l := by
  unfold stepS
  by_cases h0 : S.fuel = 0
  · rw [if_pos h0]; exact ⟨[], by simp⟩
  rw [if_neg h0]
  cases S.frames.getLast? with
  | none => exact ⟨[], by simp⟩
  | some f =>
    dsimp only
    split
    · unfold doS
      repeat' split
      all_goals first
        | exact ⟨[], (List.append_nil _).symm⟩
        | exact ⟨[regD f (insOfFr P f).a], rfl⟩
        | exact ⟨[], (retS_events _ _ _ _).trans (List.append_nil _).symm⟩
    · exact ⟨[], by simp⟩
end Go.Proofs.YtdpaohmaafngkaaDoor

/- Runs stay at places that are reached: plain mathematics; no program is walked here. -/
namespace Go.Proofs.YtdpaohmaafngkaaDoor
open Go Go.RowKit

/-- Frames that may be. -/
structure FOk (P : List Fn) (fs : List Fr) : Prop where
  place : ∀ f ∈ fs, placeB P f = true
  calls : ∀ (k : Nat) (f h : Fr), fs[k]? = some f → fs[k + 1]? = some h → (insOfFr P f).op = 17 ∧ (insOfFr P f).imm = h.fn
theorem frOf_get {fs : List Fr} {k : Nat} (h : k < fs.length) : frOf fs k = fs[k] := by simp [frOf, List.getD, h]
theorem insAtFr_eq (P : List Fn) (f : Fr) : insAtFr P f = insOfFr P f := rfl
theorem framesB_iff (P : List Fn) (fs : List Fr) : framesB P fs = true ↔ FOk P fs := by
  unfold framesB
  rw [List.all_eq_true]
  constructor
  · intro h
    have hk : ∀ k, k < fs.length → frB P fs k = true := fun k hk => h k (List.mem_range.2 hk)
    refine ⟨fun f hf => ?_, fun k f g h1 h2 => ?_⟩
    · obtain ⟨k, hkl, rfl⟩ := List.getElem_of_mem hf
      have := hk k hkl
      unfold frB at this
      rw [frOf_get hkl, Bool.and_eq_true] at this
      exact this.1
    · obtain ⟨hl, rfl⟩ := List.getElem?_eq_some_iff.1 h1
      obtain ⟨hl2, rfl⟩ := List.getElem?_eq_some_iff.1 h2
      have := hk k hl
      unfold frB at this
      rw [frOf_get hl, frOf_get hl2, insAtFr_eq, Bool.and_eq_true] at this
      have h3 := this.2
      rw [show decide (fs.length ≤ k + 1) = false by simp; omega, Bool.false_or, Bool.and_eq_true] at h3
      exact ⟨by simpa using h3.1, by simpa using h3.2⟩
  · intro h k hk
    have hkl := List.mem_range.1 hk
    unfold frB
    rw [frOf_get hkl, Bool.and_eq_true]
    refine ⟨h.place _ (List.getElem_mem hkl), ?_⟩
    by_cases hl : fs.length ≤ k + 1
    · simp [hl]
    · have hl2 : k + 1 < fs.length := by omega
      have := h.calls k _ _ (List.getElem?_eq_getElem hkl) (List.getElem?_eq_getElem hl2)
      rw [frOf_get hl2, insAtFr_eq, Bool.or_eq_true, Bool.and_eq_true]
      exact Or.inr ⟨by simpa using this.1, by simpa using this.2⟩
theorem fok_nil (P : List Fn) : FOk P [] := ⟨fun f h => by simp at h, fun k f h e => by simp at e⟩
theorem fok_snoc (P : List Fn) (fs : List Fr) (f : Fr) : FOk P (fs ++ [f]) ↔ FOk P fs ∧ placeB P f = true ∧ ∀ g, fs.getLast? = some g → (insOfFr P g).op = 17 ∧ (insOfFr P g).imm = f.fn := by
  constructor
  · intro h
    refine ⟨⟨fun g hg => h.place g (List.mem_append_left _ hg), fun k a b ha hb => ?_⟩, h.place f (by simp), fun g hg => ?_⟩
    · obtain ⟨l1, _⟩ := List.getElem?_eq_some_iff.1 ha
      obtain ⟨l2, _⟩ := List.getElem?_eq_some_iff.1 hb
      exact h.calls k a b (by rw [List.getElem?_append_left l1]; exact ha) (by rw [List.getElem?_append_left l2]; exact hb)
    · rw [List.getLast?_eq_getElem?] at hg
      obtain ⟨l1, _⟩ := List.getElem?_eq_some_iff.1 hg
      refine h.calls (fs.length - 1) g f (by rw [List.getElem?_append_left l1]; exact hg) ?_
      rw [show fs.length - 1 + 1 = fs.length by omega, List.getElem?_append_right (Nat.le_refl _)]
      simp
  · rintro ⟨h1, h2, h3⟩
    refine ⟨fun g hg => ?_, fun k a b ha hb => ?_⟩
    · rcases List.mem_append.1 hg with hg | hg
      · exact h1.place g hg
      · rw [List.mem_singleton.1 hg]; exact h2
    · obtain ⟨l2, _⟩ := List.getElem?_eq_some_iff.1 hb
      simp only [List.length_append, List.length_cons, List.length_nil] at l2
      rw [List.getElem?_append_left (by omega)] at ha
      by_cases hk : k + 1 < fs.length
      · rw [List.getElem?_append_left hk] at hb
        exact h1.calls k a b ha hb
      · have hk2 : k + 1 = fs.length := by omega
        rw [hk2, List.getElem?_append_right (Nat.le_refl _)] at hb
        obtain rfl : f = b := by simpa using hb
        exact h3 a (by rw [List.getLast?_eq_getElem?, show fs.length - 1 = k by omega]; exact ha)
theorem FOk.swap {P : List Fn} {fs : List Fr} {f f' : Fr} (h : FOk P (fs ++ [f])) (he : f'.fn = f.fn) (hp : placeB P f' = true) : FOk P (fs ++ [f']) := by
  obtain ⟨h1, _, h3⟩ := (fok_snoc _ _ _).1 h
  exact (fok_snoc _ _ _).2 ⟨h1, hp, fun g hg => by rw [he]; exact h3 g hg⟩
theorem FOk.push {P : List Fn} {fs : List Fr} {f g : Fr} (h : FOk P (fs ++ [f])) (h1 : (insOfFr P f).op = 17) (h2 : (insOfFr P f).imm = g.fn) (hp : placeB P g = true) : FOk P (fs ++ [f, g]) := by
  have e : fs ++ [f, g] = (fs ++ [f]) ++ [g] := by simp
  rw [e]
  refine (fok_snoc _ _ _).2 ⟨h, hp, fun a ha => ?_⟩
  have : a = f := by simpa using ha.symm
  subst this
  exact ⟨h1, h2⟩

/-- A frame's place as numbers. -/
theorem place_nat {P : List Fn} {f : Fr} (h : placeB P f = true) : ∃ (k j : Nat) (hk : k < P.length) (hj : j < P[k].code.length), f.fn = k ∧ f.pc = j ∧ fnD P f.fn = P[k] ∧ insOfFr P f = P[k].code[j] := by
  unfold placeB at h
  simp only [decide_eq_true_eq] at h
  obtain ⟨p0, p1, p2, p3⟩ := h
  obtain ⟨k, hk⟩ := Int.eq_ofNat_of_zero_le p0
  obtain ⟨j, hj⟩ := Int.eq_ofNat_of_zero_le p2
  have hkl : k < P.length := by omega
  have e : P.getD f.fn.toNat ⟨0, 0, []⟩ = P[k] := by rw [hk]; simp [List.getD, hkl]
  rw [e] at p3
  have hjl : j < P[k].code.length := by omega
  refine ⟨k, j, hkl, hjl, hk, hj, e, ?_⟩
  unfold insOfFr fnD
  rw [e, hj]
  exact insD_eq hjl
theorem place_of {P : List Fn} {k j : Nat} (hk : k < P.length) (hj : j < P[k].code.length) (l : List Int) : placeB P ⟨k, j, l⟩ = true := by
  unfold placeB
  simp only [decide_eq_true_eq]
  have e : P.getD (k : Int).toNat ⟨0, 0, []⟩ = P[k] := by simp [List.getD, hk]
  rw [e]
  omega
theorem place_ins {P : List Fn} (hc : codeProg P = 0) {f : Fr} (h : placeB P f = true) : InsOk P (insOfFr P f) := by
  obtain ⟨k, j, hk, hj, _, _, _, e⟩ := place_nat h
  rw [e]
  exact insOk_of hc (List.getElem_mem hk) (List.getElem_mem hj)

/-- On from a place that is reached. -/
theorem way_on {P : List Fn} (h : ProofAns P 0) {k : Nat} (hk : k < P.length) {j q : Nat} (hj : j < P[k].code.length) (hw : Way P[k] 63 j) (ht : q ∈ behind P[k].code[j] j) : Way P[k] 63 q ∧ q < P[k].code.length := by
  have hc := right_code h
  have hf := List.getElem_mem hk
  obtain ⟨ok, hi⟩ := fnOk_of hc hf
  have hx := (hi _ (List.getElem_mem hj)).1
  have hw2 : Way P[k] 63 q := Way.step hj hw (by rw [insD_eq hj]; exact set_high _ hx.dst0 hx.dst1) (by rw [insD_eq hj]; exact ht)
  refine ⟨hw2, ?_⟩
  have h1 := ok.goes j hj q (by rw [insD_eq hj]; exact ht)
  obtain ⟨L, _, _, hn⟩ := right_fn h hf
  rcases Nat.lt_or_ge q P[k].code.length with h2 | h2
  · exact h2
  · obtain rfl : q = P[k].code.length := by omega
    exact absurd hw2 hn

/-- Is a frame at a reached place? -/
def ReachFr (P : List Fn) (f : Fr) : Prop := Way (fnD P f.fn) 63 f.pc.toNat
/-- What holds of a state all along a run. -/
structure RunInv (P : List Fn) (S : St) : Prop where
  may : mayB S = true
  fok : FOk P S.frames
  reach : ∀ f ∈ S.frames, ReachFr P f
  wf : FrsWf S.frames
  mem : S.mem.length = 16

theorem mayB_iff (s : St) : mayB s = true ↔ (0 ≤ s.status ∧ s.status ≤ 5 ∧ 0 ≤ s.fuel ∧ s.fuel ≤ 10000 ∧ s.frames.length ≤ 8 ∧ s.answers.length ≤ 100 ∧ (s.status = 1 ↔ s.frames.length = 0) ∧ (s.status = 1 ∨ s.value = 0)) := by
  unfold mayB; simp only [decide_eq_true_eq]

/-- A frame of the same function that goes on to a place behind. -/
theorem goes_on {P : List Fn} (h : ProofAns P 0) {f : Fr} (hp : placeB P f = true) (hr : ReachFr P f) {f' : Fr} (e1 : f'.fn = f.fn) (q : Nat) (e2 : f'.pc = q) (ht : q ∈ behind (insOfFr P f) f.pc.toNat) : placeB P f' = true ∧ ReachFr P f' := by
  obtain ⟨k, j, hk, hj, h1, h2, h3, h4⟩ := place_nat hp
  unfold ReachFr at hr ⊢
  rw [h3, h2] at hr
  rw [h4, h2] at ht
  obtain ⟨a, b⟩ := way_on h hk hj hr ht
  obtain ⟨fn, pc, regs⟩ := f'
  dsimp only at e1 e2 ⊢
  rw [h1] at e1
  subst e1 e2
  have e : fnD P (k : Int) = P[k] := by unfold fnD; simp [List.getD, hk]
  rw [e]
  exact ⟨place_of hk b regs, a⟩
theorem behind_next (x : Ins) (pc : Nat) (h1 : x.op ≠ 15) (h2 : x.op ≠ 19) : pc + 1 ∈ behind x pc := by
  unfold behind
  rw [if_neg h1]
  split
  · simp
  · simp
theorem behind_jump (x : Ins) (pc : Nat) (h1 : x.op = 15 ∨ x.op = 16) : x.imm.toNat ∈ behind x pc := by
  unfold behind
  rcases h1 with h | h
  · rw [if_pos h]; simp
  · rw [if_neg (by omega), if_pos h]; simp
theorem fn_begins {P : List Fn} (h : ProofAns P 0) {k : Nat} (hk : k < P.length) (l : List Int) : placeB P ⟨k, 0, l⟩ = true ∧ ReachFr P ⟨k, 0, l⟩ := by
  obtain ⟨ok, _⟩ := fnOk_of (right_code h) (List.getElem_mem hk)
  refine ⟨place_of (j := 0) hk (by have := ok.len1; omega) l, ?_⟩
  unfold ReachFr
  have e : fnD P (k : Int) = P[k] := by unfold fnD; simp [List.getD, hk]
  show Way (fnD P (k : Int)) 63 0
  rw [e]
  exact Way.start (by have := ok.p2; omega)
theorem FrsWf.init {fs gs : List Fr} (h : FrsWf (fs ++ gs)) : FrsWf fs := fun f hf => h f (List.mem_append_left _ hf)
theorem FrsWf.snoc {fs : List Fr} {f : Fr} (h : FrsWf fs) (hf : f.regs.length = 12) : FrsWf (fs ++ [f]) := fun g hg => by
  rcases List.mem_append.1 hg with hg | hg
  · exact h g hg
  · rw [List.mem_singleton.1 hg]; exact hf

/-- The last frame goes on: everything else stays as it may be. -/
theorem RunInv.on {P : List Fn} {S : St} {fs : List Fr} {f f' : Fr} (h : RunInv P S) (hS : S.frames = fs ++ [f]) (he : f'.fn = f.fn) (hp : placeB P f' = true) (hr : ReachFr P f') (hl : f'.regs.length = 12)
    {S' : St} (e1 : S'.frames = fs ++ [f']) (e2 : S'.status = S.status) (e3 : S'.value = S.value) (e4 : 0 ≤ S'.fuel ∧ S'.fuel ≤ 10000) (e5 : S'.answers.length ≤ S.answers.length) (e6 : S'.mem.length = 16) : RunInv P S' := by
  have hm := (mayB_iff S).1 h.may
  have hf := h.fok
  have hw := h.wf
  have hr0 := h.reach
  rw [hS] at hf hw hr0 hm
  refine ⟨(mayB_iff S').2 ?_, ?_, ?_, ?_, e6⟩
  · rw [e1, e2, e3]
    simp only [List.length_append, List.length_cons, List.length_nil] at hm ⊢
    omega
  · rw [e1]; exact hf.swap he hp
  · rw [e1]
    intro g hg
    rcases List.mem_append.1 hg with hg | hg
    · exact hr0 g (List.mem_append_left _ hg)
    · rw [List.mem_singleton.1 hg]; exact hr
  · rw [e1]; exact hw.init.snoc hl

theorem putF_len (f : Fr) (r v : Int) : (putF f r v).regs.length = f.regs.length := by simp [putF]
theorem begunFr_len (k : Int) (l : List Int) (h : l.length ≤ 12) : (begunFr k l).regs.length = 12 := regsOf_length l h

theorem snoc_of_last {fs : List Fr} {f : Fr} (h : fs.getLast? = some f) : fs = fs.dropLast ++ [f] := by
  obtain ⟨l, rfl⟩ := List.getLast?_eq_some_iff.1 h
  simp
/-- A step of a running state keeps what holds. -/
theorem runInv_step {P : List Fn} (hR : ProofAns P 0) {S : St} (h : RunInv P S) (h0 : S.status = 0) : RunInv P (stepS P S) := by
  have hm := (mayB_iff S).1 h.may
  unfold stepS
  by_cases hfu : S.fuel = 0
  · rw [if_pos hfu]
    refine ⟨(mayB_iff _).2 ?_, h.fok, h.reach, h.wf, h.mem⟩
    dsimp only
    omega
  rw [if_neg hfu]
  cases hl : S.frames.getLast? with
  | none => exact h
  | some f =>
    dsimp only
    have hS := snoc_of_last hl
    generalize hfs : S.frames.dropLast = fs at hS
    have hfm : f ∈ S.frames := by rw [hS]; simp
    have hp := h.fok.place f hfm
    have hrf := h.reach f hfm
    have h12 := h.wf f hfm
    have ok := place_ins (right_code hR) hp
    obtain ⟨k, j, hk, hj, k1, k2, k3, k4⟩ := place_nat hp
    generalize hx : insOfFr P f = x at ok k4
    have hpn : ∀ f' : Fr, f'.fn = f.fn → f'.pc = f.pc + 1 → x.op ≠ 15 → x.op ≠ 19 → placeB P f' = true ∧ ReachFr P f' := fun f' e1 e2 n1 n2 =>
      goes_on hR hp hrf e1 (j + 1) (by rw [e2, k2]; simp) (by rw [hx, k2]; exact behind_next x _ n1 n2)
    split
    · rename_i hb
      have hfu2 : 0 ≤ S.fuel - 1 ∧ S.fuel - 1 ≤ 10000 := by omega
      unfold doS
      split
      · rename_i o
        obtain ⟨a, b⟩ := hpn (putF f x.dst (S.mem.getD (regD f x.a).toNat 0)) rfl rfl (by omega) (by omega)
        exact h.on (f' := (putF f x.dst (S.mem.getD (regD f x.a).toNat 0))) hS rfl a b (by rw [putF_len]; exact h12) rfl h0.symm rfl hfu2 (Nat.le_refl _) h.mem
      split
      · rename_i o
        obtain ⟨a, b⟩ := hpn ⟨f.fn, f.pc + 1, f.regs⟩ rfl rfl (by omega) (by omega)
        exact h.on (f' := ⟨f.fn, f.pc + 1, f.regs⟩) hS rfl a b h12 rfl h0.symm rfl hfu2 (Nat.le_refl _) (by simp [h.mem])
      split
      · rename_i o
        obtain ⟨_, hi⟩ := fnOk_of (right_code hR) (List.getElem_mem hk)
        have him := (hi _ (List.getElem_mem hj)).2
        rw [← k4] at him
        obtain ⟨a, b⟩ := goes_on hR hp hrf (f' := ⟨f.fn, x.imm, f.regs⟩) rfl x.imm.toNat (by have := him (Or.inl o); dsimp only; omega) (by rw [hx]; exact behind_jump x _ (Or.inl o))
        exact h.on (f' := ⟨f.fn, x.imm, f.regs⟩) hS rfl a b h12 rfl h0.symm rfl hfu2 (Nat.le_refl _) h.mem
      split
      · rename_i o
        obtain ⟨_, hi⟩ := fnOk_of (right_code hR) (List.getElem_mem hk)
        have him := (hi _ (List.getElem_mem hj)).2
        rw [← k4] at him
        by_cases hz : regD f x.a = 0
        · obtain ⟨a, b⟩ := hpn ⟨f.fn, if regD f x.a = 0 then f.pc + 1 else x.imm, f.regs⟩ rfl (by dsimp only; rw [if_pos hz]) (by omega) (by omega)
          exact h.on (f' := ⟨f.fn, if regD f x.a = 0 then f.pc + 1 else x.imm, f.regs⟩) hS rfl a b h12 rfl h0.symm rfl hfu2 (Nat.le_refl _) h.mem
        · obtain ⟨a, b⟩ := goes_on hR hp hrf (f' := ⟨f.fn, if regD f x.a = 0 then f.pc + 1 else x.imm, f.regs⟩) rfl x.imm.toNat (by have := him (Or.inr o); dsimp only; rw [if_neg hz]; omega) (by rw [hx]; exact behind_jump x _ (Or.inr o))
          exact h.on (f' := ⟨f.fn, if regD f x.a = 0 then f.pc + 1 else x.imm, f.regs⟩) hS rfl a b h12 rfl h0.symm rfl hfu2 (Nat.le_refl _) h.mem
      split
      · rename_i o
        obtain ⟨c0, c1, c2, c3⟩ := ok.call o
        split
        · rename_i h8
          refine ⟨(mayB_iff _).2 ?_, h.fok, h.reach, h.wf, h.mem⟩
          dsimp only
          omega
        · rename_i h8
          obtain ⟨t, ht⟩ := Int.eq_ofNat_of_zero_le c0
          have htl : t < P.length := by omega
          obtain ⟨a, b⟩ := fn_begins hR htl (regsOf ([regD f x.a, regD f x.b].take (fnD P x.imm).params.toNat))
          have hlen : (begunFr x.imm ([regD f x.a, regD f x.b].take (fnD P x.imm).params.toNat)).regs.length = 12 := begunFr_len _ _ (by simp; omega)
          have eb : begunFr x.imm ([regD f x.a, regD f x.b].take (fnD P x.imm).params.toNat) = ⟨(t : Int), 0, regsOf ([regD f x.a, regD f x.b].take (fnD P x.imm).params.toNat)⟩ := by unfold begunFr; rw [← ht]
          have hf := h.fok
          have hw := h.wf
          have hr0 := h.reach
          rw [hS] at hf hw hr0 hm
          simp only [List.length_append, List.length_cons, List.length_nil] at hm
          have e2 : ∀ g : Fr, fs ++ [f, g] = (fs ++ [f]) ++ [g] := fun g => by simp
          refine ⟨(mayB_iff _).2 ?_, ?_, ?_, ?_, h.mem⟩
          · dsimp only
            simp only [List.length_append, List.length_cons, List.length_nil]
            omega
          · dsimp only
            refine hf.push (by rw [hx]; exact o) (by rw [hx]; rfl) (by rw [eb]; exact a)
          · dsimp only
            rw [e2]
            intro g hg
            rcases List.mem_append.1 hg with hg | hg
            · exact hr0 g hg
            · rw [List.mem_singleton.1 hg, eb]; exact b
          · dsimp only
            rw [e2]
            exact hw.snoc hlen
      split
      · rename_i o
        obtain ⟨a, b⟩ := hpn (putF f x.dst (S.answers.headD 0)) rfl rfl (by omega) (by omega)
        exact h.on (f' := (putF f x.dst (S.answers.headD 0))) hS rfl a b (by rw [putF_len]; exact h12) rfl h0.symm rfl hfu2 (by simp) h.mem
      split
      · rename_i o
        have hf := h.fok
        have hw := h.wf
        have hr0 := h.reach
        rw [hS] at hf hw hr0 hm
        simp only [List.length_append, List.length_cons, List.length_nil] at hm
        obtain ⟨f1, _, f3⟩ := (fok_snoc _ _ _).1 hf
        unfold retS
        cases hg : fs.getLast? with
        | none =>
          dsimp only
          refine ⟨(mayB_iff _).2 ?_, fok_nil P, fun g hg => by simp at hg, fun g hg => by simp at hg, h.mem⟩
          exact ⟨(by decide : (0 : Int) ≤ 1), (by decide : (1 : Int) ≤ 5), hfu2.1, hfu2.2, Nat.zero_le _, by show S.answers.length ≤ 100; omega, by simp, Or.inl rfl⟩
        | some c =>
          dsimp only
          have hS2 := snoc_of_last hg
          have hcm : c ∈ fs := by rw [hS2]; simp
          obtain ⟨o17, _⟩ := f3 c hg
          have hcp := f1.place c hcm
          have hcr := hr0 c (List.mem_append_left _ hcm)
          obtain ⟨kc, jc, hkc, hjc, c1, c2, c3, c4⟩ := place_nat hcp
          obtain ⟨a, b⟩ := goes_on hR hcp hcr (f' := putF c (insOfFr P c).dst (regD f x.a)) rfl (jc + 1) (by show c.pc + 1 = _; rw [c2]; simp) (by rw [c2]; exact behind_next _ _ (by omega) (by omega))
          have f1' := f1
          rw [hS2] at f1'
          refine ⟨(mayB_iff _).2 ?_, f1'.swap rfl a, ?_, ?_, h.mem⟩
          · dsimp only
            have := List.length_pos_of_mem hcm
            simp only [List.length_append, List.length_cons, List.length_nil, List.length_dropLast]
            omega
          · intro g hgm
            rcases List.mem_append.1 hgm with hgm | hgm
            · exact hr0 g (List.mem_append_left _ (List.dropLast_subset _ hgm))
            · rw [List.mem_singleton.1 hgm]; exact b
          · intro g hgm
            rcases List.mem_append.1 hgm with hgm | hgm
            · exact hw g (List.mem_append_left _ (List.dropLast_subset _ hgm))
            · rw [List.mem_singleton.1 hgm, putF_len]; exact hw c (List.mem_append_left _ hcm)
      · rename_i n1 n2 n3 n4 n5 n6 n7
        obtain ⟨a, b⟩ := hpn (putF f x.dst (mk x.op (regD f x.a) (regD f x.b) x.imm)) rfl rfl (by omega) (by omega)
        exact h.on (f' := (putF f x.dst (mk x.op (regD f x.a) (regD f x.b) x.imm))) hS rfl a b (by rw [putF_len]; exact h12) rfl h0.symm rfl hfu2 (Nat.le_refl _) h.mem
    · rename_i hb
      refine ⟨(mayB_iff _).2 ?_, h.fok, h.reach, h.wf, h.mem⟩
      dsimp only
      have hbb : barredI x (regD f x.a) (regD f x.b) = 3 ∨ barredI x (regD f x.a) (regD f x.b) = 4 := by
        unfold barredI at hb ⊢
        repeat' split
        all_goals first | (left; rfl) | (right; rfl) | (exfalso; simp_all)
      omega
theorem runInv_walk {P : List Fn} (hR : ProofAns P 0) (n : Nat) : ∀ {S : St}, RunInv P S → RunInv P (walkS P n S) := by
  induction n with
  | zero => exact fun h => h
  | succ n ih =>
    intro S h
    rw [walkS]
    split
    · rename_i h0; exact ih (runInv_step hR h h0)
    · exact h
/-- A run begins as it may. -/
theorem runInv_begin {P : List Fn} (hR : ProofAns P 0) (args answers : List Int) (fuel : Int) (ha : args.length ≤ 12) (hn : answers.length ≤ 100) (h0 : 0 ≤ fuel) (h1 : fuel ≤ 10000) : RunInv P (beginSt args answers fuel) := by
  have hp := (codeProg_zero (right_code hR)).1
  obtain ⟨a, b⟩ := fn_begins hR (k := 0) (by omega) (regsOf args)
  refine ⟨(mayB_iff _).2 ?_, ?_, ?_, ?_, rfl⟩
  · exact ⟨(by decide : (0 : Int) ≤ 0), (by decide : (0 : Int) ≤ 5), h0, h1, (by decide : 1 ≤ 8), hn, by simp [beginSt], Or.inr rfl⟩
  · show FOk P ([] ++ [begunFr 0 args])
    exact (fok_snoc _ _ _).2 ⟨fok_nil P, a, fun g hg => by simp at hg⟩
  · intro f hf
    have hf : f ∈ [begunFr 0 args] := hf
    rw [List.mem_singleton.1 hf]; exact b
  · intro f hf
    have hf : f ∈ [begunFr 0 args] := hf
    rw [List.mem_singleton.1 hf]; exact regsOf_length args ha
end Go.Proofs.YtdpaohmaafngkaaDoor

/- Contracts of the engine's small methods: last, at. -/
namespace Go.Proofs.YtdpaohmaafngkaaDoor
open Go Go.RowKit

theorem infoIns : (Tryd.prog.info? 31).map (·.size) = some 5 := by kernel_rfl
end Go.Proofs.YtdpaohmaafngkaaDoor

/- How an engine lies in memory. -/
namespace Go.Proofs.YtdpaohmaafngkaaDoor
open Go Go.RowKit

def engCells (S : St) (fv ev av pv : Value) : List Value := [.int .i64 S.status, .int .i64 S.value, fv] ++ (i64s S.mem ++ [.int .i64 S.fuel, ev, av, pv])
theorem engCells_length {S : St} (fv ev av pv : Value) (h : S.mem.length = 16) : (engCells S fv ev av pv).length = 23 := by simp [engCells, i64s, h]
theorem engCells_head (S : St) (fv ev av pv : Value) : (engCells S fv ev av pv)[0]? = some (.int .i64 S.status) ∧ (engCells S fv ev av pv)[1]? = some (.int .i64 S.value) ∧ (engCells S fv ev av pv)[2]? = some fv := ⟨rfl, rfl, rfl⟩
theorem engCells_tail {S : St} (fv ev av pv : Value) (h : S.mem.length = 16) (i : Nat) : (engCells S fv ev av pv)[19 + i]? = [Value.int .i64 S.fuel, ev, av, pv][i]? := by
  unfold engCells
  rw [List.getElem?_append_right (by simp; omega), List.getElem?_append_right (by simp [i64s, h]; omega)]
  congr 1
  simp [i64s, h]; omega
theorem engCells_set {S : St} (fv ev av pv u : Value) (h : S.mem.length = 16) (i : Nat) : (engCells S fv ev av pv).set (19 + i) u = [.int .i64 S.status, .int .i64 S.value, fv] ++ (i64s S.mem ++ [Value.int .i64 S.fuel, ev, av, pv].set i u) := by
  unfold engCells
  rw [List.set_append_right _ _ (by simp; omega), List.set_append_right _ _ (by simp [i64s, h]; omega)]
  congr 3
  simp [i64s, h]; omega
theorem row_setCell {w : World} {g t i : Nat} {cur : Array Value} (v : Value) (h : w.heap[g]? = some (.cells cur t (0, 0))) : (w.setCell ⟨g, i, none⟩ v).heap[g]? = some (.cells (cur.setIfInBounds i v) t (0, 0)) := by
  have hl := lt_of_block h
  have e : w.heap[g] = .cells cur t (0, 0) := by
    have := Array.getElem?_eq_getElem hl
    rw [h] at this
    exact (Option.some.inj this).symm
  rw [Array.getElem?_eq_getElem (by simp [World.setCell]; exact hl)]
  simp [World.setCell, Array.getElem_modify, e]
theorem row_free {w : World} {g t : Nat} {cur : Array Value} (h : w.heap[g]? = some (.cells cur t (0, 0))) (i : Nat) : w.frozen? ⟨g, i, none⟩ = false := by
  simp [World.frozen?, h]

theorem i64s_get (l : List Int) (k : Nat) (h : k < l.length) : (i64s l)[k]? = some (.int .i64 l[k]) := by simp [i64s, h]
theorem ints_tail {w : World} {b off n cap : Nat} {z : Int} {l : List Int} (h : IntsVal w (.slice (some ⟨b, off, none⟩) n cap) (z :: l)) : w.cell? ⟨b, off, none⟩ = some (.int .i64 z) ∧ n = l.length + 1 ∧ n ≤ cap ∧ cap ≤ 9223372036854775807 ∧ IntsVal w (.slice (some ⟨b, off + 1, none⟩) (n - 1) (cap - 1)) l := by
  obtain ⟨ao, b', off', n', cap', e, hl, ha, hc, ⟨hle, _⟩, hm⟩ := h
  obtain ⟨rfl, rfl, rfl⟩ : ao = some ⟨b, off, none⟩ ∧ n = n' ∧ cap = cap' := by
    simp only [Value.slice.injEq] at e
    exact ⟨e.1.symm, e.2.1, e.2.2⟩
  have hn : n = l.length + 1 := by simpa using hl.symm
  have e2 := ha (by omega)
  obtain ⟨rfl, rfl⟩ : b = b' ∧ off = off' := by simpa using e2
  have h0 := hc 0 (by simp)
  refine ⟨by simpa using h0, hn, hle, by simpa [maxLen] using hm, some ⟨b, off + 1, none⟩, b, off + 1, n - 1, cap - 1, rfl, by omega, fun _ => rfl, fun k hk => ?_, ⟨by omega, fun e => by cases e⟩, by omega⟩
  have := hc (k + 1) (by simp; exact hk)
  rw [show off + 1 + k = off + (k + 1) by omega, this]; simp
theorem block_ne_own {w : World} {base t size n g tt : Nat} {v : Value} {xs : List Value} {cur : Array Value} (h : w.ownsRow base t size v n xs) (hg : w.heap[g]? = some (.cells cur tt (0, 0))) (ht : t ≠ tt) : v.ownBlock ≠ some g := by
  intro e
  rcases h.2 with ⟨rfl, _⟩ | ⟨g', cap, cur', rfl, _, hh, _⟩
  · simp [Value.ownBlock] at e
  · obtain rfl : g' = g := by simpa [Value.ownBlock] using e
    rw [hg] at hh
    simp at hh
    exact ht hh.2.symm

theorem cell_setCell_other {w : World} {g i : Nat} {u v : Value} {p : Addr} (h : w.cell? p = some v) (hne : p.block ≠ g) : (w.setCell ⟨g, i, none⟩ u).cell? p = some v :=
  (World.cell?_of_block (Below.heap_setCell _ _ _ _ (by simpa using hne))).trans h
end Go.Proofs.YtdpaohmaafngkaaDoor

/- What stores do to an engine; plain facts on memory. -/
namespace Go.Proofs.YtdpaohmaafngkaaDoor
open Go Go.RowKit

theorem ints_setCell {w : World} {v : Value} {l : List Int} (h : IntsVal w v l) {g i : Nat} (u : Value) (hne : ∀ a n cp, v = .slice (some a) n cp → 0 < n → a.block ≠ g) : IntsVal (w.setCell ⟨g, i, none⟩ u) v l := by
  obtain ⟨ao, b, off, n, cap, rfl, hl, ha, hc, hcp, hm⟩ := h
  refine ⟨ao, b, off, n, cap, rfl, hl, ha, fun k hk => ?_, hcp, hm⟩
  have e := ha (by omega)
  exact cell_setCell_other (hc k hk) (by have := hne _ _ _ (by rw [e]) (by omega); simpa using this)
theorem engCells_fuel {S : St} (fv ev av pv : Value) (h : S.mem.length = 16) (n : Int) : (engCells S fv ev av pv).set 19 (.int .i64 n) = engCells { S with fuel := n } fv ev av pv := by
  rw [show (19 : Nat) = 19 + 0 from rfl, engCells_set _ _ _ _ _ h]; rfl
theorem engCells_mem {S : St} (fv ev av pv : Value) (k : Nat) (hk : k < S.mem.length) (n : Int) : (engCells S fv ev av pv).set (3 + k) (.int .i64 n) = engCells { S with mem := S.mem.set k n } fv ev av pv := by
  unfold engCells
  rw [List.set_append_right _ _ (by simp), List.set_append_left _ _ (by simp [i64s]; exact hk)]
  congr 2
  simp [i64s, List.map_set]
theorem engCells_memGet {S : St} (fv ev av pv : Value) (k : Nat) (hk : k < S.mem.length) : (engCells S fv ev av pv)[3 + k]? = some (.int .i64 (S.mem.getD k 0)) := by
  unfold engCells
  rw [List.getElem?_append_right (by simp), List.getElem?_append_left (by simp [i64s]; exact hk)]
  simp [i64s, hk, List.getD]
theorem framesCells_last (fs : List Fr) (f f' : Fr) (hw : FrsWf fs) (j : Nat) (u : Value) (hj : (frCells f).set j u = frCells f') : (framesCells (fs ++ [f])).set (fs.length * 14 + j) u = framesCells (fs ++ [f']) := by
  rw [framesCells_append, framesCells_append, List.set_append_right _ _ (by rw [framesCells_length fs hw]; omega), framesCells_length fs hw]
  congr 1
  rw [show fs.length * 14 + j - fs.length * 14 = j by omega]
  simp only [framesCells, List.flatMap_cons, List.flatMap_nil, List.append_nil]
  exact hj
theorem frCells_pc (f : Fr) (n : Int) : (frCells f).set 1 (.int .i64 n) = frCells ⟨f.fn, n, f.regs⟩ := rfl
theorem frCells_reg (f : Fr) (r : Nat) (v : Int) : (frCells f).set (2 + r) (.int .i64 v) = frCells ⟨f.fn, f.pc, f.regs.set r v⟩ := by
  rw [show 2 + r = r + 1 + 1 by omega]
  simp [frCells, i64s, List.map_set]
end Go.Proofs.YtdpaohmaafngkaaDoor

/- Contracts of the engine's last, at, put over an engine as a whole; of its ret. -/
namespace Go.Proofs.YtdpaohmaafngkaaDoor
open Go Go.RowKit

theorem run_field_dst (xo xd xa xb xi : Int) (w : World) : (Instr.field 31 (.agg #[.int .i64 xo, .int .i64 xd, .int .i64 xa, .int .i64 xb, .int .i64 xi]) 1).run Tryd.prog w = .ok (.int .i64 xd) w := by
  unfold Instr.field
  simp [run_underlying Tryd.underlying31, asAgg, part, isAgg, run_underlying Tryd.underlying3]
end Go.Proofs.YtdpaohmaafngkaaDoor

/- Contract of the engine's call. -/
namespace Go.Proofs.YtdpaohmaafngkaaDoor
open Go Go.RowKit

theorem ints_two {w : World} (a b : Int) (t p : Nat) (hp : p ≤ 2) : IntsVal (w.alloc (.cells #[.int .i64 a, .int .i64 b] t)) (.slice (some ⟨w.heap.size, 0, none⟩) p 2) ([a, b].take p) := by
  refine ⟨_, w.heap.size, 0, p, 2, rfl, by rw [List.length_take]; simp; omega, fun _ => rfl, fun k hk => ?_, ⟨hp, fun e => by cases e⟩, by simp [maxLen]⟩
  rw [cell_of_row _ _ _ _ _ _ (heap_alloc_last w _)]
  rcases (show p = 0 ∨ p = 1 ∨ p = 2 by omega) with rfl | rfl | rfl
  · exact absurd hk (by simp)
  · obtain rfl : k = 0 := by have : k < 1 := hk; omega
    rfl
  · rcases (show k = 0 ∨ k = 1 by have : k < 2 := hk; omega) with rfl | rfl <;> rfl
end Go.Proofs.YtdpaohmaafngkaaDoor

/- Contract of step.Check. -/
namespace Go.Proofs.YtdpaohmaafngkaaDoor
open Go Go.RowKit

/-- What Check answers, behind what the proof says. -/
def checkE (E : Int) (P : List Fn) (s : St) : Int := if ¬ E = 0 then E else if mayB s && framesB P s.frames then 0 else 8

end Go.Proofs.YtdpaohmaafngkaaDoor
