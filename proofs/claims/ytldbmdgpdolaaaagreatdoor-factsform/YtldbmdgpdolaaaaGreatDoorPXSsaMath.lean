import Derived.Test.YtldbmdgpdolaaaaGreatDoorPGroupP
namespace Go.Proofs.YtldbmdgpdolaaaaGreatDoor
open Go Go.RowKit

def madeI (pc : Nat) : Int := 12 + (pc : Int)
def phiI (b r : Nat) : Int := 52 + (b : Int) * 12 + (r : Int)
def on1 (f : Fn) (pc : Nat) (l : List Int) : List Int := if setsB (insD f pc).op = true then l.set (insD f pc).dst.toNat (madeI pc) else l
theorem on1_len (f : Fn) (pc : Nat) (l : List Int) : (on1 f pc l).length = l.length := by unfold on1; split <;> simp
def onR (f : Fn) : Nat → Nat → List Int → List Int
  | _, 0, l => l
  | pc, n + 1, l => onR f (pc + 1) n (on1 f pc l)
theorem onR_len (f : Fn) : ∀ (n pc : Nat) (l : List Int), (onR f pc n l).length = l.length
  | 0, _, _ => rfl
  | n + 1, pc, l => by rw [onR, onR_len f n, on1_len]
theorem onR_snoc (f : Fn) : ∀ (n pc : Nat) (l : List Int), onR f pc (n + 1) l = on1 f (pc + n) (onR f pc n l)
  | 0, _, _ => rfl
  | n + 1, pc, l => by
    rw [onR, onR_snoc f n, onR, Nat.add_assoc, Nat.add_comm 1 n]
def wantR (m : Nat) (l : List Int) : List Int := (List.range 12).map fun r => if m.testBit r = true then l.getD r 0 else -1
theorem wantR_len (m : Nat) (l : List Int) : (wantR m l).length = 12 := by simp [wantR]
theorem wantR_get (m : Nat) (l : List Int) {r : Nat} (hr : r < 12) : (wantR m l).getD r 0 = if m.testBit r = true then l.getD r 0 else -1 := by
  simp [wantR, List.getD, hr]
def parR (p : Int) : List Int := (List.range 12).map fun r => if ((r : Nat) : Int) < p then ((r : Nat) : Int) else -1
theorem parR_len (p : Int) : (parR p).length = 12 := by simp [parR]
theorem parR_get (p : Int) {r : Nat} (hr : r < 12) : (parR p).getD r 0 = if (r : Int) < p then (r : Int) else -1 := by simp [parR, List.getD, hr]
def phiR (b : Nat) : List Int := (List.range 12).map fun r => phiI b r
theorem phiR_len (b : Nat) : (phiR b).length = 12 := by simp [phiR]
theorem phiR_get (b : Nat) {r : Nat} (hr : r < 12) : (phiR b).getD r 0 = phiI b r := by simp [phiR, List.getD, hr]
def prevs (f : Fn) (S : List Nat) (T : Nat → Nat) (b : Nat) : List Int := pvI f S T S.length b
inductive FromR (f : Fn) (S : List Nat) (T : Nat → Nat) (L : List Int) : Nat → List Int → Prop
  | joins {b : Nat} (h : 1 < (prevs f S T b).length) : FromR f S T L b (wantR (mkL L (S.getD b 0)) (phiR b))
  | first {b : Nat} (h : prevs f S T b = [-1]) : FromR f S T L b (parR f.params)
  | one {b j : Nat} {l : List Int} (h : prevs f S T b = [((j : Nat) : Int)]) (hf : FromR f S T L j l) : FromR f S T L b (onR f (S.getD j 0) (T j - S.getD j 0) l)
theorem FromR.len {f : Fn} {S : List Nat} {T : Nat → Nat} {L : List Int} {b : Nat} {l : List Int} (h : FromR f S T L b l) : l.length = 12 := by
  induction h with
  | joins => exact wantR_len _ _
  | first => exact parR_len _
  | one _ _ ih => rw [onR_len]; exact ih
theorem FromR.unique {f : Fn} {S : List Nat} {T : Nat → Nat} {L : List Int} {b : Nat} {l l' : List Int} (h : FromR f S T L b l) (h' : FromR f S T L b l') : l = l' := by
  induction h generalizing l' with
  | joins h =>
    cases h' with
    | joins => rfl
    | first h2 => rw [h2] at h; simp at h
    | one h2 => rw [h2] at h; simp at h
  | first h =>
    cases h' with
    | joins h2 => rw [h] at h2; simp at h2
    | first => rfl
    | one h2 => rw [h] at h2; have := (List.cons.inj h2).1; omega
  | @one b j l h hf ih =>
    cases h' with
    | joins h2 => rw [h] at h2; simp at h2
    | first h2 => rw [h] at h2; have := (List.cons.inj h2).1; omega
    | @one _ j2 l2 h2 hf2 =>
      rw [h] at h2
      have e : j = j2 := by have := (List.cons.inj h2).1; omega
      subst e
      rw [ih hf2]
theorem prevs_mem {f : Fn} {S : List Nat} {T : Nat → Nat} {b : Nat} (z : Int) : z ∈ prevs f S T b ↔ (b = 0 ∧ z = -1) ∨ ∃ j, j < S.length ∧ z = ((j : Nat) : Int) ∧ ((b : Nat) : Int) ∈ nxI f S (T j) := by
  unfold prevs pvI
  rw [List.mem_append, List.mem_map]
  constructor
  · rintro (h | ⟨j, hj, rfl⟩)
    · by_cases hb : b = 0
      · rw [if_pos hb] at h; exact Or.inl ⟨hb, by simpa using h⟩
      · rw [if_neg hb] at h; simp at h
    · simp only [List.mem_filter, List.mem_range, decide_eq_true_eq] at hj
      exact Or.inr ⟨j, hj.1, rfl, hj.2⟩
  · rintro (⟨hb, rfl⟩ | ⟨j, hj, rfl, hm⟩)
    · left; rw [if_pos hb]; simp
    · right; exact ⟨j, by simp only [List.mem_filter, List.mem_range, decide_eq_true_eq]; exact ⟨hj, hm⟩, rfl⟩
theorem prevs_leads {f : Fn} {S : List Nat} {T : Nat → Nat} (_hB : BlkOk f S T) {j : Nat} (hj : j < S.length) {q : Nat} (hq : q ∈ behind (insD f (T j - 1)) (T j - 1)) : ((j : Nat) : Int) ∈ prevs f S T (rank S q) :=
  (prevs_mem _).2 (Or.inr ⟨j, hj, rfl, (nxI_mem f S (T j) _).2 ⟨q, hq, rfl⟩⟩)
theorem from_exists {P : List Fn} {f : Fn} (ok : FlowOk P f) {S : List Nat} {T : Nat → Nat} (hB : BlkOk f S T) (L : List Int) {b : Nat} (hb : b < S.length) : ∃ l, FromR f S T L b l := by
  have key : ∀ pc, Way f 63 pc → ∀ i, InBlk S T pc i → ∃ l, FromR f S T L i l := by
    intro pc hw
    induction hw with
    | start _ =>
      intro i hi
      obtain ⟨hl, h0⟩ := hB.starts.first
      have : i = 0 := by
        have h1 := hB.start hB.starts.zero
        rw [rank_zero] at h1
        exact hB.one hi h1
      subst this
      have hm : (-1 : Int) ∈ prevs f S T 0 := (prevs_mem _).2 (Or.inl ⟨rfl, rfl⟩)
      rcases hp : prevs f S T 0 with _ | ⟨a, t⟩
      · rw [hp] at hm; simp at hm
      · cases t with
        | nil => rw [hp] at hm; have : a = -1 := (by simpa using hm : (-1 : Int) = a).symm
                 exact ⟨_, .first (by rw [hp, this])⟩
        | cons c t => exact ⟨_, .joins (by rw [hp]; simp)⟩
    | @step pc q hpc hw _ ht ih =>
      intro i hi
      obtain ⟨j, hj⟩ := hB.cover ok hw
      obtain ⟨lj, hlj⟩ := ih j hj
      by_cases hl : pc = T j - 1
      · obtain ⟨hj', a1, a2⟩ := hj
        rw [hl] at ht
        have hq := (hB.ends j hj').leads ok hB.starts (hB.starts.reach ok (List.getElem_mem hj')).1 ht
        have e : i = rank S q := hB.one hi (hB.start hq)
        have hm := prevs_leads hB hj' ht
        rw [← e] at hm
        rcases hp : prevs f S T i with _ | ⟨a, t⟩
        · rw [hp] at hm; simp at hm
        · cases t with
          | nil => rw [hp] at hm; have : a = (j : Int) := (by simpa using hm : (j : Int) = a).symm
                   exact ⟨_, .one (by rw [hp, this]) hlj⟩
          | cons c t => exact ⟨_, .joins (by rw [hp]; simp)⟩
      · have hop := hB.mid hj hl
        rw [behind_on _ _ hop] at ht
        have : q = pc + 1 := by simpa using ht
        subst this
        obtain ⟨hj', a1, a2⟩ := hj
        have : i = j := hB.one hi ⟨hj', by omega, by omega⟩
        subst this
        exact ⟨lj, hlj⟩
  have hr := hB.starts.reach ok (List.getElem_mem hb)
  exact key S[b] hr.1 b ⟨hb, Nat.le_refl _, (hB.ends b hb).lt⟩
noncomputable def fromR (f : Fn) (S : List Nat) (T : Nat → Nat) (L : List Int) (b : Nat) : List Int := by
  classical exact if h : ∃ l, FromR f S T L b l then h.choose else []
theorem fromR_eq {f : Fn} {S : List Nat} {T : Nat → Nat} {L : List Int} {b : Nat} {l : List Int} (h : FromR f S T L b l) : fromR f S T L b = l := by
  unfold fromR
  rw [dif_pos ⟨l, h⟩]
  exact FromR.unique (Exists.choose_spec (⟨l, h⟩ : ∃ l, FromR f S T L b l)) h
theorem fromR_is {P : List Fn} {f : Fn} (ok : FlowOk P f) {S : List Nat} {T : Nat → Nat} (hB : BlkOk f S T) (L : List Int) {b : Nat} (hb : b < S.length) : FromR f S T L b (fromR f S T L b) := by
  obtain ⟨l, hl⟩ := from_exists ok hB L hb
  rw [fromR_eq hl]; exact hl
noncomputable def behR (f : Fn) (S : List Nat) (T : Nat → Nat) (L : List Int) (z : Int) : List Int := if z = -1 then parR f.params else onR f (S.getD z.toNat 0) (T z.toNat - S.getD z.toNat 0) (fromR f S T L z.toNat)
end Go.Proofs.YtldbmdgpdolaaaaGreatDoor
