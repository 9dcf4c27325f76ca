import Derived.Test.YtldbmdgpdolaaaaGreatDoorPGroupP
import Derived.Deep.RegionHeld3
import Derived.Test.YtldbmdgpdolaaaaGreatDoorPGroupA
import Derived.Test.YtldbmdgpdolaaaaGreatDoorPGroupB
import Derived.Test.YtldbmdgpdolaaaaGreatDoorPGroupC
import Derived.Test.YtldbmdgpdolaaaaGreatDoorPXOpen
import Derived.Test.YtldbmdgpdolaaaaGreatDoorPXSsaRow
import Derived.Lib.LaidU8
import Derived.Stop.LaidErr
import Derived.DeepKeys4
namespace Go.Proofs.YtldbmdgpdolaaaaGreatDoor
open Go Go.RowKit

def madeI (pc : Nat) : Int := 12 + (pc : Int)
def phiI (b r : Nat) : Int := 52 + (b : Int) * 12 + (r : Int)
def on1 (f : Fn) (pc : Nat) (l : List Int) : List Int := if setsB (insD f pc).op = true then l.set (insD f pc).dst.toNat (madeI pc) else l
theorem on1_len (f : Fn) (pc : Nat) (l : List Int) : (on1 f pc l).length = l.length := by unfold on1; split <;> simp
def onR (f : Fn) : Nat → Nat → List Int → List Int
  | _, 0, l => l
  | pc, n + 1, l => onR f (pc + 1) n (on1 f pc l)
theorem onR_len (f : Fn) : ∀ (n pc : Nat) (l : List Int), (onR f pc n l).length = l.length
  | 0, _, _ => rfl
  | n + 1, pc, l => by rw [onR, onR_len f n, on1_len]
theorem onR_snoc (f : Fn) : ∀ (n pc : Nat) (l : List Int), onR f pc (n + 1) l = on1 f (pc + n) (onR f pc n l)
  | 0, _, _ => rfl
  | n + 1, pc, l => by
    rw [onR, onR_snoc f n, onR, Nat.add_assoc, Nat.add_comm 1 n]
def wantR (m : Nat) (l : List Int) : List Int := (List.range 12).map fun r => if m.testBit r = true then l.getD r 0 else -1
theorem wantR_len (m : Nat) (l : List Int) : (wantR m l).length = 12 := by simp [wantR]
theorem wantR_get (m : Nat) (l : List Int) {r : Nat} (hr : r < 12) : (wantR m l).getD r 0 = if m.testBit r = true then l.getD r 0 else -1 := by
  simp [wantR, List.getD, hr]
def parR (p : Int) : List Int := (List.range 12).map fun r => if ((r : Nat) : Int) < p then ((r : Nat) : Int) else -1
theorem parR_len (p : Int) : (parR p).length = 12 := by simp [parR]
theorem parR_get (p : Int) {r : Nat} (hr : r < 12) : (parR p).getD r 0 = if (r : Int) < p then (r : Int) else -1 := by simp [parR, List.getD, hr]
def phiR (b : Nat) : List Int := (List.range 12).map fun r => phiI b r
theorem phiR_len (b : Nat) : (phiR b).length = 12 := by simp [phiR]
theorem phiR_get (b : Nat) {r : Nat} (hr : r < 12) : (phiR b).getD r 0 = phiI b r := by simp [phiR, List.getD, hr]
def prevs (f : Fn) (S : List Nat) (T : Nat → Nat) (b : Nat) : List Int := pvI f S T S.length b
inductive FromR (f : Fn) (S : List Nat) (T : Nat → Nat) (L : List Int) : Nat → List Int → Prop
  | joins {b : Nat} (h : 1 < (prevs f S T b).length) : FromR f S T L b (wantR (mkL L (S.getD b 0)) (phiR b))
  | first {b : Nat} (h : prevs f S T b = [-1]) : FromR f S T L b (parR f.params)
  | one {b j : Nat} {l : List Int} (h : prevs f S T b = [((j : Nat) : Int)]) (hf : FromR f S T L j l) : FromR f S T L b (onR f (S.getD j 0) (T j - S.getD j 0) l)
theorem FromR.len {f : Fn} {S : List Nat} {T : Nat → Nat} {L : List Int} {b : Nat} {l : List Int} (h : FromR f S T L b l) : l.length = 12 := by
  induction h with
  | joins => exact wantR_len _ _
  | first => exact parR_len _
  | one _ _ ih => rw [onR_len]; exact ih
theorem FromR.unique {f : Fn} {S : List Nat} {T : Nat → Nat} {L : List Int} {b : Nat} {l l' : List Int} (h : FromR f S T L b l) (h' : FromR f S T L b l') : l = l' := by
  induction h generalizing l' with
  | joins h =>
    cases h' with
    | joins => rfl
    | first h2 => rw [h2] at h; simp at h
    | one h2 => rw [h2] at h; simp at h
  | first h =>
    cases h' with
    | joins h2 => rw [h] at h2; simp at h2
    | first => rfl
    | one h2 => rw [h] at h2; have := (List.cons.inj h2).1; omega
  | @one b j l h hf ih =>
    cases h' with
    | joins h2 => rw [h] at h2; simp at h2
    | first h2 => rw [h] at h2; have := (List.cons.inj h2).1; omega
    | @one _ j2 l2 h2 hf2 =>
      rw [h] at h2
      have e : j = j2 := by have := (List.cons.inj h2).1; omega
      subst e
      rw [ih hf2]
theorem prevs_mem {f : Fn} {S : List Nat} {T : Nat → Nat} {b : Nat} (z : Int) : z ∈ prevs f S T b ↔ (b = 0 ∧ z = -1) ∨ ∃ j, j < S.length ∧ z = ((j : Nat) : Int) ∧ ((b : Nat) : Int) ∈ nxI f S (T j) := by
  unfold prevs pvI
  rw [List.mem_append, List.mem_map]
  constructor
  · rintro (h | ⟨j, hj, rfl⟩)
    · by_cases hb : b = 0
      · rw [if_pos hb] at h; exact Or.inl ⟨hb, by simpa using h⟩
      · rw [if_neg hb] at h; simp at h
    · simp only [List.mem_filter, List.mem_range, decide_eq_true_eq] at hj
      exact Or.inr ⟨j, hj.1, rfl, hj.2⟩
  · rintro (⟨hb, rfl⟩ | ⟨j, hj, rfl, hm⟩)
    · left; rw [if_pos hb]; simp
    · right; exact ⟨j, by simp only [List.mem_filter, List.mem_range, decide_eq_true_eq]; exact ⟨hj, hm⟩, rfl⟩
theorem prevs_leads {f : Fn} {S : List Nat} {T : Nat → Nat} (_hB : BlkOk f S T) {j : Nat} (hj : j < S.length) {q : Nat} (hq : q ∈ behind (insD f (T j - 1)) (T j - 1)) : ((j : Nat) : Int) ∈ prevs f S T (rank S q) :=
  (prevs_mem _).2 (Or.inr ⟨j, hj, rfl, (nxI_mem f S (T j) _).2 ⟨q, hq, rfl⟩⟩)
theorem from_exists {P : List Fn} {f : Fn} (ok : FlowOk P f) {S : List Nat} {T : Nat → Nat} (hB : BlkOk f S T) (L : List Int) {b : Nat} (hb : b < S.length) : ∃ l, FromR f S T L b l := by
  have key : ∀ pc, Way f 63 pc → ∀ i, InBlk S T pc i → ∃ l, FromR f S T L i l := by
    intro pc hw
    induction hw with
    | start _ =>
      intro i hi
      obtain ⟨hl, h0⟩ := hB.starts.first
      have : i = 0 := by
        have h1 := hB.start hB.starts.zero
        rw [rank_zero] at h1
        exact hB.one hi h1
      subst this
      have hm : (-1 : Int) ∈ prevs f S T 0 := (prevs_mem _).2 (Or.inl ⟨rfl, rfl⟩)
      rcases hp : prevs f S T 0 with _ | ⟨a, t⟩
      · rw [hp] at hm; simp at hm
      · cases t with
        | nil => rw [hp] at hm; have : a = -1 := (by simpa using hm : (-1 : Int) = a).symm
                 exact ⟨_, .first (by rw [hp, this])⟩
        | cons c t => exact ⟨_, .joins (by rw [hp]; simp)⟩
    | @step pc q hpc hw _ ht ih =>
      intro i hi
      obtain ⟨j, hj⟩ := hB.cover ok hw
      obtain ⟨lj, hlj⟩ := ih j hj
      by_cases hl : pc = T j - 1
      · obtain ⟨hj', a1, a2⟩ := hj
        rw [hl] at ht
        have hq := (hB.ends j hj').leads ok hB.starts (hB.starts.reach ok (List.getElem_mem hj')).1 ht
        have e : i = rank S q := hB.one hi (hB.start hq)
        have hm := prevs_leads hB hj' ht
        rw [← e] at hm
        rcases hp : prevs f S T i with _ | ⟨a, t⟩
        · rw [hp] at hm; simp at hm
        · cases t with
          | nil => rw [hp] at hm; have : a = (j : Int) := (by simpa using hm : (j : Int) = a).symm
                   exact ⟨_, .one (by rw [hp, this]) hlj⟩
          | cons c t => exact ⟨_, .joins (by rw [hp]; simp)⟩
      · have hop := hB.mid hj hl
        rw [behind_on _ _ hop] at ht
        have : q = pc + 1 := by simpa using ht
        subst this
        obtain ⟨hj', a1, a2⟩ := hj
        have : i = j := hB.one hi ⟨hj', by omega, by omega⟩
        subst this
        exact ⟨lj, hlj⟩
  have hr := hB.starts.reach ok (List.getElem_mem hb)
  exact key S[b] hr.1 b ⟨hb, Nat.le_refl _, (hB.ends b hb).lt⟩
noncomputable def fromR (f : Fn) (S : List Nat) (T : Nat → Nat) (L : List Int) (b : Nat) : List Int := by
  classical exact if h : ∃ l, FromR f S T L b l then h.choose else []
theorem fromR_eq {f : Fn} {S : List Nat} {T : Nat → Nat} {L : List Int} {b : Nat} {l : List Int} (h : FromR f S T L b l) : fromR f S T L b = l := by
  unfold fromR
  rw [dif_pos ⟨l, h⟩]
  exact FromR.unique (Exists.choose_spec (⟨l, h⟩ : ∃ l, FromR f S T L b l)) h
theorem fromR_is {P : List Fn} {f : Fn} (ok : FlowOk P f) {S : List Nat} {T : Nat → Nat} (hB : BlkOk f S T) (L : List Int) {b : Nat} (hb : b < S.length) : FromR f S T L b (fromR f S T L b) := by
  obtain ⟨l, hl⟩ := from_exists ok hB L hb
  rw [fromR_eq hl]; exact hl
noncomputable def behR (f : Fn) (S : List Nat) (T : Nat → Nat) (L : List Int) (z : Int) : List Int := if z = -1 then parR f.params else onR f (S.getD z.toNat 0) (T z.toNat - S.getD z.toNat 0) (fromR f S T L z.toNat)
end Go.Proofs.YtldbmdgpdolaaaaGreatDoor
namespace Go.Proofs.YtldbmdgpdolaaaaGreatDoor
open Go Go.RowKit

structure SsaFn (w : World) (P : List Fn) (f : Fn) (S : List Nat) (T : Nat → Nat) (L : List Int) (pv cv bv lv : Value) : Prop where
  prog : ProgVal w pv P
  mem : f ∈ P
  code : ∃ cb co ccap, cv = .slice (some ⟨cb, co, none⟩) f.code.length ccap ∧ f.code.length ≤ ccap ∧ ccap ≤ 9223372036854775807 ∧ ∀ q, q < f.code.length → insAt w cb (co + q * 5) (insD f q)
  blocks : ∃ gB VV, bv = .slice (some ⟨gB, 0, none⟩) S.length S.length ∧ BlkRow w gB S.length (fun i => ((S.getD i 0 : Nat) : Int)) (fun i => ((T i : Nat) : Int)) VV ∧ ∀ i, i < S.length → IntsVal w (VV (2 * i + 1)) (prevs f S T i)
  ok : BlkOk f S T
  live : IntsVal w lv L
  lspec : LiveSpec P f L
  flow : FlowOk P f
theorem SsaFn.below {w w' : World} {P : List Fn} {f : Fn} {S : List Nat} {T : Nat → Nat} {L : List Int} {pv cv bv lv : Value} (h : SsaFn w P f S T L pv cv bv lv) (hb : Below w.heap.size w w') : SsaFn w' P f S T L pv cv bv lv := by
  obtain ⟨cb, co, ccap, e, h1, h2, h3⟩ := h.code
  obtain ⟨gB, VV, e2, h4, h5⟩ := h.blocks
  exact ⟨h.prog.keeps (keeps_below hb), h.mem, ⟨cb, co, ccap, e, h1, h2, fun q hq => (h3 q hq).keeps (keeps_below hb)⟩, ⟨gB, VV, e2, ownsRow_below h4 hb, fun i hi => (h5 i hi).keeps (keeps_below hb)⟩, h.ok, h.live.keeps (keeps_below hb), h.lspec, h.flow⟩
def fnV (f : Fn) (pv cv bv lv : Value) : Array Value := #[pv, .int .i64 f.params, cv, bv, lv]
def zero12 : List Value := [.int .i64 0, .int .i64 0, .int .i64 0, .int .i64 0, .int .i64 0, .int .i64 0, .int .i64 0, .int .i64 0, .int .i64 0, .int .i64 0, .int .i64 0, .int .i64 0]
theorem infoRg : (Tryz.prog.info? 95).map (·.size) = some 12 := by kernel_rfl
theorem infoRgL {l : List Int} (h : l.length = 12) : (Tryz.prog.info? 95).map (·.size) = some (i64s l).toArray.size := by
  have : (i64s l).toArray.size = 12 := by simp [i64s, h]
  rw [this]; exact infoRg
theorem oneI64 (l : List Int) : (i64s l).toArray.all (·.oneCell') = true := by
  rw [Array.all_eq_true_iff_forall_mem]
  intro v hv
  obtain ⟨z, -, rfl⟩ := List.mem_map.1 (show v ∈ (l.map (Value.int .i64)) by simpa [i64s] using hv)
  rfl
theorem bit_downS (m u : Nat) (hm : m < 4096) : bits .and .i64 ((m : Int) / 2 ^ u) 1 = if m.testBit u = true then 1 else 0 := by
  have e : ((m : Int) / 2 ^ u) = ((m / 2 ^ u : Nat) : Int) := by rw [Int.natCast_ediv, Int.natCast_pow]; rfl
  have hd : m / 2 ^ u < 65536 := Nat.lt_of_le_of_lt (Nat.div_le_self _ _) (by omega)
  have h1 := bits_and_nat (m / 2 ^ u) 1 hd (by omega)
  rw [e]
  refine h1.trans ?_
  rw [Nat.and_one_is_mod, Nat.testBit_eq_decide_div_mod_eq]
  simp only [decide_eq_true_eq]
  split <;> omega
theorem heap_alloc3_newS (w : World) (o o' o'' : Obj) : (((w.alloc o).alloc o').alloc o'').heap[w.heap.size + 1 + 1]? = some o'' := by
  have := heap_alloc_last ((w.alloc o).alloc o') o''
  rw [World.size_alloc, World.size_alloc] at this
  exact this
theorem belowSK {B g : Nat} {w0 w : World} (hb : Below B w0 w) (hBg : B ≤ g) (cs : Array Value) : Below B w0 (w.setRow g cs) :=
  hb.trans ⟨rfl, rfl, rfl, by simp [World.setRow], fun i hi => setRow_other _ _ _ _ (by omega)⟩
set_option maxRecDepth 100000 in
theorem makesS_any (P : List Fn) (x : Ins) (w : World) (ht : TabOk w) (hx : InsOk P x) :
    Calls Tryz.prog 79 #[x.val] w fun e w' => e = .returned (.bool (setsB x.op)) ∧ Below w.heap.size w w' := by
  obtain ⟨op, dst, a, b', imm⟩ := x
  obtain ⟨o1, o2, d0, d1, _, _, _, _, _⟩ := hx
  dsimp only at o1 o2 d0 d1
  unfold Ins.val
  dsimp only
  have hs := sets_has op o1 o2
  have hta : ∀ o, TabOk (w.alloc o) := fun o => ht.below ((Below.refl _ _).alloc (Nat.le_refl _) _)
  cases h : setsB op
  · rw [h] at hs
    clear h ht
    simp only [Bool.not_false] at hs
    have hs2 : (bits .and .i64 (hasOf op) 1 != 0) = false := by simpa using hs
    go_enter Tryz.func79, Tryz.ntmps79
    go_wp2_with (go_at_call 108; refine (has_any _ _ (hta _)).mono ?_; rintro e w' ⟨rfl, rfl⟩)
    go_ret
    exact ⟨rfl, (Below.refl _ _).alloc (Nat.le_refl _) _⟩
  · rw [h] at hs
    clear h ht
    simp only [Bool.not_true] at hs
    have hs2 : (bits .and .i64 (hasOf op) 1 != 0) = true := by simpa using hs
    go_enter Tryz.func79, Tryz.ntmps79
    go_wp2_with (go_at_call 108; refine (has_any _ _ (hta _)).mono ?_; rintro e w' ⟨rfl, rfl⟩)
    go_ret
    exact ⟨rfl, (Below.refl _ _).alloc (Nat.le_refl _) _⟩
theorem madeAt_any (pc : Nat) (w : World) (h : pc ≤ 1000) : Calls Tryz.prog 80 #[.int .i64 pc] w fun e w' => e = .returned (.int .i64 (madeI pc)) ∧ w' = w := by
  have h1 : IntKind.i64.wrap (12 + (pc : Int)) = madeI pc := wrap_fits _ (by omega) (by omega)
  have h2 : wrap64 (12 + (pc : Int)) = madeI pc := (wrap64_small _ (by omega) (by omega)).trans rfl
  go_enter Tryz.func80, Tryz.ntmps80
  go_wp2
  go_ret
  exact ⟨rfl, rfl⟩
theorem phiAt_any (b r : Nat) (w : World) (hb : b ≤ 1000) (hr : r ≤ 1000) : Calls Tryz.prog 83 #[.int .i64 b, .int .i64 r] w fun e w' => e = .returned (.int .i64 (phiI b r)) ∧ w' = w := by
  obtain ⟨c, hc⟩ : ∃ c : Int, c = (b : Int) * 12 := ⟨_, rfl⟩
  have h1 : wrap64 ((b : Int) * 12) = c := by rw [hc]; exact wrap64_small _ (by omega) (by omega)
  have h2 : wrap64 (52 + c) = 52 + c := wrap64_small _ (by omega) (by omega)
  have h3 : wrap64 (52 + c + (r : Int)) = phiI b r := by rw [hc]; exact wrap64_small _ (by omega) (by omega)
  clear hc
  go_enter Tryz.func83, Tryz.ntmps83
  go_wp2
  go_ret
  exact ⟨rfl, rfl⟩
set_option maxRecDepth 100000 in
theorem joinsS_any {P : List Fn} {f : Fn} {S : List Nat} {T : Nat → Nat} {L : List Int} {pv cv bv lv : Value} (w : World) (h : SsaFn w P f S T L pv cv bv lv) (b : Nat) (hb : b < S.length) :
    Calls Tryz.prog 81 #[.agg (fnV f pv cv bv lv), .int .i64 b] w fun e w' => e = .returned (.bool (decide (1 < (prevs f S T b).length))) ∧ Below w.heap.size w w' := by
  obtain ⟨gB, VV, rfl, h1, h2⟩ := h.blocks
  obtain ⟨ao, pb, po, n, cap, e, hl, -, -, hcp⟩ := ints_get (h2 b hb)
  have hS : S.length ≤ 1000 := by have := starts_len h.flow h.ok.starts; have := h.flow.ok.len2; omega
  have HB : Hid (Below w.heap.size w (w.alloc (.cells (fnV f pv cv (.slice (some ⟨gB, 0, none⟩) S.length S.length) lv) 89))) := (Below.refl _ _).alloc (Nat.le_refl _) _
  have k3 : (w.alloc (.cells (fnV f pv cv (.slice (some ⟨gB, 0, none⟩) S.length S.length) lv) 89)).cell? ⟨w.heap.size, 3, none⟩ = some (.slice (some ⟨gB, 0, none⟩) S.length S.length) := by rw [cell_of_row _ _ _ _ _ _ (heap_alloc_last w _)]; rfl
  have kp := keeps_below HB.out _ _ (blk_prev h1 b hb)
  rw [e] at kp
  have hbI : (b : Int) < (S.length : Int) := by omega
  by_cases hj : 1 < (prevs f S T b).length
  · rw [decide_eq_true hj]
    have hn : (1 : Int) < (n : Int) := by omega
    have hn2 : 1 < n := by omega
    clear h1 h2 h e hl hcp hj
    unfold fnV at *
    generalize S.length = SL at *
    go_enter Tryz.func81, Tryz.ntmps81
    go_upto_region 1 with fail
    generalize (w.alloc (.cells #[pv, .int .i64 f.params, cv, .slice (some ⟨gB, 0, none⟩) SL SL, lv] 89)) = W1 at *
    go_wp2
    go_ret
    exact ⟨rfl, HB.out⟩
  · rw [decide_eq_false hj]
    have hn : ¬ (1 : Int) < (n : Int) := by omega
    have hn2 : ¬ 1 < n := by omega
    clear h1 h2 h e hl hcp hj
    unfold fnV at *
    generalize S.length = SL at *
    go_enter Tryz.func81, Tryz.ntmps81
    go_upto_region 1 with fail
    generalize (w.alloc (.cells #[pv, .int .i64 f.params, cv, .slice (some ⟨gB, 0, none⟩) SL SL, lv] 89)) = W1 at *
    go_wp2
    go_ret
    exact ⟨rfl, HB.out⟩
end Go.Proofs.YtldbmdgpdolaaaaGreatDoor
namespace Go.Proofs.YtldbmdgpdolaaaaGreatDoor
open Go Go.RowKit

def upto (a b : List Int) (q : Nat) : List Int := a.take q ++ b.drop q
theorem upto_zero (a b : List Int) : upto a b 0 = b := by simp [upto]
theorem upto_all {a b : List Int} (ha : a.length = 12) (hb : b.length = 12) : upto a b 12 = a := by simp [upto, List.take_of_length_le, ha, List.drop_eq_nil_of_le, hb]
theorem upto_len {a b : List Int} (ha : a.length = 12) (hb : b.length = 12) {q : Nat} (hq : q ≤ 12) : (upto a b q).length = 12 := by simp [upto, ha, hb]; omega
theorem upto_set {a b : List Int} (ha : a.length = 12) (hb : b.length = 12) {q : Nat} (hq : q < 12) : (upto a b q).set q (a.getD q 0) = upto a b (q + 1) := by
  unfold upto
  have h1 : (a.take q).length = q := by rw [List.length_take]; omega
  rw [List.set_append_right _ _ (by omega), h1, Nat.sub_self, List.drop_eq_getElem_cons (show q < b.length by omega), List.set_cons_zero, List.take_succ_eq_append_getElem (show q < a.length by omega), List.append_assoc]
  simp [List.getD, show q < a.length by omega]
theorem upto_same {a b : List Int} (ha : a.length = 12) (hb : b.length = 12) {q : Nat} (hq : q < 12) (h : a.getD q 0 = b.getD q 0) : upto a b q = upto a b (q + 1) := by
  unfold upto
  rw [List.drop_eq_getElem_cons (show q < b.length by omega), List.take_succ_eq_append_getElem (show q < a.length by omega), List.append_assoc]
  have e1 : a.getD q 0 = a[q]'(by omega) := by simp [List.getD, show q < a.length by omega]
  have e2 : b.getD q 0 = b[q]'(by omega) := by simp [List.getD, show q < b.length by omega]
  rw [e1, e2] at h
  rw [h]; rfl
set_option maxRecDepth 100000 in
set_option maxHeartbeats 2000000 in
theorem wantedS_any {P : List Fn} {f : Fn} {S : List Nat} {T : Nat → Nat} {L : List Int} {pv cv bv lv : Value} (w : World) (h : SsaFn w P f S T L pv cv bv lv) (l : List Int) (hl : l.length = 12) (pc : Nat) (hpc : pc < f.code.length) (hw : Way f 63 pc) :
    Calls Tryz.prog 49 #[.agg (fnV f pv cv bv lv), .agg (i64s l).toArray, .int .i64 pc] w fun e w' => e = .returned (.agg (i64s (wantR (mkL L pc) l)).toArray) ∧ Below w.heap.size w w' := by
  obtain ⟨m, hm, hml⟩ : ∃ m : Nat, m < 4096 ∧ L.getD pc 0 = (m : Int) := by
    rcases h.lspec.2 pc hpc with ⟨h1, -⟩ | ⟨-, m, h1, h2, -⟩
    · exact absurd hw h1
    · exact ⟨m, h1, h2⟩
  have hmk : mkL L pc = m := by unfold mkL; rw [hml]; rfl
  rw [hmk]
  obtain ⟨ao, lb, lo, n, cap, e, hll, ha, hcl, hcp⟩ := ints_get h.live
  have hLl := h.lspec.1
  have hpn : pc < n := by omega
  obtain rfl := ha (by omega)
  have cm := hcl pc hpn
  rw [hml] at cm
  subst e
  have HCM : Hid (∀ W, Below w.heap.size w W → W.cell? ⟨lb, lo + pc, none⟩ = some (.int .i64 (m : Int))) := fun W hb => keeps_below hb _ _ cm
  have hpI : (pc : Int) < (n : Int) := by omega
  have HWR : Hid (wantR m l = wantR m l ∧ (wantR m l).length = 12) := ⟨rfl, wantR_len m l⟩
  have HS : Hid (∀ q, q < 12 → m.testBit q = false → (i64s (upto (wantR m l) l q)).set q (.int .i64 (-1)) = i64s (upto (wantR m l) l (q + 1))) := fun q hq hb => by
    rw [i64s_set, ← upto_set (wantR_len m l) hl hq, wantR_get m l hq, if_neg (by rw [hb]; decide)]
  have HK : Hid (∀ q, q < 12 → m.testBit q = true → upto (wantR m l) l q = upto (wantR m l) l (q + 1)) := fun q hq hb => upto_same (wantR_len m l) hl hq (by rw [wantR_get m l hq, if_pos hb])
  have HL : Hid (∀ q, q ≤ 12 → (i64s (upto (wantR m l) l q)).length = 12) := fun q hq => by simp [i64s, upto_len (wantR_len m l) hl hq]
  have HBD : Hid (∀ q, bits .and .i64 ((m : Int) / 2 ^ q) 1 = if m.testBit q = true then 1 else 0) := fun q => bit_downS m q hm
  have HZ : Hid (upto (wantR m l) l 0 = l) := upto_zero _ _
  have HA : Hid (upto (wantR m l) l 12 = wantR m l) := upto_all (wantR_len m l) hl
  have i12 := infoRgL (wantR_len m l)
  have o12 := oneI64 (wantR m l)
  have hlz : zero12.toArray.size = (i64s (wantR m l)).toArray.size := by simp [zero12, i64s, wantR_len]
  have hpcN : ¬ (pc : Int) < 0 := by omega
  unfold fnV
  clear h hml hmk hll hcl hcp ha hLl hw hpc hm cm
  generalize hdd : i64s l = DD at *
  go_enter Tryz.func49, Tryz.ntmps49
  go_upto_region 1 with fail
  rw [show (#[.int .i64 0, .int .i64 0, .int .i64 0, .int .i64 0, .int .i64 0, .int .i64 0, .int .i64 0, .int .i64 0, .int .i64 0, .int .i64 0, .int .i64 0, .int .i64 0] : Array Value) = zero12.toArray from rfl]
  have r0 : (((w.alloc (.cells #[pv, .int .i64 f.params, cv, bv, .slice (some ⟨lb, lo, none⟩) n cap] 89)).alloc (.cells DD.toArray 95)).alloc (.cells zero12.toArray 95)).heap[w.heap.size + 1]? = some (.cells DD.toArray 95 (0, 0)) := heap_alloc_old _ _ (by simp) |>.trans (heap_alloc2_new _ _ _)
  have r1 : (((w.alloc (.cells #[pv, .int .i64 f.params, cv, bv, .slice (some ⟨lb, lo, none⟩) n cap] 89)).alloc (.cells DD.toArray 95)).alloc (.cells zero12.toArray 95)).heap[w.heap.size + 1 + 1]? = some (.cells zero12.toArray 95 (0, 0)) := heap_alloc3_newS _ _ _ _
  have k4 : (((w.alloc (.cells #[pv, .int .i64 f.params, cv, bv, .slice (some ⟨lb, lo, none⟩) n cap] 89)).alloc (.cells DD.toArray 95)).alloc (.cells zero12.toArray 95)).cell? ⟨w.heap.size, 4, none⟩ = some (.slice (some ⟨lb, lo, none⟩) n cap) := cell_alloc (cell_alloc (by rw [cell_of_row _ _ _ _ _ _ (heap_alloc_last w _)]; rfl) _) _
  have HB0 : Hid (Below w.heap.size w (((w.alloc (.cells #[pv, .int .i64 f.params, cv, bv, .slice (some ⟨lb, lo, none⟩) n cap] 89)).alloc (.cells DD.toArray 95)).alloc (.cells zero12.toArray 95))) := (((Below.refl _ _).alloc (Nat.le_refl _) _).alloc (by simp) _).alloc (by simp; omega) _
  generalize (((w.alloc (.cells #[pv, .int .i64 f.params, cv, bv, .slice (some ⟨lb, lo, none⟩) n cap] 89)).alloc (.cells DD.toArray 95)).alloc (.cells zero12.toArray 95)) = W0 at *
  go_upto_region 2 with fail
  go_loopw [7, 8] (fun _ i wr => ∃ q : Nat, q ≤ 12 ∧ i = .int .i64 q ∧ wr.heap[w.heap.size + 1]? = some (.cells (i64s (upto (wantR m l) l q)).toArray 95 (0, 0)) ∧ wr.heap[w.heap.size + 1 + 1]? = some (.cells zero12.toArray 95 (0, 0)) ∧ wr.cell? ⟨w.heap.size, 4, none⟩ = some (.slice (some ⟨lb, lo, none⟩) n cap) ∧ Below w.heap.size w wr) (fun _ i _ => 12 - (intOf i).toNat)
  case atStart => exact ⟨0, by omega, rfl, by rw [HZ.out, hdd]; exact r0, r1, k4, HB0.out⟩
  case round =>
    clear r0 r1 k4 HB0
    obtain ⟨q, hq, rfl, g0, g1, g4, hbr⟩ := hrel
    have HBR : Hid (Below w.heap.size w wr) := hbr
    have cm := HCM.out wr hbr
    clear hbr
    by_cases hlt : q < 12
    · have hqI : (q : Int) < 12 := by omega
      have hqn : ¬ (q : Int) < 0 := by omega
      have hq64 : (q : Int) < 64 := by omega
      have hbd := HBD.out q
      cases hb : m.testBit q
      · rw [hb, if_neg (by decide)] at hbd
        have hS := HS.out q hlt hb
        obtain ⟨y, hy⟩ : ∃ y, wr.cell? ⟨w.heap.size + 1, q, none⟩ = some y := ⟨(i64s (upto (wantR m l) l q))[q]'(by rw [HL.out q hq]; omega), by rw [cell_of_row _ _ _ _ _ _ g0]; simp⟩
        have hf : wr.frozen? ⟨w.heap.size + 1, q, none⟩ = false := frozen_of_row _ _ _ _ _ g0
        have HN : Hid ((wr.setCell ⟨w.heap.size + 1, q, none⟩ (.int .i64 (-1))).heap[w.heap.size + 1]? = some (.cells (i64s (upto (wantR m l) l (q + 1))).toArray 95 (0, 0))) := by show _ = _; rw [heap_setCell_same _ _ _ _ _ _ g0, List.setIfInBounds_toArray, hS]
        have HN1 : Hid ((wr.setCell ⟨w.heap.size + 1, q, none⟩ (.int .i64 (-1))).heap[w.heap.size + 1 + 1]? = some (.cells zero12.toArray 95 (0, 0))) := (heap_setCell_other _ _ _ _ (by simp)).trans g1
        have HN4 : Hid ((wr.setCell ⟨w.heap.size + 1, q, none⟩ (.int .i64 (-1))).cell? ⟨w.heap.size, 4, none⟩ = some (.slice (some ⟨lb, lo, none⟩) n cap)) := (World.cell?_of_block (heap_setCell_other _ _ _ _ (by simp))).trans g4
        have HNB : Hid (Below w.heap.size w (wr.setCell ⟨w.heap.size + 1, q, none⟩ (.int .i64 (-1)))) := by show Below _ _ _; exact HBR.out.setCell (by simp) _
        clear hS hb g0 g1
        go_wp2
        go_roundw
        case rel => exact ⟨q + 1, by omega, by go_num, HN.out, HN1.out, HN4.out, HNB.out⟩
        case measure => simp [intOf]; omega
      · rw [hb, if_pos rfl] at hbd
        have HN : Hid (wr.heap[w.heap.size + 1]? = some (.cells (i64s (upto (wantR m l) l (q + 1))).toArray 95 (0, 0))) := by show _ = _; rw [← HK.out q hlt hb]; exact g0
        clear hb
        go_wp2
        go_roundw
        case rel => exact ⟨q + 1, by omega, by go_num, HN.out, g1, g4, HBR.out⟩
        case measure => simp [intOf]; omega
    · obtain rfl : q = 12 := by omega
      rw [HA.out] at g0
      obtain ⟨RR, hRR⟩ : ∃ R, R = i64s (wantR m l) := ⟨_, rfl⟩
      rw [← hRR] at g0 i12 o12 hlz
      have HRR : Hid (RR = i64s (wantR m l)) := hRR
      clear hRR
      go_wp2_with (first
        | (refine wpList_load_row rfl 95 (.tmp 4) rfl _ rfl _ _ _ _ g0 Tryz.underlying95 rfl i12 ?_)
        | (refine wpList_store_row rfl 95 (.tmp 6) _ rfl _ RR.toArray rfl rfl _ _ g1 i12 hlz o12 ?_))
      refine bodyPost_ret (results_cell_row rfl _ _ (w.heap.size + 1 + 1) 95 RR.toArray (0, 0) _ rfl (setRow_heap _ _ _ _ _ _ g1) Tryz.underlying95 rfl i12) rfl ⟨by rw [HRR.out], ?_⟩
      exact belowSK HBR.out (by omega) _
end Go.Proofs.YtldbmdgpdolaaaaGreatDoor
namespace Go.Proofs.YtldbmdgpdolaaaaGreatDoor
open Go Go.RowKit

theorem wpList_load_wantedF {P : Program} {ops : Array Oper} {rest : List Oper} {o : Oper} {a : Act} {w : World} {Q : Exit → Act → World → Prop} (hw : Region.wanted o (yielded ops a.tmps) = true) (ty : TypeId) (x : Operand) (ho : o.op = .load ty x)
    (g : Nat) (hx : a.eval x = .pointer (some ⟨g, 0, none⟩)) (t : TypeId) (cs : Array Value) (fr : Nat × Nat) (d : TypeDesc) (hg : w.heap[g]? = some (.cells cs t fr))
    (hu : P.underlying ty = some d) (hd : (match d with | .struct _ | .array _ _ => true | _ => false) = true) (hi : (P.info? ty).map (·.size) = some cs.size)
    (h : wpList P ops Q rest (a.put o.dst (.agg cs)) w) : wpList P ops Q (o :: rest) a w := by
  simp only [wpList, hw, if_true]
  exact Or.inl (wp_load_row ty x ho g hx t cs fr d hg hu hd hi h)
theorem wpList_load_mid_wantedF {P : Program} {ops : Array Oper} {rest : List Oper} {o : Oper} {a : Act} {w : World} {Q : Exit → Act → World → Prop} (hw : Region.wanted o (yielded ops a.tmps) = true) (ty : TypeId) (x : Operand) (ho : o.op = .load ty x)
    (b f : Nat) (hx : a.eval x = .pointer (some ⟨b, f, none⟩)) (cs : List Value) (d : TypeDesc) (hc : w.rangeAt b f cs)
    (hu : P.underlying ty = some d) (hd : d.isRow = true) (hi : (P.info? ty).map (·.size) = some cs.length)
    (h : wpList P ops Q rest (a.put o.dst (.agg cs.toArray)) w) : wpList P ops Q (o :: rest) a w := by
  simp only [wpList, hw, if_true]
  exact Or.inl (wp_load_mid ty x ho b f hx cs d hc hu hd hi h)
def factC (a : FV) : List Value := [.int .i64 a.kind, .int .i64 a.num]
theorem factC_len (a : FV) : (factC a).length = 2 := rfl
def KnowG (w : World) : Prop := w.rangeAt 1 0 [.int .i64 0, .int .i64 0] ∧ w.rangeAt 0 0 [.int .i64 2, .int .i64 0]
theorem KnowG.below {w w' : World} (h : KnowG w) (hb : Below w.heap.size w w') : KnowG w' := ⟨fun j u hu => keeps_below hb _ _ (h.1 j u hu), fun j u hu => keeps_below hb _ _ (h.2 j u hu)⟩
theorem infoFact : (Tryz.prog.info? 65).map (·.size) = some 2 := by kernel_rfl
theorem fields_fact : (Tryz.prog.fieldsOf 65).toList.map (fun f => (f.type, f.offset, f.name == "_")) = [(3, 0, false), (3, 1, false)] := by kernel_rfl
theorem under_fact : Tryz.prog.underlying 65 = some (.struct (Tryz.prog.fieldsOf 65)) := by kernel_rfl
theorem stood_fact : Tryz.prog.stoodInHeld 65 = false := by kernel_rfl
theorem plain_int_f : Tryz.prog.plainKey 3 = true := by kernel_rfl
theorem equal_fact (k n k' n' : Int) (w : World) : (Op.equalIn 10000 65 (.agg #[.int .i64 k, .int .i64 n]) (.agg #[.int .i64 k', .int .i64 n'])).run Tryz.prog w = .ok ((k == k') && (n == n')) w := by
  rw [run_equalIn_struct w 9999 _ _ _ under_fact stood_fact]
  have hf := fields_fact
  generalize (Tryz.prog.fieldsOf 65).toList = fs at hf
  rcases fs with _ | ⟨f0, _ | ⟨f1, _ | ⟨f2, fs⟩⟩⟩ <;> simp at hf
  obtain ⟨⟨t0, o0, n0⟩, t1, o1, n1⟩ := hf
  have p0 : ∀ a b : Int, (part f0.type #[.int .i64 a, .int .i64 b] f0.offset).run Tryz.prog w = .ok (.int .i64 a) w := fun a b => by rw [t0, o0]; exact run_part_plain w plain_int_f rfl
  have p1 : ∀ a b : Int, (part f1.type #[.int .i64 a, .int .i64 b] f1.offset).run Tryz.prog w = .ok (.int .i64 b) w := fun a b => by rw [t1, o1]; exact run_part_plain w plain_int_f rfl
  have q0 : (Op.equalIn 9999 f0.type (.int .i64 k) (.int .i64 k')).run Tryz.prog w = .ok (k == k') w := by rw [t0, run_equalIn_int w 9998 3 .i64 .i64 _ _ Tryz.underlying3]
  have q1 : (Op.equalIn 9999 f1.type (.int .i64 n) (.int .i64 n')).run Tryz.prog w = .ok (n == n') w := by rw [t1, run_equalIn_int w 9998 3 .i64 .i64 _ _ Tryz.underlying3]
  simp only [Op.eqFields, n0, n1, ne_eq, not_false_eq_true, if_true, Sem.run_bind, p0, q0, Result.andThen_ok]
  cases (k == k')
  · simp
  · simp only [Bool.not_true, Bool.false_eq_true, if_false, Sem.run_bind, p1, q1, Result.andThen_ok]
    cases (n == n') <;> simp
theorem fv_eq (a b : FV) : ((a.kind == b.kind) && (a.num == b.num)) = decide (a = b) := by
  by_cases h : a = b
  · rw [h]; simp
  · rw [decide_eq_false h, Bool.and_eq_false_iff]
    by_cases h1 : a.kind = b.kind
    · right; rw [beq_eq_false_iff_ne]; exact fun h2 => h (FV.ext h1 h2)
    · left; rw [beq_eq_false_iff_ne]; exact h1
theorem built_fact (k n : Int) : Tryz.prog.built 65 [(0, .int .i64 k), (1, .int .i64 n)] = some #[.int .i64 k, .int .i64 n] := by kernel_rfl
set_option maxRecDepth 100000 in
theorem known_any (n : Int) (w : World) :
    Calls Tryz.prog 111 #[.int .i64 n] w fun e w' => e = .returned (.agg #[.int .i64 1, .int .i64 n]) ∧ Below w.heap.size w w' := by
  have HB : Hid (Below w.heap.size w (w.alloc (.cells #[.int .i64 0, .int .i64 0] 65))) := (Below.refl _ _).alloc (Nat.le_refl _) _
  have r2 : (w.alloc (.cells #[.int .i64 0, .int .i64 0] 65)).heap[w.heap.size]? = some (.cells #[.int .i64 0, .int .i64 0] 65 (0, 0)) := heap_alloc_last w _
  go_enter Tryz.func111, Tryz.ntmps111
  go_upto_region 1 with fail
  generalize w.alloc (.cells #[.int .i64 0, .int .i64 0] 65) = V at *
  go_wp2_with (refine wpList_build_store rfl _ _ rfl #[.int .i64 1, .int .i64 n] (by simpa [Act.eval, Act.put] using built_fact 1 n) rfl _ _ rfl _ rfl rfl _ _ r2 infoFact rfl (by simp [Value.oneCell']) ?_)
  (try simp only [Exit.inBlock, Exit.then])
  exact bodyPost_ret (results_cell_row rfl _ _ w.heap.size 65 #[.int .i64 1, .int .i64 n] (0, 0) _ rfl (setRow_heap _ _ _ _ _ _ r2) Tryz.underlying65 rfl infoFact) rfl ⟨rfl, belowSK HB.out (Nat.le_refl _) _⟩
end Go.Proofs.YtldbmdgpdolaaaaGreatDoor
namespace Go.Proofs.YtldbmdgpdolaaaaGreatDoor
open Go Go.ChangeShapes Go.WideShapes Go.ChangeAt Go.RowKit

theorem gCalls4 : Tryz.prog.globalNamed "tierline/ops.callReads" = some 2 := by kernel_rfl
theorem tCalls4 : (Tryz.prog.globals[2]?).map (·.type) = some 197 := by kernel_rfl
theorem cellsCalls4 : Tryz.prog.cellsOf 197 = 3 := by kernel_rfl
theorem gNever : Tryz.prog.globalNamed "tierline/fold.never" = some 1 := by kernel_rfl
theorem tNever : (Tryz.prog.globals[1]?).map (·.type) = some 65 := by kernel_rfl
theorem gMany : Tryz.prog.globalNamed "tierline/fold.many" = some 0 := by kernel_rfl
theorem tMany : (Tryz.prog.globals[0]?).map (·.type) = some 65 := by kernel_rfl
theorem cellsFactQ : Tryz.prog.cellsOf 65 = 2 := by kernel_rfl
theorem cellsIntQ : Tryz.prog.cellsOf 3 = 1 := by kernel_rfl
abbrev laidL4 : List (String × DataW Unit) := [("tierline/ops.parts", Rows.laid_tierline_ops_parts), ("tierline/ops.callReads", Rows.laid_tierline_ops_callReads), ("tierline/fold.never", Rows.laid_tierline_fold_never), ("tierline/fold.many", Rows.laid_tierline_fold_many)]
theorem door_met4 (os : Os) (args : Array Value) : laidMetH Tryz.prog laidL4 ((World.doorLaid Tryz.prog 400 os).forCall (fun _ _ => 0) ⟨#[], args, []⟩).memory :=
  laidMetH_of_parts3 (fuel := 8) (laidMet_of_run' 8 (by kernel_rfl) (by kernel_rfl)) (by kernel_rfl) (by kernel_rfl)
theorem fact_cells {W : World} {name : String} {gl : Nat} {z1 z2 : Int} (hg : Tryz.prog.globalNamed name = some gl) (hty : (Tryz.prog.globals[gl]?).map (·.type) = some 65) (h : Lib.VarReads Tryz.prog W name (.agg ([z1, z2].map fun z => .lit (.int .i64 z)))) : W.rangeAt gl 0 [.int .i64 z1, .int .i64 z2] := by
  obtain ⟨g, t, cs, fuel, p, hg', hty', hvar, hd⟩ := h
  obtain rfl := Option.some.inj (hg.symm.trans hg')
  obtain rfl := Option.some.inj (hty.symm.trans hty')
  have hc := Lib.ints_of_struct Tryz.underlying65 (fun i f h => by
    match i, h with
    | 0, h => simp at h; subst h; exact ⟨Tryz.underlying3, rfl, cellsIntQ⟩
    | 1, h => simp at h; subst h; exact ⟨Tryz.underlying3, rfl, cellsIntQ⟩
    | j + 2, h => simp at h) cellsFactQ hd
  intro j u hu
  have h1 := World.var?_cell hg hvar (0 + j)
  rw [h1]
  have h2 : cs[0 + j]? = cs.toList[0 + j]? := by simp
  rw [h2, hc, Nat.zero_add]
  exact hu
theorem tabs4_of_laid {W : World} (h : laidMetH Tryz.prog laidL4 W) : TabOk W ∧ CallOk W ∧ KnowG W := by
  rw [MakeChecks.laidMetH_plain _ _ _ (by kernel_rfl)] at h
  have h' : laidMet Tryz.prog (("tierline/ops.parts", Lib.tabData .i64 hasL) :: ("tierline/ops.callReads", Lib.tabData .i64 [0, 2, 6]) :: ("tierline/fold.never", .agg (([0, 0] : List Int).map fun z => .lit (.int .i64 z))) :: ("tierline/fold.many", .agg (([2, 0] : List Int).map fun z => .lit (.int .i64 z))) :: []) W := h
  have ht := Lib.tabIs_of_head (P := Tryz.prog) gParts tParts Tryz.underlying200 Tryz.underlying3 cells3 cellsParts h'
  have hc := Lib.tabIs_of_head (P := Tryz.prog) gCalls4 tCalls4 Tryz.underlying197 Tryz.underlying3 cells3 cellsCalls4 h'.tail
  obtain ⟨ps, hps, -⟩ := h'
  have r1 := Lib.LaidVars_reads hps "tierline/fold.never" (.agg (([0, 0] : List Int).map fun z => .lit (.int .i64 z))) (List.mem_cons_of_mem _ (List.mem_cons_of_mem _ (List.mem_cons_self ..)))
  have r2 := Lib.LaidVars_reads hps "tierline/fold.many" (.agg (([2, 0] : List Int).map fun z => .lit (.int .i64 z))) (List.mem_cons_of_mem _ (List.mem_cons_of_mem _ (List.mem_cons_of_mem _ (List.mem_cons_self ..))))
  exact ⟨fun i hi => ht.cell gParts i hi, fun i hi => hc.cell gCalls4 i hi, fact_cells gNever tNever r1, fact_cells gMany tMany r2⟩
end Go.Proofs.YtldbmdgpdolaaaaGreatDoor
namespace Go.Proofs.YtldbmdgpdolaaaaGreatDoor
open Go Go.RowKit

theorem laidOutW : laidOutB Tryz.prog = true := by kernel_rfl
theorem rowWay : (124 : TypeId) < Tryz.prog.types.size := of_decide_eq_true (by kernel_rfl)
theorem wideWay : (match Tryz.prog.underlying 124 with | some (.array _ _) | some (.struct _) => true | _ => false) = true := by kernel_rfl
set_option maxRecDepth 100000 in
theorem lawWay : Maps.Keyed Tryz.prog 124 := Maps.Keyed.of_law (deep_law_laid laidOutW (m := 2) (by omega) rowWay (by kernel_rfl) wideWay)
def wayL (a b : Int) : Lit := .string (keyBytes [.int .i64 a, .int .i64 b])
theorem fields_way : (Tryz.prog.fieldsOf 124).toList.map (fun f => (f.type, f.offset, f.name == "_")) = [(3, 0, false), (3, 1, false)] := by kernel_rfl
theorem under_way : Tryz.prog.underlying 124 = some (.struct (Tryz.prog.fieldsOf 124)) := by kernel_rfl
theorem cells_way : Tryz.prog.cellsOf 124 = 2 := by kernel_rfl
theorem cells_intW : Tryz.prog.cellsOf 3 = 1 := by kernel_rfl
theorem keyTy_way : Tryz.prog.keyType 124 = true := by kernel_rfl
theorem size_types : ∃ d, Tryz.prog.types.size = d + 1 := Nat.exists_eq_succ_of_ne_zero (fun h => by have h1 := rowWay; rw [h] at h1; exact absurd h1 (Nat.not_lt_zero _))
def FitW (a : Int) : Prop := -1 ≤ a ∧ a ≤ 2000
theorem FitW.wf {z : Int} (h : FitW z) : (Lit.int .i64 z).wf = true := WalkArith.wf_i64 (by unfold FitW at h; omega)
theorem keyOf_way {a b : Int} (ha : FitW a) (hb : FitW b) : keyOf Tryz.prog 124 (.agg #[.int .i64 a, .int .i64 b]) = some (wayL a b) := by
  obtain ⟨d, hd⟩ := size_types
  have hi : ∀ z : Int, FitW z → Tryz.prog.keyLits (d + 1) 3 [.int .i64 z] = some [.int .i64 z] := fun z hz => by
    have hw := hz.wf
    simp [Program.keyLits, Tryz.underlying3, hw]
  have hf := fields_way
  have hform : (Value.agg #[.int .i64 a, .int .i64 b]).formed Tryz.prog 124 = true := by simp [Value.formed, cells_way]
  unfold keyOf
  rw [under_way]
  simp only [keyTy_way, hform, Bool.and_self, if_true, hd]
  have hk : Tryz.prog.keyLits (d + 1 + 1) 124 [.int .i64 a, .int .i64 b] = some [.int .i64 a, .int .i64 b] := by
    unfold Program.keyLits
    rw [under_way]
    dsimp only
    generalize hfs : (Tryz.prog.fieldsOf 124) = fs at hf
    have hall : fs.all (·.name != "_") = true := by
      rw [← hfs]; kernel_rfl
    rw [if_pos ⟨by rw [cells_way]; rfl, hall⟩]
    generalize fs.toList = l at hf
    rcases l with _ | ⟨f0, _ | ⟨f1, _ | ⟨f2, fs⟩⟩⟩ <;> simp at hf
    obtain ⟨⟨t0, o0, n0⟩, t1, o1, n1⟩ := hf
    simp [t0, o0, t1, o1, cells_intW, hi a ha, hi b hb]
  show Option.map _ (Tryz.prog.keyLits (d + 1 + 1) 124 (Value.cells (.agg #[.int .i64 a, .int .i64 b])).toList) = _
  rw [show (Value.cells (.agg #[.int .i64 a, .int .i64 b])).toList = [.int .i64 a, .int .i64 b] from rfl, hk]
  rfl
theorem wayL_inj {a b a' b' : Int} (ha : FitW a) (hb : FitW b) (ha' : FitW a') (hb' : FitW b') (h : wayL a b = wayL a' b') : a = a' ∧ b = b' := by
  have := lawWay.inj (keyOf_way ha hb) (by rw [h]; exact keyOf_way ha' hb')
  simpa using this
theorem wayL_key (a b : Int) : WideAt.IsKeyLit (wayL a b) := trivial
def emptyR : Value → Option (Dat × List MemPlace)
  | .agg cs => if cs.size = 0 then some (.agg [], []) else none
  | _ => none
theorem emptyR_ok : emptyR (.agg #[]) = some (.agg [], []) := rfl
theorem emptyR_inv {v : Value} {x : Dat × List MemPlace} (h : emptyR v = some x) : v = .agg #[] := by
  cases v with
  | agg cs =>
    by_cases h1 : cs.size = 0
    · rw [Array.eq_empty_of_size_eq_zero h1]
    · have h2 : (if cs.size = 0 then some ((DataW.agg [] : Dat), ([] : List MemPlace)) else none) = some x := h
      rw [if_neg h1] at h2; cases h2
  | _ => cases h
abbrev WMapAt (w : World) (B m : Nat) (D : Dat) : Prop := w.ownsMap Tryz.prog 124 emptyR B m D
structure WaysMap (G : List (Int × Int)) (D : Dat) : Prop where
  has : ∀ a b : Int, FitW a → FitW b → Maps.has D (wayL a b) = decide ((a, b) ∈ G)
  size : Maps.size D = G.length
theorem WaysMap.nil : WaysMap [] (.map [] : Dat) := ⟨fun a b _ _ => by simp [Maps.has], rfl⟩
def addW (G : List (Int × Int)) (x : Int × Int) : List (Int × Int) := if x ∈ G then G else G ++ [x]
theorem WaysMap.add {G : List (Int × Int)} {D : Dat} (h : WaysMap G D) (hT : Maps.Tidy D) {a b : Int} (ha : FitW a) (hb : FitW b) (d : Dat) : WaysMap (addW G (a, b)) (D.put (wayL a b) d) := by
  refine ⟨fun x y hx hy => ?_, ?_⟩
  · by_cases e : x = a ∧ y = b
    · obtain ⟨rfl, rfl⟩ := e
      rw [Maps.has_put_same hT.isMap (wayL_key _ _)]
      unfold addW
      split
      · rename_i hm; simp [hm]
      · simp
    · have hne : (wayL x y) ≠ (wayL a b) := fun h2 => e (wayL_inj hx hy ha hb h2)
      rw [Maps.has_put_other hne, h.has x y hx hy]
      unfold addW
      split
      · rfl
      · rw [decide_eq_decide, List.mem_append, List.mem_singleton, Prod.mk.injEq]
        exact ⟨Or.inl, fun h2 => h2.resolve_right e⟩
  · rw [Maps.size_put hT, h.has a b ha hb, h.size]
    unfold addW
    by_cases hm : (a, b) ∈ G <;> simp [hm]
end Go.Proofs.YtldbmdgpdolaaaaGreatDoor
