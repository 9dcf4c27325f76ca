import Derived.Test.YtldbmdgpdolaaaaDoorPGroupP
import Derived.Deep.RegionHeld3
import Derived.Test.YtldbmdgpdolaaaaDoorPGroupA
import Derived.Test.YtldbmdgpdolaaaaDoorPGroupB
import Derived.Test.YtldbmdgpdolaaaaDoorPXBrief
namespace Go.Proofs.YtldbmdgpdolaaaaDoor
open Go Go.RowKit

def madeI (pc : Nat) : Int := 12 + (pc : Int)
def phiI (b r : Nat) : Int := 52 + (b : Int) * 12 + (r : Int)
def on1 (f : Fn) (pc : Nat) (l : List Int) : List Int := if setsB (insD f pc).op = true then l.set (insD f pc).dst.toNat (madeI pc) else l
theorem on1_len (f : Fn) (pc : Nat) (l : List Int) : (on1 f pc l).length = l.length := by unfold on1; split <;> simp
def onR (f : Fn) : Nat → Nat → List Int → List Int
  | _, 0, l => l
  | pc, n + 1, l => onR f (pc + 1) n (on1 f pc l)
theorem onR_len (f : Fn) : ∀ (n pc : Nat) (l : List Int), (onR f pc n l).length = l.length
  | 0, _, _ => rfl
  | n + 1, pc, l => by rw [onR, onR_len f n, on1_len]
theorem onR_snoc (f : Fn) : ∀ (n pc : Nat) (l : List Int), onR f pc (n + 1) l = on1 f (pc + n) (onR f pc n l)
  | 0, _, _ => rfl
  | n + 1, pc, l => by
    rw [onR, onR_snoc f n, onR, Nat.add_assoc, Nat.add_comm 1 n]
def wantR (m : Nat) (l : List Int) : List Int := (List.range 12).map fun r => if m.testBit r = true then l.getD r 0 else -1
theorem wantR_len (m : Nat) (l : List Int) : (wantR m l).length = 12 := by simp [wantR]
theorem wantR_get (m : Nat) (l : List Int) {r : Nat} (hr : r < 12) : (wantR m l).getD r 0 = if m.testBit r = true then l.getD r 0 else -1 := by
  simp [wantR, List.getD, hr]
def parR (p : Int) : List Int := (List.range 12).map fun r => if ((r : Nat) : Int) < p then ((r : Nat) : Int) else -1
theorem parR_len (p : Int) : (parR p).length = 12 := by simp [parR]
theorem parR_get (p : Int) {r : Nat} (hr : r < 12) : (parR p).getD r 0 = if (r : Int) < p then (r : Int) else -1 := by simp [parR, List.getD, hr]
def phiR (b : Nat) : List Int := (List.range 12).map fun r => phiI b r
theorem phiR_len (b : Nat) : (phiR b).length = 12 := by simp [phiR]
theorem phiR_get (b : Nat) {r : Nat} (hr : r < 12) : (phiR b).getD r 0 = phiI b r := by simp [phiR, List.getD, hr]
def prevs (f : Fn) (S : List Nat) (T : Nat → Nat) (b : Nat) : List Int := pvI f S T S.length b
inductive FromR (f : Fn) (S : List Nat) (T : Nat → Nat) (L : List Int) : Nat → List Int → Prop
  | joins {b : Nat} (h : 1 < (prevs f S T b).length) : FromR f S T L b (wantR (mkL L (S.getD b 0)) (phiR b))
  | first {b : Nat} (h : prevs f S T b = [-1]) : FromR f S T L b (parR f.params)
  | one {b j : Nat} {l : List Int} (h : prevs f S T b = [((j : Nat) : Int)]) (hf : FromR f S T L j l) : FromR f S T L b (onR f (S.getD j 0) (T j - S.getD j 0) l)
theorem FromR.len {f : Fn} {S : List Nat} {T : Nat → Nat} {L : List Int} {b : Nat} {l : List Int} (h : FromR f S T L b l) : l.length = 12 := by
  induction h with
  | joins => exact wantR_len _ _
  | first => exact parR_len _
  | one _ _ ih => rw [onR_len]; exact ih
theorem FromR.unique {f : Fn} {S : List Nat} {T : Nat → Nat} {L : List Int} {b : Nat} {l l' : List Int} (h : FromR f S T L b l) (h' : FromR f S T L b l') : l = l' := by
  induction h generalizing l' with
  | joins h =>
    cases h' with
    | joins => rfl
    | first h2 => rw [h2] at h; simp at h
    | one h2 => rw [h2] at h; simp at h
  | first h =>
    cases h' with
    | joins h2 => rw [h] at h2; simp at h2
    | first => rfl
    | one h2 => rw [h] at h2; have := (List.cons.inj h2).1; omega
  | @one b j l h hf ih =>
    cases h' with
    | joins h2 => rw [h] at h2; simp at h2
    | first h2 => rw [h] at h2; have := (List.cons.inj h2).1; omega
    | @one _ j2 l2 h2 hf2 =>
      rw [h] at h2
      have e : j = j2 := by have := (List.cons.inj h2).1; omega
      subst e
      rw [ih hf2]
theorem prevs_mem {f : Fn} {S : List Nat} {T : Nat → Nat} {b : Nat} (z : Int) : z ∈ prevs f S T b ↔ (b = 0 ∧ z = -1) ∨ ∃ j, j < S.length ∧ z = ((j : Nat) : Int) ∧ ((b : Nat) : Int) ∈ nxI f S (T j) := by
  unfold prevs pvI
  rw [List.mem_append, List.mem_map]
  constructor
  · rintro (h | ⟨j, hj, rfl⟩)
    · by_cases hb : b = 0
      · rw [if_pos hb] at h; exact Or.inl ⟨hb, by simpa using h⟩
      · rw [if_neg hb] at h; simp at h
    · simp only [List.mem_filter, List.mem_range, decide_eq_true_eq] at hj
      exact Or.inr ⟨j, hj.1, rfl, hj.2⟩
  · rintro (⟨hb, rfl⟩ | ⟨j, hj, rfl, hm⟩)
    · left; rw [if_pos hb]; simp
    · right; exact ⟨j, by simp only [List.mem_filter, List.mem_range, decide_eq_true_eq]; exact ⟨hj, hm⟩, rfl⟩
theorem prevs_leads {f : Fn} {S : List Nat} {T : Nat → Nat} (_hB : BlkOk f S T) {j : Nat} (hj : j < S.length) {q : Nat} (hq : q ∈ behind (insD f (T j - 1)) (T j - 1)) : ((j : Nat) : Int) ∈ prevs f S T (rank S q) :=
  (prevs_mem _).2 (Or.inr ⟨j, hj, rfl, (nxI_mem f S (T j) _).2 ⟨q, hq, rfl⟩⟩)
theorem from_exists {P : List Fn} {f : Fn} (ok : FlowOk P f) {S : List Nat} {T : Nat → Nat} (hB : BlkOk f S T) (L : List Int) {b : Nat} (hb : b < S.length) : ∃ l, FromR f S T L b l := by
  have key : ∀ pc, Way f 63 pc → ∀ i, InBlk S T pc i → ∃ l, FromR f S T L i l := by
    intro pc hw
    induction hw with
    | start _ =>
      intro i hi
      obtain ⟨hl, h0⟩ := hB.starts.first
      have : i = 0 := by
        have h1 := hB.start hB.starts.zero
        rw [rank_zero] at h1
        exact hB.one hi h1
      subst this
      have hm : (-1 : Int) ∈ prevs f S T 0 := (prevs_mem _).2 (Or.inl ⟨rfl, rfl⟩)
      rcases hp : prevs f S T 0 with _ | ⟨a, t⟩
      · rw [hp] at hm; simp at hm
      · cases t with
        | nil => rw [hp] at hm; have : a = -1 := (by simpa using hm : (-1 : Int) = a).symm
                 exact ⟨_, .first (by rw [hp, this])⟩
        | cons c t => exact ⟨_, .joins (by rw [hp]; simp)⟩
    | @step pc q hpc hw _ ht ih =>
      intro i hi
      obtain ⟨j, hj⟩ := hB.cover ok hw
      obtain ⟨lj, hlj⟩ := ih j hj
      by_cases hl : pc = T j - 1
      · obtain ⟨hj', a1, a2⟩ := hj
        rw [hl] at ht
        have hq := (hB.ends j hj').leads ok hB.starts (hB.starts.reach ok (List.getElem_mem hj')).1 ht
        have e : i = rank S q := hB.one hi (hB.start hq)
        have hm := prevs_leads hB hj' ht
        rw [← e] at hm
        rcases hp : prevs f S T i with _ | ⟨a, t⟩
        · rw [hp] at hm; simp at hm
        · cases t with
          | nil => rw [hp] at hm; have : a = (j : Int) := (by simpa using hm : (j : Int) = a).symm
                   exact ⟨_, .one (by rw [hp, this]) hlj⟩
          | cons c t => exact ⟨_, .joins (by rw [hp]; simp)⟩
      · have hop := hB.mid hj hl
        rw [behind_on _ _ hop] at ht
        have : q = pc + 1 := by simpa using ht
        subst this
        obtain ⟨hj', a1, a2⟩ := hj
        have : i = j := hB.one hi ⟨hj', by omega, by omega⟩
        subst this
        exact ⟨lj, hlj⟩
  have hr := hB.starts.reach ok (List.getElem_mem hb)
  exact key S[b] hr.1 b ⟨hb, Nat.le_refl _, (hB.ends b hb).lt⟩
noncomputable def fromR (f : Fn) (S : List Nat) (T : Nat → Nat) (L : List Int) (b : Nat) : List Int := by
  classical exact if h : ∃ l, FromR f S T L b l then h.choose else []
theorem fromR_eq {f : Fn} {S : List Nat} {T : Nat → Nat} {L : List Int} {b : Nat} {l : List Int} (h : FromR f S T L b l) : fromR f S T L b = l := by
  unfold fromR
  rw [dif_pos ⟨l, h⟩]
  exact FromR.unique (Exists.choose_spec (⟨l, h⟩ : ∃ l, FromR f S T L b l)) h
theorem fromR_is {P : List Fn} {f : Fn} (ok : FlowOk P f) {S : List Nat} {T : Nat → Nat} (hB : BlkOk f S T) (L : List Int) {b : Nat} (hb : b < S.length) : FromR f S T L b (fromR f S T L b) := by
  obtain ⟨l, hl⟩ := from_exists ok hB L hb
  rw [fromR_eq hl]; exact hl
noncomputable def behR (f : Fn) (S : List Nat) (T : Nat → Nat) (L : List Int) (z : Int) : List Int := if z = -1 then parR f.params else onR f (S.getD z.toNat 0) (T z.toNat - S.getD z.toNat 0) (fromR f S T L z.toNat)
end Go.Proofs.YtldbmdgpdolaaaaDoor
namespace Go.Proofs.YtldbmdgpdolaaaaDoor
open Go Go.RowKit

structure SsaFn (w : World) (P : List Fn) (f : Fn) (S : List Nat) (T : Nat → Nat) (L : List Int) (pv cv bv lv : Value) : Prop where
  prog : ProgVal w pv P
  mem : f ∈ P
  code : ∃ cb co ccap, cv = .slice (some ⟨cb, co, none⟩) f.code.length ccap ∧ f.code.length ≤ ccap ∧ ccap ≤ 9223372036854775807 ∧ ∀ q, q < f.code.length → insAt w cb (co + q * 5) (insD f q)
  blocks : ∃ gB VV, bv = .slice (some ⟨gB, 0, none⟩) S.length S.length ∧ BlkRow w gB S.length (fun i => ((S.getD i 0 : Nat) : Int)) (fun i => ((T i : Nat) : Int)) VV ∧ ∀ i, i < S.length → IntsVal w (VV (2 * i + 1)) (prevs f S T i)
  ok : BlkOk f S T
  live : IntsVal w lv L
  lspec : LiveSpec P f L
  flow : FlowOk P f
theorem SsaFn.below {w w' : World} {P : List Fn} {f : Fn} {S : List Nat} {T : Nat → Nat} {L : List Int} {pv cv bv lv : Value} (h : SsaFn w P f S T L pv cv bv lv) (hb : Below w.heap.size w w') : SsaFn w' P f S T L pv cv bv lv := by
  obtain ⟨cb, co, ccap, e, h1, h2, h3⟩ := h.code
  obtain ⟨gB, VV, e2, h4, h5⟩ := h.blocks
  exact ⟨h.prog.keeps (keeps_below hb), h.mem, ⟨cb, co, ccap, e, h1, h2, fun q hq => (h3 q hq).keeps (keeps_below hb)⟩, ⟨gB, VV, e2, ownsRow_below h4 hb, fun i hi => (h5 i hi).keeps (keeps_below hb)⟩, h.ok, h.live.keeps (keeps_below hb), h.lspec, h.flow⟩
def fnV (f : Fn) (pv cv bv lv : Value) : Array Value := #[pv, .int .i64 f.params, cv, bv, lv]
def zero12 : List Value := [.int .i64 0, .int .i64 0, .int .i64 0, .int .i64 0, .int .i64 0, .int .i64 0, .int .i64 0, .int .i64 0, .int .i64 0, .int .i64 0, .int .i64 0, .int .i64 0]
theorem infoRg : (Tryd.prog.info? 108).map (·.size) = some 12 := by kernel_rfl
theorem infoRgL {l : List Int} (h : l.length = 12) : (Tryd.prog.info? 108).map (·.size) = some (i64s l).toArray.size := by
  have : (i64s l).toArray.size = 12 := by simp [i64s, h]
  rw [this]; exact infoRg
theorem oneI64 (l : List Int) : (i64s l).toArray.all (·.oneCell') = true := by
  rw [Array.all_eq_true_iff_forall_mem]
  intro v hv
  obtain ⟨z, -, rfl⟩ := List.mem_map.1 (show v ∈ (l.map (Value.int .i64)) by simpa [i64s] using hv)
  rfl
theorem bit_downS (m u : Nat) (hm : m < 4096) : bits .and .i64 ((m : Int) / 2 ^ u) 1 = if m.testBit u = true then 1 else 0 := by
  have e : ((m : Int) / 2 ^ u) = ((m / 2 ^ u : Nat) : Int) := by rw [Int.natCast_ediv, Int.natCast_pow]; rfl
  have hd : m / 2 ^ u < 65536 := Nat.lt_of_le_of_lt (Nat.div_le_self _ _) (by omega)
  have h1 := bits_and_nat (m / 2 ^ u) 1 hd (by omega)
  rw [e]
  refine h1.trans ?_
  rw [Nat.and_one_is_mod, Nat.testBit_eq_decide_div_mod_eq]
  simp only [decide_eq_true_eq]
  split <;> omega
theorem heap_alloc3_newS (w : World) (o o' o'' : Obj) : (((w.alloc o).alloc o').alloc o'').heap[w.heap.size + 1 + 1]? = some o'' := by
  have := heap_alloc_last ((w.alloc o).alloc o') o''
  rw [World.size_alloc, World.size_alloc] at this
  exact this
theorem belowSK {B g : Nat} {w0 w : World} (hb : Below B w0 w) (hBg : B ≤ g) (cs : Array Value) : Below B w0 (w.setRow g cs) :=
  hb.trans ⟨rfl, rfl, rfl, by simp [World.setRow], fun i hi => setRow_other _ _ _ _ (by omega)⟩
set_option maxRecDepth 100000 in
theorem makesS_any (P : List Fn) (x : Ins) (w : World) (ht : TabOk w) (hx : InsOk P x) :
    Calls Tryd.prog 78 #[x.val] w fun e w' => e = .returned (.bool (setsB x.op)) ∧ Below w.heap.size w w' := by
  obtain ⟨op, dst, a, b', imm⟩ := x
  obtain ⟨o1, o2, d0, d1, _, _, _, _, _⟩ := hx
  dsimp only at o1 o2 d0 d1
  unfold Ins.val
  dsimp only
  have hs := sets_has op o1 o2
  have hta : ∀ o, TabOk (w.alloc o) := fun o => ht.below ((Below.refl _ _).alloc (Nat.le_refl _) _)
  cases h : setsB op
  · rw [h] at hs
    clear h ht
    simp only [Bool.not_false] at hs
    have hs2 : (bits .and .i64 (hasOf op) 1 != 0) = false := by simpa using hs
    go_enter Tryd.func78, Tryd.ntmps78
    go_wp2_with (go_at_call 80; refine (has_any _ _ (hta _)).mono ?_; rintro e w' ⟨rfl, rfl⟩)
    go_ret
    exact ⟨rfl, (Below.refl _ _).alloc (Nat.le_refl _) _⟩
  · rw [h] at hs
    clear h ht
    simp only [Bool.not_true] at hs
    have hs2 : (bits .and .i64 (hasOf op) 1 != 0) = true := by simpa using hs
    go_enter Tryd.func78, Tryd.ntmps78
    go_wp2_with (go_at_call 80; refine (has_any _ _ (hta _)).mono ?_; rintro e w' ⟨rfl, rfl⟩)
    go_ret
    exact ⟨rfl, (Below.refl _ _).alloc (Nat.le_refl _) _⟩
theorem madeAt_any (pc : Nat) (w : World) (h : pc ≤ 1000) : Calls Tryd.prog 79 #[.int .i64 pc] w fun e w' => e = .returned (.int .i64 (madeI pc)) ∧ w' = w := by
  have h1 : IntKind.i64.wrap (12 + (pc : Int)) = madeI pc := wrap_fits _ (by omega) (by omega)
  have h2 : wrap64 (12 + (pc : Int)) = madeI pc := (wrap64_small _ (by omega) (by omega)).trans rfl
  go_enter Tryd.func79, Tryd.ntmps79
  go_wp2
  go_ret
  exact ⟨rfl, rfl⟩
theorem phiAt_any (b r : Nat) (w : World) (hb : b ≤ 1000) (hr : r ≤ 1000) : Calls Tryd.prog 77 #[.int .i64 b, .int .i64 r] w fun e w' => e = .returned (.int .i64 (phiI b r)) ∧ w' = w := by
  obtain ⟨c, hc⟩ : ∃ c : Int, c = (b : Int) * 12 := ⟨_, rfl⟩
  have h1 : wrap64 ((b : Int) * 12) = c := by rw [hc]; exact wrap64_small _ (by omega) (by omega)
  have h2 : wrap64 (52 + c) = 52 + c := wrap64_small _ (by omega) (by omega)
  have h3 : wrap64 (52 + c + (r : Int)) = phiI b r := by rw [hc]; exact wrap64_small _ (by omega) (by omega)
  clear hc
  go_enter Tryd.func77, Tryd.ntmps77
  go_wp2
  go_ret
  exact ⟨rfl, rfl⟩
set_option maxRecDepth 100000 in
theorem joinsS_any {P : List Fn} {f : Fn} {S : List Nat} {T : Nat → Nat} {L : List Int} {pv cv bv lv : Value} (w : World) (h : SsaFn w P f S T L pv cv bv lv) (b : Nat) (hb : b < S.length) :
    Calls Tryd.prog 75 #[.agg (fnV f pv cv bv lv), .int .i64 b] w fun e w' => e = .returned (.bool (decide (1 < (prevs f S T b).length))) ∧ Below w.heap.size w w' := by
  obtain ⟨gB, VV, rfl, h1, h2⟩ := h.blocks
  obtain ⟨ao, pb, po, n, cap, e, hl, -, -, hcp⟩ := ints_get (h2 b hb)
  have hS : S.length ≤ 1000 := by have := starts_len h.flow h.ok.starts; have := h.flow.ok.len2; omega
  have HB : Hid (Below w.heap.size w (w.alloc (.cells (fnV f pv cv (.slice (some ⟨gB, 0, none⟩) S.length S.length) lv) 56))) := (Below.refl _ _).alloc (Nat.le_refl _) _
  have k3 : (w.alloc (.cells (fnV f pv cv (.slice (some ⟨gB, 0, none⟩) S.length S.length) lv) 56)).cell? ⟨w.heap.size, 3, none⟩ = some (.slice (some ⟨gB, 0, none⟩) S.length S.length) := by rw [cell_of_row _ _ _ _ _ _ (heap_alloc_last w _)]; rfl
  have kp := keeps_below HB.out _ _ (blk_prev h1 b hb)
  rw [e] at kp
  have hbI : (b : Int) < (S.length : Int) := by omega
  by_cases hj : 1 < (prevs f S T b).length
  · rw [decide_eq_true hj]
    have hn : (1 : Int) < (n : Int) := by omega
    have hn2 : 1 < n := by omega
    clear h1 h2 h e hl hcp hj
    unfold fnV at *
    generalize S.length = SL at *
    go_enter Tryd.func75, Tryd.ntmps75
    go_upto_region 1 with fail
    generalize (w.alloc (.cells #[pv, .int .i64 f.params, cv, .slice (some ⟨gB, 0, none⟩) SL SL, lv] 56)) = W1 at *
    go_wp2
    go_ret
    exact ⟨rfl, HB.out⟩
  · rw [decide_eq_false hj]
    have hn : ¬ (1 : Int) < (n : Int) := by omega
    have hn2 : ¬ 1 < n := by omega
    clear h1 h2 h e hl hcp hj
    unfold fnV at *
    generalize S.length = SL at *
    go_enter Tryd.func75, Tryd.ntmps75
    go_upto_region 1 with fail
    generalize (w.alloc (.cells #[pv, .int .i64 f.params, cv, .slice (some ⟨gB, 0, none⟩) SL SL, lv] 56)) = W1 at *
    go_wp2
    go_ret
    exact ⟨rfl, HB.out⟩
end Go.Proofs.YtldbmdgpdolaaaaDoor
namespace Go.Proofs.YtldbmdgpdolaaaaDoor
open Go Go.RowKit

def upto (a b : List Int) (q : Nat) : List Int := a.take q ++ b.drop q
theorem upto_zero (a b : List Int) : upto a b 0 = b := by simp [upto]
theorem upto_all {a b : List Int} (ha : a.length = 12) (hb : b.length = 12) : upto a b 12 = a := by simp [upto, List.take_of_length_le, ha, List.drop_eq_nil_of_le, hb]
theorem upto_len {a b : List Int} (ha : a.length = 12) (hb : b.length = 12) {q : Nat} (hq : q ≤ 12) : (upto a b q).length = 12 := by simp [upto, ha, hb]; omega
theorem upto_set {a b : List Int} (ha : a.length = 12) (hb : b.length = 12) {q : Nat} (hq : q < 12) : (upto a b q).set q (a.getD q 0) = upto a b (q + 1) := by
  unfold upto
  have h1 : (a.take q).length = q := by rw [List.length_take]; omega
  rw [List.set_append_right _ _ (by omega), h1, Nat.sub_self, List.drop_eq_getElem_cons (show q < b.length by omega), List.set_cons_zero, List.take_succ_eq_append_getElem (show q < a.length by omega), List.append_assoc]
  simp [List.getD, show q < a.length by omega]
theorem upto_same {a b : List Int} (ha : a.length = 12) (hb : b.length = 12) {q : Nat} (hq : q < 12) (h : a.getD q 0 = b.getD q 0) : upto a b q = upto a b (q + 1) := by
  unfold upto
  rw [List.drop_eq_getElem_cons (show q < b.length by omega), List.take_succ_eq_append_getElem (show q < a.length by omega), List.append_assoc]
  have e1 : a.getD q 0 = a[q]'(by omega) := by simp [List.getD, show q < a.length by omega]
  have e2 : b.getD q 0 = b[q]'(by omega) := by simp [List.getD, show q < b.length by omega]
  rw [e1, e2] at h
  rw [h]; rfl
set_option maxRecDepth 100000 in
set_option maxHeartbeats 2000000 in
theorem wantedS_any {P : List Fn} {f : Fn} {S : List Nat} {T : Nat → Nat} {L : List Int} {pv cv bv lv : Value} (w : World) (h : SsaFn w P f S T L pv cv bv lv) (l : List Int) (hl : l.length = 12) (pc : Nat) (hpc : pc < f.code.length) (hw : Way f 63 pc) :
    Calls Tryd.prog 47 #[.agg (fnV f pv cv bv lv), .agg (i64s l).toArray, .int .i64 pc] w fun e w' => e = .returned (.agg (i64s (wantR (mkL L pc) l)).toArray) ∧ Below w.heap.size w w' := by
  obtain ⟨m, hm, hml⟩ : ∃ m : Nat, m < 4096 ∧ L.getD pc 0 = (m : Int) := by
    rcases h.lspec.2 pc hpc with ⟨h1, -⟩ | ⟨-, m, h1, h2, -⟩
    · exact absurd hw h1
    · exact ⟨m, h1, h2⟩
  have hmk : mkL L pc = m := by unfold mkL; rw [hml]; rfl
  rw [hmk]
  obtain ⟨ao, lb, lo, n, cap, e, hll, ha, hcl, hcp⟩ := ints_get h.live
  have hLl := h.lspec.1
  have hpn : pc < n := by omega
  obtain rfl := ha (by omega)
  have cm := hcl pc hpn
  rw [hml] at cm
  subst e
  have HCM : Hid (∀ W, Below w.heap.size w W → W.cell? ⟨lb, lo + pc, none⟩ = some (.int .i64 (m : Int))) := fun W hb => keeps_below hb _ _ cm
  have hpI : (pc : Int) < (n : Int) := by omega
  have HWR : Hid (wantR m l = wantR m l ∧ (wantR m l).length = 12) := ⟨rfl, wantR_len m l⟩
  have HS : Hid (∀ q, q < 12 → m.testBit q = false → (i64s (upto (wantR m l) l q)).set q (.int .i64 (-1)) = i64s (upto (wantR m l) l (q + 1))) := fun q hq hb => by
    rw [i64s_set, ← upto_set (wantR_len m l) hl hq, wantR_get m l hq, if_neg (by rw [hb]; decide)]
  have HK : Hid (∀ q, q < 12 → m.testBit q = true → upto (wantR m l) l q = upto (wantR m l) l (q + 1)) := fun q hq hb => upto_same (wantR_len m l) hl hq (by rw [wantR_get m l hq, if_pos hb])
  have HL : Hid (∀ q, q ≤ 12 → (i64s (upto (wantR m l) l q)).length = 12) := fun q hq => by simp [i64s, upto_len (wantR_len m l) hl hq]
  have HBD : Hid (∀ q, bits .and .i64 ((m : Int) / 2 ^ q) 1 = if m.testBit q = true then 1 else 0) := fun q => bit_downS m q hm
  have HZ : Hid (upto (wantR m l) l 0 = l) := upto_zero _ _
  have HA : Hid (upto (wantR m l) l 12 = wantR m l) := upto_all (wantR_len m l) hl
  have i12 := infoRgL (wantR_len m l)
  have o12 := oneI64 (wantR m l)
  have hlz : zero12.toArray.size = (i64s (wantR m l)).toArray.size := by simp [zero12, i64s, wantR_len]
  have hpcN : ¬ (pc : Int) < 0 := by omega
  unfold fnV
  clear h hml hmk hll hcl hcp ha hLl hw hpc hm cm
  generalize hdd : i64s l = DD at *
  go_enter Tryd.func47, Tryd.ntmps47
  go_upto_region 1 with fail
  rw [show (#[.int .i64 0, .int .i64 0, .int .i64 0, .int .i64 0, .int .i64 0, .int .i64 0, .int .i64 0, .int .i64 0, .int .i64 0, .int .i64 0, .int .i64 0, .int .i64 0] : Array Value) = zero12.toArray from rfl]
  have r0 : (((w.alloc (.cells #[pv, .int .i64 f.params, cv, bv, .slice (some ⟨lb, lo, none⟩) n cap] 56)).alloc (.cells DD.toArray 108)).alloc (.cells zero12.toArray 108)).heap[w.heap.size + 1]? = some (.cells DD.toArray 108 (0, 0)) := heap_alloc_old _ _ (by simp) |>.trans (heap_alloc2_new _ _ _)
  have r1 : (((w.alloc (.cells #[pv, .int .i64 f.params, cv, bv, .slice (some ⟨lb, lo, none⟩) n cap] 56)).alloc (.cells DD.toArray 108)).alloc (.cells zero12.toArray 108)).heap[w.heap.size + 1 + 1]? = some (.cells zero12.toArray 108 (0, 0)) := heap_alloc3_newS _ _ _ _
  have k4 : (((w.alloc (.cells #[pv, .int .i64 f.params, cv, bv, .slice (some ⟨lb, lo, none⟩) n cap] 56)).alloc (.cells DD.toArray 108)).alloc (.cells zero12.toArray 108)).cell? ⟨w.heap.size, 4, none⟩ = some (.slice (some ⟨lb, lo, none⟩) n cap) := cell_alloc (cell_alloc (by rw [cell_of_row _ _ _ _ _ _ (heap_alloc_last w _)]; rfl) _) _
  have HB0 : Hid (Below w.heap.size w (((w.alloc (.cells #[pv, .int .i64 f.params, cv, bv, .slice (some ⟨lb, lo, none⟩) n cap] 56)).alloc (.cells DD.toArray 108)).alloc (.cells zero12.toArray 108))) := (((Below.refl _ _).alloc (Nat.le_refl _) _).alloc (by simp) _).alloc (by simp; omega) _
  generalize (((w.alloc (.cells #[pv, .int .i64 f.params, cv, bv, .slice (some ⟨lb, lo, none⟩) n cap] 56)).alloc (.cells DD.toArray 108)).alloc (.cells zero12.toArray 108)) = W0 at *
  go_upto_region 2 with fail
  go_loopw [7, 8] (fun _ i wr => ∃ q : Nat, q ≤ 12 ∧ i = .int .i64 q ∧ wr.heap[w.heap.size + 1]? = some (.cells (i64s (upto (wantR m l) l q)).toArray 108 (0, 0)) ∧ wr.heap[w.heap.size + 1 + 1]? = some (.cells zero12.toArray 108 (0, 0)) ∧ wr.cell? ⟨w.heap.size, 4, none⟩ = some (.slice (some ⟨lb, lo, none⟩) n cap) ∧ Below w.heap.size w wr) (fun _ i _ => 12 - (intOf i).toNat)
  case atStart => exact ⟨0, by omega, rfl, by rw [HZ.out, hdd]; exact r0, r1, k4, HB0.out⟩
  case round =>
    clear r0 r1 k4 HB0
    obtain ⟨q, hq, rfl, g0, g1, g4, hbr⟩ := hrel
    have HBR : Hid (Below w.heap.size w wr) := hbr
    have cm := HCM.out wr hbr
    clear hbr
    by_cases hlt : q < 12
    · have hqI : (q : Int) < 12 := by omega
      have hqn : ¬ (q : Int) < 0 := by omega
      have hq64 : (q : Int) < 64 := by omega
      have hbd := HBD.out q
      cases hb : m.testBit q
      · rw [hb, if_neg (by decide)] at hbd
        have hS := HS.out q hlt hb
        obtain ⟨y, hy⟩ : ∃ y, wr.cell? ⟨w.heap.size + 1, q, none⟩ = some y := ⟨(i64s (upto (wantR m l) l q))[q]'(by rw [HL.out q hq]; omega), by rw [cell_of_row _ _ _ _ _ _ g0]; simp⟩
        have hf : wr.frozen? ⟨w.heap.size + 1, q, none⟩ = false := frozen_of_row _ _ _ _ _ g0
        have HN : Hid ((wr.setCell ⟨w.heap.size + 1, q, none⟩ (.int .i64 (-1))).heap[w.heap.size + 1]? = some (.cells (i64s (upto (wantR m l) l (q + 1))).toArray 108 (0, 0))) := by show _ = _; rw [heap_setCell_same _ _ _ _ _ _ g0, List.setIfInBounds_toArray, hS]
        have HN1 : Hid ((wr.setCell ⟨w.heap.size + 1, q, none⟩ (.int .i64 (-1))).heap[w.heap.size + 1 + 1]? = some (.cells zero12.toArray 108 (0, 0))) := (heap_setCell_other _ _ _ _ (by simp)).trans g1
        have HN4 : Hid ((wr.setCell ⟨w.heap.size + 1, q, none⟩ (.int .i64 (-1))).cell? ⟨w.heap.size, 4, none⟩ = some (.slice (some ⟨lb, lo, none⟩) n cap)) := (World.cell?_of_block (heap_setCell_other _ _ _ _ (by simp))).trans g4
        have HNB : Hid (Below w.heap.size w (wr.setCell ⟨w.heap.size + 1, q, none⟩ (.int .i64 (-1)))) := by show Below _ _ _; exact HBR.out.setCell (by simp) _
        clear hS hb g0 g1
        go_wp2
        go_roundw
        case rel => exact ⟨q + 1, by omega, by go_num, HN.out, HN1.out, HN4.out, HNB.out⟩
        case measure => simp [intOf]; omega
      · rw [hb, if_pos rfl] at hbd
        have HN : Hid (wr.heap[w.heap.size + 1]? = some (.cells (i64s (upto (wantR m l) l (q + 1))).toArray 108 (0, 0))) := by show _ = _; rw [← HK.out q hlt hb]; exact g0
        clear hb
        go_wp2
        go_roundw
        case rel => exact ⟨q + 1, by omega, by go_num, HN.out, g1, g4, HBR.out⟩
        case measure => simp [intOf]; omega
    · obtain rfl : q = 12 := by omega
      rw [HA.out] at g0
      obtain ⟨RR, hRR⟩ : ∃ R, R = i64s (wantR m l) := ⟨_, rfl⟩
      rw [← hRR] at g0 i12 o12 hlz
      have HRR : Hid (RR = i64s (wantR m l)) := hRR
      clear hRR
      go_wp2_with (first
        | (refine wpList_load_row rfl 108 (.tmp 4) rfl _ rfl _ _ _ _ g0 Tryd.underlying108 rfl i12 ?_)
        | (refine wpList_store_row rfl 108 (.tmp 6) _ rfl _ RR.toArray rfl rfl _ _ g1 i12 hlz o12 ?_))
      refine bodyPost_ret (results_cell_row rfl _ _ (w.heap.size + 1 + 1) 108 RR.toArray (0, 0) _ rfl (setRow_heap _ _ _ _ _ _ g1) Tryd.underlying108 rfl i12) rfl ⟨by rw [HRR.out], ?_⟩
      exact belowSK HBR.out (by omega) _
end Go.Proofs.YtldbmdgpdolaaaaDoor
namespace Go.Proofs.YtldbmdgpdolaaaaDoor
open Go Go.RowKit

theorem infoInsS : (Tryd.prog.info? 42).map (·.size) = some 5 := by kernel_rfl
set_option maxRecDepth 100000 in
set_option maxHeartbeats 4000000 in
theorem onS_any {P : List Fn} {f : Fn} {S : List Nat} {T : Nat → Nat} {L : List Int} {pv cv bv lv : Value} (w : World) (h : SsaFn w P f S T L pv cv bv lv) (ht : TabOk w) (l : List Int) (hl : l.length = 12) (fr t : Nat) (hft : fr ≤ t) (htl : t ≤ f.code.length) :
    Calls Tryd.prog 49 #[.agg (fnV f pv cv bv lv), .agg (i64s l).toArray, .int .i64 fr, .int .i64 t] w fun e w' => e = .returned (.agg (i64s (onR f fr (t - fr) l)).toArray) ∧ Below w.heap.size w w' := by
  obtain ⟨cb, co, ccap, rfl, hc1, hc2, hc3⟩ := h.code
  have HIN : Hid (∀ W, Below w.heap.size w W → ∀ q, q < f.code.length → W.rangeAt cb (co + q * 5) [.int .i64 (insD f q).op, .int .i64 (insD f q).dst, .int .i64 (insD f q).a, .int .i64 (insD f q).b, .int .i64 (insD f q).imm]) := fun W hb q hq i u hu => by
    obtain ⟨i0, i1, i2, i3, i4⟩ := (hc3 q hq).keeps (keeps_below hb)
    have hi : i < 5 := (List.getElem?_eq_some_iff.1 hu).1
    match i, hi, hu with
    | 0, _, hu => cases hu; exact i0
    | 1, _, hu => cases hu; exact i1
    | 2, _, hu => cases hu; exact i2
    | 3, _, hu => cases hu; exact i3
    | 4, _, hu => cases hu; exact i4
  have HIO : Hid (∀ q, q < f.code.length → InsOk P (insD f q)) := fun q hq => (h.flow.insD hq).1
  have HTB : Hid (∀ W, Below w.heap.size w W → TabOk W) := fun W hb => ht.below hb
  have h1000 : f.code.length ≤ 1000 := by have := h.flow.ok.len2; omega
  have HLEN : Hid (∀ n, (onR f fr n l).length = 12) := fun n => by rw [onR_len]; exact hl
  have HSN : Hid (∀ n, onR f fr (n + 1) l = on1 f (fr + n) (onR f fr n l)) := fun n => onR_snoc f n fr l
  have HZ : Hid (onR f fr 0 l = l) := rfl
  have i12 := infoRgL (HLEN.out (t - fr))
  have o12 := oneI64 (onR f fr (t - fr) l)
  have hlz : zero12.toArray.size = (i64s (onR f fr (t - fr) l)).toArray.size := by simp [zero12, i64s, HLEN.out]
  unfold fnV
  clear h ht hc3
  generalize hdd : i64s l = DD at *
  generalize hCL : f.code.length = CL at *
  have HCL : Hid (f.code.length = CL) := hCL
  clear hCL
  go_enter Tryd.func49, Tryd.ntmps49
  go_upto_region 1 with fail
  rw [show (#[.int .i64 0, .int .i64 0, .int .i64 0, .int .i64 0, .int .i64 0, .int .i64 0, .int .i64 0, .int .i64 0, .int .i64 0, .int .i64 0, .int .i64 0, .int .i64 0] : Array Value) = zero12.toArray from rfl]
  have r0 : (((w.alloc (.cells #[pv, .int .i64 f.params, .slice (some ⟨cb, co, none⟩) CL ccap, bv, lv] 56)).alloc (.cells DD.toArray 108)).alloc (.cells zero12.toArray 108)).heap[w.heap.size + 1]? = some (.cells DD.toArray 108 (0, 0)) := heap_alloc_old _ _ (by simp) |>.trans (heap_alloc2_new _ _ _)
  have r1 : (((w.alloc (.cells #[pv, .int .i64 f.params, .slice (some ⟨cb, co, none⟩) CL ccap, bv, lv] 56)).alloc (.cells DD.toArray 108)).alloc (.cells zero12.toArray 108)).heap[w.heap.size + 1 + 1]? = some (.cells zero12.toArray 108 (0, 0)) := heap_alloc3_newS _ _ _ _
  have k2 : (((w.alloc (.cells #[pv, .int .i64 f.params, .slice (some ⟨cb, co, none⟩) CL ccap, bv, lv] 56)).alloc (.cells DD.toArray 108)).alloc (.cells zero12.toArray 108)).cell? ⟨w.heap.size, 2, none⟩ = some (.slice (some ⟨cb, co, none⟩) CL ccap) := cell_alloc (cell_alloc (by rw [cell_of_row _ _ _ _ _ _ (heap_alloc_last w _)]; rfl) _) _
  have HB0 : Hid (Below w.heap.size w (((w.alloc (.cells #[pv, .int .i64 f.params, .slice (some ⟨cb, co, none⟩) CL ccap, bv, lv] 56)).alloc (.cells DD.toArray 108)).alloc (.cells zero12.toArray 108))) := (((Below.refl _ _).alloc (Nat.le_refl _) _).alloc (by simp) _).alloc (by simp; omega) _
  generalize (((w.alloc (.cells #[pv, .int .i64 f.params, .slice (some ⟨cb, co, none⟩) CL ccap, bv, lv] 56)).alloc (.cells DD.toArray 108)).alloc (.cells zero12.toArray 108)) = W0 at *
  go_upto_region 2 with fail
  go_loopw [9, 10] (fun i _ wr => ∃ q : Nat, fr ≤ q ∧ q ≤ t ∧ i = .int .i64 q ∧ wr.heap[w.heap.size + 1]? = some (.cells (i64s (onR f fr (q - fr) l)).toArray 108 (0, 0)) ∧ wr.heap[w.heap.size + 1 + 1]? = some (.cells zero12.toArray 108 (0, 0)) ∧ wr.cell? ⟨w.heap.size, 2, none⟩ = some (.slice (some ⟨cb, co, none⟩) CL ccap) ∧ Below w.heap.size w wr) (fun i _ _ => t - (intOf i).toNat)
  case atStart => exact ⟨fr, Nat.le_refl _, hft, rfl, by rw [Nat.sub_self, HZ.out, hdd]; exact r0, r1, k2, HB0.out⟩
  case round =>
    clear r0 r1 k2 HB0
    obtain ⟨q, hq0, hq, rfl, g0, g1, g2, hbr⟩ := hrel
    have HBR : Hid (Below w.heap.size w wr) := hbr
    by_cases hlt : q < t
    · have hqI : (q : Int) < (t : Int) := by omega
      have hqC : (q : Int) < (CL : Int) := by omega
      have hq1000 : q ≤ 1000 := by omega
      have hio := HIO.out q (by omega)
      have HRG := HIN.out wr hbr q (by omega)
      have hn : q + 1 - fr = (q - fr) + 1 := by omega
      have HN1 : Hid (onR f fr (q + 1 - fr) l = if setsB (insD f q).op = true then (onR f fr (q - fr) l).set (insD f q).dst.toNat (madeI q) else onR f fr (q - fr) l) := by
        show _ = _
        rw [hn, HSN.out (q - fr), show fr + (q - fr) = q by omega]; rfl
      have HLQ := HLEN.out (q - fr)
      obtain ⟨dn, hdn⟩ : ∃ n : Nat, (insD f q).dst = (n : Int) := ⟨(insD f q).dst.toNat, by have := hio.dst0; omega⟩
      have hd12 : dn < 12 := by have := hio.dst1; omega
      have HDN : Hid ((insD f q).dst.toNat = dn) := by show _ = _; rw [hdn, Int.toNat_natCast]
      have hmk := fun W (hb : Below w.heap.size w W) => makesS_any P (insD f q) W (HTB.out W hb) hio
      rw [hdn] at HRG
      have hval : (insD f q).val = .agg #[.int .i64 (insD f q).op, .int .i64 (dn : Int), .int .i64 (insD f q).a, .int .i64 (insD f q).b, .int .i64 (insD f q).imm] := by unfold Ins.val; rw [hdn]
      rw [hval] at hmk
      have HMK : Hid (∀ W, Below w.heap.size w W → Calls Tryd.prog 78 #[.agg #[.int .i64 (insD f q).op, .int .i64 (dn : Int), .int .i64 (insD f q).a, .int .i64 (insD f q).b, .int .i64 (insD f q).imm]] W fun e w' => e = .returned (.bool (setsB (insD f q).op)) ∧ Below W.heap.size W w') := hmk
      have HBX : Hid (Below w.heap.size w (wr.alloc (.cells #[.int .i64 (insD f q).op, .int .i64 (dn : Int), .int .i64 (insD f q).a, .int .i64 (insD f q).b, .int .i64 (insD f q).imm] 42))) := HBR.out.alloc HBR.out.size _
      have G0 : Hid ((wr.alloc (.cells #[.int .i64 (insD f q).op, .int .i64 (dn : Int), .int .i64 (insD f q).a, .int .i64 (insD f q).b, .int .i64 (insD f q).imm] 42)).heap[w.heap.size + 1]? = some (.cells (i64s (onR f fr (q - fr) l)).toArray 108 (0, 0))) := (heap_alloc_old _ _ (lt_of_block g0)).trans g0
      have G1 : Hid ((wr.alloc (.cells #[.int .i64 (insD f q).op, .int .i64 (dn : Int), .int .i64 (insD f q).a, .int .i64 (insD f q).b, .int .i64 (insD f q).imm] 42)).heap[w.heap.size + 1 + 1]? = some (.cells zero12.toArray 108 (0, 0))) := (heap_alloc_old _ _ (lt_of_block g1)).trans g1
      have G2 : Hid ((wr.alloc (.cells #[.int .i64 (insD f q).op, .int .i64 (dn : Int), .int .i64 (insD f q).a, .int .i64 (insD f q).b, .int .i64 (insD f q).imm] 42)).cell? ⟨w.heap.size, 2, none⟩ = some (.slice (some ⟨cb, co, none⟩) CL ccap)) := cell_alloc g2 _
      clear hmk hval hdn hio hn hbr
      generalize (insD f q).op = op at *
      generalize (insD f q).a = xa at *
      generalize (insD f q).b = xb at *
      generalize (insD f q).imm = xi at *
      generalize onR f fr (q - fr) l = lq at *
      go_upto_region 5 with (first
        | (refine wpList_load_mid rfl _ _ rfl cb (co + q * 5) rfl [.int .i64 op, .int .i64 (dn : Int), .int .i64 xa, .int .i64 xb, .int .i64 xi] _ HRG Tryd.underlying42 rfl infoInsS ?_)
        | (refine wpList_store_row rfl _ _ _ rfl _ #[.int .i64 op, .int .i64 (dn : Int), .int .i64 xa, .int .i64 xb, .int .i64 xi] rfl rfl _ _ (heap_alloc_last wr _) infoInsS rfl rfl ?_; rw [World.setRow_alloc_new]))
      have HB1 : Hid (Below wr.heap.size wr (wr.alloc (.cells #[.int .i64 op, .int .i64 (dn : Int), .int .i64 xa, .int .i64 xb, .int .i64 xi] 42))) := (Below.refl _ _).alloc (Nat.le_refl _) _
      have rx : (wr.alloc (.cells #[.int .i64 op, .int .i64 (dn : Int), .int .i64 xa, .int .i64 xb, .int .i64 xi] 42)).heap[wr.heap.size]? = some (.cells #[.int .i64 op, .int .i64 (dn : Int), .int .i64 xa, .int .i64 xb, .int .i64 xi] 42 (0, 0)) := heap_alloc_last wr _
      generalize (wr.alloc (.cells #[.int .i64 op, .int .i64 (dn : Int), .int .i64 xa, .int .i64 xb, .int .i64 xi] 42)) = V1 at *
      generalize wr.heap.size = GX at *
      have hgw : Hid (Below w.heap.size w V1) := HBX.out
      have hMK := HMK.out V1 HBX.out
      have HDEC : Hid (∀ B : Bool, setsB op = B → Calls Tryd.prog 78 #[.agg #[.int .i64 op, .int .i64 (dn : Int), .int .i64 xa, .int .i64 xb, .int .i64 xi]] V1 fun e w' => e = .returned (.bool B) ∧ Below V1.heap.size V1 w') := fun B hB => by rw [← hB]; exact hMK
      clear hMK HMK
      cases hB : setsB op
      · have hM := HDEC.out _ hB
        have HN2 : Hid (onR f fr (q + 1 - fr) l = lq) := by show _ = _; rw [HN1.out, hB]; rfl
        clear hB HDEC HN1
        go_wp2_with (first
          | (refine wpList_load_row rfl 42 _ rfl _ rfl _ _ _ _ rx Tryd.underlying42 rfl infoInsS ?_)
          | (go_at_call 78; refine hM.mono ?_; rintro e w2 ⟨rfl, hb2⟩))
        go_roundw
        case rel => exact ⟨q + 1, by omega, by omega, by go_num, by rw [HN2.out]; exact (hb2.block _ (lt_of_block G0.out)).trans G0.out, (hb2.block _ (lt_of_block G1.out)).trans G1.out, keeps_below hb2 _ _ G2.out, HBX.out.trans (hb2.mono HBX.out.size)⟩
        case measure => simp [intOf]; omega
      · have hM := HDEC.out _ hB
        have HN2 : Hid (onR f fr (q + 1 - fr) l = lq.set dn (madeI q)) := by show _ = _; rw [HN1.out, hB, if_pos rfl, HDN.out]
        clear hB HDEC HN1
        go_upto_region 6 with (first
          | (refine wpList_load_row rfl 42 _ rfl _ rfl _ _ _ _ rx Tryd.underlying42 rfl infoInsS ?_)
          | (go_at_call 78; refine hM.mono ?_; rintro e w2 ⟨rfl, hb2⟩))
        have HB2 : Hid (Below w.heap.size w w2) := HBX.out.trans (hb2.mono HBX.out.size)
        have rx2 := (hb2.block _ (lt_of_block rx)).trans rx
        have xd : w2.cell? ⟨GX, 1, none⟩ = some (.int .i64 (dn : Int)) := by rw [cell_of_row _ _ _ _ _ _ rx2]; rfl
        have g02 := (hb2.block _ (lt_of_block G0.out)).trans G0.out
        have g12 := (hb2.block _ (lt_of_block G1.out)).trans G1.out
        have g22 := keeps_below hb2 _ _ G2.out
        have hdI : (dn : Int) < 12 := by omega
        have hdN : ¬ (dn : Int) < 0 := by omega
        clear hb2 hM rx rx2 HBX hgw HB1
        generalize hV2 : w2 = V2 at *
        clear hV2
        have hdl : dn < lq.length := by rw [HLQ]; exact hd12
        obtain ⟨y, hy⟩ : ∃ y, V2.drew.cell? ⟨w.heap.size + 1, dn, none⟩ = some y := ⟨.int .i64 lq[dn], by show V2.cell? _ = _; rw [cell_of_row _ _ _ _ _ _ g02]; simp [i64s, hdl]⟩
        have hf : V2.drew.frozen? ⟨w.heap.size + 1, dn, none⟩ = false := frozen_of_row _ _ _ _ _ g02
        have HQ : Hid ((V2.setCell ⟨w.heap.size + 1, dn, none⟩ (.int .i64 (madeI q))).drew.heap[w.heap.size + 1]? = some (.cells (i64s (lq.set dn (madeI q))).toArray 108 (0, 0))) := by show (V2.setCell _ _).heap[_]? = _; rw [heap_setCell_same _ _ _ _ _ _ g02, List.setIfInBounds_toArray, i64s_set]
        have HQ1 : Hid ((V2.setCell ⟨w.heap.size + 1, dn, none⟩ (.int .i64 (madeI q))).drew.heap[w.heap.size + 1 + 1]? = some (.cells zero12.toArray 108 (0, 0))) := (heap_setCell_other _ _ _ _ (by simp)).trans g12
        have HQ2 : Hid ((V2.setCell ⟨w.heap.size + 1, dn, none⟩ (.int .i64 (madeI q))).drew.cell? ⟨w.heap.size, 2, none⟩ = some (.slice (some ⟨cb, co, none⟩) CL ccap)) := (World.cell?_of_block (heap_setCell_other V2 _ _ _ (by simp))).trans g22
        have HQB : Hid (Below w.heap.size w (V2.setCell ⟨w.heap.size + 1, dn, none⟩ (.int .i64 (madeI q))).drew) := (HB2.out.setCell (by simp) _).drew
        clear g02 g12 g22
        refine wp_region_last (S := fun W => Below V2.heap.size V2 W) _ 5 (by kernel_rfl) (by kernel_rfl) rfl ((Below.refl _ _).drew) (fun hHeld => ?_)
        simp only [List.pop_toArray, List.dropLast]
        refine wpAnyH_take (i := 0) (v := ?_) rfl (by kernel_rfl) (by kernel_rfl) (by kernel_rfl) (fun _ _ _ h => h) (Or.inl ⟨by rfl, ?_⟩) (by assumption) ?_
        rotate_left
        · (intro W hSW; go_simp; try (with_reducible rfl))
        (try simp only [zA])
        refine wpAnyH_take (i := 1) (v := ?_) rfl (by kernel_rfl) (by kernel_rfl) (by kernel_rfl) (fun _ _ _ h => h) (Or.inl ⟨by rfl, ?_⟩) (by assumption) ?_
        rotate_left
        · (intro W hSW; have z0 := keeps_below hSW _ _ xd; go_simp; try (with_reducible rfl))
        (try simp only [Act.put])
        refine wpAnyH_take (i := 2) (v := ?_) rfl (by kernel_rfl) (by kernel_rfl) (by kernel_rfl) (fun _ _ _ h => h) (Or.inl ⟨by rfl, ?_⟩) (by assumption) ?_
        rotate_left
        · (intro W hSW; go_simp; try (with_reducible rfl))
        (try simp only [Act.put])
        refine wpAnyH_ready (rs := [3]) (by kernel_rfl) (by simp) ?_
        refine AllReadyH.cons rfl (fun K hK => ?_) AllReadyH.nil
        go_simp
        go_at_call 79
        refine (madeAt_any q _ hq1000).mono ?_
        rintro e w9 ⟨rfl, hw9⟩
        replace hw9 := hw9.symm
        subst hw9
        dsimp only
        refine hK.out _ _ hHeld (fun _ => ?_)
        clear hK K
        (try simp only [zA])
        refine wpAnyH_take (i := 4) (v := ?_) rfl (by kernel_rfl) (by kernel_rfl) (by kernel_rfl) (fun _ _ _ h => h) (Or.inl ⟨by rfl, ?_⟩) (by assumption) ?_
        rotate_left
        · (intro W hSW; go_simp; try (with_reducible rfl))
        (try simp only [zA])
        refine wpAnyH_done (by kernel_rfl) ?_ _
        refine Or.inl ?_
        clear hHeld xd
        go_simp
        go_wp2
        go_roundw
        case rel => exact ⟨q + 1, by omega, by omega, by go_num, by rw [HN2.out]; exact HQ.out, HQ1.out, HQ2.out, HQB.out⟩
        case measure => simp [intOf]; omega
    · obtain rfl : q = t := by omega
      obtain ⟨RR, hRR⟩ : ∃ R, R = i64s (onR f fr (q - fr) l) := ⟨_, rfl⟩
      rw [← hRR] at g0 i12 o12 hlz
      have HRR : Hid (RR = i64s (onR f fr (q - fr) l)) := hRR
      clear hRR hbr
      go_wp2_with (first
        | (refine wpList_load_row rfl 108 (.tmp 5) rfl _ rfl _ _ _ _ g0 Tryd.underlying108 rfl i12 ?_)
        | (refine wpList_store_row rfl 108 (.tmp 8) _ rfl _ RR.toArray rfl rfl _ _ g1 i12 hlz o12 ?_))
      refine bodyPost_ret (results_cell_row rfl _ _ (w.heap.size + 1 + 1) 108 RR.toArray (0, 0) _ rfl (setRow_heap _ _ _ _ _ _ g1) Tryd.underlying108 rfl i12) rfl ⟨by rw [HRR.out], ?_⟩
      exact belowSK HBR.out (by omega) _
end Go.Proofs.YtldbmdgpdolaaaaDoor
