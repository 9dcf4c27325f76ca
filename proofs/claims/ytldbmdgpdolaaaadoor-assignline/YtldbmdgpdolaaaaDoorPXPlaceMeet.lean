import Derived.Test.YtldbmdgpdolaaaaDoorPXPlaceMath
import Derived.Test.YtldbmdgpdolaaaaDoorPGroupP
import Derived.Deep.RegionHeld3
import Derived.Test.YtldbmdgpdolaaaaDoorPGroupA
import Derived.Test.YtldbmdgpdolaaaaDoorPGroupB
namespace Go.Proofs.YtldbmdgpdolaaaaDoor
open Go Go.RowKit

set_option maxRecDepth 100000 in
set_option maxHeartbeats 4000000 in
theorem meet_any (base g n B : Nat) (VV : Nat → Value) (LL : Nat → List Int) (l : List Int) (vl : Value) (w : World) (hm : MtAt w base g n VV LL) (hl12 : l.length ≤ 12) (hlr : ∀ z ∈ l, 0 ≤ z ∧ z < (n : Int)) (hv : OwnI w B vl l) (hgB : g < B) (hVB : ∀ s, s < n → ∀ q, (VV s).ownBlock = some q → q < B) (_hn : n ≤ 3000) (hLL : ∀ s, s < n → (LL s).length ≤ 2000000) :
    Calls Tryd.prog 40 #[.slice (some ⟨g, 0, none⟩) n n, vl] w fun e w' => e = .returned (.tuple #[]) ∧ ∃ VV', MtAt w' base g n VV' (metL2 LL l) ∧ MtTo base w w' g n VV VV' := by
  obtain ⟨i64i, hi64, hz0, hz1', hz2⟩ := info_parts info64
  obtain ⟨ao, b, cap, rfl, hcap, hmx, hat⟩ := own_lies hv
  have HC : Hid (∀ W V', MtTo base w W g n VV V' → ∀ j, j < l.length → ao = some ⟨b, 0, none⟩ ∧ W.cell? ⟨b, j, none⟩ = some (.int .i64 (l.getD j 0))) := fun W V' h j hj => by
    obtain ⟨h1, h2⟩ := hat (by omega)
    subst h1
    obtain ⟨h3, h4⟩ := World.ownsRow.lt hv b rfl
    refine ⟨rfl, ?_⟩
    rw [World.cell?_of_block (h.rest b h4 (by omega) fun s hs e => by have := hVB s hs b e; omega)]
    exact h2 j hj
  have HLR : Hid (∀ j, j < l.length → ∃ z : Nat, l.getD j 0 = (z : Int) ∧ z < n) := fun j hj => by
    have := hlr (l.getD j 0) (by simp [List.getD, hj])
    exact ⟨(l.getD j 0).toNat, by omega, by omega⟩
  have HM : Hid (MtAt w base g n VV LL) := hm
  have HB : Hid (∀ i, i ≤ l.length → ∀ s, s < n → (meetM LL l i s).length ≤ 2000288) := fun i hi s hs => by
    have h1 := meetM_len LL l s i (by omega)
    have h2 := hLL s hs
    show _ ≤ _
    omega
  have HBI : Hid (∀ i o e, i ≤ l.length → e ≤ i → ∀ s, s < n → (inM (meetM LL l i) o l e s).length ≤ 2000400) := fun i o e hi he s hs => by
    have h1 := inM_len (meetM LL l i) o l s e
    have h2 := HB.out i hi s hs
    show _ ≤ _
    omega
  have HEND : Hid (∀ q, meetM LL l (q + 1) = inM (meetM LL l q) (l.getD q 0) l q) := fun q => rfl
  have HALL : Hid (∀ q, q = l.length → meetM LL l q = metL2 LL l) := fun q h => by subst h; rfl
  clear hm hv hVB hlr hLL hat
  generalize hll : l.length = m at *
  clear hll
  go_enter Tryd.func40, Tryd.ntmps40
  go_upto_region 1 with fail
  go_loopw [10] (fun i wr => ∃ (q : Nat) (V' : Nat → Value), q ≤ m ∧ i = .int .i64 q ∧ MtAt wr base g n V' (meetM LL l q) ∧ MtTo base w wr g n VV V') (fun i _ => m - (intOf i).toNat)
  case atStart => exact ⟨0, VV, Nat.zero_le _, rfl, HM.out, MtTo.refl _ _ _ _ _⟩
  case round =>
    obtain ⟨q, V', hq, rfl, hmt, hto⟩ := hrel
    rename World => wo
    have HMO : Hid (MtAt wo base g n V' (meetM LL l q)) := hmt
    have HTO : Hid (MtTo base w wo g n VV V') := hto
    by_cases hlt : q < m
    · obtain ⟨rfl, cq⟩ := HC.out wo V' hto q hlt
      obtain ⟨o, ho, on⟩ := HLR.out q hlt
      have HEQ : Hid (meetM LL l (q + 1) = inM (meetM LL l q) (o : Int) l q) := by show _ = _; rw [HEND.out, ho]
      rw [ho] at cq
      have hqI : (q : Int) < m := by omega
      have hqc : (q : Int) ≤ cap := by omega
      have hq0 : ¬ (q : Int) < 0 := by omega
      have onI : (o : Int) < n := by omega
      clear hmt hto ho
      go_upto_region 4 with fail
      go_loopw [19] (fun k wi => ∃ (e : Nat) (V2 : Nat → Value), e ≤ q ∧ k = .int .i64 e ∧ MtAt wi base g n V2 (inM (meetM LL l q) (o : Int) l e) ∧ MtTo base w wi g n VV V2) (fun k _ => q - (intOf k).toNat)
      case atStart => exact ⟨0, V', Nat.zero_le _, rfl, HMO.out, HTO.out⟩
      case round =>
        obtain ⟨e, V2, he, rfl, hmt, hto⟩ := hrel
        rename World => wi
        have HMI : Hid (MtAt wi base g n V2 (inM (meetM LL l q) (o : Int) l e)) := hmt
        have HTI : Hid (MtTo base w wi g n VV V2) := hto
        by_cases hle : e < q
        · obtain ⟨-, ce⟩ := HC.out wi V2 hto e (by omega)
          obtain ⟨p, hp, pn⟩ := HLR.out e (by omega)
          have HEP : Hid (inM (meetM LL l q) (o : Int) l (e + 1) = addM (addM (inM (meetM LL l q) (o : Int) l e) (o : Int) (p : Int)) (p : Int) (o : Int)) := by
            show _ = _
            rw [inM, hp]; rfl
          rw [hp] at ce
          have heI : (e : Int) < q := by omega
          have pnI : (p : Int) < n := by omega
          have HLI : Hid (∀ s, s < n → (inM (meetM LL l q) (o : Int) l e s).length ≤ 2000400) := HBI.out q o e hq (by omega)
          clear hmt hto hp
          generalize hI0 : inM (meetM LL l q) (o : Int) l e = I0 at *
          clear hI0
          have hown1 := HMI.out.sl.own o on
          obtain ⟨ao1, cap1, hv1⟩ := own_shape hown1
          have hlen1 := HLI.out o on
          have OW1 : Hid (wi.ownsRow base 3 1 (.slice ao1 (I0 o).length cap1) (I0 o).length (i64s (I0 o))) := by
            have h := hown1
            rw [hv1] at h
            exact h
          have cc1 := HMI.out.cell on
          rw [hv1] at cc1
          have cc1' := fun ob => cell_alloc cc1 ob
          have PUT1 : Hid (∀ (ob : Obj) (W' : World) (v : Value) (k : List Int), (wi.alloc ob).grownBy W' (Value.slice ao1 (I0 o).length cap1).ownBlock → OwnI W' base v k → (v.ownBlock = (Value.slice ao1 (I0 o).length cap1).ownBlock ∨ ∃ q, v.ownBlock = some q ∧ wi.heap.size + 1 ≤ q) →
              (W'.cell? ⟨g, o, none⟩ = some (.slice ao1 (I0 o).length cap1) ∧ W'.frozen? ⟨g, o, none⟩ = false) ∧ MtAt (W'.setCell ⟨g, o, none⟩ v) base g n (upd V2 o v) (upd I0 o k) ∧ MtTo base wi (W'.setCell ⟨g, o, none⟩ v) g n V2 (upd V2 o v)) := fun ob W' v k h2 hob hl => by
            have h := HMI.out.put ((Below.refl _ _).alloc (Nat.le_refl _) ob) on (by rw [hv1]; exact h2) hob (by rw [hv1]; exact hl.imp id (fun ⟨q, h, hq⟩ => ⟨q, h, by simpa using hq⟩))
            rw [hv1] at h
            exact ⟨⟨h.1, h.2.1⟩, h.2.2.1, h.2.2.2⟩
          have a11 : (I0 o).length + 1 ≤ maxLen := by unfold maxLen; omega
          have a21 : ((I0 o).length + 1) * 8 ≤ 140737488355328 := by omega
          have hz1 : base ≤ wi.heap.size := by have h1 := HMI.out.at; omega
          have a31 : ∀ ob, base ≤ (wi.alloc ob).heap.size := fun ob => by simp; omega
          have a41 : ∀ ob, (wi.alloc ob).heap.size = wi.heap.size + 1 := fun ob => by simp
          clear hown1 hv1 hlen1 hz1
          generalize hLL1 : I0 o = lp1 at *
          have HLL1 : Hid (I0 o = lp1) := hLL1
          clear hLL1
          go_upto_region 7 with (at_builtin; refine wpList_append_lies _ rfl (.tmp 28) (.tmp 30) 37 rfl base 3 i64i _ 1 8 Tryd.underlying37 hi64 hz0 hz1' hz2 rfl (by decide) (.slice ao1 lp1.length cap1) lp1.length (i64s lp1) rfl (OW1.out.alloc _) ⟨wi.heap.size, 0, none⟩ 1 1 (i64s [((p : Nat) : Int)]) rfl rfl (news_list _ _ _ _ rfl) (i64s_one _) Nat.one_pos a11 a21 (a31 _) (wi.heap.size + 1) (a41 _) ?_; intro g1 cp1 w1 hown1 hg1 hat1 hlt1; have HO1 := own_snoc rfl hown1; have HQ1 := PUT1.out _ _ _ _ hg1 HO1 (lies_loc hat1); have q11 := HQ1.1.1; have q21 := HQ1.1.2)
          have HM5 : Hid (MtAt (w1.setCell ⟨g, o, none⟩ (.slice (some ⟨g1, 0, none⟩) (lp1.length + 1) cp1)) base g n (upd V2 o (.slice (some ⟨g1, 0, none⟩) (lp1.length + 1) cp1)) (upd I0 o (lp1 ++ [((p : Nat) : Int)]))) := HQ1.2.1
          have HT5 : Hid (MtTo base w (w1.setCell ⟨g, o, none⟩ (.slice (some ⟨g1, 0, none⟩) (lp1.length + 1) cp1)) g n VV (upd V2 o (.slice (some ⟨g1, 0, none⟩) (lp1.length + 1) cp1))) := HTI.out.trans HQ1.2.2
          clear HQ1 HO1 hown1 hg1 hat1 hlt1 q11 q21 PUT1 OW1 a11 a21 a31 a41 cc1 cc1' ce
          generalize (w1.setCell ⟨g, o, none⟩ (.slice (some ⟨g1, 0, none⟩) (lp1.length + 1) cp1)) = w5 at *
          generalize upd V2 o (.slice (some ⟨g1, 0, none⟩) (lp1.length + 1) cp1) = V5 at *
          have HI5 : Hid (upd I0 o (lp1 ++ [((p : Nat) : Int)]) = addM I0 (o : Int) (p : Int)) := by
            show _ = _
            rw [← HLL1.out]; exact addM_upd
          rw [HI5.out] at HM5
          have HL5 : Hid (∀ s, s < n → (addM I0 (o : Int) (p : Int) s).length ≤ 2000500) := fun s hs => by
            have h1 := addM_len I0 (o : Int) (p : Int) s
            have h2 := HLI.out s hs
            show _ ≤ _
            omega
          clear HI5 HLI HMI HTI HMO HTO HLL1
          generalize hI5 : addM I0 (o : Int) (p : Int) = I5 at *
          clear hI5
          have hown2 := HM5.out.sl.own p pn
          obtain ⟨ao2, cap2, hv2⟩ := own_shape hown2
          have hlen2 := HL5.out p pn
          have OW2 : Hid (w5.ownsRow base 3 1 (.slice ao2 (I5 p).length cap2) (I5 p).length (i64s (I5 p))) := by
            have h := hown2
            rw [hv2] at h
            exact h
          have cc2 := HM5.out.cell pn
          rw [hv2] at cc2
          have cc2' := fun ob => cell_alloc cc2 ob
          have PUT2 : Hid (∀ (ob : Obj) (W' : World) (v : Value) (k : List Int), (w5.alloc ob).grownBy W' (Value.slice ao2 (I5 p).length cap2).ownBlock → OwnI W' base v k → (v.ownBlock = (Value.slice ao2 (I5 p).length cap2).ownBlock ∨ ∃ q, v.ownBlock = some q ∧ w5.heap.size + 1 ≤ q) →
              (W'.cell? ⟨g, p, none⟩ = some (.slice ao2 (I5 p).length cap2) ∧ W'.frozen? ⟨g, p, none⟩ = false) ∧ MtAt (W'.setCell ⟨g, p, none⟩ v) base g n (upd V5 p v) (upd I5 p k) ∧ MtTo base w5 (W'.setCell ⟨g, p, none⟩ v) g n V5 (upd V5 p v)) := fun ob W' v k h2 hob hl => by
            have h := HM5.out.put ((Below.refl _ _).alloc (Nat.le_refl _) ob) pn (by rw [hv2]; exact h2) hob (by rw [hv2]; exact hl.imp id (fun ⟨q, h, hq⟩ => ⟨q, h, by simpa using hq⟩))
            rw [hv2] at h
            exact ⟨⟨h.1, h.2.1⟩, h.2.2.1, h.2.2.2⟩
          have a12 : (I5 p).length + 1 ≤ maxLen := by unfold maxLen; omega
          have a22 : ((I5 p).length + 1) * 8 ≤ 140737488355328 := by omega
          have hz2 : base ≤ w5.heap.size := by have h1 := HM5.out.at; omega
          have a32 : ∀ ob, base ≤ (w5.alloc ob).heap.size := fun ob => by simp; omega
          have a42 : ∀ ob, (w5.alloc ob).heap.size = w5.heap.size + 1 := fun ob => by simp
          clear hown2 hv2 hlen2 hz2
          generalize hLL2 : I5 p = lp2 at *
          have HLL2 : Hid (I5 p = lp2) := hLL2
          clear hLL2
          go_wp2_with (at_builtin; refine wpList_append_lies _ rfl (.tmp 38) (.tmp 40) 37 rfl base 3 i64i _ 1 8 Tryd.underlying37 hi64 hz0 hz1' hz2 rfl (by decide) (.slice ao2 lp2.length cap2) lp2.length (i64s lp2) rfl (OW2.out.alloc _) ⟨w5.heap.size, 0, none⟩ 1 1 (i64s [((o : Nat) : Int)]) rfl rfl (news_list _ _ _ _ rfl) (i64s_one _) Nat.one_pos a12 a22 (a32 _) (w5.heap.size + 1) (a42 _) ?_; intro g2 cp2 w2 hown2 hg2 hat2 hlt2; have HO2 := own_snoc rfl hown2; have HQ2 := PUT2.out _ _ _ _ hg2 HO2 (lies_loc hat2); have q12 := HQ2.1.1; have q22 := HQ2.1.2)
          go_roundw
          case rel => exact ⟨e + 1, _, by omega, by go_num, by rw [HEP.out, ← addM_upd, HLL2.out]; exact HQ2.2.1, HT5.out.trans HQ2.2.2⟩
          case measure => simp [intOf]; omega
        · obtain rfl : q = e := by omega
          clear hmt hto hle
          go_wp2
          go_roundw
          case rel => exact ⟨q + 1, _, by omega, by go_num, by rw [HEQ.out]; exact HMI.out, HTI.out⟩
          case measure => simp [intOf]; omega
    · obtain rfl : m = q := by omega
      have HX := HALL.out m rfl
      clear hmt hto hlt
      go_wp2
      go_end0
      exact ⟨rfl, V', by rw [← HX]; exact HMO.out, HTO.out⟩
end Go.Proofs.YtldbmdgpdolaaaaDoor
namespace Go.Proofs.YtldbmdgpdolaaaaDoor
open Go Go.RowKit

def madeI (pc : Nat) : Int := 12 + (pc : Int)
def phiI (b r : Nat) : Int := 52 + (b : Int) * 12 + (r : Int)
def on1 (f : Fn) (pc : Nat) (l : List Int) : List Int := if setsB (insD f pc).op = true then l.set (insD f pc).dst.toNat (madeI pc) else l
theorem on1_len (f : Fn) (pc : Nat) (l : List Int) : (on1 f pc l).length = l.length := by unfold on1; split <;> simp
def onR (f : Fn) : Nat → Nat → List Int → List Int
  | _, 0, l => l
  | pc, n + 1, l => onR f (pc + 1) n (on1 f pc l)
theorem onR_len (f : Fn) : ∀ (n pc : Nat) (l : List Int), (onR f pc n l).length = l.length
  | 0, _, _ => rfl
  | n + 1, pc, l => by rw [onR, onR_len f n, on1_len]
theorem onR_snoc (f : Fn) : ∀ (n pc : Nat) (l : List Int), onR f pc (n + 1) l = on1 f (pc + n) (onR f pc n l)
  | 0, _, _ => rfl
  | n + 1, pc, l => by
    rw [onR, onR_snoc f n, onR, Nat.add_assoc, Nat.add_comm 1 n]
def wantR (m : Nat) (l : List Int) : List Int := (List.range 12).map fun r => if m.testBit r = true then l.getD r 0 else -1
theorem wantR_len (m : Nat) (l : List Int) : (wantR m l).length = 12 := by simp [wantR]
theorem wantR_get (m : Nat) (l : List Int) {r : Nat} (hr : r < 12) : (wantR m l).getD r 0 = if m.testBit r = true then l.getD r 0 else -1 := by
  simp [wantR, List.getD, hr]
def parR (p : Int) : List Int := (List.range 12).map fun r => if ((r : Nat) : Int) < p then ((r : Nat) : Int) else -1
theorem parR_len (p : Int) : (parR p).length = 12 := by simp [parR]
theorem parR_get (p : Int) {r : Nat} (hr : r < 12) : (parR p).getD r 0 = if (r : Int) < p then (r : Int) else -1 := by simp [parR, List.getD, hr]
def phiR (b : Nat) : List Int := (List.range 12).map fun r => phiI b r
theorem phiR_len (b : Nat) : (phiR b).length = 12 := by simp [phiR]
theorem phiR_get (b : Nat) {r : Nat} (hr : r < 12) : (phiR b).getD r 0 = phiI b r := by simp [phiR, List.getD, hr]
def prevs (f : Fn) (S : List Nat) (T : Nat → Nat) (b : Nat) : List Int := pvI f S T S.length b
inductive FromR (f : Fn) (S : List Nat) (T : Nat → Nat) (L : List Int) : Nat → List Int → Prop
  | joins {b : Nat} (h : 1 < (prevs f S T b).length) : FromR f S T L b (wantR (mkL L (S.getD b 0)) (phiR b))
  | first {b : Nat} (h : prevs f S T b = [-1]) : FromR f S T L b (parR f.params)
  | one {b j : Nat} {l : List Int} (h : prevs f S T b = [((j : Nat) : Int)]) (hf : FromR f S T L j l) : FromR f S T L b (onR f (S.getD j 0) (T j - S.getD j 0) l)
theorem FromR.len {f : Fn} {S : List Nat} {T : Nat → Nat} {L : List Int} {b : Nat} {l : List Int} (h : FromR f S T L b l) : l.length = 12 := by
  induction h with
  | joins => exact wantR_len _ _
  | first => exact parR_len _
  | one _ _ ih => rw [onR_len]; exact ih
theorem FromR.unique {f : Fn} {S : List Nat} {T : Nat → Nat} {L : List Int} {b : Nat} {l l' : List Int} (h : FromR f S T L b l) (h' : FromR f S T L b l') : l = l' := by
  induction h generalizing l' with
  | joins h =>
    cases h' with
    | joins => rfl
    | first h2 => rw [h2] at h; simp at h
    | one h2 => rw [h2] at h; simp at h
  | first h =>
    cases h' with
    | joins h2 => rw [h] at h2; simp at h2
    | first => rfl
    | one h2 => rw [h] at h2; have := (List.cons.inj h2).1; omega
  | @one b j l h hf ih =>
    cases h' with
    | joins h2 => rw [h] at h2; simp at h2
    | first h2 => rw [h] at h2; have := (List.cons.inj h2).1; omega
    | @one _ j2 l2 h2 hf2 =>
      rw [h] at h2
      have e : j = j2 := by have := (List.cons.inj h2).1; omega
      subst e
      rw [ih hf2]
theorem prevs_mem {f : Fn} {S : List Nat} {T : Nat → Nat} {b : Nat} (z : Int) : z ∈ prevs f S T b ↔ (b = 0 ∧ z = -1) ∨ ∃ j, j < S.length ∧ z = ((j : Nat) : Int) ∧ ((b : Nat) : Int) ∈ nxI f S (T j) := by
  unfold prevs pvI
  rw [List.mem_append, List.mem_map]
  constructor
  · rintro (h | ⟨j, hj, rfl⟩)
    · by_cases hb : b = 0
      · rw [if_pos hb] at h; exact Or.inl ⟨hb, by simpa using h⟩
      · rw [if_neg hb] at h; simp at h
    · simp only [List.mem_filter, List.mem_range, decide_eq_true_eq] at hj
      exact Or.inr ⟨j, hj.1, rfl, hj.2⟩
  · rintro (⟨hb, rfl⟩ | ⟨j, hj, rfl, hm⟩)
    · left; rw [if_pos hb]; simp
    · right; exact ⟨j, by simp only [List.mem_filter, List.mem_range, decide_eq_true_eq]; exact ⟨hj, hm⟩, rfl⟩
theorem prevs_leads {f : Fn} {S : List Nat} {T : Nat → Nat} (_hB : BlkOk f S T) {j : Nat} (hj : j < S.length) {q : Nat} (hq : q ∈ behind (insD f (T j - 1)) (T j - 1)) : ((j : Nat) : Int) ∈ prevs f S T (rank S q) :=
  (prevs_mem _).2 (Or.inr ⟨j, hj, rfl, (nxI_mem f S (T j) _).2 ⟨q, hq, rfl⟩⟩)
theorem from_exists {P : List Fn} {f : Fn} (ok : FlowOk P f) {S : List Nat} {T : Nat → Nat} (hB : BlkOk f S T) (L : List Int) {b : Nat} (hb : b < S.length) : ∃ l, FromR f S T L b l := by
  have key : ∀ pc, Way f 63 pc → ∀ i, InBlk S T pc i → ∃ l, FromR f S T L i l := by
    intro pc hw
    induction hw with
    | start _ =>
      intro i hi
      obtain ⟨hl, h0⟩ := hB.starts.first
      have : i = 0 := by
        have h1 := hB.start hB.starts.zero
        rw [rank_zero] at h1
        exact hB.one hi h1
      subst this
      have hm : (-1 : Int) ∈ prevs f S T 0 := (prevs_mem _).2 (Or.inl ⟨rfl, rfl⟩)
      rcases hp : prevs f S T 0 with _ | ⟨a, t⟩
      · rw [hp] at hm; simp at hm
      · cases t with
        | nil => rw [hp] at hm; have : a = -1 := (by simpa using hm : (-1 : Int) = a).symm
                 exact ⟨_, .first (by rw [hp, this])⟩
        | cons c t => exact ⟨_, .joins (by rw [hp]; simp)⟩
    | @step pc q hpc hw _ ht ih =>
      intro i hi
      obtain ⟨j, hj⟩ := hB.cover ok hw
      obtain ⟨lj, hlj⟩ := ih j hj
      by_cases hl : pc = T j - 1
      · obtain ⟨hj', a1, a2⟩ := hj
        rw [hl] at ht
        have hq := (hB.ends j hj').leads ok hB.starts (hB.starts.reach ok (List.getElem_mem hj')).1 ht
        have e : i = rank S q := hB.one hi (hB.start hq)
        have hm := prevs_leads hB hj' ht
        rw [← e] at hm
        rcases hp : prevs f S T i with _ | ⟨a, t⟩
        · rw [hp] at hm; simp at hm
        · cases t with
          | nil => rw [hp] at hm; have : a = (j : Int) := (by simpa using hm : (j : Int) = a).symm
                   exact ⟨_, .one (by rw [hp, this]) hlj⟩
          | cons c t => exact ⟨_, .joins (by rw [hp]; simp)⟩
      · have hop := hB.mid hj hl
        rw [behind_on _ _ hop] at ht
        have : q = pc + 1 := by simpa using ht
        subst this
        obtain ⟨hj', a1, a2⟩ := hj
        have : i = j := hB.one hi ⟨hj', by omega, by omega⟩
        subst this
        exact ⟨lj, hlj⟩
  have hr := hB.starts.reach ok (List.getElem_mem hb)
  exact key S[b] hr.1 b ⟨hb, Nat.le_refl _, (hB.ends b hb).lt⟩
noncomputable def fromR (f : Fn) (S : List Nat) (T : Nat → Nat) (L : List Int) (b : Nat) : List Int := by
  classical exact if h : ∃ l, FromR f S T L b l then h.choose else []
theorem fromR_eq {f : Fn} {S : List Nat} {T : Nat → Nat} {L : List Int} {b : Nat} {l : List Int} (h : FromR f S T L b l) : fromR f S T L b = l := by
  unfold fromR
  rw [dif_pos ⟨l, h⟩]
  exact FromR.unique (Exists.choose_spec (⟨l, h⟩ : ∃ l, FromR f S T L b l)) h
theorem fromR_is {P : List Fn} {f : Fn} (ok : FlowOk P f) {S : List Nat} {T : Nat → Nat} (hB : BlkOk f S T) (L : List Int) {b : Nat} (hb : b < S.length) : FromR f S T L b (fromR f S T L b) := by
  obtain ⟨l, hl⟩ := from_exists ok hB L hb
  rw [fromR_eq hl]; exact hl
noncomputable def behR (f : Fn) (S : List Nat) (T : Nat → Nat) (L : List Int) (z : Int) : List Int := if z = -1 then parR f.params else onR f (S.getD z.toNat 0) (T z.toNat - S.getD z.toNat 0) (fromR f S T L z.toNat)
end Go.Proofs.YtldbmdgpdolaaaaDoor
namespace Go.Proofs.YtldbmdgpdolaaaaDoor
open Go Go.RowKit

structure SsaFn (w : World) (P : List Fn) (f : Fn) (S : List Nat) (T : Nat → Nat) (L : List Int) (pv cv bv lv : Value) : Prop where
  prog : ProgVal w pv P
  mem : f ∈ P
  code : ∃ cb co ccap, cv = .slice (some ⟨cb, co, none⟩) f.code.length ccap ∧ f.code.length ≤ ccap ∧ ccap ≤ 9223372036854775807 ∧ ∀ q, q < f.code.length → insAt w cb (co + q * 5) (insD f q)
  blocks : ∃ gB VV, bv = .slice (some ⟨gB, 0, none⟩) S.length S.length ∧ BlkRow w gB S.length (fun i => ((S.getD i 0 : Nat) : Int)) (fun i => ((T i : Nat) : Int)) VV ∧ ∀ i, i < S.length → IntsVal w (VV (2 * i + 1)) (prevs f S T i)
  ok : BlkOk f S T
  live : IntsVal w lv L
  lspec : LiveSpec P f L
  flow : FlowOk P f
theorem SsaFn.below {w w' : World} {P : List Fn} {f : Fn} {S : List Nat} {T : Nat → Nat} {L : List Int} {pv cv bv lv : Value} (h : SsaFn w P f S T L pv cv bv lv) (hb : Below w.heap.size w w') : SsaFn w' P f S T L pv cv bv lv := by
  obtain ⟨cb, co, ccap, e, h1, h2, h3⟩ := h.code
  obtain ⟨gB, VV, e2, h4, h5⟩ := h.blocks
  exact ⟨h.prog.keeps (keeps_below hb), h.mem, ⟨cb, co, ccap, e, h1, h2, fun q hq => (h3 q hq).keeps (keeps_below hb)⟩, ⟨gB, VV, e2, ownsRow_below h4 hb, fun i hi => (h5 i hi).keeps (keeps_below hb)⟩, h.ok, h.live.keeps (keeps_below hb), h.lspec, h.flow⟩
def fnV (f : Fn) (pv cv bv lv : Value) : Array Value := #[pv, .int .i64 f.params, cv, bv, lv]
def zero12 : List Value := [.int .i64 0, .int .i64 0, .int .i64 0, .int .i64 0, .int .i64 0, .int .i64 0, .int .i64 0, .int .i64 0, .int .i64 0, .int .i64 0, .int .i64 0, .int .i64 0]
theorem infoRg : (Tryd.prog.info? 108).map (·.size) = some 12 := by kernel_rfl
theorem infoRgL {l : List Int} (h : l.length = 12) : (Tryd.prog.info? 108).map (·.size) = some (i64s l).toArray.size := by
  have : (i64s l).toArray.size = 12 := by simp [i64s, h]
  rw [this]; exact infoRg
theorem oneI64 (l : List Int) : (i64s l).toArray.all (·.oneCell') = true := by
  rw [Array.all_eq_true_iff_forall_mem]
  intro v hv
  obtain ⟨z, -, rfl⟩ := List.mem_map.1 (show v ∈ (l.map (Value.int .i64)) by simpa [i64s] using hv)
  rfl
theorem bit_downS (m u : Nat) (hm : m < 4096) : bits .and .i64 ((m : Int) / 2 ^ u) 1 = if m.testBit u = true then 1 else 0 := by
  have e : ((m : Int) / 2 ^ u) = ((m / 2 ^ u : Nat) : Int) := by rw [Int.natCast_ediv, Int.natCast_pow]; rfl
  have hd : m / 2 ^ u < 65536 := Nat.lt_of_le_of_lt (Nat.div_le_self _ _) (by omega)
  have h1 := bits_and_nat (m / 2 ^ u) 1 hd (by omega)
  rw [e]
  refine h1.trans ?_
  rw [Nat.and_one_is_mod, Nat.testBit_eq_decide_div_mod_eq]
  simp only [decide_eq_true_eq]
  split <;> omega
theorem heap_alloc3_newS (w : World) (o o' o'' : Obj) : (((w.alloc o).alloc o').alloc o'').heap[w.heap.size + 1 + 1]? = some o'' := by
  have := heap_alloc_last ((w.alloc o).alloc o') o''
  rw [World.size_alloc, World.size_alloc] at this
  exact this
theorem belowSK {B g : Nat} {w0 w : World} (hb : Below B w0 w) (hBg : B ≤ g) (cs : Array Value) : Below B w0 (w.setRow g cs) :=
  hb.trans ⟨rfl, rfl, rfl, by simp [World.setRow], fun i hi => setRow_other _ _ _ _ (by omega)⟩
set_option maxRecDepth 100000 in
theorem makesS_any (P : List Fn) (x : Ins) (w : World) (ht : TabOk w) (hx : InsOk P x) :
    Calls Tryd.prog 78 #[x.val] w fun e w' => e = .returned (.bool (setsB x.op)) ∧ Below w.heap.size w w' := by
  obtain ⟨op, dst, a, b', imm⟩ := x
  obtain ⟨o1, o2, d0, d1, _, _, _, _, _⟩ := hx
  dsimp only at o1 o2 d0 d1
  unfold Ins.val
  dsimp only
  have hs := sets_has op o1 o2
  have hta : ∀ o, TabOk (w.alloc o) := fun o => ht.below ((Below.refl _ _).alloc (Nat.le_refl _) _)
  cases h : setsB op
  · rw [h] at hs
    clear h ht
    simp only [Bool.not_false] at hs
    have hs2 : (bits .and .i64 (hasOf op) 1 != 0) = false := by simpa using hs
    go_enter Tryd.func78, Tryd.ntmps78
    go_wp2_with (go_at_call 80; refine (has_any _ _ (hta _)).mono ?_; rintro e w' ⟨rfl, rfl⟩)
    go_ret
    exact ⟨rfl, (Below.refl _ _).alloc (Nat.le_refl _) _⟩
  · rw [h] at hs
    clear h ht
    simp only [Bool.not_true] at hs
    have hs2 : (bits .and .i64 (hasOf op) 1 != 0) = true := by simpa using hs
    go_enter Tryd.func78, Tryd.ntmps78
    go_wp2_with (go_at_call 80; refine (has_any _ _ (hta _)).mono ?_; rintro e w' ⟨rfl, rfl⟩)
    go_ret
    exact ⟨rfl, (Below.refl _ _).alloc (Nat.le_refl _) _⟩
theorem madeAt_any (pc : Nat) (w : World) (h : pc ≤ 1000) : Calls Tryd.prog 79 #[.int .i64 pc] w fun e w' => e = .returned (.int .i64 (madeI pc)) ∧ w' = w := by
  have h1 : IntKind.i64.wrap (12 + (pc : Int)) = madeI pc := wrap_fits _ (by omega) (by omega)
  have h2 : wrap64 (12 + (pc : Int)) = madeI pc := (wrap64_small _ (by omega) (by omega)).trans rfl
  go_enter Tryd.func79, Tryd.ntmps79
  go_wp2
  go_ret
  exact ⟨rfl, rfl⟩
theorem phiAt_any (b r : Nat) (w : World) (hb : b ≤ 1000) (hr : r ≤ 1000) : Calls Tryd.prog 77 #[.int .i64 b, .int .i64 r] w fun e w' => e = .returned (.int .i64 (phiI b r)) ∧ w' = w := by
  obtain ⟨c, hc⟩ : ∃ c : Int, c = (b : Int) * 12 := ⟨_, rfl⟩
  have h1 : wrap64 ((b : Int) * 12) = c := by rw [hc]; exact wrap64_small _ (by omega) (by omega)
  have h2 : wrap64 (52 + c) = 52 + c := wrap64_small _ (by omega) (by omega)
  have h3 : wrap64 (52 + c + (r : Int)) = phiI b r := by rw [hc]; exact wrap64_small _ (by omega) (by omega)
  clear hc
  go_enter Tryd.func77, Tryd.ntmps77
  go_wp2
  go_ret
  exact ⟨rfl, rfl⟩
set_option maxRecDepth 100000 in
theorem joinsS_any {P : List Fn} {f : Fn} {S : List Nat} {T : Nat → Nat} {L : List Int} {pv cv bv lv : Value} (w : World) (h : SsaFn w P f S T L pv cv bv lv) (b : Nat) (hb : b < S.length) :
    Calls Tryd.prog 75 #[.agg (fnV f pv cv bv lv), .int .i64 b] w fun e w' => e = .returned (.bool (decide (1 < (prevs f S T b).length))) ∧ Below w.heap.size w w' := by
  obtain ⟨gB, VV, rfl, h1, h2⟩ := h.blocks
  obtain ⟨ao, pb, po, n, cap, e, hl, -, -, hcp⟩ := ints_get (h2 b hb)
  have hS : S.length ≤ 1000 := by have := starts_len h.flow h.ok.starts; have := h.flow.ok.len2; omega
  have HB : Hid (Below w.heap.size w (w.alloc (.cells (fnV f pv cv (.slice (some ⟨gB, 0, none⟩) S.length S.length) lv) 56))) := (Below.refl _ _).alloc (Nat.le_refl _) _
  have k3 : (w.alloc (.cells (fnV f pv cv (.slice (some ⟨gB, 0, none⟩) S.length S.length) lv) 56)).cell? ⟨w.heap.size, 3, none⟩ = some (.slice (some ⟨gB, 0, none⟩) S.length S.length) := by rw [cell_of_row _ _ _ _ _ _ (heap_alloc_last w _)]; rfl
  have kp := keeps_below HB.out _ _ (blk_prev h1 b hb)
  rw [e] at kp
  have hbI : (b : Int) < (S.length : Int) := by omega
  by_cases hj : 1 < (prevs f S T b).length
  · rw [decide_eq_true hj]
    have hn : (1 : Int) < (n : Int) := by omega
    have hn2 : 1 < n := by omega
    clear h1 h2 h e hl hcp hj
    unfold fnV at *
    generalize S.length = SL at *
    go_enter Tryd.func75, Tryd.ntmps75
    go_upto_region 1 with fail
    generalize (w.alloc (.cells #[pv, .int .i64 f.params, cv, .slice (some ⟨gB, 0, none⟩) SL SL, lv] 56)) = W1 at *
    go_wp2
    go_ret
    exact ⟨rfl, HB.out⟩
  · rw [decide_eq_false hj]
    have hn : ¬ (1 : Int) < (n : Int) := by omega
    have hn2 : ¬ 1 < n := by omega
    clear h1 h2 h e hl hcp hj
    unfold fnV at *
    generalize S.length = SL at *
    go_enter Tryd.func75, Tryd.ntmps75
    go_upto_region 1 with fail
    generalize (w.alloc (.cells #[pv, .int .i64 f.params, cv, .slice (some ⟨gB, 0, none⟩) SL SL, lv] 56)) = W1 at *
    go_wp2
    go_ret
    exact ⟨rfl, HB.out⟩
end Go.Proofs.YtldbmdgpdolaaaaDoor
namespace Go.Proofs.YtldbmdgpdolaaaaDoor
open Go Go.RowKit

theorem infoR12P : (Tryd.prog.info? 72).map (·.size) = some 12 := by kernel_rfl
theorem run_index_12 (l : List Int) (hl : l.length = 12) (k : Nat) (hk : k < 12) (w : World) : (Instr.index 72 (.agg (i64s l).toArray) (.int .i64 (k : Int))).run Tryd.prog w = .ok (.int .i64 (l.getD k 0)) w := by
  have hn : (0 : Int) ≤ (k : Int) ∧ (k : Int) < ((12 : Nat) : Int) := by omega
  have hg : (i64s l)[k]? = some (.int .i64 (l[k]'(by omega))) := by simp [i64s, hl, hk]
  simp [Instr.index, run_underlying Tryd.underlying72, asIntOf, hn, go_sem, hl, hk, hg, List.getD]
set_option maxRecDepth 100000 in
set_option maxHeartbeats 2000000 in
theorem of_any (l : List Int) (hl : l.length = 12) (m : Nat) (hm : m < 4096) (w : World) :
    Calls Tryd.prog 41 #[.agg (i64s l).toArray, .int .i64 m] w fun e w' => ∃ v, e = .returned v ∧ OwnI w' w.heap.size v (ofT m l 12) ∧ Below w.heap.size w w' := by
  obtain ⟨i64i, hi64, hz0, hz1', hz2⟩ := info_parts info64
  have HIX : Hid (∀ q : Nat, q < 12 → ∀ W, (Instr.index 72 (.agg (i64s l).toArray) (.int .i64 (q : Int))).run Tryd.prog W = .ok (.int .i64 (l.getD q 0)) W) := fun q hq W => run_index_12 l hl q hq W
  have HBD : Hid (∀ q : Nat, bits .and .i64 ((m : Int) / 2 ^ q) 1 = if m.testBit q = true then 1 else 0) := fun q => bit_downS m q hm
  have HLN : Hid (∀ q, (ofT m l q).length ≤ q) := fun q => ofT_len m l q
  have HT : Hid (∀ q, m.testBit q = true → ofT m l (q + 1) = ofT m l q ++ [l.getD q 0]) := fun q hb => by show _ = _; rw [ofT, if_pos hb]
  have HF : Hid (∀ q, m.testBit q = false → ofT m l (q + 1) = ofT m l q) := fun q hb => by show _ = _; rw [ofT, if_neg (by rw [hb]; decide)]
  have i12 : (Tryd.prog.info? 72).map (·.size) = some (i64s l).toArray.size := by rw [List.size_toArray]; simp only [i64s, List.length_map, hl]; exact infoR12P
  clear hl hm
  generalize i64s l = DD at *
  have r0 : (w.alloc (.cells DD.toArray 72)).heap[w.heap.size]? = some (.cells DD.toArray 72 (0, 0)) := heap_alloc_last w _
  have HB0 : Hid (Below w.heap.size w (w.alloc (.cells DD.toArray 72))) := (Below.refl _ _).alloc (Nat.le_refl _) _
  go_enter Tryd.func41, Tryd.ntmps41
  go_upto_region 3 with (refine wpList_load_row rfl 72 (.tmp 2) rfl _ rfl _ _ _ _ r0 Tryd.underlying72 rfl i12 ?_)
  clear r0
  generalize (w.alloc (.cells DD.toArray 72)) = W0 at *
  go_loopw [5, 9] (fun v i wr => ∃ (q : Nat) (ao : Option Addr) (cap : Nat), q ≤ 12 ∧ i = .int .i64 q ∧ v = .slice ao (ofT m l q).length cap ∧ OwnI wr w.heap.size (.slice ao (ofT m l q).length cap) (ofT m l q) ∧ Below w.heap.size w wr) (fun _ i _ => 12 - (intOf i).toNat)
  case atStart => exact ⟨0, none, 0, by omega, rfl, rfl, ⟨rfl, Or.inl ⟨rfl, rfl⟩⟩, HB0.out⟩
  case round =>
    obtain ⟨q, ao, cap, hq, rfl, rfl, hown, hbr⟩ := hrel
    have HBR : Hid (Below w.heap.size w wr) := hbr
    by_cases hlt : q < 12
    · have hqI : (q : Int) < 12 := by omega
      have hqn : ¬ (q : Int) < 0 := by omega
      have hq64 : (q : Int) < 64 := by omega
      have hix := HIX.out q hlt
      have hbd := HBD.out q
      cases hb : m.testBit q
      · rw [hb, if_neg (by decide)] at hbd
        have HF1 := HF.out q hb
        have HOW : Hid (OwnI wr w.heap.size (.slice ao (ofT m l q).length cap) (ofT m l q)) := hown
        clear hb hown hbr
        have HOW1 : Hid (OwnI wr w.heap.size (.slice ao (ofT m l (q + 1)).length cap) (ofT m l (q + 1))) := by rw [HF1]; exact HOW.out
        have HE1 : Hid ((ofT m l q).length = (ofT m l (q + 1)).length) := by show _ = _; rw [HF1]
        clear HF1
        go_wp2
        go_roundw
        case rel => exact ⟨q + 1, ao, cap, by omega, by go_num, by rw [HE1.out], HOW1.out, HBR.out⟩
        case measure => simp [intOf]; omega
      · rw [hb, if_pos rfl] at hbd
        have HT1 : Hid (ofT m l (q + 1) = ofT m l q ++ [l.getD q 0]) := HT.out q hb
        have OW : Hid (wr.ownsRow w.heap.size 3 1 (.slice ao (ofT m l q).length cap) (ofT m l q).length (i64s (ofT m l q))) := hown
        have hln := HLN.out q
        have a1 : (ofT m l q).length + 1 ≤ maxLen := by unfold maxLen; omega
        have a2 : ((ofT m l q).length + 1) * 8 ≤ 140737488355328 := by omega
        have hzz := hbr.size
        have a3 : ∀ ob, w.heap.size ≤ (wr.alloc ob).heap.size := fun ob => by simp; omega
        have a4 : ∀ ob, (wr.alloc ob).heap.size = wr.heap.size + 1 := fun ob => by simp
        have HGB : Hid (∀ ob W', (wr.alloc ob).grownBy W' (Value.slice ao (ofT m l q).length cap).ownBlock → Below w.heap.size w W') := fun ob W' h => HBR.out.trans (((Below.refl _ _).alloc hzz ob).trans (grown_base (OW.out.alloc ob) (by simp; omega) h))
        clear hb hown hbr hln hzz
        generalize hlp : ofT m l q = lp at *
        have HLP : Hid (ofT m l q = lp) := hlp
        clear hlp
        generalize l.getD q 0 = z at *
        go_wp2_with (at_builtin; refine wpList_append_lies _ rfl (.tmp 18) (.tmp 20) 37 rfl w.heap.size 3 i64i _ 1 8 Tryd.underlying37 hi64 hz0 hz1' hz2 rfl (by decide) (.slice ao lp.length cap) lp.length (i64s lp) rfl (OW.out.alloc _) ⟨wr.heap.size, 0, none⟩ 1 1 (i64s [z]) rfl rfl (news_list _ _ _ _ rfl) (i64s_one _) Nat.one_pos a1 a2 (a3 _) (wr.heap.size + 1) (a4 _) ?_; intro g4 cap4 w4 hown4 hg4 hat4 hlt4; have HO4 := own_snoc rfl hown4; have HB4 := HGB.out _ _ hg4)
        go_roundw
        case rel => exact ⟨q + 1, _, _, by omega, by go_num, by rw [HT1.out, List.length_append, List.length_singleton], by rw [HT1.out, List.length_append, List.length_singleton]; exact HO4, HB4⟩
        case measure => simp [intOf]; omega
    · obtain rfl : q = 12 := by omega
      have HOW : Hid (OwnI wr w.heap.size (.slice ao (ofT m l 12).length cap) (ofT m l 12)) := hown
      clear hown hbr
      go_wp2
      go_ret
      exact ⟨_, rfl, HOW.out, HBR.out⟩
end Go.Proofs.YtldbmdgpdolaaaaDoor
