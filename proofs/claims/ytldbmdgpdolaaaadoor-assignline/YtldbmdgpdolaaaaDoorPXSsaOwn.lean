import Derived.Test.YtldbmdgpdolaaaaDoorPXPlaceOk
import Derived.Test.YtldbmdgpdolaaaaDoorPXPlaceMath
import Derived.Test.YtldbmdgpdolaaaaDoorPXSsaBuild
namespace Go.Proofs.YtldbmdgpdolaaaaDoor
open Go Go.RowKit

def ownZ (f : Fn) (z : Int) : Nat := if z < 12 then z.toNat else if z < 52 then (insD f (z - 12).toNat).dst.toNat else ((z - 52) % 12).toNat
theorem ownZ_par (f : Fn) {r : Nat} (h : r < 12) : ownZ f (r : Int) = r := by unfold ownZ; rw [if_pos (by omega)]; omega
theorem ownZ_made (f : Fn) {pc : Nat} (h : pc < 40) : ownZ f (madeI pc) = (insD f pc).dst.toNat := by
  unfold ownZ madeI
  rw [if_neg (by omega), if_pos (by omega), show (12 + (pc : Int) - 12).toNat = pc by omega]
theorem ownZ_phi (f : Fn) {b r : Nat} (h : r < 12) : ownZ f (phiI b r) = r := by
  unfold ownZ phiI
  rw [if_neg (by omega), if_neg (by omega)]; omega
def OwnL (f : Fn) (l : List Int) : Prop := ∀ r, r < 12 → l.getD r 0 = -1 ∨ ownZ f (l.getD r 0) = r
theorem ownL_par (f : Fn) (p : Int) : OwnL f (parR p) := fun r hr => by
  rw [parR_get _ hr]; split
  · exact Or.inr (ownZ_par f hr)
  · exact Or.inl rfl
theorem ownL_phi (f : Fn) (b : Nat) : OwnL f (phiR b) := fun r hr => by rw [phiR_get _ hr]; exact Or.inr (ownZ_phi f hr)
theorem ownL_want {f : Fn} (m : Nat) {l : List Int} (h : OwnL f l) : OwnL f (wantR m l) := fun r hr => by
  rw [wantR_get _ _ hr]; split
  · exact h r hr
  · exact Or.inl rfl
theorem ownL_on1 {f : Fn} {pc : Nat} (hpc : pc < 40) {l : List Int} (hl : l.length = 12) (h : OwnL f l) : OwnL f (on1 f pc l) := fun r hr => by
  unfold on1
  split
  · by_cases e : (insD f pc).dst.toNat = r
    · subst e
      rw [List.getD, List.getElem?_set_self (by omega)]
      exact Or.inr (ownZ_made f hpc)
    · rw [List.getD, List.getElem?_set_ne e]; exact h r hr
  · exact h r hr
theorem ownL_on {f : Fn} : ∀ (n pc : Nat) (l : List Int), pc + n ≤ 40 → l.length = 12 → OwnL f l → OwnL f (onR f pc n l)
  | 0, _, _, _, _, h => h
  | n + 1, pc, l, hp, hl, h => by rw [onR]; exact ownL_on n (pc + 1) _ (by omega) (by rw [on1_len]; exact hl) (ownL_on1 (by omega) hl h)
theorem ownL_from {P : List Fn} {f : Fn} (ok : FlowOk P f) {S : List Nat} {T : Nat → Nat} (hB : BlkOk f S T) {L : List Int} {b : Nat} {l : List Int} (h : FromR f S T L b l) : b < S.length → OwnL f l := by
  induction h with
  | joins _ => exact fun _ => ownL_want _ (ownL_phi f _)
  | first _ => exact fun _ => ownL_par f _
  | @one b j l h hf ih =>
    intro hb
    have hj : j < S.length := by
      have hm : ((j : Nat) : Int) ∈ prevs f S T b := by rw [h]; simp
      rcases (prevs_mem _).1 hm with ⟨-, e⟩ | ⟨j', hj', e, -⟩
      · omega
      · have : j = j' := by omega
        rw [this]; exact hj'
    have hE := hB.ends j hj
    have eS : S.getD j 0 = S[j] := by simp [List.getD, hj]
    have h1 := hE.lt; have h2 := hE.le; have h3 := ok.ok.len2
    exact ownL_on _ _ _ (by omega) hf.len (ih hj)
theorem ownL_beh {P : List Fn} {f : Fn} (ok : FlowOk P f) {S : List Nat} {T : Nat → Nat} (hB : BlkOk f S T) {L : List Int} {b : Nat} {z : Int} (hz : z ∈ prevs f S T b) : OwnL f (behR f S T L z) := by
  unfold behR
  split
  · exact ownL_par f _
  · rename_i h
    rcases (prevs_mem z).1 hz with ⟨-, e⟩ | ⟨j, hj, rfl, -⟩
    · exact absurd e h
    · rw [Int.toNat_natCast]
      have hE := hB.ends j hj
      have eS : S.getD j 0 = S[j] := by simp [List.getD, hj]
      have h1 := hE.lt; have h2 := hE.le; have h3 := ok.ok.len2
      exact ownL_on _ _ _ (by omega) (fromR_is ok hB L hj).len (ownL_from ok hB (fromR_is ok hB L hj) hj)
theorem stG_own {w : Int → Nat} {g : List (Int × Int)} (h : ∀ q ∈ g, w q.2 = w q.1) (v : Int) : w (stG g v) = w v := by
  induction g generalizing v with
  | nil => rfl
  | cons p g ih =>
    rw [stG, ih (fun q hq => h q (List.mem_cons_of_mem _ hq))]
    split
    · rename_i e; rw [e]; exact h p List.mem_cons_self
    · rfl
def ArgsOwn (w : Int → Nat) (p : PhiD) : Prop := ∀ a ∈ p.args, w a = w p.id
theorem leftG_own {w : Int → Nat} : ∀ (ps : List PhiD) (g : List (Int × Int)), (∀ p ∈ ps, ArgsOwn w p) → (∀ q ∈ g, w q.2 = w q.1) → ∀ q ∈ (leftG g ps).1, w q.2 = w q.1
  | [], _, _, h => h
  | p :: t, g, hp, h => by
    rw [leftG]
    split
    · exact leftG_own t g (fun x hx => hp x (List.mem_cons_of_mem _ hx)) h
    · rename_i hl
      refine leftG_own t _ (fun x hx => hp x (List.mem_cons_of_mem _ hx)) fun q hq => ?_
      rcases List.mem_append.1 hq with hq | hq
      · exact h q hq
      · obtain rfl : q = _ := by simpa using hq
        rcases loneG_mem (g := g) (id := p.id) p.args (-1) with e | e | ⟨a, ha, e⟩
        · exact absurd e hl
        · exact absurd e hl
        · show w (loneG g p.id (-1) p.args) = w p.id
          rw [e, stG_own h]
          exact hp p List.mem_cons_self a ha
theorem leftG_in : ∀ (ps : List PhiD) (g : List (Int × Int)), ∀ p ∈ (leftG g ps).2, p ∈ ps
  | [], _, _, h => h
  | p :: t, g, x, h => by
    rw [leftG] at h
    split at h
    · rcases List.mem_cons.1 h with rfl | h
      · exact List.mem_cons_self
      · exact List.mem_cons_of_mem _ (leftG_in t g x h)
    · exact List.mem_cons_of_mem _ (leftG_in t _ x h)
theorem roundG_own {w : Int → Nat} : ∀ (ps : List (List PhiD)) (g : List (Int × Int)), (∀ l ∈ ps, ∀ p ∈ l, ArgsOwn w p) → (∀ q ∈ g, w q.2 = w q.1) → (∀ q ∈ (roundG g ps).1, w q.2 = w q.1) ∧ ∀ l ∈ (roundG g ps).2, ∀ p ∈ l, ArgsOwn w p
  | [], g, _, h => ⟨h, by simp [roundG]⟩
  | l :: t, g, hp, h => by
    rw [roundG]
    have h1 := leftG_own l g (hp l List.mem_cons_self) h
    obtain ⟨h2, h3⟩ := roundG_own t (leftG g l).1 (fun x hx => hp x (List.mem_cons_of_mem _ hx)) h1
    refine ⟨h2, fun x hx p hpx => ?_⟩
    rcases List.mem_cons.1 hx with rfl | hx
    · exact hp l List.mem_cons_self p (leftG_in l g p hpx)
    · exact h3 x hx p hpx
theorem SettleTo.own {w : Int → Nat} {g g' : List (Int × Int)} {ps ps' : List (List PhiD)} (hs : SettleTo g ps g' ps') : (∀ l ∈ ps, ∀ p ∈ l, ArgsOwn w p) → (∀ q ∈ g, w q.2 = w q.1) → ∀ q ∈ g', w q.2 = w q.1 := by
  induction hs with
  | stop _ => exact fun hp h => (roundG_own _ _ hp h).1
  | on _ _ ih => exact fun hp h => ih (roundG_own _ _ hp h).2 (roundG_own _ _ hp h).1
theorem SsaIs.own {P : List Fn} {f : Fn} {S : List Nat} {T : Nat → Nat} {L : List Int} {pn : Nat} {g : List (Int × Int)} {D : PDat} (h : SsaIs P f S T L pn g D) (ok : FlowOk P f) (hU : ∀ q, q < f.code.length → Way f 63 q → ∀ r, r < 12 → (rdMask P (insD f q)).testBit r = true → ¬ Way f r q) (z : Int) : ownZ f (stG g z) = ownZ f z := by
  refine stG_own (h.settle.own (w := ownZ f) (fun l hl p hp a ha => ?_) (fun q hq => by cases hq)) z
  obtain ⟨b, hb, rfl⟩ := List.mem_map.1 hl
  have hb := List.mem_range.1 hb
  obtain ⟨r, hr, -, e, -, hid, hlw⟩ := phi_form ok h.ok h.live hb hp
  rw [hid, ownZ_phi f hr]
  rw [e] at ha
  obtain ⟨y, hy, rfl⟩ := List.mem_map.1 ha
  exact (ownL_beh ok h.ok hy r hr).resolve_left (beh_there ok hU h.ok h.live hb hr hlw hy)
end Go.Proofs.YtldbmdgpdolaaaaDoor
namespace Go.Proofs.YtldbmdgpdolaaaaDoor
open Go Go.RowKit

theorem newI_inj {g : List (Int × Int)} {ids : List Int} {u v : Int} (hu : u ≠ -1) (hv : v ≠ -1) (hu2 : stG g u ∈ ids) (hv2 : stG g v ∈ ids) (e : newI g ids u = newI g ids v) : stG g u = stG g v := by
  unfold newI at e
  rw [if_neg hu, if_neg hv, if_pos hu2, if_pos hv2] at e
  have e2 : ids.idxOf (stG g u) = ids.idxOf (stG g v) := by omega
  have h1 := List.getElem_idxOf (List.idxOf_lt_length_of_mem hu2)
  have h2 := List.getElem_idxOf (List.idxOf_lt_length_of_mem hv2)
  rw [← h1, ← h2]
  simp only [e2]
end Go.Proofs.YtldbmdgpdolaaaaDoor
namespace Go.Proofs.YtldbmdgpdolaaaaDoor
open Go Go.RowKit

theorem rise_len {n : Nat} : ∀ {l : List Int}, l.Pairwise (· < ·) → (∀ z ∈ l, 0 ≤ z ∧ z < (n : Int)) → l.length ≤ n := by
  have key : ∀ (l : List Int) (m : Int), l.Pairwise (· < ·) → (∀ z ∈ l, m ≤ z ∧ z < (n : Int)) → m ≤ n → (l.length : Int) + m ≤ n := by
    intro l
    induction l with
    | nil => intro m _ _ hm; simpa using hm
    | cons a l ih =>
      intro m hp hz _
      obtain ⟨h1, h2⟩ := List.pairwise_cons.1 hp
      have ha := hz a (by simp)
      have := ih (a + 1) h2 (fun z hm => ⟨by have := h1 z hm; omega, (hz z (by simp [hm])).2⟩) (by omega)
      rw [List.length_cons]; omega
  intro l hp hz
  have := key l 0 hp hz (by omega)
  omega
structure WalkNd (f : Fn) (L : List Int) (xs : List InsD) (rg : List Int) : Prop where
  one : ∀ j, j < xs.length → ∀ r s, r < 12 → s < 12 → (mkL L (xs.getD j noIns).pc.toNat).testBit r = true → (mkL L (xs.getD j noIns).pc.toNat).testBit s = true → (regT f xs rg j).getD r 0 = (regT f xs rg j).getD s 0 → r = s
  two : ∀ j, j < xs.length → (xs.getD j noIns).id ≠ -1 → ∀ r s, r < 12 → s < 12 → (mkL L ((xs.getD j noIns).pc.toNat + 1) ||| 2 ^ (insD f (xs.getD j noIns).pc.toNat).dst.toNat).testBit r = true → (mkL L ((xs.getD j noIns).pc.toNat + 1) ||| 2 ^ (insD f (xs.getD j noIns).pc.toNat).dst.toNat).testBit s = true → (regT f xs rg (j + 1)).getD r 0 = (regT f xs rg (j + 1)).getD s 0 → r = s
theorem metOk_walk {f : Fn} {L : List Int} {n : Nat} {xs : List InsD} {rg : List Int} {M : Nat → List Int} (hw : WalkOk f L n xs rg) (hd : WalkNd f L xs rg) (h : MetOk n M) : ∀ j, j ≤ xs.length → MetOk n (metT f L xs rg M j)
  | 0, _ => h
  | j + 1, hj => by
    have ih := metOk_walk hw hd h j (by omega)
    obtain ⟨pc, m, hpc, -, -, hm, -, hr, hset⟩ := hw.step j (by omega)
    have hmk : mkL L pc = m := by unfold mkL; rw [hm]; rfl
    have h1 : MetOk n (metL2 (metT f L xs rg M j) (ofT (mkL L (xs.getD j noIns).pc.toNat) (regT f xs rg j) 12)) := by
      refine ih.meet (ofT_nodup fun r s hr hs => hd.one j (by omega) r s hr hs) fun z hz => ?_
      obtain ⟨r, hr12, hb, rfl⟩ := ofT_mem.1 hz
      rw [hpc, Int.toNat_natCast, hmk] at hb
      exact hr r hr12 hb
    show MetOk n (if (xs.getD j noIns).id = -1 then _ else _)
    by_cases hid : (xs.getD j noIns).id = -1
    · rw [if_pos hid]; exact h1
    · rw [if_neg hid]
      obtain ⟨d, m2, hdd, -, -, hm2, -, hr2⟩ := hset hid
      have hmk2 : mkL L (pc + 1) = m2 := by unfold mkL; rw [hm2]; rfl
      refine h1.meet (ofT_nodup fun r s hr hs => hd.two j (by omega) hid r s hr hs) fun z hz => ?_
      obtain ⟨r, hr12, hb, rfl⟩ := ofT_mem.1 hz
      rw [hpc, Int.toNat_natCast, hmk2, hdd, Int.toNat_natCast] at hb
      exact hr2 r hr12 hb
section
variable {P : List Fn} {f : Fn} {S : List Nat} {T : Nat → Nat} {L : List Int} {pn : Nat} {g : List (Int × Int)} {D : PDat}
theorem SsaIs.walkNd (h : SsaIs P f S T L pn g D) (ok : FlowOk P f) (hU : ∀ q, q < f.code.length → Way f 63 q → ∀ r, r < 12 → (rdMask P (Go.Proofs.YtldbmdgpdolaaaaDoor.insD f q)).testBit r = true → ¬ Way f r q) (ar : Nat → List Int) {b : Nat} (hb : b < S.length) :
    WalkNd f L ((finD pn S.length g D ar).ins b) ((finD pn S.length g D ar).rg b) := by
  have eS : S.getD b 0 = S[b] := by simp [List.getD, hb]
  have hE := h.ok.ends b hb
  have hle := hE.le
  have hlt := hE.lt
  have h40 := ok.ok.len2
  have hfr := fromR_is ok h.ok L hb
  have hraw : ∀ j, S[b] + j ≤ T b → RawL pn f S T L (onR f S[b] j (wantR (mkL L S[b]) (fromR f S T L b))) := fun j hj => raw_on hb j _ _ (by rw [eS]; omega) (by omega) (wantR_len _ _) (raw_want (raw_from ok h.ok h.par hfr hb))
  have hown : ∀ j, S[b] + j ≤ T b → OwnL f (onR f S[b] j (wantR (mkL L S[b]) (fromR f S T L b))) := fun j hj => ownL_on j _ _ (by omega) (wantR_len _ _) (ownL_want _ (ownL_from ok h.ok hfr hb))
  have key : ∀ j, j ≤ T b - S[b] → ∀ r s, r < 12 → s < 12 → 0 ≤ (Go.Proofs.YtldbmdgpdolaaaaDoor.regT f ((finD pn S.length g D ar).ins b) ((finD pn S.length g D ar).rg b) j).getD r 0 → 0 ≤ (Go.Proofs.YtldbmdgpdolaaaaDoor.regT f ((finD pn S.length g D ar).ins b) ((finD pn S.length g D ar).rg b) j).getD s 0 →
      (Go.Proofs.YtldbmdgpdolaaaaDoor.regT f ((finD pn S.length g D ar).ins b) ((finD pn S.length g D ar).rg b) j).getD r 0 = (Go.Proofs.YtldbmdgpdolaaaaDoor.regT f ((finD pn S.length g D ar).ins b) ((finD pn S.length g D ar).rg b) j).getD s 0 → r = s := fun j hj r s hr hs h0 h1 e => by
    rw [h.regT ar hb j (by rw [eS]; exact hj), eS, getD_map _ _ 0 0 (by rw [onR_len, wantR_len]; exact hr)] at h0 e
    rw [h.regT ar hb j (by rw [eS]; exact hj), eS, getD_map _ _ 0 0 (by rw [onR_len, wantR_len]; exact hs)] at h1
    rw [getD_map _ _ 0 0 (by rw [onR_len, wantR_len]; exact hs)] at e
    have n0 := (newI_there _ _ _).1 h0
    have n1 := (newI_there _ _ _).1 h1
    have c0 := h.counted ok hU ((hraw j (by omega) r hr).resolve_left n0)
    have c1 := h.counted ok hU ((hraw j (by omega) s hs).resolve_left n1)
    have e2 := newI_inj n0 n1 c0 c1 e
    have o0 := (hown j (by omega) r hr).resolve_left n0
    have o1 := (hown j (by omega) s hs).resolve_left n1
    rw [← o0, ← o1, ← h.own ok hU, e2, h.own ok hU]
  have hw := h.walkOk ok hU ar hb
  have hlen := h.insLen ar hb
  rw [eS] at hlen
  refine ⟨fun j hj r s hr hs br bs e => ?_, fun j hj hid r s hr hs br bs e => ?_⟩
  · obtain ⟨pc, m, hpc, -, -, hm, -, hrg, -⟩ := hw.step j hj
    have hmk : mkL L pc = m := by unfold mkL; rw [hm]; rfl
    rw [hpc, Int.toNat_natCast, hmk] at br bs
    exact key j (by omega) r s hr hs (hrg r hr br).1 (hrg s hs bs).1 e
  · obtain ⟨pc, m, hpc, -, -, -, -, -, hset⟩ := hw.step j hj
    obtain ⟨d, m2, hdd, -, -, hm2, -, hr2⟩ := hset hid
    have hmk2 : mkL L (pc + 1) = m2 := by unfold mkL; rw [hm2]; rfl
    rw [hpc, Int.toNat_natCast, hmk2, hdd, Int.toNat_natCast] at br bs
    exact key (j + 1) (by omega) r s hr hs (hr2 r hr br).1 (hr2 s hs bs).1 e
theorem SsaIs.clOk (h : SsaIs P f S T L pn g D) (ok : FlowOk P f) (hU : ∀ q, q < f.code.length → Way f 63 q → ∀ r, r < 12 → (rdMask P (Go.Proofs.YtldbmdgpdolaaaaDoor.insD f q)).testBit r = true → ¬ Way f r q) (ar : Nat → List Int) : ∀ b, b ≤ S.length → MetOk (idsD pn S.length D).length (clT f L (finD pn S.length g D ar) b)
  | 0, _ => metOk_nil _
  | b + 1, hb => metOk_walk (h.walkOk ok hU ar hb) (h.walkNd ok hU ar hb) (SsaIs.clOk h ok hU ar b (by omega)) _ (Nat.le_refl _)
theorem SsaIs.clashOk (h : SsaIs P f S T L pn g D) (ok : FlowOk P f) (hU : ∀ q, q < f.code.length → Way f 63 q → ∀ r, r < 12 → (rdMask P (Go.Proofs.YtldbmdgpdolaaaaDoor.insD f q)).testBit r = true → ¬ Way f r q) (ar : Nat → List Int) :
    MetOk (idsD pn S.length D).length (clashL f S L pn g D ar) ∧ ∀ v, (clashL f S L pn g D ar v).Pairwise (· < ·) := by
  have hc := h.clOk ok hU ar S.length (Nat.le_refl _)
  have hm : ∀ v z, z ∈ clashL f S L pn g D ar v ↔ z ∈ clT f L (finD pn S.length g D ar) S.length v := fun v z => by
    unfold clashL
    split
    · exact sortC_mem _ _
    · rename_i hv
      rw [hc.out v (by omega)]
  refine ⟨⟨fun u hu z hz => hc.rng u hu z ((hm u z).1 hz), fun u hu => if_neg (by omega), fun u v hz => (hm v _).2 (hc.even u v ((hm u _).1 hz)), fun u hz => hc.self u ((hm u _).1 hz)⟩, fun v => ?_⟩
  unfold clashL
  split
  · exact sortC_rise _
  · exact List.Pairwise.nil
end
end Go.Proofs.YtldbmdgpdolaaaaDoor
namespace Go.Proofs.YtldbmdgpdolaaaaDoor
open Go Go.RowKit

theorem own_heapP {w : World} {base t g n s : Nat} {xs : List Value} (h : w.ownsRow base t s (.slice (some ⟨g, 0, none⟩) n n) n xs) : w.heap[g]? = some (.cells xs.toArray t (0, 0)) := by
  rcases h.2 with ⟨h2, _⟩ | ⟨g', cap, cur, hv, _, hg, _, _, hs, ht⟩
  · cases h2
  · simp at hv
    obtain ⟨rfl, rfl⟩ := hv
    rw [hg]
    have : cur = xs.toArray := by
      apply Array.ext'
      rw [← ht, List.take_of_length_le (by simp [hs])]
    rw [this]
def plT (A : Nat → Nat) (v n : Nat) : List Int := (List.range n).map fun u => if u < v then (A u : Int) else 0
theorem plT_len (A : Nat → Nat) (v n : Nat) : (plT A v n).length = n := by simp [plT]
theorem plT_get (A : Nat → Nat) (v n : Nat) {u : Nat} (h : u < n) : (plT A v n).getD u 0 = if u < v then (A u : Int) else 0 := by simp [plT, List.getD, h]
theorem plT_zero (A : Nat → Nat) (n : Nat) : plT A 0 n = List.replicate n 0 := by
  apply List.ext_getElem
  · simp [plT]
  · intro i h1 h2; simp [plT]
def updN (A : Nat → Nat) (v p : Nat) : Nat → Nat := fun u => if u = v then p else A u
theorem plT_set (A : Nat → Nat) {v n : Nat} (p : Nat) (_h : v < n) : (plT A v n).set v (p : Int) = plT (updN A v p) (v + 1) n := by
  apply List.ext_getElem
  · simp [plT]
  · intro i h1 h2
    have hi : i < n := by simpa [plT] using h1
    rw [List.getElem_set]
    simp only [plT, List.getElem_map, List.getElem_range, updN]
    by_cases e : v = i
    · subst e; rw [if_pos rfl, if_pos (by omega), if_pos rfl]
    · rw [if_neg e]
      by_cases hl : i < v
      · rw [if_pos hl, if_pos (by omega), if_neg (Ne.symm e)]
      · rw [if_neg hl, if_neg (by omega)]
def PlTo (v : Nat) (C : Nat → List Int) (A : Nat → Nat) : Prop := ∀ u, u < v → IsLow (takenL A u (C u)) (A u)
theorem PlTo.next {v : Nat} {C : Nat → List Int} {A : Nat → Nat} (h : PlTo v C A) (hC : ∀ u, u ≤ v → ∀ z ∈ C u, 0 ≤ z) {p : Nat} (hp : IsLow (takenL A v (C v)) p) : PlTo (v + 1) C (updN A v p) := fun u hu => by
  have e : takenL (updN A v p) u (C u) = takenL A u (C u) := takenL_congr (hC u (by omega)) fun k hk => by unfold updN; rw [if_neg (by omega)]
  rw [e]
  by_cases h2 : u = v
  · subst h2; unfold updN; rw [if_pos rfl]; exact hp
  · unfold updN; rw [if_neg h2]; exact h u (by omega)
theorem takenL_len (A : Nat → Nat) (v : Nat) (l : List Int) : (takenL A v l).length ≤ l.length := by
  unfold takenL
  rw [List.length_map]
  exact List.length_filter_le _ _
set_option maxRecDepth 100000 in
set_option maxHeartbeats 4000000 in
theorem assign_any (base g n : Nat) (VV : Nat → Value) (CL : Nat → List Int) (w : World) (hm : MtAt w base g n VV CL) (hr : ∀ u, u < n → ∀ z ∈ CL u, 0 ≤ z ∧ z < (n : Int)) (hl : ∀ u, u < n → (CL u).length ≤ 3000) (hn : n ≤ 3000) :
    Calls Tryd.prog 18 #[.slice (some ⟨g, 0, none⟩) n n] w fun e w' => ∃ (gP : Nat) (A : Nat → Nat), e = .returned (.slice (some ⟨gP, 0, none⟩) n n) ∧ PlOk n CL A ∧ w'.heap[gP]? = some (.cells (i64s (plT A n n)).toArray 3 (0, 0)) ∧ w.heap.size ≤ gP ∧ Below w.heap.size w w' := by
  obtain ⟨i64i, hi64, hz0, hz1', hz2⟩ := info_parts info64
  have HCL : Hid (∀ a, a < n → ∃ (ao : Option Addr) (q cap : Nat), (CL a).length ≤ cap ∧ (0 < (CL a).length → ao = some ⟨q, 0, none⟩) ∧ ∀ W, Below w.heap.size w W → W.cell? ⟨g, a, none⟩ = some (.slice ao (CL a).length cap) ∧ ∀ j, j < (CL a).length → W.cell? ⟨q, j, none⟩ = some (.int .i64 ((CL a).getD j 0))) := fun a ha => by
    have hown := hm.sl.own a ha
    obtain ⟨ao, q, cap, hv, hle, -, hat⟩ := own_lies hown
    exact ⟨ao, q, cap, hle, fun h0 => (hat h0).1, fun W hW => ⟨by rw [← hv]; exact keeps_below hW _ _ (hm.cell ha), fun j hj => keeps_below hW _ _ ((hat (by omega)).2 j hj)⟩⟩
  have HRG : Hid (∀ u, u < n → ∀ z ∈ CL u, 0 ≤ z ∧ z < (n : Int)) := hr
  have HLE : Hid (∀ u, u < n → (CL u).length ≤ 3000) := hl
  have hmi := made_ints0 n
  have hmm := @run_makeMap Tryd.prog
  clear hm hr hl
  go_enter Tryd.func18, Tryd.ntmps18
  go_upto_region 2 with (at_make; refine wpList_make_full _ rfl (.tmp 10) (.tmp 10) 37 rfl w.heap.size 3 i64i _ 1 Tryd.underlying37 hi64 hz0 hz1' .i64 .i64 _ _ n rfl rfl (by simp) (by simp) (by rw [hz2]; omega) (by unfold maxLen; omega) (Nat.le_refl _) ?_; intro w1 hown1 hg1; rw [hmi] at hown1)
  have HB1 : Hid (Below w.heap.size w w1) := below_grown hg1
  have HR1 : Hid (w1.heap[w.heap.size]? = some (.cells (i64s (plT (fun _ => 0) 0 n)).toArray 3 (0, 0))) := by
    show _ = _
    rw [plT_zero]; exact own_heapP hown1
  clear hown1 hg1 hmi hi64 hz0 hz1' hz2
  go_upto_region 3 with fail
  go_loopw [14] (fun i wr => ∃ (v : Nat) (A : Nat → Nat), v ≤ n ∧ i = .int .i64 v ∧ PlTo v CL A ∧ wr.heap[w.heap.size]? = some (.cells (i64s (plT A v n)).toArray 3 (0, 0)) ∧ Below w.heap.size w wr) (fun i _ => n - (intOf i).toNat)
  case atStart => exact ⟨0, fun _ => 0, Nat.zero_le _, rfl, fun u hu => absurd hu (Nat.not_lt_zero _), HR1.out, HB1.out⟩
  case round =>
    clear HR1 HB1
    obtain ⟨v, A, hv, rfl, hpl, hrow, hbr⟩ := hrel
    rename World => wo
    have HPL : Hid (PlTo v CL A) := hpl
    by_cases hvn : v < n
    · have hvI : (v : Int) < (n : Int) := by omega
      have hvN : ¬ (v : Int) < 0 := by omega
      obtain ⟨ao, q, cap, hcap, hao, hcel⟩ := HCL.out v hvn
      have hl3 := HLE.out v hvn
      have cv := (hcel wo hbr).1
      have HCE : Hid (∀ W, Below w.heap.size w W → ∀ j, j < (CL v).length → W.cell? ⟨q, j, none⟩ = some (.int .i64 ((CL v).getD j 0))) := fun W hW => (hcel W hW).2
      have HZ : Hid (∀ j, j < (CL v).length → ∃ z : Nat, (CL v).getD j 0 = (z : Int) ∧ z < n ∧ (CL v).take (j + 1) = (CL v).take j ++ [(z : Int)]) := fun j hj => by
        have hz : (CL v).getD j 0 ∈ CL v := by simp [List.getD, hj]
        have h1 := HRG.out v hvn _ hz
        have e : ((((CL v).getD j 0).toNat : Nat) : Int) = (CL v).getD j 0 := Int.toNat_of_nonneg h1.1
        refine ⟨((CL v).getD j 0).toNat, e.symm, by omega, ?_⟩
        rw [e, List.take_succ_eq_append_getElem hj]
        simp [List.getD, hj]
      have hsz : w.heap.size < wo.heap.size := lt_of_block hrow
      have HM0 : Hid (TMapAt (wo.alloc (.map #[] 0)) wo.heap.size 0 (.map [])) := World.ownsMap_made _ _ _ _
      have HR2 : Hid ((wo.alloc (.map #[] 0)).heap[w.heap.size]? = some (.cells (i64s (plT A v n)).toArray 3 (0, 0))) := (heap_alloc_old _ _ hsz).trans hrow
      have HB2 : Hid (Below w.heap.size w (wo.alloc (.map #[] 0))) := hbr.alloc hbr.size _
      have HSZ : Hid (w.heap.size < wo.heap.size) := hsz
      clear hcel hbr hrow hpl hsz
      go_upto_region 7 with fail
      generalize (wo.alloc (.map #[] 0)) = W2 at *
      generalize wo.heap.size = MB at *
      clear cv
      generalize hLL : (CL v).length = len at *
      have HLL : Hid ((CL v).length = len) := hLL
      clear hLL
      go_loopw [22] (fun i wi => ∃ (j m : Nat) (D : Dat), j ≤ len ∧ m ≤ j ∧ i = .int .i64 j ∧ TMapAt wi MB m D ∧ TkMap (takenL A v ((CL v).take j)) D ∧ wi.heap[w.heap.size]? = some (.cells (i64s (plT A v n)).toArray 3 (0, 0)) ∧ Below w.heap.size w wi) (fun i _ => len - (intOf i).toNat)
      case atStart => exact ⟨0, 0, _, Nat.zero_le _, Nat.le_refl _, rfl, HM0.out, by rw [List.take_zero]; exact TkMap.nil, HR2.out, HB2.out⟩
      case round =>
        clear HM0 HR2 HB2
        obtain ⟨j, m, D, hj, hmj, rfl, hM, hT, hrow, hbi⟩ := hrel
        rename World => wi
        have HBI : Hid (Below w.heap.size w wi) := hbi
        have HTK : Hid (TkMap (takenL A v ((CL v).take j)) D) := hT
        have HRI : Hid (wi.heap[w.heap.size]? = some (.cells (i64s (plT A v n)).toArray 3 (0, 0))) := hrow
        by_cases hjl : j < len
        · obtain rfl := hao (by omega)
          have cj := HCE.out wi hbi j hjl
          obtain ⟨z, hz, hzn, htk⟩ := HZ.out j hjl
          rw [hz] at cj
          have hjI : (j : Int) < (len : Int) := by omega
          have hjN : ¬ (j : Int) < 0 := by omega
          have hzI : (z : Int) < (n : Int) := by omega
          have hzN : ¬ (z : Int) < 0 := by omega
          have HTS : Hid (takenL A v ((CL v).take (j + 1)) = if (z : Int) < (v : Int) then takenL A v ((CL v).take j) ++ [A z] else takenL A v ((CL v).take j)) := by
            show _ = _
            rw [htk, takenL_snoc, Int.toNat_natCast]
          by_cases hzv : z < v
          · have hzvI : (z : Int) < (v : Int) := by omega
            have HTS2 : Hid (takenL A v ((CL v).take (j + 1)) = takenL A v ((CL v).take j) ++ [A z]) := by show _ = _; rw [HTS.out, if_pos hzvI]
            have cz : wi.cell? ⟨w.heap.size, z, none⟩ = some (.int .i64 (A z : Int)) := by
              rw [cell_of_row _ _ _ _ _ _ hrow]
              have := plT_get A v n hzn
              rw [if_pos hzv] at this
              have hl : z < (plT A v n).length := by rw [plT_len]; exact hzn
              simp only [List.getD, hl, List.getElem?_eq_getElem, Option.getD_some] at this
              simp [i64s, hl, this]
            have HTY : Hid (Maps.Tidy D) := hM.tidy mlaw
            have hAz : A z ≤ 3000 := by
              have h1 := HPL.out z hzv
              have h2 := h1.le
              have h3 := takenL_len A z (CL z)
              have h4 := HLE.out z hzn
              omega
            have hkz : keyOf Tryd.prog 3 (.int .i64 (A z : Int)) = some (.int .i64 (A z : Int)) := Maps.keyOf_int_mk Tryd.underlying3 (WalkArith.wf_i64 (by omega))
            clear hT hrow hbi hz htk HTS
            generalize A z = az at *
            go_wp2_with (at_mapUpdate; refine wpList_mapUpdate_own _ rfl _ _ _ 91 rfl 3 92 mlaw Tryd.underlying91 emptyR MB m D rfl hM (by unfold maxLen; omega) _ _ _ rfl rfl hkz _ [] emptyR_ok ?_; intro w6 hown6 hg6)
            go_roundw
            case rel => exact ⟨j + 1, m + 1, _, by omega, by omega, by go_num, hown6, by rw [HTS2.out]; exact HTK.out.add HTY.out az _, (hg6.block _ (lt_of_block HRI.out) (by intro e; have := HSZ.out; have := Option.some.inj e; omega)).trans HRI.out, HBI.out.grown hg6 HBI.out.size (fun k hk => by have := HSZ.out; have := Option.some.inj hk; omega)⟩
            case measure => simp [intOf]; omega
          · have hzvI : ¬ (z : Int) < (v : Int) := by omega
            have HTS2 : Hid (takenL A v ((CL v).take (j + 1)) = takenL A v ((CL v).take j)) := by show _ = _; rw [HTS.out, if_neg hzvI]
            have HMI : Hid (TMapAt wi MB m D) := hM
            clear hT hrow hbi hz htk HTS hM
            go_wp2
            go_roundw
            case rel => exact ⟨j + 1, m, D, by omega, by omega, by go_num, HMI.out, by rw [HTS2.out]; exact HTK.out, HRI.out, HBI.out⟩
            case measure => simp [intOf]; omega
        · obtain rfl : len = j := by omega
          have HT2 : Hid (TkMap (takenL A v (CL v)) D) := by have := HTK.out; rw [← HLL.out, List.take_length] at this; exact this
          have hlow := lowest_any MB m D (takenL A v (CL v)) wi hM HT2.out (by have := takenL_len A v (CL v); have := HLL.out; omega)
          clear hT hrow hbi hM hjl HTK HT2
          go_wp2_with (go_at_call 33; refine hlow.mono ?_; rintro e w7 ⟨p, rfl, hpl, hb7⟩; have r7 := (hb7.block _ (lt_of_block HRI.out)).trans HRI.out; have c7 : ∃ y, w7.cell? ⟨w.heap.size, v, none⟩ = some y := (⟨(i64s (plT A v n))[v]'(by simp [i64s, plT_len, hvn]), by rw [cell_of_row _ _ _ _ _ _ r7]; simp [i64s, plT_len, hvn]⟩); obtain ⟨y7, c7⟩ := c7; have f7 : w7.frozen? ⟨w.heap.size, v, none⟩ = false := frozen_of_row _ _ _ _ _ r7)
          go_roundw
          case rel => exact ⟨v + 1, updN A v p, by omega, by go_num, HPL.out.next (fun u hu z hz => (HRG.out u (by omega) z hz).1) hpl, by rw [heap_setCell_same _ _ _ _ _ _ r7, List.setIfInBounds_toArray, i64s_set, plT_set A p hvn], (HBI.out.trans (hb7.mono HBI.out.size)).setCell (Nat.le_refl _) _⟩
          case measure => simp [intOf]; omega
    · obtain rfl : n = v := by omega
      have HBO : Hid (Below w.heap.size w wo) := hbr
      have HRO : Hid (wo.heap[w.heap.size]? = some (.cells (i64s (plT A n n)).toArray 3 (0, 0))) := hrow
      clear hpl hrow hbr hvn
      go_wp2
      go_ret
      exact ⟨_, A, rfl, HPL.out, HRO.out, Nat.le_refl _, HBO.out⟩
end Go.Proofs.YtldbmdgpdolaaaaDoor
namespace Go.Proofs.YtldbmdgpdolaaaaDoor
open Go Go.RowKit

def AssignPost (w : World) (P : List Fn) (f : Fn) (e : Ending) (w' : World) : Prop :=
  ∃ S T L, ∃ pn : Nat, ∃ g D ar, ∃ (gP : Nat) (A : Nat → Nat), e = .returned (.tuple #[.slice (some ⟨gP, 0, none⟩) (idsD pn S.length D).length (idsD pn S.length D).length, .int .i64 0]) ∧ SsaIs P f S T L pn g D ∧ PlOk (idsD pn S.length D).length (clashL f S L pn g D ar) A ∧
    w'.heap[gP]? = some (.cells (i64s (plT A (idsD pn S.length D).length (idsD pn S.length D).length)).toArray 3 (0, 0)) ∧ w.heap.size ≤ gP ∧ Below w.heap.size w w' ∧ (idsD pn S.length D).length ≤ 3000
set_option maxRecDepth 100000 in
set_option maxHeartbeats 4000000 in
theorem Assign_right (P : List Fn) (hR : ProofAns P 0) (k : Nat) (hk : k < P.length) (v : Value) (w : World) (ht : TabOk w) (hc : CallOk w) (hv : ProgVal w v P) :
    Calls Tryd.prog 10 #[.agg #[v], .int .i64 k] w (AssignPost w P P[k]) := by
  have HPOST : Hid (∀ e w', (∃ S T L, ∃ pn : Nat, ∃ g D ar, ∃ (gP : Nat) (A : Nat → Nat), e = .returned (.tuple #[.slice (some ⟨gP, 0, none⟩) (idsD pn S.length D).length (idsD pn S.length D).length, .int .i64 0]) ∧ SsaIs P P[k] S T L pn g D ∧ PlOk (idsD pn S.length D).length (clashL P[k] S L pn g D ar) A ∧
    w'.heap[gP]? = some (.cells (i64s (plT A (idsD pn S.length D).length (idsD pn S.length D).length)).toArray 3 (0, 0)) ∧ w.heap.size ≤ gP ∧ Below w.heap.size w w' ∧ (idsD pn S.length D).length ≤ 3000) → AssignPost w P P[k] e w') := fun e w' h => h
  have HFO : Hid (FlowOk P P[k]) := flowOk_of hR (List.getElem_mem hk)
  have HU : Hid (∀ q, q < P[k].code.length → Way P[k] 63 q → ∀ r, r < 12 → (rdMask P (insD P[k] q)).testBit r = true → ¬ Way P[k] r q) := right_reads hR (List.getElem_mem hk)
  have hB0 : (w.alloc (.cells #[v] 25)).heap[w.heap.size]? = some (.cells #[v] 25 (0, 0)) := heap_alloc_last _ _
  have hbx : Below w.heap.size w (w.alloc (.cells #[v] 25)) := (Below.refl _ _).alloc (Nat.le_refl _) _
  have HB0 : Hid (Below w.heap.size w (w.alloc (.cells #[v] 25))) := hbx
  have hcl := Clash_right P hR k hk v _ (ht.below hbx) (hc.below hbx) (hv.keeps (keeps_below hbx))
  obtain ⟨ao, n, cap, rfl⟩ := hv.shape
  clear hR ht hc hv hbx
  go_enter Tryd.func10, Tryd.ntmps10
  go_upto_region 1 with fail
  generalize (w.alloc (.cells #[.slice ao n cap] 25)) = V at *
  have b0 : V.cell? ⟨w.heap.size, 0, none⟩ = some (.slice ao n cap) := by rw [cell_of_row _ _ _ _ _ _ hB0]; rfl
  go_upto_region 4 with (go_at_call 7; refine hcl.mono ?_; rintro e w1 hp; obtain ⟨S, T, L, pn, g, D, ar, gC0, VV, base, rfl, his, hmt, hbs, hb1, hn3, hs4⟩ := hp)
  have HIS : Hid (SsaIs P P[k] S T L pn g D) := his
  have hok := (his.clashOk HFO.out HU.out ar).1
  have hri := (his.clashOk HFO.out HU.out ar).2
  have HN3 : Hid ((idsD pn S.length D).length ≤ 3000) := hn3
  have HB1 : Hid (Below w.heap.size w w1) := HB0.out.trans (hb1.mono HB0.out.size)
  have has := assign_any base gC0 (idsD pn S.length D).length VV (clashL P[k] S L pn g D ar) w1 hmt hok.rng (fun u hu => Nat.le_trans (rise_len (hri u) (hok.rng u hu)) hn3) hn3
  clear his hmt hbs hb1 hn3 hs4 hok hri b0 hB0 HB0 hcl
  go_wp2_with (go_at_call 18; refine has.mono ?_; rintro e w2 ⟨gP, A, rfl, hpl, hrow, hgp, hb2⟩)
  go_ret2
  exact HPOST.out _ _ ⟨S, T, L, pn, g, D, ar, gP, A, rfl, HIS.out, hpl, hrow, Nat.le_trans HB1.out.size hgp, HB1.out.trans (hb2.mono HB1.out.size), HN3.out⟩
end Go.Proofs.YtldbmdgpdolaaaaDoor
namespace Go.Proofs.YtldbmdgpdolaaaaDoor
open Go Go.RowKit

section
variable {P : List Fn} {f : Fn} {S : List Nat} {T : Nat → Nat} {L : List Int} {pn : Nat} {g : List (Int × Int)} {D : PDat}
theorem SsaIs.sinv (h : SsaIs P f S T L pn g D) (ok : FlowOk P f) (hU : ∀ q, q < f.code.length → Way f 63 q → ∀ r, r < 12 → (rdMask P (Go.Proofs.YtldbmdgpdolaaaaDoor.insD f q)).testBit r = true → ¬ Way f r q) : SInv (phsOf (phiM f S T L) S.length).flatten g (phsOf D.ph S.length).flatten := by
  have hpf := phiFit_all ok hU h.ok h.live
  exact (SInv.settle (fun p hp a ha => ((hpf p hp).2 a ha).2) h.settle (SInv.new (phi_ids ok h.ok h.live))).1
theorem SsaIs.phFilter (h : SsaIs P f S T L pn g D) (ok : FlowOk P f) {b : Nat} (hb : b < S.length) : D.ph b = (phiM f S T L b).filter (isLeft g) := by
  have e := h.settle.filter (phi_ids ok h.ok h.live) (by simp)
  unfold phsOf at e
  rw [List.map_map] at e
  have := congrArg (fun l => l.getD b []) e
  simpa [List.getD, hb] using this
theorem SsaIs.key (h : SsaIs P f S T L pn g D) (ok : FlowOk P f) (hU : ∀ q, q < f.code.length → Way f 63 q → ∀ r, r < 12 → (rdMask P (Go.Proofs.YtldbmdgpdolaaaaDoor.insD f q)).testBit r = true → ¬ Way f r q) {q : Int × Int} (hq : q ∈ g) : 52 ≤ q.1 := by
  obtain ⟨p, hp, e, -⟩ := (h.sinv ok hU).went q hq
  obtain ⟨l, hl, hpl⟩ := List.mem_flatten.1 hp
  obtain ⟨b, hb, rfl⟩ := List.mem_map.1 hl
  obtain ⟨r, hr, -, -, -, e3, -⟩ := phi_form ok h.ok h.live (List.mem_range.1 hb) hpl
  rw [← e, e3]; unfold phiI; omega
theorem SsaIs.went (h : SsaIs P f S T L pn g D) (ok : FlowOk P f) (hU : ∀ q, q < f.code.length → Way f 63 q → ∀ r, r < 12 → (rdMask P (Go.Proofs.YtldbmdgpdolaaaaDoor.insD f q)).testBit r = true → ¬ Way f r q) {b : Nat} (hb : b < S.length) {p : PhiD} (hp : p ∈ phiM f S T L b) (hl : isLeft g p = false) : ∀ a ∈ p.args, stG g a = stG g p.id := by
  have hpall : p ∈ (phsOf (phiM f S T L) S.length).flatten := List.mem_flatten.2 ⟨_, List.mem_map.2 ⟨b, List.mem_range.2 hb, rfl⟩, hp⟩
  have hn : ¬ isLeft g p = true := by rw [hl]; decide
  rw [isLeft_iff] at hn
  have hn2 : ∃ q ∈ g, q.1 = p.id := Classical.byContradiction fun hc => hn fun q hq e => hc ⟨q, hq, e⟩
  obtain ⟨q, hq, e⟩ := hn2
  obtain ⟨p', hp', e', ha⟩ := (h.sinv ok hU).went q hq
  have key : ∀ (l : List PhiD), l.Pairwise (fun p q => p.id ≠ q.id) → p ∈ l → p' ∈ l → p' = p := by
    intro l
    induction l with
    | nil => intro _ h1; cases h1
    | cons x l ih =>
      intro hpw h1 h2
      obtain ⟨g1, g2⟩ := List.pairwise_cons.1 hpw
      rcases List.mem_cons.1 h1 with e1 | m1 <;> rcases List.mem_cons.1 h2 with e2 | m2
      · rw [e1, e2]
      · exact absurd (by rw [← e1, e', e]) (g1 _ m2)
      · exact absurd (by rw [← e2, e', e]) (g1 _ m1)
      · exact ih g2 m1 m2
  obtain rfl := key _ (phi_ids ok h.ok h.live) hpall hp'
  exact ha
end
end Go.Proofs.YtldbmdgpdolaaaaDoor
namespace Go.Proofs.YtldbmdgpdolaaaaDoor
open Go Go.RowKit

theorem FromR.congr {f : Fn} {S : List Nat} {T T' : Nat → Nat} {L : List Int} (hT : ∀ i, i < S.length → T i = T' i) {b : Nat} {l : List Int} (h : FromR f S T L b l) : FromR f S T' L b l := by
  have hp : ∀ b, prevs f S T' b = prevs f S T b := fun b => prevs_congr hT b
  induction h with
  | joins h => exact .joins (by rw [hp]; exact h)
  | first h => exact .first (by rw [hp]; exact h)
  | @one b j l h hf ih =>
    have hj : j < S.length := by
      have hm : ((j : Nat) : Int) ∈ prevs f S T b := by rw [h]; simp
      rcases (prevs_mem _).1 hm with ⟨-, e⟩ | ⟨j', hj', e, -⟩
      · omega
      · have : j = j' := by omega
        rw [this]; exact hj'
    rw [hT j hj]
    exact .one (by rw [hp]; exact h) ih
theorem fromR_congr {P : List Fn} {f : Fn} (ok : FlowOk P f) {S : List Nat} {T T' : Nat → Nat} (hB : BlkOk f S T) (L : List Int) (hT : ∀ i, i < S.length → T i = T' i) {b : Nat} (hb : b < S.length) : fromR f S T' L b = fromR f S T L b :=
  fromR_eq ((fromR_is ok hB L hb).congr hT)
theorem behR_congr {P : List Fn} {f : Fn} (ok : FlowOk P f) {S : List Nat} {T T' : Nat → Nat} (hB : BlkOk f S T) (L : List Int) (hT : ∀ i, i < S.length → T i = T' i) {b : Nat} {z : Int} (hz : z ∈ prevs f S T b) : behR f S T' L z = behR f S T L z := by
  unfold behR
  split
  · rfl
  · rename_i h
    rcases (prevs_mem z).1 hz with ⟨-, e⟩ | ⟨j, hj, rfl, -⟩
    · exact absurd e h
    · rw [Int.toNat_natCast, fromR_congr ok hB L hT hj, hT j hj]
theorem phiM_congr {P : List Fn} {f : Fn} (ok : FlowOk P f) {S : List Nat} {T T' : Nat → Nat} (hB : BlkOk f S T) (L : List Int) (hT : ∀ i, i < S.length → T i = T' i) {b : Nat} (hb : b < S.length) : phiM f S T' L b = phiM f S T L b := by
  have hp : prevs f S T' b = prevs f S T b := prevs_congr hT b
  have h1 : ∀ r, phi1 f S T' L b r = phi1 f S T L b r := fun r => by
    unfold phi1
    rw [fromR_congr ok hB L hT hb, hp]
    congr 1
    exact List.map_congr_left fun z hz => by rw [behR_congr ok hB L hT hz]
  have h2 : ∀ r, phiTo f S T' L b r = phiTo f S T L b r := fun r => by
    induction r with
    | zero => rfl
    | succ r ih => rw [phiTo, phiTo, ih, h1, fromR_congr ok hB L hT hb]
  unfold phiM
  rw [hp, h2]
theorem idsTo_congr (pn : Nat) {PH PH' : Nat → List PhiD} {IN IN' : Nat → List InsD} : ∀ {n : Nat}, (∀ b, b < n → PH b = PH' b) → (∀ b, b < n → IN b = IN' b) → idsTo pn PH IN n = idsTo pn PH' IN' n
  | 0, _, _ => rfl
  | n + 1, h1, h2 => by
    rw [idsTo, idsTo, idsTo_congr pn (fun b hb => h1 b (by omega)) (fun b hb => h2 b (by omega)), h1 n (by omega), h2 n (by omega)]
theorem SsaIs.same {P : List Fn} {f : Fn} (ok : FlowOk P f) {S S' : List Nat} {T T' : Nat → Nat} {L L' : List Int} {pn pn' : Nat} {g g' : List (Int × Int)} {D D' : PDat} (h : SsaIs P f S T L pn g D) (h' : SsaIs P f S' T' L' pn' g' D') :
    S = S' ∧ (∀ i, i < S.length → T i = T' i) ∧ L = L' ∧ pn = pn' ∧ g = g' ∧ (∀ b, b < S.length → D.ph b = D'.ph b) ∧ (∀ b, b < S.length → D.ins b = D'.ins b) ∧ idsD pn S.length D = idsD pn' S'.length D' := by
  obtain ⟨rfl, hT⟩ := h.ok.same h'.ok
  obtain rfl := spec_unique h.live h'.live
  have e1 : pn = pn' := by have := h.par; have := h'.par; omega
  subst e1
  have hph : phsOf (phiM f S T' L) S.length = phsOf (phiM f S T L) S.length := by
    unfold phsOf
    exact List.map_congr_left fun b hb => phiM_congr ok h.ok L hT (List.mem_range.1 hb)
  have hs' := h'.settle
  rw [hph] at hs'
  obtain ⟨e2, e3⟩ := h.settle.unique hs'
  have e4 : ∀ b, b < S.length → D.ph b = D'.ph b := fun b hb => phsOf_at e3 hb
  have e5 : ∀ b, b < S.length → D.ins b = D'.ins b := fun b hb => by
    rw [h.left.ins b hb, h'.left.ins b hb, fromR_congr ok h.ok L hT hb, hT b hb]
  exact ⟨rfl, hT, rfl, rfl, e2, e4, e5, idsTo_congr pn e4 e5⟩
end Go.Proofs.YtldbmdgpdolaaaaDoor
