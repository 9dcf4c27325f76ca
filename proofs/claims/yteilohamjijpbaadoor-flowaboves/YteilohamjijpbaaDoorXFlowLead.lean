/- Contract of flow.lead: blocks are led to one another. -/
import Derived.Test.YteilohamjijpbaaDoorXFlowSort
import Derived.Maps.Range
import Derived.Deep.RegionLaw
namespace Go.Proofs.YteilohamjijpbaaDoor
open Go Go.RowKit

/-- Where the block that ends at a place leads. -/
def nxI (f : Fn) (S : List Nat) (t : Nat) : List Int := comp2 (sort2 ((behind (insD f (t - 1)) (t - 1)).map fun q => ((rank S q : Nat) : Int)))
/-- Who of the first blocks leads to a block. -/
def pvI (f : Fn) (S : List Nat) (T : Nat → Nat) (b i : Nat) : List Int := (if i = 0 then [-1] else []) ++ ((List.range b).filter fun j => decide (((i : Nat) : Int) ∈ nxI f S (T j))).map fun j => ((j : Nat) : Int)
theorem pvI_next (f : Fn) (S : List Nat) (T : Nat → Nat) (b i : Nat) : pvI f S T (b + 1) i = pvI f S T b i ++ (if ((i : Nat) : Int) ∈ nxI f S (T b) then [((b : Nat) : Int)] else []) := by
  unfold pvI
  rw [List.range_succ, List.filter_append, List.map_append, List.append_assoc]
  congr 2
  by_cases h : ((i : Nat) : Int) ∈ nxI f S (T b)
  · simp [h]
  · simp [h]
theorem ite_one (c : Prop) [Decidable c] (z : Int) : (if c then [z] else []).length ≤ 1 := by split <;> simp
theorem pvI_len (f : Fn) (S : List Nat) (T : Nat → Nat) (b i : Nat) : (pvI f S T b i).length ≤ b + 1 := by
  unfold pvI
  rw [List.length_append, List.length_map]
  have h1 := ite_one (i = 0) (-1)
  have h2 := List.length_filter_le (fun j => decide (((i : Nat) : Int) ∈ nxI f S (T j))) (List.range b)
  rw [List.length_range] at h2
  omega
theorem behind_len (x : Ins) (pc : Nat) : (behind x pc).length ≤ 2 := by
  unfold behind
  repeat' split
  all_goals simp
theorem sort2_len (l : List Int) : (sort2 l).length = l.length := by
  unfold sort2
  split
  · split <;> rfl
  · rfl
theorem comp2_len (l : List Int) : (comp2 l).length ≤ l.length := by
  unfold comp2
  split
  · split <;> simp
  · exact Nat.le_refl _
theorem sort2_mem (l : List Int) (z : Int) : z ∈ sort2 l ↔ z ∈ l := by
  unfold sort2
  split
  · split
    · simp [or_comm]
    · rfl
  · rfl
theorem comp2_mem (l : List Int) (z : Int) : z ∈ comp2 l ↔ z ∈ l := by
  unfold comp2
  split
  · split
    · rename_i h; subst h; simp
    · rfl
  · rfl
theorem nxI_mem (f : Fn) (S : List Nat) (t : Nat) (z : Int) : z ∈ nxI f S t ↔ ∃ q ∈ behind (insD f (t - 1)) (t - 1), z = ((rank S q : Nat) : Int) := by
  unfold nxI
  rw [comp2_mem, sort2_mem, List.mem_map]
  constructor
  · rintro ⟨q, h, rfl⟩; exact ⟨q, h, rfl⟩
  · rintro ⟨q, h, rfl⟩; exact ⟨q, h, rfl⟩
theorem two_rises {l : List Int} (h : l.length ≤ 2) : (comp2 (sort2 l)).Pairwise (· < ·) := by
  match l, h with
  | [], _ => exact List.Pairwise.nil
  | [a], _ => exact List.pairwise_singleton _ _
  | [a, b], _ =>
    have e1 : sort2 [a, b] = if b < a then [b, a] else [a, b] := rfl
    have e2 : ∀ x y : Int, comp2 [x, y] = if x = y then [x] else [x, y] := fun _ _ => rfl
    rw [e1]
    by_cases h1 : b < a
    · rw [if_pos h1, e2, if_neg (by omega)]
      simpa using h1
    · rw [if_neg h1, e2]
      by_cases h2 : a = b
      · rw [if_pos h2]; exact List.pairwise_singleton _ _
      · rw [if_neg h2]
        have : a < b := by omega
        simpa using this
theorem nxI_rises (f : Fn) (S : List Nat) (t : Nat) : (nxI f S t).Pairwise (· < ·) := two_rises (by rw [List.length_map]; exact behind_len _ _)
theorem nxI_len (f : Fn) (S : List Nat) (t : Nat) : (nxI f S t).length ≤ 2 := Nat.le_trans (comp2_len _) (by rw [sort2_len, List.length_map]; exact behind_len _ _)

/-- A list's slot is written anew: first its row, then the block's own cell. -/
theorem slot_put {w W W1 W' : World} {g k : Nat} {F T : Nat → Int} {VV : Nat → Value} {LL : Nat → List Int} (hg : g < w.heap.size) (hwW : w.grownBy W (some g)) (hrow : BlkRow W g k F T VV) (hsl : Slots W w.heap.size (2 * k) VV LL)
    (h1 : Below W.heap.size W W1) {s : Nat} (hs : s < 2 * k) (h2 : W1.grownBy W' (VV s).ownBlock) {v : Value} {l : List Int} (hown : OwnI W' w.heap.size v l) (hloc : v.ownBlock = (VV s).ownBlock ∨ ∃ q, v.ownBlock = some q ∧ W1.heap.size ≤ q) :
    BlkRow W' g k F T VV ∧ w.grownBy W' (some g) ∧ ∀ j, (bCells F T VV k).set j v = bCells F T (upd VV s v) k → BlkRow (W'.setCell ⟨g, j, none⟩ v) g k F T (upd VV s v) ∧ Slots (W'.setCell ⟨g, j, none⟩ v) w.heap.size (2 * k) (upd VV s v) (upd LL s l) ∧ w.grownBy (W'.setCell ⟨g, j, none⟩ v) (some g) := by
  have hz : w.heap.size ≤ W.heap.size := hwW.size
  have hs1 : Slots W1 w.heap.size (2 * k) VV LL := hsl.below h1
  have hge : ∀ q, (VV s).ownBlock = some q → w.heap.size ≤ q := fun q e => ((hs1.own s hs).lt q e).1
  have hne : (VV s).ownBlock ≠ some g := fun e => by have := hge g e; omega
  have hr1 : BlkRow W1 g k F T VV := ownsRow_below hrow h1
  have hr2 : BlkRow W' g k F T VV := World.ownsRow.kept hr1 h2 (Or.inr (by show some g ≠ _; exact fun e => hne e.symm))
  have hw1 : w.grownBy W1 (some g) := gb_trans hwW (gb_below _ h1)
  have hw2 : w.grownBy W' (some g) := hw1.andThen h2 (fun q e => Or.inl (hge q e))
  have hs2 := hs1.upd hs h2 hown hloc
  refine ⟨hr2, hw2, fun j e => ?_⟩
  obtain ⟨a, b⟩ := blk_store hr2 j v e
  exact ⟨a, hs2.kept b (fun q e => by cases e; exact hg), gb_trans hw2 b⟩
theorem own_newF {w : World} {base : Nat} (h : base ≤ w.heap.size) (l : List Int) (hl : l.length ≤ 1000) : OwnI (w.alloc (.cells (i64s l).toArray 3)) base (.slice (some ⟨w.heap.size, 0, none⟩) l.length l.length) l :=
  ⟨by simp [i64s], Or.inr ⟨w.heap.size, l.length, (i64s l).toArray, rfl, h, heap_alloc_last w _, Nat.le_refl _, by unfold maxLen; omega, by simp [i64s], List.take_of_length_le (by simp [i64s])⟩⟩

theorem own_snoc {w : World} {base n : Nat} {v : Value} {l : List Int} {z : Int} (hl : l.length = n) (h : w.ownsRow base 3 1 v (n + 1) (i64s l ++ i64s [z])) : OwnI w base v (l ++ [z]) := by
  rw [← i64s_append] at h
  have e : (l ++ [z]).length = n + 1 := by simp [hl]
  show World.ownsRow _ _ _ _ _ (l ++ [z]).length _
  rw [e]
  exact h
theorem lies_loc {v : Value} {g c n H : Nat} (h : v.ownBlock = some g ∨ g = H) : (Value.slice (some ⟨g, 0, none⟩) n c).ownBlock = v.ownBlock ∨ ∃ q, (Value.slice (some ⟨g, 0, none⟩) n c).ownBlock = some q ∧ H ≤ q := by
  rcases h with h | h
  · exact Or.inl h.symm
  · exact Or.inr ⟨g, rfl, by omega⟩
theorem upd_self {α : Type} (g : Nat → α) (i : Nat) : upd g i (g i) = g := by
  funext j
  unfold upd
  split
  · rename_i h; rw [h]
  · rfl
/-- Where an owned list lies. -/
theorem own_lies {w : World} {base : Nat} {v : Value} {l : List Int} (h : OwnI w base v l) : ∃ ao g cap, v = .slice ao l.length cap ∧ l.length ≤ cap ∧ cap ≤ 9223372036854775807 ∧ (0 < l.length → ao = some ⟨g, 0, none⟩ ∧ ∀ j, j < l.length → w.cell? ⟨g, j, none⟩ = some (.int .i64 (l.getD j 0))) := by
  have h0 := h
  rcases h.2 with ⟨rfl, hn⟩ | ⟨g, cap, cur, rfl, hbg, hh, hn, hm, hs, ht⟩
  · rw [hn]
    exact ⟨none, 0, 0, rfl, Nat.le_refl _, by omega, fun h => by omega⟩
  · refine ⟨_, g, cap, rfl, hn, by simpa [maxLen] using hm, fun _ => ⟨rfl, fun j hj => ?_⟩⟩
    rw [World.ownsRow.cellAt h0 j (by omega)]
    simp [i64s, List.getD, hj]
/-- How far the blocks are led. -/
def LeadTo (f : Fn) (S : List Nat) (T : Nat → Nat) (k b : Nat) (LL : Nat → List Int) : Prop := ∀ i, i < k → LL (2 * i) = (if i < b then nxI f S (T i) else []) ∧ LL (2 * i + 1) = pvI f S T b i

set_option maxRecDepth 100000 in
set_option maxHeartbeats 8000000 in
theorem lead_any (P : List Fn) (f : Fn) (ok : FlowOk P f) (S : List Nat) (hS : Starts f S) (D : Dat) (hD : MapOk S D) (B m g : Nat) (F : Nat → Int) (T : Nat → Nat) (hT : ∀ i (hi : i < S.length), EndAt f S S[i] (T i)) (cv : Value) (w0 w : World)
    (hb0 : Below w0.heap.size w0 w) (hg0 : w0.heap.size ≤ g) (hcv : CodeVal w0 cv f.code) (hown : MapAt w B m D) (hrow : BlkRow w g S.length F (fun i => ((T i : Nat) : Int)) (fun _ => .slice none 0 0)) :
    Calls Tryd.prog 64 #[.slice (some ⟨g, 0, none⟩) S.length S.length, cv, .map (some B)] w fun e w' => e = .returned (.tuple #[]) ∧ ∃ VV LL, BlkRow w' g S.length F (fun i => ((T i : Nat) : Int)) VV ∧ Slots w' w.heap.size (2 * S.length) VV LL ∧ LeadTo f S T S.length S.length LL ∧ w.grownBy w' (some g) := by
  obtain ⟨i64i, hi64, hz0, hz1', hz2⟩ := info_parts info64
  have hl1 := ok.ok.len1
  have hl2 := ok.ok.len2
  obtain ⟨hk0, hS0⟩ := hS.first
  have hgw : g < w.heap.size := (World.ownsRow.lt hrow g rfl).2
  have hBg : B ≠ g := fun e => by
    subst e
    obtain ⟨es, cl, hb, _⟩ := hown
    have c := blk_from hrow 0 hk0
    simp [World.cell?, hb] at c
  have HTI : Hid (∀ i, i < S.length → 1 ≤ T i ∧ T i ≤ f.code.length ∧ ∀ q ∈ behind (insD f (T i - 1)) (T i - 1), q ∈ S ∧ rank S q < S.length) := fun i hi => by
    have h := hT i hi
    refine ⟨by have := h.lt; omega, h.le, fun q hq => ?_⟩
    have hm := h.leads ok hS (hS.reach ok (List.getElem_mem hi)).1 hq
    exact ⟨hm, (rank_lt hS.rises hm).1⟩
  obtain ⟨ao2, b2, off2, n, cap2, rfl, ⟨hlen2, haddr2, hat2⟩, hcap2, hmx2⟩ := hcv
  obtain rfl := haddr2 (by omega)
  have hb2 : b2 < w0.heap.size := World.block_lt_of_cell? _ _ (hat2 0 (by omega)).1
  have HAT : Hid (∀ W, w.grownBy W (some g) → ∀ q, q < n → insAt W b2 (off2 + q * 5) (insD f q)) := fun W hW q hq => by
    have hqf : q < f.code.length := by rw [hlen2]; exact hq
    rw [insD_eq hqf]
    have h1 := (hat2 q hqf).keeps (keeps_below hb0)
    have hne : b2 ≠ g := by omega
    exact ⟨gb_cell hW h1.1 hne, gb_cell hW h1.2.1 hne, gb_cell hW h1.2.2.1 hne, gb_cell hW h1.2.2.2.1 hne, gb_cell hW h1.2.2.2.2 hne⟩
  have HMP : Hid (∀ W, w.grownBy W (some g) → MapAt W B m D) := fun W hW => hown.kept hW (by simpa using hBg)
  have HIN : Hid (∀ q, q < n → (insD f q).op = 15 ∨ (insD f q).op = 16 → 0 ≤ (insD f q).imm) := fun q hq => (ok.insD (by rw [hlen2]; exact hq)).2
  have HKY : Hid (∀ q ∈ S, ∀ zd : Dat, D.atKey (.int .i64 ((q : Nat) : Int)) zd = .lit (.int .i64 ((rank S q : Nat) : Int))) := hD.key
  have HSN : Hid (∀ q ∈ S, q < n) := fun q hq => by rw [← hlen2]; exact (hS.reach ok hq).2
  have hcc := hcap2.1
  rw [hlen2] at hl1 hl2 HTI
  have hkn : S.length ≤ 1000 := by
    have : rank S n = S.length := rank_all HSN.out
    have h2 : ∀ j, rank S j ≤ j := fun j => by
      induction j with
      | zero => rw [rank_zero]; omega
      | succ j ih => rw [rank_next hS.rises]; split <;> omega
    have := h2 n
    omega
  unfold maxLen at hmx2
  have c3 := blk_prev hrow 0 hk0
  simp only [Nat.zero_mul, Nat.zero_add] at c3
  have f3 := hrow.frozenAt 3
  have HR1 : Hid (BlkRow ((w.setCell ⟨g, 3, none⟩ (.slice (some ⟨w.heap.size, 0, none⟩) 1 1)).alloc (.cells #[.int .i64 (-1)] 3)) g S.length F (fun i => ((T i : Nat) : Int)) (upd (fun _ => .slice none 0 0) 1 (.slice (some ⟨w.heap.size, 0, none⟩) 1 1))) := by
    have h := (blk_store hrow 3 (.slice (some ⟨w.heap.size, 0, none⟩) 1 1) (by have e := bCells_prev F (fun i => ((T i : Nat) : Int)) (fun _ => Value.slice none 0 0) S.length 0 hk0 (.slice (some ⟨w.heap.size, 0, none⟩) 1 1); simpa using e)).1
    exact h.alloc _
  have HG1 : Hid (w.grownBy ((w.setCell ⟨g, 3, none⟩ (.slice (some ⟨w.heap.size, 0, none⟩) 1 1)).alloc (.cells #[.int .i64 (-1)] 3)) (some g)) := gb_trans (blk_store hrow 3 (.slice (some ⟨w.heap.size, 0, none⟩) 1 1) (by have e := bCells_prev F (fun i => ((T i : Nat) : Int)) (fun _ => Value.slice none 0 0) S.length 0 hk0 (.slice (some ⟨w.heap.size, 0, none⟩) 1 1); simpa using e)).2 (gb_alloc _ _ _)
  have HS1 : Hid (Slots ((w.setCell ⟨g, 3, none⟩ (.slice (some ⟨w.heap.size, 0, none⟩) 1 1)).alloc (.cells #[.int .i64 (-1)] 3)) w.heap.size (2 * S.length) (upd (fun _ => .slice none 0 0) 1 (.slice (some ⟨w.heap.size, 0, none⟩) 1 1)) (upd (fun _ => []) 1 [-1])) := by
    have h := Slots.nils (w.setCell ⟨g, 3, none⟩ (.slice (some ⟨w.heap.size, 0, none⟩) 1 1)) w.heap.size (2 * S.length)
    have hz : (w.setCell ⟨g, 3, none⟩ (.slice (some ⟨w.heap.size, 0, none⟩) 1 1)).heap.size = w.heap.size := by simp
    have ho := own_newF (w := w.setCell ⟨g, 3, none⟩ (.slice (some ⟨w.heap.size, 0, none⟩) 1 1)) (base := w.heap.size) (by omega) [-1] (by simp)
    rw [hz] at ho
    exact h.upd (s := 1) (by omega) (gb_alloc _ _ _) ho (Or.inr ⟨w.heap.size, rfl, by omega⟩)
  have HL1 : Hid (LeadTo f S T S.length 0 (upd (fun _ => []) 1 [-1])) := fun i hi => by
    refine ⟨by rw [if_neg (by omega), upd_other _ (by omega)], ?_⟩
    unfold pvI
    by_cases h : i = 0
    · subst h; simp [upd]
    · rw [if_neg h, upd_other _ (by omega)]; rfl
  have HLN : Hid (∀ b LL, b < S.length → LeadTo f S T S.length b LL → ∀ LL', (∀ i, i < S.length → LL' (2 * i) = (if i = b then nxI f S (T b) else LL (2 * i)) ∧ LL' (2 * i + 1) = LL (2 * i + 1) ++ (if ((i : Nat) : Int) ∈ nxI f S (T b) then [((b : Nat) : Int)] else [])) → LeadTo f S T S.length (b + 1) LL') := fun b LL hb h LL' h' i hi => by
    obtain ⟨a1, a2⟩ := h' i hi
    obtain ⟨b1, b2⟩ := h i hi
    refine ⟨?_, by rw [a2, b2, pvI_next]⟩
    rw [a1]
    by_cases he : i = b
    · subst he; rw [if_pos rfl, if_pos (by omega)]
    · rw [if_neg he, b1]
      by_cases hl : i < b
      · rw [if_pos hl, if_pos (by omega)]
      · rw [if_neg hl, if_neg (by omega)]
  clear hcap2 hat2 haddr2 hlen2 hb0 hown hrow hT hS0 hD hS ok
  generalize S.length = k at *
  go_enter Tryd.func64, Tryd.ntmps64
  go_wp2
  clear c3 f3
  go_loopw [18] (fun i wr => ∃ (b : Nat) (VV : Nat → Value) (LL : Nat → List Int), b ≤ k ∧ i = .int .i64 b ∧ LeadTo f S T k b LL ∧ BlkRow wr g k F (fun i => ((T i : Nat) : Int)) VV ∧ Slots wr w.heap.size (2 * k) VV LL ∧ w.grownBy wr (some g)) (fun i _ => k - (intOf i).toNat)
  case atStart => exact ⟨0, _, _, Nat.zero_le _, rfl, HL1.out, HR1.out, HS1.out, HG1.out⟩
  case round =>
    obtain ⟨b, VV, LL, hb, rfl, hld, hrow, hsl, hgr⟩ := hrel
    rename World => wo
    have HLD : Hid (LeadTo f S T k b LL) := hld
    have HGO : Hid (w.grownBy wo (some g)) := hgr
    have hzo : w.heap.size ≤ wo.heap.size := hgr.size
    have HRO : Hid (BlkRow wo g k F (fun i => ((T i : Nat) : Int)) VV) := hrow
    have HSO : Hid (Slots wo w.heap.size (2 * k) VV LL) := hsl
    by_cases hlt : b < k
    · obtain ⟨t1, t2, tm⟩ := HTI.out b hlt
      obtain ⟨t, ht⟩ : ∃ t, T b = t + 1 := ⟨T b - 1, by omega⟩
      have ct := blk_to hrow b hlt
      have htn : t < n := by omega
      have hw1 : IntKind.i64.wrap (((t + 1 : Nat) : Int) - 1) = (t : Int) := by rw [show ((t + 1 : Nat) : Int) - 1 = t by omega]; exact wrap_signed _ (by omega) (by omega)
      obtain ⟨d0, d1, d2, d3, d4⟩ := HAT.out wo hgr t htn
      have hon := fun W => onward_any (insD f t) t W (HIN.out t htn) (by omega)
      have HNX : Hid (nxI f S (T b) = comp2 (sort2 ((behind (insD f t) t).map fun q => ((rank S q : Nat) : Int)))) := by
        show _ = _
        unfold nxI
        rw [ht, Nat.add_sub_cancel]
      rw [ht, Nat.add_sub_cancel] at tm
      have HTM : Hid (∀ q ∈ behind (insD f t) t, q ∈ S ∧ rank S q < k) := tm
      have HLB : Hid (LL (2 * b) = []) := by
        show _ = _
        rw [(hld b hlt).1, if_neg (by omega)]
      have HBL : Hid ((behind (insD f t) t).length ≤ 2) := behind_len _ _
      rw [ht] at ct
      have hbi : ∃ bI, bI = behindI (insD f t) t := ⟨_, rfl⟩
      obtain ⟨bI, hbI⟩ := hbi
      have HBI : Hid (bI = (behind (insD f t) t).map fun (n : Nat) => (n : Int)) := hbI
      rw [← hbI] at hon
      clear hbI tm hld hrow hsl hgr
      generalize behind (insD f t) t = bs at HBI HNX HTM HBL
      generalize insD f t = xx at d0 d1 d2 d3 d4 hon
      obtain ⟨op, dst, xa, xb, imm⟩ := xx
      unfold Ins.val at hon
      dsimp only at d0 d1 d2 d3 d4 hon
      have hbI2 : (b : Int) < k := by omega
      have htI : (t : Int) < n := by omega
      generalize hTT : ((t + 1 : Nat) : Int) = TT at ct hw1
      clear hTT ht
      go_wp2_with (go_at_call 87; refine (hon _).mono ?_; rintro e w2 ⟨v1, rfl, hI1, hfr1, hb1⟩; obtain ⟨ao1, b1, off1, n1, cap1, rfl, hl1', ha1, hc1, hcp1, hmx1⟩ := hI1)
      have hz2' := hb1.size
      have HG2 : Hid (w.grownBy w2 (some g)) := gb_trans HGO.out (gb_below _ hb1)
      have HR2 : Hid (BlkRow w2 g k F (fun i => ((T i : Nat) : Int)) VV) := ownsRow_below HRO.out hb1
      have HS2 : Hid (Slots w2 w.heap.size (2 * k) VV LL) := HSO.out.below hb1
      have HL1' : Hid (bI.length = n1) := hl1'
      have HA1 : Hid (0 < n1 → ao1 = some ⟨b1, off1, none⟩) := ha1
      have HC1 : Hid (∀ j (h : j < bI.length), w2.cell? ⟨b1, off1 + j, none⟩ = some (.int .i64 bI[j])) := hc1
      have HBF : Hid (0 < n1 → b1 ≠ g ∧ b1 < w2.heap.size ∧ ∀ s, s < 2 * k → (VV s).ownBlock ≠ some b1) := fun h0 => by
        have e0 := ha1 h0
        subst e0
        have h1 := hfr1 b1 off1 n1 cap1 rfl
        refine ⟨by omega, World.block_lt_of_cell? _ _ (hc1 0 (by omega)), fun s hs e => ?_⟩
        have := ((HSO.out.own s hs).lt b1 e).2
        omega
      have hn2 : n1 ≤ 2 := by have := HBL.out; rw [← hl1', HBI.out, List.length_map]; exact this
      have hcp := hcp1.1
      unfold maxLen at hmx1
      clear hl1' ha1 hc1 hcp1 hb1 hon d0 d1 d2 d3 d4 hfr1 ct HSO HRO HGO
      go_loopw [34] (fun i wi => ∃ (e : Nat) (V' : Nat → Value) (L' : Nat → List Int), e ≤ n1 ∧ i = .int .i64 e ∧ (∀ s, s ≠ 2 * b → L' s = LL s) ∧ L' (2 * b) = (bs.take e).map (fun q => ((rank S q : Nat) : Int)) ∧ BlkRow wi g k F (fun i => ((T i : Nat) : Int)) V' ∧ Slots wi w.heap.size (2 * k) V' L' ∧ w.grownBy wi (some g) ∧
          (0 < n1 → b1 < wi.heap.size ∧ (∀ s, s < 2 * k → (V' s).ownBlock ≠ some b1) ∧ ∀ j (h : j < bI.length), wi.cell? ⟨b1, off1 + j, none⟩ = some (.int .i64 bI[j]))) (fun i _ => n1 - (intOf i).toNat)
      case atStart => exact ⟨0, VV, LL, Nat.zero_le _, rfl, fun _ _ => rfl, by rw [HLB.out]; rfl, HR2.out, HS2.out, HG2.out, fun h0 => ⟨(HBF.out h0).2.1, (HBF.out h0).2.2, HC1.out⟩⟩
      case round =>
        obtain ⟨e, V', L', he, rfl, hoth, hLb, hrow, hsl, hgr, hkeep⟩ := hrel
        have HOT : Hid (∀ s, s ≠ 2 * b → L' s = LL s) := hoth
        have HRI : Hid (BlkRow wr g k F (fun i => ((T i : Nat) : Int)) V') := hrow
        have HSI : Hid (Slots wr w.heap.size (2 * k) V' L') := hsl
        have HGI : Hid (w.grownBy wr (some g)) := hgr
        have hzr : w.heap.size ≤ wr.heap.size := hgr.size
        by_cases hle : e < n1
        · obtain rfl := HA1.out (by omega)
          obtain ⟨kb1, kb2, kb3⟩ := hkeep (by omega)
          have heb : e < bI.length := by rw [HL1'.out]; exact hle
          have heb2 : e < bs.length := by have := heb; rw [HBI.out] at this; simpa using this
          have cq := kb3 e heb
          have hto : bI[e] = ((bs[e] : Nat) : Int) := by simp [HBI.out]
          rw [hto] at cq
          obtain ⟨hmS, hrk⟩ := HTM.out _ (List.getElem_mem heb2)
          have htq := HSN.out _ hmS
          have HTK : Hid ((bs.take (e + 1)).map (fun q => ((rank S q : Nat) : Int)) = (bs.take e).map (fun q => ((rank S q : Nat) : Int)) ++ [((rank S bs[e] : Nat) : Int)]) := by
            show _ = _
            rw [List.take_add_one, List.getElem?_eq_getElem heb2, List.map_append]; rfl
          have hLen : (L' (2 * b)).length = e := by rw [hLb, List.length_map, List.length_take]; omega
          have hownN := hsl.own (2 * b) (by omega)
          obtain ⟨aoN, capN, hvN⟩ := own_shape hownN
          rw [hLen] at hvN
          have HVN : Hid (V' (2 * b) = .slice aoN e capN) := hvN
          have hlk : (Instr.lookup 90 (.map (some B)) (.int .i64 ((bs[e] : Nat) : Int)) false).run Tryd.prog wr.drew = .ok (.int .i64 ((rank S bs[e] : Nat) : Int)) wr.drew := by
            have hM : MapAt wr.drew B m D := HMP.out wr hgr
            obtain ⟨c, h1, h2, _⟩ := hM.lookup_int mlaw Tryd.underlying90 Tryd.underlying3 (zero_int _) (Maps.keyOf_int_mk Tryd.underlying3 (WalkArith.wf_i64 (n := ((bs[e] : Nat) : Int)) (by omega)))
            rw [HKY.out _ hmS] at h2
            simp at h2
            rw [← h2] at h1
            exact h1
          have cN := blk_next hrow b hlt
          have fN := hrow.frozenAt (b * 4 + 2)
          rw [hvN] at cN
          have OWN : Hid (wr.drew.ownsRow w.heap.size 3 1 (.slice aoN e capN) e (i64s (L' (2 * b)))) := by
            have h := hownN
            rw [hvN] at h
            have h' : wr.ownsRow w.heap.size 3 1 (.slice aoN e capN) (L' (2 * b)).length (i64s (L' (2 * b))) := h
            rw [hLen] at h'
            exact ownsRow_below h' (Below.refl _ _).drew
          have HPUT : Hid (∀ (o : Obj) (W' : World) (v : Value) (l : List Int), (wr.drew.alloc o).grownBy W' (Value.slice aoN e capN).ownBlock → OwnI W' w.heap.size v l → (v.ownBlock = (Value.slice aoN e capN).ownBlock ∨ ∃ q, v.ownBlock = some q ∧ wr.heap.size + 1 ≤ q) → BlkRow W' g k F (fun i => ((T i : Nat) : Int)) V' ∧ w.grownBy W' (some g) ∧ ∀ j, (bCells F (fun i => ((T i : Nat) : Int)) V' k).set j v = bCells F (fun i => ((T i : Nat) : Int)) (upd V' (2 * b) v) k → BlkRow (W'.setCell ⟨g, j, none⟩ v) g k F (fun i => ((T i : Nat) : Int)) (upd V' (2 * b) v) ∧ Slots (W'.setCell ⟨g, j, none⟩ v) w.heap.size (2 * k) (upd V' (2 * b) v) (upd L' (2 * b) l) ∧ w.grownBy (W'.setCell ⟨g, j, none⟩ v) (some g)) := fun o W' v l h2 ho hl => slot_put (s := 2 * b) hgw HGI.out HRI.out HSI.out (((Below.refl _ _).alloc (Nat.le_refl _) o).drew) (by omega) (by rw [hvN]; exact h2) ho (by rw [hvN]; exact hl.imp id (fun ⟨q, h, hq⟩ => ⟨q, h, by simpa using hq⟩))
          have HK1 : Hid (∀ (o : Obj) (W' : World) (v : Value), (wr.drew.alloc o).grownBy W' (Value.slice aoN e capN).ownBlock → (v.ownBlock = (Value.slice aoN e capN).ownBlock ∨ ∃ q, v.ownBlock = some q ∧ wr.heap.size + 1 ≤ q) → ∀ a u, a.block = g → b1 < (W'.setCell a u).heap.size ∧ (∀ s, s < 2 * k → (upd V' (2 * b) v s).ownBlock ≠ some b1) ∧ ∀ j (h : j < bI.length), (W'.setCell a u).cell? ⟨b1, off1 + j, none⟩ = some (.int .i64 bI[j])) := fun o W' v h2 hl a u ha => by
            have hb1n : (Value.slice aoN e capN).ownBlock ≠ some b1 := by rw [← hvN]; exact kb2 (2 * b) (by omega)
            have hz := h2.size
            simp at hz
            refine ⟨by simp; omega, fun s hs => ?_, fun j hj => ?_⟩
            · by_cases hs2 : s = 2 * b
              · subst hs2
                rw [upd_same]
                rcases hl with h | ⟨q, h, hq⟩
                · rw [h]; exact hb1n
                · rw [h]; simp; omega
              · rw [upd_other _ hs2]; exact kb2 s hs
            · have c1 := kb3 j hj
              have c2 : (wr.drew.alloc o).cell? ⟨b1, off1 + j, none⟩ = some (.int .i64 bI[j]) := cell_alloc c1 o
              have c3 : W'.cell? ⟨b1, off1 + j, none⟩ = some (.int .i64 bI[j]) := by
                rw [World.cell?_of_block (h2.block b1 (World.block_lt_of_cell? _ _ c2) (fun e => hb1n e.symm))]; exact c2
              rw [World.cell?_of_block (heap_setCell_other _ _ _ _ (by rw [ha]; exact (HBF.out (by omega)).1))]
              exact c3
          have HLN2 : Hid ((L' (2 * b)).length = e) := hLen
          have HLb : Hid (L' (2 * b) = (bs.take e).map (fun q => ((rank S q : Nat) : Int))) := hLb
          have heI : (e : Int) < n1 := by omega
          clear hoth hLb hrow hsl hgr hkeep kb2 kb3 hto hownN hvN hmS hLen
          generalize hRK : ((rank S bs[e] : Nat) : Int) = rk at hlk HTK
          clear hRK
          generalize ((bs[e] : Nat) : Int) = tt at cq hlk
          have cNa := fun o => cell_alloc cN o
          have a1 : e + 1 ≤ maxLen := by unfold maxLen; omega
          have a2 : (e + 1) * 8 ≤ 140737488355328 := by omega
          have a3 : ∀ o, w.heap.size ≤ (wr.drew.alloc o).heap.size := fun o => by simp; omega
          have a4 : ∀ o, (wr.drew.alloc o).heap.size = wr.heap.size + 1 := fun o => by simp
          have HQ2 : Hid (∀ W', BlkRow W' g k F (fun i => ((T i : Nat) : Int)) V' → W'.cell? ⟨g, b * 4 + 2, none⟩ = some (.slice aoN e capN)) := fun W' h => by rw [blk_next h b hlt, HVN.out]
          go_wp2_with fail
          go_region_law ((refine step_append_lies _ (by rfl) (.tmp 44) (.tmp 48) 37 (by rfl) w.heap.size 3 i64i _ 1 8 Tryd.underlying37 hi64 hz0 hz1' hz2 rfl (by decide) (.slice aoN e capN) e (i64s (L' (2 * b))) (by rfl) (OWN.out.alloc _) ⟨wr.heap.size, 0, none⟩ 1 1 (i64s [rk]) (by rfl) rfl (news_list _ _ _ _ rfl) (i64s_one _) Nat.one_pos a1 a2 (a3 _) (wr.heap.size + 1) (a4 _) ?_; intro g4 cap4 w4 hown4 hg4 hat4 hlt4; have HOI := own_snoc HLN2.out hown4; have HQ := HPUT.out _ _ _ _ hg4 HOI (lies_loc hat4); have HKK := HK1.out _ _ (.slice (some ⟨g4, 0, none⟩) (e + 1) cap4) hg4 (lies_loc hat4); have q2 := HQ2.out _ HQ.1; have qf := HQ.1.frozenAt (b * 4 + 2)))
          all_goals
            have HQH : Hid _ := HQ
            have HKH : Hid _ := HKK
            clear HQ HKK HOI hown4 hg4 hat4
            go_wp2
            go_roundw
            case rel => exact ⟨e + 1, _, _, by omega, by go_num, fun s hs => by rw [upd_other _ hs]; exact HOT.out s hs, by rw [upd_same, HTK.out, HLb.out], (HQH.out.2.2 (b * 4 + 2) (bCells_next _ _ _ _ _ hlt _)).1, (HQH.out.2.2 (b * 4 + 2) (bCells_next _ _ _ _ _ hlt _)).2.1, (HQH.out.2.2 (b * 4 + 2) (bCells_next _ _ _ _ _ hlt _)).2.2, fun _ => HKH.out _ _ rfl⟩
            case measure => simp [intOf]; omega
        · obtain rfl : e = n1 := by omega
          have hfin : bs.take e = bs := List.take_of_length_le (by have := HL1'.out; rw [HBI.out] at this; simp at this; omega)
          rw [hfin] at hLb
          have HNB : Hid (comp2 (sort2 (L' (2 * b))) = nxI f S (T b)) := by
            show _ = _
            rw [hLb, HNX.out]
          have hLen : (L' (2 * b)).length ≤ 2 := by rw [hLb, List.length_map]; exact HBL.out
          have hownN := hsl.own (2 * b) (by omega)
          obtain ⟨aoN, capN, hvN⟩ := own_shape hownN
          have HVN : Hid (V' (2 * b) = .slice aoN (L' (2 * b)).length capN) := hvN
          have cN := blk_next hrow b hlt
          rw [hvN] at cN
          have HSRT : Hid (Calls Tryd.prog 88 #[.slice aoN (L' (2 * b)).length capN] wr fun e w' => e = .returned (.tuple #[]) ∧ OwnI w' w.heap.size (V' (2 * b)) (sort2 (L' (2 * b))) ∧ wr.grownBy w' (V' (2 * b)).ownBlock) := by
            have h := sort_own (L' (2 * b)) hLen (V' (2 * b)) w.heap.size wr hownN
            rw [hvN] at h ⊢
            exact h
          have HCMP : Hid (∀ W, OwnI W w.heap.size (V' (2 * b)) (sort2 (L' (2 * b))) → Calls Tryd.prog 89 #[.slice aoN (L' (2 * b)).length capN] W fun e w' => ∃ v', e = .returned v' ∧ OwnI w' w.heap.size v' (comp2 (sort2 (L' (2 * b)))) ∧ v'.ownBlock = (V' (2 * b)).ownBlock ∧ W.grownBy w' (V' (2 * b)).ownBlock) := fun W hW => by
            have h := compact_own (sort2 (L' (2 * b))) (by rw [sort2_len]; exact hLen) (V' (2 * b)) w.heap.size W hW
            rw [hvN] at h ⊢
            exact h
          have HP5 : Hid (∀ W, OwnI W w.heap.size (V' (2 * b)) (sort2 (L' (2 * b))) → wr.grownBy W (V' (2 * b)).ownBlock → BlkRow W g k F (fun i => ((T i : Nat) : Int)) V' ∧ Slots W w.heap.size (2 * k) V' (upd L' (2 * b) (sort2 (L' (2 * b)))) ∧ w.grownBy W (some g) ∧ W.cell? ⟨g, b * 4 + 2, none⟩ = some (.slice aoN (L' (2 * b)).length capN)) := fun W ho hgW => by
            have h1 := slot_put (s := 2 * b) hgw HGI.out HRI.out HSI.out (Below.refl _ _) (by omega) hgW ho (Or.inl rfl)
            have h2 := HSI.out.upd (s := 2 * b) (by omega) hgW ho (Or.inl rfl)
            rw [upd_self] at h2
            exact ⟨h1.1, h2, h1.2.1, by rw [blk_next h1.1 b hlt, HVN.out]⟩
          have HP6 : Hid (∀ W W' v, OwnI W w.heap.size (V' (2 * b)) (sort2 (L' (2 * b))) → wr.grownBy W (V' (2 * b)).ownBlock → OwnI W' w.heap.size v (comp2 (sort2 (L' (2 * b)))) → v.ownBlock = (V' (2 * b)).ownBlock → W.grownBy W' (V' (2 * b)).ownBlock →
              (W'.cell? ⟨g, b * 4 + 2, none⟩ = some (.slice aoN (L' (2 * b)).length capN) ∧ W'.frozen? ⟨g, b * 4 + 2, none⟩ = false) ∧ BlkRow (W'.setCell ⟨g, b * 4 + 2, none⟩ v) g k F (fun i => ((T i : Nat) : Int)) (upd V' (2 * b) v) ∧ Slots (W'.setCell ⟨g, b * 4 + 2, none⟩ v) w.heap.size (2 * k) (upd V' (2 * b) v) (upd L' (2 * b) (comp2 (sort2 (L' (2 * b))))) ∧ w.grownBy (W'.setCell ⟨g, b * 4 + 2, none⟩ v) (some g)) := fun W W' v h1 h2 h3 h4 h5 => by
            obtain ⟨r5, s5, g5, _⟩ := HP5.out W h1 h2
            have h6 := slot_put (s := 2 * b) hgw g5 r5 s5 (Below.refl _ _) (by omega) h5 h3 (Or.inl h4)
            have h7 := h6.2.2 (b * 4 + 2) (bCells_next _ _ _ _ _ hlt _)
            refine ⟨⟨by rw [blk_next h6.1 b hlt, HVN.out], h6.1.frozenAt _⟩, h7.1, ?_, h7.2.2⟩
            have e : upd (upd L' (2 * b) (sort2 (L' (2 * b)))) (2 * b) (comp2 (sort2 (L' (2 * b)))) = upd L' (2 * b) (comp2 (sort2 (L' (2 * b)))) := by
              funext j; unfold upd; split <;> rfl
            have h8 := h7.2.1
            rw [e] at h8
            exact h8
          have hLn3 : (L' (2 * b)).length ≤ 9223372036854775807 := by omega
          have HKM : Hid (∀ z ∈ nxI f S (T b), ∃ j : Nat, j < k ∧ z = (j : Int)) := fun z hz => by
            rw [HNX.out, comp2_mem, sort2_mem, List.mem_map] at hz
            obtain ⟨q, hq, rfl⟩ := hz
            exact ⟨rank S q, (HTM.out q hq).2, rfl⟩
          have HRS : Hid ((nxI f S (T b)).Pairwise (· < ·)) := nxI_rises _ _ _
          have HN2 : Hid ((nxI f S (T b)).length ≤ 2) := nxI_len _ _ _
          clear hLb hrow hsl hgr hkeep hfin hownN hoth hvN
          go_wp2_with (first
            | (go_at_call 88; refine HSRT.out.mono ?_; rintro e5 w5 ⟨rfl, ho5, hg5⟩; have c5 := (HP5.out w5 ho5 hg5).2.2.2)
            | (go_at_call 89; refine (HCMP.out w5 ho5).mono ?_; rintro e6 w6 ⟨v6, rfl, ho6, hl6, hg6⟩; have HP := HP6.out w5 w6 v6 ho5 hg5 ho6 hl6 hg6; rw [HNB.out] at ho6; obtain ⟨ao6, g6, cap6, rfl, hc6, hm6, -⟩ := own_lies ho6; have c6 := HP.1.1; have f6 := HP.1.2))
          have HPH : Hid _ := HP.2
          rw [HNB.out] at HPH
          clear HP c5 c6 f6 ho5 hg5 ho6 hl6 hg6 HP5 HP6 HCMP HSRT
          obtain ⟨N6, hN6⟩ : ∃ N6, N6 = (nxI f S (T b)).length := ⟨_, rfl⟩
          have HN6 : Hid (N6 = (nxI f S (T b)).length) := hN6
          rw [← hN6] at hc6
          rw [← hN6] at HPH
          rw [← hN6]
          have hN62 : N6 ≤ 2 := by rw [hN6]; exact HN2.out
          clear hN6
          generalize hW7 : w6.setCell ⟨g, b * 4 + 2, none⟩ (.slice ao6 N6 cap6) = w7 at *
          clear hW7
          go_loopw [75] (fun i wi => ∃ (e : Nat) (V2 : Nat → Value) (L2 : Nat → List Int), e ≤ N6 ∧ i = .int .i64 e ∧ V2 (2 * b) = .slice ao6 N6 cap6 ∧ (∀ i, i < k → L2 (2 * i) = (if i = b then nxI f S (T b) else LL (2 * i)) ∧ L2 (2 * i + 1) = LL (2 * i + 1) ++ (if ((i : Nat) : Int) ∈ (nxI f S (T b)).take e then [((b : Nat) : Int)] else [])) ∧ BlkRow wi g k F (fun i => ((T i : Nat) : Int)) V2 ∧ Slots wi w.heap.size (2 * k) V2 L2 ∧ w.grownBy wi (some g)) (fun i _ => N6 - (intOf i).toNat)
          case atStart =>
            exact ⟨0, _, _, Nat.zero_le _, rfl, upd_same _ _ _, fun i hi => by
              constructor
              · by_cases hib : i = b
                · subst hib; rw [if_pos rfl, upd_same]
                · rw [if_neg hib, upd_other _ (by omega)]; exact HOT.out _ (by omega)
              · rw [upd_other _ (by omega), HOT.out _ (by omega)]; simp, HPH.out.1, HPH.out.2.1, HPH.out.2.2⟩
          case round =>
            obtain ⟨e3, V2, L2, he3, rfl, hv2, hl2, hrow, hsl, hgr⟩ := hrel
            have HL2 : Hid (∀ i, i < k → L2 (2 * i) = (if i = b then nxI f S (T b) else LL (2 * i)) ∧ L2 (2 * i + 1) = LL (2 * i + 1) ++ (if ((i : Nat) : Int) ∈ (nxI f S (T b)).take e3 then [((b : Nat) : Int)] else [])) := hl2
            have HR7 : Hid (BlkRow wr g k F (fun i => ((T i : Nat) : Int)) V2) := hrow
            have HS7 : Hid (Slots wr w.heap.size (2 * k) V2 L2) := hsl
            have HG7 : Hid (w.grownBy wr (some g)) := hgr
            have HV2 : Hid (V2 (2 * b) = .slice ao6 N6 cap6) := hv2
            have hzr : w.heap.size ≤ wr.heap.size := hgr.size
            by_cases hle : e3 < N6
            · have hnl : e3 < (nxI f S (T b)).length := by rw [← HN6.out]; exact hle
              have hLb2 : L2 (2 * b) = nxI f S (T b) := by rw [(hl2 b hlt).1, if_pos rfl]
              have hownB := hsl.own (2 * b) (by omega)
              rw [hv2, hLb2] at hownB
              obtain ⟨ao8, g8, cap8, e8, -, -, hat8⟩ := own_lies hownB
              rw [← HN6.out] at e8 hat8
              simp only [Value.slice.injEq, true_and] at e8
              obtain ⟨rfl, rfl⟩ := e8
              obtain ⟨rfl, hc8⟩ := hat8 (by omega)
              have cq := hc8 e3 hle
              obtain ⟨j, hjk, hje⟩ := HKM.out ((nxI f S (T b)).getD e3 0) (by simp [List.getD, hnl])
              have HJE : Hid ((nxI f S (T b))[e3]? = some (j : Int)) := by
                show _ = _
                rw [List.getElem?_eq_getElem hnl, ← hje]
                simp [List.getD, hnl]
              rw [hje] at cq
              have hnot : ¬ ((j : Nat) : Int) ∈ (nxI f S (T b)).take e3 := fun hm => by
                obtain ⟨i, hi, he⟩ := List.getElem_of_mem hm
                have hi2 : i < e3 := by rw [List.length_take] at hi; omega
                have hlt2 := (List.pairwise_iff_getElem.1 HRS.out) i e3 (by omega) hnl hi2
                rw [List.getElem_take] at he
                have he3 : (nxI f S (T b))[e3] = (j : Int) := by
                  have := HJE.out
                  rw [List.getElem?_eq_getElem hnl] at this
                  exact Option.some.inj this
                omega
              have hownP := hsl.own (2 * j + 1) (by omega)
              obtain ⟨aoP, capP, hvP⟩ := own_shape hownP
              have hLP : (L2 (2 * j + 1)).length ≤ 1000000 := by
                rw [(hl2 j hjk).2, (HLD.out j hjk).2]
                rw [List.length_append]
                have h1 := pvI_len f S T b j
                have h2 := ite_one (((j : Nat) : Int) ∈ (nxI f S (T b)).take e3) ((b : Nat) : Int)
                omega
              have HVP : Hid (V2 (2 * j + 1) = .slice aoP (L2 (2 * j + 1)).length capP) := hvP
              have cP := blk_prev hrow j hjk
              have fP := hrow.frozenAt (j * 4 + 3)
              rw [hvP] at cP
              have OWP : Hid (wr.ownsRow w.heap.size 3 1 (.slice aoP (L2 (2 * j + 1)).length capP) (L2 (2 * j + 1)).length (i64s (L2 (2 * j + 1)))) := by
                have h := hownP
                rw [hvP] at h
                exact h
              have HPUT : Hid (∀ (o : Obj) (W' : World) (v : Value) (l : List Int), (wr.alloc o).grownBy W' (Value.slice aoP (L2 (2 * j + 1)).length capP).ownBlock → OwnI W' w.heap.size v l → (v.ownBlock = (Value.slice aoP (L2 (2 * j + 1)).length capP).ownBlock ∨ ∃ q, v.ownBlock = some q ∧ wr.heap.size + 1 ≤ q) →
                  (W'.cell? ⟨g, j * 4 + 3, none⟩ = some (.slice aoP (L2 (2 * j + 1)).length capP) ∧ W'.frozen? ⟨g, j * 4 + 3, none⟩ = false) ∧ BlkRow (W'.setCell ⟨g, j * 4 + 3, none⟩ v) g k F (fun i => ((T i : Nat) : Int)) (upd V2 (2 * j + 1) v) ∧ Slots (W'.setCell ⟨g, j * 4 + 3, none⟩ v) w.heap.size (2 * k) (upd V2 (2 * j + 1) v) (upd L2 (2 * j + 1) l) ∧ w.grownBy (W'.setCell ⟨g, j * 4 + 3, none⟩ v) (some g)) := fun o W' v l h2 ho hl => by
                have h := slot_put (s := 2 * j + 1) hgw HG7.out HR7.out HS7.out ((Below.refl _ _).alloc (Nat.le_refl _) o) (by omega) (by rw [HVP.out]; exact h2) ho (by rw [HVP.out]; exact hl.imp id (fun ⟨q, h, hq⟩ => ⟨q, h, by simpa using hq⟩))
                have h7 := h.2.2 (j * 4 + 3) (bCells_prev _ _ _ _ _ hjk _)
                exact ⟨⟨by rw [blk_prev h.1 j hjk, HVP.out], h.1.frozenAt _⟩, h7.1, h7.2.1, h7.2.2⟩
              have HNEW : Hid (∀ i, i < k → upd L2 (2 * j + 1) (L2 (2 * j + 1) ++ [((b : Nat) : Int)]) (2 * i) = (if i = b then nxI f S (T b) else LL (2 * i)) ∧ upd L2 (2 * j + 1) (L2 (2 * j + 1) ++ [((b : Nat) : Int)]) (2 * i + 1) = LL (2 * i + 1) ++ (if ((i : Nat) : Int) ∈ (nxI f S (T b)).take (e3 + 1) then [((b : Nat) : Int)] else [])) := fun i hi => by
                refine ⟨by rw [upd_other _ (by omega)]; exact (HL2.out i hi).1, ?_⟩
                rw [List.take_add_one, HJE.out]
                by_cases hij : i = j
                · subst hij
                  rw [upd_same, (HL2.out i hi).2, if_neg hnot, if_pos (by simp), List.append_nil]
                · rw [upd_other _ (by omega), (HL2.out i hi).2]
                  have hne : ¬ ((i : Nat) : Int) = ((j : Nat) : Int) := by omega
                  have e9 : (((i : Nat) : Int) ∈ (nxI f S (T b)).take e3 ++ (some ((j : Nat) : Int)).toList) ↔ ((i : Nat) : Int) ∈ (nxI f S (T b)).take e3 := by simp [hne]
                  by_cases hm : ((i : Nat) : Int) ∈ (nxI f S (T b)).take e3
                  · rw [if_pos hm, if_pos (e9.2 hm)]
                  · rw [if_neg hm, if_neg (fun h => hm (e9.1 h))]
              have heI : (e3 : Int) < N6 := by omega
              have hjI : (j : Int) < k := by omega
              have a1 : (L2 (2 * j + 1)).length + 1 ≤ maxLen := by unfold maxLen; omega
              have a2 : ((L2 (2 * j + 1)).length + 1) * 8 ≤ 140737488355328 := by omega
              have a3 : ∀ o, w.heap.size ≤ (wr.alloc o).heap.size := fun o => by simp; omega
              have a4 : ∀ o, (wr.alloc o).heap.size = wr.heap.size + 1 := fun o => by simp
              have cPa := fun o => cell_alloc cP o
              clear hl2 hrow hsl hgr hv2 hLb2 hownB hat8 hc8 hje hnot hownP hvP hnl
              generalize hLL : L2 (2 * j + 1) = lp at *
              have HLL : Hid (L2 (2 * j + 1) = lp) := hLL
              clear hLL
              go_wp2_with (at_builtin; refine wpList_append_lies _ rfl (.tmp 85) (.tmp 87) 37 rfl w.heap.size 3 i64i _ 1 8 Tryd.underlying37 hi64 hz0 hz1' hz2 rfl (by decide) (.slice aoP lp.length capP) lp.length (i64s lp) rfl (OWP.out.alloc _) ⟨wr.heap.size, 0, none⟩ 1 1 (i64s [((b : Nat) : Int)]) rfl rfl (news_list _ _ _ _ rfl) (i64s_one _) Nat.one_pos a1 a2 (a3 _) (wr.heap.size + 1) (a4 _) ?_; intro g4 cap4 w4 hown4 hg4 hat4 hlt4; have HOI := own_snoc rfl hown4; have HQ := HPUT.out _ _ _ _ hg4 HOI (lies_loc hat4); have q2 := HQ.1.1; have qf := HQ.1.2)
              have HQH : Hid _ := HQ.2
              clear HQ HOI hown4 hg4 hat4
              go_roundw
              case rel => exact ⟨e3 + 1, _, _, by omega, by go_num, by rw [upd_other _ (by omega)]; exact HV2.out, HNEW.out, HQH.out.1, HQH.out.2.1, HQH.out.2.2⟩
              case measure => simp [intOf]; omega
            · obtain rfl : e3 = N6 := by omega
              have hfin : (nxI f S (T b)).take e3 = nxI f S (T b) := List.take_of_length_le (by rw [← HN6.out]; omega)
              have HNL : Hid (LeadTo f S T k (b + 1) L2) := HLN.out b LL hlt HLD.out L2 (fun i hi => by
                have h := HL2.out i hi
                rw [hfin] at h
                exact h)
              clear hl2 hrow hsl hgr hfin hv2
              go_wp2
              go_roundw
              case rel => exact ⟨b + 1, V2, L2, by omega, by go_num, HNL.out, HR7.out, HS7.out, HG7.out⟩
              case measure => simp [intOf]; omega
    · have HFI : Hid (LeadTo f S T k k LL) := by
        have : b = k := by omega
        subst this
        exact hld
      clear hld hrow hsl hgr
      go_wp2
      go_end0
      exact ⟨rfl, VV, LL, HRO.out, HSO.out, HFI.out, HGO.out⟩
end Go.Proofs.YteilohamjijpbaaDoor
