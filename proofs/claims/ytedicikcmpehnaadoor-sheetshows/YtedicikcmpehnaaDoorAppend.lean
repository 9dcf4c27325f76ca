/- Contracts of sheet.appendNumber, appendRegister: a piece of a line behind a row of bytes that the call has built. -/
import Derived.Test.YtedicikcmpehnaaDoorAppLay
import Derived.Test.YtedicikcmpehnaaDoorLine
import Derived.Test.YtedicikcmpehnaaDoorOpen
import Derived.Test.YtedicikcmpehnaaDoorZero
import Derived.Test.YtedicikcmpehnaaDoorBytes
import Derived.Lib.AppendStr
namespace Go.Proofs.YtedicikcmpehnaaDoor
open Go Go.RowKit

theorem infoB : (Tryd.prog.info? 5).map (fun i => (i.zero, i.size, i.bytes)) = some (some (.int .u8 0), 1, 1) := by kernel_rfl
/-- A row of bytes that the call has built. -/
abbrev Txt (w : World) (B : Nat) (v : Value) (bs : List UInt8) : Prop := w.ownsRow B 5 1 v bs.length (Lib.byteCells bs)
theorem cells_append (a b : List UInt8) : Lib.byteCells a ++ Lib.byteCells b = Lib.byteCells (a ++ b) := by simp [Lib.byteCells]
theorem cells_one (l : List UInt8) : ∀ u ∈ Lib.byteCells l, u.oneCell' = true := by
  intro u hu
  simp only [Lib.byteCells, List.mem_map] at hu
  obtain ⟨b, _, rfl⟩ := hu
  rfl
theorem txt_on {w : World} {B : Nat} {v : Value} {a b : List UInt8} {n : Nat} (hn : n = b.length) (h : w.ownsRow B 5 1 v (a.length + n) (Lib.byteCells a ++ Lib.byteCells b)) : Txt w B v (a ++ b) := by
  subst hn
  rw [cells_append, ← List.length_append] at h
  exact h

theorem txt_on3 {w : World} {B : Nat} {v : Value} {a b c : List UInt8} (h : w.ownsRow B 5 1 v ((a ++ b).length + c.length) (Lib.byteCells (a ++ b) ++ Lib.byteCells c)) : Txt w B v (a ++ (b ++ c)) := by
  rw [← List.append_assoc]
  exact txt_on rfl h

/-- What a call does that appends bytes to such a row: all below it stays, and all that is no row of bytes stays. -/
structure Grew (B : Nat) (w w' : World) : Prop where
  below : Below B w w'
  kept : Lib.OthersKept 5 none w w'
theorem Grew.trans {B : Nat} {a b c : World} (h : Grew B a b) (k : Grew B b c) : Grew B a c := ⟨h.below.trans k.below, h.kept.trans k.kept⟩
theorem Grew.of_own {B : Nat} {w w' : World} {v : Value} {n : Nat} {xs : List Value} (hown : w.ownsRow B 5 1 v n xs) (hB : B ≤ w.heap.size) (hg : w.grownBy w' v.ownBlock) : Grew B w w' := ⟨(Below.refl _ _).grown hg hB (fun k hk => (hown.lt k hk).1), fun k o hk _ ho => by
  refine (hg.block k (lt_of_block hk) fun e => ?_).trans hk
  obtain ⟨_, h0 | ⟨g, cap, cur, hv, hb, hh, r⟩⟩ := hown
  · obtain ⟨rfl, _⟩ := h0
    simp [Value.ownBlock] at e
  · subst hv
    simp [Value.ownBlock] at e
    subst e
    rw [hh] at hk
    cases hk
    exact ho _ _ rfl⟩
theorem Grew.alloc {B : Nat} {w : World} (hB : B ≤ w.heap.size) (o : Obj) : Grew B w (w.alloc o) := ⟨(Below.refl _ w).alloc hB o, fun _ _ hk _ _ => (heap_alloc_old w o (lt_of_block hk)).trans hk⟩

set_option maxHeartbeats 400000 in
theorem number_any (B : Nat) (i : Int) (v : Value) (bs : List UInt8) (w : World) (hi : I64 i) (hown : Txt w B v bs) (hB : B ≤ w.heap.size) (hn : bs.length ≤ 100000) (ht : PowB B w) :
    Calls Tryd.prog 15 #[v, .int .i64 i] w fun e w' => ∃ v', e = .returned v' ∧ Txt w' B v' (bs ++ ([32] ++ Lib.itoa i)) ∧ Grew B w w' := by
  obtain ⟨iB, hiB, hzB0, hzB1, hzB2⟩ := info_parts infoB
  have HT : Hid (PowB B w) := ht
  have HI : Hid (I64 i) := hi
  clear ht hi
  go_enter Tryd.func15, Tryd.ntmps15
  go_wp2_with (first
    | (at_builtin; refine wpList_append_own _ rfl (.tmp 5) (.tmp 6) 35 rfl B 5 iB _ 1 1 Tryd.underlying35 hiB hzB0 hzB1 hzB2 rfl (by decide) v bs.length (Lib.byteCells bs) rfl (hown.alloc _) ⟨w.heap.size, 0, none⟩ 1 1 (Lib.byteCells [32]) rfl rfl (news_list _ (Lib.byteCells [32]) _ _ rfl) (cells_one _) (by unfold maxLen; omega) (by omega) (by simp; omega) ?_; intro v1 w1 hown1 hg1 _; have G1 : Hid (Grew B w w1) := (Grew.alloc hB _).trans (Grew.of_own (hown.alloc _) (by simp; omega) hg1); have T1 : Hid (Txt w1 B v1 (bs ++ [32])) := txt_on rfl hown1; clear hg1 hown1)
    | (go_at_call 26; refine (appInt_any B _ i _ _ _ HI.out.1 HI.out.2 T1.out (Nat.le_trans hB G1.out.below.size) (by simp; omega) (HT.out.on G1.out.below)).mono ?_; rintro e w2 ⟨v2, rfl, hown2, hb2, hk2⟩; have G2 : Hid (Grew B w w2) := G1.out.trans ⟨hb2, hk2⟩; have T2 : Hid (Txt w2 B v2 (bs ++ ([32] ++ Lib.itoa i))) := txt_on3 hown2; clear hown2 hb2 hk2))
  go_ret
  exact ⟨_, rfl, T2.out, G2.out⟩

set_option maxHeartbeats 400000 in
theorem register_any (B : Nat) (i : Int) (v : Value) (bs : List UInt8) (w : World) (hi : I64 i) (hown : Txt w B v bs) (hB : B ≤ w.heap.size) (hn : bs.length ≤ 100000) (ht : PowB B w) :
    Calls Tryd.prog 17 #[v, .int .i64 i] w fun e w' => ∃ v', e = .returned v' ∧ Txt w' B v' (bs ++ ([32, 114] ++ Lib.itoa i)) ∧ Grew B w w' := by
  obtain ⟨iB, hiB, hzB0, hzB1, hzB2⟩ := info_parts infoB
  have HT : Hid (PowB B w) := ht
  have HI : Hid (I64 i) := hi
  clear ht hi
  go_enter Tryd.func17, Tryd.ntmps17
  go_wp2_with (first
    | (at_builtin; refine Lib.wpList_append_own_string _ rfl (.tmp 5) (.const (.string ⟨#[32, 114]⟩)) 35 9 rfl B 5 iB Tryd.underlying35 Tryd.underlying9 hiB hzB0 hzB1 hzB2 v bs.length (Lib.byteCells bs) rfl hown ⟨#[32, 114]⟩ rfl (by show bs.length + 2 ≤ maxLen; unfold maxLen; omega) (by show bs.length + 2 ≤ _; omega) hB ?_; intro v1 w1 hown1 hg1 _; have G1 : Hid (Grew B w w1) := Grew.of_own hown hB hg1; have T1 : Hid (Txt w1 B v1 (bs ++ [32, 114])) := txt_on rfl hown1; clear hg1 hown1)
    | (go_at_call 26; refine (appInt_any B _ i _ _ _ HI.out.1 HI.out.2 T1.out (Nat.le_trans hB G1.out.below.size) (by simp; omega) (HT.out.on G1.out.below)).mono ?_; rintro e w2 ⟨v2, rfl, hown2, hb2, hk2⟩; have G2 : Hid (Grew B w w2) := G1.out.trans ⟨hb2, hk2⟩; have T2 : Hid (Txt w2 B v2 (bs ++ ([32, 114] ++ Lib.itoa i))) := txt_on3 hown2; clear hown2 hb2 hk2))
  go_ret
  exact ⟨_, rfl, T2.out, G2.out⟩

end Go.Proofs.YtedicikcmpehnaaDoor
