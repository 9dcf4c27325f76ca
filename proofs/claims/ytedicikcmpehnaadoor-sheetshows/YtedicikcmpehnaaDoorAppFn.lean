/- Contract of sheet.appendFunc: a function's line. -/
import Derived.Test.YtedicikcmpehnaaDoorAppend
import Derived.Test.YtedicikcmpehnaaDoorShowMath
namespace Go.Proofs.YtedicikcmpehnaaDoor
open Go Go.RowKit

theorem Grew.box {B : Nat} {w w' : World} (h : Grew B w w') {k t : Nat} {cs : Array Value} {fr : Nat × Nat} (hk : w.heap[k]? = some (.cells cs t fr)) (ht : t ≠ 5) : w'.heap[k]? = some (.cells cs t fr) :=
  h.kept k _ hk (by simp) fun c fz e => by cases e; exact ht rfl

set_option maxHeartbeats 400000 in
theorem func_any (B : Nat) (params regs : Int) (u : Value) (xs : List Ins) (v : Value) (bs : List UInt8) (w : World) (h1 : I64 params) (h2 : I64 regs) (hown : Txt w B v bs) (hB : B ≤ w.heap.size) (hn : bs.length ≤ 90000) (ht : PowB B w) :
    Calls Tryd.prog 9 #[v, .agg #[.int .i64 params, .int .i64 regs, u]] w fun e w' => ∃ v', e = .returned v' ∧ Txt w' B v' (bs ++ fnLine ⟨params, regs, xs⟩) ∧ Grew B w w' := by
  obtain ⟨iB, hiB, hzB0, hzB1, hzB2⟩ := info_parts infoB
  have HT : Hid (PowB B w) := ht
  have HE : Hid (bs ++ fnLine ⟨params, regs, xs⟩ = bs ++ [102, 117, 110, 99] ++ ([32] ++ Lib.itoa params) ++ ([32] ++ Lib.itoa regs) ++ [10]) := by show _ = _; simp [fnLine]
  have hlp := Lib.itoa_length_le params h1.1 h1.2
  have hlr := Lib.itoa_length_le regs h2.1 h2.2
  have HP : Hid (I64 params) := h1
  have HR : Hid (I64 regs) := h2
  generalize bs ++ fnLine ⟨params, regs, xs⟩ = R at HE
  clear ht h1 h2
  go_enter Tryd.func9, Tryd.ntmps9
  go_upto_region 3 with (first
    | (at_builtin; refine Lib.wpList_append_own_string _ rfl (.tmp 5) (.const (.string ⟨#[102, 117, 110, 99]⟩)) 35 9 rfl B 5 iB Tryd.underlying35 Tryd.underlying9 hiB hzB0 hzB1 hzB2 v bs.length (Lib.byteCells bs) rfl (hown.alloc _) ⟨#[102, 117, 110, 99]⟩ rfl (by show bs.length + 4 ≤ maxLen; unfold maxLen; omega) (by show bs.length + 4 ≤ _; omega) (by simp; omega) ?_; intro v1 w1 hown1 hg1 _; have Q1 : Hid (Grew B (w.alloc (.cells #[.int .i64 params, .int .i64 regs, u] 33)) w1) := Grew.of_own (hown.alloc _) (by simp; omega) hg1; have G1 : Hid (Grew B w w1) := (Grew.alloc hB _).trans Q1.out; have T1 : Hid (Txt w1 B v1 (bs ++ [102, 117, 110, 99])) := txt_on rfl hown1; have X1 : w1.heap[w.heap.size]? = some (.cells #[.int .i64 params, .int .i64 regs, u] 33) := Q1.out.box (heap_alloc_new w _) (by decide); have c0 : w1.cell? ⟨w.heap.size, 0, none⟩ = some (.int .i64 params) := (by simp [World.cell?, X1]); have HX1 : Hid (w1.heap[w.heap.size]? = some (.cells #[.int .i64 params, .int .i64 regs, u] 33)) := X1; clear hg1 hown1 Q1 X1)
    | (go_at_call 15; refine (number_any B params _ _ _ HP.out T1.out (Nat.le_trans hB G1.out.below.size) (by simp; omega) (HT.out.on G1.out.below)).mono ?_; rintro e w2 ⟨v2, rfl, hown2, hg2⟩; have G2 : Hid (Grew B w w2) := G1.out.trans hg2; have X2 : w2.heap[w.heap.size]? = some (.cells #[.int .i64 params, .int .i64 regs, u] 33) := hg2.box HX1.out (by decide); have T2 : Hid (Txt w2 B v2 (bs ++ [102, 117, 110, 99] ++ ([32] ++ Lib.itoa params))) := hown2; have c1 : w2.cell? ⟨w.heap.size, 1, none⟩ = some (.int .i64 regs) := (by simp [World.cell?, X2]); clear hown2 hg2 X2 c0))
  clear hown
  go_wp2_with (first
    | (go_at_call 15; refine (number_any B regs _ _ _ HR.out T2.out (Nat.le_trans hB G2.out.below.size) (by simp; omega) (HT.out.on G2.out.below)).mono ?_; rintro e w3 ⟨v3, rfl, hown3, hg3⟩; have G3 : Hid (Grew B w w3) := G2.out.trans hg3; have hz3 : B ≤ w3.heap.size := Nat.le_trans hB G3.out.below.size; have T3 : Hid (Txt w3 B v3 (bs ++ [102, 117, 110, 99] ++ ([32] ++ Lib.itoa params) ++ ([32] ++ Lib.itoa regs))) := hown3; clear hown3 hg3 c1)
    | (at_builtin; refine wpList_append_own _ rfl (.tmp 15) (.tmp 16) 35 rfl B 5 iB _ 1 1 Tryd.underlying35 hiB hzB0 hzB1 hzB2 rfl (by decide) v3 _ _ rfl (T3.out.alloc _) ⟨w3.heap.size, 0, none⟩ 1 1 (Lib.byteCells [10]) rfl rfl (news_list _ (Lib.byteCells [10]) _ _ rfl) (cells_one _) (by unfold maxLen; simp; omega) (by simp; omega) (by simp; omega) ?_; intro v4 w4 hown4 hg4 _; have G4 : Hid (Grew B w w4) := G3.out.trans ((Grew.alloc hz3 _).trans (Grew.of_own (T3.out.alloc _) (by simp; omega) hg4)); have T4 : Hid (Txt w4 B v4 R) := (by rw [HE.out]; exact txt_on rfl hown4); clear hg4 hown4))
  go_ret
  exact ⟨_, rfl, T4.out, G4.out⟩

end Go.Proofs.YtedicikcmpehnaaDoor
