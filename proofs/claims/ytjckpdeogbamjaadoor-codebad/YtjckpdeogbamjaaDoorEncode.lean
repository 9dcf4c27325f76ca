/- Contracts of code.appendInstr and code.Encode: the bytes of a program, as a row that the call has built. -/
import Derived.Test.YtjckpdeogbamjaaDoorBytes
import Derived.Test.YtjckpdeogbamjaaDoorCheck
import Derived.Test.YtjckpdeogbamjaaDoorLater
namespace Go.Proofs.YtjckpdeogbamjaaDoor
open Go Go.RowKit

theorem infoB : (Tryd.prog.info? 5).map (fun i => (i.zero, i.size, i.bytes)) = some (some (.int .u8 0), 1, 1) := by kernel_rfl

def immByte (imm : Int) (i : Nat) : Int := IntKind.u64.wrap imm / 2 ^ (8 * i) % 256
def immPart (imm : Int) (k : Nat) : List Int := (List.range k).map fun j => immByte imm (7 - j)
theorem immPart_succ (imm : Int) (k : Nat) : immPart imm (k + 1) = immPart imm k ++ [immByte imm (7 - k)] := by simp [immPart, List.range_succ]
theorem immPart_length (imm : Int) (k : Nat) : (immPart imm k).length = k := by simp [immPart]
def headBytes (x : Ins) : List Int := [x.op % 256, x.dst % 256, x.a % 256, x.b % 256]
def insBytes (x : Ins) : List Int := headBytes x ++ immPart x.imm 8
theorem insBytes_length (x : Ins) : (insBytes x).length = 12 := by simp [insBytes, headBytes, immPart]

set_option maxHeartbeats 400000 in
theorem appendInstr_any (x : Ins) (v : Value) (w : World) (base : Nat) (bs : List Int) (hown : w.ownsRow base 5 1 v bs.length (u8s bs)) (hbase : base ≤ w.heap.size) (hn : bs.length ≤ 1000000) :
    Calls Tryd.prog 23 #[v, x.val] w fun e w' => ∃ v', e = .returned v' ∧ w'.ownsRow base 5 1 v' (bs ++ insBytes x).length (u8s (bs ++ insBytes x)) ∧ Below base w w' := by
  obtain ⟨op, dst, a, b, imm⟩ := x
  have HI : Hid (∀ k, k = 8 → bs ++ insBytes ⟨op, dst, a, b, imm⟩ = bs ++ [op % 256, dst % 256, a % 256, b % 256] ++ immPart imm k) := fun k hk => by subst hk; simp [insBytes, headBytes]
  have HLen : Hid ((bs ++ insBytes ⟨op, dst, a, b, imm⟩).length = bs.length + 4 + 8) := by show _ = _; simp [insBytes_length]
  generalize hR : bs ++ insBytes ⟨op, dst, a, b, imm⟩ = R at HI HLen
  unfold Ins.val
  dsimp only
  obtain ⟨iB, hiB, hzB0, hzB1, hzB2⟩ := info_parts infoB
  clear hR
  go_enter Tryd.func23, Tryd.ntmps23
  go_wp2_with (at_builtin; refine wpList_append_own _ rfl (.tmp 6) (.tmp 19) 22 rfl base 5 iB _ 1 1 Tryd.underlying22 hiB hzB0 hzB1 hzB2 rfl (by decide) v bs.length (u8s bs) rfl ((hown.alloc _).alloc _) ⟨w.heap.size + 1, 0, none⟩ 4 4 (u8s [op % 256, dst % 256, a % 256, b % 256]) rfl rfl (news_list _ _ _ _ (by simp)) (u8s_one _) (by unfold maxLen; omega) (by omega) (by simp; omega) ?_; intro v1 w1 hown1 hg1 _)
  have hbx0 : w1.heap[w.heap.size]? = some (.cells #[.int .i64 op, .int .i64 dst, .int .i64 a, .int .i64 b, .int .i64 imm] 44 (0, 0)) :=
    (hg1.block w.heap.size (by simp; omega) (fun e => by have := hown.lt _ e.symm; omega)).trans ((heap_alloc_old _ _ (by simp)).trans (heap_alloc_new w _))
  have hb1 : Below base w w1 := (((Below.refl _ w).alloc hbase _).alloc (by simp; omega) _).trans (grown_base ((hown.alloc _).alloc _) (by simp; omega) hg1)
  rw [← u8s_append] at hown1
  go_loopw [0, 5] (fun l i wr => ∃ (k : Nat), k ≤ 8 ∧ i = .int .i64 (7 - (k : Int)) ∧ wr.ownsRow base 5 1 l (bs.length + 4 + k) (u8s (bs ++ [op % 256, dst % 256, a % 256, b % 256] ++ immPart imm k)) ∧ wr.heap[w.heap.size]? = some (.cells #[.int .i64 op, .int .i64 dst, .int .i64 a, .int .i64 b, .int .i64 imm] 44 (0, 0)) ∧ Below base w wr) (fun _ i _ => (intOf i + 1).toNat)
  case atStart => exact ⟨0, by omega, by go_num, by simpa [immPart] using hown1, hbx0, hb1⟩
  case round =>
    obtain ⟨k, hk, rfl, hr, hbx, hb⟩ := hrel
    clear hown1 hg1 hbx0 hb1 hown
    have HB : Hid (Below base w wr) := hb
    have HX : Hid (wr.heap[w.heap.size]? = some (.cells #[.int .i64 op, .int .i64 dst, .int .i64 a, .int .i64 b, .int .i64 imm] 44 (0, 0))) := hbx
    have hz : base ≤ wr.heap.size := by have := hb.size; omega
    have hzx := lt_of_block hbx
    by_cases hlt : k < 8
    · have c0 : wr.cell? ⟨w.heap.size, 4, none⟩ = some (.int .i64 imm) := by simp [World.cell?, hbx]
      clear hb hbx
      go_wp2_with (at_builtin; refine wpList_append_own _ rfl (.tmp 25) (.tmp 33) 22 rfl base 5 iB _ 1 1 Tryd.underlying22 hiB hzB0 hzB1 hzB2 rfl (by decide) _ _ _ rfl (hr.alloc _) ⟨wr.heap.size, 0, none⟩ 1 1 (u8s [immByte imm (7 - k)]) rfl rfl (news_list _ _ _ _ rfl) (u8s_one _) (by unfold maxLen; omega) (by omega) (by simp; omega) ?_; intro v2 w2 hown2 hg2 _)
      have hx2 : w2.heap[w.heap.size]? = some (.cells #[.int .i64 op, .int .i64 dst, .int .i64 a, .int .i64 b, .int .i64 imm] 44 (0, 0)) :=
        (hg2.block _ (by simp; omega) (own_ne hr HX.out (by decide))).trans ((heap_alloc_old _ _ hzx).trans HX.out)
      rw [← u8s_append, List.append_assoc, ← immPart_succ] at hown2
      go_roundw
      case rel => exact ⟨k + 1, by omega, by go_num, hown2, hx2, (HB.out.alloc hz _).trans (grown_base (hr.alloc _) (by simp; omega) hg2)⟩
      case measure => simp [intOf]; omega
    · clear hb hbx
      go_wp2
      go_ret
      have hk8 : k = 8 := by omega
      refine ⟨_, rfl, ?_, HB.out⟩
      rw [HLen.out, HI.out k hk8, ← hk8]
      exact hr

def fnHead (f : Fn) : List Int := [f.params, f.regs, (f.code.length : Int)]
def fnBytes (f : Fn) : List Int := fnHead f ++ f.code.flatMap insBytes
def progPart (p : List Fn) (n k : Nat) : List Int := [(n : Int)] ++ (p.take k).flatMap fnBytes
def progBytes (p : List Fn) : List Int := progPart p p.length p.length
theorem insBytes_flat (xs : List Ins) : (xs.flatMap insBytes).length = xs.length * 12 := by
  induction xs with
  | nil => rfl
  | cons x r ih => rw [List.flatMap_cons, List.length_append, ih, insBytes_length]; simp; omega
theorem fnBytes_length (f : Fn) : (fnBytes f).length = 3 + f.code.length * 12 := by rw [fnBytes, List.length_append, insBytes_flat]; simp [fnHead]
theorem progPart_succ (p : List Fn) (n k : Nat) (h : k < p.length) : progPart p n (k + 1) = progPart p n k ++ fnBytes p[k] := by
  unfold progPart
  rw [List.take_succ_eq_append_getElem h, List.flatMap_append]
  simp
theorem codePart_succ (xs : List Ins) (k : Nat) (h : k < xs.length) : (xs.take (k + 1)).flatMap insBytes = (xs.take k).flatMap insBytes ++ insBytes xs[k] := by
  rw [List.take_succ_eq_append_getElem h, List.flatMap_append]
  simp
theorem firstErr_zero {α : Type} {g : α → Int} {l : List α} (h : firstErr g l = 0) : ∀ x ∈ l, g x = 0 := by
  induction l with
  | nil => simp
  | cons y r ih =>
    unfold firstErr at h
    by_cases hy : g y = 0
    · rw [if_pos hy] at h
      intro x hx
      rcases List.mem_cons.1 hx with rfl | hx
      · exact hy
      · exact ih h x hx
    · rw [if_neg hy] at h
      exact absurd h hy
/-- What a well shaped program is. -/
theorem codeProg_zero {p : List Fn} (h : codeProg p = 0) : 1 ≤ p.length ∧ p.length ≤ 4 ∧ ∀ f ∈ p, codeFunc f p.length = 0 := by
  unfold codeProg at h
  by_cases h1 : p.length < 1
  · rw [if_pos h1] at h; cases h
  rw [if_neg h1] at h
  by_cases h2 : 4 < p.length
  · rw [if_pos h2] at h; cases h
  rw [if_neg h2] at h
  exact ⟨by omega, by omega, firstErr_zero h⟩
theorem codeFunc_zero {f : Fn} {funcs : Int} (h : codeFunc f funcs = 0) : 1 ≤ f.regs ∧ f.regs ≤ 12 ∧ 0 ≤ f.params ∧ f.params ≤ 2 ∧ f.params ≤ f.regs ∧ 1 ≤ f.code.length ∧ f.code.length ≤ 40 ∧ ∀ x ∈ f.code, codeInstr x f.regs f.code.length funcs = 0 := by
  unfold codeFunc at h
  by_cases h1 : f.regs < 1
  · rw [if_pos h1] at h; cases h
  rw [if_neg h1] at h
  by_cases h2 : 12 < f.regs
  · rw [if_pos h2] at h; cases h
  rw [if_neg h2] at h
  by_cases h3 : f.params < 0
  · rw [if_pos h3] at h; cases h
  rw [if_neg h3] at h
  by_cases h4 : 2 < f.params
  · rw [if_pos h4] at h; cases h
  rw [if_neg h4] at h
  by_cases h5 : f.regs < f.params
  · rw [if_pos h5] at h; cases h
  rw [if_neg h5] at h
  by_cases h6 : f.code.length < 1
  · rw [if_pos h6] at h; cases h
  rw [if_neg h6] at h
  by_cases h7 : 40 < f.code.length
  · rw [if_pos h7] at h; cases h
  rw [if_neg h7] at h
  exact ⟨by omega, by omega, by omega, by omega, by omega, by omega, by omega, firstErr_zero h⟩

/-- A row that was written out. -/
theorem own_built (w : World) (base t : Nat) (cs : List Value) (hb : base ≤ w.heap.size) (hm : cs.length ≤ maxLen) : (w.alloc (.cells cs.toArray t)).ownsRow base t 1 (.slice (some ⟨w.heap.size, 0, none⟩) cs.length cs.length) cs.length cs :=
  ⟨by simp, .inr ⟨w.heap.size, cs.length, cs.toArray, rfl, hb, heap_alloc_new w _, Nat.le_refl _, hm, by simp, by simp⟩⟩
theorem own_base {w : World} {base base' t size n : Nat} {v : Value} {xs : List Value} (h : w.ownsRow base t size v n xs) (hb : base' ≤ base) : w.ownsRow base' t size v n xs := by
  refine ⟨h.1, ?_⟩
  rcases h.2 with h2 | ⟨g, cap, cur, hv, hg, r⟩
  · exact Or.inl h2
  · exact Or.inr ⟨g, cap, cur, hv, by omega, r⟩

set_option maxHeartbeats 400000 in
theorem encode_bad (p : List Fn) (v : Value) (w : World) (ht : TabOk w) (hv : ProgVal w v p) (hc : codeProg p ≠ 0) :
    Calls Tryd.prog 14 #[.agg #[v]] w fun e w' => e = .returned (.tuple #[.slice none 0 0, .int .i64 (codeProg p)]) ∧ Below w.heap.size w w' := by
  obtain ⟨ao, n, cap, rfl⟩ := hv.shape
  have hb0 : Below w.heap.size w (w.alloc (.cells #[.slice ao n cap] 26)) := (Below.refl _ _).alloc (Nat.le_refl _) _
  have hT := ht.below hb0
  have hP := hv.keeps (keeps_below hb0)
  have hq : (codeProg p != 0) = true := by simpa using hc
  clear hv ht hc
  go_enter Tryd.func14, Tryd.ntmps14
  go_wp2_with (go_at_call 16; refine (check_any p _ _ hT hP).mono ?_; rintro e w1 ⟨rfl, hb1⟩)
  go_ret2
  exact ⟨rfl, hb0.trans (hb1.mono (by simp))⟩

set_option maxHeartbeats 1000000 in
theorem encode_ok (p : List Fn) (v : Value) (w : World) (ht : TabOk w) (hv : ProgVal w v p) (hc : codeProg p = 0) :
    Calls Tryd.prog 14 #[.agg #[v]] w fun e w' => ∃ v', e = .returned (.tuple #[v', .int .i64 0]) ∧ w'.ownsRow w.heap.size 5 1 v' (progBytes p).length (u8s (progBytes p)) ∧ Below w.heap.size w w' := by
  obtain ⟨ao, n, cap, rfl⟩ := hv.shape
  have hb0 : Below w.heap.size w (w.alloc (.cells #[.slice ao n cap] 26)) := (Below.refl _ _).alloc (Nat.le_refl _) _
  have hT := ht.below hb0
  have hP := hv.keeps (keeps_below hb0)
  obtain ⟨hp1, hp4, hpf⟩ := codeProg_zero hc
  obtain ⟨ao', b, off, n', cap', hve, ⟨hlen, haddr, hat⟩, hcap, hmax⟩ := hv
  simp only [Value.slice.injEq] at hve
  obtain ⟨rfl, rfl, rfl⟩ := hve
  obtain rfl := haddr (by omega)
  obtain ⟨iB, hiB, hzB0, hzB1, hzB2⟩ := info_parts infoB
  have HL : Hid (p.length = n) := hlen
  have hn1 : 1 ≤ n := by omega
  have hn4 : n ≤ 4 := by omega
  have HF : Hid (∀ f ∈ p, codeFunc f p.length = 0) := hpf
  have HAT : Hid (∀ (k : Nat) (h : k < p.length), ∃ v, FnAt w b (off + k * 3) p[k] v) := hat
  have HPB : Hid (progBytes p = progPart p n n) := by show _ = _; rw [progBytes, hlen]
  have hbase : Hid (w.heap.size + 1 ≤ (w.alloc (.cells #[.slice (some ⟨b, off, none⟩) n cap] 26)).heap.size) := by show _ ≤ _; simp
  generalize progBytes p = R at HPB
  clear ht haddr hlen hp1 hp4 hpf hat hcap
  go_enter Tryd.func14, Tryd.ntmps14
  go_wp2_with (go_at_call 16; refine (check_any p _ _ hT hP).mono ?_; rintro e w1 ⟨rfl, hb1⟩; rw [hc]; have c1 : w1.cell? ⟨w.heap.size, 0, none⟩ = some (.slice (some ⟨b, off, none⟩) n cap) := keeps_below hb1 _ _ (by simp); have hz1 : w.heap.size < w1.heap.size := (by have := hb1.size; simp at this; omega); have c2 := cell_alloc c1)
  have hr1 : (w1.alloc (.cells #[.int .u8 n] 5)).ownsRow (w.heap.size + 1) 5 1 (.slice (some ⟨w1.heap.size, 0, none⟩) 1 1) 1 (u8s (progPart p n 0)) := own_built w1 (w.heap.size + 1) 5 (u8s (progPart p n 0)) (by omega) (by simp [u8s, progPart, maxLen])
  have hb2 : Below (w.heap.size + 1) (w.alloc (.cells #[.slice (some ⟨b, off, none⟩) n cap] 26)) (w1.alloc (.cells #[.int .u8 n] 5)) := (hb1.mono (by simp)).trans ((Below.refl _ _).alloc (by omega) _)
  go_loopw [5, 23] (fun l i wr => ∃ k : Nat, k ≤ n ∧ i = .int .i64 k ∧ (progPart p n k).length ≤ 1 + k * 483 ∧ wr.ownsRow (w.heap.size + 1) 5 1 l (progPart p n k).length (u8s (progPart p n k)) ∧ Below (w.heap.size + 1) (w.alloc (.cells #[.slice (some ⟨b, off, none⟩) n cap] 26)) wr) (fun _ i _ => n - (intOf i).toNat)
  case atStart => exact ⟨0, Nat.zero_le _, rfl, by simp [progPart], hr1, hb2⟩
  case round =>
    obtain ⟨k, hk, rfl, hbl, hr, hb⟩ := hrel
    clear hr1 hb2 c1 c2 hz1 hb1
    have hbw : Below w.heap.size w wr := hb0.trans (hb.mono (by omega))
    have hz : w.heap.size + 1 ≤ wr.heap.size := by have := hb.size; simp at this; omega
    have HB : Hid (Below (w.heap.size + 1) (w.alloc (.cells #[.slice (some ⟨b, off, none⟩) n cap] 26)) wr) := hb
    obtain ⟨aor, capr, rfl⟩ := own_shape hr
    by_cases hlt : k < n
    · have hkx : k < p.length := by rw [HL.out]; exact hlt
      obtain ⟨u, hfn⟩ := HAT.out k hkx
      obtain ⟨d0, d1, d2, hu⟩ := hfn
      replace d0 := keeps_below hbw _ _ d0
      replace d1 := keeps_below hbw _ _ d1
      replace d2 := keeps_below hbw _ _ d2
      obtain ⟨r1, r12, r0, r2, _, r3, r40, _⟩ := codeFunc_zero (HF.out p[k] (List.getElem_mem hkx))
      have HS : Hid (progPart p n (k + 1) = progPart p n k ++ fnBytes p[k]) := progPart_succ p n k hkx
      have hul : (fnBytes p[k]).length = 3 + p[k].code.length * 12 := fnBytes_length _
      generalize hx : p[k] = x at d0 d1 d2 hu r1 r12 r0 r2 r3 r40 HS hul
      obtain ⟨params, regs, xs⟩ := x
      obtain ⟨ao1, b1, off1, n1, cap1, rfl, ⟨hlen1, haddr1, hat1⟩, hcap1, hmax1⟩ := hu
      dsimp only at d0 d1 d2 hlen1 hat1 r1 r12 r0 r2 r3 r40 hul
      have HL1 : Hid (xs.length = n1) := hlen1
      rw [hlen1] at r3 r40 hul
      obtain rfl := haddr1 (by omega)
      have HC1 : Hid (∀ (k : Nat) (h : k < xs.length), insAt w b1 (off1 + k * 5) xs[k]) := hat1
      have HU : Hid (progPart p n (k + 1) = progPart p n k ++ ([params, regs, (n1 : Int)] ++ xs.flatMap insBytes)) := by
        have h := HS.out
        show _ = _
        rw [h, fnBytes, fnHead]
        dsimp only
        rw [hlen1]
      have HUL : Hid ((fnBytes ⟨params, regs, xs⟩).length = 3 + n1 * 12) := hul
      clear hx hat1 haddr1 hlen1 hb hul HS hcap1
      go_wp2_with (at_builtin; refine wpList_append_own _ rfl (.tmp 27) (.tmp 38) 22 rfl (w.heap.size + 1) 5 iB _ 1 1 Tryd.underlying22 hiB hzB0 hzB1 hzB2 rfl (by decide) _ _ _ rfl ((hr.alloc _).alloc _) ⟨wr.heap.size + 1, 0, none⟩ 3 3 (u8s [params, regs, (n1 : Int)]) rfl rfl (news_list _ _ _ _ (by simp)) (u8s_one _) (by unfold maxLen; omega) (by omega) (by simp; omega) ?_; intro v2 w2 hown2 hg2 _; have Q := append_box hr hz (by decide) hg2; have hbx := Q.1; have cx : w2.cell? ⟨wr.heap.size, 2, none⟩ = some (.slice (some ⟨b1, off1, none⟩) n1 cap1) := (by simp [World.cell?, hbx]); have HB2 : Hid (Below (w.heap.size + 1) (w.alloc (.cells #[.slice (some ⟨b, off, none⟩) n cap] 26)) w2) := HB.out.trans Q.2; rw [← u8s_append] at hown2; clear hg2 Q)
      rename World => wo
      go_loopw [5, 43] (fun l i wi => ∃ j : Nat, j ≤ n1 ∧ i = .int .i64 j ∧ wi.ownsRow (w.heap.size + 1) 5 1 l (progPart p n k ++ [params, regs, (n1 : Int)] ++ (xs.take j).flatMap insBytes).length (u8s (progPart p n k ++ [params, regs, (n1 : Int)] ++ (xs.take j).flatMap insBytes)) ∧ Below (w.heap.size + 1) (w.alloc (.cells #[.slice (some ⟨b, off, none⟩) n cap] 26)) wi) (fun _ i _ => n1 - (intOf i).toNat)
      case atStart => exact ⟨0, Nat.zero_le _, rfl, by simpa using hown2, HB2.out⟩
      case round =>
        obtain ⟨j, hj, rfl, hri, hbi⟩ := hrel
        have hbwi : Below w.heap.size w wr := hb0.trans (hbi.mono (by omega))
        have hzi : w.heap.size + 1 ≤ wr.heap.size := by have := hbi.size; simp at this; omega
        have HBI : Hid (Below (w.heap.size + 1) (w.alloc (.cells #[.slice (some ⟨b, off, none⟩) n cap] 26)) wr) := hbi
        by_cases hlj : j < n1
        · have hjx : j < xs.length := by rw [HL1.out]; exact hlj
          obtain ⟨g0, g1, g2, g3, g4⟩ := (HC1.out j hjx).keeps (keeps_below hbwi)
          have HT : Hid ((xs.take (j + 1)).flatMap insBytes = (xs.take j).flatMap insBytes ++ insBytes xs[j]) := codePart_succ xs j hjx
          have hll : (progPart p n k ++ [params, regs, (n1 : Int)] ++ (xs.take j).flatMap insBytes).length ≤ 1000000 := by
            have hq := insBytes_flat (xs.take j)
            rw [List.length_append, hq]
            simp only [List.length_append, List.length_take, List.length_cons, List.length_nil]
            omega
          generalize hxx : xs[j] = x at g0 g1 g2 g3 g4 HT
          generalize hbb : progPart p n k ++ [params, regs, (n1 : Int)] ++ (xs.take j).flatMap insBytes = bb at hri hll
          have HBB : Hid (progPart p n k ++ [params, regs, (n1 : Int)] ++ (xs.take j).flatMap insBytes = bb) := hbb
          clear hbi hxx hbb hown2 hbx cx d0 d1 d2 hbw hbwi
          go_wp2_with (go_at_call 23; refine (appendInstr_any x _ _ (w.heap.size + 1) bb (hri.alloc _) (by simp; omega) hll).mono ?_; rintro e w3 ⟨v3, rfl, hown3, hb3⟩)
          have HE : Hid (progPart p n k ++ [params, regs, (n1 : Int)] ++ (xs.take (j + 1)).flatMap insBytes = bb ++ insBytes x) := by
            show _ = _
            rw [HT.out, ← List.append_assoc, HBB.out]
          go_roundw
          case rel => exact ⟨j + 1, by omega, by go_num, by rw [HE.out]; exact hown3, (HBI.out.alloc hzi _).trans hb3⟩
          case measure => simp [intOf]; omega
        · have hxj : xs.take j = xs := List.take_of_length_le (by rw [HL1.out]; omega)
          rw [hxj, List.append_assoc, ← HU.out] at hri
          have HPL : Hid ((progPart p n (k + 1)).length ≤ 1 + (k + 1) * 483) := by
            show _ ≤ _
            rw [HU.out, List.length_append, List.length_append, insBytes_flat, HL1.out]
            simp only [List.length_cons, List.length_nil]
            omega
          clear hbi hxj hown2 hbx cx d0 d1 d2 hbw hbwi
          go_wp2
          go_roundw
          case rel => exact ⟨k + 1, by omega, by go_num, HPL.out, hri, HBI.out⟩
          case measure => simp [intOf]; omega
    · have hkn : k = n := by omega
      subst hkn
      clear hb
      go_wp2
      go_ret2
      exact ⟨_, rfl, by rw [HPB.out]; exact own_base hr (by omega), hbw⟩

end Go.Proofs.YtjckpdeogbamjaaDoor
