import Derived.Test.YtfacdhkadnmnlaaDoorPXSRead4
import Derived.LoopIn
import Derived.LoopNIn
import Derived.OwnWalkIn
import Derived.RangeFuncBound
import Derived.RangeFuncCalls
import Derived.RangeFuncLeaves
import Derived.RangeFuncNested
import Derived.Shelf.Abstract
import Derived.Shelf.RegionOpen
import Derived.TacticsInMore
namespace Go.Proofs.YtfacdhkadnmnlaaDoor
open Go Go.RowKit

theorem toList_mk (l : Pc) : (⟨l.toArray⟩ : ByteArray).data.toList = l := by simp
theorem words_len (l : Pc) : (wordsB l).length ≤ l.length + 1 := by
 induction l with
 | nil => simp [wordsB]
 | cons c r ih => rw [wordsB]; split <;> simp <;> omega
theorem words_each (l : Pc) : ∀ p ∈ wordsB l, p.length ≤ l.length := by
 induction l with
 | nil => simp [wordsB]
 | cons c r ih =>
  intro p hp
  rw [wordsB] at hp
  split at hp
  ·rcases List.mem_cons.1 hp with rfl | h
   ·simp
   ·have := ih p h; simp; omega
  ·rcases List.mem_cons.1 hp with rfl | h
   ·cases hr : wordsB r with
    | nil => simp
    | cons a b => have := ih a (by rw [hr]; simp); simp; omega
   ·have := ih p (List.mem_of_mem_tail h); simp; omega
theorem split_any (l : Pc) (hl : l.length ≤ 20000) {B : Nat} {w : World} (hS : StdR B w) :
  Calls Tryd.prog 28 #[.string ⟨l.toArray⟩, .string ⟨#[32]⟩] w fun e w' => e = .returned (.slice (some ⟨w.heap.size, 0, none⟩) (wordsB l).length (wordsB l).length) ∧ w' = w.alloc (.cells ((wordsB l).map fun (p : Pc) => Value.string ⟨p.toArray⟩).toArray 9) := by
 obtain ⟨m, hm⟩ := hS.most w (Below.refl _ _)
 have hw := split_words l.length ⟨l.toArray⟩ (by show l.length ≤ _; omega)
 rw [toList_mk] at hw
 have hlen : Lib.countB ⟨l.toArray⟩ ⟨#[32]⟩ + 1 = (wordsB l).length := by rw [← hw, List.length_map, Lib.splitB_all _ (by decide) 0 _ _ rfl]
 have hmap : (Lib.splitB ⟨#[32]⟩ 0 (Lib.countB ⟨l.toArray⟩ ⟨#[32]⟩) ⟨l.toArray⟩).map Value.string = (wordsB l).map fun (p : Pc) => Value.string ⟨p.toArray⟩ := by
  rw [← hw, List.map_map]
  apply List.map_congr_left
  intro s _
  simp
 have := strings_Split ⟨l.toArray⟩ ⟨#[32]⟩ m w (by show l.length < _; omega) hm (by decide)
 rw [hlen, hmap] at this
 exact this
theorem suffix_any (l : Pc) (hl : l.length ≤ 20000) (w : World) :
  Calls Tryd.prog 27 #[.string ⟨l.toArray⟩, .string ⟨#[10]⟩] w fun e w' => e = .returned (.tuple #[.string ⟨(Lib.trimSuffix l [10]).toArray⟩, .bool (Lib.hasSuffix l [10])]) ∧ w' = w := strings_CutSuffix ⟨l.toArray⟩ ⟨#[10]⟩ w (by show l.length ≤ _; omega)
theorem AddPost.on {O base : Nat} {w w3 w' : World} {r : Option (List Fn)} {e : Ending} (hg : Went O w w3) (h : AddPost O base w3 r e w') : AddPost O base w r e w' := ⟨h.1, hg.trans h.2.1, h.2.2⟩
theorem reader_new (w : World) (ws : List Pc) (hl : ws.length ≤ 20000) (he : ∀ p ∈ ws, p.length ≤ 20000) :
  SR ((w.alloc (.cells (ws.map fun (p : Pc) => Value.string ⟨p.toArray⟩).toArray 9)).alloc (.cells #[.slice (some ⟨w.heap.size, 0, none⟩) ws.length ws.length, .bool false] 68)) (w.heap.size + 2) (w.heap.size + 1) ⟨ws, false⟩ := by
 refine ⟨some ⟨w.heap.size, 0, none⟩, ws.length, w.heap.size, 0, ?_, by simp, by simp, fun _ => rfl, Nat.le_refl _, hl, fun i hi => ?_, he⟩
 ·simpa using heap_alloc_new (w.alloc (.cells (ws.map fun (p : Pc) => Value.string ⟨p.toArray⟩).toArray 9)) (.cells #[.slice (some ⟨w.heap.size, 0, none⟩) ws.length ws.length, .bool false] 68)
 ·have h1 := heap_alloc_new w (.cells (ws.map fun (p : Pc) => Value.string ⟨p.toArray⟩).toArray 9)
  have h2 := (heap_alloc_old (w.alloc (.cells (ws.map fun (p : Pc) => Value.string ⟨p.toArray⟩).toArray 9)) (.cells #[.slice (some ⟨w.heap.size, 0, none⟩) ws.length ws.length, .bool false] 68) (by simp)).trans h1
  have hi' : i < ws.length := hi
  simp only [World.cell?, h2]
  simp [hi']
set_option maxRecDepth 100000 in
set_option maxHeartbeats 2000000 in
theorem saddLine_any {w : World} {O base : Nat} {P : List Fn} {vo : Value} {us : List Value} (l : Pc) (hl : l.length ≤ 10000) (hp : PBx w O base P vo us) (hS : StdR O w) (hB : base ≤ w.heap.size) (hlen : P.length ≤ 20000) (hcl : ∀ f ∈ P, f.code.length ≤ 20000) :
  Calls Tryd.prog 16 #[.pointer (some ⟨O, 0, none⟩), .string ⟨l.toArray⟩] w fun e w' => AddPost O base w (addLine P l) e w' := by
 have hOlt := hp.low
 have C1 : Hid (∀ w, Calls Tryd.prog 27 #[.string ⟨l.toArray⟩, .string ⟨#[10]⟩] w fun e w' => e = .returned (.tuple #[.string ⟨(Lib.trimSuffix l [10]).toArray⟩, .bool (Lib.hasSuffix l [10])]) ∧ w' = w) := fun w => suffix_any l (by omega) w
 cases hs : Lib.hasSuffix l [10] with
 | false =>
  have HE : Hid (addLine P l = none) := by show _ = _; unfold addLine; rw [if_neg (by simp [hs])]
  rw [hs] at C1
  generalize addLine P l = res at HE
  generalize Lib.trimSuffix l [10] = q at C1
  clear hp hS hcl hs
  go_enter Tryd.func16, Tryd.ntmps16
  go_wp2_with (go_at_call 27; refine (C1.out _).mono ?_; rintro e w1 ⟨rfl, hw1⟩; replace hw1 := hw1.symm; subst hw1)
  go_ret
  rw [HE.out]
  exact sres_none rfl (Went.refl _ _)
 | true =>
  have htr : Lib.trimSuffix l [10] = l.take (l.length - 1) := by unfold Lib.trimSuffix; rw [if_pos hs]; rfl
  have HE : Hid (addLine P l = addWords P (wordsB (l.take (l.length - 1)))) := by show _ = _; unfold addLine; rw [if_pos hs]
  rw [hs, htr] at C1
  have htl : (l.take (l.length - 1)).length ≤ 10000 := by rw [List.length_take]; omega
  generalize addLine P l = res at HE
  generalize l.take (l.length - 1) = t at C1 htl HE
  have hwl := words_len t
  have hwe := words_each t
  have C2 : Hid (Calls Tryd.prog 28 #[.string ⟨t.toArray⟩, .string ⟨#[32]⟩] w fun e w' => e = .returned (.slice (some ⟨w.heap.size, 0, none⟩) (wordsB t).length (wordsB t).length) ∧ w' = w.alloc (.cells ((wordsB t).map fun (p : Pc) => Value.string ⟨p.toArray⟩).toArray 9)) := split_any t (by omega) hS
  have hR := reader_new w (wordsB t) (by omega) (fun p hp => by have := hwe p hp; omega)
  obtain ⟨u, r, hur⟩ : ∃ u r, wordsB t = u :: r := by
   cases h : wordsB t with
   | nil => exact absurd h (wordsB_ne t)
   | cons a b => exact ⟨a, b, rfl⟩
  rw [hur] at C2 hR HE
  rw [addWords_cons] at HE
  have HR : Hid (SR ((w.alloc (.cells ((u :: r).map fun (p : Pc) => Value.string ⟨p.toArray⟩).toArray 9)).alloc (.cells #[.slice (some ⟨w.heap.size, 0, none⟩) (u :: r).length (u :: r).length, .bool false] 68)) (w.heap.size + 2) (w.heap.size + 1) ⟨u :: r, false⟩) := hR
  have hb1 : Below w.heap.size w ((w.alloc (.cells ((u :: r).map fun (p : Pc) => Value.string ⟨p.toArray⟩).toArray 9)).alloc (.cells #[.slice (some ⟨w.heap.size, 0, none⟩) (u :: r).length (u :: r).length, .bool false] 68)) := ((Below.refl _ _).alloc (Nat.le_refl _) _).alloc (by simp) _
  have hz1 : ((w.alloc (.cells ((u :: r).map fun (p : Pc) => Value.string ⟨p.toArray⟩).toArray 9)).alloc (.cells #[.slice (some ⟨w.heap.size, 0, none⟩) (u :: r).length (u :: r).length, .bool false] 68)).heap.size = w.heap.size + 2 := by simp
  have C3 : Hid (Calls Tryd.prog 29 #[.pointer (some ⟨w.heap.size + 1, 0, none⟩)] ((w.alloc (.cells ((u :: r).map fun (p : Pc) => Value.string ⟨p.toArray⟩).toArray 9)).alloc (.cells #[.slice (some ⟨w.heap.size, 0, none⟩) (u :: r).length (u :: r).length, .bool false] 68)) fun e w' => e = .returned (.string ⟨u.toArray⟩) ∧ ((w.alloc (.cells ((u :: r).map fun (p : Pc) => Value.string ⟨p.toArray⟩).toArray 9)).alloc (.cells #[.slice (some ⟨w.heap.size, 0, none⟩) (u :: r).length (u :: r).length, .bool false] 68)).grownBy w' (some (w.heap.size + 1)) ∧ SR w' (w.heap.size + 2) (w.heap.size + 1) ⟨r, false⟩) := snext_any hR
  have HP : Hid (PBx ((w.alloc (.cells ((u :: r).map fun (p : Pc) => Value.string ⟨p.toArray⟩).toArray 9)).alloc (.cells #[.slice (some ⟨w.heap.size, 0, none⟩) (u :: r).length (u :: r).length, .bool false] 68)) O base P vo us) := hp.keep hb1
  have HG : Hid (Went O w ((w.alloc (.cells ((u :: r).map fun (p : Pc) => Value.string ⟨p.toArray⟩).toArray 9)).alloc (.cells #[.slice (some ⟨w.heap.size, 0, none⟩) (u :: r).length (u :: r).length, .bool false] 68))) := Went.of_below hb1 (by omega)
  have HZ : Hid _ := hz1
  have HS : Hid (StdR O w) := hS
  have HCL : Hid (∀ f ∈ P, f.code.length ≤ 20000) := hcl
  have HWO : Hid (WordOk w) := (hS.std.tabs w (Below.refl _ _)).1
  clear hR hb1 hz1 hp hS hcl hwe hwl hur htl htr hs
  go_enter Tryd.func16, Tryd.ntmps16
  go_upto_region 6 with (first
   | (go_at_call 27; refine (C1.out _).mono ?_; rintro e w1 ⟨rfl, hw1⟩; replace hw1 := hw1.symm; subst hw1)
   | (go_at_call 28; refine C2.out.mono ?_; rintro e w1 ⟨rfl, hw1⟩; subst hw1)
   | (go_at_call 29; refine C3.out.mono ?_; rintro e w3 ⟨rfl, hg3, hr3⟩; have G3 : Hid (Went O w w3) := HG.out.trans (Went.reader HR.out hg3 (by omega)); have P3 : Hid (PBx w3 O base P vo us) := HP.out.reader HR.out hg3; have R3 : Hid (SR w3 (w.heap.size + 2) (w.heap.size + 1) ⟨r, false⟩) := hr3; have hz3 : w.heap.size + 2 ≤ w3.heap.size := (by have := hg3.size; rw [HZ.out] at this; exact this); clear hg3 hr3))
  clear HP HG HR HZ C1 C2 C3
  have S3 : Hid (StdR O w3) := HS.out.on G3.out.below
  generalize hRz : w.heap.size + 1 = R at R3 ⊢
  have hOR : O < R := by omega
  by_cases hf : u = funcW
  ·have hq : (u == [102, 117, 110, 99]) = true := by simpa [funcW] using hf
   have C4 : Hid (Calls Tryd.prog 30 #[.pointer (some ⟨O, 0, none⟩), .pointer (some ⟨R, 0, none⟩)] w3 fun e w' => AddPost O base w res e w') := (saddFunc_any P3.out R3.out S3.out hOR (by omega) hlen).mono fun e w' h => by
    rw [HE.out, if_pos hf]
    exact h.on G3.out
   clear hf
   go_wp2_with (go_at_call 30; refine C4.out.mono ?_; rintro e w4 hA; have HA : Hid (AddPost O base w res e w4) := hA; obtain ⟨rfl, _⟩ := hA)
   go_ret
   exact HA.out
  ·have hq : (u == [102, 117, 110, 99]) = false := by simpa [funcW] using hf
   have hox : opIx u < 20 := by
    by_cases h0 : opIx u = 0
    ·omega
    ·exact (opIx_eq h0).2.2
   have C4 : Hid (Calls Tryd.prog 31 #[.pointer (some ⟨O, 0, none⟩), .int .i64 (opIx u), .pointer (some ⟨R, 0, none⟩)] w3 fun e w' => AddPost O base w res e w') := (saddInstr_any (opIx u) hox P3.out R3.out S3.out hOR (by omega) hz3 hlen HCL.out).mono fun e w' h => by
    rw [HE.out, if_neg hf]
    exact h.on G3.out
   have C5 : Hid (Calls Tryd.prog 32 #[.string ⟨u.toArray⟩] w3 fun e w' => e = .returned (.int .i64 (opIx u)) ∧ w' = w3) := sopOf_any u w3 (S3.out.std.tabs w3 (Below.refl _ _)).1
   generalize opIx u = o at C4 C5
   clear hf hox
   go_wp2_with (first
    | (go_at_call 32; refine C5.out.mono ?_; rintro e w4 ⟨rfl, hw4⟩; replace hw4 := hw4.symm; subst hw4)
    | (go_at_call 31; refine C4.out.mono ?_; rintro e w4 hA; have HA : Hid (AddPost O base w res e w4) := hA; obtain ⟨rfl, _⟩ := hA))
   go_ret
   exact HA.out
end Go.Proofs.YtfacdhkadnmnlaaDoor
namespace Go.Proofs.YtfacdhkadnmnlaaDoor
open Go Go.RowKit Go.Shelf

attribute [local go_sem] Oper.semAt_some

theorem ext_take (q : Pc) (e : Nat) : (⟨q.toArray⟩ : ByteArray).extract 0 e = ⟨(q.take e).toArray⟩ := by
 apply ByteArray.ext
 apply Array.ext'
 rw [extract_take]
theorem ext_drop (q : Pc) (e : Nat) : (⟨q.toArray⟩ : ByteArray).extract e q.length = ⟨(q.drop e).toArray⟩ := by
 apply ByteArray.ext
 apply Array.ext'
 have := extract_drop ⟨q.toArray⟩ e
 exact this
abbrev Ln := { x : Nat × Pc // x.1 ≤ 10000 ∧ x.2.length ≤ 10000 }
abbrev encLn (x : Ln) : Array Value := #[.int .i64 x.1.1, .string ⟨x.1.2.toArray⟩]
def numbered : Nat → List Pc → List (Nat × Pc)
 | _, [] => []
 | k, l :: r => (k, l) :: numbered (k + 1) r
set_option maxRecDepth 100000 in
set_option maxHeartbeats 1000000 in
theorem lines_any (s : Pc) (w : World) :
  Calls Tryd.prog 15 #[.string ⟨s.toArray⟩] w fun e w' => e = .returned (.func (.func 25) #[] #[.pointer (some ⟨w.heap.size, 0, none⟩)]) ∧ w' = w.alloc (.cells #[.string ⟨s.toArray⟩] 9) := by
 go_enter Tryd.func15, Tryd.ntmps15
 go_wp2
 go_ret
 exact ⟨rfl, rfl⟩
set_option maxRecDepth 100000 in
set_option maxHeartbeats 2000000 in
theorem lines_stops (n : Nat) (hn : 1 ≤ n) (s : Pc) (hs : s.length ≤ 10000) (Bs : Nat) (w : World) (hB : w.cell? ⟨Bs, 0, none⟩ = some (.string ⟨s.toArray⟩)) (hlt : Bs < w.heap.size) :
  SeqStopsK Fence.wide n Tryd.prog 25 #[.pointer (some ⟨Bs, 0, none⟩)] encLn KeepsWalks (fun xs => xs.map (·.1) = numbered 0 (linesB s)) (fun pre => ∃ t, pre.map (·.1) ++ t = numbered 0 (linesB s)) 20000 w := fun l J Jx W hW hJ hJx hY h0 => by
 have cB : W.cell? ⟨Bs, 0, none⟩ = some (.string ⟨s.toArray⟩) := (hW.cell (p := ⟨Bs, 0, none⟩) hlt).trans hB
 refine callsIn_of_wp Tryd.func25 rfl trivial ?_ rfl
 simp only [Tryd.ntmps25, List.size_toArray, List.length_cons, List.length_nil, Nat.reduceAdd, Nat.reduceSub, Array.replicate_succ, Array.replicate_zero, List.push_toArray, List.append_toArray, List.nil_append, List.cons_append]
 gi_wp2
 gi_loopw [3, 4] (fun p q wr => ∃ (pre : List Ln) (rest : Pc), p = .string ⟨rest.toArray⟩ ∧ q = .int .i64 pre.length ∧ pre.map (·.1) ++ numbered pre.length (linesB rest) = numbered 0 (linesB s) ∧ pre.length + rest.length ≤ s.length ∧ J pre wr)
  (fun p _ _ => match p with | .string b => b.data.toList.length | _ => 0)
 case atStart => exact ⟨[], s, rfl, rfl, rfl, by simp, h0⟩
 case round =>
  obtain ⟨pre, rest, rfl, rfl, hx, hl, hJs⟩ := hrel
  have HX : Hid _ := hx
  have HL : Hid (pre.length + rest.length ≤ s.length) := hl
  cases rest with
  | nil =>
   clear hx hl
   gi_wp2
   go_end0
   exact ⟨⟨_, rfl⟩, .inl ⟨pre, by simpa [linesB, numbered] using HX.out, hJs⟩⟩
  | cons c r =>
   have hq1 : 1 ≤ (c :: r).length := by simp
   have hql : (c :: r).length ≤ 10000 := by omega
   have hpl : pre.length ≤ 10000 := by omega
   have hle := lineEnd_le (c :: r)
   have hle1 := lineEnd_pos c r
   have hlq := linesB_eq (c :: r) (by simp)
   have hnil : ((c :: r) == []) = false := rfl
   have hnil2 : ((c :: r) != []) = true := rfl
   have HE : Hid (lineEnd (c :: r) = if Lib.indexByte (c :: r) 10 = -1 then (c :: r).length else (Lib.indexByte (c :: r) 10).toNat + 1) := rfl
   have hge := Lib.indexByte_ge (c :: r) 10
   have CI : Hid (∀ w, Calls Tryd.prog 26 #[.string ⟨(c :: r).toArray⟩, .int .u8 10] w fun e w' => e = .returned (.int .i64 (Lib.indexByte (c :: r) 10)) ∧ w' = w) := fun w => strings_IndexByte ⟨(c :: r).toArray⟩ 10 w
   generalize c :: r = q at hx hl hq1 hql hle hle1 hlq hnil hnil2 HE hge CI HX HL ⊢
   generalize Lib.indexByte q 10 = z at hge HE CI
   generalize lineEnd q = e at hle hle1 hlq HE
   obtain ⟨x, hx1⟩ : ∃ x : Ln, x.1 = (pre.length, q.take e) := ⟨⟨(pre.length, q.take e), hpl, by rw [List.length_take]; show _ ≤ _; omega⟩, rfl⟩
   obtain ⟨fn, tmps, assign, body, hy, hR⟩ := hY pre x wr hJs (by omega)
   dsimp only [encLn] at hy
   rw [hx1] at hy
   dsimp only at hy
   obtain ⟨m, hm⟩ : ∃ m, m = pre.length := ⟨_, rfl⟩
   have HM : Hid (m = pre.length) := hm
   have HX1 : Hid (x.1 = (m, q.take e)) := by show _ = _; rw [hx1, hm]
   rw [← hm, ← ext_take] at hy
   rw [← hm] at hpl ⊢
   have HQ : Hid (linesB q = q.take e :: linesB (q.drop e)) := hlq
   have HF : Hid (∀ (wx : World), J (pre ++ [x]) wx → ∃ (pre' : List Ln) (rest' : Pc), Value.string ((⟨q.toArray⟩ : ByteArray).extract e q.length) = .string ⟨rest'.toArray⟩ ∧ Value.int .i64 ((m : Int) + 1) = .int .i64 pre'.length ∧ pre'.map (·.1) ++ numbered pre'.length (linesB rest') = numbered 0 (linesB s) ∧ pre'.length + rest'.length ≤ s.length ∧ J pre' wx) := fun wx hj => by
    refine ⟨pre ++ [x], q.drop e, by rw [ext_drop], by simp [HM.out], ?_, ?_, hj⟩
    ·have h1 := HX.out
     rw [HQ.out, numbered] at h1
     rw [← h1]
     simp [HX1.out, HM.out]
    ·have h2 := HL.out
     simp only [List.length_append, List.length_cons, List.length_nil, List.length_drop]
     omega
   have HFX : Hid (∃ t, (pre ++ [x]).map (·.1) ++ t = numbered 0 (linesB s)) := ⟨numbered (m + 1) (linesB (q.drop e)), by
    have h1 := HX.out
    rw [HQ.out, numbered] at h1
    rw [← h1]
    simp [HX1.out, HM.out]⟩
   clear hm hx1 hlq
   clear hx hl
   by_cases hz : z = -1
   ·subst hz
    have he : q.length = e := by have := HE.out; rw [if_pos rfl] at this; exact this.symm
    subst he
    gi_wp2_with (refine ⟨trivial, ?_⟩; gi_at_call 26; refine (callsIn_wide.2 (CI.out _)).mono ?_; rintro e w2 ⟨rfl, hw2⟩; replace hw2 := hw2.symm; subst hw2)
    refine hR.mono ?_
    rintro ee W3 (⟨rfl, hJ3, hk3⟩ | ⟨rfl, hJx3⟩)
    ·gi_wp2
     go_roundw
     case rel =>
      obtain ⟨a1, a2, a3, a4, a5, a6, a7⟩ := HF.out _ hJ3
      exact ⟨a1, a2, by simpa using a3, a4, a5, a6, a7⟩
     case measure => simp; omega
    ·gi_wp2
     refine bodyPost_ret (results_none rfl _ _ _) rfl ?_
     exact ⟨⟨_, rfl⟩, .inr ⟨pre ++ [x], HFX.out, hJx3⟩⟩
   ·obtain ⟨k, rfl⟩ : ∃ k : Nat, z = k := ⟨z.toNat, by omega⟩
    have he : e = k + 1 := by have := HE.out; rw [if_neg hz] at this; simpa using this
    subst he
    have hw1 : wrap64 ((k : Int) + 1) = (k : Int) + 1 := by simp only [wrap64]; omega
    have hk0 : ((k : Int) + 1 == 0) = false := by simp; omega
    gi_wp2_with (refine ⟨trivial, ?_⟩; gi_at_call 26; refine (callsIn_wide.2 (CI.out _)).mono ?_; rintro e w2 ⟨rfl, hw2⟩; replace hw2 := hw2.symm; subst hw2)
    refine hR.mono ?_
    rintro ee W3 (⟨rfl, hJ3, hk3⟩ | ⟨rfl, hJx3⟩)
    ·gi_wp2
     go_roundw
     case rel =>
      obtain ⟨a1, a2, a3, a4, a5, a6, a7⟩ := HF.out _ hJ3
      exact ⟨a1, a2, a3, a4, a5, a6, a7⟩
     case measure => simp; omega
    ·gi_wp2
     refine bodyPost_ret (results_none rfl _ _ _) rfl ?_
     exact ⟨⟨_, rfl⟩, .inr ⟨pre ++ [x], HFX.out, hJx3⟩⟩
end Go.Proofs.YtfacdhkadnmnlaaDoor
