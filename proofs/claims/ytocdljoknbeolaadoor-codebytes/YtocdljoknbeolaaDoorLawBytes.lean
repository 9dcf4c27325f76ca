/- The walk of tierlinekeep.CodeBytes: at all raw numbers it says true, and nothing that was there has turned. -/
import Derived.Test.YtocdljoknbeolaaDoorShapeOk
namespace Go.Proofs.YtocdljoknbeolaaDoor
open Go Go.RowKit

theorem progPart_length (p : List Fn) (n k : Nat) (h : k < p.length) : (progPart p n (k + 1)).length = (progPart p n k).length + (3 + p[k].code.length * 12) := by
  rw [progPart_succ p n k h, List.length_append, fnBytes_length]
theorem codes_len (l : List Fn) : ∀ f ∈ shapedP l, f.code.length ≤ 24 := by
  intro f hf
  obtain ⟨i, _, rfl⟩ := List.mem_map.1 hf
  simp [mkFn]; omega
theorem progPart_le (p : List Fn) (n : Nat) (h : ∀ f ∈ p, f.code.length ≤ 24) : ∀ k, k ≤ p.length → (progPart p n k).length ≤ 1 + k * 291
  | 0, _ => by simp [progPart]
  | k + 1, hk => by
    have := progPart_le p n h k (by omega)
    have h2 := h p[k] (List.getElem_mem (by omega))
    rw [progPart_length p n k (by omega)]
    omega

set_option maxHeartbeats 1000000 in
theorem codeBytes_walk (l : List Fn) (v : Value) (w : World) (ht : TabOk w) (hv : ProgVal w v l) (hwf : ∀ f ∈ l, f.wf) :
    Calls Tryd.prog 7 #[v] w fun e w' => e = .returned (.bool true) ∧ Below w.heap.size w w' := by
  have hok := shaped_ok l
  have hcl := codes_len l
  have HS := shaped_mk l v w hv hwf
  obtain ⟨ao, n, cap, rfl⟩ := hv.shape
  generalize shapedP l = P at hok hcl HS
  have hHS : Hid (Calls Tryd.prog 19 #[.slice ao n cap] w fun e w' => ∃ v' us, e = .returned (.agg #[v']) ∧ Built w' w.heap.size 43 46 v' P us ∧ Below w.heap.size w w') := HS
  obtain ⟨hp1, hp4, _⟩ := codeProg_zero hok
  have HLE : Hid (∀ k, k ≤ P.length → (progPart P P.length k).length ≤ 1 + k * 291) := progPart_le P P.length hcl
  clear HS hv hwf hcl
  go_enter Tryd.func7, Tryd.ntmps7
  go_wp2_with (first
    | (go_at_call 19; refine hHS.out.mono ?_; rintro e w1 ⟨v1, us, rfl, hbt, hb1⟩; have hp1 := hbt.prog; obtain ⟨ao1, b1, off1, n1, cap1, rfl, hfs, _, _⟩ := hbt.prog; have hB1 : Below w1.heap.size w1 (w1.alloc (.cells #[.slice ao1 n1 cap1] 24)) := (Below.refl _ _).alloc (Nat.le_refl _) _; have hT1 := (ht.below hb1).below hB1; have hP1 := hp1.keeps (keeps_below hB1))
    | (go_at_call 13; refine (encode_ok P _ _ hT1 hP1 hok).mono ?_; rintro e w2 ⟨v2, rfl, hown2, hb2⟩; obtain ⟨ao2, cap2, rfl⟩ := own_shape hown2))
  have hlen := hfs.len
  obtain rfl := hfs.addr (by omega)
  have hb12 : Below w1.heap.size w1 w2 := hB1.trans (hb2.mono (by simp))
  have cp : w2.cell? ⟨w1.heap.size, 0, none⟩ = some (.slice (some ⟨b1, off1, none⟩) n1 cap1) := keeps_below hb2 _ _ (by simp)
  have HAT : Hid (∀ k (h : k < P.length), ∃ v, FnAt w2 b1 (off1 + k * 3) P[k] v) := fun k h => by
    obtain ⟨u, hu⟩ := hfs.at_ k h
    exact ⟨u, hu.keeps (keeps_below hb12)⟩
  have HBW : Hid (Below w.heap.size w w2) := hb1.trans (hb12.mono hb1.size)
  have HPB : Hid (progBytes P = progPart P P.length n1) := by show _ = _; rw [progBytes, hlen]
  have HL1 : Hid (P.length = n1) := hlen
  obtain ⟨g2, c2, hv2, hcell2⟩ := own_some hown2 (by simp [progBytes, progPart])
  simp only [Value.slice.injEq] at hv2
  obtain ⟨rfl, _, rfl⟩ := hv2
  have cb : w2.cell? ⟨g2, 0, none⟩ = some (.int .u8 n1) := by
    have := hcell2 0 (.int .u8 n1) (by rw [HPB.out]; simp [u8s, progPart, hlen])
    simpa [Addr.add] using this
  have hL : (progBytes P).length ≤ 2000 := by rw [HPB.out]; have := HLE.out n1 (by omega); omega
  have hL1 : 1 ≤ (progBytes P).length := by simp [progBytes, progPart]
  generalize hLL : (progBytes P).length = L at hL hL1
  have HLL : Hid ((progBytes P).length = L) := hLL
  clear hfs hT1 hP1 hB1 hb1 hb2 hb12 hown2 hcell2 hbt hLL ht
  go_loop [6, 7] (fun m i => ∃ k : Nat, k ≤ n1 ∧ i = .int .i64 k ∧ m = .int .i64 (progPart P P.length k).length) (fun _ i => n1 - (intOf i).toNat)
  case atStart => exact ⟨0, Nat.zero_le _, rfl, by simp [progPart]⟩
  case round =>
    obtain ⟨k, hk, rfl, rfl⟩ := hrel
    have hle := HLE.out k (by rw [HL1.out]; exact hk)
    by_cases hlt : k < n1
    · have hkx : k < P.length := by rw [HL1.out]; exact hlt
      obtain ⟨u, hfn⟩ := HAT.out k hkx
      obtain ⟨_, _, d2, hu⟩ := hfn
      obtain ⟨ao5, b5, off5, n5, cap5, rfl, hci, _, _⟩ := hu
      have HS : Hid ((progPart P P.length (k + 1)).length = (progPart P P.length k).length + (3 + n5 * 12)) := by
        show _ = _
        rw [progPart_length P P.length k hkx, hci.len]
      have hle' := HLE.out (k + 1) (by rw [HL1.out]; exact hlt)
      rw [HS.out] at hle'
      generalize hM : (progPart P P.length k).length = M at hle hle' HS
      clear hci
      go_wp2
      go_round
      case rel => exact ⟨k + 1, by omega, by go_num, by rw [HS.out]; exact congrArg (Value.int .i64) (by omega)⟩
      case measure => simp [intOf]; omega
    · have hkn : k = n1 := by omega
      subst hkn
      have hkL : (progPart P P.length k).length = L := by rw [← HPB.out]; exact HLL.out
      rw [hkL]
      clear hle hkL
      go_wp2
      go_quiet (fail)
      go_wp2
      go_ret
      exact ⟨rfl, below_drewN HBW.out _⟩

end Go.Proofs.YtocdljoknbeolaaDoor
