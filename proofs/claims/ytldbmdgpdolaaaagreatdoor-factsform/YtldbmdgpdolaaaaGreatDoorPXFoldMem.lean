import Derived.Test.YtldbmdgpdolaaaaGreatDoorPXFoldMath
import Derived.Test.YtldbmdgpdolaaaaGreatDoorPXFoldRise
namespace Go.Proofs.YtldbmdgpdolaaaaGreatDoor
open Go Go.RowKit

theorem pigeon : ∀ (M : Nat) (l : List Nat), l.Nodup → (∀ x ∈ l, x < M) → l.length ≤ M
  | 0, [], _, _ => Nat.le_refl _
  | 0, x :: l, _, h => absurd (h x (by simp)) (by omega)
  | M + 1, l, hn, h => by
    have h1 := pigeon M (l.erase M) (hn.erase M) (fun x hx => by
      have h2 := h x (List.mem_of_mem_erase hx)
      have h3 : x ≠ M := fun e => by rw [e] at hx; exact absurd rfl ((hn.mem_erase_iff.1 hx).1)
      omega)
    have h4 := List.length_erase_le (a := M) (l := l)
    have h5 := List.le_length_erase (a := M) (l := l)
    omega
structure GOk (G : Ways) : Prop where
  nodup : G.Nodup
  fit : ∀ x ∈ G, FitW x.1 ∧ FitW x.2
theorem GOk.len {G : Ways} (h : GOk G) : G.length ≤ 4100000 := by
  have h1 : (G.map fun x => ((x.1 + 1).toNat * 2002 + (x.2 + 1).toNat)).Nodup := by
    unfold List.Nodup
    rw [List.pairwise_map]
    refine List.Pairwise.imp_of_mem ?_ h.nodup
    intro x y hx hy hne e
    obtain ⟨⟨a1, a2⟩, ⟨a3, a4⟩⟩ := h.fit x hx
    obtain ⟨⟨b1, b2⟩, ⟨b3, b4⟩⟩ := h.fit y hy
    apply hne
    have e1 : x.1 = y.1 := by omega
    have e2 : x.2 = y.2 := by omega
    exact Prod.ext e1 e2
  have h2 := pigeon 4100000 _ h1 (fun z hz => by
    obtain ⟨x, hx, rfl⟩ := List.mem_map.1 hz
    obtain ⟨⟨a1, a2⟩, ⟨a3, a4⟩⟩ := h.fit x hx
    omega)
  rw [List.length_map] at h2
  exact h2
theorem GOk.add {G : Ways} (h : GOk G) {a b : Int} (ha : FitW a) (hb : FitW b) : GOk (addW G (a, b)) := by
  unfold addW
  split
  · exact h
  · rename_i hn
    refine ⟨List.nodup_append.2 ⟨h.nodup, by simp, fun x hx y hy e => ?_⟩, fun x hx => ?_⟩
    · rw [List.mem_singleton] at hy; rw [e, hy] at hx; exact hn hx
    · rcases List.mem_append.1 hx with hx | hx
      · exact h.fit x hx
      · rw [List.mem_singleton.1 hx]; exact ⟨ha, hb⟩
def noPhi : PhiD := ⟨0, 0, []⟩
structure FcMem (c : FC) (gp gB : Nat) (FF TT : Nat → Int) (VV : Nat → Value) (W0 : World) : Prop where
  part : ∀ b, b < c.n → ∃ (PC : List Value) (aP : Option Addr) (qP cP : Nat) (aI : Option Addr) (qI cI : Nat) (VA : Nat → Value), PC.length = 15 ∧ PC.toArray.all (·.oneCell') = true ∧ PC[1]? = some (.slice aP (c.PH b).length cP) ∧ PC[2]? = some (.slice aI (c.IN b).length cI) ∧ (0 < (c.PH b).length → aP = some ⟨qP, 0, none⟩) ∧ aI = some ⟨qI, 0, none⟩ ∧ (c.PH b).length ≤ cP ∧ (c.IN b).length ≤ cI ∧
    ∀ W, Below W0.heap.size W0 W → W.rangeAt gp (b * 15) PC ∧ W.cell? ⟨gp, b * 15 + 2, none⟩ = some (.slice aI (c.IN b).length cI) ∧ (∀ j, j < (c.PH b).length → W.rangeAt qP (j * 3) [.int .i64 (((c.PH b).getD j noPhi).reg : Nat), .int .i64 ((c.PH b).getD j noPhi).id, VA j] ∧ IntsVal W (VA j) ((c.PH b).getD j noPhi).args) ∧ ∀ j, j < (c.IN b).length → W.rangeAt qI (j * 6) (inC ((c.IN b).getD j noIns))
  blk : ∀ W, Below W0.heap.size W0 W → BlkRow W gB c.n FF TT VV ∧ KnowG W ∧ ∀ b, b < c.n → IntsVal W (VV (2 * b)) (c.NX b) ∧ IntsVal W (VV (2 * b + 1)) (c.PV b)
  i1 : ∀ b, b < c.n → (c.last b).op = 16 → FF (c.I1 b) = TT b ∧ ∀ j, j < c.I1 b → FF j ≠ TT b
  i2 : ∀ b, b < c.n → (c.last b).op = 16 → FF (c.I2 b) = (c.last b).imm ∧ ∀ j, j < c.I2 b → FF j ≠ (c.last b).imm
theorem gcell {V W : World} {row : Nat} (hg : V.grownBy W (some row)) {a : Addr} {v : Value} (hc : V.cell? a = some v) (hne : a.block ≠ row) : W.cell? a = some v :=
  hg.cell hc (fun e => hne (by simpa using e))
theorem gblock {V W : World} {row k : Nat} (hg : V.grownBy W (some row)) {o : Obj} (hc : V.heap[k]? = some o) (hne : k ≠ row) : W.heap[k]? = some o :=
  (hg.block k (lt_of_block hc) (by simpa using hne)).trans hc
theorem infoPartR : (Tryz.prog.info? 63).map (·.size) = some 15 := by kernel_rfl
def RoundPost (W0 : World) (c : FC) (K gp gB FB MB : Nat) (F : Facts) (G : Ways) (e : Ending) (w' : World) : Prop :=
  ∃ (r : Bool) (F' : Facts) (G' : Ways), e = .returned (.bool r) ∧ KnAt w' K gp c.n gB c.VN FB MB F' G' ∧ Below W0.heap.size W0 w' ∧ GOk G' ∧ c.know.Inv F' G' ∧ (r = true → sumF F c.VN + G.length < sumF F' c.VN + G'.length) ∧ (r = false → F' = F ∧ G' = G ∧ c.know.Closed F G)
theorem wpList_len_wantedF {H : Type} {P : Program} (w : World) {ops : Array Oper} {rest : List Oper} {o : Oper} {a : Act} {Q : Exit → Act → World → Prop}
    (hw : Region.wanted o (yielded ops a.tmps) = true) (x : Operand) (t : TypeId) (hop : o.op = Op.call { callee := Callee.builtin Builtin.len, args := #[x], argTypes := #[t] }) (k e : TypeId) (ht : P.underlying t = some (.map k e)) (R : Value → Option (DataW H × List MemPlace)) (b n : Nat) (D : DataW H)
    (hm : a.eval x = .map (some b)) (hown : w.ownsMap P k R b n D) (h : wpList P ops Q rest (a.put o.dst (.int .i64 (Maps.size D))) w) : wpList P ops Q (o :: rest) a w := by
  simp only [wpList, hw, if_true]
  have hl := hown.len ht o.type
  refine Or.inl ?_
  unfold Oper.wp
  simp [execOp, hop, resolve, invoke, builtin, hm, hl, Result.andThen]
  exact h
end Go.Proofs.YtldbmdgpdolaaaaGreatDoor
