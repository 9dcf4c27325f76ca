/- Contracts of flow.wanted, flow.touched and flow.live: what is live ahead of each instruction. -/
import Derived.Test.YteilohamjijpbaaDoorXLiveMath
import Derived.Test.YteilohamjijpbaaDoorXKeptMath
import Derived.Test.YteilohamjijpbaaDoorGroupC
import Derived.Test.YteilohamjijpbaaDoorGroupA
import Derived.Deep.AppendLies
namespace Go.Proofs.YteilohamjijpbaaDoor
open Go Go.RowKit

theorem made_ints0 (c : Nat) : (madeCells (Value.int .i64 0).cells (c * 1)).toList = i64s (List.replicate c 0) := by
  simp [madeCells, i64s, Value.cells]
  apply List.ext_getElem
  · simp
  · intro i h1 h2
    have : i % 1 = 0 := Nat.mod_one i
    simp [this]
theorem wrap_signed (n : Int) (h0 : -9223372036854775808 ≤ n) (h1 : n ≤ 9223372036854775807) : IntKind.i64.wrap n = n := by
  by_cases h : 0 ≤ n
  · have e : n % 2 ^ 64 = n := Int.emod_eq_of_lt h (by simp; omega)
    have w1 : IntKind.i64.wrap n = if (true && decide (n ≥ 2 ^ 63)) = true then n - (2 ^ 64 : Int) else n := by
      simp only [IntKind.wrap, IntKind.bits, IntKind.signed, e]
    rw [w1, if_neg (by simp; omega)]
  · have e : n % 2 ^ 64 = n + 2 ^ 64 := by
      rw [← Int.add_emod_right]
      exact Int.emod_eq_of_lt (by simp; omega) (by simp; omega)
    have w1 : IntKind.i64.wrap n = if (true && decide (n + 2 ^ 64 ≥ 2 ^ 63)) = true then n + 2 ^ 64 - (2 ^ 64 : Int) else n + 2 ^ 64 := by
      simp only [IntKind.wrap, IntKind.bits, IntKind.signed, e]
    rw [w1, if_pos (by simp; omega)]
    omega
/-- A row of numbers that the call has made. -/
abbrev IntRow (w : World) (g n : Nat) (l : List Int) : Prop := w.ownsRow 0 3 1 (.slice (some ⟨g, 0, none⟩) n n) n (i64s l)
theorem int_cell {w : World} {g n : Nat} {l : List Int} (h : IntRow w g n l) (hl : l.length = n) (i : Nat) (hi : i < n) : w.cell? ⟨g, i, none⟩ = some (.int .i64 (l.getD i 0)) := by
  rw [h.cellAt i (by omega)]
  simp [i64s, List.getD, show i < l.length by omega]
theorem int_store {w : World} {g n : Nat} {l : List Int} (h : IntRow w g n l) (i : Nat) (z : Int) : IntRow (w.setCell ⟨g, i, none⟩ (.int .i64 z)) g n (l.set i z) ∧ w.grownBy (w.setCell ⟨g, i, none⟩ (.int .i64 z)) (some g) := by
  have := h.stored i (.int .i64 z)
  have e : (i64s l).set i (.int .i64 z) = i64s (l.set i z) := by simp [i64s, List.map_set]
  rw [e] at this
  exact this
theorem int_vals {w : World} {g n : Nat} {l : List Int} (h : IntRow w g n l) (hl : l.length = n) (hm : n ≤ maxLen) : IntsVal w (.slice (some ⟨g, 0, none⟩) n n) l := by
  refine ⟨_, g, 0, n, n, rfl, hl, fun _ => rfl, fun k hk => ?_, ⟨Nat.le_refl _, fun e => by cases e⟩, hm⟩
  have := int_cell h hl k (by omega)
  rw [Nat.zero_add, this]
  simp [List.getD, hk]

theorem want_take (L : List Int) (ts : List Nat) (e : Nat) (h : e < ts.length) : wantL L (ts.take (e + 1)) = wantL L (ts.take e) ||| mkL L ts[e] := by
  unfold wantL
  rw [List.take_add_one, List.getElem?_eq_getElem h, List.foldl_append]
  rfl
theorem want_take_lt (L : List Int) (ts : List Nat) (h : ∀ t ∈ ts, mkL L t < 4096) (e : Nat) : wantL L (ts.take e) < 4096 := want_lt L _ fun t ht => h t (List.mem_of_mem_take ht)

def rdL (P : List Fn) (f : Fn) : List Int := f.code.map fun x => (rdMask P x : Int)
def setL (f : Fn) : List Int := f.code.map fun x => (setMask x : Int)
theorem rdL_len (P : List Fn) (f : Fn) : (rdL P f).length = f.code.length := by simp [rdL]
theorem setL_len (f : Fn) : (setL f).length = f.code.length := by simp [setL]
theorem take_snoc {l : List Int} {q : Nat} {z : Int} (h : q < l.length) (hz : l[q] = z) : l.take (q + 1) = l.take q ++ [z] := by
  rw [List.take_add_one, List.getElem?_eq_getElem h, hz]; rfl

theorem prog_codeF {w : World} {v : Value} {P : List Fn} (hv : ProgVal w v P) {k : Nat} (hk : k < P.length) (h1 : 1 ≤ P[k].code.length) :
    ∃ b off cap b2 off2 cap2, v = .slice (some ⟨b, off, none⟩) P.length cap ∧ cap ≤ 9223372036854775807 ∧ P.length ≤ cap ∧ cap2 ≤ 9223372036854775807 ∧ P[k].code.length ≤ cap2 ∧
      ∀ W, Below w.heap.size w W → W.cell? ⟨b, off + k * 3 + 2, none⟩ = some (.slice (some ⟨b2, off2, none⟩) P[k].code.length cap2) ∧ ∀ q, q < P[k].code.length → insAt W b2 (off2 + q * 5) (insD P[k] q) := by
  obtain ⟨b, off, cap, u, rfl, d0, d1, d2, hcv, hm, hcc⟩ := prog_fn hv hk
  obtain ⟨ao2, b2, off2, n2, cap2, rfl, ⟨hlen2, haddr2, hat2⟩, hcap2, hmx2⟩ := hcv
  subst hlen2
  obtain rfl := haddr2 (by omega)
  refine ⟨b, off, cap, b2, off2, cap2, rfl, hm, hcc, by simpa [maxLen] using hmx2, hcap2.1, fun W hW => ⟨keeps_below hW _ _ d2, fun q hq => ?_⟩⟩
  rw [insD_eq hq]
  exact (hat2 q hq).keeps (keeps_below hW)

end Go.Proofs.YteilohamjijpbaaDoor
