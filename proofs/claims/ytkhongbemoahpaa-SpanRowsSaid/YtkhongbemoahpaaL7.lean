/- Pairs of int16 and of uint16 among a law's arguments; a slice of such pairs. -/
import Derived.Test.YtkhongbemoahpaaL0
import Derived.Test.YtkhongbemoahpaaC35
import Derived.Laws.IdiomArrays
import Derived.Lib.SmallJoins
import Derived.WideShapes
import Derived.Carry
import Derived.Deep.Slices
namespace Go.Proofs.Ytkhongbemoahpaa
open Go.ChangeShapes Go.WideShapes Go.ChangeAt Go.RowKit Go.Joins Go.Deep
set_option linter.unusedVariables false
set_option linter.unusedSimpArgs false

theorem cells_i16L : Try.prog.cellsOf 25 = 1 := by kernel_rfl
theorem cells_u16L : Try.prog.cellsOf 23 = 1 := by kernel_rfl
theorem cells_i16p : Try.prog.cellsOf 26 = 2 := by kernel_rfl
theorem cells_u16p : Try.prog.cellsOf 24 = 2 := by kernel_rfl
set_option maxRecDepth 100000 in
theorem laidOutL : laidOutB Try.prog = true := by kernel_rfl
section
variable {H : Type} {enc : TypeId × Value → H} {P : Program} {w : World} {base : Nat} {spare : Nat → Bool} {held : Bool}
theorem trod_array2L {t e : TypeId} {fuel : Nat} {c0 c1 : Value} {x : DataW H × List MemPlace} (ht : P.underlying t = some (.array 2 e)) (hce : P.cellsOf e = 1)
    (h : DataW.trod enc P w base spare held fuel t [c0, c1] = some x) :
    ∃ y0 y1 n, x = (.agg [y0.1, y1.1], y0.2 ++ y1.2) ∧ DataW.trod enc P w base spare held n e [c0] = some y0 ∧ DataW.trod enc P w base spare held n e [c1] = some y1 := by
  cases fuel with
  | zero => simp [DataW.trod] at h
  | succ n =>
    unfold DataW.trod at h
    rw [ht] at h
    have r2 : List.range 2 = [0, 1] := rfl
    simp [r2, hce] at h
    obtain ⟨_, h⟩ := h
    cases h0 : DataW.trod enc P w base spare held n e [c0] with
    | none => simp [h0] at h
    | some y0 =>
      cases h1 : DataW.trod enc P w base spare held n e [c1] with
      | none => simp [h0, h1] at h
      | some y1 =>
        simp [h0, h1] at h
        exact ⟨y0, y1, n, h.symm, h0, h1⟩
theorem okWide_arrayL {r : Reach} {b0 : Nat} {t e : TypeId} {n : Nat} {v : Value} (ht : P.underlying t = some (.array n e)) (hv : Value.okWide P w r b0 t v) : ∃ cs, v = .agg cs ∧ cs.size = P.cellsOf t := by
  obtain ⟨cs, h1, h2, _⟩ : ∃ cs, v = .agg cs ∧ cs.size = P.cellsOf t ∧ Row.okWide P w r b0 t cs := by simpa [Value.okWide, ht] using hv
  exact ⟨cs, h1, h2⟩
theorem open_a2L {r : Reach} {b0 : Nat} {t e : TypeId} {k : IntKind} {v : Value} {d : DataW H} {p : List MemPlace} (ht : P.underlying t = some (.array 2 e)) (hce : P.cellsOf e = 1) (hC : P.cellsOf t = 2) (he : P.underlying e = some (.int k))
    (hv : Value.okWide P w r b0 t v) (h : DataW.Trod enc P w base spare held t v d p) :
    ∃ a b : Int, v = .agg #[.int k a, .int k b] ∧ d = .agg [.lit (.int k a), .lit (.int k b)] ∧ p = [] ∧ (Lit.int k a).wf = true ∧ (Lit.int k b).wf = true := by
  obtain ⟨cs, rfl, hsz⟩ := okWide_arrayL ht hv
  obtain ⟨c0, c1, rfl⟩ := array2 (hsz.trans hC)
  obtain ⟨fuel, hf⟩ := h
  obtain ⟨y0, y1, n, hx, hy0, hy1⟩ := trod_array2L ht hce hf
  obtain ⟨a, e0, rfl, wa⟩ := DataW.trod_int he hy0
  obtain ⟨b, e1, rfl, wb⟩ := DataW.trod_int he hy1
  simp at e0 e1
  subst e0 e1
  simp only [Prod.mk.injEq] at hx
  obtain ⟨rfl, rfl⟩ := hx
  exact ⟨a, b, rfl, rfl, rfl, wa, wb⟩
theorem shut_a2L {t e : TypeId} {k : IntKind} {a b : Int} (ht : P.underlying t = some (.array 2 e)) (hce : P.cellsOf e = 1) (hC : P.cellsOf t = 2) (he : P.underlying e = some (.int k)) (wa : (Lit.int k a).wf = true) (wb : (Lit.int k b).wf = true) :
    DataW.Trod enc P w base spare held t (.agg #[.int k a, .int k b]) (.agg [.lit (.int k a), .lit (.int k b)]) [] :=
  ⟨2, by
    have r2 : List.range 2 = [0, 1] := rfl
    simp [DataW.trod, Value.cells, ht, he, hC, hce, r2, wa, wb]⟩
end
set_option maxRecDepth 100000 in
theorem open_p16 {H : Type} {enc : TypeId × Value → H} {W : World} {v : Value} {d : DataW H} {p : List MemPlace} {r : Reach} {b0 : Nat}
    (hv : Value.okWide Try.prog W r b0 22 v) (h : DataW.Trod enc Try.prog W 0 (fun _ => true) true 22 v d p) : ∃ ps, P16At W v ps := by
  obtain ⟨a0, len, cap, rfl⟩ := okWide_slice Try.underlying22 hv
  obtain ⟨fuel, hf⟩ := h
  rcases open_slice Try.underlying22 hf with ⟨hc, _⟩ | ⟨a, len', cap', m, n, D, Pl, hc, _, hl, hm, hmm, _, hall⟩
  · simp [Value.cells] at hc
    obtain ⟨rfl, rfl, rfl⟩ := hc
    exact ⟨[], none, 0, rfl, fun h => absurd h (by simp)⟩
  · simp [Value.cells] at hc
    obtain ⟨rfl, rfl, rfl⟩ := hc
    simp only [if_true] at hmm
    subst hmm
    have each : ∀ i, i < m → ∃ q : Int × Int, W.cell? (a.add (i * 2)) = some (.int .i16 q.1) ∧ W.cell? (a.add (i * 2 + 1)) = some (.int .i16 q.2) ∧ (-32768 ≤ q.1 ∧ q.1 ≤ 32767) ∧ (-32768 ≤ q.2 ∧ q.2 ≤ 32767) := by
      intro i hi
      obtain ⟨cs', h1, h2⟩ := hall i hi
      rw [cells_i16p] at h1
      obtain ⟨_, hlen, hcell⟩ := World.cells?_some h1
      match cs', hlen with
      | [v0, v1], _ =>
        obtain ⟨y0, y1, k, _, g0, g1⟩ := trod_array2L Try.underlying26 cells_i16L h2
        obtain ⟨a0, e0, _, w0⟩ := DataW.trod_int Try.underlying25 g0
        obtain ⟨a1, e1, _, w1⟩ := DataW.trod_int Try.underlying25 g1
        simp at e0 e1
        subst e0 e1
        have c0 := hcell 0 (by simp)
        have c1 := hcell 1 (by simp)
        refine ⟨(a0, a1), by simpa [cells_i16p, Addr.add_add] using c0, by simpa [cells_i16p, Addr.add_add] using c1, wf_i16 w0, wf_i16 w1⟩
    have each' : ∀ i, ∃ q : Int × Int, i < m → W.cell? (a.add (i * 2)) = some (.int .i16 q.1) ∧ W.cell? (a.add (i * 2 + 1)) = some (.int .i16 q.2) ∧ (-32768 ≤ q.1 ∧ q.1 ≤ 32767) ∧ (-32768 ≤ q.2 ∧ q.2 ≤ 32767) := fun i => by
      by_cases hi : i < m
      · obtain ⟨q, hq⟩ := each i hi
        exact ⟨q, fun _ => hq⟩
      · exact ⟨(0, 0), fun h => absurd h hi⟩
    obtain ⟨q, hq⟩ : ∃ q : Nat → Int × Int, ∀ i, i < m → W.cell? (a.add (i * 2)) = some (.int .i16 (q i).1) ∧ W.cell? (a.add (i * 2 + 1)) = some (.int .i16 (q i).2) ∧ (-32768 ≤ (q i).1 ∧ (q i).1 ≤ 32767) ∧ (-32768 ≤ (q i).2 ∧ (q i).2 ≤ 32767) := ⟨fun i => (each' i).choose, fun i => (each' i).choose_spec⟩
    cases len with
    | zero => exact ⟨[], _, _, rfl, fun h => absurd h (by simp)⟩
    | succ k =>
      obtain ⟨b, off, spot⟩ := a
      have hspot : spot = none := by simpa [Addr.add] using World.cell?_spot (hq 0 (by omega)).1
      subst hspot
      refine ⟨(List.range (k + 1)).map q, some ⟨b, off, none⟩, m, by simp, fun _ => ⟨b, off, rfl, ?_, ?_⟩⟩
      · have := World.block_lt_of_cell? W _ (hq 0 (by omega)).1
        simpa [Addr.add_lit] using this
      · intro j p hp
        simp only [List.getElem?_map, Option.map_eq_some_iff] at hp
        obtain ⟨i, hi, rfl⟩ := hp
        obtain ⟨hk, rfl⟩ : j < k + 1 ∧ i = j := by
          obtain ⟨h2, h3⟩ := List.getElem?_eq_some_iff.1 hi
          simp only [List.getElem_range] at h3
          exact ⟨by simpa using h2, h3.symm⟩
        obtain ⟨c0, c1, w0, w1⟩ := hq i (by omega)
        rw [Addr.add_lit] at c0 c1
        exact ⟨⟨c0, c1⟩, w0.1, w0.2, w1.1, w1.2⟩
end Go.Proofs.Ytkhongbemoahpaa

