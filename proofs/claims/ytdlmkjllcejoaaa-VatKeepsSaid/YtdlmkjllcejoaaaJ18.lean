/- Contracts: L9, L10, joined. -/
import Derived.Test.YtdlmkjllcejoaaaJ16
import Derived.Carry
import Derived.Deep.SlicePairs
import Derived.Test.YtdlmkjllcejoaaaR11
import Derived.Lib.SmallJoins
import Derived.Deep.Strs
namespace Go.Proofs.Ytdlmkjllcejoaaa
open Go.ChangeShapes Go.WideShapes Go.ChangeAt Go.RowKit Go.Joins Go.Deep
set_option linter.unusedVariables false
set_option linter.unusedSimpArgs false

theorem memCells : Try.prog.cellsOf 38 = 3 := by kernel_rfl
theorem intCell : Try.prog.cellsOf 3 = 1 := by kernel_rfl
theorem rngCells : Try.prog.cellsOf 24 = 2 := by kernel_rfl
theorem laidOut : laidOutB Try.prog = true := by kernel_rfl
/-- a range among the cells of a larger value -/
theorem open_range {H : Type} {enc : TypeId × Value → H} {W : World} {base : Nat} {spare : Nat → Bool} {held : Bool} {c0 c1 : Value} {y : DataW H × List MemPlace} {n : Nat}
    (h : DataW.trod enc Try.prog W base spare held n 24 [c0, c1] = some y) : ∃ a b : Int, c0 = .int .i64 a ∧ c1 = .int .i64 b ∧ (Lit.int .i64 a).wf = true ∧ (Lit.int .i64 b).wf = true := by
  obtain ⟨y0, y1, m, rfl, hl, h0, h1⟩ := trod_struct2 Try.underlying24 h
  simp [intCell] at h0 h1
  obtain ⟨a, e0, _, wa⟩ := DataW.trod_int Try.underlying3 h0
  obtain ⟨b, e1, _, wb⟩ := DataW.trod_int Try.underlying3 h1
  simp at e0 e1
  exact ⟨a, b, e0, e1, wa, wb⟩
set_option maxRecDepth 100000 in
theorem open_membrane {H : Type} {enc : TypeId × Value → H} {W : World} {r : Reach} {b0 : Nat} {v : Value} {d : DataW H} {p : List MemPlace}
    (hv : Value.okWide Try.prog W r b0 38 v) (h : DataW.Trod enc Try.prog W 0 (fun _ => true) true 38 v d p) :
    ∃ a b c : Int, v = .agg #[.int .i64 a, .int .i64 b, .int .i64 c] := by
  obtain ⟨cs, rfl, hsz⟩ := okWide_struct Try.underlying38 hv
  rw [memCells] at hsz
  obtain ⟨fuel, hf⟩ := h
  obtain ⟨l⟩ := cs
  match l, hsz with
  | [c0, c1, c2], _ =>
    obtain ⟨y0, y1, m, _, _, h0, h1⟩ := trod_struct2 Try.underlying38 hf
    simp [intCell, rngCells, Value.cells] at h0 h1
    obtain ⟨a, e0, _, wa⟩ := DataW.trod_int Try.underlying3 h0
    obtain ⟨b, c, rfl, rfl, _, _⟩ := open_range h1
    simp at e0
    subst e0
    exact ⟨a, b, c, rfl⟩

open Go.ChangeShapes Go.WideShapes Go.ChangeAt Go.RowKit Go.Deep Go.Joins
set_option linter.unusedVariables false
set_option linter.unusedSimpArgs false

theorem rowCells : Try.prog.cellsOf 169 = 2 := by kernel_rfl
theorem cells_int5 : Try.prog.cellsOf 3 = 1 := by kernel_rfl
theorem ruleCells : Try.prog.cellsOf 26 = 4 := by kernel_rfl
theorem sliceCell : Try.prog.cellsOf 22 = 1 := by kernel_rfl
set_option maxRecDepth 100000 in
theorem open_rowsC {H : Type} {enc : TypeId × Value → H} {W : World} {v : Value} {y : DataW H × List MemPlace} {n0 : Nat}
    (hf : DataW.trod enc Try.prog W 0 (fun _ => true) true n0 22 [v] = some y) : ∃ xs, ArgAt W v xs := by
  rcases open_slice_pairs (cs := [v]) Try.underlying22 Try.underlying169 rowCells rfl rfl cells_int5 cells_int5 hf with ⟨hc, _⟩ | ⟨a, len, cap, m, k, V0, V1, D0, D1, P0, P1, hc, _, hl, hm, hmm, _, hall⟩
  · simp at hc
    subst hc
    exact ⟨[], Or.inl ⟨⟨_, _, rfl⟩, rfl⟩⟩
  · simp at hc
    subst hc
    simp only [if_true] at hmm
    subst hmm
    cases len with
    | zero => exact ⟨[], Or.inl ⟨⟨_, _, rfl⟩, rfl⟩⟩
    | succ n =>
      obtain ⟨b, off, spot⟩ := a
      have hspot : spot = none := by simpa [Addr.add] using World.cell?_spot (hall 0 (by omega)).1
      subst hspot
      refine ⟨(List.range (n + 1)).map fun i => (RowKit.intOf (V0 i), RowKit.intOf (V1 i)), Or.inr ⟨b, off, m, by simp, by simpa using hl, ?_, ?_⟩⟩
      · have := World.block_lt_of_cell? W _ (hall 0 (by omega)).1
        simpa [Addr.add_lit] using this
      · intro k p hp
        simp only [List.getElem?_map, Option.map_eq_some_iff] at hp
        obtain ⟨i, hi, rfl⟩ := hp
        obtain ⟨hk, rfl⟩ : k < n + 1 ∧ i = k := by
          obtain ⟨h2, h3⟩ := List.getElem?_eq_some_iff.1 hi
          simp only [List.getElem_range] at h3
          exact ⟨by simpa using h2, h3.symm⟩
        obtain ⟨c0, c1, t0, t1⟩ := hall i (by omega)
        obtain ⟨N0, e0, _, _⟩ := DataW.trod_int Try.underlying3 t0
        obtain ⟨N1, e1, _, _⟩ := DataW.trod_int Try.underlying3 t1
        simp at e0 e1
        rw [e0] at c0
        rw [e1] at c1
        rw [Addr.add_lit] at c0 c1
        rw [e0, e1]
        exact ⟨c0, c1⟩
set_option maxRecDepth 100000 in
theorem open_rsC {H : Type} {enc : TypeId × Value → H} {W : World} {v : Value} {y : DataW H × List MemPlace} {n0 : Nat}
    (hf : DataW.trod enc Try.prog W 0 (fun _ => true) true n0 27 [v] = some y) : ∃ xs, ArgAt W v xs := by
  rcases open_slice_pairs (cs := [v]) Try.underlying27 Try.underlying24 rngCells rfl rfl cells_int5 cells_int5 hf with ⟨hc, _⟩ | ⟨a, len, cap, m, k, V0, V1, D0, D1, P0, P1, hc, _, hl, hm, hmm, _, hall⟩
  · simp at hc
    subst hc
    exact ⟨[], Or.inl ⟨⟨_, _, rfl⟩, rfl⟩⟩
  · simp at hc
    subst hc
    simp only [if_true] at hmm
    subst hmm
    cases len with
    | zero => exact ⟨[], Or.inl ⟨⟨_, _, rfl⟩, rfl⟩⟩
    | succ n =>
      obtain ⟨b, off, spot⟩ := a
      have hspot : spot = none := by simpa [Addr.add] using World.cell?_spot (hall 0 (by omega)).1
      subst hspot
      refine ⟨(List.range (n + 1)).map fun i => (RowKit.intOf (V0 i), RowKit.intOf (V1 i)), Or.inr ⟨b, off, m, by simp, by simpa using hl, ?_, ?_⟩⟩
      · have := World.block_lt_of_cell? W _ (hall 0 (by omega)).1
        simpa [Addr.add_lit] using this
      · intro k p hp
        simp only [List.getElem?_map, Option.map_eq_some_iff] at hp
        obtain ⟨i, hi, rfl⟩ := hp
        obtain ⟨hk, rfl⟩ : k < n + 1 ∧ i = k := by
          obtain ⟨h2, h3⟩ := List.getElem?_eq_some_iff.1 hi
          simp only [List.getElem_range] at h3
          exact ⟨by simpa using h2, h3.symm⟩
        obtain ⟨c0, c1, t0, t1⟩ := hall i (by omega)
        obtain ⟨N0, e0, _, _⟩ := DataW.trod_int Try.underlying3 t0
        obtain ⟨N1, e1, _, _⟩ := DataW.trod_int Try.underlying3 t1
        simp at e0 e1
        rw [e0] at c0
        rw [e1] at c1
        rw [Addr.add_lit] at c0 c1
        rw [e0, e1]
        exact ⟨c0, c1⟩

set_option maxRecDepth 100000 in
theorem open_rules {H : Type} {enc : TypeId × Value → H} {W : World} {r : Reach} {b0 : Nat} {v : Value} {d : DataW H} {p : List MemPlace}
    (hv : Value.okWide Try.prog W r b0 26 v) (h : DataW.Trod enc Try.prog W 0 (fun _ => true) true 26 v d p) :
    ∃ (va : Value) (xs : List (Int × Int)) (a b c : Int), v = .agg #[va, .int .i64 a, .int .i64 b, .int .i64 c] ∧ ArgAt W va xs := by
  obtain ⟨cs, rfl, hsz⟩ := okWide_struct Try.underlying26 hv
  rw [ruleCells] at hsz
  obtain ⟨fuel, hf⟩ := h
  obtain ⟨l⟩ := cs
  match l, hsz with
  | [c0, c1, c2, c3], _ =>
    obtain ⟨y0, y1, y2, m, _, _, h0, h1, h2⟩ := trod_struct3 Try.underlying26 hf
    simp [intCell, rngCells, sliceCell, Value.cells] at h0 h1 h2
    obtain ⟨xs, hx⟩ := open_rowsC h0
    obtain ⟨a, e0, _, wa⟩ := DataW.trod_int Try.underlying3 h1
    obtain ⟨b, c, rfl, rfl, _, _⟩ := open_range h2
    simp at e0
    subst e0
    exact ⟨c0, xs, a, b, c, rfl, hx⟩
set_option maxRecDepth 100000 in
theorem open_rs' {H : Type} {enc : TypeId × Value → H} {W : World} {v : Value} {d : DataW H} {p : List MemPlace} {r : Reach} {b0 : Nat}
    (hv : Value.okWide Try.prog W r b0 27 v) (h : DataW.Trod enc Try.prog W 0 (fun _ => true) true 27 v d p) : ∃ xs, ArgAt W v xs := by
  obtain ⟨a0, len, cap, rfl⟩ := okWide_slice Try.underlying27 hv
  obtain ⟨fuel, hf⟩ := h
  exact open_rsC hf
end Go.Proofs.Ytdlmkjllcejoaaa
