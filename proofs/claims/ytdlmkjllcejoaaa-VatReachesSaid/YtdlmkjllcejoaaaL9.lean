/- A membrane among a law's arguments: a number, and a range within the struct. -/
import Derived.Test.YtdlmkjllcejoaaaJ16
import Derived.Carry
namespace Go.Proofs.Ytdlmkjllcejoaaa
open Go.ChangeShapes Go.WideShapes Go.ChangeAt Go.RowKit Go.Joins Go.Deep
set_option linter.unusedVariables false
set_option linter.unusedSimpArgs false

theorem memCells : Try.prog.cellsOf 38 = 3 := by kernel_rfl
theorem intCell : Try.prog.cellsOf 3 = 1 := by kernel_rfl
theorem rngCells : Try.prog.cellsOf 24 = 2 := by kernel_rfl
theorem laidOut : laidOutB Try.prog = true := by kernel_rfl
/-- a range among the cells of a larger value -/
theorem open_range {H : Type} {enc : TypeId × Value → H} {W : World} {base : Nat} {spare : Nat → Bool} {held : Bool} {c0 c1 : Value} {y : DataW H × List MemPlace} {n : Nat}
    (h : DataW.trod enc Try.prog W base spare held n 24 [c0, c1] = some y) : ∃ a b : Int, c0 = .int .i64 a ∧ c1 = .int .i64 b ∧ (Lit.int .i64 a).wf = true ∧ (Lit.int .i64 b).wf = true := by
  obtain ⟨y0, y1, m, rfl, hl, h0, h1⟩ := trod_struct2 Try.underlying24 h
  simp [intCell] at h0 h1
  obtain ⟨a, e0, _, wa⟩ := DataW.trod_int Try.underlying3 h0
  obtain ⟨b, e1, _, wb⟩ := DataW.trod_int Try.underlying3 h1
  simp at e0 e1
  exact ⟨a, b, e0, e1, wa, wb⟩
set_option maxRecDepth 100000 in
theorem open_membrane {H : Type} {enc : TypeId × Value → H} {W : World} {r : Reach} {b0 : Nat} {v : Value} {d : DataW H} {p : List MemPlace}
    (hv : Value.okWide Try.prog W r b0 38 v) (h : DataW.Trod enc Try.prog W 0 (fun _ => true) true 38 v d p) :
    ∃ a b c : Int, v = .agg #[.int .i64 a, .int .i64 b, .int .i64 c] := by
  obtain ⟨cs, rfl, hsz⟩ := okWide_struct Try.underlying38 hv
  rw [memCells] at hsz
  obtain ⟨fuel, hf⟩ := h
  obtain ⟨l⟩ := cs
  match l, hsz with
  | [c0, c1, c2], _ =>
    obtain ⟨y0, y1, m, _, _, h0, h1⟩ := trod_struct2 Try.underlying38 hf
    simp [intCell, rngCells, Value.cells] at h0 h1
    obtain ⟨a, e0, _, wa⟩ := DataW.trod_int Try.underlying3 h0
    obtain ⟨b, c, rfl, rfl, _, _⟩ := open_range h1
    simp at e0
    subst e0
    exact ⟨a, b, c, rfl⟩
end Go.Proofs.Ytdlmkjllcejoaaa
