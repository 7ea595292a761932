/- Contracts: CheckSet and has, the empty and the nil set let in. -/
import Derived.Test.YtdlmkjllcejoaaaT7
namespace Go.Proofs.Ytdlmkjllcejoaaa
open Go.RowKit Go.Lib Go.Shelf
set_option linter.unusedVariables false
set_option linter.unusedSimpArgs false
attribute [local go_sem ↓] Go.wp_at_zero Go.wp_at_succ

/-- the slice value v reads as the pairs xs; it lies below block B -/
def SetAt (B : Nat) (w : World) (v : Value) (xs : List (Int × Int)) : Prop :=
  ∃ A c, v = .slice A xs.length c ∧ (0 < xs.length → ∃ g off, A = some ⟨g, off, none⟩ ∧ g < B ∧ RRd w g off xs)
theorem SetAt.below {B B' : Nat} {w w' : World} {v : Value} {xs : List (Int × Int)} (h : SetAt B w v xs) (hb : Below B' w w') (hB : B ≤ B') : SetAt B w' v xs := by
  obtain ⟨A, c, rfl, h⟩ := h
  refine ⟨A, c, rfl, fun hn => ?_⟩
  obtain ⟨g, off, rfl, hg, hr⟩ := h hn
  exact ⟨g, off, rfl, hg, hr.below hb (by omega)⟩
theorem SetAt.mono {B B' : Nat} {w : World} {v : Value} {xs : List (Int × Int)} (h : SetAt B w v xs) (hB : B ≤ B') : SetAt B' w v xs := by
  obtain ⟨A, c, rfl, h⟩ := h
  refine ⟨A, c, rfl, fun hn => ?_⟩
  obtain ⟨g, off, rfl, hg, hr⟩ := h hn
  exact ⟨g, off, rfl, by omega, hr⟩

end Go.Proofs.Ytdlmkjllcejoaaa

