/-
  For every slice of pairs of int16, every two numbers of uint16 and every two of int16 the Go function SpanRows returns true, and its arguments read afterwards as they read before.
  Conditions: none.
-/
import Derived.Test.YtkhongbemoahpaaL7
import Derived.Test.YtkhongbemoahpaaW12o
namespace Go.Proofs.Ytkhongbemoahpaa
open Go.ChangeShapes Go.WideShapes Go.ChangeAt Go.RowKit Go.Deep
set_option linter.unusedVariables false
set_option linter.unusedSimpArgs false

theorem rows_walk (v : Value) (ps : List (Int × Int)) (p0 p1 y0 y1 : Int) (w : World) (hx : P16At w v ps) (hp0 : 0 ≤ p0 ∧ p0 ≤ 65535) (hp1 : 0 ≤ p1 ∧ p1 ≤ 65535) (hy0 : -32768 ≤ y0 ∧ y0 ≤ 32767) (hy1 : -32768 ≤ y1 ∧ y1 ≤ 32767) :
    Calls Try.prog 3 #[v, .agg #[.int .u16 p0, .int .u16 p1], .agg #[.int .i16 y0, .int .i16 y1]] w fun e w' => e = .returned (.bool true) ∧ Below w.heap.size w w' := by
  have hbd := hx.bd
  obtain ⟨A, c, rfl, h⟩ := hx
  by_cases hs : ps.length < 2 ∨ ¬ ps.length < 2 ∧ 12 < ps.length
  · exact rows_short A _ c p0 p1 y0 y1 w hs
  obtain ⟨g, off, rfl, hg, hr⟩ := h (by omega)
  obtain ⟨hT, hlen, hb0⟩ := st_fine (ps := ps) (by omega) (by omega) hbd
  obtain ⟨m, hm⟩ : ∃ m, (stS ps).1.length = m + 1 := ⟨(stS ps).1.length - 1, by omega⟩
  obtain ⟨f, hf⟩ : ∃ f, (stS ps).1[0]? = some f := ⟨_, List.getElem?_eq_getElem (by omega)⟩
  obtain ⟨l, hl⟩ : ∃ l, (stS ps).1[m]? = some l := ⟨_, List.getElem?_eq_getElem (by omega)⟩
  have hfl := hT.2.2.2 0 m f l (by omega) hf hl
  have hX : rowX (stS ps).1 p0 = f.1 + p0 % (l.1 - f.1 + 1) := by
    unfold rowX
    rw [List.head?_eq_getElem?, List.getLast?_eq_getElem?, hm, hf, show m + 1 - 1 = m from rfl, hl]
    rfl
  have rd0 := Int.emod_nonneg p0 (show l.1 - f.1 + 1 ≠ 0 by omega)
  have re0 := Int.emod_lt_of_pos p0 (show 0 < l.1 - f.1 + 1 by omega)
  rcases valV_gap hT (x := rowX (stS ps).1 p0) (cov_of hm hf hl (by omega) (by omega)) with hq | hq
  · exact rows_long0 ps g off c p0 p1 y0 y1 w hp0 hp1 hy0 hy1 (by omega) (by omega) hg hr hbd hq
  · exact rows_long1 ps g off c p0 p1 y0 y1 w hp0 hp1 hy0 hy1 (by omega) (by omega) hg hr hbd hq

set_option maxRecDepth 100000 in
theorem rows_lifted (os : Os) (started : os.Started) (H : Type) (enc : TypeId × Value → H) :
    ReturnsInHanded {} Try.checked os 3 .any (Rows.spanRowsSpec.pre6 enc Try.prog Try.f3 Rows.spanRowsRow.domain false) (Rows.spanRowsSpec.post enc Try.prog Try.f3 false true false false) := by
  refine returnsInHanded_of_change (C := Try.checked) ownKnobs started (by kernel_rfl) Try.func3
    (ChangeSpec.witness6 (enc := enc) (C := Try.checked) false ⟨#[], #[.slice none 0 0, .agg #[.int .u16 0, .int .u16 0], .agg #[.int .i16 0, .int .i16 0]], []⟩ 8 (by kernel_rfl) (by kernel_rfl) (by kernel_rfl) (by kernel_rfl)) ?_
  intro W base args ds gs before hval0 hW hcnd _
  have hval : ∀ (j : Nat) t v, Try.f3.params[j]? = some t → args[j]? = some v → Value.okWide Try.prog W .any base t v := hval0
  have hW' := hW
  obtain ⟨p, q, hA0, hV, rfl, hfz, hnd⟩ := hW
  have hA : DataW.TrodAll enc Try.prog W 0 (fun _ => true) true Try.f3.params.toList args.toList ds p := hA0
  rw [Try.params3] at hA hval
  obtain ⟨v0, vs0, d0, ds0, p0, q0, hargs, rfl, rfl, h0, r0⟩ := trodAll_cons hA
  obtain ⟨v1, vs1, d1, ds1, p1, q1, rfl, rfl, rfl, h1, r1⟩ := trodAll_cons r0
  obtain ⟨v2, vs2, d2, ds2, p2, q2, rfl, rfl, rfl, h2, r2⟩ := trodAll_cons r1
  obtain ⟨rfl, rfl, rfl⟩ := trodAll_nil r2
  obtain rfl : args = #[v0, v1, v2] := by cases args; simp_all
  obtain ⟨rfl, rfl⟩ := trodVars_none hV
  obtain ⟨xs, hx⟩ := open_p16 (hval 0 22 v0 rfl rfl) h0
  obtain ⟨a, b, rfl, rfl, rfl, wa, wb⟩ := open_a2L Try.underlying24 cells_u16L cells_u16p Try.underlying23 (hval 1 24 v1 rfl rfl) h1
  obtain ⟨c, e, rfl, rfl, rfl, wc, we⟩ := open_a2L Try.underlying26 cells_i16L cells_i16p Try.underlying25 (hval 2 26 v2 rfl rfl) h2
  clear hA0 hval0
  simp only [List.append_nil] at hW'
  have hlt0 : ∀ x ∈ p0, x.block < W.heap.size := fun x hx' => by have := hW'.lt x (by simp [hx']); simpa using this
  refine (rows_walk v0 xs a b c e W hx (wf_u16 wa) (wf_u16 wb) (wf_i16 wc) (wf_i16 we)).mono fun e W' ⟨he, hg⟩ => ?_
  subst he
  exact ⟨_, rfl, post_law hW' hg (trodAll_cons_mk (shut_bool Try.underlying4 _) trodAll_mk0) (by have key := trodAll_cons_mk (Below.trod laidOutL (by kernel_rfl) (of_decide_eq_true (by kernel_rfl)) h0 hg hlt0) (trodAll_cons_mk (shut_a2L Try.underlying24 cells_u16L cells_u16p Try.underlying23 wa wb) (trodAll_cons_mk (shut_a2L Try.underlying26 cells_i16L cells_i16p Try.underlying25 wc we) trodAll_mk0)); simp only [List.append_nil, List.append_assoc] at key ⊢; exact key) rfl⟩

theorem rows_over : Rows.spanRowsRow.holds Try.pinned (OpenSpec.ofChange Rows.spanRowsSpec) :=
  OpenClaim.holds_of_wide 3 Try.f3 rfl rfl rfl rfl rfl rfl rfl ⟨rfl, rfl, rfl, rfl, rfl⟩ rfl rfl rfl rfl rfl (by kernel_rfl) Try.func3 (by kernel_rfl)
    (of_decide_eq_true (by kernel_rfl)) (by unfold Func.isWrapper; first | (rw [if_pos (by decide +kernel)]; kernel_rfl) | (rw [if_neg (by decide +kernel)]; exact ⟨rfl, rfl⟩))
    (fun os started H enc _ => rows_lifted os started H enc)

theorem rows_holds : Rows.SpanRowsSaid :=
  rows_over
end Go.Proofs.Ytkhongbemoahpaa
