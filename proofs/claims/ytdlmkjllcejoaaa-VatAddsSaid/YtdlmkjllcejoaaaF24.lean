/-
  For every sap and all numbers that the arguments tell, the Go function VatAdds returns true, and its arguments read afterwards as they read before.
  Conditions: none.
-/
import Derived.Test.YtdlmkjllcejoaaaJ16
import Derived.Test.YtdlmkjllcejoaaaL8
import Derived.Test.YtdlmkjllcejoaaaJ15
namespace Go.Proofs.Ytdlmkjllcejoaaa
open Go.ChangeShapes Go.WideShapes Go.ChangeAt Go.RowKit
set_option linter.unusedVariables false
set_option linter.unusedSimpArgs false

set_option maxRecDepth 100000 in
theorem adds_lifted (os : Os) (started : os.Started) (H : Type) (enc : TypeId × Value → H) :
    ReturnsInHanded {} Try.checked os 5 .any (Rows.vatAddsSpec.pre6 enc Try.prog Try.f5 Rows.vatAddsRow.domain false) (Rows.vatAddsSpec.post enc Try.prog Try.f5 false true false false) := by
  refine returnsInHanded_of_change (C := Try.checked) ownKnobs started (by kernel_rfl) Try.func5
    (ChangeSpec.witness6 (enc := enc) (C := Try.checked) false ⟨#[], #[.agg #[.int .i64 0, .int .i64 0], .agg #[.int .u16 0, .int .u16 0, .int .u16 0, .int .u16 0], .agg #[.int .u8 0, .int .u8 0]], []⟩ 8 (by kernel_rfl) (by kernel_rfl) (by kernel_rfl) (by kernel_rfl)) ?_
  intro W base args ds gs before hval0 hW hcnd _
  have hval : ∀ (j : Nat) t v, Try.f5.params[j]? = some t → args[j]? = some v → Value.okWide Try.prog W .any base t v := hval0
  have hW' := hW
  obtain ⟨p, q, hA0, hV, rfl, hfz, hnd⟩ := hW
  have hA : DataW.TrodAll enc Try.prog W 0 (fun _ => true) true Try.f5.params.toList args.toList ds p := hA0
  rw [Try.params5] at hA hval
  obtain ⟨v0, vs0, d0, ds0, p0, q0, hargs, rfl, rfl, h0, r0⟩ := trodAll_cons hA
  obtain ⟨v1, vs1, d1, ds1, p1, q1, rfl, rfl, rfl, h1, r1⟩ := trodAll_cons r0
  obtain ⟨v2, vs2, d2, ds2, p2, q2, rfl, rfl, rfl, h2, r2⟩ := trodAll_cons r1
  obtain ⟨rfl, rfl, rfl⟩ := trodAll_nil r2
  obtain rfl : args = #[v0, v1, v2] := by cases args; simp_all
  obtain ⟨rfl, rfl⟩ := trodVars_none hV
  obtain ⟨a, b, rfl, rfl, rfl, wa, wb⟩ := open_ii Try.underlying36 (by kernel_rfl) sapCells Try.underlying3 Try.underlying3 (hval 0 36 v0 rfl rfl) h0
  obtain ⟨c, d, e, f, rfl, rfl, rfl, wc, wd, we, wf⟩ := open_a4 Try.underlying45 (by kernel_rfl) (by kernel_rfl) Try.underlying44 (hval 1 45 v1 rfl rfl) h1
  obtain ⟨x, y, rfl, rfl, rfl, wx, wy⟩ := open_a2 Try.underlying46 (by kernel_rfl) (by kernel_rfl) Try.underlying5 (hval 2 46 v2 rfl rfl) h2
  clear hA0 hval0
  simp only [List.append_nil] at hW'
  refine (vatAdds_true a b c d e f x y (wf_u16 wc) (wf_u16 wd) (wf_u16 we) (wf_u8 wx) (wf_u8 wy) W).mono fun e W' ⟨he, hg⟩ => ?_
  subst he
  exact ⟨_, rfl, post_law hW' hg (trodAll_cons_mk (shut_bool Try.underlying4 _) trodAll_mk0) (trodAll_cons_mk (shut_ii Try.underlying36 (by kernel_rfl) sapCells Try.underlying3 Try.underlying3 wa wb) (trodAll_cons_mk (shut_a4 Try.underlying45 (by kernel_rfl) (by kernel_rfl) Try.underlying44 wc wd we wf) (trodAll_cons_mk (shut_a2 Try.underlying46 (by kernel_rfl) (by kernel_rfl) Try.underlying5 wx wy) trodAll_mk0))) rfl⟩

theorem adds_over : Rows.vatAddsRow.holds Try.pinned (OpenSpec.ofChange Rows.vatAddsSpec) :=
  OpenClaim.holds_of_wide 5 Try.f5 rfl rfl rfl rfl rfl rfl rfl ⟨rfl, rfl, rfl, rfl, rfl⟩ rfl rfl rfl rfl rfl (by kernel_rfl) Try.func5 (by kernel_rfl)
    (of_decide_eq_true (by kernel_rfl)) (by unfold Func.isWrapper; first | (rw [if_pos (by decide +kernel)]; kernel_rfl) | (rw [if_neg (by decide +kernel)]; exact ⟨rfl, rfl⟩))
    (fun os started H enc _ => adds_lifted os started H enc)

theorem adds_holds : Rows.VatAddsSaid :=
  adds_over
end Go.Proofs.Ytdlmkjllcejoaaa
