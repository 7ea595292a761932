/-
  For every sap and every membrane, number of rounds and concentration that the arguments tell, the Go function TopConcentrated returns true, and its arguments read afterwards as they read before.
  Conditions: none.
-/
import Derived.Test.YtbmjkmepjggkfaaL8
import Derived.Test.YtbmjkmepjggkfaaW21
namespace Go.Proofs.Ytbmjkmepjggkfaa
open Go.ChangeShapes Go.WideShapes Go.ChangeAt Go.RowKit
set_option linter.unusedVariables false
set_option linter.unusedSimpArgs false

theorem conc_int (a b c d e f : Int) (w : World) (wa : (Lit.int .u32 a).wf = true) (wb : (Lit.int .u32 b).wf = true) (wc : (Lit.int .u16 c).wf = true) (wd : (Lit.int .u16 d).wf = true) (we : (Lit.int .u16 e).wf = true) (wf : (Lit.int .u16 f).wf = true) :
    Calls Try.prog 11 #[.agg #[.int .u32 a, .int .u32 b], .agg #[.int .u16 c, .int .u16 d, .int .u16 e, .int .u16 f]] w fun e w' => e = .returned (.bool true) ∧ Below w.heap.size w w' := by
  have h1 := wf_u32 wa
  have h2 := wf_u32 wb
  have h3 := wf_u16 wc
  have h4 := wf_u16 wd
  have h5 := wf_u16 we
  have h6 := wf_u16 wf
  have h := conc_walk a.toNat b.toNat c.toNat d.toNat e.toNat f.toNat (by omega) (by omega) (by omega) (by omega) (by omega) (by omega) w
  rw [Int.toNat_of_nonneg h1.1, Int.toNat_of_nonneg h2.1, Int.toNat_of_nonneg h3.1, Int.toNat_of_nonneg h4.1, Int.toNat_of_nonneg h5.1, Int.toNat_of_nonneg h6.1] at h
  exact h

set_option maxRecDepth 100000 in
theorem conc_lifted (os : Os) (started : os.Started) (H : Type) (enc : TypeId × Value → H) :
    ReturnsInHanded {} Try.checked os 11 .any (Rows.topConcentratedSpec.pre6 enc Try.prog Try.f11 Rows.topConcentratedRow.domain false) (Rows.topConcentratedSpec.post enc Try.prog Try.f11 false true false false) := by
  refine returnsInHanded_of_change (C := Try.checked) ownKnobs started (by kernel_rfl) Try.func11
    (ChangeSpec.witness6 (enc := enc) (C := Try.checked) false ⟨#[], #[.agg #[.int .u32 0, .int .u32 0], .agg #[.int .u16 0, .int .u16 0, .int .u16 0, .int .u16 0]], []⟩ 8 (by kernel_rfl) (by kernel_rfl) (by kernel_rfl) (by kernel_rfl)) ?_
  intro W base args ds gs before hval0 hW hcnd _
  have hval : ∀ (j : Nat) t v, Try.f11.params[j]? = some t → args[j]? = some v → Value.okWide Try.prog W .any base t v := hval0
  have hW' := hW
  obtain ⟨p, q, hA0, hV, rfl, hfz, hnd⟩ := hW
  have hA : DataW.TrodAll enc Try.prog W 0 (fun _ => true) true Try.f11.params.toList args.toList ds p := hA0
  rw [Try.params11] at hA hval
  obtain ⟨v0, vs0, d0, ds0, p0, q0, hargs, rfl, rfl, h0, r0⟩ := trodAll_cons hA
  obtain ⟨v1, vs1, d1, ds1, p1, q1, rfl, rfl, rfl, h1, r1⟩ := trodAll_cons r0
  obtain ⟨rfl, rfl, rfl⟩ := trodAll_nil r1
  obtain rfl : args = #[v0, v1] := by cases args; simp_all
  obtain ⟨rfl, rfl⟩ := trodVars_none hV
  obtain ⟨a, b, rfl, rfl, rfl, wa, wb⟩ := open_a2 Try.underlying99 (by kernel_rfl) (by kernel_rfl) Try.underlying98 (hval 0 99 v0 rfl rfl) h0
  obtain ⟨c, d, e, f, rfl, rfl, rfl, wc, wd, we, wf⟩ := open_a4 Try.underlying83 (by kernel_rfl) (by kernel_rfl) Try.underlying63 (hval 1 83 v1 rfl rfl) h1
  clear hA0 hval0
  simp only [List.append_nil] at hW'
  refine (conc_int a b c d e f W wa wb wc wd we wf).mono fun e W' ⟨he, hg⟩ => ?_
  subst he
  exact ⟨_, rfl, post_law hW' hg (trodAll_cons_mk (shut_bool Try.underlying4 _) trodAll_mk0) (trodAll_cons_mk (shut_a2 Try.underlying99 (by kernel_rfl) (by kernel_rfl) Try.underlying98 wa wb) (trodAll_cons_mk (shut_a4 Try.underlying83 (by kernel_rfl) (by kernel_rfl) Try.underlying63 wc wd we wf) trodAll_mk0)) rfl⟩

theorem conc_over : Rows.topConcentratedRow.holds Try.pinned (OpenSpec.ofChange Rows.topConcentratedSpec) :=
  OpenClaim.holds_of_wide 11 Try.f11 rfl rfl rfl rfl rfl rfl rfl ⟨rfl, rfl, rfl, rfl, rfl⟩ rfl rfl rfl rfl rfl (by kernel_rfl) Try.func11 (by kernel_rfl)
    (of_decide_eq_true (by kernel_rfl)) (by unfold Func.isWrapper; first | (rw [if_pos (by decide +kernel)]; kernel_rfl) | (rw [if_neg (by decide +kernel)]; exact ⟨rfl, rfl⟩))
    (fun os started H enc _ => conc_lifted os started H enc)

theorem conc_holds : Rows.TopConcentratedSaid :=
  conc_over
end Go.Proofs.Ytbmjkmepjggkfaa
