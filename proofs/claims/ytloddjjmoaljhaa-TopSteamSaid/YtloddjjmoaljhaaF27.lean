/-
  For every sap, membrane and jar that the arguments tell, the Go function TopSteam returns true, and its arguments read afterwards as they read before.
  Conditions: none.
-/
import Derived.Test.YtloddjjmoaljhaaL2
import Derived.Test.YtloddjjmoaljhaaG10
namespace Go.Proofs.Ytloddjjmoaljhaa
open Go.ChangeShapes Go.WideShapes Go.ChangeAt Go.RowKit
set_option linter.unusedVariables false
set_option linter.unusedSimpArgs false

theorem steam_int (a b c d e : Int) (w : World) (wa : (Lit.int .u16 a).wf = true) (wb : (Lit.int .u16 b).wf = true) (wc : (Lit.int .u16 c).wf = true) (wd : (Lit.int .u16 d).wf = true) (we : (Lit.int .u16 e).wf = true) :
    Calls Try.prog 4 #[.agg #[.int .u16 a, .int .u16 b], .agg #[.int .u16 c, .int .u16 d, .int .u16 e]] w fun e w' => e = .returned (.bool true) ∧ Below w.heap.size w w' := by
  have h1 := wf_u16 wa
  have h2 := wf_u16 wb
  have h3 := wf_u16 wc
  have h4 := wf_u16 wd
  have h5 := wf_u16 we
  have h := steam_walk a.toNat b.toNat c.toNat d.toNat e.toNat (by omega) (by omega) (by omega) (by omega) (by omega) w
  rw [Int.toNat_of_nonneg h1.1, Int.toNat_of_nonneg h2.1, Int.toNat_of_nonneg h3.1, Int.toNat_of_nonneg h4.1, Int.toNat_of_nonneg h5.1] at h
  exact h

set_option maxRecDepth 100000 in
theorem steam_lifted (os : Os) (started : os.Started) (H : Type) (enc : TypeId × Value → H) :
    ReturnsInHanded {} Try.checked os 4 .any (Rows.topSteamSpec.pre6 enc Try.prog Try.f4 Rows.topSteamRow.domain false) (Rows.topSteamSpec.post enc Try.prog Try.f4 false true false false) := by
  refine returnsInHanded_of_change (C := Try.checked) ownKnobs started (by kernel_rfl) Try.func4
    (ChangeSpec.witness6 (enc := enc) (C := Try.checked) false ⟨#[], #[.agg #[.int .u16 0, .int .u16 0], .agg #[.int .u16 0, .int .u16 0, .int .u16 0]], []⟩ 8 (by kernel_rfl) (by kernel_rfl) (by kernel_rfl) (by kernel_rfl)) ?_
  intro W base args ds gs before hval0 hW hcnd _
  have hval : ∀ (j : Nat) t v, Try.f4.params[j]? = some t → args[j]? = some v → Value.okWide Try.prog W .any base t v := hval0
  have hW' := hW
  obtain ⟨p, q, hA0, hV, rfl, hfz, hnd⟩ := hW
  have hA : DataW.TrodAll enc Try.prog W 0 (fun _ => true) true Try.f4.params.toList args.toList ds p := hA0
  rw [Try.params4] at hA hval
  obtain ⟨v0, vs0, d0, ds0, p0, q0, hargs, rfl, rfl, h0, r0⟩ := trodAll_cons hA
  obtain ⟨v1, vs1, d1, ds1, p1, q1, rfl, rfl, rfl, h1, r1⟩ := trodAll_cons r0
  obtain ⟨rfl, rfl, rfl⟩ := trodAll_nil r1
  obtain rfl : args = #[v0, v1] := by cases args; simp_all
  obtain ⟨rfl, rfl⟩ := trodVars_none hV
  obtain ⟨a, b, rfl, rfl, rfl, wa, wb⟩ := open_a2 Try.underlying46 (by kernel_rfl) (by kernel_rfl) Try.underlying23 (hval 0 46 v0 rfl rfl) h0
  obtain ⟨c, d, e, rfl, rfl, rfl, wc, wd, we⟩ := open_a3 Try.underlying28 (by kernel_rfl) (by kernel_rfl) Try.underlying23 (hval 1 28 v1 rfl rfl) h1
  clear hA0 hval0
  simp only [List.append_nil] at hW'
  refine (steam_int a b c d e W wa wb wc wd we).mono fun e' W' ⟨he, hg⟩ => ?_
  subst he
  exact ⟨_, rfl, post_law hW' hg (trodAll_cons_mk (shut_bool Try.underlying4 _) trodAll_mk0) (trodAll_cons_mk (shut_a2 Try.underlying46 (by kernel_rfl) (by kernel_rfl) Try.underlying23 wa wb) (trodAll_cons_mk (shut_a3 Try.underlying28 (by kernel_rfl) (by kernel_rfl) Try.underlying23 wc wd we) trodAll_mk0)) rfl⟩

theorem steam_over : Rows.topSteamRow.holds Try.pinned (OpenSpec.ofChange Rows.topSteamSpec) :=
  OpenClaim.holds_of_wide 4 Try.f4 rfl rfl rfl rfl rfl rfl rfl ⟨rfl, rfl, rfl, rfl, rfl⟩ rfl rfl rfl rfl rfl (by kernel_rfl) Try.func4 (by kernel_rfl)
    (of_decide_eq_true (by kernel_rfl)) (by unfold Func.isWrapper; first | (rw [if_pos (by decide +kernel)]; kernel_rfl) | (rw [if_neg (by decide +kernel)]; exact ⟨rfl, rfl⟩))
    (fun os started H enc _ => steam_lifted os started H enc)

theorem steam_holds : Rows.TopSteamSaid :=
  steam_over
end Go.Proofs.Ytloddjjmoaljhaa
