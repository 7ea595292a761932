/-
  For all hours of weather and every load that the arguments tell, the Go function TopWarmHours returns true, and its arguments read afterwards as they read before.
  Conditions: none.
-/
import Derived.Test.YtfdaiififoomoaaW30
namespace Go.Proofs.Ytfdaiififoomoaa
open Go.ChangeShapes Go.WideShapes Go.ChangeAt Go.RowKit Go.Deep
set_option linter.unusedVariables false
set_option linter.unusedSimpArgs false

set_option maxRecDepth 100000 in
theorem laidOut : laidOutB Try.prog = true := by kernel_rfl
set_option maxRecDepth 100000 in
theorem open_w8 {H : Type} {enc : TypeId × Value → H} {W : World} {v : Value} {d : DataW H} {p : List MemPlace} {r : Reach} {b0 : Nat}
    (hv : Value.okWide Try.prog W r b0 58 v) (h : DataW.Trod enc Try.prog W 0 (fun _ => true) true 58 v d p) : ∃ ps, SlAt 2 c8 B8 W v ps :=
  open_sl (0, 0) c8 B8 Try.underlying58 (by kernel_rfl) (by decide) (fun _ => rfl) (fun n cs y h hl => by
    match cs, hl with
    | [v0, v1], _ =>
      obtain ⟨a, b, rfl, rfl, wa, wb⟩ := trod_ii Try.underlying40 (by kernel_rfl) Try.underlying5 h rfl
      exact ⟨(a, b), rfl, wf_u8 wa, wf_u8 wb⟩) hv h

set_option maxRecDepth 100000 in
theorem warm_lifted (os : Os) (started : os.Started) (H : Type) (enc : TypeId × Value → H) :
    ReturnsInHanded {} Try.checked os 4 .any (Rows.topWarmHoursSpec.pre6 enc Try.prog Try.f4 Rows.topWarmHoursRow.domain false) (Rows.topWarmHoursSpec.post enc Try.prog Try.f4 false true false false) := by
  refine returnsInHanded_of_change (C := Try.checked) ownKnobs started (by kernel_rfl) Try.func4
    (ChangeSpec.witness6 (enc := enc) (C := Try.checked) false ⟨#[], #[.slice none 0 0, .agg #[.int .u16 0, .int .u16 0]], []⟩ 8 (by kernel_rfl) (by kernel_rfl) (by kernel_rfl) (by kernel_rfl)) ?_
  intro W base args ds gs before hval0 hW hcnd _
  have hval : ∀ (j : Nat) t v, Try.f4.params[j]? = some t → args[j]? = some v → Value.okWide Try.prog W .any base t v := hval0
  have hW' := hW
  obtain ⟨p, q, hA0, hV, rfl, hfz, hnd⟩ := hW
  have hA : DataW.TrodAll enc Try.prog W 0 (fun _ => true) true Try.f4.params.toList args.toList ds p := hA0
  rw [Try.params4] at hA hval
  obtain ⟨v0, vs0, d0, ds0, p0, q0, hargs, rfl, rfl, h0, r0⟩ := trodAll_cons hA
  obtain ⟨v1, vs1, d1, ds1, p1, q1, rfl, rfl, rfl, h1, r1⟩ := trodAll_cons r0
  obtain ⟨rfl, rfl, rfl⟩ := trodAll_nil r1
  obtain rfl : args = #[v0, v1] := by cases args; simp_all
  obtain ⟨rfl, rfl⟩ := trodVars_none hV
  obtain ⟨ps, hps⟩ := open_w8 (hval 0 58 v0 rfl rfl) h0
  obtain ⟨a, b, rfl, rfl, rfl, wa, wb⟩ := open_a2 Try.underlying59 (by kernel_rfl) (by kernel_rfl) Try.underlying39 (hval 1 59 v1 rfl rfl) h1
  clear hA0 hval0
  simp only [List.append_nil] at hW'
  have hlt0 : ∀ x ∈ p0, x.block < W.heap.size := fun x hx' => by have := hW'.lt x (by simp [hx']); simpa using this
  refine (warm_walk v0 ps a b W hps (wf_u16 wa) (wf_u16 wb)).mono fun e W' ⟨he, hg⟩ => ?_
  subst he
  exact ⟨_, rfl, post_law hW' hg (trodAll_cons_mk (shut_bool Try.underlying4 _) trodAll_mk0) (by have key := trodAll_cons_mk (Below.trod laidOut (by kernel_rfl) (of_decide_eq_true (by kernel_rfl)) h0 hg hlt0) (trodAll_cons_mk (shut_a2 Try.underlying59 (by kernel_rfl) (by kernel_rfl) Try.underlying39 wa wb) trodAll_mk0); simp only [List.append_nil, List.append_assoc] at key ⊢; exact key) rfl⟩

theorem warm_over : Rows.topWarmHoursRow.holds Try.pinned (OpenSpec.ofChange Rows.topWarmHoursSpec) :=
  OpenClaim.holds_of_wide 4 Try.f4 rfl rfl rfl rfl rfl rfl rfl ⟨rfl, rfl, rfl, rfl, rfl⟩ rfl rfl rfl rfl rfl (by kernel_rfl) Try.func4 (by kernel_rfl)
    (of_decide_eq_true (by kernel_rfl)) (by unfold Func.isWrapper; first | (rw [if_pos (by decide +kernel)]; kernel_rfl) | (rw [if_neg (by decide +kernel)]; exact ⟨rfl, rfl⟩))
    (fun os started H enc _ => warm_lifted os started H enc)

theorem warm_holds : Rows.TopWarmHoursSaid :=
  warm_over
end Go.Proofs.Ytfdaiififoomoaa
