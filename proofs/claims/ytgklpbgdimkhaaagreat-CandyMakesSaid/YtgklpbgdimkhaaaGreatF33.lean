/-
  For all rules of candy, all saps and all lists of acts that the arguments tell, the Go function CandyMakes returns true, and its arguments read afterwards as they read before.
  Conditions: none.
-/
import Derived.Test.YtgklpbgdimkhaaaGreatJ25B
import Derived.Test.YtgklpbgdimkhaaaGreatL13B
import Derived.Test.YtgklpbgdimkhaaaGreatRows
namespace Go.Proofs.YtgklpbgdimkhaaaGreat
open Go.ChangeShapes Go.WideShapes Go.ChangeAt Go.RowKit Go.Deep
set_option linter.unusedVariables false
set_option linter.unusedSimpArgs false

theorem jKindCell : Tryz.prog.cellsOf 48 = 1 := by kernel_rfl
theorem jsl_rs {α : Type} {N : Nat} {c : α → List Value} {Q : α → Prop} {W : World} {v : Value} {xs : List α} (h : SlAt N c Q W v xs) : RsAt N c W.heap.size W v xs ∧ ∀ x ∈ xs, Q x := by
  obtain ⟨A, cp, rfl, h⟩ := h
  refine ⟨⟨A, cp, rfl, fun h0 => ?_⟩, fun x hx => ?_⟩
  · obtain ⟨g, off, h1, h2, h3⟩ := h h0
    exact ⟨g, off, h1, h2, fun k x hk => (h3 k x hk).1⟩
  · obtain ⟨k, hk⟩ := List.getElem?_of_mem hx
    obtain ⟨g, off, h1, h2, h3⟩ := h (List.length_pos_of_mem hx)
    exact (h3 k x hk).2
set_option maxRecDepth 100000 in
theorem jAct {H : Type} {enc : TypeId × Value → H} {W : World} (n : Nat) (cs : List Value) (y : DataW H × List MemPlace)
    (h : DataW.trod enc Tryz.prog W 0 (fun _ => true) true n 50 cs = some y) (hl : cs.length = 4) : ∃ x : Ac, cs = cAc x ∧ -9223372036854775808 ≤ x.k ∧ x.k ≤ 9223372036854775807 := by
  match cs, hl with
  | [c0, c1, c2, c3], _ =>
    obtain ⟨y0, y1, y2, m, _, _, h0, h1, h2⟩ := trod_struct3 Tryz.underlying50 h
    simp [jIntCell, jRngCell, jKindCell] at h0 h1 h2
    obtain ⟨a0, e0, _, w0⟩ := DataW.trod_int Tryz.underlying48 h0
    obtain ⟨a1, a2, rfl, rfl⟩ := jRange h1
    obtain ⟨a3, e3, _, _⟩ := DataW.trod_int Tryz.underlying3 h2
    simp at e0 e3
    subst e0 e3
    exact ⟨⟨a0, a1, a2, a3⟩, rfl, wf_i64 w0⟩
set_option maxRecDepth 100000 in
theorem laidOut : laidOutB Tryz.prog = true := by kernel_rfl
set_option maxRecDepth 100000 in
theorem makes_lifted (os : Os) (started : os.Started) (H : Type) (enc : TypeId × Value → H) :
    ReturnsInHanded {} Tryz.checked os 4 .any (Rows.candyMakesSpec.pre6 enc Tryz.prog Tryz.f4 Rows.candyMakesRow.domain false) (Rows.candyMakesSpec.post enc Tryz.prog Tryz.f4 false true false false) := by
  refine returnsInHanded_of_change (C := Tryz.checked) ownKnobs started (by kernel_rfl) Tryz.func4
    (ChangeSpec.witness6 (enc := enc) (C := Tryz.checked) false ⟨#[], #[.agg #[.slice none 0 0, .slice none 0 0, .int .i64 0, .int .i64 0, .slice none 0 0], .agg #[.int .i64 0, .int .i64 0], .slice none 0 0], []⟩ 8 (by kernel_rfl) (by kernel_rfl) (by kernel_rfl) (by kernel_rfl)) ?_
  intro W base args ds gs before hval0 hW hcnd _
  have hval : ∀ (j : Nat) t v, Tryz.f4.params[j]? = some t → args[j]? = some v → Value.okWide Tryz.prog W .any base t v := hval0
  have hW' := hW
  obtain ⟨p, q, hA0, hV, rfl, hfz, hnd⟩ := hW
  have hA : DataW.TrodAll enc Tryz.prog W 0 (fun _ => true) true Tryz.f4.params.toList args.toList ds p := hA0
  rw [Tryz.params4] at hA hval
  obtain ⟨v0, vs0, d0, ds0, p0, q0, hargs, rfl, rfl, h0, r0⟩ := trodAll_cons hA
  obtain ⟨v1, vs1, d1, ds1, p1, q1, rfl, rfl, rfl, h1, r1⟩ := trodAll_cons r0
  obtain ⟨v2, vs2, d2, ds2, p2, q2, rfl, rfl, rfl, h2, r2⟩ := trodAll_cons r1
  obtain ⟨rfl, rfl, rfl⟩ := trodAll_nil r2
  obtain rfl : args = #[v0, v1, v2] := by cases args; simp_all
  obtain ⟨rfl, rfl⟩ := trodVars_none hV
  obtain ⟨u1, u2, u3, R, rfl, hR⟩ := open_candy (hval 0 27 v0 rfl rfl) h0
  obtain ⟨a, s, rfl, rfl, rfl, wc, wd⟩ := open_ii Tryz.underlying29 (by kernel_rfl) (by kernel_rfl) Tryz.underlying3 Tryz.underlying3 (hval 1 29 v1 rfl rfl) h1
  obtain ⟨xs, hx0⟩ := open_sl (⟨0, 0, 0, 0⟩ : Ac) cAc (fun x => -9223372036854775808 ≤ x.k ∧ x.k ≤ 9223372036854775807) Tryz.underlying43 (by kernel_rfl) (by decide) (fun _ => rfl) (fun n cs y h hl => jAct n cs y h hl) (hval 2 43 v2 rfl rfl) h2
  obtain ⟨hx, hxk⟩ := jsl_rs hx0
  clear hA0 hval0
  simp only [List.append_nil] at hW'
  have hlt0 : ∀ x ∈ p0, x.block < W.heap.size := fun x hx' => by have := hW'.lt x (by simp [hx']); simpa using this
  have hlt2 : ∀ x ∈ p2, x.block < W.heap.size := fun x hx' => by have := hW'.lt x (by simp [hx']); simpa using this
  refine (makes_any u1 u2 u3 v2 R a s xs W hR hx hxk).mono fun e W' ⟨he, hg⟩ => ?_
  subst he
  exact ⟨_, rfl, post_law hW' hg (trodAll_cons_mk (shut_bool Tryz.underlying4 _) trodAll_mk0) (by have key := trodAll_cons_mk (Below.trod laidOut (by kernel_rfl) (of_decide_eq_true (by kernel_rfl)) h0 hg hlt0) (trodAll_cons_mk (shut_ii Tryz.underlying29 (by kernel_rfl) (by kernel_rfl) Tryz.underlying3 Tryz.underlying3 wc wd) (trodAll_cons_mk (Below.trod laidOut (by kernel_rfl) (of_decide_eq_true (by kernel_rfl)) h2 hg hlt2) trodAll_mk0)); simp only [List.append_nil, List.append_assoc] at key ⊢; exact key) rfl⟩

theorem makes_over : Rows.candyMakesRow.holds Tryz.pinned (OpenSpec.ofChange Rows.candyMakesSpec) :=
  OpenClaim.holds_of_wide 4 Tryz.f4 rfl rfl rfl rfl rfl rfl rfl ⟨rfl, rfl, rfl, rfl, rfl⟩ rfl rfl rfl rfl rfl (by kernel_rfl) Tryz.func4 (by kernel_rfl)
    (of_decide_eq_true (by kernel_rfl)) (by unfold Func.isWrapper; first | (rw [if_pos (by decide +kernel)]; kernel_rfl) | (rw [if_neg (by decide +kernel)]; exact ⟨rfl, rfl⟩))
    (fun os started H enc _ => makes_lifted os started H enc)

theorem makes_holds : Rows.CandyMakesSaid :=
  makes_over
end Go.Proofs.YtgklpbgdimkhaaaGreat
