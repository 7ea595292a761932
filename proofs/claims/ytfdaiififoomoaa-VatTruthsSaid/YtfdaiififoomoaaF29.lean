/-
  For all deeds and all that is true of them, as the arguments tell, the Go function VatTruths returns true, and its arguments read afterwards as they read before.
  Conditions: none.
-/
import Derived.Test.YtfdaiififoomoaaW31
namespace Go.Proofs.Ytfdaiififoomoaa
open Go.ChangeShapes Go.WideShapes Go.ChangeAt Go.RowKit Go.Deep
set_option linter.unusedVariables false
set_option linter.unusedSimpArgs false

set_option maxRecDepth 100000 in
theorem laidOut : laidOutB Try.prog = true := by kernel_rfl
theorem cellsW8 : Try.prog.cellsOf 5 = 1 := by kernel_rfl
theorem cellsW16 : Try.prog.cellsOf 39 = 1 := by kernel_rfl
theorem cellsA8 : Try.prog.cellsOf 40 = 2 := by kernel_rfl
set_option maxRecDepth 100000 in
theorem open_deeds {H : Type} {enc : TypeId × Value → H} {W : World} {v : Value} {d : DataW H} {p : List MemPlace} {r : Reach} {b0 : Nat}
    (hv : Value.okWide Try.prog W r b0 22 v) (h : DataW.Trod enc Try.prog W 0 (fun _ => true) true 22 v d p) : ∃ ps, SlAt 9 cDe DeB W v ps :=
  open_sl (⟨0, 0, 0, 0, 0, 0, 0, 0, 0⟩ : De) cDe DeB Try.underlying22 (by kernel_rfl) (by decide) (fun _ => rfl) (fun n cs y h hl => by
    match cs, hl with
    | [c0, c1, c2, c3, c4, c5, c6, c7, c8], _ =>
      obtain ⟨ys, n', _, _, _, hyl, hf⟩ := DataW.trod_struct Try.underlying42 h
      have hs : ∀ i, i < 7 → (ys[i]?).isSome = true := fun i hi => by
        have hy : i < ys.length := by rw [hyl]; exact hi
        rw [List.getElem?_eq_getElem hy]; rfl
      have g0 : DataW.trod enc Try.prog W 0 (fun _ => true) true n' 5 (List.take (Try.prog.cellsOf 5) (List.drop 0 [c0, c1, c2, c3, c4, c5, c6, c7, c8])) = ys[0]? := hf 0 _ rfl
      rw [cellsW8] at g0
      simp only [List.drop, List.take] at g0
      obtain ⟨what, e0, w0⟩ := trod_i Try.underlying5 g0 (hs 0 (by decide))
      have g1 : DataW.trod enc Try.prog W 0 (fun _ => true) true n' 5 (List.take (Try.prog.cellsOf 5) (List.drop 1 [c0, c1, c2, c3, c4, c5, c6, c7, c8])) = ys[1]? := hf 1 _ rfl
      rw [cellsW8] at g1
      simp only [List.drop, List.take] at g1
      obtain ⟨tank, e1, w1⟩ := trod_i Try.underlying5 g1 (hs 1 (by decide))
      have g2 : DataW.trod enc Try.prog W 0 (fun _ => true) true n' 5 (List.take (Try.prog.cellsOf 5) (List.drop 2 [c0, c1, c2, c3, c4, c5, c6, c7, c8])) = ys[2]? := hf 2 _ rfl
      rw [cellsW8] at g2
      simp only [List.drop, List.take] at g2
      obtain ⟨un, e2, w2⟩ := trod_i Try.underlying5 g2 (hs 2 (by decide))
      have g3 : DataW.trod enc Try.prog W 0 (fun _ => true) true n' 39 (List.take (Try.prog.cellsOf 39) (List.drop 3 [c0, c1, c2, c3, c4, c5, c6, c7, c8])) = ys[3]? := hf 3 _ rfl
      rw [cellsW16] at g3
      simp only [List.drop, List.take] at g3
      obtain ⟨wa, e3, w3⟩ := trod_i Try.underlying39 g3 (hs 3 (by decide))
      have g4 : DataW.trod enc Try.prog W 0 (fun _ => true) true n' 39 (List.take (Try.prog.cellsOf 39) (List.drop 4 [c0, c1, c2, c3, c4, c5, c6, c7, c8])) = ys[4]? := hf 4 _ rfl
      rw [cellsW16] at g4
      simp only [List.drop, List.take] at g4
      obtain ⟨su, e4, w4⟩ := trod_i Try.underlying39 g4 (hs 4 (by decide))
      have g5 : DataW.trod enc Try.prog W 0 (fun _ => true) true n' 40 (List.take (Try.prog.cellsOf 40) (List.drop 5 [c0, c1, c2, c3, c4, c5, c6, c7, c8])) = ys[5]? := hf 5 _ rfl
      rw [cellsA8] at g5
      simp only [List.drop, List.take] at g5
      obtain ⟨l0, l1, e5a, e5b, w5a, w5b⟩ := trod_ii Try.underlying40 cellsW8 Try.underlying5 g5 (hs 5 (by decide))
      have g6 : DataW.trod enc Try.prog W 0 (fun _ => true) true n' 40 (List.take (Try.prog.cellsOf 40) (List.drop 7 [c0, c1, c2, c3, c4, c5, c6, c7, c8])) = ys[6]? := hf 6 _ rfl
      rw [cellsA8] at g6
      simp only [List.drop, List.take] at g6
      obtain ⟨t0, t1, e6a, e6b, w6a, w6b⟩ := trod_ii Try.underlying40 cellsW8 Try.underlying5 g6 (hs 6 (by decide))
      subst e0
      subst e1
      subst e2
      subst e3
      subst e4
      subst e5a e5b
      subst e6a e6b
      exact ⟨⟨what, tank, un, wa, su, l0, l1, t0, t1⟩, rfl, ⟨wf_u8 w0, wf_u8 w2, wf_u16 w3, wf_u16 w4, wf_u8 w5a, wf_u8 w5b, wf_u8 w6a, wf_u8 w6b⟩⟩) hv h
set_option maxRecDepth 100000 in
theorem open_truths {H : Type} {enc : TypeId × Value → H} {W : World} {v : Value} {d : DataW H} {p : List MemPlace} {r : Reach} {b0 : Nat}
    (hv : Value.okWide Try.prog W r b0 23 v) (h : DataW.Trod enc Try.prog W 0 (fun _ => true) true 23 v d p) : ∃ ps, SlAt 4 cTr TrB W v ps :=
  open_sl (⟨0, 0, 0, 0⟩ : Tr) cTr TrB Try.underlying23 (by kernel_rfl) (by decide) (fun _ => rfl) (fun n cs y h hl => by
    match cs, hl with
    | [c0, c1, c2, c3], _ =>
      obtain ⟨ys, n', _, _, _, hyl, hf⟩ := DataW.trod_struct Try.underlying38 h
      have hs : ∀ i, i < 4 → (ys[i]?).isSome = true := fun i hi => by
        have hy : i < ys.length := by rw [hyl]; exact hi
        rw [List.getElem?_eq_getElem hy]; rfl
      have g0 : DataW.trod enc Try.prog W 0 (fun _ => true) true n' 5 (List.take (Try.prog.cellsOf 5) (List.drop 0 [c0, c1, c2, c3])) = ys[0]? := hf 0 _ rfl
      rw [cellsW8] at g0
      simp only [List.drop, List.take] at g0
      obtain ⟨a, e0, w0⟩ := trod_i Try.underlying5 g0 (hs 0 (by decide))
      have g1 : DataW.trod enc Try.prog W 0 (fun _ => true) true n' 5 (List.take (Try.prog.cellsOf 5) (List.drop 1 [c0, c1, c2, c3])) = ys[1]? := hf 1 _ rfl
      rw [cellsW8] at g1
      simp only [List.drop, List.take] at g1
      obtain ⟨b, e1, w1⟩ := trod_i Try.underlying5 g1 (hs 1 (by decide))
      have g2 : DataW.trod enc Try.prog W 0 (fun _ => true) true n' 5 (List.take (Try.prog.cellsOf 5) (List.drop 2 [c0, c1, c2, c3])) = ys[2]? := hf 2 _ rfl
      rw [cellsW8] at g2
      simp only [List.drop, List.take] at g2
      obtain ⟨c, e2, w2⟩ := trod_i Try.underlying5 g2 (hs 2 (by decide))
      have g3 : DataW.trod enc Try.prog W 0 (fun _ => true) true n' 5 (List.take (Try.prog.cellsOf 5) (List.drop 3 [c0, c1, c2, c3])) = ys[3]? := hf 3 _ rfl
      rw [cellsW8] at g3
      simp only [List.drop, List.take] at g3
      obtain ⟨d, e3, w3⟩ := trod_i Try.underlying5 g3 (hs 3 (by decide))
      subst e0
      subst e1
      subst e2
      subst e3
      exact ⟨⟨a, b, c, d⟩, rfl, ⟨wf_u8 w0, wf_u8 w1, wf_u8 w2, wf_u8 w3⟩⟩) hv h

set_option maxRecDepth 100000 in
theorem truths_lifted (os : Os) (started : os.Started) (H : Type) (enc : TypeId × Value → H) :
    ReturnsInHanded {} Try.checked os 3 .any (Rows.vatTruthsSpec.pre6 enc Try.prog Try.f3 Rows.vatTruthsRow.domain false) (Rows.vatTruthsSpec.post enc Try.prog Try.f3 false true false false) := by
  refine returnsInHanded_of_change (C := Try.checked) ownKnobs started (by kernel_rfl) Try.func3
    (ChangeSpec.witness6 (enc := enc) (C := Try.checked) false ⟨#[], #[.slice none 0 0, .slice none 0 0], []⟩ 8 (by kernel_rfl) (by kernel_rfl) (by kernel_rfl) (by kernel_rfl)) ?_
  intro W base args ds gs before hval0 hW hcnd _
  have hval : ∀ (j : Nat) t v, Try.f3.params[j]? = some t → args[j]? = some v → Value.okWide Try.prog W .any base t v := hval0
  have hW' := hW
  obtain ⟨p, q, hA0, hV, rfl, hfz, hnd⟩ := hW
  have hA : DataW.TrodAll enc Try.prog W 0 (fun _ => true) true Try.f3.params.toList args.toList ds p := hA0
  rw [Try.params3] at hA hval
  obtain ⟨v0, vs0, d0, ds0, p0, q0, hargs, rfl, rfl, h0, r0⟩ := trodAll_cons hA
  obtain ⟨v1, vs1, d1, ds1, p1, q1, rfl, rfl, rfl, h1, r1⟩ := trodAll_cons r0
  obtain ⟨rfl, rfl, rfl⟩ := trodAll_nil r1
  obtain rfl : args = #[v0, v1] := by cases args; simp_all
  obtain ⟨rfl, rfl⟩ := trodVars_none hV
  obtain ⟨ps, hps⟩ := open_deeds (hval 0 22 v0 rfl rfl) h0
  obtain ⟨qs, hqs⟩ := open_truths (hval 1 23 v1 rfl rfl) h1
  clear hA0 hval0
  simp only [List.append_nil] at hW'
  have hlt0 : ∀ x ∈ p0, x.block < W.heap.size := fun x hx' => by have := hW'.lt x (by simp [hx']); simpa using this
  have hlt1 : ∀ x ∈ p1, x.block < W.heap.size := fun x hx' => by have := hW'.lt x (by simp [hx']); simpa using this
  refine (truths_walk v0 v1 ps qs W hps hqs).mono fun e W' ⟨he, hg⟩ => ?_
  subst he
  exact ⟨_, rfl, post_law hW' hg (trodAll_cons_mk (shut_bool Try.underlying4 _) trodAll_mk0) (by have key := trodAll_cons_mk (Below.trod laidOut (by kernel_rfl) (of_decide_eq_true (by kernel_rfl)) h0 hg hlt0) (trodAll_cons_mk (Below.trod laidOut (by kernel_rfl) (of_decide_eq_true (by kernel_rfl)) h1 hg hlt1) trodAll_mk0); simp only [List.append_nil, List.append_assoc] at key ⊢; exact key) rfl⟩

theorem truths_over : Rows.vatTruthsRow.holds Try.pinned (OpenSpec.ofChange Rows.vatTruthsSpec) :=
  OpenClaim.holds_of_wide 3 Try.f3 rfl rfl rfl rfl rfl rfl rfl ⟨rfl, rfl, rfl, rfl, rfl⟩ rfl rfl rfl rfl rfl (by kernel_rfl) Try.func3 (by kernel_rfl)
    (of_decide_eq_true (by kernel_rfl)) (by unfold Func.isWrapper; first | (rw [if_pos (by decide +kernel)]; kernel_rfl) | (rw [if_neg (by decide +kernel)]; exact ⟨rfl, rfl⟩))
    (fun os started H enc _ => truths_lifted os started H enc)

theorem truths_holds : Rows.VatTruthsSaid :=
  truths_over
end Go.Proofs.Ytfdaiififoomoaa
