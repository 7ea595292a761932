/-
  For every list of sap, every mass and every list of weights the Go function SpanSaps returns true, and its arguments read afterwards as they read before.
  Conditions: none.
-/
import Derived.Test.YtclnfncdphfgjaaJCL
import Derived.Test.YtclnfncdphfgjaaJC26
namespace Go.Proofs.Ytclnfncdphfgjaa
open Go.ChangeShapes Go.WideShapes Go.ChangeAt Go.RowKit Go.Deep
set_option linter.unusedVariables false
set_option linter.unusedSimpArgs false

set_option maxRecDepth 100000 in
theorem open_sapL {H : Type} {enc : TypeId × Value → H} {W : World} {v : Value} {d : DataW H} {p : List MemPlace} {r : Reach} {b0 : Nat}
    (hv : Value.okWide Try.prog W r b0 22 v) (h : DataW.Trod enc Try.prog W 0 (fun _ => true) true 22 v d p) : ∃ xs, ArgAt W v xs := by
  obtain ⟨a0, len, cap, rfl⟩ := okWide_slice Try.underlying22 hv
  obtain ⟨fuel, hf⟩ := h
  rcases open_slice_pairs Try.underlying22 Try.underlying28 sapCells rfl rfl cells_int1 cells_int1 hf with ⟨hc, _⟩ | ⟨a, len', cap', m, k, V0, V1, D0, D1, P0, P1, hc, _, hl, hm, hmm, _, hall⟩
  · simp [Value.cells] at hc
    obtain ⟨rfl, rfl, rfl⟩ := hc
    exact ⟨[], Or.inl ⟨⟨_, _, rfl⟩, rfl⟩⟩
  · simp [Value.cells] at hc
    obtain ⟨rfl, rfl, rfl⟩ := hc
    simp only [if_true] at hmm
    subst hmm
    cases len with
    | zero => exact ⟨[], Or.inl ⟨⟨_, _, rfl⟩, rfl⟩⟩
    | succ n =>
      obtain ⟨b, off, spot⟩ := a
      have hspot : spot = none := by simpa [Addr.add] using World.cell?_spot (hall 0 (by omega)).1
      subst hspot
      refine ⟨(List.range (n + 1)).map fun i => (RowKit.intOf (V0 i), RowKit.intOf (V1 i)), Or.inr ⟨b, off, m, by simp, by simpa using hl, ?_, ?_⟩⟩
      · have := World.block_lt_of_cell? W _ (hall 0 (by omega)).1
        simpa [Addr.add_lit] using this
      · intro k p hp
        simp only [List.getElem?_map, Option.map_eq_some_iff] at hp
        obtain ⟨i, hi, rfl⟩ := hp
        obtain ⟨hk, rfl⟩ : k < n + 1 ∧ i = k := by
          obtain ⟨h2, h3⟩ := List.getElem?_eq_some_iff.1 hi
          simp only [List.getElem_range] at h3
          exact ⟨by simpa using h2, h3.symm⟩
        obtain ⟨c0, c1, t0, t1⟩ := hall i (by omega)
        obtain ⟨N0, e0, _, _⟩ := DataW.trod_int Try.underlying3 t0
        obtain ⟨N1, e1, _, _⟩ := DataW.trod_int Try.underlying3 t1
        simp at e0 e1
        rw [e0] at c0
        rw [e1] at c1
        rw [Addr.add_lit] at c0 c1
        rw [e0, e1]
        exact ⟨c0, c1⟩
set_option maxRecDepth 100000 in
theorem open_nums {H : Type} {enc : TypeId × Value → H} {W : World} {v : Value} {d : DataW H} {p : List MemPlace} {r : Reach} {b0 : Nat}
    (hv : Value.okWide Try.prog W r b0 23 v) (h : DataW.Trod enc Try.prog W 0 (fun _ => true) true 23 v d p) : ∃ zs, NumsAt W.heap.size W v zs := by
  obtain ⟨zs, A, c, rfl, hz⟩ := open_sl (0 : Int) (fun z => [.int .i64 z]) (fun _ => True) Try.underlying23 cells_int1 (by decide) (fun _ => rfl) (fun n cs y h hl => by
    match cs, hl with
    | [c0], _ =>
      obtain ⟨a, rfl, _⟩ := trod_i Try.underlying3 h rfl
      exact ⟨a, rfl, trivial⟩) hv h
  refine ⟨zs, A, c, rfl, fun h0 => ?_⟩
  obtain ⟨g, off, rfl, hg, hc⟩ := hz h0
  refine ⟨g, off, rfl, hg, fun j z hj => ?_⟩
  have := (hc j z hj).1 0 (.int .i64 z) rfl
  simpa using this

set_option maxRecDepth 100000 in
theorem saps_lifted (os : Os) (started : os.Started) (H : Type) (enc : TypeId × Value → H) :
    ReturnsInHanded {} Try.checked os 3 .any (Rows.spanSapsSpec.pre6 enc Try.prog Try.f3 Rows.spanSapsRow.domain false) (Rows.spanSapsSpec.post enc Try.prog Try.f3 false true false false) := by
  refine returnsInHanded_of_change (C := Try.checked) ownKnobs started (by kernel_rfl) Try.func3
    (ChangeSpec.witness6 (enc := enc) (C := Try.checked) false ⟨#[], #[.slice none 0 0, .int .i64 0, .slice none 0 0], []⟩ 8 (by kernel_rfl) (by kernel_rfl) (by kernel_rfl) (by kernel_rfl)) ?_
  intro W base args ds gs before hval0 hW hcnd _
  have hval : ∀ (j : Nat) t v, Try.f3.params[j]? = some t → args[j]? = some v → Value.okWide Try.prog W .any base t v := hval0
  have hW' := hW
  obtain ⟨p, q, hA0, hV, rfl, hfz, hnd⟩ := hW
  have hA : DataW.TrodAll enc Try.prog W 0 (fun _ => true) true Try.f3.params.toList args.toList ds p := hA0
  rw [Try.params3] at hA hval
  obtain ⟨v0, vs0, d0, ds0, p0, q0, hargs, rfl, rfl, h0, r0⟩ := trodAll_cons hA
  obtain ⟨v1, vs1, d1, ds1, p1, q1, rfl, rfl, rfl, h1, r1⟩ := trodAll_cons r0
  obtain ⟨v2, vs2, d2, ds2, p2, q2, rfl, rfl, rfl, h2, r2⟩ := trodAll_cons r1
  obtain ⟨rfl, rfl, rfl⟩ := trodAll_nil r2
  obtain rfl : args = #[v0, v1, v2] := by cases args; simp_all
  obtain ⟨rfl, rfl⟩ := trodVars_none hV
  obtain ⟨xs, hx⟩ := open_sapL (hval 0 22 v0 rfl rfl) h0
  obtain ⟨m, rfl, rfl, rfl, wm⟩ := open_int Try.underlying3 (hval 1 3 v1 rfl rfl) h1
  obtain ⟨ws, hw⟩ := open_nums (hval 2 23 v2 rfl rfl) h2
  clear hA0 hval0
  simp only [List.append_nil] at hW'
  have hlt0 : ∀ x ∈ p0, x.block < W.heap.size := fun x hx' => by have := hW'.lt x (by simp [hx']); simpa using this
  have hlt2 : ∀ x ∈ p2, x.block < W.heap.size := fun x hx' => by have := hW'.lt x (by simp [hx']); simpa using this
  refine (saps_any v0 v2 xs ws m W hx.row hw).mono fun e W' ⟨he, hg⟩ => ?_
  subst he
  exact ⟨_, rfl, post_law hW' hg (trodAll_cons_mk (shut_bool Try.underlying4 _) trodAll_mk0) (by have key := trodAll_cons_mk (Below.trod laidOut (by kernel_rfl) (of_decide_eq_true (by kernel_rfl)) h0 hg hlt0) (trodAll_cons_mk (shut_int Try.underlying3 wm) (trodAll_cons_mk (Below.trod laidOut (by kernel_rfl) (of_decide_eq_true (by kernel_rfl)) h2 hg hlt2) trodAll_mk0)); simp only [List.append_nil, List.append_assoc] at key ⊢; exact key) rfl⟩

theorem saps_over : Rows.spanSapsRow.holds Try.pinned (OpenSpec.ofChange Rows.spanSapsSpec) :=
  OpenClaim.holds_of_wide 3 Try.f3 rfl rfl rfl rfl rfl rfl rfl ⟨rfl, rfl, rfl, rfl, rfl⟩ rfl rfl rfl rfl rfl (by kernel_rfl) Try.func3 (by kernel_rfl)
    (of_decide_eq_true (by kernel_rfl)) (by unfold Func.isWrapper; first | (rw [if_pos (by decide +kernel)]; kernel_rfl) | (rw [if_neg (by decide +kernel)]; exact ⟨rfl, rfl⟩))
    (fun os started H enc _ => saps_lifted os started H enc)

theorem saps_holds : Rows.SpanSapsSaid :=
  saps_over
end Go.Proofs.Ytclnfncdphfgjaa
