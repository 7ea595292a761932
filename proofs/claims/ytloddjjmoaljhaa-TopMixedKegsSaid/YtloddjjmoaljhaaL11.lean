/- A slice of triples of uint16 among a law's arguments. -/
import Derived.Test.YtloddjjmoaljhaaL2
import Derived.Test.YtloddjjmoaljhaaE6
import Derived.Carry
import Derived.Deep.Slices
namespace Go.Proofs.Ytloddjjmoaljhaa
open Go.ChangeShapes Go.WideShapes Go.ChangeAt Go.RowKit Go.Joins Go.Deep
set_option linter.unusedVariables false
set_option linter.unusedSimpArgs false

theorem cells_u16T : Try.prog.cellsOf 23 = 1 := by kernel_rfl
theorem cells_u16t3 : Try.prog.cellsOf 28 = 3 := by kernel_rfl
set_option maxRecDepth 100000 in
theorem laidOutT : laidOutB Try.prog = true := by kernel_rfl
set_option maxRecDepth 100000 in
theorem open_t16 {H : Type} {enc : TypeId × Value → H} {W : World} {v : Value} {d : DataW H} {p : List MemPlace} {r : Reach} {b0 : Nat}
    (hv : Value.okWide Try.prog W r b0 22 v) (h : DataW.Trod enc Try.prog W 0 (fun _ => true) true 22 v d p) : ∃ ps, T16At W v ps := by
  obtain ⟨a0, len, cap, rfl⟩ := okWide_slice Try.underlying22 hv
  obtain ⟨fuel, hf⟩ := h
  rcases open_slice Try.underlying22 hf with ⟨hc, _⟩ | ⟨a, len', cap', m, n, D, Pl, hc, _, hl, hm, hmm, _, hall⟩
  · simp [Value.cells] at hc
    obtain ⟨rfl, rfl, rfl⟩ := hc
    exact ⟨[], none, 0, rfl, fun h => absurd h (by simp)⟩
  · simp [Value.cells] at hc
    obtain ⟨rfl, rfl, rfl⟩ := hc
    simp only [if_true] at hmm
    subst hmm
    have each : ∀ i, i < m → ∃ q : Int × Int × Int, W.cell? (a.add (i * 3)) = some (.int .u16 q.1) ∧ W.cell? (a.add (i * 3 + 1)) = some (.int .u16 q.2.1) ∧ W.cell? (a.add (i * 3 + 2)) = some (.int .u16 q.2.2) ∧ U16 q := by
      intro i hi
      obtain ⟨cs', h1, h2⟩ := hall i hi
      rw [cells_u16t3] at h1
      obtain ⟨_, hlen, hcell⟩ := World.cells?_some h1
      match cs', hlen with
      | [v0, v1, v2], _ =>
        obtain ⟨y0, y1, y2, k, _, g0, g1, g2⟩ := trod_array3 Try.underlying28 cells_u16T h2
        obtain ⟨a0, e0, _, w0⟩ := DataW.trod_int Try.underlying23 g0
        obtain ⟨a1, e1, _, w1⟩ := DataW.trod_int Try.underlying23 g1
        obtain ⟨a2, e2, _, w2⟩ := DataW.trod_int Try.underlying23 g2
        simp at e0 e1 e2
        subst e0 e1 e2
        have c0 := hcell 0 (by simp)
        have c1 := hcell 1 (by simp)
        have c2 := hcell 2 (by simp)
        refine ⟨(a0, a1, a2), by simpa [cells_u16t3, Addr.add_add] using c0, by simpa [cells_u16t3, Addr.add_add] using c1, by simpa [cells_u16t3, Addr.add_add] using c2, (wf_u16 w0).1, (wf_u16 w0).2, (wf_u16 w1).1, (wf_u16 w1).2, (wf_u16 w2).1, (wf_u16 w2).2⟩
    have each' : ∀ i, ∃ q : Int × Int × Int, i < m → W.cell? (a.add (i * 3)) = some (.int .u16 q.1) ∧ W.cell? (a.add (i * 3 + 1)) = some (.int .u16 q.2.1) ∧ W.cell? (a.add (i * 3 + 2)) = some (.int .u16 q.2.2) ∧ U16 q := fun i => by
      by_cases hi : i < m
      · obtain ⟨q, hq⟩ := each i hi
        exact ⟨q, fun _ => hq⟩
      · exact ⟨(0, 0, 0), fun h => absurd h hi⟩
    obtain ⟨q, hq⟩ : ∃ q : Nat → Int × Int × Int, ∀ i, i < m → W.cell? (a.add (i * 3)) = some (.int .u16 (q i).1) ∧ W.cell? (a.add (i * 3 + 1)) = some (.int .u16 (q i).2.1) ∧ W.cell? (a.add (i * 3 + 2)) = some (.int .u16 (q i).2.2) ∧ U16 (q i) := ⟨fun i => (each' i).choose, fun i => (each' i).choose_spec⟩
    cases len with
    | zero => exact ⟨[], _, _, rfl, fun h => absurd h (by simp)⟩
    | succ k =>
      obtain ⟨b, off, spot⟩ := a
      have hspot : spot = none := by simpa [Addr.add] using World.cell?_spot (hq 0 (by omega)).1
      subst hspot
      refine ⟨(List.range (k + 1)).map q, some ⟨b, off, none⟩, m, by simp, fun _ => ⟨b, off, rfl, ?_, ?_⟩⟩
      · have := World.block_lt_of_cell? W _ (hq 0 (by omega)).1
        simpa [Addr.add_lit] using this
      · intro j p hp
        simp only [List.getElem?_map, Option.map_eq_some_iff] at hp
        obtain ⟨i, hi, rfl⟩ := hp
        obtain ⟨hk, rfl⟩ : j < k + 1 ∧ i = j := by
          obtain ⟨h2, h3⟩ := List.getElem?_eq_some_iff.1 hi
          simp only [List.getElem_range] at h3
          exact ⟨by simpa using h2, h3.symm⟩
        obtain ⟨c0, c1, c2, w0⟩ := hq i (by omega)
        rw [Addr.add_lit] at c0 c1 c2
        exact ⟨⟨c0, c1, c2⟩, w0⟩
end Go.Proofs.Ytloddjjmoaljhaa
