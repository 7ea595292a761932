/- A struct of two lists of pairs of small numbers, and of two numbers, among a law's arguments. -/
import Derived.Test.YtiibbnbknmeplaaL1
import Derived.Test.YtiibbnbknmeplaaL2
import Derived.Test.YtiibbnbknmeplaaL3
import Derived.Test.YtiibbnbknmeplaaC23
namespace Go.Proofs.Ytiibbnbknmeplaa
open Go.ChangeShapes Go.WideShapes Go.ChangeAt Go.RowKit Go.Deep Go.Joins
set_option linter.unusedVariables false
set_option linter.unusedSimpArgs false

theorem cells_p8 : Try.prog.cellsOf 156 = 2 := by kernel_rfl
theorem cells_u8 : Try.prog.cellsOf 5 = 1 := by kernel_rfl
set_option maxRecDepth 100000 in
theorem open_p8 {H : Type} {enc : TypeId × Value → H} {W : World} {v : Value} {y : DataW H × List MemPlace} {n : Nat}
    (h : DataW.trod enc Try.prog W 0 (fun _ => true) true n 109 [v] = some y) : ∃ ps, P8At W v ps := by
  rcases open_slice Try.underlying109 h with ⟨hc, _⟩ | ⟨a, len, cap, m, k, D, Pl, hc, _, hl, hm, hmm, _, hx⟩
  · simp at hc
    subst hc
    exact ⟨[], none, 0, rfl, fun h => by simp at h⟩
  · simp at hc
    subst hc
    simp only [if_true] at hmm
    subst hmm
    have each : ∀ i, i < m → ∃ c0 c1 : Int, (W.cell? (a.add (i * 2)) = some (.int .u8 c0) ∧ W.cell? (a.add (i * 2 + 1)) = some (.int .u8 c1)) ∧ 0 ≤ c0 ∧ c0 ≤ 255 ∧ 0 ≤ c1 ∧ c1 ≤ 255 := by
      intro i hi
      obtain ⟨cs', h1, h2⟩ := hx i hi
      rw [cells_p8] at h1
      obtain ⟨_, hlen, hcell⟩ := World.cells?_some h1
      match cs', hlen with
      | [v0, v1], _ =>
        obtain ⟨y0, y1, n', hxx, hy0, hy1⟩ := trod_array2 Try.underlying156 cells_u8 h2
        obtain ⟨a0, e0, _, w0⟩ := DataW.trod_int Try.underlying5 hy0
        obtain ⟨a1, e1, _, w1⟩ := DataW.trod_int Try.underlying5 hy1
        simp at e0 e1
        subst e0 e1
        have g0 := hcell 0 (by omega)
        have g1 := hcell 1 (by omega)
        rw [add_add] at g0 g1
        have := wf_u8 w0
        have := wf_u8 w1
        exact ⟨a0, a1, ⟨by simpa using g0, by simpa using g1⟩, by omega, by omega, by omega, by omega⟩
    cases len with
    | zero => exact ⟨[], some a, m, rfl, fun h => by simp at h⟩
    | succ n =>
      obtain ⟨b, off, spot⟩ := a
      obtain ⟨c0, c1, ⟨hc0, _⟩, _⟩ := each 0 (by omega)
      have hspot : spot = none := by simpa [Addr.add] using World.cell?_spot hc0
      subst hspot
      have hb : b < W.heap.size := by
        have := World.block_lt_of_cell? W _ hc0
        simpa [Addr.add_lit] using this
      refine ⟨(List.range (n + 1)).map fun i => if h : i < m then ((each i h).choose, (each i h).choose_spec.choose) else (0, 0), some ⟨b, off, none⟩, m, by simp, fun _ => ⟨b, off, rfl, hb, ?_⟩⟩
      intro k p hp
      simp only [List.getElem?_map, Option.map_eq_some_iff] at hp
      obtain ⟨i, hi, rfl⟩ := hp
      obtain ⟨hk, rfl⟩ : k < n + 1 ∧ i = k := by
        obtain ⟨h2, h3⟩ := List.getElem?_eq_some_iff.1 hi
        simp only [List.getElem_range] at h3
        exact ⟨by simpa using h2, h3.symm⟩
      have him : i < m := by omega
      rw [dif_pos him]
      have := (each i him).choose_spec.choose_spec
      generalize (each i him).choose_spec.choose = c1 at *
      generalize (each i him).choose = c0 at *
      obtain ⟨⟨t1, t2⟩, t3⟩ := this
      rw [Addr.add_lit] at t1 t2
      exact ⟨⟨t1, t2⟩, t3⟩
set_option maxRecDepth 100000 in
theorem open_m8 {H : Type} {enc : TypeId × Value → H} {W : World} {v : Value} {d : DataW H} {p : List MemPlace} {r : Reach} {b0 : Nat}
    (hv : Value.okWide Try.prog W r b0 111 v) (h : DataW.Trod enc Try.prog W 0 (fun _ => true) true 111 v d p) :
    ∃ va vb ps qs b x, v = .agg #[va, vb, .int .u8 b, .int .i16 x] ∧ P8At W va ps ∧ P8At W vb qs ∧ (0 ≤ b ∧ b ≤ 255) ∧ (-32768 ≤ x ∧ x ≤ 32767) := by
  obtain ⟨c0, c1, c2, c3, y0, y1, y2, y3, n, rfl, _, _, h0, h1, h2, h3⟩ := open_agg4 Try.underlying111 (by kernel_rfl) (by kernel_rfl) hv h
  obtain ⟨ps, hp⟩ := open_p8 h0
  obtain ⟨qs, hq⟩ := open_p8 h1
  obtain ⟨b, e2, _, wb⟩ := DataW.trod_int Try.underlying5 h2
  obtain ⟨x, e3, _, wx⟩ := DataW.trod_int Try.underlying106 h3
  simp at e2 e3
  subst e2 e3
  exact ⟨_, _, ps, qs, b, x, rfl, hp, hq, wf_u8 wb, wf_i16 wx⟩
end Go.Proofs.Ytiibbnbknmeplaa
