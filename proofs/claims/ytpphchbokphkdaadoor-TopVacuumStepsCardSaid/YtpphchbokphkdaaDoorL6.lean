/- Tubing and flows among a law's arguments. -/
import Derived.Test.YtpphchbokphkdaaDoorL0
import Derived.Deep.SlicePairs
import Derived.Carry
import Derived.Lib.SmallJoins
import Derived.Test.YtpphchbokphkdaaDoorN2
namespace Go.Proofs.YtpphchbokphkdaaDoor
open Go.ChangeShapes Go.WideShapes Go.ChangeAt Go.RowKit Go.Deep Go.Joins
set_option linter.unusedVariables false
set_option linter.unusedSimpArgs false

theorem rangeCells : Tryd.prog.cellsOf 34 = 2 := by kernel_rfl
theorem cells_int1 : Tryd.prog.cellsOf 3 = 1 := by kernel_rfl
set_option maxRecDepth 100000 in
theorem laidOut : laidOutB Tryd.prog = true := by kernel_rfl
set_option maxRecDepth 100000 in
theorem open_rs {H : Type} {enc : TypeId × Value → H} {W : World} {v : Value} {d : DataW H} {p : List MemPlace} {r : Reach} {b0 : Nat}
    (hv : Value.okWide Tryd.prog W r b0 25 v) (h : DataW.Trod enc Tryd.prog W 0 (fun _ => true) true 25 v d p) : ∃ xs, ArgAt W v xs := by
  obtain ⟨a0, len, cap, rfl⟩ := okWide_slice Tryd.underlying25 hv
  obtain ⟨fuel, hf⟩ := h
  rcases open_slice_pairs Tryd.underlying25 Tryd.underlying34 rangeCells rfl rfl cells_int1 cells_int1 hf with ⟨hc, _⟩ | ⟨a, len', cap', m, k, V0, V1, D0, D1, P0, P1, hc, _, hl, hm, hmm, _, hall⟩
  · simp [Value.cells] at hc
    obtain ⟨rfl, rfl, rfl⟩ := hc
    exact ⟨[], Or.inl ⟨⟨_, _, rfl⟩, rfl⟩⟩
  · simp [Value.cells] at hc
    obtain ⟨rfl, rfl, rfl⟩ := hc
    simp only [if_true] at hmm
    subst hmm
    cases len with
    | zero => exact ⟨[], Or.inl ⟨⟨_, _, rfl⟩, rfl⟩⟩
    | succ n =>
      obtain ⟨b, off, spot⟩ := a
      have hspot : spot = none := by simpa [Addr.add] using World.cell?_spot (hall 0 (by omega)).1
      subst hspot
      refine ⟨(List.range (n + 1)).map fun i => (intOf (V0 i), intOf (V1 i)), Or.inr ⟨b, off, m, by simp, by simpa using hl, ?_, ?_⟩⟩
      · have := World.block_lt_of_cell? W _ (hall 0 (by omega)).1
        simpa [Addr.add_lit] using this
      · intro k p hp
        simp only [List.getElem?_map, Option.map_eq_some_iff] at hp
        obtain ⟨i, hi, rfl⟩ := hp
        obtain ⟨hk, rfl⟩ : k < n + 1 ∧ i = k := by
          obtain ⟨h2, h3⟩ := List.getElem?_eq_some_iff.1 hi
          simp only [List.getElem_range] at h3
          exact ⟨by simpa using h2, h3.symm⟩
        obtain ⟨c0, c1, t0, t1⟩ := hall i (by omega)
        obtain ⟨N0, e0, _, _⟩ := DataW.trod_int Tryd.underlying3 t0
        obtain ⟨N1, e1, _, _⟩ := DataW.trod_int Tryd.underlying3 t1
        simp at e0 e1
        rw [e0] at c0
        rw [e1] at c1
        rw [Addr.add_lit] at c0 c1
        rw [e0, e1]
        exact ⟨c0, c1⟩

theorem pipeCells : Tryd.prog.cellsOf 36 = 5 := by kernel_rfl
theorem netCells : Tryd.prog.cellsOf 24 = 2 := by kernel_rfl
set_option maxRecDepth 100000 in
theorem open_pipes {H : Type} {enc : TypeId × Value → H} {W : World} {v : Value} {y : DataW H × List MemPlace} {n : Nat}
    (h : DataW.trod enc Tryd.prog W 0 (fun _ => true) true n 22 [v] = some y) : ∃ ps, PipesAt W.heap.size W v ps := by
  rcases open_slice Tryd.underlying22 h with ⟨hc, _⟩ | ⟨a, len, cap, m, k, D, Pl, hc, _, hl, hm, hmm, _, hx⟩
  · simp at hc
    subst hc
    exact ⟨[], none, 0, rfl, Nat.zero_le _, fun h => by simp at h⟩
  · simp at hc
    subst hc
    simp only [if_true] at hmm
    subst hmm
    have each : ∀ i, i < m → ∃ p : Pp, W.cell? (a.add (i * 5)) = some (.int .i64 p.pa) ∧ W.cell? (a.add (i * 5 + 1)) = some (.int .i64 p.ln) ∧ W.cell? (a.add (i * 5 + 2)) = some (.int .i64 p.bo) ∧ W.cell? (a.add (i * 5 + 3)) = some (.int .i64 p.dr) ∧ W.cell? (a.add (i * 5 + 4)) = some (.int .i64 p.ta) := by
      intro i hi
      obtain ⟨cs', h1, h2⟩ := hx i hi
      rw [pipeCells] at h1
      obtain ⟨_, hlen, hcell⟩ := World.cells?_some h1
      obtain ⟨ys, n', _, _, _, hyl, hf⟩ := DataW.trod_struct Tryd.underlying36 h2
      match cs', hlen with
      | [v0, v1, v2, v3, v4], _ =>
        have key : ∀ (j : Nat) (u : Value), (ys.length = 5) → j < 5 → DataW.trod enc Tryd.prog W 0 (fun _ => true) true n' 3 [u] = ys[j]? → ∃ z : Int, u = .int .i64 z := by
          intro j u hy hj ht
          rw [List.getElem?_eq_getElem (by omega)] at ht
          obtain ⟨z, e, _, _⟩ := DataW.trod_int Tryd.underlying3 ht
          simp at e
          exact ⟨z, e⟩
        have hy5 : ys.length = 5 := hyl
        obtain ⟨z0, rfl⟩ := key 0 v0 hy5 (by omega) (by simpa [cells_int1] using hf 0 _ rfl)
        obtain ⟨z1, rfl⟩ := key 1 v1 hy5 (by omega) (by simpa [cells_int1] using hf 1 _ rfl)
        obtain ⟨z2, rfl⟩ := key 2 v2 hy5 (by omega) (by simpa [cells_int1] using hf 2 _ rfl)
        obtain ⟨z3, rfl⟩ := key 3 v3 hy5 (by omega) (by simpa [cells_int1] using hf 3 _ rfl)
        obtain ⟨z4, rfl⟩ := key 4 v4 hy5 (by omega) (by simpa [cells_int1] using hf 4 _ rfl)
        have g0 := hcell 0 (by omega)
        have g1 := hcell 1 (by omega)
        have g2 := hcell 2 (by omega)
        have g3 := hcell 3 (by omega)
        have g4 := hcell 4 (by omega)
        rw [Go.Deep.add_add] at g0 g1 g2 g3 g4
        exact ⟨⟨z0, z1, z2, z3, z4⟩, by simpa using g0, by simpa using g1, by simpa using g2, by simpa using g3, by simpa using g4⟩
    cases len with
    | zero => exact ⟨[], some a, m, rfl, Nat.zero_le _, fun h => by simp at h⟩
    | succ n =>
      obtain ⟨b, off, spot⟩ := a
      obtain ⟨_, hc0, _⟩ := each 0 (by omega)
      have hspot : spot = none := by simpa [Addr.add] using World.cell?_spot hc0
      subst hspot
      have hb : b < W.heap.size := by
        have := World.block_lt_of_cell? W _ hc0
        simpa [Addr.add_lit] using this
      refine ⟨(List.range (n + 1)).map fun i => if h : i < m then (each i h).choose else p0, some ⟨b, off, none⟩, m, by simp, by simpa using hl, fun _ => ⟨b, off, rfl, hb, ?_⟩⟩
      intro k p hp
      simp only [List.getElem?_map, Option.map_eq_some_iff] at hp
      obtain ⟨i, hi, rfl⟩ := hp
      obtain ⟨hk, rfl⟩ : k < n + 1 ∧ i = k := by
        obtain ⟨h2, h3⟩ := List.getElem?_eq_some_iff.1 hi
        simp only [List.getElem_range] at h3
        exact ⟨by simpa using h2, h3.symm⟩
      have him : i < m := by omega
      rw [dif_pos him]
      have := (each i him).choose_spec
      generalize (each i him).choose = p at *
      obtain ⟨t0, t1, t2, t3, t4⟩ := this
      rw [Addr.add_lit] at t0 t1 t2 t3 t4
      exact ⟨t0, t1, t2, t3, t4⟩
set_option maxRecDepth 100000 in
theorem open_net {H : Type} {enc : TypeId × Value → H} {W : World} {v : Value} {d : DataW H} {p : List MemPlace} {r : Reach} {b0 : Nat}
    (hv : Value.okWide Tryd.prog W r b0 24 v) (h : DataW.Trod enc Tryd.prog W 0 (fun _ => true) true 24 v d p) : ∃ (pump : Int) (vp : Value) (ps : List Pp), v = .agg #[.int .i64 pump, vp] ∧ PipesAt W.heap.size W vp ps := by
  obtain ⟨c0, c1, y0, y1, n, rfl, _, _, h0, h1⟩ := open_agg2 Tryd.underlying24 (by kernel_rfl) netCells hv h
  obtain ⟨pump, e0, _, _⟩ := DataW.trod_int Tryd.underlying3 h0
  simp at e0
  subst e0
  obtain ⟨ps, hp⟩ := open_pipes h1
  exact ⟨pump, _, ps, rfl, hp⟩
end Go.Proofs.YtpphchbokphkdaaDoor
