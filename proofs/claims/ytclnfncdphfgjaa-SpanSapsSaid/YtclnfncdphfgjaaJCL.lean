/- Contracts: L3, L2, L12, joined. -/
import Derived.Test.YtclnfncdphfgjaaJC0
import Derived.Deep.SlicePairs
import Derived.Carry
import Derived.Test.YtclnfncdphfgjaaJC5
import Derived.Laws.IdiomArrays
import Derived.Deep.Slices
namespace Go.Proofs.Ytclnfncdphfgjaa
open Go.ChangeShapes Go.WideShapes Go.ChangeAt Go.RowKit Go.Deep
set_option linter.unusedVariables false
set_option linter.unusedSimpArgs false

theorem cells_int1 : Try.prog.cellsOf 3 = 1 := by kernel_rfl
set_option maxRecDepth 100000 in
theorem laidOut : laidOutB Try.prog = true := by kernel_rfl
set_option maxRecDepth 100000 in
theorem open_rs {H : Type} {enc : TypeId × Value → H} {W : World} {v : Value} {d : DataW H} {p : List MemPlace} {r : Reach} {b0 : Nat}
    (hv : Value.okWide Try.prog W r b0 111 v) (h : DataW.Trod enc Try.prog W 0 (fun _ => true) true 111 v d p) : ∃ xs, ArgAt W v xs := by
  obtain ⟨a0, len, cap, rfl⟩ := okWide_slice Try.underlying111 hv
  obtain ⟨fuel, hf⟩ := h
  rcases open_slice_pairs Try.underlying111 Try.underlying107 rangeCells rfl rfl cells_int1 cells_int1 hf with ⟨hc, _⟩ | ⟨a, len', cap', m, k, V0, V1, D0, D1, P0, P1, hc, _, hl, hm, hmm, _, hall⟩
  · simp [Value.cells] at hc
    obtain ⟨rfl, rfl, rfl⟩ := hc
    exact ⟨[], Or.inl ⟨⟨_, _, rfl⟩, rfl⟩⟩
  · simp [Value.cells] at hc
    obtain ⟨rfl, rfl, rfl⟩ := hc
    simp only [if_true] at hmm
    subst hmm
    cases len with
    | zero => exact ⟨[], Or.inl ⟨⟨_, _, rfl⟩, rfl⟩⟩
    | succ n =>
      obtain ⟨b, off, spot⟩ := a
      have hspot : spot = none := by simpa [Addr.add] using World.cell?_spot (hall 0 (by omega)).1
      subst hspot
      refine ⟨(List.range (n + 1)).map fun i => (RowKit.intOf (V0 i), RowKit.intOf (V1 i)), Or.inr ⟨b, off, m, by simp, by simpa using hl, ?_, ?_⟩⟩
      · have := World.block_lt_of_cell? W _ (hall 0 (by omega)).1
        simpa [Addr.add_lit] using this
      · intro k p hp
        simp only [List.getElem?_map, Option.map_eq_some_iff] at hp
        obtain ⟨i, hi, rfl⟩ := hp
        obtain ⟨hk, rfl⟩ : k < n + 1 ∧ i = k := by
          obtain ⟨h2, h3⟩ := List.getElem?_eq_some_iff.1 hi
          simp only [List.getElem_range] at h3
          exact ⟨by simpa using h2, h3.symm⟩
        obtain ⟨c0, c1, t0, t1⟩ := hall i (by omega)
        obtain ⟨N0, e0, _, _⟩ := DataW.trod_int Try.underlying3 t0
        obtain ⟨N1, e1, _, _⟩ := DataW.trod_int Try.underlying3 t1
        simp at e0 e1
        rw [e0] at c0
        rw [e1] at c1
        rw [Addr.add_lit] at c0 c1
        rw [e0, e1]
        exact ⟨c0, c1⟩

open Go.ChangeShapes Go.WideShapes Go.ChangeAt Go.RowKit Go.Joins Go.Deep
set_option linter.unusedVariables false
set_option linter.unusedSimpArgs false

section
variable {H : Type} {enc : TypeId × Value → H} {P : Program} {w : World} {base : Nat} {spare : Nat → Bool} {held : Bool}
theorem trod_array2 {t e : TypeId} {fuel : Nat} {c0 c1 : Value} {x : DataW H × List MemPlace} (ht : P.underlying t = some (.array 2 e)) (hce : P.cellsOf e = 1)
    (h : DataW.trod enc P w base spare held fuel t [c0, c1] = some x) :
    ∃ y0 y1 n, x = (.agg [y0.1, y1.1], y0.2 ++ y1.2) ∧ DataW.trod enc P w base spare held n e [c0] = some y0 ∧ DataW.trod enc P w base spare held n e [c1] = some y1 := by
  cases fuel with
  | zero => simp [DataW.trod] at h
  | succ n =>
    unfold DataW.trod at h
    rw [ht] at h
    have r2 : List.range 2 = [0, 1] := rfl
    simp [r2, hce] at h
    obtain ⟨_, h⟩ := h
    cases h0 : DataW.trod enc P w base spare held n e [c0] with
    | none => simp [h0] at h
    | some y0 =>
      cases h1 : DataW.trod enc P w base spare held n e [c1] with
      | none => simp [h0, h1] at h
      | some y1 =>
        simp [h0, h1] at h
        exact ⟨y0, y1, n, h.symm, h0, h1⟩
theorem okWide_array {r : Reach} {b0 : Nat} {t e : TypeId} {n : Nat} {v : Value} (ht : P.underlying t = some (.array n e)) (hv : Value.okWide P w r b0 t v) : ∃ cs, v = .agg cs ∧ cs.size = P.cellsOf t := by
  obtain ⟨cs, h1, h2, _⟩ : ∃ cs, v = .agg cs ∧ cs.size = P.cellsOf t ∧ Row.okWide P w r b0 t cs := by simpa [Value.okWide, ht] using hv
  exact ⟨cs, h1, h2⟩
theorem open_a2 {r : Reach} {b0 : Nat} {t e : TypeId} {k : IntKind} {v : Value} {d : DataW H} {p : List MemPlace} (ht : P.underlying t = some (.array 2 e)) (hce : P.cellsOf e = 1) (hC : P.cellsOf t = 2) (he : P.underlying e = some (.int k))
    (hv : Value.okWide P w r b0 t v) (h : DataW.Trod enc P w base spare held t v d p) :
    ∃ a b : Int, v = .agg #[.int k a, .int k b] ∧ d = .agg [.lit (.int k a), .lit (.int k b)] ∧ p = [] ∧ (Lit.int k a).wf = true ∧ (Lit.int k b).wf = true := by
  obtain ⟨cs, rfl, hsz⟩ := okWide_array ht hv
  obtain ⟨c0, c1, rfl⟩ := array2 (hsz.trans hC)
  obtain ⟨fuel, hf⟩ := h
  obtain ⟨y0, y1, n, hx, hy0, hy1⟩ := trod_array2 ht hce hf
  obtain ⟨a, e0, rfl, wa⟩ := DataW.trod_int he hy0
  obtain ⟨b, e1, rfl, wb⟩ := DataW.trod_int he hy1
  simp at e0 e1
  subst e0 e1
  simp only [Prod.mk.injEq] at hx
  obtain ⟨rfl, rfl⟩ := hx
  exact ⟨a, b, rfl, rfl, rfl, wa, wb⟩
theorem open_a3 {r : Reach} {b0 : Nat} {t e : TypeId} {k : IntKind} {v : Value} {d : DataW H} {p : List MemPlace} (ht : P.underlying t = some (.array 3 e)) (hce : P.cellsOf e = 1) (hC : P.cellsOf t = 3) (he : P.underlying e = some (.int k))
    (hv : Value.okWide P w r b0 t v) (h : DataW.Trod enc P w base spare held t v d p) :
    ∃ a b c : Int, v = .agg #[.int k a, .int k b, .int k c] ∧ d = .agg [.lit (.int k a), .lit (.int k b), .lit (.int k c)] ∧ p = [] ∧ (Lit.int k a).wf = true ∧ (Lit.int k b).wf = true ∧ (Lit.int k c).wf = true := by
  obtain ⟨cs, rfl, hsz⟩ := okWide_array ht hv
  obtain ⟨c0, c1, c2, rfl⟩ := array3 (hsz.trans hC)
  obtain ⟨fuel, hf⟩ := h
  obtain ⟨y0, y1, y2, n, hx, hy0, hy1, hy2⟩ := trod_array3 ht hce hf
  obtain ⟨a, e0, rfl, wa⟩ := DataW.trod_int he hy0
  obtain ⟨b, e1, rfl, wb⟩ := DataW.trod_int he hy1
  obtain ⟨c, e2, rfl, wc⟩ := DataW.trod_int he hy2
  simp at e0 e1 e2
  subst e0 e1 e2
  simp only [Prod.mk.injEq] at hx
  obtain ⟨rfl, rfl⟩ := hx
  exact ⟨a, b, c, rfl, rfl, rfl, wa, wb, wc⟩
theorem shut_a2 {t e : TypeId} {k : IntKind} {a b : Int} (ht : P.underlying t = some (.array 2 e)) (hce : P.cellsOf e = 1) (hC : P.cellsOf t = 2) (he : P.underlying e = some (.int k)) (wa : (Lit.int k a).wf = true) (wb : (Lit.int k b).wf = true) :
    DataW.Trod enc P w base spare held t (.agg #[.int k a, .int k b]) (.agg [.lit (.int k a), .lit (.int k b)]) [] :=
  ⟨2, by
    have r2 : List.range 2 = [0, 1] := rfl
    simp [DataW.trod, Value.cells, ht, he, hC, hce, r2, wa, wb]⟩
theorem shut_a3 {t e : TypeId} {k : IntKind} {a b c : Int} (ht : P.underlying t = some (.array 3 e)) (hce : P.cellsOf e = 1) (hC : P.cellsOf t = 3) (he : P.underlying e = some (.int k)) (wa : (Lit.int k a).wf = true) (wb : (Lit.int k b).wf = true) (wc : (Lit.int k c).wf = true) :
    DataW.Trod enc P w base spare held t (.agg #[.int k a, .int k b, .int k c]) (.agg [.lit (.int k a), .lit (.int k b), .lit (.int k c)]) [] :=
  ⟨2, by
    have r3 : List.range 3 = [0, 1, 2] := rfl
    simp [DataW.trod, Value.cells, ht, he, hC, hce, r3, wa, wb, wc]⟩
end

open Go.ChangeShapes Go.WideShapes Go.ChangeAt Go.RowKit Go.Joins Go.Deep
set_option linter.unusedVariables false
set_option linter.unusedSimpArgs false

/-- the slice v reads as the things xs, each of n cells c x -/
def SlAt {α : Type} (n : Nat) (c : α → List Value) (P : α → Prop) (W : World) (v : Value) (xs : List α) : Prop :=
  ∃ A cp, v = .slice A xs.length cp ∧ (0 < xs.length → ∃ g off, A = some ⟨g, off, none⟩ ∧ g < W.heap.size ∧ ∀ k x, xs[k]? = some x → (∀ j u, (c x)[j]? = some u → W.cell? ⟨g, off + k * n + j, none⟩ = some u) ∧ P x)
set_option maxRecDepth 100000 in
theorem open_sl {H : Type} {enc : TypeId × Value → H} {W : World} {v : Value} {d : DataW H} {p : List MemPlace} {r : Reach} {b0 : Nat} {t et : TypeId} {α : Type} {N : Nat} (x0 : α) (c : α → List Value) (P : α → Prop)
    (ht : Try.prog.underlying t = some (.slice et)) (hN : Try.prog.cellsOf et = N) (hpos : 0 < N) (hlen : ∀ x, (c x).length = N)
    (elem : ∀ (n : Nat) (cs : List Value) (y : DataW H × List MemPlace), DataW.trod enc Try.prog W 0 (fun _ => true) true n et cs = some y → cs.length = N → ∃ x, cs = c x ∧ P x)
    (hv : Value.okWide Try.prog W r b0 t v) (h : DataW.Trod enc Try.prog W 0 (fun _ => true) true t v d p) : ∃ xs, SlAt N c P W v xs := by
  obtain ⟨a0, len, cap, rfl⟩ := okWide_slice ht hv
  obtain ⟨fuel, hf⟩ := h
  rcases open_slice ht hf with ⟨hc, _⟩ | ⟨a, len', cap', m, n, D, Pl, hc, _, hl, hm, hmm, _, hall⟩
  · simp [Value.cells] at hc
    obtain ⟨rfl, rfl, rfl⟩ := hc
    exact ⟨[], none, 0, rfl, fun h => absurd h (by simp)⟩
  · simp [Value.cells] at hc
    obtain ⟨rfl, rfl, rfl⟩ := hc
    simp only [if_true] at hmm
    subst hmm
    have each : ∀ i, ∃ q : α, i < m → (∀ j u, (c q)[j]? = some u → W.cell? (a.add (i * N + j)) = some u) ∧ P q := by
      intro i
      by_cases hi : i < m
      · obtain ⟨cs', h1, h2⟩ := hall i hi
        rw [hN] at h1
        obtain ⟨_, hlen', hcell⟩ := World.cells?_some h1
        obtain ⟨x, rfl, hP⟩ := elem _ _ _ h2 hlen'
        refine ⟨x, fun _ => ⟨fun j u hj => ?_, hP⟩⟩
        have hjl : j < N := by
          have := (List.getElem?_eq_some_iff.1 hj).1
          rw [hlen] at this
          exact this
        have h3 := hcell j hjl
        rw [Addr.add_add] at h3
        exact h3.trans hj
      · exact ⟨x0, fun h => absurd h hi⟩
    obtain ⟨q, hq⟩ : ∃ q : Nat → α, ∀ i, i < m → (∀ j u, (c (q i))[j]? = some u → W.cell? (a.add (i * N + j)) = some u) ∧ P (q i) := ⟨fun i => (each i).choose, fun i => (each i).choose_spec⟩
    cases len with
    | zero => exact ⟨[], _, _, rfl, fun h => absurd h (by simp)⟩
    | succ k =>
      obtain ⟨b, off, spot⟩ := a
      have h0 := (hq 0 (by omega)).1 0 ((c (q 0))[0]'(by rw [hlen]; exact hpos)) (List.getElem?_eq_getElem _)
      have hspot : spot = none := by simpa [Addr.add] using World.cell?_spot h0
      subst hspot
      refine ⟨(List.range (k + 1)).map q, some ⟨b, off, none⟩, m, by simp, fun _ => ⟨b, off, rfl, ?_, ?_⟩⟩
      · have := World.block_lt_of_cell? W _ h0
        simpa [Addr.add_lit] using this
      · intro j x hp
        simp only [List.getElem?_map, Option.map_eq_some_iff] at hp
        obtain ⟨i, hi, rfl⟩ := hp
        obtain ⟨hk, rfl⟩ : j < k + 1 ∧ i = j := by
          obtain ⟨h2, h3⟩ := List.getElem?_eq_some_iff.1 hi
          simp only [List.getElem_range] at h3
          exact ⟨by simpa using h2, h3.symm⟩
        refine ⟨fun o u hu => ?_, (hq i (by omega)).2⟩
        have := (hq i (by omega)).1 o u hu
        rw [Addr.add_lit] at this
        rw [Nat.add_assoc]
        exact this
/-- a number of one kind that a reading takes -/
theorem trod_i {H : Type} {enc : TypeId × Value → H} {W : World} {t : TypeId} {k : IntKind} {n : Nat} {c : Value} {o : Option (DataW H × List MemPlace)} (ht : Try.prog.underlying t = some (.int k))
    (h : DataW.trod enc Try.prog W 0 (fun _ => true) true n t [c] = o) (ho : o.isSome = true) : ∃ a, c = .int k a ∧ (Lit.int k a).wf = true := by
  obtain ⟨y, rfl⟩ := Option.isSome_iff_exists.1 ho
  obtain ⟨a, e, _, w⟩ := DataW.trod_int ht h
  simp at e
  exact ⟨a, e, w⟩
theorem trod_ii {H : Type} {enc : TypeId × Value → H} {W : World} {t e : TypeId} {k : IntKind} {n : Nat} {c0 c1 : Value} {o : Option (DataW H × List MemPlace)} (ht : Try.prog.underlying t = some (.array 2 e)) (hce : Try.prog.cellsOf e = 1) (he : Try.prog.underlying e = some (.int k))
    (h : DataW.trod enc Try.prog W 0 (fun _ => true) true n t [c0, c1] = o) (ho : o.isSome = true) : ∃ a b, c0 = .int k a ∧ c1 = .int k b ∧ (Lit.int k a).wf = true ∧ (Lit.int k b).wf = true := by
  obtain ⟨y, rfl⟩ := Option.isSome_iff_exists.1 ho
  obtain ⟨y0, y1, n', _, h0, h1⟩ := trod_array2 ht hce h
  obtain ⟨a, e0, _, w0⟩ := DataW.trod_int he h0
  obtain ⟨b, e1, _, w1⟩ := DataW.trod_int he h1
  simp at e0 e1
  exact ⟨a, b, e0, e1, w0, w1⟩
end Go.Proofs.Ytclnfncdphfgjaa
