/- Rules of candy among a law's arguments. -/
import Derived.Test.YtgklpbgdimkhaaaGreatKL
import Derived.Test.YtgklpbgdimkhaaaGreatJ3
import Derived.Lib.SmallJoins
import Derived.Deep.Strs
namespace Go.Proofs.YtgklpbgdimkhaaaGreat
open Go.ChangeShapes Go.WideShapes Go.ChangeAt Go.RowKit Go.Joins Go.Deep
set_option linter.unusedVariables false
set_option linter.unusedSimpArgs false

set_option maxRecDepth 100000 in
theorem open_slC {H : Type} {enc : TypeId × Value → H} {W : World} {v : Value} {y : DataW H × List MemPlace} {n0 : Nat} {t et : TypeId} {α : Type} {N : Nat} (x0 : α) (c : α → List Value) (P : α → Prop)
    (ht : Tryz.prog.underlying t = some (.slice et)) (hN : Tryz.prog.cellsOf et = N) (hpos : 0 < N) (hlen : ∀ x, (c x).length = N)
    (elem : ∀ (n : Nat) (cs : List Value) (y : DataW H × List MemPlace), DataW.trod enc Tryz.prog W 0 (fun _ => true) true n et cs = some y → cs.length = N → ∃ x, cs = c x ∧ P x)
    (hf : DataW.trod enc Tryz.prog W 0 (fun _ => true) true n0 t [v] = some y) : ∃ xs, SlAt N c P W v xs := by
  rcases open_slice ht hf with ⟨hc, _⟩ | ⟨a, len, cap, m, n, D, Pl, hc, _, hl, hm, hmm, _, hall⟩
  · simp at hc
    subst hc
    exact ⟨[], none, 0, rfl, fun h => absurd h (by simp)⟩
  · simp at hc
    subst hc
    simp only [if_true] at hmm
    subst hmm
    have each : ∀ i, ∃ q : α, i < m → (∀ j u, (c q)[j]? = some u → W.cell? (a.add (i * N + j)) = some u) ∧ P q := by
      intro i
      by_cases hi : i < m
      · obtain ⟨cs', h1, h2⟩ := hall i hi
        rw [hN] at h1
        obtain ⟨_, hlen', hcell⟩ := World.cells?_some h1
        obtain ⟨x, rfl, hP⟩ := elem _ _ _ h2 hlen'
        refine ⟨x, fun _ => ⟨fun j u hj => ?_, hP⟩⟩
        have hjl : j < N := by
          have := (List.getElem?_eq_some_iff.1 hj).1
          rw [hlen] at this
          exact this
        have h3 := hcell j hjl
        rw [Addr.add_add] at h3
        exact h3.trans hj
      · exact ⟨x0, fun h => absurd h hi⟩
    obtain ⟨q, hq⟩ : ∃ q : Nat → α, ∀ i, i < m → (∀ j u, (c (q i))[j]? = some u → W.cell? (a.add (i * N + j)) = some u) ∧ P (q i) := ⟨fun i => (each i).choose, fun i => (each i).choose_spec⟩
    cases len with
    | zero => exact ⟨[], _, _, rfl, fun h => absurd h (by simp)⟩
    | succ k =>
      obtain ⟨b, off, spot⟩ := a
      have h0 := (hq 0 (by omega)).1 0 ((c (q 0))[0]'(by rw [hlen]; exact hpos)) (List.getElem?_eq_getElem _)
      have hspot : spot = none := by simpa [Addr.add] using World.cell?_spot h0
      subst hspot
      refine ⟨(List.range (k + 1)).map q, some ⟨b, off, none⟩, m, by simp, fun _ => ⟨b, off, rfl, ?_, ?_⟩⟩
      · have := World.block_lt_of_cell? W _ h0
        simpa [Addr.add_lit] using this
      · intro j x hp
        simp only [List.getElem?_map, Option.map_eq_some_iff] at hp
        obtain ⟨i, hi, rfl⟩ := hp
        obtain ⟨hk, rfl⟩ : j < k + 1 ∧ i = j := by
          obtain ⟨h2, h3⟩ := List.getElem?_eq_some_iff.1 hi
          simp only [List.getElem_range] at h3
          exact ⟨by simpa using h2, h3.symm⟩
        refine ⟨fun o u hu => ?_, (hq i (by omega)).2⟩
        have := (hq i (by omega)).1 o u hu
        rw [Addr.add_lit] at this
        rw [Nat.add_assoc]
        exact this

section
variable {H : Type} {enc : TypeId × Value → H} {P : Program} {w : World} {base : Nat} {spare : Nat → Bool} {held : Bool}
theorem trod_struct5 {t : TypeId} {f0 f1 f2 f3 f4 : Field} {fuel : Nat} {cs : List Value} {x : DataW H × List MemPlace} (ht : P.underlying t = some (.struct #[f0, f1, f2, f3, f4])) (h : DataW.trod enc P w base spare held fuel t cs = some x) :
    ∃ y0 y1 y2 y3 y4 n, DataW.trod enc P w base spare held n f0.type ((cs.drop f0.offset).take (P.cellsOf f0.type)) = some y0 ∧
      DataW.trod enc P w base spare held n f1.type ((cs.drop f1.offset).take (P.cellsOf f1.type)) = some y1 ∧ DataW.trod enc P w base spare held n f2.type ((cs.drop f2.offset).take (P.cellsOf f2.type)) = some y2 ∧
      DataW.trod enc P w base spare held n f3.type ((cs.drop f3.offset).take (P.cellsOf f3.type)) = some y3 ∧ DataW.trod enc P w base spare held n f4.type ((cs.drop f4.offset).take (P.cellsOf f4.type)) = some y4 := by
  obtain ⟨xs, n, _, rfl, hl, hlen, hf⟩ := DataW.trod_struct ht h
  match xs, hlen with
  | [y0, y1, y2, y3, y4], _ => exact ⟨y0, y1, y2, y3, y4, n, by simpa using hf 0 f0 rfl, by simpa using hf 1 f1 rfl, by simpa using hf 2 f2 rfl, by simpa using hf 3 f3 rfl, by simpa using hf 4 f4 rfl⟩
end
theorem jIntCell : Tryz.prog.cellsOf 3 = 1 := by kernel_rfl
theorem jRngCell : Tryz.prog.cellsOf 24 = 2 := by kernel_rfl
theorem jRowsCell : Tryz.prog.cellsOf 22 = 1 := by kernel_rfl
theorem jPdsCell : Tryz.prog.cellsOf 25 = 1 := by kernel_rfl
theorem jRulesCell : Tryz.prog.cellsOf 27 = 5 := by kernel_rfl
set_option maxRecDepth 100000 in
theorem jRange {H : Type} {enc : TypeId × Value → H} {W : World} {c0 c1 : Value} {y : DataW H × List MemPlace} {n : Nat}
    (h : DataW.trod enc Tryz.prog W 0 (fun _ => true) true n 24 [c0, c1] = some y) : ∃ a b : Int, c0 = .int .i64 a ∧ c1 = .int .i64 b := by
  obtain ⟨y0, y1, m, rfl, hl, h0, h1⟩ := trod_struct2 Tryz.underlying24 h
  simp [jIntCell] at h0 h1
  obtain ⟨a, e0, _, wa⟩ := DataW.trod_int Tryz.underlying3 h0
  obtain ⟨b, e1, _, wb⟩ := DataW.trod_int Tryz.underlying3 h1
  simp at e0 e1
  exact ⟨a, b, e0, e1⟩
set_option maxRecDepth 100000 in
theorem jRow {H : Type} {enc : TypeId × Value → H} {W : World} (n : Nat) (cs : List Value) (y : DataW H × List MemPlace)
    (h : DataW.trod enc Tryz.prog W 0 (fun _ => true) true n 39 cs = some y) (hl : cs.length = 2) : ∃ x : Int × Int, cs = cR x ∧ True := by
  match cs, hl with
  | [c0, c1], _ =>
    obtain ⟨y0, y1, m, rfl, hl, h0, h1⟩ := trod_struct2 Tryz.underlying39 h
    simp [jIntCell] at h0 h1
    obtain ⟨a, e0, _, wa⟩ := DataW.trod_int Tryz.underlying3 h0
    obtain ⟨b, e1, _, wb⟩ := DataW.trod_int Tryz.underlying3 h1
    simp at e0 e1
    subst e0 e1
    exact ⟨(a, b), rfl, trivial⟩
set_option maxRecDepth 100000 in
theorem jPd {H : Type} {enc : TypeId × Value → H} {W : World} (n : Nat) (cs : List Value) (y : DataW H × List MemPlace)
    (h : DataW.trod enc Tryz.prog W 0 (fun _ => true) true n 41 cs = some y) (hl : cs.length = 8) : ∃ x : Pd, cs = cPd x ∧ True := by
  match cs, hl with
  | [c0, c1, c2, c3, c4, c5, c6, c7], _ =>
    obtain ⟨y0, y1, y2, y3, y4, m, h0, h1, h2, h3, h4⟩ := trod_struct5 Tryz.underlying41 h
    simp [jIntCell, jRngCell] at h0 h1 h2 h3 h4
    obtain ⟨a0, a1, rfl, rfl⟩ := jRange h0
    obtain ⟨a2, a3, rfl, rfl⟩ := jRange h1
    obtain ⟨a4, a5, rfl, rfl⟩ := jRange h2
    obtain ⟨a6, e3, _, _⟩ := DataW.trod_int Tryz.underlying3 h3
    obtain ⟨a7, e4, _, _⟩ := DataW.trod_int Tryz.underlying3 h4
    simp at e3 e4
    subst e3 e4
    exact ⟨⟨a0, a1, a2, a3, a4, a5, a6, a7⟩, rfl, trivial⟩
theorem SlAt.rs {α : Type} {N : Nat} {c : α → List Value} {W : World} {v : Value} {xs : List α} (h : SlAt N c (fun _ => True) W v xs) : RsAt N c W.heap.size W v xs := by
  obtain ⟨A, cp, rfl, h⟩ := h
  refine ⟨A, cp, rfl, fun h0 => ?_⟩
  obtain ⟨g, off, h1, h2, h3⟩ := h h0
  exact ⟨g, off, h1, h2, fun k x hk => (h3 k x hk).1⟩
theorem jSet {W : World} {v : Value} {xs : List (Int × Int)} (h : RsAt 2 cR W.heap.size W v xs) : SetAt W.heap.size W v xs := by
  obtain ⟨A, c, rfl, h⟩ := h
  refine ⟨A, c, rfl, fun hn => ?_⟩
  obtain ⟨g, off, rfl, hg, hr⟩ := h hn
  exact ⟨g, off, rfl, hg, fun k p hp => ⟨hr k p hp 0 _ rfl, hr k p hp 1 _ rfl⟩⟩
set_option maxRecDepth 100000 in
theorem open_candy {H : Type} {enc : TypeId × Value → H} {W : World} {r : Reach} {b0 : Nat} {v : Value} {d : DataW H} {p : List MemPlace}
    (hv : Value.okWide Tryz.prog W r b0 27 v) (h : DataW.Trod enc Tryz.prog W 0 (fun _ => true) true 27 v d p) :
    ∃ (v1 v2 v3 : Value) (R : Cr), v = .agg (cCr v1 v2 v3 R).toArray ∧ CrAt W.heap.size W v1 v2 v3 R := by
  obtain ⟨cs, rfl, hsz⟩ := okWide_struct Tryz.underlying27 hv
  rw [jRulesCell] at hsz
  obtain ⟨fuel, hf⟩ := h
  obtain ⟨l⟩ := cs
  match l, hsz with
  | [c0, c1, c2, c3, c4], _ =>
    obtain ⟨y0, y1, y2, y3, m, _, _, h0, h1, h2, h3⟩ := trod_struct4 Tryz.underlying27 hf
    simp [jRngCell, jRowsCell, jPdsCell, Value.cells] at h0 h1 h2 h3
    obtain ⟨xs, hx⟩ := open_slC (0, 0) cR (fun _ => True) Tryz.underlying22 (by kernel_rfl) (by decide) (fun _ => rfl) (fun n cs y h hl => jRow n cs y h hl) h0
    obtain ⟨ys, hy⟩ := open_slC (0, 0) cR (fun _ => True) Tryz.underlying22 (by kernel_rfl) (by decide) (fun _ => rfl) (fun n cs y h hl => jRow n cs y h hl) h1
    obtain ⟨a, b, rfl, rfl⟩ := jRange h2
    obtain ⟨ps, hp⟩ := open_slC (⟨0, 0, 0, 0, 0, 0, 0, 0⟩ : Pd) cPd (fun _ => True) Tryz.underlying25 (by kernel_rfl) (by decide) (fun _ => rfl) (fun n cs y h hl => jPd n cs y h hl) h3
    exact ⟨c0, c1, c4, ⟨xs, ys, a, b, ps⟩, rfl, jSet hx.rs, jSet hy.rs, hp.rs⟩
end Go.Proofs.YtgklpbgdimkhaaaGreat
