/- Contracts: one round; saps that are mixed. -/
import Derived.Test.YtloddjjmoaljhaaU6
namespace Go.Proofs.Ytloddjjmoaljhaa
open Go.RowKit Go.Lib Go.Shelf
set_option linter.unusedVariables false
set_option linter.unusedSimpArgs false
attribute [local go_sem ↓] Go.wp_at_zero Go.wp_at_succ

set_option maxHeartbeats 400000 in
theorem squeeze_ok (a s t p : Nat) (ha : a ≤ 1000000000000) (hs : s ≤ 1000000000000) (ht : t ≤ 10000) (hp : p ≤ 10000) (w : World) :
    Calls Try.prog 47 #[.agg #[.int .i64 (a : Int), .int .i64 (s : Int)], .int .i64 (t : Int), .int .i64 (p : Int)] w fun e w' =>
      e = .returned (.tuple #[.agg #[.int .i64 ((rk t p (a, s) 1).1 : Nat), .int .i64 ((rk t p (a, s) 1).2 : Nat)], .agg #[.int .i64 ((a - (rk t p (a, s) 1).1 : Nat) : Int), .int .i64 ((s - (rk t p (a, s) 1).2 : Nat) : Int)], .int .i64 0]) ∧ Below w.heap.size w w' := by
  have c1 := Lib.hid (rounds_ok a s t p 1 ha hs ht hp (by omega))
  generalize ((rk t p (a, s) 1).1 : Int) = x1 at *
  generalize ((rk t p (a, s) 1).2 : Int) = x2 at *
  generalize ((a - (rk t p (a, s) 1).1 : Nat) : Int) = y1 at *
  generalize ((s - (rk t p (a, s) 1).2 : Nat) : Int) = y2 at *
  go_enter Try.func47, Try.ntmps47
  go_wp2_with fail
  refine (c1.out _).mono ?_
  rintro e w1 ⟨rfl, hb⟩
  have x0 := cell_next hb (b := w.heap.size + 1) (o := 0) (by simp) (v := some (.int .i64 0)) (by simp [go_sem])
  have x1' := cell_next hb (b := w.heap.size + 1) (o := 1) (by simp) (v := some (.int .i64 0)) (by simp [go_sem])
  have y0 := cell_next hb (b := w.heap.size + 1 + 1) (o := 0) (by simp) (v := some (.int .i64 0)) (by simp [go_sem])
  have y1' := cell_next hb (b := w.heap.size + 1 + 1) (o := 1) (by simp) (v := some (.int .i64 0)) (by simp [go_sem])
  have f0 := frozen_next hb (b := w.heap.size + 1) (o := 0) (by simp) (v := false) (by simp [go_sem])
  have f1 := frozen_next hb (b := w.heap.size + 1) (o := 1) (by simp) (v := false) (by simp [go_sem])
  have g0 := frozen_next hb (b := w.heap.size + 1 + 1) (o := 0) (by simp) (v := false) (by simp [go_sem])
  have g1 := frozen_next hb (b := w.heap.size + 1 + 1) (o := 1) (by simp) (v := false) (by simp [go_sem])
  have hB := below3 hb
  clear hb
  go_wp2_with fail
  refine bodyPost_ret (v := .tuple #[.agg #[.int .i64 x1, .int .i64 x2], .agg #[.int .i64 y1, .int .i64 y2], .int .i64 0]) (by simp [results, Try.results47, go_sem, *]) rfl ⟨rfl, ?_⟩
  exact (((hB.setCell (by simp <;> omega) _).setCell (by simp <;> omega) _).setCell (by simp <;> omega) _).setCell (by simp <;> omega) _

set_option maxRecDepth 20000 in
set_option maxHeartbeats 1000000 in
theorem mix_ok (g off : Nat) (xs : List (Int × Int)) (c : Nat) (w : World) (hx : ∀ p ∈ xs, spB p.1 p.2 = true) (hg : g < w.heap.size) (hr : RRd w g off xs) (hl : xs.length ≤ 100) (hS : spB (suU xs).1 (suU xs).2 = true) :
    Calls Try.prog 8 #[.slice (some ⟨g, off, none⟩) xs.length c] w fun e w' =>
      e = .returned (.tuple #[.agg #[.int .i64 (suU xs).1, .int .i64 (suU xs).2], .int .i64 0]) ∧ Below w.heap.size w w' := by
  obtain ⟨n, hn⟩ : ∃ n, xs.length = n := ⟨_, rfl⟩
  rw [hn] at hl ⊢
  have Hn := Lib.hid hn
  clear hn
  have HX := Lib.hid hx
  have HR := Lib.hid hr
  have HS := Lib.hid hS
  clear hx hr hS
  go_enter Try.func8, Try.ntmps8
  have t0 : decide ((100 : Int) < (n : Int)) = false := by simp; omega
  go_wp2_with fail
  go_loopw [13] (fun i wr => ∃ (k : Nat) (a : Int × Int), k ≤ n ∧ i = .int .i64 k ∧ Hid (a = suU (xs.take k)) ∧ Hid (0 ≤ a.1 ∧ a.1 ≤ 10000000000000 * k ∧ 0 ≤ a.2 ∧ a.2 ≤ 10000000000000 * k) ∧ wr.cell? ⟨w.heap.size + 1, 0, none⟩ = some (.int .i64 a.1) ∧ wr.cell? ⟨w.heap.size + 1, 1, none⟩ = some (.int .i64 a.2) ∧ wr.frozen? ⟨w.heap.size + 1, 0, none⟩ = false ∧ wr.frozen? ⟨w.heap.size + 1, 1, none⟩ = false ∧
      wr.cell? ⟨w.heap.size, 0, none⟩ = some (.int .i64 0) ∧ wr.cell? ⟨w.heap.size, 1, none⟩ = some (.int .i64 0) ∧ wr.frozen? ⟨w.heap.size, 0, none⟩ = false ∧ wr.frozen? ⟨w.heap.size, 1, none⟩ = false ∧ w.heap.size + 1 < wr.heap.size ∧ Below w.heap.size w wr) (fun i _ => n - (RowKit.intOf i).toNat)
  case atStart =>
    refine ⟨0, (0, 0), Nat.zero_le _, rfl, Lib.hid rfl, Lib.hid (by simp), ?_, ?_, ?_, ?_, ?_, ?_, ?_, ?_, ?_, ?_⟩
    all_goals first | (simp; done) | exact below_al2 w _ _
  case round =>
    obtain ⟨k, ⟨a0, a1⟩, hk, rfl, ha, hDa, c0, c1, f0, f1, d0, d1, e0, e1, hz, hbr⟩ := hrel
    have hz0 : w.heap.size < wr.heap.size := by omega
    have hgw : g < wr.heap.size := by omega
    dsimp only at c0 c1
    by_cases hlt : k < n
    · have hkl : k < xs.length := by rw [Hn.out]; exact hlt
      obtain ⟨⟨p0, p1⟩, hp⟩ : ∃ p, xs[k]? = some p := ⟨_, List.getElem?_eq_getElem hkl⟩
      have hpS : spB p0 p1 = true := HX.out _ (List.mem_of_getElem? hp)
      have v1 := Lib.hid (sapValid_any p0 p1)
      rw [hpS] at v1
      obtain ⟨q0, q1⟩ := (HR.out.below hbr hg) k _ hp
      obtain ⟨r1, r2, r3, r4⟩ := spB_of hpS
      obtain ⟨r5, r6, r7, r8⟩ := hDa.out
      have haq : Hid ((a0 + p0, a1 + p1) = suU (xs.take (k + 1))) := Lib.hid (by rw [List.take_add_one, hp, show (some (p0, p1)).toList = [(p0, p1)] from rfl, suU_snoc, ← ha.out]; rfl)
      have hDq : Hid (0 ≤ a0 + p0 ∧ a0 + p0 ≤ 10000000000000 * ((k + 1 : Nat) : Int) ∧ 0 ≤ a1 + p1 ∧ a1 + p1 ≤ 10000000000000 * ((k + 1 : Nat) : Int)) := Lib.hid ⟨by omega, by omega, by omega, by omega⟩
      have s0 : IntKind.i64.wrap (a0 + p0) = a0 + p0 := IntWalk.i64_in _ (by omega)
      have s1 : IntKind.i64.wrap (a1 + p1) = a1 + p1 := IntWalk.i64_in _ (by omega)
      clear hp r1 r2 r3 r4 r5 r6 r7 r8 hDa ha hpS
      dsimp only at q0 q1
      go_wp2_with fail
      refine (v1.out _).mono ?_
      rintro e w1 ⟨rfl, hb1⟩
      have x0 := cell_next hb1 (b := wr.heap.size) (o := 0) (by simp) (v := some (.int .i64 p0)) (by simp [go_sem])
      have x1 := cell_next hb1 (b := wr.heap.size) (o := 1) (by simp) (v := some (.int .i64 p1)) (by simp [go_sem])
      have hB1 := below1 hb1
      have hz1 : wr.heap.size < w1.heap.size := by have := hb1.size; simp at this; omega
      replace c0 := cell_next hB1 hz c0
      replace c1 := cell_next hB1 hz c1
      replace f0 := frozen_next hB1 hz f0
      replace f1 := frozen_next hB1 hz f1
      replace d0 := cell_next hB1 hz0 d0
      replace d1 := cell_next hB1 hz0 d1
      replace e0 := frozen_next hB1 hz0 e0
      replace e1 := frozen_next hB1 hz0 e1
      have hne : w.heap.size + 1 ≠ wr.heap.size := by omega
      replace hbr := hbr.trans (hB1.mono (by omega))
      clear hb1 hB1 q0 q1 v1
      go_wp2_with fail
      go_roundw
      case rel =>
        refine ⟨k + 1, (a0 + p0, a1 + p1), by omega, by go_num, haq, hDq, ?_, ?_, ?_, ?_, ?_, ?_, ?_, ?_, by simp; omega, ((hbr.setCell (p := ⟨w.heap.size + 1, 0, none⟩) (by simp) _).setCell (p := ⟨w.heap.size + 1, 1, none⟩) (by simp) _)⟩
        all_goals simp [go_sem, *]
      case measure => simp [RowKit.intOf]; omega
    · obtain rfl : k = n := by omega
      have hfin : (a0, a1) = suU xs := by rw [ha.out, List.take_of_length_le (by rw [Hn.out]; omega)]
      have Hfin := Lib.hid hfin
      have v1 := Lib.hid (sapValid_any a0 a1)
      rw [show spB a0 a1 = true from by have h := HS.out; rw [← hfin] at h; exact h] at v1
      clear hfin ha hDa
      go_wp2_with fail
      refine (v1.out _).mono ?_
      rintro e w1 ⟨rfl, hb1⟩
      replace c0 := cell_next hb1 hz c0
      replace c1 := cell_next hb1 hz c1
      replace d0 := cell_next hb1 hz0 d0
      replace d1 := cell_next hb1 hz0 d1
      replace e0 := frozen_next hb1 hz0 e0
      replace e1 := frozen_next hb1 hz0 e1
      replace hbr := hbr.trans (hb1.mono (by omega))
      clear hb1 v1 f0 f1
      go_wp2_with fail
      refine bodyPost_ret (v := .tuple #[.agg #[.int .i64 a0, .int .i64 a1], .int .i64 0]) (by simp [results, Try.results8, go_sem, *]) rfl ⟨by rw [← Hfin.out], ?_⟩
      exact (hbr.setCell (by simp) _).setCell (by simp) _
end Go.Proofs.Ytloddjjmoaljhaa

