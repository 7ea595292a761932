/- The walk of the statement on sap behind rounds: the Go text returns true. -/
import Derived.Test.YtbmjkmepjggkfaaU8
namespace Go.Proofs.Ytbmjkmepjggkfaa
open Go.RowKit Go.Lib
set_option linter.unusedVariables false
set_option linter.unusedSimpArgs false
attribute [local go_sem ↓] Go.wp_at_zero Go.wp_at_succ

theorem run_min2 {P : Program} (tys : Array TypeId) (ty : TypeId) (k : IntKind) (x y : Int) (w : World) : (Builtin.min_ tys ty #[.int k x, .int k y]).run P w = .ok (.int k (min x y)) w := by
  simp [Builtin.min_, Builtin.min2]
  split <;> omega
theorem run_max2 {P : Program} (tys : Array TypeId) (ty : TypeId) (k : IntKind) (x y : Int) (w : World) : (Builtin.max_ tys ty #[.int k x, .int k y]).run P w = .ok (.int k (max x y)) w := by
  simp [Builtin.max_, Builtin.max2]
  split <;> omega
theorem below5 {w w1 : World} {o p q r s : Obj} (h : Below (((((w.alloc o).alloc p).alloc q).alloc r).alloc s).heap.size (((((w.alloc o).alloc p).alloc q).alloc r).alloc s) w1) : Below w.heap.size w w1 := below1 (below4 h)
theorem below_undrw {n k : Nat} {W W' : World} (h : Below n (W.drewN k) W') : Below n W W' := ⟨h.os, h.tape, h.output, h.size, h.block⟩
theorem mix2_at (g cp : Nat) (a b c d x y : Nat) (w : World) (hg : g < w.heap.size) (h1 : a + c = x) (h2 : b + d = y) (hx : x ≤ 1000000000000) (hy : y ≤ 1000000000000) (c0 : w.cell? ⟨g, 0, none⟩ = some (.int .i64 (a : Int))) (c1 : w.cell? ⟨g, 1, none⟩ = some (.int .i64 (b : Int))) (c2 : w.cell? ⟨g, 2, none⟩ = some (.int .i64 (c : Int))) (c3 : w.cell? ⟨g, 3, none⟩ = some (.int .i64 (d : Int))) :
    Calls Try.prog 39 #[.slice (some ⟨g, 0, none⟩) 2 cp] w fun e w' => e = .returned (.tuple #[.agg #[.int .i64 (x : Int), .int .i64 (y : Int)], .int .i64 0]) ∧ Below w.heap.size w w' := by
  have e : sumP [((a : Int), (b : Int)), ((c : Int), (d : Int))] = ((x : Int), (y : Int)) := by simp [sumP, addP]; omega
  have h := mix_ok g 0 [((a : Int), (b : Int)), ((c : Int), (d : Int))] cp w (by intro p hp; rcases List.mem_cons.1 hp with rfl | hp; simp [spB]; omega; rcases List.mem_cons.1 hp with rfl | hp; simp [spB]; omega; cases hp) hg (by
    intro k p hp
    rcases k with _ | _ | k
    · simp at hp; subst hp; exact ⟨c0, c1⟩
    · simp at hp; subst hp; exact ⟨c2, c3⟩
    · simp at hp) (by simp) (by rw [e]; simp [spB]; omega)
  rw [e] at h
  exact h

set_option maxRecDepth 100000 in
set_option maxHeartbeats 8000000 in
theorem conc_walk (u0 u1 v0 v1 v2 v3 : Nat) (hu0 : u0 ≤ 4294967295) (hu1 : u1 ≤ 4294967295) (hv0 : v0 ≤ 65535) (hv1 : v1 ≤ 65535) (hv2 : v2 ≤ 65535) (hv3 : v3 ≤ 65535) (w : World) :
    Calls Try.prog 11 #[.agg #[.int .u32 (u0 : Int), .int .u32 (u1 : Int)], .agg #[.int .u16 (v0 : Int), .int .u16 (v1 : Int), .int .u16 (v2 : Int), .int .u16 (v3 : Int)]] w fun e w' => e = .returned (.bool true) ∧ Below w.heap.size w w' := by
  have HL := Lib.hid linkVat_any
  have rmin := @run_min2 Try.prog
  have rmax := @run_max2 Try.prog
  have x0 := wrapI u0 (by omega)
  have x1 := wrapI u1 (by omega)
  have x2 := wrapI v0 (by omega)
  have x3 := wrapI v1 (by omega)
  have x4 := wrapI v2 (by omega)
  have x5 := wrapI v3 (by omega)
  obtain ⟨a, ha⟩ : ∃ a, 1 + u0 = a := ⟨_, rfl⟩
  obtain ⟨s, hs⟩ : ∃ s, 1 + u1 = s := ⟨_, rfl⟩
  obtain ⟨t, ht⟩ : ∃ t, v0 % 10001 = t := ⟨_, rfl⟩
  obtain ⟨p, hp⟩ : ∃ p, v1 % 10001 = p := ⟨_, rfl⟩
  obtain ⟨R, hR⟩ : ∃ R, v2 % 20 = R := ⟨_, rfl⟩
  obtain ⟨m, hm⟩ : ∃ m, v3 % 5000 = m := ⟨_, rfl⟩
  have y0 : IntKind.i64.wrap (1 + (u0 : Int)) = (a : Int) := by rw [show (1 : Int) + (u0 : Int) = (a : Int) from by omega]; exact wrapI _ (by omega)
  have y1 : IntKind.i64.wrap (1 + (u1 : Int)) = (s : Int) := by rw [show (1 : Int) + (u1 : Int) = (s : Int) from by omega]; exact wrapI _ (by omega)
  have y2 : Int.tmod (v0 : Int) 10001 = (t : Int) := by rw [Int.tmod_eq_emod_of_nonneg (by omega)]; omega
  have y3 : Int.tmod (v1 : Int) 10001 = (p : Int) := by rw [Int.tmod_eq_emod_of_nonneg (by omega)]; omega
  have y4 : Int.tmod (v2 : Int) 20 = (R : Int) := by rw [Int.tmod_eq_emod_of_nonneg (by omega)]; omega
  have y5 : Int.tmod (v3 : Int) 5000 = (m : Int) := by rw [Int.tmod_eq_emod_of_nonneg (by omega)]; omega
  have z2 := wrapI t (by omega)
  have z3 := wrapI p (by omega)
  have z4 := wrapI R (by omega)
  have z5 := wrapI m (by omega)
  have bt : t ≤ 10000 := by omega
  have bp : p ≤ 10000 := by omega
  have bR : R ≤ 200 := by omega
  have bm : m ≤ 5000 := by omega
  have ba : a ≤ 4294967296 := by omega
  have bs : s ≤ 4294967296 := by omega
  have ba0 : 0 < a := by omega
  have bs0 : 0 < s := by omega
  have HC := Lib.hid (conc_of a s t p R ba0 (by omega) bs0 (by omega) bt bp)
  have c1 := Lib.hid (rounds_ok a s t p R (by omega) (by omega) bt bp bR)
  clear ha hs ht hp hR hm hu0 hu1 hv0 hv1 hv2 hv3
  generalize (rk t p (a, s) R).1 = K1 at *
  generalize (rk t p (a, s) R).2 = K2 at *
  generalize a - K1 = G1 at *
  generalize s - K2 = G2 at *
  have c2 := Lib.hid (fun (W : World) (g cp : Nat) (hg : g < W.heap.size) => mix2_at g cp K1 K2 G1 G2 a s W hg HC.out.hw HC.out.hs (by omega) (by omega))
  have c3 := Lib.hid (brix_any (a : Int) (s : Int))
  rw [HC.out.e0] at c3
  have bK1 : K1 ≤ a := by have := HC.out.hw; omega
  have bK2 : K2 ≤ s := by have := HC.out.hs; omega
  obtain ⟨M, hM⟩ : ∃ M, K1 + K2 = M := ⟨_, rfl⟩
  have y6 : IntKind.i64.wrap ((K1 : Int) + (K2 : Int)) = (M : Int) := by rw [show (K1 : Int) + (K2 : Int) = (M : Int) from by omega]; exact wrapI _ (by omega)
  have t1 : decide ((K2 : Int) < 0) = false := by simp
  have t2 : decide ((K1 : Int) < 0) = false := by simp
  have HM := Lib.hid hM
  clear hM
  rcases Nat.eq_zero_or_pos M with hz | hz
  · have t3 : ((M : Int) == 0) = true := by simp; omega
    obtain ⟨h1, h2⟩ := HC.out.hz (by rw [HM.out]; omega)
    have t4 : decide ((0 : Int) < (p : Int)) = true := by simp; omega
    have t5 : ((t : Int) == 10000) = true := by simp; omega
    clear h2 ba bs ba0 bs0 bt bp bR bm bK1 bK2 hz c3
    go_enter Try.func11, Try.ntmps11
    go_wp2_with fail
    go_quiet (fail)
    go_wp2_with fail
    refine (c1.out _).mono ?_
    rintro e W1 ⟨rfl, hb⟩
    replace hb := below_undrw hb
    have vS0 := cell_next hb (b := w.heap.size) (o := 0) (by simp <;> omega) (v := some (.int .u32 (u0 : Int))) (by simp [go_sem])
    have vS1 := cell_next hb (b := w.heap.size) (o := 1) (by simp <;> omega) (v := some (.int .u32 (u1 : Int))) (by simp [go_sem])
    have nvS : w.heap.size < W1.heap.size := by have := hb.size; simp at this; omega
    have vX0 := cell_next hb (b := w.heap.size + 1) (o := 0) (by simp <;> omega) (v := some (.int .u16 (v0 : Int))) (by simp [go_sem])
    have vX1 := cell_next hb (b := w.heap.size + 1) (o := 1) (by simp <;> omega) (v := some (.int .u16 (v1 : Int))) (by simp [go_sem])
    have vX2 := cell_next hb (b := w.heap.size + 1) (o := 2) (by simp <;> omega) (v := some (.int .u16 (v2 : Int))) (by simp [go_sem])
    have vX3 := cell_next hb (b := w.heap.size + 1) (o := 3) (by simp <;> omega) (v := some (.int .u16 (v3 : Int))) (by simp [go_sem])
    have nvX : w.heap.size + 1 < W1.heap.size := by have := hb.size; simp at this; omega
    have vA0 := cell_next hb (b := w.heap.size + 1 + 1) (o := 0) (by simp <;> omega) (v := some (.int .i64 (a : Int))) (by simp [go_sem])
    have vA1 := cell_next hb (b := w.heap.size + 1 + 1) (o := 1) (by simp <;> omega) (v := some (.int .i64 (s : Int))) (by simp [go_sem])
    have nvA : w.heap.size + 1 + 1 < W1.heap.size := by have := hb.size; simp at this; omega
    have hB := (below3 hb)
    clear hb
    go_wp2_with fail
    refine (c2.out _ _ _ (by simp) (by simp [go_sem]) (by simp [go_sem]) (by simp [go_sem]) (by simp [go_sem])).mono ?_
    rintro e W2 ⟨rfl, hb⟩
    replace vS0 := cell_next (below3 hb) nvS vS0
    replace vS1 := cell_next (below3 hb) nvS vS1
    replace nvS := Nat.lt_of_lt_of_le nvS (below3 hb).size
    replace vX0 := cell_next (below3 hb) nvX vX0
    replace vX1 := cell_next (below3 hb) nvX vX1
    replace vX2 := cell_next (below3 hb) nvX vX2
    replace vX3 := cell_next (below3 hb) nvX vX3
    replace nvX := Nat.lt_of_lt_of_le nvX (below3 hb).size
    replace vA0 := cell_next (below3 hb) nvA vA0
    replace vA1 := cell_next (below3 hb) nvA vA1
    replace nvA := Nat.lt_of_lt_of_le nvA (below3 hb).size
    have vK0 := cell_next hb (b := W1.heap.size) (o := 0) (by simp <;> omega) (v := some (.int .i64 (K1 : Int))) (by simp [go_sem])
    have vK1 := cell_next hb (b := W1.heap.size) (o := 1) (by simp <;> omega) (v := some (.int .i64 (K2 : Int))) (by simp [go_sem])
    have nvK : W1.heap.size < W2.heap.size := by have := hb.size; simp at this; omega
    have vG0 := cell_next hb (b := W1.heap.size + 1) (o := 0) (by simp <;> omega) (v := some (.int .i64 (G1 : Int))) (by simp [go_sem])
    have vG1 := cell_next hb (b := W1.heap.size + 1) (o := 1) (by simp <;> omega) (v := some (.int .i64 (G2 : Int))) (by simp [go_sem])
    have nvG : W1.heap.size + 1 < W2.heap.size := by have := hb.size; simp at this; omega
    replace hB := hB.trans ((below3 hb).mono hB.size)
    clear hb
    generalize W1.heap.size = q2 at *
    go_wp2_with fail
    refine (HL.out _).mono ?_
    rintro e W3 ⟨rfl, hb⟩
    replace vS0 := cell_next (below1 hb) nvS vS0
    replace vS1 := cell_next (below1 hb) nvS vS1
    replace nvS := Nat.lt_of_lt_of_le nvS (below1 hb).size
    replace vX0 := cell_next (below1 hb) nvX vX0
    replace vX1 := cell_next (below1 hb) nvX vX1
    replace vX2 := cell_next (below1 hb) nvX vX2
    replace vX3 := cell_next (below1 hb) nvX vX3
    replace nvX := Nat.lt_of_lt_of_le nvX (below1 hb).size
    replace vA0 := cell_next (below1 hb) nvA vA0
    replace vA1 := cell_next (below1 hb) nvA vA1
    replace nvA := Nat.lt_of_lt_of_le nvA (below1 hb).size
    replace vK0 := cell_next (below1 hb) nvK vK0
    replace vK1 := cell_next (below1 hb) nvK vK1
    replace nvK := Nat.lt_of_lt_of_le nvK (below1 hb).size
    replace vG0 := cell_next (below1 hb) nvG vG0
    replace vG1 := cell_next (below1 hb) nvG vG1
    replace nvG := Nat.lt_of_lt_of_le nvG (below1 hb).size
    have vB0 := cell_next hb (b := W2.heap.size) (o := 0) (by simp <;> omega) (v := some (.int .i64 (a : Int))) (by simp [go_sem])
    have vB1 := cell_next hb (b := W2.heap.size) (o := 1) (by simp <;> omega) (v := some (.int .i64 (s : Int))) (by simp [go_sem])
    have nvB : W2.heap.size < W3.heap.size := by have := hb.size; simp at this; omega
    replace hB := hB.trans ((below1 hb).mono hB.size)
    clear hb
    generalize W2.heap.size = q3 at *
    go_wp2_with fail
    go_ret
    exact ⟨rfl, hB⟩
  · have t3 : ((M : Int) == 0) = false := by simp; omega
    have hpos : 0 < K1 + K2 := by rw [HM.out]; omega
    obtain ⟨k0, k1, k2, k3⟩ := HC.out.hK hpos
    have h0 := HC.out.h0
    have h1 := HC.out.h1
    have HB := HC.out.hb hpos
    have c4 := Lib.hid (brix_any (K1 : Int) (K2 : Int))
    rw [k1] at c4
    generalize brL (a : Int) (s : Int) = lA at *
    generalize brH (a : Int) (s : Int) = hA at *
    generalize brL (K1 : Int) (K2 : Int) = lK at *
    generalize brH (K1 : Int) (K2 : Int) = hK at *
    have t4 : decide (lK < lA) = false := by simp; omega
    have t5 : decide (hK < hA) = false := by simp; omega
    have y7 : IntKind.i64.wrap (hA + 1) = hA + 1 := IntWalk.i64_in _ (by omega)
    have y8 : IntKind.i64.wrap (hA + 1 + (m : Int)) = hA + 1 + (m : Int) := IntWalk.i64_in _ (by omega)
    obtain ⟨b, hmn⟩ : ∃ b : Nat, min 10000 (hA + 1 + (m : Int)) = (b : Int) := ⟨(min 10000 (hA + 1 + (m : Int))).toNat, by omega⟩
    obtain ⟨B1, B2, B3, B4, B5, B6⟩ := HB b (by omega) (by omega) (by omega)
    have c5 := Lib.hid (boil_any (a : Int) (s : Int) (b : Int))
    rw [B1] at c5
    have c6 := Lib.hid (boil_any (K1 : Int) (K2 : Int) (b : Int))
    rw [B2] at c6
    generalize boilW (a : Int) (s : Int) (b : Int) = more at *
    generalize boilW (K1 : Int) (K2 : Int) (b : Int) = less at *
    have t6 : ((K2 : Int) == 0) = false := by simp; omega
    have t7 : decide (more < less) = false := by simp; omega
    have y9 : IntKind.i64.wrap (more - (G1 : Int)) = more - (G1 : Int) := IntWalk.i64_in _ (by have := HC.out.hw; omega)
    have HB6 := Lib.hid B6
    clear B1 B2 B3 B4 B5 B6 HB k0 k1 k2 k3 h0 h1 hpos ba bs ba0 bs0 bt bR bm bK1 bK2 hz
    rcases Nat.lt_or_ge 0 p with hp | hp
    · have t8 : decide ((0 : Int) < (p : Int)) = true := by simp; omega
      clear HB6 bp
      go_enter Try.func11, Try.ntmps11
      go_wp2_with fail
      go_quiet (fail)
      go_wp2_with fail
      refine (c1.out _).mono ?_
      rintro e W1 ⟨rfl, hb⟩
      replace hb := below_undrw hb
      have vS0 := cell_next hb (b := w.heap.size) (o := 0) (by simp <;> omega) (v := some (.int .u32 (u0 : Int))) (by simp [go_sem])
      have vS1 := cell_next hb (b := w.heap.size) (o := 1) (by simp <;> omega) (v := some (.int .u32 (u1 : Int))) (by simp [go_sem])
      have nvS : w.heap.size < W1.heap.size := by have := hb.size; simp at this; omega
      have vX0 := cell_next hb (b := w.heap.size + 1) (o := 0) (by simp <;> omega) (v := some (.int .u16 (v0 : Int))) (by simp [go_sem])
      have vX1 := cell_next hb (b := w.heap.size + 1) (o := 1) (by simp <;> omega) (v := some (.int .u16 (v1 : Int))) (by simp [go_sem])
      have vX2 := cell_next hb (b := w.heap.size + 1) (o := 2) (by simp <;> omega) (v := some (.int .u16 (v2 : Int))) (by simp [go_sem])
      have vX3 := cell_next hb (b := w.heap.size + 1) (o := 3) (by simp <;> omega) (v := some (.int .u16 (v3 : Int))) (by simp [go_sem])
      have nvX : w.heap.size + 1 < W1.heap.size := by have := hb.size; simp at this; omega
      have vA0 := cell_next hb (b := w.heap.size + 1 + 1) (o := 0) (by simp <;> omega) (v := some (.int .i64 (a : Int))) (by simp [go_sem])
      have vA1 := cell_next hb (b := w.heap.size + 1 + 1) (o := 1) (by simp <;> omega) (v := some (.int .i64 (s : Int))) (by simp [go_sem])
      have nvA : w.heap.size + 1 + 1 < W1.heap.size := by have := hb.size; simp at this; omega
      have hB := (below3 hb)
      clear hb
      go_wp2_with fail
      refine (c2.out _ _ _ (by simp) (by simp [go_sem]) (by simp [go_sem]) (by simp [go_sem]) (by simp [go_sem])).mono ?_
      rintro e W2 ⟨rfl, hb⟩
      replace vS0 := cell_next (below3 hb) nvS vS0
      replace vS1 := cell_next (below3 hb) nvS vS1
      replace nvS := Nat.lt_of_lt_of_le nvS (below3 hb).size
      replace vX0 := cell_next (below3 hb) nvX vX0
      replace vX1 := cell_next (below3 hb) nvX vX1
      replace vX2 := cell_next (below3 hb) nvX vX2
      replace vX3 := cell_next (below3 hb) nvX vX3
      replace nvX := Nat.lt_of_lt_of_le nvX (below3 hb).size
      replace vA0 := cell_next (below3 hb) nvA vA0
      replace vA1 := cell_next (below3 hb) nvA vA1
      replace nvA := Nat.lt_of_lt_of_le nvA (below3 hb).size
      have vK0 := cell_next hb (b := W1.heap.size) (o := 0) (by simp <;> omega) (v := some (.int .i64 (K1 : Int))) (by simp [go_sem])
      have vK1 := cell_next hb (b := W1.heap.size) (o := 1) (by simp <;> omega) (v := some (.int .i64 (K2 : Int))) (by simp [go_sem])
      have nvK : W1.heap.size < W2.heap.size := by have := hb.size; simp at this; omega
      have vG0 := cell_next hb (b := W1.heap.size + 1) (o := 0) (by simp <;> omega) (v := some (.int .i64 (G1 : Int))) (by simp [go_sem])
      have vG1 := cell_next hb (b := W1.heap.size + 1) (o := 1) (by simp <;> omega) (v := some (.int .i64 (G2 : Int))) (by simp [go_sem])
      have nvG : W1.heap.size + 1 < W2.heap.size := by have := hb.size; simp at this; omega
      replace hB := hB.trans ((below3 hb).mono hB.size)
      clear hb
      generalize W1.heap.size = q2 at *
      go_wp2_with fail
      refine (c3.out _).mono ?_
      rintro e W3 ⟨rfl, hb⟩
      replace vS0 := cell_next (below1 hb) nvS vS0
      replace vS1 := cell_next (below1 hb) nvS vS1
      replace nvS := Nat.lt_of_lt_of_le nvS (below1 hb).size
      replace vX0 := cell_next (below1 hb) nvX vX0
      replace vX1 := cell_next (below1 hb) nvX vX1
      replace vX2 := cell_next (below1 hb) nvX vX2
      replace vX3 := cell_next (below1 hb) nvX vX3
      replace nvX := Nat.lt_of_lt_of_le nvX (below1 hb).size
      replace vA0 := cell_next (below1 hb) nvA vA0
      replace vA1 := cell_next (below1 hb) nvA vA1
      replace nvA := Nat.lt_of_lt_of_le nvA (below1 hb).size
      replace vK0 := cell_next (below1 hb) nvK vK0
      replace vK1 := cell_next (below1 hb) nvK vK1
      replace nvK := Nat.lt_of_lt_of_le nvK (below1 hb).size
      replace vG0 := cell_next (below1 hb) nvG vG0
      replace vG1 := cell_next (below1 hb) nvG vG1
      replace nvG := Nat.lt_of_lt_of_le nvG (below1 hb).size
      have vB0 := cell_next hb (b := W2.heap.size) (o := 0) (by simp <;> omega) (v := some (.int .i64 (a : Int))) (by simp [go_sem])
      have vB1 := cell_next hb (b := W2.heap.size) (o := 1) (by simp <;> omega) (v := some (.int .i64 (s : Int))) (by simp [go_sem])
      have nvB : W2.heap.size < W3.heap.size := by have := hb.size; simp at this; omega
      replace hB := hB.trans ((below1 hb).mono hB.size)
      clear hb
      generalize W2.heap.size = q3 at *
      go_wp2_with fail
      refine (c4.out _).mono ?_
      rintro e W4 ⟨rfl, hb⟩
      replace vS0 := cell_next (below1 hb) nvS vS0
      replace vS1 := cell_next (below1 hb) nvS vS1
      replace nvS := Nat.lt_of_lt_of_le nvS (below1 hb).size
      replace vX0 := cell_next (below1 hb) nvX vX0
      replace vX1 := cell_next (below1 hb) nvX vX1
      replace vX2 := cell_next (below1 hb) nvX vX2
      replace vX3 := cell_next (below1 hb) nvX vX3
      replace nvX := Nat.lt_of_lt_of_le nvX (below1 hb).size
      replace vA0 := cell_next (below1 hb) nvA vA0
      replace vA1 := cell_next (below1 hb) nvA vA1
      replace nvA := Nat.lt_of_lt_of_le nvA (below1 hb).size
      replace vK0 := cell_next (below1 hb) nvK vK0
      replace vK1 := cell_next (below1 hb) nvK vK1
      replace nvK := Nat.lt_of_lt_of_le nvK (below1 hb).size
      replace vG0 := cell_next (below1 hb) nvG vG0
      replace vG1 := cell_next (below1 hb) nvG vG1
      replace nvG := Nat.lt_of_lt_of_le nvG (below1 hb).size
      replace vB0 := cell_next (below1 hb) nvB vB0
      replace vB1 := cell_next (below1 hb) nvB vB1
      replace nvB := Nat.lt_of_lt_of_le nvB (below1 hb).size
      have vP0 := cell_next hb (b := W3.heap.size) (o := 0) (by simp <;> omega) (v := some (.int .i64 lA)) (by simp [go_sem])
      have vP1 := cell_next hb (b := W3.heap.size) (o := 1) (by simp <;> omega) (v := some (.int .i64 hA)) (by simp [go_sem])
      have nvP : W3.heap.size < W4.heap.size := by have := hb.size; simp at this; omega
      replace hB := hB.trans ((below1 hb).mono hB.size)
      clear hb
      generalize W3.heap.size = q4 at *
      go_wp2_with fail
      refine (c5.out _).mono ?_
      rintro e W5 ⟨rfl, hb⟩
      replace vS0 := cell_next (below1 hb) nvS vS0
      replace vS1 := cell_next (below1 hb) nvS vS1
      replace nvS := Nat.lt_of_lt_of_le nvS (below1 hb).size
      replace vX0 := cell_next (below1 hb) nvX vX0
      replace vX1 := cell_next (below1 hb) nvX vX1
      replace vX2 := cell_next (below1 hb) nvX vX2
      replace vX3 := cell_next (below1 hb) nvX vX3
      replace nvX := Nat.lt_of_lt_of_le nvX (below1 hb).size
      replace vA0 := cell_next (below1 hb) nvA vA0
      replace vA1 := cell_next (below1 hb) nvA vA1
      replace nvA := Nat.lt_of_lt_of_le nvA (below1 hb).size
      replace vK0 := cell_next (below1 hb) nvK vK0
      replace vK1 := cell_next (below1 hb) nvK vK1
      replace nvK := Nat.lt_of_lt_of_le nvK (below1 hb).size
      replace vG0 := cell_next (below1 hb) nvG vG0
      replace vG1 := cell_next (below1 hb) nvG vG1
      replace nvG := Nat.lt_of_lt_of_le nvG (below1 hb).size
      replace vB0 := cell_next (below1 hb) nvB vB0
      replace vB1 := cell_next (below1 hb) nvB vB1
      replace nvB := Nat.lt_of_lt_of_le nvB (below1 hb).size
      replace vP0 := cell_next (below1 hb) nvP vP0
      replace vP1 := cell_next (below1 hb) nvP vP1
      replace nvP := Nat.lt_of_lt_of_le nvP (below1 hb).size
      have vQ0 := cell_next hb (b := W4.heap.size) (o := 0) (by simp <;> omega) (v := some (.int .i64 lK)) (by simp [go_sem])
      have vQ1 := cell_next hb (b := W4.heap.size) (o := 1) (by simp <;> omega) (v := some (.int .i64 hK)) (by simp [go_sem])
      have nvQ : W4.heap.size < W5.heap.size := by have := hb.size; simp at this; omega
      replace hB := hB.trans ((below1 hb).mono hB.size)
      clear hb
      generalize W4.heap.size = q5 at *
      go_wp2_with fail
      refine (c6.out _).mono ?_
      rintro e W6 ⟨rfl, hb⟩
      replace vS0 := cell_next hb nvS vS0
      replace vS1 := cell_next hb nvS vS1
      replace nvS := Nat.lt_of_lt_of_le nvS hb.size
      replace vX0 := cell_next hb nvX vX0
      replace vX1 := cell_next hb nvX vX1
      replace vX2 := cell_next hb nvX vX2
      replace vX3 := cell_next hb nvX vX3
      replace nvX := Nat.lt_of_lt_of_le nvX hb.size
      replace vA0 := cell_next hb nvA vA0
      replace vA1 := cell_next hb nvA vA1
      replace nvA := Nat.lt_of_lt_of_le nvA hb.size
      replace vK0 := cell_next hb nvK vK0
      replace vK1 := cell_next hb nvK vK1
      replace nvK := Nat.lt_of_lt_of_le nvK hb.size
      replace vG0 := cell_next hb nvG vG0
      replace vG1 := cell_next hb nvG vG1
      replace nvG := Nat.lt_of_lt_of_le nvG hb.size
      replace vB0 := cell_next hb nvB vB0
      replace vB1 := cell_next hb nvB vB1
      replace nvB := Nat.lt_of_lt_of_le nvB hb.size
      replace vP0 := cell_next hb nvP vP0
      replace vP1 := cell_next hb nvP vP1
      replace nvP := Nat.lt_of_lt_of_le nvP hb.size
      replace vQ0 := cell_next hb nvQ vQ0
      replace vQ1 := cell_next hb nvQ vQ1
      replace nvQ := Nat.lt_of_lt_of_le nvQ hb.size
      replace hB := hB.trans (hb.mono hB.size)
      clear hb
      go_wp2_with fail
      refine (HL.out _).mono ?_
      rintro e W7 ⟨rfl, hb⟩
      replace vS0 := cell_next hb nvS vS0
      replace vS1 := cell_next hb nvS vS1
      replace nvS := Nat.lt_of_lt_of_le nvS hb.size
      replace vX0 := cell_next hb nvX vX0
      replace vX1 := cell_next hb nvX vX1
      replace vX2 := cell_next hb nvX vX2
      replace vX3 := cell_next hb nvX vX3
      replace nvX := Nat.lt_of_lt_of_le nvX hb.size
      replace vA0 := cell_next hb nvA vA0
      replace vA1 := cell_next hb nvA vA1
      replace nvA := Nat.lt_of_lt_of_le nvA hb.size
      replace vK0 := cell_next hb nvK vK0
      replace vK1 := cell_next hb nvK vK1
      replace nvK := Nat.lt_of_lt_of_le nvK hb.size
      replace vG0 := cell_next hb nvG vG0
      replace vG1 := cell_next hb nvG vG1
      replace nvG := Nat.lt_of_lt_of_le nvG hb.size
      replace vB0 := cell_next hb nvB vB0
      replace vB1 := cell_next hb nvB vB1
      replace nvB := Nat.lt_of_lt_of_le nvB hb.size
      replace vP0 := cell_next hb nvP vP0
      replace vP1 := cell_next hb nvP vP1
      replace nvP := Nat.lt_of_lt_of_le nvP hb.size
      replace vQ0 := cell_next hb nvQ vQ0
      replace vQ1 := cell_next hb nvQ vQ1
      replace nvQ := Nat.lt_of_lt_of_le nvQ hb.size
      replace hB := hB.trans (hb.mono hB.size)
      clear hb
      go_wp2_with fail
      go_ret
      exact ⟨rfl, hB⟩
    · have t8 : decide ((0 : Int) < (p : Int)) = false := by simp; omega
      have t9 : (less == max 0 (more - (G1 : Int))) = true := by simp; exact HB6.out (by omega)
      have hp0 : ¬ 0 < p := by omega
      clear HB6 hp bp
      go_enter Try.func11, Try.ntmps11
      go_wp2_with fail
      go_quiet (fail)
      go_wp2_with fail
      refine (c1.out _).mono ?_
      rintro e W1 ⟨rfl, hb⟩
      replace hb := below_undrw hb
      have vS0 := cell_next hb (b := w.heap.size) (o := 0) (by simp <;> omega) (v := some (.int .u32 (u0 : Int))) (by simp [go_sem])
      have vS1 := cell_next hb (b := w.heap.size) (o := 1) (by simp <;> omega) (v := some (.int .u32 (u1 : Int))) (by simp [go_sem])
      have nvS : w.heap.size < W1.heap.size := by have := hb.size; simp at this; omega
      have vX0 := cell_next hb (b := w.heap.size + 1) (o := 0) (by simp <;> omega) (v := some (.int .u16 (v0 : Int))) (by simp [go_sem])
      have vX1 := cell_next hb (b := w.heap.size + 1) (o := 1) (by simp <;> omega) (v := some (.int .u16 (v1 : Int))) (by simp [go_sem])
      have vX2 := cell_next hb (b := w.heap.size + 1) (o := 2) (by simp <;> omega) (v := some (.int .u16 (v2 : Int))) (by simp [go_sem])
      have vX3 := cell_next hb (b := w.heap.size + 1) (o := 3) (by simp <;> omega) (v := some (.int .u16 (v3 : Int))) (by simp [go_sem])
      have nvX : w.heap.size + 1 < W1.heap.size := by have := hb.size; simp at this; omega
      have vA0 := cell_next hb (b := w.heap.size + 1 + 1) (o := 0) (by simp <;> omega) (v := some (.int .i64 (a : Int))) (by simp [go_sem])
      have vA1 := cell_next hb (b := w.heap.size + 1 + 1) (o := 1) (by simp <;> omega) (v := some (.int .i64 (s : Int))) (by simp [go_sem])
      have nvA : w.heap.size + 1 + 1 < W1.heap.size := by have := hb.size; simp at this; omega
      have hB := (below3 hb)
      clear hb
      go_wp2_with fail
      refine (c2.out _ _ _ (by simp) (by simp [go_sem]) (by simp [go_sem]) (by simp [go_sem]) (by simp [go_sem])).mono ?_
      rintro e W2 ⟨rfl, hb⟩
      replace vS0 := cell_next (below3 hb) nvS vS0
      replace vS1 := cell_next (below3 hb) nvS vS1
      replace nvS := Nat.lt_of_lt_of_le nvS (below3 hb).size
      replace vX0 := cell_next (below3 hb) nvX vX0
      replace vX1 := cell_next (below3 hb) nvX vX1
      replace vX2 := cell_next (below3 hb) nvX vX2
      replace vX3 := cell_next (below3 hb) nvX vX3
      replace nvX := Nat.lt_of_lt_of_le nvX (below3 hb).size
      replace vA0 := cell_next (below3 hb) nvA vA0
      replace vA1 := cell_next (below3 hb) nvA vA1
      replace nvA := Nat.lt_of_lt_of_le nvA (below3 hb).size
      have vK0 := cell_next hb (b := W1.heap.size) (o := 0) (by simp <;> omega) (v := some (.int .i64 (K1 : Int))) (by simp [go_sem])
      have vK1 := cell_next hb (b := W1.heap.size) (o := 1) (by simp <;> omega) (v := some (.int .i64 (K2 : Int))) (by simp [go_sem])
      have nvK : W1.heap.size < W2.heap.size := by have := hb.size; simp at this; omega
      have vG0 := cell_next hb (b := W1.heap.size + 1) (o := 0) (by simp <;> omega) (v := some (.int .i64 (G1 : Int))) (by simp [go_sem])
      have vG1 := cell_next hb (b := W1.heap.size + 1) (o := 1) (by simp <;> omega) (v := some (.int .i64 (G2 : Int))) (by simp [go_sem])
      have nvG : W1.heap.size + 1 < W2.heap.size := by have := hb.size; simp at this; omega
      replace hB := hB.trans ((below3 hb).mono hB.size)
      clear hb
      generalize W1.heap.size = q2 at *
      go_wp2_with fail
      refine (c3.out _).mono ?_
      rintro e W3 ⟨rfl, hb⟩
      replace vS0 := cell_next (below1 hb) nvS vS0
      replace vS1 := cell_next (below1 hb) nvS vS1
      replace nvS := Nat.lt_of_lt_of_le nvS (below1 hb).size
      replace vX0 := cell_next (below1 hb) nvX vX0
      replace vX1 := cell_next (below1 hb) nvX vX1
      replace vX2 := cell_next (below1 hb) nvX vX2
      replace vX3 := cell_next (below1 hb) nvX vX3
      replace nvX := Nat.lt_of_lt_of_le nvX (below1 hb).size
      replace vA0 := cell_next (below1 hb) nvA vA0
      replace vA1 := cell_next (below1 hb) nvA vA1
      replace nvA := Nat.lt_of_lt_of_le nvA (below1 hb).size
      replace vK0 := cell_next (below1 hb) nvK vK0
      replace vK1 := cell_next (below1 hb) nvK vK1
      replace nvK := Nat.lt_of_lt_of_le nvK (below1 hb).size
      replace vG0 := cell_next (below1 hb) nvG vG0
      replace vG1 := cell_next (below1 hb) nvG vG1
      replace nvG := Nat.lt_of_lt_of_le nvG (below1 hb).size
      have vB0 := cell_next hb (b := W2.heap.size) (o := 0) (by simp <;> omega) (v := some (.int .i64 (a : Int))) (by simp [go_sem])
      have vB1 := cell_next hb (b := W2.heap.size) (o := 1) (by simp <;> omega) (v := some (.int .i64 (s : Int))) (by simp [go_sem])
      have nvB : W2.heap.size < W3.heap.size := by have := hb.size; simp at this; omega
      replace hB := hB.trans ((below1 hb).mono hB.size)
      clear hb
      generalize W2.heap.size = q3 at *
      go_wp2_with fail
      refine (c4.out _).mono ?_
      rintro e W4 ⟨rfl, hb⟩
      replace vS0 := cell_next (below1 hb) nvS vS0
      replace vS1 := cell_next (below1 hb) nvS vS1
      replace nvS := Nat.lt_of_lt_of_le nvS (below1 hb).size
      replace vX0 := cell_next (below1 hb) nvX vX0
      replace vX1 := cell_next (below1 hb) nvX vX1
      replace vX2 := cell_next (below1 hb) nvX vX2
      replace vX3 := cell_next (below1 hb) nvX vX3
      replace nvX := Nat.lt_of_lt_of_le nvX (below1 hb).size
      replace vA0 := cell_next (below1 hb) nvA vA0
      replace vA1 := cell_next (below1 hb) nvA vA1
      replace nvA := Nat.lt_of_lt_of_le nvA (below1 hb).size
      replace vK0 := cell_next (below1 hb) nvK vK0
      replace vK1 := cell_next (below1 hb) nvK vK1
      replace nvK := Nat.lt_of_lt_of_le nvK (below1 hb).size
      replace vG0 := cell_next (below1 hb) nvG vG0
      replace vG1 := cell_next (below1 hb) nvG vG1
      replace nvG := Nat.lt_of_lt_of_le nvG (below1 hb).size
      replace vB0 := cell_next (below1 hb) nvB vB0
      replace vB1 := cell_next (below1 hb) nvB vB1
      replace nvB := Nat.lt_of_lt_of_le nvB (below1 hb).size
      have vP0 := cell_next hb (b := W3.heap.size) (o := 0) (by simp <;> omega) (v := some (.int .i64 lA)) (by simp [go_sem])
      have vP1 := cell_next hb (b := W3.heap.size) (o := 1) (by simp <;> omega) (v := some (.int .i64 hA)) (by simp [go_sem])
      have nvP : W3.heap.size < W4.heap.size := by have := hb.size; simp at this; omega
      replace hB := hB.trans ((below1 hb).mono hB.size)
      clear hb
      generalize W3.heap.size = q4 at *
      go_wp2_with fail
      refine (c5.out _).mono ?_
      rintro e W5 ⟨rfl, hb⟩
      replace vS0 := cell_next (below1 hb) nvS vS0
      replace vS1 := cell_next (below1 hb) nvS vS1
      replace nvS := Nat.lt_of_lt_of_le nvS (below1 hb).size
      replace vX0 := cell_next (below1 hb) nvX vX0
      replace vX1 := cell_next (below1 hb) nvX vX1
      replace vX2 := cell_next (below1 hb) nvX vX2
      replace vX3 := cell_next (below1 hb) nvX vX3
      replace nvX := Nat.lt_of_lt_of_le nvX (below1 hb).size
      replace vA0 := cell_next (below1 hb) nvA vA0
      replace vA1 := cell_next (below1 hb) nvA vA1
      replace nvA := Nat.lt_of_lt_of_le nvA (below1 hb).size
      replace vK0 := cell_next (below1 hb) nvK vK0
      replace vK1 := cell_next (below1 hb) nvK vK1
      replace nvK := Nat.lt_of_lt_of_le nvK (below1 hb).size
      replace vG0 := cell_next (below1 hb) nvG vG0
      replace vG1 := cell_next (below1 hb) nvG vG1
      replace nvG := Nat.lt_of_lt_of_le nvG (below1 hb).size
      replace vB0 := cell_next (below1 hb) nvB vB0
      replace vB1 := cell_next (below1 hb) nvB vB1
      replace nvB := Nat.lt_of_lt_of_le nvB (below1 hb).size
      replace vP0 := cell_next (below1 hb) nvP vP0
      replace vP1 := cell_next (below1 hb) nvP vP1
      replace nvP := Nat.lt_of_lt_of_le nvP (below1 hb).size
      have vQ0 := cell_next hb (b := W4.heap.size) (o := 0) (by simp <;> omega) (v := some (.int .i64 lK)) (by simp [go_sem])
      have vQ1 := cell_next hb (b := W4.heap.size) (o := 1) (by simp <;> omega) (v := some (.int .i64 hK)) (by simp [go_sem])
      have nvQ : W4.heap.size < W5.heap.size := by have := hb.size; simp at this; omega
      replace hB := hB.trans ((below1 hb).mono hB.size)
      clear hb
      generalize W4.heap.size = q5 at *
      go_wp2_with fail
      refine (c6.out _).mono ?_
      rintro e W6 ⟨rfl, hb⟩
      replace vS0 := cell_next hb nvS vS0
      replace vS1 := cell_next hb nvS vS1
      replace nvS := Nat.lt_of_lt_of_le nvS hb.size
      replace vX0 := cell_next hb nvX vX0
      replace vX1 := cell_next hb nvX vX1
      replace vX2 := cell_next hb nvX vX2
      replace vX3 := cell_next hb nvX vX3
      replace nvX := Nat.lt_of_lt_of_le nvX hb.size
      replace vA0 := cell_next hb nvA vA0
      replace vA1 := cell_next hb nvA vA1
      replace nvA := Nat.lt_of_lt_of_le nvA hb.size
      replace vK0 := cell_next hb nvK vK0
      replace vK1 := cell_next hb nvK vK1
      replace nvK := Nat.lt_of_lt_of_le nvK hb.size
      replace vG0 := cell_next hb nvG vG0
      replace vG1 := cell_next hb nvG vG1
      replace nvG := Nat.lt_of_lt_of_le nvG hb.size
      replace vB0 := cell_next hb nvB vB0
      replace vB1 := cell_next hb nvB vB1
      replace nvB := Nat.lt_of_lt_of_le nvB hb.size
      replace vP0 := cell_next hb nvP vP0
      replace vP1 := cell_next hb nvP vP1
      replace nvP := Nat.lt_of_lt_of_le nvP hb.size
      replace vQ0 := cell_next hb nvQ vQ0
      replace vQ1 := cell_next hb nvQ vQ1
      replace nvQ := Nat.lt_of_lt_of_le nvQ hb.size
      replace hB := hB.trans (hb.mono hB.size)
      clear hb
      go_wp2_with fail
      refine (HL.out _).mono ?_
      rintro e W7 ⟨rfl, hb⟩
      replace vS0 := cell_next hb nvS vS0
      replace vS1 := cell_next hb nvS vS1
      replace nvS := Nat.lt_of_lt_of_le nvS hb.size
      replace vX0 := cell_next hb nvX vX0
      replace vX1 := cell_next hb nvX vX1
      replace vX2 := cell_next hb nvX vX2
      replace vX3 := cell_next hb nvX vX3
      replace nvX := Nat.lt_of_lt_of_le nvX hb.size
      replace vA0 := cell_next hb nvA vA0
      replace vA1 := cell_next hb nvA vA1
      replace nvA := Nat.lt_of_lt_of_le nvA hb.size
      replace vK0 := cell_next hb nvK vK0
      replace vK1 := cell_next hb nvK vK1
      replace nvK := Nat.lt_of_lt_of_le nvK hb.size
      replace vG0 := cell_next hb nvG vG0
      replace vG1 := cell_next hb nvG vG1
      replace nvG := Nat.lt_of_lt_of_le nvG hb.size
      replace vB0 := cell_next hb nvB vB0
      replace vB1 := cell_next hb nvB vB1
      replace nvB := Nat.lt_of_lt_of_le nvB hb.size
      replace vP0 := cell_next hb nvP vP0
      replace vP1 := cell_next hb nvP vP1
      replace nvP := Nat.lt_of_lt_of_le nvP hb.size
      replace vQ0 := cell_next hb nvQ vQ0
      replace vQ1 := cell_next hb nvQ vQ1
      replace nvQ := Nat.lt_of_lt_of_le nvQ hb.size
      replace hB := hB.trans (hb.mono hB.size)
      clear hb
      go_wp2_with fail
      go_ret
      exact ⟨rfl, hB⟩
end Go.Proofs.Ytbmjkmepjggkfaa
