/- Contracts: C27, C13, R1, joined. -/
import Derived.Test.YtgklpbgdimkhaaaGreatKA4
import Derived.Test.YtgklpbgdimkhaaaGreatKA3
import Derived.Deep.QuietTactic
import Derived.BigQuiet
import Derived.Test.YtgklpbgdimkhaaaGreatT1
namespace Go.Proofs.YtgklpbgdimkhaaaGreat
open Go.RowKit Go.Lib Go.Shelf
set_option linter.unusedVariables false
set_option linter.unusedSimpArgs false
attribute [local go_sem ↓] Go.wp_at_zero Go.wp_at_succ

open Go.RowKit Go.Lib Go.Shelf
set_option linter.unusedVariables false
set_option linter.unusedSimpArgs false
attribute [local go_sem ↓] Go.wp_at_zero Go.wp_at_succ

theorem keep3 {w W W' : World} {b B : Nat} {x y : Option Value} (hb : Below W.heap.size W W') (h : W.cell? ⟨b, 0, none⟩ = x ∧ W.cell? ⟨b, 1, none⟩ = y ∧ b < W.heap.size ∧ Kp B w W) :
    W'.cell? ⟨b, 0, none⟩ = x ∧ W'.cell? ⟨b, 1, none⟩ = y ∧ b < W'.heap.size ∧ Kp B w W' := by
  obtain ⟨h1, h2, h4, h3⟩ := h
  exact ⟨cell_next hb h4 h1, cell_next hb h4 h2, Nat.lt_of_lt_of_le h4 hb.size, h3.next h3.1.size hb⟩
theorem keep3_set {w W : World} {b B : Nat} {x y : Option Value} {u v : Value} (hB : b ≠ B) (hw : w.heap.size ≤ B) (h : W.cell? ⟨b, 0, none⟩ = x ∧ W.cell? ⟨b, 1, none⟩ = y ∧ b < W.heap.size ∧ Kp B w W) :
    ((W.setCell ⟨B, 0, none⟩ u).setCell ⟨B, 1, none⟩ v).cell? ⟨b, 0, none⟩ = x ∧ ((W.setCell ⟨B, 0, none⟩ u).setCell ⟨B, 1, none⟩ v).cell? ⟨b, 1, none⟩ = y ∧ b < ((W.setCell ⟨B, 0, none⟩ u).setCell ⟨B, 1, none⟩ v).heap.size ∧ Kp B w ((W.setCell ⟨B, 0, none⟩ u).setCell ⟨B, 1, none⟩ v) := by
  obtain ⟨h1, h2, h4, h3⟩ := h
  refine ⟨?_, ?_, by simpa using h4, h3.set hw u v⟩
  · rw [World.cell?_setCell_other _ _ _ _ (by intro e; injection e; omega), World.cell?_setCell_other _ _ _ _ (by intro e; injection e; omega)]; exact h1
  · rw [World.cell?_setCell_other _ _ _ _ (by intro e; injection e; omega), World.cell?_setCell_other _ _ _ _ (by intro e; injection e; omega)]; exact h2

/-- what Brix returns -/
def brE (a s : Int) : Int := if spB a s then (if a + s = 0 then 7 else 0) else 2
def brL (a s : Int) : Int := if brE a s = 0 then qLo s 10000 (a + s) else 0
def brH (a s : Int) : Int := if brE a s = 0 then qHi s 10000 (a + s) else 0
set_option maxRecDepth 20000 in
set_option maxHeartbeats 1000000 in
theorem brix_any (a s : Int) (w : World) :
    Calls Tryz.prog 92 #[.agg #[.int .i64 a, .int .i64 s]] w fun e w' => e = .returned (.tuple #[.agg #[.int .i64 (brL a s), .int .i64 (brH a s)], .int .i64 (brE a s)]) ∧ Below w.heap.size w w' := by
  have c1 := Lib.hid (sapValid_any a s)
  have eE : Hid (brE a s = if spB a s then (if a + s = 0 then 7 else 0) else 2) := Lib.hid rfl
  have eL : Hid (brL a s = if brE a s = 0 then qLo s 10000 (a + s) else 0) := Lib.hid rfl
  have eH : Hid (brH a s = if brE a s = 0 then qHi s 10000 (a + s) else 0) := Lib.hid rfl
  by_cases hv : spB a s = true
  · have c2 : Hid (∀ w, Calls Tryz.prog 118 #[.agg #[.int .i64 a, .int .i64 s]] w fun e w' => e = .returned (.int .i64 (a + s)) ∧ Below w.heap.size w w') := Lib.hid (sapMass_any a s hv)
    obtain ⟨a1, a2, s1, s2⟩ := spB_of hv
    have hm1 : 0 ≤ a + s := by omega
    have hm2 : a + s ≤ 2000000000000 := by omega
    rw [hv] at c1 eE
    clear hv
    simp only [if_true] at eE
    have c3 : Hid (a + s ≠ 0 → ∀ w, Calls Tryz.prog 109 #[.agg #[.int .i64 s, .int .i64 10000, .int .i64 (a + s)]] w fun e w' => e = .returned (.agg #[.int .i64 (qLo s 10000 (a + s)), .int .i64 (qHi s 10000 (a + s))]) ∧ Below w.heap.size w w') := Lib.hid fun h0 w =>
      around_small s 10000 (a + s) ⟨by omega, by omega⟩ ⟨by omega, by omega⟩ ⟨by omega, by omega⟩ h0 (by rw [show Int.natAbs 10000 = 10000 from rfl]; omega) w
    generalize brL a s = rl at *
    generalize brH a s = rh at *
    generalize brE a s = re at *
    generalize qLo s 10000 (a + s) = ql at *
    generalize qHi s 10000 (a + s) = qh at *
    generalize a + s = m at *
    by_cases h0 : m = 0
    · subst h0
      have e := eE.out
      rw [if_pos rfl] at e
      have e1 := eL.out
      have e2 := eH.out
      rw [e, if_neg (by omega)] at e1 e2
      have E := Lib.hid e
      have E1 := Lib.hid e1
      have E2 := Lib.hid e2
      clear e e1 e2 c3
      go_enter Tryz.func92, Tryz.ntmps92
      go_wp2_with fail
      refine (c1.out _).mono ?_
      rintro e w1 ⟨rfl, hb1⟩
      have s0 := cell_next hb1 (b := w.heap.size + 1 + 1) (o := 0) (by simp <;> omega) (v := some (.int .i64 a)) (by simp [go_sem])
      have s1' := cell_next hb1 (b := w.heap.size + 1 + 1) (o := 1) (by simp <;> omega) (v := some (.int .i64 s)) (by simp [go_sem])
      have r0 := cell_next hb1 (b := w.heap.size + 1) (o := 0) (by simp <;> omega) (v := some (.int .i64 0)) (by simp [go_sem])
      have r1 := cell_next hb1 (b := w.heap.size + 1) (o := 1) (by simp <;> omega) (v := some (.int .i64 0)) (by simp [go_sem])
      have f0 := frozen_next hb1 (b := w.heap.size + 1) (o := 0) (by simp <;> omega) (v := false) (by simp [go_sem])
      have f1 := frozen_next hb1 (b := w.heap.size + 1) (o := 1) (by simp <;> omega) (v := false) (by simp [go_sem])
      have hz1 : w.heap.size + 1 < w1.heap.size := by have := hb1.size; simp at this; omega
      have hB := below3 hb1
      clear hb1
      go_wp2_with fail
      refine (c2.out _).mono ?_
      rintro e w2 ⟨rfl, hb2⟩
      replace r0 := cell_next hb2 hz1 r0
      replace r1 := cell_next hb2 hz1 r1
      replace f0 := frozen_next hb2 hz1 f0
      replace f1 := frozen_next hb2 hz1 f1
      replace hB := hB.trans (hb2.mono hB.size)
      clear hb2 s0 s1'
      go_wp2_with fail
      refine bodyPost_ret (v := .tuple #[.agg #[.int .i64 0, .int .i64 0], .int .i64 7]) (by simp [results, Tryz.results92, go_sem, r0, r1, f0, f1]) rfl ⟨by rw [E.out, E1.out, E2.out], ?_⟩
      exact (hB.setCell (p := ⟨w.heap.size + 1, 0, none⟩) (Nat.le_succ _) _).setCell (p := ⟨w.heap.size + 1, 1, none⟩) (Nat.le_succ _) _
    · have e := eE.out
      rw [if_neg h0] at e
      have e1 := eL.out
      have e2 := eH.out
      rw [if_pos e] at e1 e2
      have E := Lib.hid e
      have E1 := Lib.hid e1
      have E2 := Lib.hid e2
      replace c3 := Lib.hid (c3.out h0)
      have hm0 : (m == 0) = false := by simpa using h0
      clear e e1 e2 h0
      go_enter Tryz.func92, Tryz.ntmps92
      go_wp2_with fail
      refine (c1.out _).mono ?_
      rintro e w1 ⟨rfl, hb1⟩
      have s0 := cell_next hb1 (b := w.heap.size + 1 + 1) (o := 0) (by simp <;> omega) (v := some (.int .i64 a)) (by simp [go_sem])
      have s1' := cell_next hb1 (b := w.heap.size + 1 + 1) (o := 1) (by simp <;> omega) (v := some (.int .i64 s)) (by simp [go_sem])
      have hS : w1.cell? ⟨w.heap.size + 1 + 1, 0, none⟩ = some (.int .i64 a) ∧ w1.cell? ⟨w.heap.size + 1 + 1, 1, none⟩ = some (.int .i64 s) ∧ w.heap.size + 1 + 1 < w1.heap.size ∧ Kp (w.heap.size + 1) w w1 :=
        ⟨s0, s1', by have := hb1.size; simp at this; omega, below3 hb1, by have := hb1.size; simp at this; omega, ⟨_, cell_next hb1 (b := w.heap.size + 1) (o := 0) (by simp <;> omega) (v := some (.int .i64 0)) (by simp [go_sem])⟩, ⟨_, cell_next hb1 (b := w.heap.size + 1) (o := 1) (by simp <;> omega) (v := some (.int .i64 0)) (by simp [go_sem])⟩, frozen_next hb1 (b := w.heap.size + 1) (o := 0) (by simp <;> omega) (v := false) (by simp [go_sem]), frozen_next hb1 (b := w.heap.size + 1) (o := 1) (by simp <;> omega) (v := false) (by simp [go_sem])⟩
      have HS := Lib.hid hS
      clear hb1 hS
      go_wp2_with fail
      refine (c2.out _).mono ?_
      rintro e w2 ⟨rfl, hb2⟩
      have hS := keep3 hb2 HS.out
      clear hb2 s0 s1' HS
      go_wp2_with fail
      refine wp_region_held_drew (S := fun W' => W'.cell? ⟨w.heap.size + 1 + 1, 0, none⟩ = some (.int .i64 a) ∧ W'.cell? ⟨w.heap.size + 1 + 1, 1, none⟩ = some (.int .i64 s) ∧ w.heap.size + 1 + 1 < W'.heap.size ∧ Kp (w.heap.size + 1) w W') (by kernel_rfl) ?_ (fun hHeld => ?_)
      focus (exact keep3 (Below.drew (Below.refl _ _)) hS)
      refine tq 0 15 ?_ ?_ ?_; rotate_left; (focus intro w h; (try dsimp only at h); go_simp; try with_reducible rfl); try simp only [sA, sB, sC]
      refine tq 1 16 ?_ ?_ ?_; rotate_left; (focus intro w h; (try dsimp only at h); go_simp; try with_reducible rfl); try simp only [sA, sB, sC]
      refine tq 2 17 ?_ ?_ ?_; rotate_left; (focus intro w h; (try dsimp only at h); go_simp; try with_reducible rfl); try simp only [sA, sB, sC]
      refine tq 3 18 ?_ ?_ ?_; rotate_left; (focus intro w h; (try dsimp only at h); go_simp; try with_reducible rfl); try simp only [sA, sB, sC]
      refine rd1 4 (fun K hK => ?_)
      skip
      go_simp
      refine (c2.out _).mono ?_; rintro e w4 ⟨rfl, hb4⟩
      refine hK.out _ _ ?_ (fun hHeld => ?_)
      focus (exact keep3 hb4 hHeld)
      clear hK K
      try simp only [Act.put, sA, sB, sC]
      refine rd1 5 (fun K hK => ?_)
      skip
      go_simp
      skip
      refine hK.out _ _ ?_ (fun hHeld => ?_)
      focus (exact keep3 ((Below.refl _ _).alloc (Nat.le_refl _) _) hHeld)
      clear hK K
      try simp only [Act.put, sA, sB, sC]
      refine rd1 6 (fun K hK => ?_)
      skip
      go_simp
      refine (quotientOf3 s 10000 m _ _ (by simp) (by simp) (by simp) (by simp)).mono ?_; rintro e w6 ⟨rfl, hb6⟩
      refine hK.out _ _ ?_ (fun hHeld => ?_)
      focus (exact keep3 hb6 hHeld)
      clear hK K
      try simp only [Act.put, sA, sB, sC]
      refine rd1 7 (fun K hK => ?_)
      skip
      go_simp
      refine (c3.out _).mono ?_; rintro e w7 ⟨rfl, hb7⟩
      refine hK.out _ _ ?_ (fun hHeld => ?_)
      focus (exact keep3 hb7 hHeld)
      clear hK K
      try simp only [Act.put, sA, sB, sC]
      refine rd1 8 (fun K hK => ?_)
      have hKeep := hHeld; obtain ⟨_, _, _, kb, ksz, ⟨v0, k0⟩, ⟨v1, k1⟩, kf0, kf1⟩ := hHeld
      go_simp
      skip
      refine hK.out _ _ ?_ (fun hHeld => ?_)
      focus (exact keep3_set (by omega) (Nat.le_succ _) hKeep)
      clear hK K
      try simp only [Act.put, sA, sB, sC]
      refine tq 9 3 ?_ ?_ ?_; rotate_left; (focus intro w h; (try dsimp only at h); go_simp; try with_reducible rfl); try simp only [sA, sB, sC]
      refine wpAnyH_done (by kernel_rfl) ?_ _
      obtain ⟨_, _, _, hkk, _⟩ := hHeld
      go_wp2_with fail
      refine bodyPost_ret (v := .tuple #[.agg #[.int .i64 ql, .int .i64 qh], .int .i64 0]) (by simp [results, Tryz.results92, go_sem, k0, k1]) rfl ⟨by rw [E.out, E1.out, E2.out], hkk⟩
  · have hvf : spB a s = false := by simpa using hv
    rw [hvf] at c1
    have e := eE.out
    rw [hvf, if_neg (by simp)] at e
    have e1 := eL.out
    have e2 := eH.out
    rw [e, if_neg (by omega)] at e1 e2
    have E := Lib.hid e
    have E1 := Lib.hid e1
    have E2 := Lib.hid e2
    clear e e1 e2 hv hvf eE eL eH
    go_enter Tryz.func92, Tryz.ntmps92
    go_wp2_with fail
    refine (c1.out _).mono ?_
    rintro e w1 ⟨rfl, hb1⟩
    have r0 := cell_next hb1 (b := w.heap.size + 1) (o := 0) (by simp <;> omega) (v := some (.int .i64 0)) (by simp [go_sem])
    have r1 := cell_next hb1 (b := w.heap.size + 1) (o := 1) (by simp <;> omega) (v := some (.int .i64 0)) (by simp [go_sem])
    have f0 := frozen_next hb1 (b := w.heap.size + 1) (o := 0) (by simp <;> omega) (v := false) (by simp [go_sem])
    have f1 := frozen_next hb1 (b := w.heap.size + 1) (o := 1) (by simp <;> omega) (v := false) (by simp [go_sem])
    have hB := below3 hb1
    clear hb1
    go_wp2_with fail
    refine bodyPost_ret (v := .tuple #[.agg #[.int .i64 0, .int .i64 0], .int .i64 2]) (by simp [results, Tryz.results92, go_sem, r0, r1, f0, f1]) rfl ⟨by rw [E.out, E1.out, E2.out], ?_⟩
    exact (hB.setCell (p := ⟨w.heap.size + 1, 0, none⟩) (Nat.le_succ _) _).setCell (p := ⟨w.heap.size + 1, 1, none⟩) (Nat.le_succ _) _

open Go.RowKit Go.Lib Go.Shelf
set_option linter.unusedVariables false
set_option linter.unusedSimpArgs false
attribute [local go_sem ↓] Go.wp_at_zero Go.wp_at_succ
end Go.Proofs.YtgklpbgdimkhaaaGreat
