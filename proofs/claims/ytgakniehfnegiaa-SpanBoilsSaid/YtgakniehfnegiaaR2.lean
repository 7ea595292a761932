/- Contracts: the reference's function Thin; the walk of the statement on concentrations. -/
import Derived.Test.YtgakniehfnegiaaR1
import Derived.Test.YtgakniehfnegiaaK2
namespace Go.Proofs.Ytgakniehfnegiaa
open Go.RowKit Go.Lib Go.Shelf
set_option linter.unusedVariables false
set_option linter.unusedSimpArgs false
attribute [local go_sem ↓] Go.wp_at_zero Go.wp_at_succ

set_option maxRecDepth 20000 in
set_option maxHeartbeats 1000000 in
theorem rThin_any (a s brix : Int) (w : World) :
    Calls Try.prog 60 #[.agg #[.int .i64 a, .int .i64 s], .int .i64 brix] w fun e w' => e = .returned (.tuple #[.int .i64 (thinW a s brix), .int .i64 (thinE a s brix)]) ∧ Below w.heap.size w w' := by
  have c1 := Lib.hid (rSap_any a s)
  have c4 := Lib.hid (rIn_any brix 1 10000)
  have eC : Hid (cbE a s brix = if spB a s then (if brix < 1 ∨ 10000 < brix then 3 else if s = 0 then 7 else 0) else 2) := Lib.hid rfl
  have eE : Hid (thinE a s brix = if cbE a s brix = 0 then (if s * 10000 / brix - (a + s) < 0 then 7 else if 1000000000000 < a + (s * 10000 / brix - (a + s)) then 10 else 0) else cbE a s brix) := Lib.hid rfl
  have eW : Hid (thinW a s brix = if thinE a s brix = 0 then s * 10000 / brix - (a + s) else 0) := Lib.hid rfl
  generalize thinW a s brix = bw at *
  generalize thinE a s brix = be at *
  generalize cbE a s brix = ce at *
  by_cases hv : spB a s = true
  · obtain ⟨a1, a2, s1, s2⟩ := spB_of hv
    rw [hv] at c1 eC
    clear hv
    simp only [if_true] at eC
    by_cases hb : brix < 1 ∨ 10000 < brix
    · have hc := eC.out
      rw [if_pos hb] at hc
      have ee := eE.out
      rw [hc, if_neg (by omega)] at ee
      have ew := eW.out
      rw [ee, if_neg (by omega)] at ew
      have E1 := Lib.hid ew
      have E2 := Lib.hid ee
      have hi : (decide (1 ≤ brix) && decide (brix ≤ 10000)) = false := by simp; omega
      rw [hi] at c4
      clear hc ew ee hi hb eC eW eE
      go_enter Try.func60, Try.ntmps60
      go_wp2_with fail
      refine (c1.out _).mono ?_
      rintro e w1 ⟨rfl, hb1⟩
      have hB := below1 hb1
      clear hb1
      go_wp2_with fail
      refine (c4.out _).mono ?_
      rintro e w2 ⟨rfl, rfl⟩
      go_wp2_with fail
      go_ret2
      exact ⟨ret_ints2 E1.out.symm E2.out.symm, hB⟩
    · have hi : (decide (1 ≤ brix) && decide (brix ≤ 10000)) = true := by simp; omega
      rw [hi] at c4
      have hc := eC.out
      rw [if_neg hb] at hc
      have b1 : 1 ≤ brix := by omega
      have b2 : brix ≤ 10000 := by omega
      have c2 := Lib.hid (rFloor_any (s * 10000) brix ⟨by omega, by omega⟩ (by omega) (by omega))
      have q1 : 0 ≤ s * 10000 / brix := Int.ediv_nonneg (by omega) (by omega)
      have q2 : s * 10000 / brix ≤ s * 10000 := Int.ediv_le_self _ (by omega)
      have q0 : s = 0 → s * 10000 / brix = 0 := fun h => by rw [h]; simp
      generalize s * 10000 / brix = q at *
      have hcases : ((s == 0) = true ∧ bw = 0 ∧ be = 7) ∨ ((s == 0) = false ∧ q - a - s < 0 ∧ bw = 0 ∧ be = 7) ∨ ((s == 0) = false ∧ ¬ q - a - s < 0 ∧ 1000000000000 < a + (q - a - s) ∧ bw = 0 ∧ be = 10) ∨ ((s == 0) = false ∧ ¬ q - a - s < 0 ∧ ¬ 1000000000000 < a + (q - a - s) ∧ bw = q - a - s ∧ be = 0) := by
        have ee := eE.out
        have ew := eW.out
        by_cases h0 : s = 0
        · rw [if_pos h0] at hc
          rw [hc, if_neg (by omega)] at ee
          rw [ee, if_neg (by omega)] at ew
          exact .inl ⟨by simpa using h0, ew, ee⟩
        · rw [if_neg h0] at hc
          rw [hc, if_pos rfl] at ee
          have h0' : (s == 0) = false := by simpa using h0
          refine .inr ?_
          by_cases h1 : q - (a + s) < 0
          · rw [if_pos h1] at ee
            rw [ee, if_neg (by omega)] at ew
            exact .inl ⟨h0', by omega, ew, ee⟩
          · rw [if_neg h1] at ee
            refine .inr ?_
            by_cases h2 : 1000000000000 < a + (q - (a + s))
            · rw [if_pos h2] at ee
              rw [ee, if_neg (by omega)] at ew
              exact .inl ⟨h0', by omega, by omega, ew, ee⟩
            · rw [if_neg h2] at ee
              rw [ee, if_pos rfl] at ew
              exact .inr ⟨h0', by omega, by omega, by omega, ee⟩
      have hws : IntKind.i64.wrap (s * 10000) = s * 10000 := IntWalk.i64_in _ (by omega)
      have hwa : IntKind.i64.wrap (q - a) = q - a := IntWalk.i64_in _ (by omega)
      have hwq : IntKind.i64.wrap (q - a - s) = q - a - s := IntWalk.i64_in _ (by omega)
      have hwr : IntKind.i64.wrap (a + (q - a - s)) = a + (q - a - s) := IntWalk.i64_in _ (by omega)
      clear hc hi hb eC eW eE q0
      rcases hcases with ⟨h0, E1, E2⟩ | ⟨h0, h1, E1, E2⟩ | ⟨h0, h1, h2, E1, E2⟩ | ⟨h0, h1, h2, E1, E2⟩
      all_goals
        replace E1 := Lib.hid E1
        replace E2 := Lib.hid E2
        go_enter Try.func60, Try.ntmps60
        go_wp2_with fail
        refine (c1.out _).mono ?_
        rintro e w1 ⟨rfl, hb1⟩
        have hS : w1.cell? ⟨w.heap.size, 0, none⟩ = some (.int .i64 a) ∧ w1.cell? ⟨w.heap.size, 1, none⟩ = some (.int .i64 s) ∧ Kq w.heap.size w w1 :=
          ⟨cell_next hb1 (by simp <;> omega) (by simp [go_sem]), cell_next hb1 (by simp <;> omega) (by simp [go_sem]), below1 hb1, by have := hb1.size; simp at this; omega⟩
        clear hb1
        obtain ⟨s0, s1', hk⟩ := hS
        have HK := Lib.hid hk
        clear hk
        go_wp2_with fail
        refine (c4.out _).mono ?_
        rintro e w2 ⟨rfl, rfl⟩
        go_wp2_with fail
        have hS := And.intro s0 (And.intro s1' HK.out)
        clear s0 s1' HK
        refine wp_region_held_drew (S := fun W' => W'.cell? ⟨w.heap.size, 0, none⟩ = some (.int .i64 a) ∧ W'.cell? ⟨w.heap.size, 1, none⟩ = some (.int .i64 s) ∧ Kq w.heap.size w W') (by kernel_rfl) ?_ (fun hHeld => ?_)
        focus (exact keepq (Below.drew (Below.refl _ _)) hS)
        generalize w1.drew = wd at hHeld ⊢
        refine take_slot (i := 0) (d := 13) (v := ?_) rfl rfl (by kernel_rfl) (by kernel_rfl) (by kernel_rfl) (fun _ _ _ h => h) (Or.inl ⟨by rfl, ?_⟩) (by assumption) ?_
        rotate_left 1
        focus (intro wS hSw; (try dsimp only at hSw); go_simp; try with_reducible rfl)
        try simp only [List.setIfInBounds_toArray, List.set_cons_zero, List.set_cons_succ]
        refine take_slot (i := 1) (d := 14) (v := ?_) rfl rfl (by kernel_rfl) (by kernel_rfl) (by kernel_rfl) (fun _ _ _ h => h) (Or.inl ⟨by rfl, ?_⟩) (by assumption) ?_
        rotate_left 1
        focus (intro wS hSw; (try dsimp only at hSw); go_simp; try with_reducible rfl)
        try simp only [List.setIfInBounds_toArray, List.set_cons_zero, List.set_cons_succ]
        refine take_slot (i := 2) (d := 15) (v := ?_) rfl rfl (by kernel_rfl) (by kernel_rfl) (by kernel_rfl) (fun _ _ _ h => h) (Or.inl ⟨by rfl, ?_⟩) (by assumption) ?_
        rotate_left 1
        focus (intro wS hSw; (try dsimp only at hSw); go_simp; try with_reducible rfl)
        try simp only [List.setIfInBounds_toArray, List.set_cons_zero, List.set_cons_succ]
        refine take_slot (i := 3) (d := 16) (v := ?_) rfl rfl (by kernel_rfl) (by kernel_rfl) (by kernel_rfl) (fun _ _ _ h => h) (Or.inl ⟨by rfl, ?_⟩) (by assumption) ?_
        rotate_left 1
        focus (intro wS hSw; (try dsimp only at hSw); go_simp; try with_reducible rfl)
        try simp only [List.setIfInBounds_toArray, List.set_cons_zero, List.set_cons_succ]
        refine take_slot (i := 5) (d := 18) (v := ?_) rfl rfl (by kernel_rfl) (by kernel_rfl) (by kernel_rfl) (fun _ _ _ h => h) (Or.inl ⟨by rfl, ?_⟩) (by assumption) ?_
        rotate_left 1
        focus (intro wS hSw; (try dsimp only at hSw); go_simp; try with_reducible rfl)
        try simp only [List.setIfInBounds_toArray, List.set_cons_zero, List.set_cons_succ]
        refine take_slot (i := 6) (d := 19) (v := ?_) rfl rfl (by kernel_rfl) (by kernel_rfl) (by kernel_rfl) (fun _ _ _ h => h) (Or.inl ⟨by rfl, ?_⟩) (by assumption) ?_
        rotate_left 1
        focus (intro wS hSw; (try dsimp only at hSw); go_simp; try with_reducible rfl)
        try simp only [List.setIfInBounds_toArray, List.set_cons_zero, List.set_cons_succ]
        refine take_slot (i := 8) (d := 21) (v := ?_) rfl rfl (by kernel_rfl) (by kernel_rfl) (by kernel_rfl) (fun _ _ _ h => h) (Or.inl ⟨by rfl, ?_⟩) (by assumption) ?_
        rotate_left 1
        focus (intro wS hSw; (try dsimp only at hSw); go_simp; try with_reducible rfl)
        try simp only [List.setIfInBounds_toArray, List.set_cons_zero, List.set_cons_succ]
        refine take_slot (i := 9) (d := 22) (v := ?_) rfl rfl (by kernel_rfl) (by kernel_rfl) (by kernel_rfl) (fun _ _ _ h => h) (Or.inl ⟨by rfl, ?_⟩) (by assumption) ?_
        rotate_left 1
        focus (intro wS hSw; (try dsimp only at hSw); go_simp; try with_reducible rfl)
        try simp only [List.setIfInBounds_toArray, List.set_cons_zero, List.set_cons_succ]
        refine wpAnyH_ready (rs := [4]) (by kernel_rfl) (by simp) ?_
        refine AllReadyH.cons rfl (fun K hK => ?_) AllReadyH.nil
        skip
        go_simp
        refine (c2.out _).mono ?_; rintro e w4 ⟨rfl, rfl⟩
        refine hK.out _ _ ?_ (fun hHeld => ?_)
        focus (exact hHeld)
        clear hK K
        try simp only [Act.put, List.setIfInBounds_toArray, List.set_cons_zero, List.set_cons_succ]
        refine take_slot (i := 7) (d := 20) (v := ?_) rfl rfl (by kernel_rfl) (by kernel_rfl) (by kernel_rfl) (fun _ _ _ h => h) (Or.inl ⟨by rfl, ?_⟩) (by assumption) ?_
        rotate_left 1
        focus (intro wS hSw; (try dsimp only at hSw); go_simp; try with_reducible rfl)
        try simp only [List.setIfInBounds_toArray, List.set_cons_zero, List.set_cons_succ]
        refine take_slot (i := 10) (d := 23) (v := ?_) rfl rfl (by kernel_rfl) (by kernel_rfl) (by kernel_rfl) (fun _ _ _ h => h) (Or.inl ⟨by rfl, ?_⟩) (by assumption) ?_
        rotate_left 1
        focus (intro wS hSw; (try dsimp only at hSw); go_simp; try with_reducible rfl)
        try simp only [List.setIfInBounds_toArray, List.set_cons_zero, List.set_cons_succ]
        refine take_slot (i := 11) (d := 6) (v := ?_) rfl rfl (by kernel_rfl) (by kernel_rfl) (by kernel_rfl) (fun _ _ _ h => h) (Or.inl ⟨by rfl, ?_⟩) (by assumption) ?_
        rotate_left 1
        focus (intro wS hSw; (try dsimp only at hSw); go_simp; try with_reducible rfl)
        try simp only [List.setIfInBounds_toArray, List.set_cons_zero, List.set_cons_succ]
        refine wpAnyH_done (by kernel_rfl) ?_ _
        obtain ⟨t0, t1, hkk, _⟩ := hHeld
        go_wp2_with fail
        go_ret2
        exact ⟨ret_ints2 E1.out.symm E2.out.symm, hkk⟩
  · have hvf : spB a s = false := by simpa using hv
    rw [hvf] at c1
    have hc := eC.out
    rw [hvf, if_neg (by simp)] at hc
    have ee := eE.out
    rw [hc, if_neg (by omega)] at ee
    have ew := eW.out
    rw [ee, if_neg (by omega)] at ew
    have E1 := Lib.hid ew
    have E2 := Lib.hid ee
    clear hc ew ee hv hvf eC eW eE
    go_enter Try.func60, Try.ntmps60
    go_wp2_with fail
    refine (c1.out _).mono ?_
    rintro e w1 ⟨rfl, hb1⟩
    have hB := below1 hb1
    clear hb1
    go_wp2_with fail
    go_ret2
    exact ⟨ret_ints2 E1.out.symm E2.out.symm, hB⟩

set_option maxRecDepth 40000 in
set_option maxHeartbeats 2000000 in
theorem boils_walk (a s brix : Int) (w : World) :
    Calls Try.prog 7 #[.agg #[.int .i64 a, .int .i64 s], .int .i64 brix] w fun e w' => e = .returned (.bool true) ∧ Below w.heap.size w w' := by
  have c1 := Lib.hid (brix_any a s)
  have c2 := Lib.hid (rBrix_any a s)
  have c3 := Lib.hid (boil_any a s brix)
  have c4 := Lib.hid (rBoil_any a s brix)
  have c5 := Lib.hid (thin_any a s brix)
  have c6 := Lib.hid (rThin_any a s brix)
  generalize brL a s = bl at *
  generalize brH a s = bh at *
  generalize brE a s = be at *
  generalize boilW a s brix = ow at *
  generalize boilE a s brix = oe at *
  generalize thinW a s brix = tw at *
  generalize thinE a s brix = te at *
  go_enter Try.func7, Try.ntmps7
  go_wp2_with fail
  refine (c1.out _).mono ?_
  rintro e w1 ⟨rfl, hb⟩
  have s0 := cell_next hb (b := w.heap.size) (o := 0) (by simp <;> omega) (v := some (.int .i64 a)) (by simp [go_sem])
  have s1 := cell_next hb (b := w.heap.size) (o := 1) (by simp <;> omega) (v := some (.int .i64 s)) (by simp [go_sem])
  have n0 : w.heap.size < w1.heap.size := by have := hb.size; simp at this; omega
  have hB := below1 hb
  clear hb
  go_wp2_with fail
  refine (c2.out _).mono ?_
  rintro e w2 ⟨rfl, hb⟩
  replace s0 := cell_next (below1 hb) n0 s0
  replace s1 := cell_next (below1 hb) n0 s1
  have x0 := cell_next hb (b := w1.heap.size) (o := 0) (by simp <;> omega) (v := some (.int .i64 bl)) (by simp [go_sem])
  have x1 := cell_next hb (b := w1.heap.size) (o := 1) (by simp <;> omega) (v := some (.int .i64 bh)) (by simp [go_sem])
  have n1 : w1.heap.size < w2.heap.size := by have := hb.size; simp at this; omega
  replace n0 : w.heap.size < w2.heap.size := by omega
  replace hB := hB.trans ((below1 hb).mono hB.size)
  generalize w1.heap.size = p1 at *
  clear hb
  go_wp2_with fail
  refine (c3.out _).mono ?_
  rintro e w3 ⟨rfl, hb⟩
  replace s0 := cell_next (below1 hb) n0 s0
  replace s1 := cell_next (below1 hb) n0 s1
  replace x0 := cell_next (below1 hb) n1 x0
  replace x1 := cell_next (below1 hb) n1 x1
  have y0 := cell_next hb (b := w2.heap.size) (o := 0) (by simp <;> omega) (v := some (.int .i64 bl)) (by simp [go_sem])
  have y1 := cell_next hb (b := w2.heap.size) (o := 1) (by simp <;> omega) (v := some (.int .i64 bh)) (by simp [go_sem])
  have n2 : w2.heap.size < w3.heap.size := by have := hb.size; simp at this; omega
  replace n0 : w.heap.size < w3.heap.size := by omega
  replace n1 : p1 < w3.heap.size := by omega
  replace hB := hB.trans ((below1 hb).mono hB.size)
  generalize w2.heap.size = p2 at *
  clear hb
  go_wp2_with fail
  refine (c4.out _).mono ?_
  rintro e w4 ⟨rfl, hb⟩
  replace s0 := cell_next hb n0 s0
  replace s1 := cell_next hb n0 s1
  replace x0 := cell_next hb n1 x0
  replace x1 := cell_next hb n1 x1
  replace y0 := cell_next hb n2 y0
  replace y1 := cell_next hb n2 y1
  replace n0 := Nat.lt_of_lt_of_le n0 hb.size
  replace n1 := Nat.lt_of_lt_of_le n1 hb.size
  replace n2 := Nat.lt_of_lt_of_le n2 hb.size
  replace hB := hB.trans (hb.mono hB.size)
  clear hb
  go_wp2_with fail
  refine (c5.out _).mono ?_
  rintro e w5 ⟨rfl, hb⟩
  replace s0 := cell_next hb n0 s0
  replace s1 := cell_next hb n0 s1
  replace x0 := cell_next hb n1 x0
  replace x1 := cell_next hb n1 x1
  replace y0 := cell_next hb n2 y0
  replace y1 := cell_next hb n2 y1
  replace n0 := Nat.lt_of_lt_of_le n0 hb.size
  replace n1 := Nat.lt_of_lt_of_le n1 hb.size
  replace n2 := Nat.lt_of_lt_of_le n2 hb.size
  replace hB := hB.trans (hb.mono hB.size)
  clear hb
  go_wp2_with fail
  refine (c6.out _).mono ?_
  rintro e w6 ⟨rfl, hb⟩
  replace x0 := cell_next hb n1 x0
  replace x1 := cell_next hb n1 x1
  replace y0 := cell_next hb n2 y0
  replace y1 := cell_next hb n2 y1
  replace hB := hB.trans (hb.mono hB.size)
  clear hb s0 s1
  go_wp2_with fail
  refine (known_any _).mono ?_
  rintro e w7 ⟨rfl, hb⟩
  replace hB := hB.trans (hb.mono hB.size)
  clear hb
  go_wp2_with fail
  go_ret
  exact ⟨rfl, hB⟩
end Go.Proofs.Ytgakniehfnegiaa
