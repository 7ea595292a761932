/- Contracts: the reference's functions on sap. -/
import Derived.Test.YtfkkddbghogffaaC13
import Derived.Test.YtfkkddbghogffaaRI
namespace Go.Proofs.Ytfkkddbghogffaa
open Go.RowKit Go.Lib Go.Shelf
set_option linter.unusedVariables false
set_option linter.unusedSimpArgs false
attribute [local go_sem ↓] Go.wp_at_zero Go.wp_at_succ

set_option maxHeartbeats 400000 in
theorem rSap_any (a s : Int) (w : World) :
    Calls Try.prog 113 #[.agg #[.int .i64 a, .int .i64 s]] w fun e w' => e = .returned (.bool (spB a s)) ∧ Below w.heap.size w w' := by
  have c1 := Lib.hid (rIn_any a 0 1000000000000)
  have c2 := Lib.hid (rIn_any s 0 1000000000000)
  have hv : Hid (spB a s = ((decide (0 ≤ a) && decide (a ≤ 1000000000000)) && (decide (0 ≤ s) && decide (s ≤ 1000000000000)))) := Lib.hid (by simp [spB, Bool.and_assoc])
  generalize (decide (0 ≤ a) && decide (a ≤ 1000000000000)) = p at *
  generalize (decide (0 ≤ s) && decide (s ≤ 1000000000000)) = q at *
  cases p
  · go_enter Try.func113, Try.ntmps113
    go_wp2_with fail
    refine (c1.out _).mono ?_
    rintro e w1 ⟨rfl, rfl⟩
    go_wp2_with fail
    go_ret
    exact ⟨by rw [hv.out]; rfl, (Below.refl _ _).alloc (Nat.le_refl _) _⟩
  · go_enter Try.func113, Try.ntmps113
    go_wp2_with fail
    refine (c1.out _).mono ?_
    rintro e w1 ⟨rfl, rfl⟩
    go_wp2_with fail
    refine (c2.out _).mono ?_
    rintro e w1 ⟨rfl, rfl⟩
    go_wp2_with fail
    go_ret
    exact ⟨by rw [hv.out]; rfl, (Below.refl _ _).alloc (Nat.le_refl _) _⟩

theorem floor_pos (a b : Int) (ha : 0 ≤ a) : a.tdiv b = a / b ∧ a.tmod b = a % b := ⟨Int.tdiv_eq_ediv_of_nonneg ha, Int.tmod_eq_emod_of_nonneg ha⟩
theorem floor_neg (a b : Int) (ha : a < 0) (hb : 0 < b) : (a.tmod b < 0 → a / b = a.tdiv b - 1) ∧ (¬ a.tmod b < 0 → a / b = a.tdiv b) := by
  have h := Int.mul_tdiv_add_tmod a b
  have h1 : a.tmod b ≤ 0 := by
    have := Int.tmod_nonneg b (show 0 ≤ -a by omega)
    rw [Int.neg_tmod] at this
    omega
  have h2 : -b < a.tmod b := by
    have := Int.tmod_lt_of_pos (-a) hb
    rw [Int.neg_tmod] at this
    omega
  generalize a.tdiv b = q at *
  generalize a.tmod b = r at *
  constructor
  · intro hr
    exact ((Int.ediv_emod_unique (a := a) (b := b) (r := b + r) (q := q - 1) hb).2 ⟨by rw [Int.mul_sub, Int.mul_one]; omega, by omega, by omega⟩).1
  · intro hr
    exact ((Int.ediv_emod_unique (a := a) (b := b) (r := r) (q := q) hb).2 ⟨by omega, by omega, by omega⟩).1
theorem tdiv_abs (a b : Int) (hb : 0 < b) (B : Int) (h1 : -B ≤ a) (h2 : a ≤ B) : -B ≤ a.tdiv b ∧ a.tdiv b ≤ B := by
  have h : (a.tdiv b).natAbs ≤ a.natAbs := by rw [Int.natAbs_tdiv]; exact Nat.div_le_self _ _
  omega
theorem tmod_abs (a b : Int) (hb : 0 < b) : -b < a.tmod b ∧ a.tmod b < b := by
  have h1 := Int.tmod_lt_of_pos a hb
  have h2 : -b < a.tmod b := by
    have := Int.tmod_lt_of_pos (-a) hb
    rw [Int.neg_tmod] at this
    omega
  exact ⟨h2, h1⟩

set_option maxHeartbeats 400000 in
theorem rFloor_any (a b : Int) (ha : -4000000000000000000 ≤ a ∧ a ≤ 4000000000000000000) (hb : 0 < b) (hb2 : b ≤ 4000000000000000000) (w : World) :
    Calls Try.prog 106 #[.int .i64 a, .int .i64 b] w fun e w' => e = .returned (.int .i64 (a / b)) ∧ w = w' := by
  obtain ⟨a1, a2⟩ := ha
  obtain ⟨q1, q2⟩ := tdiv_abs a b hb _ a1 a2
  obtain ⟨r1, r2⟩ := tmod_abs a b hb
  have hb0 : (b == 0) = false := by simp; omega
  have e : Hid (a / b = if a.tmod b < 0 then a.tdiv b - 1 else a.tdiv b) := Lib.hid (by
    by_cases h : a < 0
    · obtain ⟨e1, e2⟩ := floor_neg a b h hb
      split
      · exact e1 (by assumption)
      · exact e2 (by assumption)
    · obtain ⟨e1, e2⟩ := floor_pos a b (by omega)
      have := Int.emod_nonneg a (show b ≠ 0 by omega)
      rw [if_neg (by omega)]
      exact e1.symm)
  by_cases h0 : a < 0
  · by_cases h : a.tmod b < 0
    · have E : Hid (a / b = a.tdiv b - 1) := Lib.hid (by rw [e.out, if_pos h])
      clear e
      go_enter Try.func106, Try.ntmps106
      go_wp2
      go_ret
      exact ⟨ret_int E.out.symm, rfl⟩
    · have E : Hid (a / b = a.tdiv b) := Lib.hid (by rw [e.out, if_neg h])
      clear e
      go_enter Try.func106, Try.ntmps106
      go_wp2
      go_ret
      exact ⟨ret_int E.out.symm, rfl⟩
  · obtain ⟨e1, e2⟩ := floor_pos a b (by omega)
    have r3 := Int.emod_nonneg a (show b ≠ 0 by omega)
    have a3 : 0 ≤ a := by omega
    rw [e1] at q1 q2
    have q3 : 0 ≤ a / b := Int.ediv_nonneg a3 (by omega)
    have h : ¬ a % b < 0 := by omega
    clear e e1 e2 r1 r2 h0
    go_enter Try.func106, Try.ntmps106
    go_wp2
    go_ret
    exact ⟨rfl, rfl⟩

set_option maxHeartbeats 400000 in
theorem rCeil_any (a b : Int) (ha : -4000000000000000000 ≤ a ∧ a ≤ 4000000000000000000) (hb : 0 < b) (hb2 : b ≤ 4000000000000000000) (w : World) :
    Calls Try.prog 107 #[.int .i64 a, .int .i64 b] w fun e w' => e = .returned (.int .i64 (-(-a / b))) ∧ w = w' := by
  obtain ⟨a1, a2⟩ := ha
  have c1 := Lib.hid (rFloor_any (-a) b ⟨by omega, by omega⟩ hb hb2)
  have hq : -4000000000000000000 ≤ -a / b ∧ -a / b ≤ 4000000000000000000 := by
    have h1 := Int.ediv_le_ediv hb (show -a ≤ 4000000000000000000 by omega)
    have h2 := Int.ediv_le_ediv hb (show -4000000000000000000 ≤ -a by omega)
    have h3 : (4000000000000000000 : Int) / b ≤ 4000000000000000000 := Int.ediv_le_self _ (by omega)
    have h4 : -4000000000000000000 ≤ (-4000000000000000000 : Int) / b := (Int.le_ediv_iff_mul_le hb).2 (by omega)
    omega
  obtain ⟨q1, q2⟩ := hq
  generalize -a / b = q at *
  go_enter Try.func107, Try.ntmps107
  go_wp2_with fail
  refine (c1.out _).mono ?_
  rintro e w1 ⟨rfl, rfl⟩
  go_wp2_with fail
  go_ret
  exact ⟨rfl, rfl⟩

theorem q_of (a s : Int) (hv : spB a s = true) (h0 : a + s ≠ 0) : qLo s 10000 (a + s) = s * 10000 / (a + s) ∧ qHi s 10000 (a + s) = -(-(s * 10000) / (a + s)) := by
  obtain ⟨h1, h2, h3, h4⟩ := spB_of hv
  exact q_pos (a := s) (b := 10000) (c := a + s) (by omega) (by
    rw [show Int.natAbs 10000 = 10000 from rfl]
    refine Nat.le_trans (Nat.div_le_self _ _) ?_
    omega)

set_option maxRecDepth 20000 in
set_option maxHeartbeats 1000000 in
theorem rBrix_any (a s : Int) (w : World) :
    Calls Try.prog 56 #[.agg #[.int .i64 a, .int .i64 s]] w fun e w' => e = .returned (.tuple #[.agg #[.int .i64 (brL a s), .int .i64 (brH a s)], .int .i64 (brE a s)]) ∧ Below w.heap.size w w' := by
  have c1 := Lib.hid (rSap_any a s)
  have eE : Hid (brE a s = if spB a s then (if a + s = 0 then 7 else 0) else 2) := Lib.hid rfl
  have eL : Hid (brL a s = if brE a s = 0 then qLo s 10000 (a + s) else 0) := Lib.hid rfl
  have eH : Hid (brH a s = if brE a s = 0 then qHi s 10000 (a + s) else 0) := Lib.hid rfl
  by_cases hv : spB a s = true
  · obtain ⟨a1, a2, s1, s2⟩ := spB_of hv
    have hqq := q_of a s hv
    rw [hv] at c1 eE
    clear hv
    simp only [if_true] at eE
    by_cases h0 : a + s = 0
    · have e := eE.out
      rw [if_pos h0] at e
      have e1 := eL.out
      have e2 := eH.out
      rw [e, if_neg (by omega)] at e1 e2
      have E := Lib.hid e
      have E1 := Lib.hid e1
      have E2 := Lib.hid e2
      have hm0 : (a + s == 0) = true := by simpa using h0
      clear e e1 e2 hqq eE eL eH h0
      go_enter Try.func56, Try.ntmps56
      go_wp2_with fail
      refine (c1.out _).mono ?_
      rintro e w1 ⟨rfl, hb1⟩
      have s0 := cell_next hb1 (b := w.heap.size) (o := 0) (by simp <;> omega) (v := some (.int .i64 a)) (by simp [go_sem])
      have s1' := cell_next hb1 (b := w.heap.size) (o := 1) (by simp <;> omega) (v := some (.int .i64 s)) (by simp [go_sem])
      have r0 := cell_next hb1 (b := w.heap.size + 1) (o := 0) (by simp <;> omega) (v := some (.int .i64 0)) (by simp [go_sem])
      have r1 := cell_next hb1 (b := w.heap.size + 1) (o := 1) (by simp <;> omega) (v := some (.int .i64 0)) (by simp [go_sem])
      have f0 := frozen_next hb1 (b := w.heap.size + 1) (o := 0) (by simp <;> omega) (v := false) (by simp [go_sem])
      have f1 := frozen_next hb1 (b := w.heap.size + 1) (o := 1) (by simp <;> omega) (v := false) (by simp [go_sem])
      have hB := below2 hb1
      clear hb1
      go_wp2_with fail
      refine bodyPost_ret (v := .tuple #[.agg #[.int .i64 0, .int .i64 0], .int .i64 7]) (by simp [results, Try.results56, go_sem, r0, r1, f0, f1]) rfl ⟨by rw [E.out, E1.out, E2.out], ?_⟩
      exact (hB.setCell (p := ⟨w.heap.size + 1, 0, none⟩) (Nat.le_succ _) _).setCell (p := ⟨w.heap.size + 1, 1, none⟩) (Nat.le_succ _) _
    · obtain ⟨hl, hh⟩ := hqq h0
      have e := eE.out
      rw [if_neg h0] at e
      have e1 := eL.out
      have e2 := eH.out
      rw [if_pos e, hl] at e1
      rw [if_pos e, hh] at e2
      have E := Lib.hid e
      have E1 := Lib.hid e1
      have E2 := Lib.hid e2
      have hm1 : 0 < a + s := by omega
      have hm0 : (a + s == 0) = false := by simpa using h0
      have c2 := Lib.hid (rFloor_any (s * 10000) (a + s) ⟨by omega, by omega⟩ hm1 (by omega))
      have c3 := Lib.hid (rCeil_any (s * 10000) (a + s) ⟨by omega, by omega⟩ hm1 (by omega))
      clear e e1 e2 hl hh hqq eE eL eH h0
      generalize brL a s = rl at *
      generalize brH a s = rh at *
      generalize brE a s = re at *
      generalize s * 10000 / (a + s) = ql at *
      generalize -(-(s * 10000) / (a + s)) = qh at *
      go_enter Try.func56, Try.ntmps56
      go_wp2_with fail
      refine (c1.out _).mono ?_
      rintro e w1 ⟨rfl, hb1⟩
      have hS : w1.cell? ⟨w.heap.size, 0, none⟩ = some (.int .i64 a) ∧ w1.cell? ⟨w.heap.size, 1, none⟩ = some (.int .i64 s) ∧ Kp (w.heap.size + 1) w w1 :=
        ⟨cell_next hb1 (by simp <;> omega) (by simp [go_sem]), cell_next hb1 (by simp <;> omega) (by simp [go_sem]), below2 hb1, by have := hb1.size; simp at this; omega, ⟨_, cell_next hb1 (b := w.heap.size + 1) (o := 0) (by simp <;> omega) (v := some (.int .i64 0)) (by simp [go_sem])⟩, ⟨_, cell_next hb1 (b := w.heap.size + 1) (o := 1) (by simp <;> omega) (v := some (.int .i64 0)) (by simp [go_sem])⟩, frozen_next hb1 (b := w.heap.size + 1) (o := 0) (by simp <;> omega) (v := false) (by simp [go_sem]), frozen_next hb1 (b := w.heap.size + 1) (o := 1) (by simp <;> omega) (v := false) (by simp [go_sem])⟩
      clear hb1
      obtain ⟨s0, s1', hk⟩ := hS
      have HK := Lib.hid hk
      clear hk
      have hws : IntKind.i64.wrap (s * 10000) = s * 10000 := IntWalk.i64_in _ (by omega)
      go_wp2_with fail
      have hS := And.intro s0 (And.intro s1' HK.out)
      clear s0 s1' HK
      refine wp_region_held_drew (S := fun W' => W'.cell? ⟨w.heap.size, 0, none⟩ = some (.int .i64 a) ∧ W'.cell? ⟨w.heap.size, 1, none⟩ = some (.int .i64 s) ∧ Kp (w.heap.size + 1) w W') (by kernel_rfl) ?_ (fun hHeld => ?_)
      focus (exact keep2 (Below.drew (Below.refl _ _)) (Nat.le_succ _) hS)
      generalize w1.drew = wd at hHeld ⊢
      refine take_slot (i := 0) (d := 17) (v := ?_) rfl rfl (by kernel_rfl) (by kernel_rfl) (by kernel_rfl) (fun _ _ _ h => h) (Or.inl ⟨by rfl, ?_⟩) (by assumption) ?_
      rotate_left 1
      focus (intro wS hSw; (try dsimp only at hSw); go_simp; try with_reducible rfl)
      try simp only [List.setIfInBounds_toArray, List.set_cons_zero, List.set_cons_succ]
      refine take_slot (i := 1) (d := 18) (v := ?_) rfl rfl (by kernel_rfl) (by kernel_rfl) (by kernel_rfl) (fun _ _ _ h => h) (Or.inl ⟨by rfl, ?_⟩) (by assumption) ?_
      rotate_left 1
      focus (intro wS hSw; (try dsimp only at hSw); go_simp; try with_reducible rfl)
      try simp only [List.setIfInBounds_toArray, List.set_cons_zero, List.set_cons_succ]
      refine take_slot (i := 2) (d := 19) (v := ?_) rfl rfl (by kernel_rfl) (by kernel_rfl) (by kernel_rfl) (fun _ _ _ h => h) (Or.inl ⟨by rfl, ?_⟩) (by assumption) ?_
      rotate_left 1
      focus (intro wS hSw; (try dsimp only at hSw); go_simp; try with_reducible rfl)
      try simp only [List.setIfInBounds_toArray, List.set_cons_zero, List.set_cons_succ]
      refine take_slot (i := 3) (d := 20) (v := ?_) rfl rfl (by kernel_rfl) (by kernel_rfl) (by kernel_rfl) (fun _ _ _ h => h) (Or.inl ⟨by rfl, ?_⟩) (by assumption) ?_
      rotate_left 1
      focus (intro wS hSw; (try dsimp only at hSw); go_simp; try with_reducible rfl)
      try simp only [List.setIfInBounds_toArray, List.set_cons_zero, List.set_cons_succ]
      refine take_slot (i := 5) (d := 22) (v := ?_) rfl rfl (by kernel_rfl) (by kernel_rfl) (by kernel_rfl) (fun _ _ _ h => h) (Or.inl ⟨by rfl, ?_⟩) (by assumption) ?_
      rotate_left 1
      focus (intro wS hSw; (try dsimp only at hSw); go_simp; try with_reducible rfl)
      try simp only [List.setIfInBounds_toArray, List.set_cons_zero, List.set_cons_succ]
      refine take_slot (i := 6) (d := 23) (v := ?_) rfl rfl (by kernel_rfl) (by kernel_rfl) (by kernel_rfl) (fun _ _ _ h => h) (Or.inl ⟨by rfl, ?_⟩) (by assumption) ?_
      rotate_left 1
      focus (intro wS hSw; (try dsimp only at hSw); go_simp; try with_reducible rfl)
      try simp only [List.setIfInBounds_toArray, List.set_cons_zero, List.set_cons_succ]
      refine take_slot (i := 7) (d := 24) (v := ?_) rfl rfl (by kernel_rfl) (by kernel_rfl) (by kernel_rfl) (fun _ _ _ h => h) (Or.inl ⟨by rfl, ?_⟩) (by assumption) ?_
      rotate_left 1
      focus (intro wS hSw; (try dsimp only at hSw); go_simp; try with_reducible rfl)
      try simp only [List.setIfInBounds_toArray, List.set_cons_zero, List.set_cons_succ]
      refine take_slot (i := 8) (d := 25) (v := ?_) rfl rfl (by kernel_rfl) (by kernel_rfl) (by kernel_rfl) (fun _ _ _ h => h) (Or.inl ⟨by rfl, ?_⟩) (by assumption) ?_
      rotate_left 1
      focus (intro wS hSw; (try dsimp only at hSw); go_simp; try with_reducible rfl)
      try simp only [List.setIfInBounds_toArray, List.set_cons_zero, List.set_cons_succ]
      refine wpAnyH_ready (rs := [4]) (by kernel_rfl) (by simp) ?_
      refine AllReadyH.cons rfl (fun K hK => ?_) AllReadyH.nil
      skip
      go_simp
      refine (c2.out _).mono ?_; rintro e w4 ⟨rfl, rfl⟩
      refine hK.out _ _ ?_ (fun hHeld => ?_)
      focus (exact hHeld)
      clear hK K
      try simp only [Act.put, List.setIfInBounds_toArray, List.set_cons_zero, List.set_cons_succ]
      refine wpAnyH_ready (rs := [9]) (by kernel_rfl) (by simp) ?_
      refine AllReadyH.cons rfl (fun K hK => ?_) AllReadyH.nil
      skip
      go_simp
      refine (c3.out _).mono ?_; rintro e w6 ⟨rfl, rfl⟩
      refine hK.out _ _ ?_ (fun hHeld => ?_)
      focus (exact hHeld)
      clear hK K
      try simp only [Act.put, List.setIfInBounds_toArray, List.set_cons_zero, List.set_cons_succ]
      refine take_slot (i := 10) (d := 27) (v := ?_) rfl rfl (by kernel_rfl) (by kernel_rfl) (by kernel_rfl) (fun _ _ _ h => h) (Or.inl ⟨by rfl, ?_⟩) (by assumption) ?_
      rotate_left 1
      focus (intro wS hSw; (try dsimp only at hSw); go_simp; try with_reducible rfl)
      try simp only [List.setIfInBounds_toArray, List.set_cons_zero, List.set_cons_succ]
      refine wpAnyH_ready (rs := [11]) (by kernel_rfl) (by simp) ?_
      refine AllReadyH.cons rfl (fun K hK => ?_) AllReadyH.nil
      have hKeep := hHeld; obtain ⟨_, _, kb, ksz, ⟨v0, k0⟩, ⟨v1, k1⟩, kf0, kf1⟩ := hHeld
      go_simp
      skip
      refine hK.out _ _ ?_ (fun hHeld => ?_)
      focus (exact keep2_set (Nat.lt_succ_self _) (Nat.le_succ _) hKeep)
      clear hK K
      try simp only [Act.put, List.setIfInBounds_toArray, List.set_cons_zero, List.set_cons_succ]
      refine take_slot (i := 12) (d := 3) (v := ?_) rfl rfl (by kernel_rfl) (by kernel_rfl) (by kernel_rfl) (fun _ _ _ h => h) (Or.inl ⟨by rfl, ?_⟩) (by assumption) ?_
      rotate_left 1
      focus (intro wS hSw; (try dsimp only at hSw); go_simp; try with_reducible rfl)
      try simp only [List.setIfInBounds_toArray, List.set_cons_zero, List.set_cons_succ]
      refine wpAnyH_done (by kernel_rfl) ?_ _
      obtain ⟨_, _, hkk, _⟩ := hHeld
      go_wp2_with fail
      refine bodyPost_ret (v := .tuple #[.agg #[.int .i64 ql, .int .i64 qh], .int .i64 0]) (by simp [results, Try.results56, go_sem, k0, k1]) rfl ⟨by rw [E.out, E1.out, E2.out], hkk⟩
  · have hvf : spB a s = false := by simpa using hv
    rw [hvf] at c1
    have e := eE.out
    rw [hvf, if_neg (by simp)] at e
    have e1 := eL.out
    have e2 := eH.out
    rw [e, if_neg (by omega)] at e1 e2
    have E := Lib.hid e
    have E1 := Lib.hid e1
    have E2 := Lib.hid e2
    clear e e1 e2 hv hvf eE eL eH
    go_enter Try.func56, Try.ntmps56
    go_wp2_with fail
    refine (c1.out _).mono ?_
    rintro e w1 ⟨rfl, hb1⟩
    have r0 := cell_next hb1 (b := w.heap.size + 1) (o := 0) (by simp <;> omega) (v := some (.int .i64 0)) (by simp [go_sem])
    have r1 := cell_next hb1 (b := w.heap.size + 1) (o := 1) (by simp <;> omega) (v := some (.int .i64 0)) (by simp [go_sem])
    have f0 := frozen_next hb1 (b := w.heap.size + 1) (o := 0) (by simp <;> omega) (v := false) (by simp [go_sem])
    have f1 := frozen_next hb1 (b := w.heap.size + 1) (o := 1) (by simp <;> omega) (v := false) (by simp [go_sem])
    have hB := below2 hb1
    clear hb1
    go_wp2_with fail
    refine bodyPost_ret (v := .tuple #[.agg #[.int .i64 0, .int .i64 0], .int .i64 2]) (by simp [results, Try.results56, go_sem, r0, r1, f0, f1]) rfl ⟨by rw [E.out, E1.out, E2.out], ?_⟩
    exact (hB.setCell (p := ⟨w.heap.size + 1, 0, none⟩) (Nat.le_succ _) _).setCell (p := ⟨w.heap.size + 1, 1, none⟩) (Nat.le_succ _) _

set_option maxRecDepth 20000 in
set_option maxHeartbeats 1000000 in
theorem rBoil_any (a s brix : Int) (w : World) :
    Calls Try.prog 58 #[.agg #[.int .i64 a, .int .i64 s], .int .i64 brix] w fun e w' => e = .returned (.tuple #[.int .i64 (boilW a s brix), .int .i64 (boilE a s brix)]) ∧ Below w.heap.size w w' := by
  have c1 := Lib.hid (rSap_any a s)
  have c4 := Lib.hid (rIn_any brix 1 10000)
  have eC : Hid (cbE a s brix = if spB a s then (if brix < 1 ∨ 10000 < brix then 3 else if s = 0 then 7 else 0) else 2) := Lib.hid rfl
  have eW : Hid (boilW a s brix = if cbE a s brix = 0 then max 0 (a + s - s * 10000 / brix) else 0) := Lib.hid rfl
  have eE : Hid (boilE a s brix = cbE a s brix) := Lib.hid rfl
  generalize boilW a s brix = bw at *
  generalize boilE a s brix = be at *
  generalize cbE a s brix = ce at *
  by_cases hv : spB a s = true
  · obtain ⟨a1, a2, s1, s2⟩ := spB_of hv
    rw [hv] at c1 eC
    clear hv
    simp only [if_true] at eC
    by_cases hb : brix < 1 ∨ 10000 < brix
    · have hc := eC.out
      rw [if_pos hb] at hc
      have ew := eW.out
      rw [hc, if_neg (by omega)] at ew
      have ee := eE.out
      rw [hc] at ee
      have E1 := Lib.hid ew
      have E2 := Lib.hid ee
      have hi : (decide (1 ≤ brix) && decide (brix ≤ 10000)) = false := by simp; omega
      rw [hi] at c4
      clear hc ew ee hi hb eC eW eE
      go_enter Try.func58, Try.ntmps58
      go_wp2_with fail
      refine (c1.out _).mono ?_
      rintro e w1 ⟨rfl, hb1⟩
      have hB := below1 hb1
      clear hb1
      go_wp2_with fail
      refine (c4.out _).mono ?_
      rintro e w2 ⟨rfl, rfl⟩
      go_wp2_with fail
      go_ret2
      exact ⟨ret_ints2 E1.out.symm E2.out.symm, hB⟩
    · have hi : (decide (1 ≤ brix) && decide (brix ≤ 10000)) = true := by simp; omega
      rw [hi] at c4
      have hc := eC.out
      rw [if_neg hb] at hc
      have b1 : 1 ≤ brix := by omega
      have b2 : brix ≤ 10000 := by omega
      by_cases h0 : s = 0
      · subst h0
        rw [if_pos rfl] at hc
        have ew := eW.out
        rw [hc, if_neg (by omega)] at ew
        have ee := eE.out
        rw [hc] at ee
        have E1 := Lib.hid ew
        have E2 := Lib.hid ee
        clear hc ew ee hi hb eC eW eE
        go_enter Try.func58, Try.ntmps58
        go_wp2_with fail
        refine (c1.out _).mono ?_
        rintro e w1 ⟨rfl, hb1⟩
        have t1 := cell_next hb1 (b := w.heap.size) (o := 1) (by simp <;> omega) (v := some (.int .i64 0)) (by simp [go_sem])
        have hB := below1 hb1
        clear hb1
        go_wp2_with fail
        refine (c4.out _).mono ?_
        rintro e w2 ⟨rfl, rfl⟩
        go_wp2_with fail
        go_ret2
        exact ⟨ret_ints2 E1.out.symm E2.out.symm, hB⟩
      · rw [if_neg h0] at hc
        have ew := eW.out
        rw [hc, if_pos rfl] at ew
        have ee := eE.out
        rw [hc] at ee
        have c2 := Lib.hid (rFloor_any (s * 10000) brix ⟨by omega, by omega⟩ (by omega) (by omega))
        have q1 : 0 ≤ s * 10000 / brix := Int.ediv_nonneg (by omega) (by omega)
        have q2 : s * 10000 / brix ≤ s * 10000 := Int.ediv_le_self _ (by omega)
        generalize s * 10000 / brix = q at *
        have E1 := Lib.hid ew
        have E2 := Lib.hid ee
        have h0' : (s == 0) = false := by simpa using h0
        have hws : IntKind.i64.wrap (s * 10000) = s * 10000 := IntWalk.i64_in _ (by omega)
        have hwa : IntKind.i64.wrap (a + s) = a + s := IntWalk.i64_in _ (by omega)
        have hwq : IntKind.i64.wrap (a + s - q) = a + s - q := IntWalk.i64_in _ (by omega)
        clear hc ew ee hi hb h0 eC eW eE
        rcases Int.lt_trichotomy (a + s - q) 0 with hx | hx | hx
        all_goals
          go_enter Try.func58, Try.ntmps58
          go_wp2_with fail
          refine (c1.out _).mono ?_
          rintro e w1 ⟨rfl, hb1⟩
          have hS : w1.cell? ⟨w.heap.size, 0, none⟩ = some (.int .i64 a) ∧ w1.cell? ⟨w.heap.size, 1, none⟩ = some (.int .i64 s) ∧ Kq w.heap.size w w1 :=
            ⟨cell_next hb1 (by simp <;> omega) (by simp [go_sem]), cell_next hb1 (by simp <;> omega) (by simp [go_sem]), below1 hb1, by have := hb1.size; simp at this; omega⟩
          clear hb1
          obtain ⟨s0, s1', hk⟩ := hS
          have HK := Lib.hid hk
          clear hk
          go_wp2_with fail
          refine (c4.out _).mono ?_
          rintro e w2 ⟨rfl, rfl⟩
          go_wp2_with fail
          have hS := And.intro s0 (And.intro s1' HK.out)
          clear s0 s1' HK
          refine wp_region_held_drew (S := fun W' => W'.cell? ⟨w.heap.size, 0, none⟩ = some (.int .i64 a) ∧ W'.cell? ⟨w.heap.size, 1, none⟩ = some (.int .i64 s) ∧ Kq w.heap.size w W') (by kernel_rfl) ?_ (fun hHeld => ?_)
          focus (exact keepq (Below.drew (Below.refl _ _)) hS)
          generalize w1.drew = wd at hHeld ⊢
          refine take_slot (i := 0) (d := 15) (v := ?_) rfl rfl (by kernel_rfl) (by kernel_rfl) (by kernel_rfl) (fun _ _ _ h => h) (Or.inl ⟨by rfl, ?_⟩) (by assumption) ?_
          rotate_left 1
          focus (intro wS hSw; (try dsimp only at hSw); go_simp; try with_reducible rfl)
          try simp only [List.setIfInBounds_toArray, List.set_cons_zero, List.set_cons_succ]
          refine take_slot (i := 1) (d := 16) (v := ?_) rfl rfl (by kernel_rfl) (by kernel_rfl) (by kernel_rfl) (fun _ _ _ h => h) (Or.inl ⟨by rfl, ?_⟩) (by assumption) ?_
          rotate_left 1
          focus (intro wS hSw; (try dsimp only at hSw); go_simp; try with_reducible rfl)
          try simp only [List.setIfInBounds_toArray, List.set_cons_zero, List.set_cons_succ]
          refine take_slot (i := 2) (d := 17) (v := ?_) rfl rfl (by kernel_rfl) (by kernel_rfl) (by kernel_rfl) (fun _ _ _ h => h) (Or.inl ⟨by rfl, ?_⟩) (by assumption) ?_
          rotate_left 1
          focus (intro wS hSw; (try dsimp only at hSw); go_simp; try with_reducible rfl)
          try simp only [List.setIfInBounds_toArray, List.set_cons_zero, List.set_cons_succ]
          refine take_slot (i := 3) (d := 18) (v := ?_) rfl rfl (by kernel_rfl) (by kernel_rfl) (by kernel_rfl) (fun _ _ _ h => h) (Or.inl ⟨by rfl, ?_⟩) (by assumption) ?_
          rotate_left 1
          focus (intro wS hSw; (try dsimp only at hSw); go_simp; try with_reducible rfl)
          try simp only [List.setIfInBounds_toArray, List.set_cons_zero, List.set_cons_succ]
          refine take_slot (i := 4) (d := 19) (v := ?_) rfl rfl (by kernel_rfl) (by kernel_rfl) (by kernel_rfl) (fun _ _ _ h => h) (Or.inl ⟨by rfl, ?_⟩) (by assumption) ?_
          rotate_left 1
          focus (intro wS hSw; (try dsimp only at hSw); go_simp; try with_reducible rfl)
          try simp only [List.setIfInBounds_toArray, List.set_cons_zero, List.set_cons_succ]
          refine take_slot (i := 5) (d := 20) (v := ?_) rfl rfl (by kernel_rfl) (by kernel_rfl) (by kernel_rfl) (fun _ _ _ h => h) (Or.inl ⟨by rfl, ?_⟩) (by assumption) ?_
          rotate_left 1
          focus (intro wS hSw; (try dsimp only at hSw); go_simp; try with_reducible rfl)
          try simp only [List.setIfInBounds_toArray, List.set_cons_zero, List.set_cons_succ]
          refine take_slot (i := 6) (d := 21) (v := ?_) rfl rfl (by kernel_rfl) (by kernel_rfl) (by kernel_rfl) (fun _ _ _ h => h) (Or.inl ⟨by rfl, ?_⟩) (by assumption) ?_
          rotate_left 1
          focus (intro wS hSw; (try dsimp only at hSw); go_simp; try with_reducible rfl)
          try simp only [List.setIfInBounds_toArray, List.set_cons_zero, List.set_cons_succ]
          refine take_slot (i := 7) (d := 22) (v := ?_) rfl rfl (by kernel_rfl) (by kernel_rfl) (by kernel_rfl) (fun _ _ _ h => h) (Or.inl ⟨by rfl, ?_⟩) (by assumption) ?_
          rotate_left 1
          focus (intro wS hSw; (try dsimp only at hSw); go_simp; try with_reducible rfl)
          try simp only [List.setIfInBounds_toArray, List.set_cons_zero, List.set_cons_succ]
          refine take_slot (i := 8) (d := 23) (v := ?_) rfl rfl (by kernel_rfl) (by kernel_rfl) (by kernel_rfl) (fun _ _ _ h => h) (Or.inl ⟨by rfl, ?_⟩) (by assumption) ?_
          rotate_left 1
          focus (intro wS hSw; (try dsimp only at hSw); go_simp; try with_reducible rfl)
          try simp only [List.setIfInBounds_toArray, List.set_cons_zero, List.set_cons_succ]
          refine wpAnyH_ready (rs := [9]) (by kernel_rfl) (by simp) ?_
          refine AllReadyH.cons rfl (fun K hK => ?_) AllReadyH.nil
          skip
          go_simp
          refine (c2.out _).mono ?_; rintro e w4 ⟨rfl, rfl⟩
          refine hK.out _ _ ?_ (fun hHeld => ?_)
          focus (exact hHeld)
          clear hK K
          try simp only [Act.put, List.setIfInBounds_toArray, List.set_cons_zero, List.set_cons_succ]
          refine take_slot (i := 10) (d := 25) (v := ?_) rfl rfl (by kernel_rfl) (by kernel_rfl) (by kernel_rfl) (fun _ _ _ h => h) (Or.inl ⟨by rfl, ?_⟩) (by assumption) ?_
          rotate_left 1
          focus (intro wS hSw; (try dsimp only at hSw); go_simp; try with_reducible rfl)
          try simp only [List.setIfInBounds_toArray, List.set_cons_zero, List.set_cons_succ]
          refine wpAnyH_ready (rs := [11]) (by kernel_rfl) (by simp) ?_
          refine AllReadyH.cons rfl (fun K hK => ?_) AllReadyH.nil
          skip
          go_simp
          skip
          refine hK.out _ _ ?_ (fun hHeld => ?_)
          focus (exact hHeld)
          clear hK K
          try simp only [Act.put, List.setIfInBounds_toArray, List.set_cons_zero, List.set_cons_succ]
          refine take_slot (i := 12) (d := 4) (v := ?_) rfl rfl (by kernel_rfl) (by kernel_rfl) (by kernel_rfl) (fun _ _ _ h => h) (Or.inl ⟨by rfl, ?_⟩) (by assumption) ?_
          rotate_left 1
          focus (intro wS hSw; (try dsimp only at hSw); go_simp; try with_reducible rfl)
          try simp only [List.setIfInBounds_toArray, List.set_cons_zero, List.set_cons_succ]
          refine take_slot (i := 13) (d := 5) (v := ?_) rfl rfl (by kernel_rfl) (by kernel_rfl) (by kernel_rfl) (fun _ _ _ h => h) (Or.inl ⟨by rfl, ?_⟩) (by assumption) ?_
          rotate_left 1
          focus (intro wS hSw; (try dsimp only at hSw); go_simp; try with_reducible rfl)
          try simp only [List.setIfInBounds_toArray, List.set_cons_zero, List.set_cons_succ]
          refine wpAnyH_done (by kernel_rfl) ?_ _
          obtain ⟨_, _, hkk, _⟩ := hHeld
          go_wp2_with fail
          go_ret2
          exact ⟨ret_ints2 (by rw [E1.out]; omega) E2.out.symm, hkk⟩
  · have hvf : spB a s = false := by simpa using hv
    rw [hvf] at c1
    have hc := eC.out
    rw [hvf, if_neg (by simp)] at hc
    have ew := eW.out
    rw [hc, if_neg (by omega)] at ew
    have ee := eE.out
    rw [hc] at ee
    have E1 := Lib.hid ew
    have E2 := Lib.hid ee
    clear hc ew ee hv hvf eC eW eE
    go_enter Try.func58, Try.ntmps58
    go_wp2_with fail
    refine (c1.out _).mono ?_
    rintro e w1 ⟨rfl, hb1⟩
    have hB := below1 hb1
    clear hb1
    go_wp2_with fail
    go_ret2
    exact ⟨ret_ints2 E1.out.symm E2.out.symm, hB⟩
end Go.Proofs.Ytfkkddbghogffaa
