/- Contracts: what the reference's ranges have in common, differences, and lists that are the same. -/
import Derived.Test.YtiibbnbknmeplaaR9
import Derived.BigRegion
namespace Go.Proofs.Ytiibbnbknmeplaa
open Go.RowKit Go.Lib Go.Shelf
set_option linter.unusedVariables false
set_option linter.unusedSimpArgs false
attribute [local go_sem ↓] Go.wp_at_zero Go.wp_at_succ


set_option maxRecDepth 20000 in
set_option maxHeartbeats 4000000 in
theorem rMeet_any (v : Value) (xs : List (Int × Int)) (w : World) (hv : SetAt w.heap.size w v xs) :
    Calls Try.prog 23 #[v] w fun e w' => e = .returned (.tuple #[.agg #[.int .i64 (meL xs), .int .i64 (meH xs)], .int .i64 (meE xs)]) ∧ Below w.heap.size w w' := by
  have HC : Hid (∀ W : World, Below w.heap.size w W → Calls Try.prog 96 #[v] W fun e w' => e = .returned (.int .i64 (chkL xs)) ∧ Below W.heap.size W w') := Lib.hid fun W hb => rRanges_any v xs W ((hv.below hb (Nat.le_refl _)).mono hb.size)
  have E0 : Hid (meE xs = if chkS xs = 0 then if (meetP xs).2 < (meetP xs).1 then 7 else 0 else chkS xs) := Lib.hid rfl
  have E1 : Hid (meL xs = if chkS xs = 0 then if (meetP xs).2 < (meetP xs).1 then 0 else (meetP xs).1 else 0) := Lib.hid rfl
  have E2 : Hid (meH xs = if chkS xs = 0 then if (meetP xs).2 < (meetP xs).1 then 0 else (meetP xs).2 else 0) := Lib.hid rfl
  have hcs : chkS xs = if chkL xs = 0 then (if xs.length = 0 then 4 else 0) else chkL xs := rfl
  generalize meL xs = rl at *
  generalize meH xs = rh at *
  generalize meE xs = re at *
  by_cases h0 : chkL xs = 0
  · rw [if_pos h0] at hcs
    by_cases hnil : xs.length = 0
    · rw [if_pos hnil] at hcs
      have E0' : Hid (re = 4) := Lib.hid (by rw [E0.out, hcs]; rfl)
      have E1' : Hid (rl = 0) := Lib.hid (by rw [E1.out, hcs]; rfl)
      have E2' : Hid (rh = 0) := Lib.hid (by rw [E2.out, hcs]; rfl)
      rw [h0] at HC
      obtain ⟨A, c, rfl, _⟩ := hv
      rw [hnil] at HC ⊢
      clear E0 E1 E2 hcs h0 hnil
      go_enter Try.func23, Try.ntmps23
      go_wp2_with fail
      refine (HC.out _ ((Below.refl _ _).alloc (Nat.le_refl _) _)).mono ?_
      rintro e w1 ⟨rfl, hb⟩
      have r0 := cell_next hb (b := w.heap.size) (o := 0) (by simp <;> omega) (v := some (.int .i64 0)) (by simp [go_sem])
      have r1 := cell_next hb (b := w.heap.size) (o := 1) (by simp <;> omega) (v := some (.int .i64 0)) (by simp [go_sem])
      have f0 := frozen_next hb (b := w.heap.size) (o := 0) (by simp <;> omega) (v := false) (by simp [go_sem])
      have f1 := frozen_next hb (b := w.heap.size) (o := 1) (by simp <;> omega) (v := false) (by simp [go_sem])
      have hB := below1 hb
      clear hb
      go_wp2_with fail
      refine bodyPost_ret (v := .tuple #[.agg #[.int .i64 0, .int .i64 0], .int .i64 4]) (by simp [results, Try.results23, go_sem, r0, r1, f0, f1]) rfl ⟨by rw [E0'.out, E1'.out, E2'.out], ?_⟩
      exact (hB.setCell (p := ⟨w.heap.size, 0, none⟩) (Nat.le_refl _) _).setCell (p := ⟨w.heap.size, 1, none⟩) (Nat.le_refl _) _
    · rw [if_neg hnil] at hcs
      have hc0 := hcs
      obtain ⟨p0, ys, rfl⟩ : ∃ p0 ys, xs = p0 :: ys := by
        cases xs with
        | nil => exact absurd rfl hnil
        | cons p ys => exact ⟨p, ys, rfl⟩
      obtain ⟨S, hS⟩ : ∃ S, meetP (p0 :: ys) = S := ⟨_, rfl⟩
      have HS : Hid ((p0 :: ys).foldl meetJ p0 = S) := Lib.hid (by rw [← hS]; simp [meetP, meetJ])
      have E0' := Lib.hid (show re = if S.2 < S.1 then 7 else 0 from by rw [E0.out, if_pos hc0, hS])
      have E1' := Lib.hid (show rl = if S.2 < S.1 then 0 else S.1 from by rw [E1.out, if_pos hc0, hS])
      have E2' := Lib.hid (show rh = if S.2 < S.1 then 0 else S.2 from by rw [E2.out, if_pos hc0, hS])
      rw [h0] at HC
      have M1 : ∀ (x y : Int) tys ty w, (Builtin.min_ tys ty #[.int .i64 x, .int .i64 y]).run Try.prog w = .ok (.int .i64 (min x y)) w := fun x y tys ty w => rn_min2 tys ty .i64 _ _ w
      have M2 : ∀ (x y : Int) tys ty w, (Builtin.max_ tys ty #[.int .i64 x, .int .i64 y]).run Try.prog w = .ok (.int .i64 (max x y)) w := fun x y tys ty w => rrun_max2 tys ty .i64 _ _ w
      have hl := (chkL_ok h0).1
      clear E0 E1 E2 hcs h0 hS hc0
      obtain ⟨A, c, rfl, hr⟩ := hv
      obtain ⟨g, off, rfl, hg, hrd⟩ := hr (by simp)
      obtain ⟨n, hn⟩ : ∃ n, (p0 :: ys).length = n := ⟨_, rfl⟩
      have hn1 : 1 ≤ n := by rw [← hn]; simp
      have hp0 : (p0 :: ys)[0]? = some p0 := rfl
      obtain ⟨xs, hxs⟩ : ∃ xs, p0 :: ys = xs := ⟨_, rfl⟩
      rw [hxs] at hn hl HC hrd HS hp0 hnil ⊢
      rw [hn] at hl HC hnil ⊢
      have Hn := Lib.hid hn
      have HR := Lib.hid hrd
      have Hp0 := Lib.hid hp0
      have hn0 : ((n : Int) == 0) = false := by simp; omega
      have hn2 : (0 : Int) < (n : Int) := by omega
      clear hr hn hxs hrd hp0 hnil
      go_enter Try.func23, Try.ntmps23
      go_wp2_with fail
      refine (HC.out _ ((Below.refl _ _).alloc (Nat.le_refl _) _)).mono ?_
      rintro e w1 ⟨rfl, hb⟩
      have r0 := cell_next hb (b := w.heap.size) (o := 0) (by simp <;> omega) (v := some (.int .i64 0)) (by simp [go_sem])
      have r1 := cell_next hb (b := w.heap.size) (o := 1) (by simp <;> omega) (v := some (.int .i64 0)) (by simp [go_sem])
      have f0 := frozen_next hb (b := w.heap.size) (o := 0) (by simp <;> omega) (v := false) (by simp [go_sem])
      have f1 := frozen_next hb (b := w.heap.size) (o := 1) (by simp <;> omega) (v := false) (by simp [go_sem])
      have nz : w.heap.size < w1.heap.size := by have := hb.size; simp at this; omega
      have hB := below1 hb
      have hKp : Kp w.heap.size w w1 := ⟨hB, nz, ⟨_, r0⟩, ⟨_, r1⟩, f0, f1⟩
      have HK := Lib.hid hKp
      obtain ⟨q0, q1⟩ := (HR.out.below hB hg) 0 p0 Hp0.out
      have q0' : w1.cell? ⟨g, off, none⟩ = some (.int .i64 p0.1) := by simpa using q0
      have q1' : w1.cell? ⟨g, off + 1, none⟩ = some (.int .i64 p0.2) := by simpa using q1
      clear hb r0 r1 f0 f1 hB hKp q0 q1
      go_wp2_with fail
      go_loopw [6] (fun i wr => ∃ (k : Nat) (a : Int × Int), k ≤ n ∧ i = .int .i64 k ∧ Hid (a = (xs.take k).foldl meetJ p0) ∧ wr.cell? ⟨w1.heap.size, 0, none⟩ = some (.int .i64 a.1) ∧ wr.cell? ⟨w1.heap.size, 1, none⟩ = some (.int .i64 a.2) ∧ wr.frozen? ⟨w1.heap.size, 0, none⟩ = false ∧ wr.frozen? ⟨w1.heap.size, 1, none⟩ = false ∧ Kp w.heap.size w wr) (fun i _ => n - (intOf i).toNat)
      case atStart => exact ⟨0, p0, Nat.zero_le _, rfl, Lib.hid rfl, by simp [go_sem], by simp [go_sem], by simp [go_sem], by simp [go_sem], HK.out.next (Nat.le_of_lt nz) ((Below.refl _ _).alloc (Nat.le_refl _) _)⟩
      case round =>
        clear q0' q1' HK
        obtain ⟨k, a, hk, rfl, ha, z0, z1, y0, y1, hkp⟩ := hrel
        by_cases hlt : (k : Int) < (n : Int)
        · obtain ⟨p, hp⟩ : ∃ p, xs[k]? = some p := ⟨_, List.getElem?_eq_getElem (by rw [Hn.out]; omega)⟩
          obtain ⟨q0, q1⟩ := (HR.out.below hkp.1 hg) k p hp
          have hf : Hid (meetJ a p = (xs.take (k + 1)).foldl meetJ p0) := Lib.hid (by rw [take_snoc' xs k p hp, List.foldl_append, ← ha.out]; rfl)
          have HK := Lib.hid hkp
          clear hp hkp
          go_wp2_with fail
          go_region
          all_goals
            go_wp2_with fail
            go_roundw
          case rel => exact ⟨k + 1, meetJ a p, by omega, by go_num, hf, by simp [go_sem, meetJ, z0, z1, y0, y1], by simp [go_sem, meetJ, z0, z1, y0, y1], by simp [go_sem, y0, y1], by simp [go_sem, y0, y1], kp_two HK.out (by omega) _ _⟩
          case measure => simp [intOf]; omega
        · obtain rfl : k = n := by omega
          have hS' : Hid (a = S) := Lib.hid (by rw [ha.out, List.take_of_length_le (by rw [Hn.out]; exact Nat.le_refl _)]; exact HS.out)
          obtain rfl := hS'.out
          obtain ⟨hB, nz, ⟨v0, r0⟩, ⟨v1, r1⟩, f0, f1⟩ := hkp
          by_cases hgt : a.2 < a.1
          · have t0 := E0'.out
            have t1 := E1'.out
            have t2 := E2'.out
            rw [if_pos hgt] at t0 t1 t2
            replace E0' := Lib.hid t0
            replace E1' := Lib.hid t1
            replace E2' := Lib.hid t2
            clear t0 t1 t2
            go_wp2_with fail
            refine bodyPost_ret (v := .tuple #[.agg #[.int .i64 0, .int .i64 0], .int .i64 7]) (by simp [results, Try.results23, go_sem, r0, r1, f0, f1]) rfl ⟨by rw [E0'.out, E1'.out, E2'.out], ?_⟩
            exact (hB.setCell (p := ⟨w.heap.size, 0, none⟩) (Nat.le_refl _) _).setCell (p := ⟨w.heap.size, 1, none⟩) (Nat.le_refl _) _
          · have t0 := E0'.out
            have t1 := E1'.out
            have t2 := E2'.out
            rw [if_neg hgt] at t0 t1 t2
            replace E0' := Lib.hid t0
            replace E1' := Lib.hid t1
            replace E2' := Lib.hid t2
            clear t0 t1 t2
            go_wp2_with fail
            refine bodyPost_ret (v := .tuple #[.agg #[.int .i64 a.1, .int .i64 a.2], .int .i64 0]) (by simp [results, Try.results23, go_sem, r0, r1, f0, f1]) rfl ⟨by rw [E0'.out, E1'.out, E2'.out], ?_⟩
            exact (hB.setCell (p := ⟨w.heap.size, 0, none⟩) (Nat.le_refl _) _).setCell (p := ⟨w.heap.size, 1, none⟩) (Nat.le_refl _) _
  · rw [if_neg h0] at hcs
    have E0' : Hid (re = chkL xs) := Lib.hid (by rw [E0.out, hcs, if_neg h0])
    have E1' : Hid (rl = 0) := Lib.hid (by rw [E1.out, hcs, if_neg h0])
    have E2' : Hid (rh = 0) := Lib.hid (by rw [E2.out, hcs, if_neg h0])
    clear E0 E1 E2 hcs
    generalize chkL xs = ce at *
    have hne : (ce != 0) = true := by simpa using h0
    obtain ⟨A, c, rfl, _⟩ := hv
    generalize xs.length = n at *
    clear h0
    go_enter Try.func23, Try.ntmps23
    go_wp2_with fail
    refine (HC.out _ ((Below.refl _ _).alloc (Nat.le_refl _) _)).mono ?_
    rintro e w1 ⟨rfl, hb⟩
    have r0 := cell_next hb (b := w.heap.size) (o := 0) (by simp <;> omega) (v := some (.int .i64 0)) (by simp [go_sem])
    have r1 := cell_next hb (b := w.heap.size) (o := 1) (by simp <;> omega) (v := some (.int .i64 0)) (by simp [go_sem])
    have f0 := frozen_next hb (b := w.heap.size) (o := 0) (by simp <;> omega) (v := false) (by simp [go_sem])
    have f1 := frozen_next hb (b := w.heap.size) (o := 1) (by simp <;> omega) (v := false) (by simp [go_sem])
    have hB := below1 hb
    clear hb
    go_wp2_with fail
    refine bodyPost_ret (v := .tuple #[.agg #[.int .i64 0, .int .i64 0], .int .i64 ce]) (by simp [results, Try.results23, go_sem, r0, r1, f0, f1]) rfl ⟨by rw [E0'.out, E1'.out, E2'.out], ?_⟩
    exact (hB.setCell (p := ⟨w.heap.size, 0, none⟩) (Nat.le_refl _) _).setCell (p := ⟨w.heap.size, 1, none⟩) (Nat.le_refl _) _

set_option maxRecDepth 20000 in
set_option maxHeartbeats 1000000 in
theorem rLess_any (a1 a2 b1 b2 : Int) (w : World) :
    Calls Try.prog 26 #[.agg #[.int .i64 a1, .int .i64 a2], .agg #[.int .i64 b1, .int .i64 b2]] w fun e w' => e = .returned (.tuple #[.agg #[.int .i64 (lsL a1 a2 b1 b2), .int .i64 (lsH a1 a2 b1 b2)], .int .i64 (lsE a1 a2 b1 b2)]) ∧ Below w.heap.size w w' := by
  have c1 := Lib.hid (rRange_any a1 a2)
  have c2 := Lib.hid (rRange_any b1 b2)
  by_cases ha : vrB a1 a2 = true
  · by_cases hb : vrB b1 b2 = true
    · skip
      have h0 : (vrB a1 a2 && vrB b1 b2) = true := by rw [ha, hb]; rfl
      have va := vrB_of' ha
      have vb := vrB_of' hb
      rw [ha] at c1
      rw [hb] at c2
      clear ha hb
      have hle : a1 - b2 ≤ a2 - b1 := by omega
      have E : Hid (lsE a1 a2 b1 b2 = fitE (a1 - b2) (a2 - b1)) := Lib.hid (by unfold lsE; rw [h0]; rfl)
      have E1 : Hid (lsL a1 a2 b1 b2 = fitL (a1 - b2) (a2 - b1)) := Lib.hid (by unfold lsL; rw [h0]; rfl)
      have E2 : Hid (lsH a1 a2 b1 b2 = fitH (a1 - b2) (a2 - b1)) := Lib.hid (by unfold lsH; rw [h0]; rfl)
      have c3 := Lib.hid (rFits_any (a1 - b2) (a2 - b1) hle)
      obtain ⟨va1, va2, va3⟩ := va
      obtain ⟨vb1, vb2, vb3⟩ := vb
      generalize fitE (a1 - b2) (a2 - b1) = re at *
      generalize fitL (a1 - b2) (a2 - b1) = rl at *
      generalize fitH (a1 - b2) (a2 - b1) = rh at *
      clear h0 hle
      go_enter Try.func26, Try.ntmps26
      go_wp2_with fail
      refine (c1.out _).mono ?_
      rintro e w1 ⟨rfl, hb⟩
      have a0 := cell_next hb (b := w.heap.size) (o := 0) (by simp <;> omega) (v := some (.int .i64 a1)) (by simp [go_sem])
      have a0' := cell_next hb (b := w.heap.size) (o := 1) (by simp <;> omega) (v := some (.int .i64 a2)) (by simp [go_sem])
      have x0 := cell_next hb (b := w.heap.size + 1) (o := 0) (by simp <;> omega) (v := some (.int .i64 b1)) (by simp [go_sem])
      have x1 := cell_next hb (b := w.heap.size + 1) (o := 1) (by simp <;> omega) (v := some (.int .i64 b2)) (by simp [go_sem])
      have r0 := cell_next hb (b := w.heap.size + 1 + 1) (o := 0) (by simp <;> omega) (v := some (.int .i64 0)) (by simp [go_sem])
      have r1 := cell_next hb (b := w.heap.size + 1 + 1) (o := 1) (by simp <;> omega) (v := some (.int .i64 0)) (by simp [go_sem])
      have f0 := frozen_next hb (b := w.heap.size + 1 + 1) (o := 0) (by simp <;> omega) (v := false) (by simp [go_sem])
      have f1 := frozen_next hb (b := w.heap.size + 1 + 1) (o := 1) (by simp <;> omega) (v := false) (by simp [go_sem])
      have hB := below3 hb
      have nz : w.heap.size + 1 + 1 < w1.heap.size := by have := hb.size; simp at this; omega
      clear hb
      go_wp2_with fail
      refine (c2.out _).mono ?_
      rintro e w2 ⟨rfl, hb⟩
      have nz0 : w.heap.size < w1.heap.size := by omega
      have nz1 : w.heap.size + 1 < w1.heap.size := by omega
      replace a0 := cell_next hb nz0 a0
      replace a0' := cell_next hb nz0 a0'
      replace x0 := cell_next hb nz1 x0
      replace x1 := cell_next hb nz1 x1
      replace r0 := cell_next hb nz r0
      replace r1 := cell_next hb nz r1
      replace f0 := frozen_next hb nz f0
      replace f1 := frozen_next hb nz f1
      replace nz := Nat.lt_of_lt_of_le nz hb.size
      replace hB := hB.trans (hb.mono hB.size)
      clear hb nz0 nz1
      go_wp2_with fail
      refine (c3.out _).mono ?_
      rintro e w3 ⟨rfl, hb⟩
      replace r0 := cell_next hb nz r0
      replace r1 := cell_next hb nz r1
      replace f0 := frozen_next hb nz f0
      replace f1 := frozen_next hb nz f1
      replace nz := Nat.lt_of_lt_of_le nz hb.size
      replace hB := hB.trans (hb.mono hB.size)
      clear hb
      go_wp2_with fail
      refine bodyPost_ret (v := .tuple #[.agg #[.int .i64 rl, .int .i64 rh], .int .i64 re]) (by simp [results, Try.results26, go_sem, r0, r1, f0, f1]) rfl ⟨by rw [E.out, E1.out, E2.out], ?_⟩
      exact (hB.setCell (p := ⟨w.heap.size + 1 + 1, 0, none⟩) (Nat.le_succ_of_le (Nat.le_succ _)) _).setCell (p := ⟨w.heap.size + 1 + 1, 1, none⟩) (Nat.le_succ_of_le (Nat.le_succ _)) _

    · have hbf : vrB b1 b2 = false := by simpa using hb
      have h0 : (vrB a1 a2 && vrB b1 b2) = false := by rw [hbf, Bool.and_false]
      have E : Hid (lsE a1 a2 b1 b2 = 2) := Lib.hid (by unfold lsE; rw [h0]; rfl)
      have E1 : Hid (lsL a1 a2 b1 b2 = 0) := Lib.hid (by unfold lsL; rw [h0]; rfl)
      have E2 : Hid (lsH a1 a2 b1 b2 = 0) := Lib.hid (by unfold lsH; rw [h0]; rfl)
      rw [ha] at c1
      rw [hbf] at c2
      clear ha hb hbf h0
      go_enter Try.func26, Try.ntmps26
      go_wp2_with fail
      refine (c1.out _).mono ?_
      rintro e w1 ⟨rfl, hb⟩
      have a0 := cell_next hb (b := w.heap.size) (o := 0) (by simp <;> omega) (v := some (.int .i64 a1)) (by simp [go_sem])
      have a0' := cell_next hb (b := w.heap.size) (o := 1) (by simp <;> omega) (v := some (.int .i64 a2)) (by simp [go_sem])
      have x0 := cell_next hb (b := w.heap.size + 1) (o := 0) (by simp <;> omega) (v := some (.int .i64 b1)) (by simp [go_sem])
      have x1 := cell_next hb (b := w.heap.size + 1) (o := 1) (by simp <;> omega) (v := some (.int .i64 b2)) (by simp [go_sem])
      have r0 := cell_next hb (b := w.heap.size + 1 + 1) (o := 0) (by simp <;> omega) (v := some (.int .i64 0)) (by simp [go_sem])
      have r1 := cell_next hb (b := w.heap.size + 1 + 1) (o := 1) (by simp <;> omega) (v := some (.int .i64 0)) (by simp [go_sem])
      have f0 := frozen_next hb (b := w.heap.size + 1 + 1) (o := 0) (by simp <;> omega) (v := false) (by simp [go_sem])
      have f1 := frozen_next hb (b := w.heap.size + 1 + 1) (o := 1) (by simp <;> omega) (v := false) (by simp [go_sem])
      have hB := below3 hb
      have nz : w.heap.size + 1 + 1 < w1.heap.size := by have := hb.size; simp at this; omega
      clear hb
      go_wp2_with fail
      refine (c2.out _).mono ?_
      rintro e w2 ⟨rfl, hb⟩
      have nz0 : w.heap.size < w1.heap.size := by omega
      have nz1 : w.heap.size + 1 < w1.heap.size := by omega
      replace a0 := cell_next hb nz0 a0
      replace a0' := cell_next hb nz0 a0'
      replace x0 := cell_next hb nz1 x0
      replace x1 := cell_next hb nz1 x1
      replace r0 := cell_next hb nz r0
      replace r1 := cell_next hb nz r1
      replace f0 := frozen_next hb nz f0
      replace f1 := frozen_next hb nz f1
      replace nz := Nat.lt_of_lt_of_le nz hb.size
      replace hB := hB.trans (hb.mono hB.size)
      clear hb nz0 nz1
      go_wp2_with fail
      refine bodyPost_ret (v := .tuple #[.agg #[.int .i64 0, .int .i64 0], .int .i64 2]) (by simp [results, Try.results26, go_sem, r0, r1, f0, f1]) rfl ⟨by rw [E.out, E1.out, E2.out], ?_⟩
      exact (hB.setCell (p := ⟨w.heap.size + 1 + 1, 0, none⟩) (Nat.le_succ_of_le (Nat.le_succ _)) _).setCell (p := ⟨w.heap.size + 1 + 1, 1, none⟩) (Nat.le_succ_of_le (Nat.le_succ _)) _

  · have haf : vrB a1 a2 = false := by simpa using ha
    have h0 : (vrB a1 a2 && vrB b1 b2) = false := by rw [haf, Bool.false_and]
    have E : Hid (lsE a1 a2 b1 b2 = 2) := Lib.hid (by unfold lsE; rw [h0]; rfl)
    have E1 : Hid (lsL a1 a2 b1 b2 = 0) := Lib.hid (by unfold lsL; rw [h0]; rfl)
    have E2 : Hid (lsH a1 a2 b1 b2 = 0) := Lib.hid (by unfold lsH; rw [h0]; rfl)
    rw [haf] at c1
    clear ha haf h0
    go_enter Try.func26, Try.ntmps26
    go_wp2_with fail
    refine (c1.out _).mono ?_
    rintro e w1 ⟨rfl, hb⟩
    have a0 := cell_next hb (b := w.heap.size) (o := 0) (by simp <;> omega) (v := some (.int .i64 a1)) (by simp [go_sem])
    have a0' := cell_next hb (b := w.heap.size) (o := 1) (by simp <;> omega) (v := some (.int .i64 a2)) (by simp [go_sem])
    have x0 := cell_next hb (b := w.heap.size + 1) (o := 0) (by simp <;> omega) (v := some (.int .i64 b1)) (by simp [go_sem])
    have x1 := cell_next hb (b := w.heap.size + 1) (o := 1) (by simp <;> omega) (v := some (.int .i64 b2)) (by simp [go_sem])
    have r0 := cell_next hb (b := w.heap.size + 1 + 1) (o := 0) (by simp <;> omega) (v := some (.int .i64 0)) (by simp [go_sem])
    have r1 := cell_next hb (b := w.heap.size + 1 + 1) (o := 1) (by simp <;> omega) (v := some (.int .i64 0)) (by simp [go_sem])
    have f0 := frozen_next hb (b := w.heap.size + 1 + 1) (o := 0) (by simp <;> omega) (v := false) (by simp [go_sem])
    have f1 := frozen_next hb (b := w.heap.size + 1 + 1) (o := 1) (by simp <;> omega) (v := false) (by simp [go_sem])
    have hB := below3 hb
    have nz : w.heap.size + 1 + 1 < w1.heap.size := by have := hb.size; simp at this; omega
    clear hb
    go_wp2_with fail
    refine bodyPost_ret (v := .tuple #[.agg #[.int .i64 0, .int .i64 0], .int .i64 2]) (by simp [results, Try.results26, go_sem, r0, r1, f0, f1]) rfl ⟨by rw [E.out, E1.out, E2.out], ?_⟩
    exact (hB.setCell (p := ⟨w.heap.size + 1 + 1, 0, none⟩) (Nat.le_succ_of_le (Nat.le_succ _)) _).setCell (p := ⟨w.heap.size + 1 + 1, 1, none⟩) (Nat.le_succ_of_le (Nat.le_succ _)) _

set_option maxRecDepth 20000 in
set_option maxHeartbeats 2000000 in
theorem lSame_any (u v : Value) (xs : List (Int × Int)) (hl : xs.length ≤ 1000) (w : World) (hu : SetAt w.heap.size w u xs) (hv : SetAt w.heap.size w v xs) :
    Calls Try.prog 21 #[u, v] w fun e w' => e = .returned (.bool true) ∧ Below w.heap.size w w' := by
  obtain ⟨A, c, rfl, hr⟩ := hu
  obtain ⟨A', c', rfl, hr'⟩ := hv
  obtain ⟨n, hn⟩ : ∃ n, xs.length = n := ⟨_, rfl⟩
  rw [hn] at hl hr hr' ⊢
  have Hn := Lib.hid hn
  have HR := Lib.hid hr
  have HR' := Lib.hid hr'
  clear hr hr' hn
  go_enter Try.func21, Try.ntmps21
  go_wp2_with fail
  go_loopw [5] (fun i wr => ∃ k : Nat, k ≤ n ∧ i = .int .i64 k ∧ Below w.heap.size w wr) (fun i _ => n - (intOf i).toNat)
  case atStart => exact ⟨0, Nat.zero_le _, rfl, Below.refl _ _⟩
  case round =>
    obtain ⟨k, hk, rfl, hB⟩ := hrel
    by_cases hlt : (k : Int) < (n : Int)
    · obtain ⟨p, hp⟩ : ∃ p, xs[k]? = some p := ⟨_, List.getElem?_eq_getElem (by rw [Hn.out]; omega)⟩
      obtain ⟨g, off, rfl, hg, hc⟩ := HR.out (by omega)
      obtain ⟨g', off', rfl, hg', hc'⟩ := HR'.out (by omega)
      obtain ⟨q0, q1⟩ := (hc.below hB hg) k p hp
      obtain ⟨s0, s1⟩ := (hc'.below hB hg') k p hp
      clear hp hc hc'
      go_wp2_with fail
      go_quiet (fail)
      go_wp2_with fail
      go_roundw
      case rel => exact ⟨k + 1, by omega, by go_num, below_drewN hB _⟩
      case measure => simp [intOf]; omega
    · obtain rfl : k = n := by omega
      go_wp2_with fail
      go_ret
      exact ⟨rfl, hB⟩

end Go.Proofs.Ytiibbnbknmeplaa
