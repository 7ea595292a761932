/- Contracts: what the reference's ranges have in common, and the least range with all. -/
import Derived.Test.YtiibbnbknmeplaaR8
import Derived.BigRegion
namespace Go.Proofs.Ytiibbnbknmeplaa
open Go.RowKit Go.Lib Go.Shelf
set_option linter.unusedVariables false
set_option linter.unusedSimpArgs false
attribute [local go_sem ↓] Go.wp_at_zero Go.wp_at_succ

theorem rn_min2 {P : Program} (tys : Array TypeId) (ty : TypeId) (k : IntKind) (x y : Int) (w : World) : (Builtin.min_ tys ty #[.int k x, .int k y]).run P w = .ok (.int k (min x y)) w := by
  simp [Builtin.min_, Builtin.min2]
  split <;> omega
theorem kp_two {B b : Nat} {w W : World} (h : Kp B w W) (hb : w.heap.size ≤ b ∧ b ≠ B) (x y : Value) : Kp B w ((W.drew.setCell ⟨b, 0, none⟩ x).setCell ⟨b, 1, none⟩ y) := by
  obtain ⟨h1, h2, ⟨v, h3⟩, ⟨u, h4⟩, h5, h6⟩ := h
  refine ⟨(h1.drew.setCell (p := ⟨b, 0, none⟩) hb.1 _).setCell (p := ⟨b, 1, none⟩) hb.1 _, by simpa using h2, ⟨v, set2_far _ _ hb.2 h3⟩, ⟨u, set2_far _ _ hb.2 h4⟩, ?_, ?_⟩
  · rw [World.frozen?_setCell, World.frozen?_setCell]; exact h5
  · rw [World.frozen?_setCell, World.frozen?_setCell]; exact h6

set_option maxRecDepth 20000 in
set_option maxHeartbeats 4000000 in
theorem rHull_any (v : Value) (xs : List (Int × Int)) (w : World) (hv : SetAt w.heap.size w v xs) :
    Calls Try.prog 24 #[v] w fun e w' => e = .returned (.tuple #[.agg #[.int .i64 (huL xs), .int .i64 (huH xs)], .int .i64 (huE xs)]) ∧ Below w.heap.size w w' := by
  have HC : Hid (∀ W : World, Below w.heap.size w W → Calls Try.prog 96 #[v] W fun e w' => e = .returned (.int .i64 (chkL xs)) ∧ Below W.heap.size W w') := Lib.hid fun W hb => rRanges_any v xs W ((hv.below hb (Nat.le_refl _)).mono hb.size)
  have E0 : Hid (huE xs = if chkS xs = 0 then 0 else chkS xs) := Lib.hid rfl
  have E1 : Hid (huL xs = if chkS xs = 0 then (hullP xs).1 else 0) := Lib.hid rfl
  have E2 : Hid (huH xs = if chkS xs = 0 then (hullP xs).2 else 0) := Lib.hid rfl
  have hcs : chkS xs = if chkL xs = 0 then (if xs.length = 0 then 4 else 0) else chkL xs := rfl
  generalize huL xs = rl at *
  generalize huH xs = rh at *
  generalize huE xs = re at *
  by_cases h0 : chkL xs = 0
  · rw [if_pos h0] at hcs
    by_cases hnil : xs.length = 0
    · rw [if_pos hnil] at hcs
      have E0' : Hid (re = 4) := Lib.hid (by rw [E0.out, hcs]; rfl)
      have E1' : Hid (rl = 0) := Lib.hid (by rw [E1.out, hcs]; rfl)
      have E2' : Hid (rh = 0) := Lib.hid (by rw [E2.out, hcs]; rfl)
      rw [h0] at HC
      obtain ⟨A, c, rfl, _⟩ := hv
      rw [hnil] at HC ⊢
      clear E0 E1 E2 hcs h0 hnil
      go_enter Try.func24, Try.ntmps24
      go_wp2_with fail
      refine (HC.out _ ((Below.refl _ _).alloc (Nat.le_refl _) _)).mono ?_
      rintro e w1 ⟨rfl, hb⟩
      have r0 := cell_next hb (b := w.heap.size) (o := 0) (by simp <;> omega) (v := some (.int .i64 0)) (by simp [go_sem])
      have r1 := cell_next hb (b := w.heap.size) (o := 1) (by simp <;> omega) (v := some (.int .i64 0)) (by simp [go_sem])
      have f0 := frozen_next hb (b := w.heap.size) (o := 0) (by simp <;> omega) (v := false) (by simp [go_sem])
      have f1 := frozen_next hb (b := w.heap.size) (o := 1) (by simp <;> omega) (v := false) (by simp [go_sem])
      have hB := below1 hb
      clear hb
      go_wp2_with fail
      refine bodyPost_ret (v := .tuple #[.agg #[.int .i64 0, .int .i64 0], .int .i64 4]) (by simp [results, Try.results24, go_sem, r0, r1, f0, f1]) rfl ⟨by rw [E0'.out, E1'.out, E2'.out], ?_⟩
      exact (hB.setCell (p := ⟨w.heap.size, 0, none⟩) (Nat.le_refl _) _).setCell (p := ⟨w.heap.size, 1, none⟩) (Nat.le_refl _) _
    · rw [if_neg hnil] at hcs
      have hc0 := hcs
      obtain ⟨p0, ys, rfl⟩ : ∃ p0 ys, xs = p0 :: ys := by
        cases xs with
        | nil => exact absurd rfl hnil
        | cons p ys => exact ⟨p, ys, rfl⟩
      obtain ⟨S, hS⟩ : ∃ S, hullP (p0 :: ys) = S := ⟨_, rfl⟩
      have HS : Hid ((p0 :: ys).foldl hullJ p0 = S) := Lib.hid (by rw [← hS]; simp [hullP, hullJ])
      have E0' := Lib.hid (show re = 0 from by rw [E0.out, if_pos hc0])
      have E1' := Lib.hid (show rl = S.1 from by rw [E1.out, if_pos hc0, hS])
      have E2' := Lib.hid (show rh = S.2 from by rw [E2.out, if_pos hc0, hS])
      rw [h0] at HC
      have M1 : ∀ (x y : Int) tys ty w, (Builtin.min_ tys ty #[.int .i64 x, .int .i64 y]).run Try.prog w = .ok (.int .i64 (min x y)) w := fun x y tys ty w => rn_min2 tys ty .i64 _ _ w
      have M2 : ∀ (x y : Int) tys ty w, (Builtin.max_ tys ty #[.int .i64 x, .int .i64 y]).run Try.prog w = .ok (.int .i64 (max x y)) w := fun x y tys ty w => rrun_max2 tys ty .i64 _ _ w
      have hl := (chkL_ok h0).1
      clear E0 E1 E2 hcs h0 hS hc0
      obtain ⟨A, c, rfl, hr⟩ := hv
      obtain ⟨g, off, rfl, hg, hrd⟩ := hr (by simp)
      obtain ⟨n, hn⟩ : ∃ n, (p0 :: ys).length = n := ⟨_, rfl⟩
      have hn1 : 1 ≤ n := by rw [← hn]; simp
      have hp0 : (p0 :: ys)[0]? = some p0 := rfl
      obtain ⟨xs, hxs⟩ : ∃ xs, p0 :: ys = xs := ⟨_, rfl⟩
      rw [hxs] at hn hl HC hrd HS hp0 hnil ⊢
      rw [hn] at hl HC hnil ⊢
      have Hn := Lib.hid hn
      have HR := Lib.hid hrd
      have Hp0 := Lib.hid hp0
      have hn0 : ((n : Int) == 0) = false := by simp; omega
      have hn2 : (0 : Int) < (n : Int) := by omega
      clear hr hn hxs hrd hp0 hnil
      go_enter Try.func24, Try.ntmps24
      go_wp2_with fail
      refine (HC.out _ ((Below.refl _ _).alloc (Nat.le_refl _) _)).mono ?_
      rintro e w1 ⟨rfl, hb⟩
      have r0 := cell_next hb (b := w.heap.size) (o := 0) (by simp <;> omega) (v := some (.int .i64 0)) (by simp [go_sem])
      have r1 := cell_next hb (b := w.heap.size) (o := 1) (by simp <;> omega) (v := some (.int .i64 0)) (by simp [go_sem])
      have f0 := frozen_next hb (b := w.heap.size) (o := 0) (by simp <;> omega) (v := false) (by simp [go_sem])
      have f1 := frozen_next hb (b := w.heap.size) (o := 1) (by simp <;> omega) (v := false) (by simp [go_sem])
      have nz : w.heap.size < w1.heap.size := by have := hb.size; simp at this; omega
      have hB := below1 hb
      have hKp : Kp w.heap.size w w1 := ⟨hB, nz, ⟨_, r0⟩, ⟨_, r1⟩, f0, f1⟩
      have HK := Lib.hid hKp
      obtain ⟨q0, q1⟩ := (HR.out.below hB hg) 0 p0 Hp0.out
      have q0' : w1.cell? ⟨g, off, none⟩ = some (.int .i64 p0.1) := by simpa using q0
      have q1' : w1.cell? ⟨g, off + 1, none⟩ = some (.int .i64 p0.2) := by simpa using q1
      clear hb r0 r1 f0 f1 hB hKp q0 q1
      go_wp2_with fail
      go_loopw [6] (fun i wr => ∃ (k : Nat) (a : Int × Int), k ≤ n ∧ i = .int .i64 k ∧ Hid (a = (xs.take k).foldl hullJ p0) ∧ wr.cell? ⟨w1.heap.size, 0, none⟩ = some (.int .i64 a.1) ∧ wr.cell? ⟨w1.heap.size, 1, none⟩ = some (.int .i64 a.2) ∧ wr.frozen? ⟨w1.heap.size, 0, none⟩ = false ∧ wr.frozen? ⟨w1.heap.size, 1, none⟩ = false ∧ Kp w.heap.size w wr) (fun i _ => n - (intOf i).toNat)
      case atStart => exact ⟨0, p0, Nat.zero_le _, rfl, Lib.hid rfl, by simp [go_sem], by simp [go_sem], by simp [go_sem], by simp [go_sem], HK.out.next (Nat.le_of_lt nz) ((Below.refl _ _).alloc (Nat.le_refl _) _)⟩
      case round =>
        clear q0' q1' HK
        obtain ⟨k, a, hk, rfl, ha, z0, z1, y0, y1, hkp⟩ := hrel
        by_cases hlt : (k : Int) < (n : Int)
        · obtain ⟨p, hp⟩ : ∃ p, xs[k]? = some p := ⟨_, List.getElem?_eq_getElem (by rw [Hn.out]; omega)⟩
          obtain ⟨q0, q1⟩ := (HR.out.below hkp.1 hg) k p hp
          have hf : Hid (hullJ a p = (xs.take (k + 1)).foldl hullJ p0) := Lib.hid (by rw [take_snoc' xs k p hp, List.foldl_append, ← ha.out]; rfl)
          have HK := Lib.hid hkp
          clear hp hkp
          go_wp2_with fail
          go_region
          all_goals
            go_wp2_with fail
            go_roundw
          case rel => exact ⟨k + 1, hullJ a p, by omega, by go_num, hf, by simp [go_sem, hullJ, z0, z1, y0, y1], by simp [go_sem, hullJ, z0, z1, y0, y1], by simp [go_sem, y0, y1], by simp [go_sem, y0, y1], kp_two HK.out (by omega) _ _⟩
          case measure => simp [intOf]; omega
        · obtain rfl : k = n := by omega
          have hS' : Hid (a = S) := Lib.hid (by rw [ha.out, List.take_of_length_le (by rw [Hn.out]; exact Nat.le_refl _)]; exact HS.out)
          obtain rfl := hS'.out
          obtain ⟨hB, nz, ⟨v0, r0⟩, ⟨v1, r1⟩, f0, f1⟩ := hkp
          go_wp2_with fail
          refine bodyPost_ret (v := .tuple #[.agg #[.int .i64 a.1, .int .i64 a.2], .int .i64 0]) (by simp [results, Try.results24, go_sem, r0, r1, f0, f1]) rfl ⟨by rw [E0'.out, E1'.out, E2'.out], ?_⟩
          exact (hB.setCell (p := ⟨w.heap.size, 0, none⟩) (Nat.le_refl _) _).setCell (p := ⟨w.heap.size, 1, none⟩) (Nat.le_refl _) _
  · rw [if_neg h0] at hcs
    have E0' : Hid (re = chkL xs) := Lib.hid (by rw [E0.out, hcs, if_neg h0])
    have E1' : Hid (rl = 0) := Lib.hid (by rw [E1.out, hcs, if_neg h0])
    have E2' : Hid (rh = 0) := Lib.hid (by rw [E2.out, hcs, if_neg h0])
    clear E0 E1 E2 hcs
    generalize chkL xs = ce at *
    have hne : (ce != 0) = true := by simpa using h0
    obtain ⟨A, c, rfl, _⟩ := hv
    generalize xs.length = n at *
    clear h0
    go_enter Try.func24, Try.ntmps24
    go_wp2_with fail
    refine (HC.out _ ((Below.refl _ _).alloc (Nat.le_refl _) _)).mono ?_
    rintro e w1 ⟨rfl, hb⟩
    have r0 := cell_next hb (b := w.heap.size) (o := 0) (by simp <;> omega) (v := some (.int .i64 0)) (by simp [go_sem])
    have r1 := cell_next hb (b := w.heap.size) (o := 1) (by simp <;> omega) (v := some (.int .i64 0)) (by simp [go_sem])
    have f0 := frozen_next hb (b := w.heap.size) (o := 0) (by simp <;> omega) (v := false) (by simp [go_sem])
    have f1 := frozen_next hb (b := w.heap.size) (o := 1) (by simp <;> omega) (v := false) (by simp [go_sem])
    have hB := below1 hb
    clear hb
    go_wp2_with fail
    refine bodyPost_ret (v := .tuple #[.agg #[.int .i64 0, .int .i64 0], .int .i64 ce]) (by simp [results, Try.results24, go_sem, r0, r1, f0, f1]) rfl ⟨by rw [E0'.out, E1'.out, E2'.out], ?_⟩
    exact (hB.setCell (p := ⟨w.heap.size, 0, none⟩) (Nat.le_refl _) _).setCell (p := ⟨w.heap.size, 1, none⟩) (Nat.le_refl _) _

end Go.Proofs.Ytiibbnbknmeplaa
