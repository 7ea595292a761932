/- Contracts: where the value of any table lies in any range, with errors. -/
import Derived.Test.YtkhongbemoahpaaP13
import Derived.Test.YtkhongbemoahpaaC26
import Derived.Test.YtkhongbemoahpaaD65
namespace Go.Proofs.Ytkhongbemoahpaa
open Go.RowKit Go.Lib Go.Shelf
set_option linter.unusedVariables false
set_option linter.unusedSimpArgs false
attribute [local go_sem ↓] Go.wp_at_zero Go.wp_at_succ

set_option maxRecDepth 20000 in
set_option maxHeartbeats 2000000 in
theorem places_flat (ax ay bx yl yh : Int) (h1 : -1000000000 ≤ ax ∧ ax ≤ 1000000000) (h2 : -1000000000 ≤ bx ∧ bx ≤ 1000000000) (w : World) :
    Calls Try.prog 25 #[.agg #[.int .i64 ax, .int .i64 ay], .agg #[.int .i64 bx, .int .i64 ay], .agg #[.int .i64 yl, .int .i64 yh]] w fun e w' =>
      e = .returned (.tuple #[.agg #[.int .i64 ax, .int .i64 bx], .bool (decide (yl ≤ ay) && decide (ay ≤ yh))]) ∧ Below w.heap.size w w' := by
  have hw1 : IntKind.i64.wrap (ay - ay) = 0 := by rw [show ay - ay = 0 from by omega]; exact IntWalk.i64_in _ (by omega)
  have hw2 : IntKind.i64.wrap (bx - ax) = bx - ax := IntWalk.i64_in _ (by omega)
  obtain ⟨a, ha⟩ : ∃ a, decide (yl ≤ ay) = a := ⟨_, rfl⟩
  obtain ⟨b, hb⟩ : ∃ b, decide (ay ≤ yh) = b := ⟨_, rfl⟩
  rw [ha, hb]
  cases a <;> cases b
  all_goals
    go_enter Try.func25, Try.ntmps25
    go_wp2_with fail
    go_quiet (fail)
    go_wp2_with fail
    go_region
    all_goals
      go_wp2_with fail
      refine bodyPost_ret (res_places (g := w.heap.size + 1 + 1 + 1) (by rfl) (by rfl) ?_ ?_) rfl ⟨rfl, ?_⟩
      · simp [go_sem]
      · simp [go_sem]
      repeat (first | with_reducible exact Below.refl _ _ | with_reducible refine Below.drew ?_ | with_reducible refine below_drewN ?_ _ | (with_reducible refine Below.alloc ?_ ?_ _; rotate_left 1; focus (simp [go_sem] <;> omega)) | (with_reducible refine Below.setCell ?_ ?_ _; rotate_left 1; focus (simp <;> omega)))

theorem plK_at {xs : List (Int × Int)} (ht : TabOk xs) (yl yh : Int) (hy : vrB yl yh = true) : PlacesAt xs yl yh (plK xs yl yh) := by
  intro k p q hp hq
  rw [plK_of hp hq]
  have hpq := ht.2.2.2 k (k + 1) p q (by omega) hp hq
  have hr := ht.2.2.1 p (List.mem_of_getElem? hp)
  have hs := ht.2.2.1 q (List.mem_of_getElem? hq)
  obtain ⟨r1, r2, r3, r4⟩ := rowB_of hr
  obtain ⟨s1, s2, s3, s4⟩ := rowB_of hs
  obtain ⟨y1, y2, y3⟩ := vrB_of hy
  refine ⟨fun h => ?_, fun W => ?_⟩
  · have := plP_hi p q yl yh
    have := plP_lo p q yl yh h (by omega)
    omega
  · by_cases h0 : q.2 - p.2 = 0
    · unfold plP
      rw [if_pos h0]
      rw [show q.2 = p.2 from by omega]
      exact places_flat p.1 p.2 q.1 yl yh ⟨r1, r2⟩ ⟨s1, s2⟩ W
    · by_cases hn : q.2 - p.2 < 0
      · unfold plP
        rw [if_neg h0, if_pos hn]
        have b1 := q_bd (yh - p.2) (q.1 - p.1) (q.2 - p.2)
        have b2 := q_bd (yl - p.2) (q.1 - p.1) (q.2 - p.2)
        exact places_slope p.1 p.2 q.1 q.2 yl yh yh yl _ _ hr hs hy h0 (.inl ⟨hn, rfl, rfl⟩) rfl rfl (divide_any _ _ _ ⟨by omega, by omega⟩ ⟨by omega, by omega⟩ ⟨by omega, by omega⟩ h0) (divide_any _ _ _ ⟨by omega, by omega⟩ ⟨by omega, by omega⟩ ⟨by omega, by omega⟩ h0) (by omega) (by omega) W
      · unfold plP
        rw [if_neg h0, if_neg hn]
        have b1 := q_bd (yl - p.2) (q.1 - p.1) (q.2 - p.2)
        have b2 := q_bd (yh - p.2) (q.1 - p.1) (q.2 - p.2)
        exact places_slope p.1 p.2 q.1 q.2 yl yh yl yh _ _ hr hs hy h0 (.inr ⟨hn, rfl, rfl⟩) rfl rfl (divide_any _ _ _ ⟨by omega, by omega⟩ ⟨by omega, by omega⟩ ⟨by omega, by omega⟩ h0) (divide_any _ _ _ ⟨by omega, by omega⟩ ⟨by omega, by omega⟩ ⟨by omega, by omega⟩ h0) (by omega) (by omega) W

/-- the error of Where, and what it returns -/
def whE (xs : List (Int × Int)) (yl yh : Int) : Int := if tabE xs = 0 then (if vrB yl yh = true then 0 else 2) else tabE xs
def whR (xs : List (Int × Int)) (yl yh : Int) : List (Int × Int) := if whE xs yl yh = 0 then whV xs yl yh else []
theorem whR_len (xs : List (Int × Int)) (yl yh : Int) : (whR xs yl yh).length ≤ 60 := by
  by_cases h : whE xs yl yh = 0
  · have ht : tabE xs = 0 := by
      by_cases ht : tabE xs = 0
      · exact ht
      · unfold whE at h; rw [if_neg ht] at h; exact absurd h ht
    have := whV_length xs yl yh
    have := (tabOk_of ht).2.1
    unfold whR
    rw [if_pos h]
    omega
  · unfold whR
    rw [if_neg h]
    simp
def WhPost (w : World) (ys : List (Int × Int)) (err : Int) (e : Ending) (w' : World) : Prop :=
  ∃ v, e = .returned (.tuple #[v, .int .i64 err]) ∧ w'.ownsRow (w.heap.size + 1) 32 2 v ys.length (flat ys) ∧ Below w.heap.size w w'
set_option maxRecDepth 20000 in
set_option maxHeartbeats 2000000 in
theorem where_any (v : Value) (xs : List (Int × Int)) (yl yh : Int) (w : World) (hv : SetAt w.heap.size w v xs) :
    Calls Try.prog 8 #[v, .agg #[.int .i64 yl, .int .i64 yh]] w (WhPost w (whR xs yl yh) (whE xs yl yh)) := by
  have c1 := Lib.hid (fun (W : World) (h : Below w.heap.size w W) => checkTable_any v xs W ((hv.below h (Nat.le_refl _)).mono h.size))
  by_cases ht : tabE xs = 0
  · by_cases hy : vrB yl yh = true
    · have hT := tabOk_of ht
      have e1 : whE xs yl yh = 0 := by unfold whE; rw [if_pos ht, if_pos hy]
      have e2 : whR xs yl yh = whV xs yl yh := by unfold whR; rw [if_pos e1]
      obtain ⟨A, c, rfl, h⟩ := hv
      obtain ⟨g, off, rfl, hg, hr⟩ := h (by have := hT.1; omega)
      rw [e1, e2]
      refine (where_ok xs yl yh (plK xs yl yh) g off c (plK_at hT yl yh hy) ht hT.1 hT.2.1 hy w hg hr).mono ?_
      rintro e w' ⟨u, rfl, h1, h2⟩
      exact ⟨u, rfl, h1, h2⟩
    · have e1 : whE xs yl yh = 2 := by unfold whE; rw [if_pos ht, if_neg hy]
      have e2 : whR xs yl yh = [] := by unfold whR; rw [e1]; rfl
      rw [e1, e2]
      rw [Bool.not_eq_true] at hy
      have c2 := Lib.hid (validRange_any yl yh)
      rw [hy] at c2
      rw [ht] at c1
      obtain ⟨A, c, rfl, _⟩ := hv
      generalize xs.length = n at *
      clear ht hy e1 e2
      go_enter Try.func8, Try.ntmps8
      go_wp2_with fail
      refine (c1.out _ ((Below.refl _ _).alloc (Nat.le_refl _) _)).mono ?_
      rintro e W1 ⟨rfl, hb⟩
      have a0 := cell_next hb (b := w.heap.size) (o := 0) (by simp <;> omega) (v := some (.int .i64 yl)) (by simp [go_sem])
      have a1 := cell_next hb (b := w.heap.size) (o := 1) (by simp <;> omega) (v := some (.int .i64 yh)) (by simp [go_sem])
      have hB := below1 hb
      clear hb
      go_wp2_with fail
      refine (c2.out _).mono ?_
      rintro e W2 ⟨rfl, hb⟩
      replace hB := hB.trans (hb.mono hB.size)
      clear hb a0 a1
      go_wp2_with fail
      go_ret2
      exact ⟨_, rfl, World.ownsRow_nil _ _ _ _, hB⟩
  · have e1 : whE xs yl yh = tabE xs := by unfold whE; rw [if_neg ht]
    have e2 : whR xs yl yh = [] := by unfold whR; rw [if_neg (by rw [e1]; exact ht)]
    rw [e1, e2]
    have hne : (tabE xs != 0) = true := by simpa using ht
    obtain ⟨A, c, rfl, _⟩ := hv
    generalize tabE xs = s at *
    generalize xs.length = n at *
    clear ht e1 e2
    go_enter Try.func8, Try.ntmps8
    go_wp2_with fail
    refine (c1.out _ ((Below.refl _ _).alloc (Nat.le_refl _) _)).mono ?_
    rintro e W1 ⟨rfl, hb⟩
    have hB := below1 hb
    clear hb
    go_wp2_with fail
    go_ret2
    exact ⟨_, rfl, World.ownsRow_nil _ _ _ _, hB⟩
end Go.Proofs.Ytkhongbemoahpaa

