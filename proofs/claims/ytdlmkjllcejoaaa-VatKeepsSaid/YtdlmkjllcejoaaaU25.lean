/- Contracts: the law's fixed calls. -/
import Derived.Test.YtdlmkjllcejoaaaJ8
namespace Go.Proofs.Ytdlmkjllcejoaaa
open Go.RowKit Go.Lib Go.Shelf
set_option linter.unusedVariables false
set_option linter.unusedSimpArgs false
attribute [local go_sem ↓] Go.wp_at_zero Go.wp_at_succ

set_option maxHeartbeats 1000000 in
theorem rules_any (w : World) : Calls Try.prog 34 #[] w fun e w' => ∃ v, e = .returned (.agg #[v, .int .i64 1000, .int .i64 1, .int .i64 2]) ∧ SetAt w'.heap.size w' v kRows ∧ Below w.heap.size w w' := by
  go_enter Try.func34, Try.ntmps34
  go_wp2_with fail
  refine bodyPost_ret (v := .agg #[.slice (some ⟨w.heap.size + 1, 0, none⟩) 3 3, .int .i64 1000, .int .i64 1, .int .i64 2]) (by simp [results, Try.results34, go_sem]) rfl ⟨_, rfl, ⟨_, 3, rfl, fun _ => ⟨w.heap.size + 1, 0, rfl, by simp, ?_⟩⟩, below_al2 w _ _⟩
  intro k p hp
  rcases k with _ | _ | _ | k
  all_goals simp [kRows] at hp
  all_goals (subst hp; simp [go_sem])

def l1 : Lo := ⟨490, 10, 100, 200, 0⟩
def l2 : Lo := ⟨490, 10, 360, 540, 0⟩
def l3 : Lo := ⟨294, 6, 0, 15, 10⟩
def l4 : Lo := ⟨294, 6, 10, 20, 10⟩
def l5 : Lo := ⟨196, 4, 10, 20, 10⟩
def l6 : Lo := ⟨98, 2, 10, 20, 10⟩
theorem k_raise1 : raise 0 0 l1 = l1 := by kernel_rfl
theorem k_grow : [l1].map (growL 10 26 34) = [l2] := by kernel_rfl
theorem k_raise3 : raise 10 20 l3 = l4 := by kernel_rfl
theorem k_draw : drawL [l2, l4] 600 = (0, [l2, l6], [l5]) := by kernel_rfl
theorem k_draw2 : drawL [l5] 100 = (0, [l6], [l6]) := by kernel_rfl
theorem k_raise6 : [l6].map (raise 10 20) = [l6] := by kernel_rfl
theorem k_vE : vlE kRows 40 60 = 0 := by kernel_rfl
theorem k_vR : vlR kRows 40 60 = (26, 34) := by
  have ht := tabOk_of (show tabE kRows = 0 by decide)
  have h1 : valV kRows 40 = (26, 26) := valV_is ht ⟨0, (0, 10), (100, 50), rfl, rfl, by decide, by decide, by kernel_rfl⟩
  have h2 : valV kRows 60 = (34, 34) := valV_is ht ⟨0, (0, 10), (100, 50), rfl, rfl, by decide, by decide, by kernel_rfl⟩
  unfold vlR valsV vs0
  rw [k_vE, if_pos rfl, h1, h2]
  simp [kRows, vsJ]
  omega
theorem k_hu1 : huL ([l2, l6].map gm) = 10 ∧ huH ([l2, l6].map gm) = 540 ∧ huL ([l2, l6].map (ag 10)) = 0 ∧ huH ([l2, l6].map (ag 10)) = 10 := ⟨by kernel_rfl, by kernel_rfl, by kernel_rfl, by kernel_rfl⟩
theorem k_sum : lotSum [l2, l6] = (588, 12) := by kernel_rfl
theorem k_sum6 : lotSum [l6] = (98, 2) := by kernel_rfl
theorem k_rk : rk 5000 200 (900, 100) 1 = (450, 99) := by kernel_rfl

theorem k_sq (w : World) : Calls Try.prog 19 #[.agg #[.int .i64 900, .int .i64 100], .int .i64 5000, .int .i64 200] w fun e w' => e = .returned (.tuple #[.agg #[.int .i64 450, .int .i64 99], .agg #[.int .i64 450, .int .i64 1], .int .i64 0]) ∧ Below w.heap.size w w' := by
  have h := squeeze_ok 900 100 5000 200 (by decide) (by decide) (by decide) (by decide) w
  rw [k_rk] at h
  exact h
theorem k_t6 : ([l6].length : Int) = 1 ∧ huL ([l6].map gm) = 10 ∧ huH ([l6].map gm) = 20 ∧ huL ([l6].map (ag 10)) = 0 ∧ huH ([l6].map (ag 10)) = 0 ∧ cntL (fun l => decide (1000 ≤ l.hi)) [l6] = 0 ∧ cntL (fun l => decide (1000 ≤ l.lo)) [l6] = 0 := ⟨by kernel_rfl, by kernel_rfl, by kernel_rfl, by kernel_rfl, by kernel_rfl, by kernel_rfl, by kernel_rfl⟩

set_option maxRecDepth 20000 in
set_option maxHeartbeats 4000000 in
theorem known_any (w : World) : Calls Try.prog 9 #[] w fun e w' => e = .returned (.bool true) ∧ Below w.heap.size w w' := by
  go_enter Try.func9, Try.ntmps9
  go_wp2_with fail
  refine (rules_any _).mono ?_
  rintro e w1 ⟨v, rfl, hv, hB⟩
  have HV := Lib.hid hv
  clear hv
  go_wp2_with fail
  refine (new_st v _ _ ((HV.out.below ((Below.refl _ _).alloc (Nat.le_refl _) _) (Nat.le_refl _)).mono (by simp)) ((ns_two (by simp [go_sem]) (by simp [go_sem])).mono (by simp))).mono ?_
  rintro e w2 ⟨c, tk, cap, vb, base, rfl, F, hwc, hS, hb⟩
  have hwc' : w.heap.size ≤ c := by have := hB.size; simp at hwc; omega
  replace hB := hB.trans ((below1 hb).mono hB.size)
  have HS := Lib.hid hS
  have HF := Lib.hid F
  clear hb hS F HV hwc
  go_wp2_with fail
  refine (pour_st HF.out HS.out l1 rfl (by simp) (by decide) (by decide) (by decide) (by decide) (by decide)).mono ?_
  rintro e w3 ⟨rfl, hS, hb⟩
  rw [k_raise1] at hS
  replace HS : Hid (St c tk cap vb base 0 490 10 0 0 0 0 [l1] [] w3) := Lib.hid hS
  replace hB := hB.trans (hb.mono hwc')
  clear hS hb
  go_wp2_with fail
  refine (stay_st HF.out HS.out 10 40 60 26 34 (by simp [l1, ldB]) (by simp [ldB]) (by decide) (by decide) (by decide) (by decide) k_vE k_vR).mono ?_
  rintro e w4 ⟨rfl, hS, hb⟩
  rw [k_grow] at hS
  replace HS : Hid (St c tk cap vb base 10 490 10 0 0 10 20 [l2] [] w4) := Lib.hid hS
  replace hB := hB.trans (hb.mono hwc')
  clear hS hb
  go_wp2_with fail
  refine (pour_st HF.out HS.out l3 rfl (by simp [l2, l3, loB]) (by decide) (by decide) (by decide) (by decide) (by decide)).mono ?_
  rintro e w5 ⟨rfl, hS, hb⟩
  rw [k_raise3] at hS
  replace HS : Hid (St c tk cap vb base 10 784 16 0 0 10 20 [l2, l4] [] w5) := Lib.hid hS
  replace hB := hB.trans (hb.mono hwc')
  clear hS hb
  have hD := draw_st HF.out HS.out 600 (by simp [l2, l4, loB]) (by decide) (by decide) (by decide) (by decide) (by simp [smB])
  rw [k_draw] at hD
  dsimp only at hD
  rw [k_sum, k_hu1.1, k_hu1.2.1, k_hu1.2.2.1, k_hu1.2.2.2] at hD
  have HD := Lib.hid hD
  clear hD HS
  go_wp2_with fail
  refine HD.out.mono ?_
  rintro e w6 ⟨rfl, hS, hb⟩
  replace hB := hB.trans (hb.mono hwc')
  have HS : Hid (St c tk cap vb base 10 784 16 588 12 10 20 [l5] [] w6) := Lib.hid hS
  clear hS hb HD
  go_wp2_with fail
  have hM : ∀ W2, Below w6.heap.size w6 W2 → _ := fun W2 hb2 => move_st (W2 := W2) HF.out HS.out hb2 100 (by simp [l5, loB]) (by simp) (by decide) (by decide) (by decide) (by decide) (by decide) (by simp) (by rw [k_draw2]; simp)
  rw [k_draw2] at hM
  dsimp only at hM
  rw [k_raise6] at hM
  have HM := Lib.hid hM
  clear hM
  refine (HM.out _ ((Below.refl _ _).alloc (Nat.le_refl _) _)).mono ?_
  rintro e w7 ⟨rfl, hS, hb, hk⟩
  have d0 := (hk.cell (p := ⟨w6.heap.size, 0, none⟩) (by simp) (by simp)).trans (cell_new _ _ _ 0)
  have d1 := (hk.cell (p := ⟨w6.heap.size, 1, none⟩) (by simp) (by simp)).trans (cell_new _ _ _ 1)
  have d2 := (hk.cell (p := ⟨w6.heap.size, 2, none⟩) (by simp) (by simp)).trans (cell_new _ _ _ 2)
  have d3 := (hk.cell (p := ⟨w6.heap.size, 3, none⟩) (by simp) (by simp)).trans (cell_new _ _ _ 3)
  have d4 := (hk.cell (p := ⟨w6.heap.size, 4, none⟩) (by simp) (by simp)).trans (cell_new _ _ _ 4)
  have d5 := (hk.cell (p := ⟨w6.heap.size, 5, none⟩) (by simp) (by simp)).trans (cell_new _ _ _ 5)
  have nd : w6.heap.size < w7.heap.size := Nat.lt_of_lt_of_le (by simp) hk.1
  replace hB := (hB.trans (((Below.refl _ _).alloc (Nat.le_refl _) _).mono hB.size)).trans (hb.mono hwc')
  replace HS : Hid (St c tk cap vb base 10 784 16 588 12 10 20 [l6] [l6] w7) := Lib.hid hS
  clear hS hb hk HM
  generalize w6.heap.size = q at *
  have hT := tell_st HS.out (by simp [l6, loB]) (by decide) (by decide)
  rw [k_sum6, k_t6.1, k_t6.2.1, k_t6.2.2.1, k_t6.2.2.2.1, k_t6.2.2.2.2.1, k_t6.2.2.2.2.2.1, k_t6.2.2.2.2.2.2] at hT
  have HT := Lib.hid hT
  clear hT
  go_wp2_with fail
  refine HT.out.mono ?_
  rintro e w8 ⟨rfl, hb⟩
  replace d0 := cell_next hb nd d0
  replace d1 := cell_next hb nd d1
  replace d2 := cell_next hb nd d2
  replace d3 := cell_next hb nd d3
  replace d4 := cell_next hb nd d4
  replace d5 := cell_next hb nd d5
  replace nd := Nat.lt_of_lt_of_le nd hb.size
  replace hB := hB.trans (hb.mono hB.size)
  clear hb HT HS HF
  go_wp2_with fail
  have HQ := Lib.hid k_sq
  refine (HQ.out _).mono ?_
  rintro e w9 ⟨rfl, hb⟩
  have nd1 : q < (w8.heap.size + 1) := by omega
  replace d0 := cell_next (below1 hb) nd d0
  replace d1 := cell_next (below1 hb) nd d1
  replace d2 := cell_next (below1 hb) nd d2
  replace d3 := cell_next (below1 hb) nd d3
  replace d4 := cell_next (below1 hb) nd d4
  replace d5 := cell_next (below1 hb) nd d5
  have t0 := cell_next hb (b := w8.heap.size) (o := 0) (by simp) (cell_new _ _ _ 0)
  have t1 := cell_next hb (b := w8.heap.size) (o := 1) (by simp) (cell_new _ _ _ 1)
  have t7 := cell_next hb (b := w8.heap.size) (o := 7) (by simp) (cell_new _ _ _ 7)
  have t8 := cell_next hb (b := w8.heap.size) (o := 8) (by simp) (cell_new _ _ _ 8)
  have nt : w8.heap.size < w9.heap.size := by have := hb.size; simp at this; omega
  replace nd : q < w9.heap.size := by omega
  replace hB := hB.trans ((below1 hb).mono hB.size)
  clear hb HQ nd1
  generalize w8.heap.size = r at *
  have n1 : q ≠ w9.heap.size := by omega
  have n2 : q ≠ w9.heap.size + 1 := by omega
  have n3 : r ≠ w9.heap.size := by omega
  have n4 : r ≠ w9.heap.size + 1 := by omega
  have n5 : q < w9.heap.size + 1 := by omega
  have n6 : r < w9.heap.size + 1 := by omega
  go_wp2_with fail
  go_ret
  exact ⟨rfl, hB.trans ((below_al2 w9 _ _).mono hB.size)⟩
end Go.Proofs.Ytdlmkjllcejoaaa

