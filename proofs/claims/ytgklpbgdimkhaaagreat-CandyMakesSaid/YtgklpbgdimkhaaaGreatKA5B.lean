/- Contracts: C27, C13, R1, joined. -/
import Derived.Test.YtgklpbgdimkhaaaGreatKA4B
import Derived.Test.YtgklpbgdimkhaaaGreatKA3B
import Derived.Deep.QuietTactic
import Derived.BigQuiet
import Derived.Test.YtgklpbgdimkhaaaGreatT1B
namespace Go.Proofs.YtgklpbgdimkhaaaGreat
open Go.RowKit Go.Lib Go.Shelf
set_option linter.unusedVariables false
set_option linter.unusedSimpArgs false
attribute [local go_sem ↓] Go.wp_at_zero Go.wp_at_succ

set_option maxRecDepth 20000 in
set_option maxHeartbeats 1000000 in
theorem rTable_bad (A : Option Addr) (n c : Nat) (hn : n ≤ 1000000) (h : n < 2 ∨ 60 < n) (w : World) :
    Calls Tryz.prog 51 #[.slice A n c] w fun e w' => e = .returned (.bool false) ∧ Below w.heap.size w w' := by
  have c1 := Lib.hid (rIn_any (n : Int) 2 60)
  rw [show (decide ((2 : Int) ≤ n) && decide ((n : Int) ≤ 60)) = false from by simp; omega] at c1
  go_enter Tryz.func51, Tryz.ntmps51
  go_wp2_with fail
  refine (c1.out _).mono ?_
  rintro e w1 ⟨rfl, rfl⟩
  go_wp2_with fail
  go_ret
  exact ⟨rfl, Below.refl _ _⟩
set_option maxRecDepth 20000 in
set_option maxHeartbeats 2000000 in
theorem rTable_at (g off : Nat) (xs : List (Int × Int)) (c : Nat) (w : World) (hg : g < w.heap.size) (hr : RRd w g off xs) (h1 : 2 ≤ xs.length) (h2 : xs.length ≤ 60) :
    Calls Tryz.prog 51 #[.slice (some ⟨g, off, none⟩) xs.length c] w fun e w' => e = .returned (.bool (decide (tabE xs = 0))) ∧ Below w.heap.size w w' := by
  have HY := Lib.hid (fun h => tabE_yes (xs := xs) h1 h2 h)
  have HN := Lib.hid (fun h => tabE_no (xs := xs) h)
  have HS := Lib.hid (fun n => rowsOk_succ xs n)
  have HK := Lib.hid (fun k hk h => rowsOk_no xs xs.length k hk h)
  generalize tabE xs = r at *
  obtain ⟨n, hn⟩ : ∃ n, xs.length = n := ⟨_, rfl⟩
  rw [hn] at h1 h2 ⊢
  have Hn := Lib.hid hn
  clear hn
  have HR := Lib.hid hr
  clear hr
  have c0 := Lib.hid (rIn_any (n : Int) 2 60)
  rw [show (decide ((2 : Int) ≤ n) && decide ((n : Int) ≤ 60)) = true from by simp; omega] at c0
  go_enter Tryz.func51, Tryz.ntmps51
  go_wp2_with fail
  refine (c0.out _).mono ?_
  rintro e w1 ⟨rfl, rfl⟩
  go_wp2_with fail
  go_loopw [3] (fun i wr => ∃ k : Nat, k ≤ n ∧ i = .int .i64 k ∧ Hid (rowsOk xs k = true) ∧ Below w.heap.size w wr) (fun i _ => n - (RowKit.intOf i).toNat)
  case atStart => exact ⟨0, Nat.zero_le _, rfl, Lib.hid rfl, Below.refl _ _⟩
  case round =>
    obtain ⟨k, hk, rfl, hok, hbr⟩ := hrel
    by_cases hlt : k < n
    · have hkl : k < xs.length := by rw [Hn.out]; exact hlt
      obtain ⟨p, hp⟩ : ∃ p, xs[k]? = some p := ⟨_, List.getElem?_eq_getElem hkl⟩
      obtain ⟨q0, q1⟩ := (HR.out.below hbr hg) k p hp
      have c1 := Lib.hid (rIn_any p.1 (-1000000000) 1000000000)
      have c2 := Lib.hid (rIn_any p.2 (-1000000000) 1000000000)
      have hrow := rowOk_of hp
      have hB : rowB p.1 p.2 = ((decide (-1000000000 ≤ p.1) && decide (p.1 ≤ 1000000000)) && (decide (-1000000000 ≤ p.2) && decide (p.2 ≤ 1000000000))) := by
        unfold rowB; simp only [Bool.and_assoc]
      rw [hB] at hrow
      generalize (decide (-1000000000 ≤ p.1) && decide (p.1 ≤ 1000000000)) = b1 at *
      generalize (decide (-1000000000 ≤ p.2) && decide (p.2 ≤ 1000000000)) = b2 at *
      have hp' := Lib.hid hp
      have hk0 : (0 : Int) ≤ (k : Int) := by omega
      have hkn : (k : Int) < (n : Int) := by omega
      clear hB
      by_cases hb : b1 = true ∧ b2 = true
      · obtain ⟨rfl, rfl⟩ := hb
        obtain rfl | ⟨j, rfl⟩ : k = 0 ∨ ∃ j, k = j + 1 := by cases k with | zero => exact .inl rfl | succ j => exact .inr ⟨j, rfl⟩
        · have hyes : rowOk xs 0 = true := by rw [hrow]; rfl
          have hok1 := Lib.hid (show rowsOk xs (0 + 1) = true by rw [HS.out, hok.out, hyes]; rfl)
          clear hrow hyes hok hp
          have q0' := q0
          have q1' := q1
          simp only [Nat.zero_mul, Nat.add_zero] at q0' q1'
          go_wp2_with fail
          go_quiet ((go_at_call 53; first | (with_reducible exact quiet_left (c1.out _)) | (with_reducible exact quiet_left (c2.out _))))
          go_wp2_with fail
          go_roundw
          case rel => exact ⟨0 + 1, by omega, by go_num, hok1, below_drewN hbr _⟩
          case measure => simp [RowKit.intOf]; omega
        · obtain ⟨q, hq⟩ : ∃ q, xs[j]? = some q := ⟨_, List.getElem?_eq_getElem (by omega)⟩
          obtain ⟨z0, z1⟩ := (HR.out.below hbr hg) j q hq
          simp only [hq] at hrow
          have wj : IntKind.i64.wrap ((j : Int) + 1 - 1) = j := by rw [show ((j : Int) + 1 - 1) = j from by omega]; exact IntWalk.i64_in _ (by omega)
          by_cases ho : q.1 < p.1
          · have ho' : decide (p.1 ≤ q.1) = false := by simp; omega
            have hyes : rowOk xs (j + 1) = true := by rw [hrow]; simpa using ho
            have hok1 := Lib.hid (show rowsOk xs (j + 1 + 1) = true by rw [HS.out, hok.out, hyes]; rfl)
            clear hrow hyes hok hq hp
            go_wp2_with fail
            go_quiet ((go_at_call 53; first | (with_reducible exact quiet_left (c1.out _)) | (with_reducible exact quiet_left (c2.out _))))
            go_wp2_with fail
            go_roundw
            case rel => exact ⟨j + 1 + 1, by omega, by go_num, hok1, below_drewN hbr _⟩
            case measure => simp [RowKit.intOf]; omega
          · have ho' : decide (p.1 ≤ q.1) = true := by simp; omega
            have hno : rowOk xs (j + 1) = false := by rw [hrow]; simp; omega
            have er : Hid (decide (r = 0) = false) := Lib.hid (by rw [HN.out (HK.out _ hkl hno)]; rfl)
            clear hrow hno hok hq hp
            go_wp2_with fail
            go_quiet ((go_at_call 53; first | (with_reducible exact quiet_left (c1.out _)) | (with_reducible exact quiet_left (c2.out _))))
            go_wp2_with fail
            go_ret
            exact ⟨by rw [er.out] <;> rfl, below_drewN hbr _⟩
      · have hno : rowOk xs k = false := by rw [hrow]; cases b1 <;> cases b2 <;> simp at hb ⊢
        have er : Hid (decide (r = 0) = false) := Lib.hid (by rw [HN.out (HK.out _ hkl hno)]; rfl)
        clear hrow hno hok hp
        cases b1 <;> cases b2 <;> simp only [and_self, not_true_eq_false, Bool.false_eq_true, and_false, false_and, not_false_eq_true] at hb
        all_goals
          go_wp2_with fail
          go_quiet ((go_at_call 53; first | (with_reducible exact quiet_left (c1.out _)) | (with_reducible exact quiet_left (c2.out _))))
          go_wp2_with fail
          go_ret
          exact ⟨by rw [er.out] <;> rfl, below_drewN hbr _⟩
    · obtain rfl : k = n := by omega
      have er : Hid (decide (r = 0) = true) := Lib.hid (by rw [HY.out (by rw [Hn.out]; exact hok.out)]; rfl)
      go_wp2_with fail
      go_ret
      exact ⟨by rw [er.out] <;> rfl, hbr⟩
theorem rTable_any (v : Value) (xs : List (Int × Int)) (hl : xs.length ≤ 1000000) (w : World) (hv : SetAt w.heap.size w v xs) :
    Calls Tryz.prog 51 #[v] w fun e w' => e = .returned (.bool (decide (tabE xs = 0))) ∧ Below w.heap.size w w' := by
  obtain ⟨A, c, rfl, h⟩ := hv
  by_cases h' : xs.length < 2 ∨ 60 < xs.length
  · rw [tabE_short h']
    exact rTable_bad A _ c hl h' w
  · obtain ⟨g, off, rfl, hg, hr⟩ := h (by omega)
    exact rTable_at g off xs c w hg hr (by omega) (by omega)

open Go.RowKit Go.Lib Go.Shelf
set_option linter.unusedVariables false
set_option linter.unusedSimpArgs false
attribute [local go_sem ↓] Go.wp_at_zero Go.wp_at_succ

theorem keep3 {w W W' : World} {b B : Nat} {x y : Option Value} (hb : Below W.heap.size W W') (h : W.cell? ⟨b, 0, none⟩ = x ∧ W.cell? ⟨b, 1, none⟩ = y ∧ b < W.heap.size ∧ Kp B w W) :
    W'.cell? ⟨b, 0, none⟩ = x ∧ W'.cell? ⟨b, 1, none⟩ = y ∧ b < W'.heap.size ∧ Kp B w W' := by
  obtain ⟨h1, h2, h4, h3⟩ := h
  exact ⟨cell_next hb h4 h1, cell_next hb h4 h2, Nat.lt_of_lt_of_le h4 hb.size, h3.next h3.1.size hb⟩
theorem keep3_set {w W : World} {b B : Nat} {x y : Option Value} {u v : Value} (hB : b ≠ B) (hw : w.heap.size ≤ B) (h : W.cell? ⟨b, 0, none⟩ = x ∧ W.cell? ⟨b, 1, none⟩ = y ∧ b < W.heap.size ∧ Kp B w W) :
    ((W.setCell ⟨B, 0, none⟩ u).setCell ⟨B, 1, none⟩ v).cell? ⟨b, 0, none⟩ = x ∧ ((W.setCell ⟨B, 0, none⟩ u).setCell ⟨B, 1, none⟩ v).cell? ⟨b, 1, none⟩ = y ∧ b < ((W.setCell ⟨B, 0, none⟩ u).setCell ⟨B, 1, none⟩ v).heap.size ∧ Kp B w ((W.setCell ⟨B, 0, none⟩ u).setCell ⟨B, 1, none⟩ v) := by
  obtain ⟨h1, h2, h4, h3⟩ := h
  refine ⟨?_, ?_, by simpa using h4, h3.set hw u v⟩
  · rw [World.cell?_setCell_other _ _ _ _ (by intro e; injection e; omega), World.cell?_setCell_other _ _ _ _ (by intro e; injection e; omega)]; exact h1
  · rw [World.cell?_setCell_other _ _ _ _ (by intro e; injection e; omega), World.cell?_setCell_other _ _ _ _ (by intro e; injection e; omega)]; exact h2

/-- what Brix returns -/
def brE (a s : Int) : Int := if spB a s then (if a + s = 0 then 7 else 0) else 2
def brL (a s : Int) : Int := if brE a s = 0 then qLo s 10000 (a + s) else 0
def brH (a s : Int) : Int := if brE a s = 0 then qHi s 10000 (a + s) else 0
set_option maxRecDepth 20000 in
set_option maxHeartbeats 1000000 in
theorem brix_any (a s : Int) (w : World) :
    Calls Tryz.prog 92 #[.agg #[.int .i64 a, .int .i64 s]] w fun e w' => e = .returned (.tuple #[.agg #[.int .i64 (brL a s), .int .i64 (brH a s)], .int .i64 (brE a s)]) ∧ Below w.heap.size w w' := by
  have c1 := Lib.hid (sapValid_any a s)
  have eE : Hid (brE a s = if spB a s then (if a + s = 0 then 7 else 0) else 2) := Lib.hid rfl
  have eL : Hid (brL a s = if brE a s = 0 then qLo s 10000 (a + s) else 0) := Lib.hid rfl
  have eH : Hid (brH a s = if brE a s = 0 then qHi s 10000 (a + s) else 0) := Lib.hid rfl
  by_cases hv : spB a s = true
  · have c2 : Hid (∀ w, Calls Tryz.prog 118 #[.agg #[.int .i64 a, .int .i64 s]] w fun e w' => e = .returned (.int .i64 (a + s)) ∧ Below w.heap.size w w') := Lib.hid (sapMass_any a s hv)
    obtain ⟨a1, a2, s1, s2⟩ := spB_of hv
    have hm1 : 0 ≤ a + s := by omega
    have hm2 : a + s ≤ 2000000000000 := by omega
    rw [hv] at c1 eE
    clear hv
    simp only [if_true] at eE
    have c3 : Hid (a + s ≠ 0 → ∀ w, Calls Tryz.prog 109 #[.agg #[.int .i64 s, .int .i64 10000, .int .i64 (a + s)]] w fun e w' => e = .returned (.agg #[.int .i64 (qLo s 10000 (a + s)), .int .i64 (qHi s 10000 (a + s))]) ∧ Below w.heap.size w w') := Lib.hid fun h0 w =>
      around_small s 10000 (a + s) ⟨by omega, by omega⟩ ⟨by omega, by omega⟩ ⟨by omega, by omega⟩ h0 (by rw [show Int.natAbs 10000 = 10000 from rfl]; omega) w
    generalize brL a s = rl at *
    generalize brH a s = rh at *
    generalize brE a s = re at *
    generalize qLo s 10000 (a + s) = ql at *
    generalize qHi s 10000 (a + s) = qh at *
    generalize a + s = m at *
    by_cases h0 : m = 0
    · subst h0
      have e := eE.out
      rw [if_pos rfl] at e
      have e1 := eL.out
      have e2 := eH.out
      rw [e, if_neg (by omega)] at e1 e2
      have E := Lib.hid e
      have E1 := Lib.hid e1
      have E2 := Lib.hid e2
      clear e e1 e2 c3
      go_enter Tryz.func92, Tryz.ntmps92
      go_wp2_with fail
      refine (c1.out _).mono ?_
      rintro e w1 ⟨rfl, hb1⟩
      have s0 := cell_next hb1 (b := w.heap.size + 1 + 1) (o := 0) (by simp <;> omega) (v := some (.int .i64 a)) (by simp [go_sem])
      have s1' := cell_next hb1 (b := w.heap.size + 1 + 1) (o := 1) (by simp <;> omega) (v := some (.int .i64 s)) (by simp [go_sem])
      have r0 := cell_next hb1 (b := w.heap.size + 1) (o := 0) (by simp <;> omega) (v := some (.int .i64 0)) (by simp [go_sem])
      have r1 := cell_next hb1 (b := w.heap.size + 1) (o := 1) (by simp <;> omega) (v := some (.int .i64 0)) (by simp [go_sem])
      have f0 := frozen_next hb1 (b := w.heap.size + 1) (o := 0) (by simp <;> omega) (v := false) (by simp [go_sem])
      have f1 := frozen_next hb1 (b := w.heap.size + 1) (o := 1) (by simp <;> omega) (v := false) (by simp [go_sem])
      have hz1 : w.heap.size + 1 < w1.heap.size := by have := hb1.size; simp at this; omega
      have hB := below3 hb1
      clear hb1
      go_wp2_with fail
      refine (c2.out _).mono ?_
      rintro e w2 ⟨rfl, hb2⟩
      replace r0 := cell_next hb2 hz1 r0
      replace r1 := cell_next hb2 hz1 r1
      replace f0 := frozen_next hb2 hz1 f0
      replace f1 := frozen_next hb2 hz1 f1
      replace hB := hB.trans (hb2.mono hB.size)
      clear hb2 s0 s1'
      go_wp2_with fail
      refine bodyPost_ret (v := .tuple #[.agg #[.int .i64 0, .int .i64 0], .int .i64 7]) (by simp [results, Tryz.results92, go_sem, r0, r1, f0, f1]) rfl ⟨by rw [E.out, E1.out, E2.out], ?_⟩
      exact (hB.setCell (p := ⟨w.heap.size + 1, 0, none⟩) (Nat.le_succ _) _).setCell (p := ⟨w.heap.size + 1, 1, none⟩) (Nat.le_succ _) _
    · have e := eE.out
      rw [if_neg h0] at e
      have e1 := eL.out
      have e2 := eH.out
      rw [if_pos e] at e1 e2
      have E := Lib.hid e
      have E1 := Lib.hid e1
      have E2 := Lib.hid e2
      replace c3 := Lib.hid (c3.out h0)
      have hm0 : (m == 0) = false := by simpa using h0
      clear e e1 e2 h0
      go_enter Tryz.func92, Tryz.ntmps92
      go_wp2_with fail
      refine (c1.out _).mono ?_
      rintro e w1 ⟨rfl, hb1⟩
      have s0 := cell_next hb1 (b := w.heap.size + 1 + 1) (o := 0) (by simp <;> omega) (v := some (.int .i64 a)) (by simp [go_sem])
      have s1' := cell_next hb1 (b := w.heap.size + 1 + 1) (o := 1) (by simp <;> omega) (v := some (.int .i64 s)) (by simp [go_sem])
      have hS : w1.cell? ⟨w.heap.size + 1 + 1, 0, none⟩ = some (.int .i64 a) ∧ w1.cell? ⟨w.heap.size + 1 + 1, 1, none⟩ = some (.int .i64 s) ∧ w.heap.size + 1 + 1 < w1.heap.size ∧ Kp (w.heap.size + 1) w w1 :=
        ⟨s0, s1', by have := hb1.size; simp at this; omega, below3 hb1, by have := hb1.size; simp at this; omega, ⟨_, cell_next hb1 (b := w.heap.size + 1) (o := 0) (by simp <;> omega) (v := some (.int .i64 0)) (by simp [go_sem])⟩, ⟨_, cell_next hb1 (b := w.heap.size + 1) (o := 1) (by simp <;> omega) (v := some (.int .i64 0)) (by simp [go_sem])⟩, frozen_next hb1 (b := w.heap.size + 1) (o := 0) (by simp <;> omega) (v := false) (by simp [go_sem]), frozen_next hb1 (b := w.heap.size + 1) (o := 1) (by simp <;> omega) (v := false) (by simp [go_sem])⟩
      have HS := Lib.hid hS
      clear hb1 hS
      go_wp2_with fail
      refine (c2.out _).mono ?_
      rintro e w2 ⟨rfl, hb2⟩
      have hS := keep3 hb2 HS.out
      clear hb2 s0 s1' HS
      go_wp2_with fail
      refine wp_region_held_drew (S := fun W' => W'.cell? ⟨w.heap.size + 1 + 1, 0, none⟩ = some (.int .i64 a) ∧ W'.cell? ⟨w.heap.size + 1 + 1, 1, none⟩ = some (.int .i64 s) ∧ w.heap.size + 1 + 1 < W'.heap.size ∧ Kp (w.heap.size + 1) w W') (by kernel_rfl) ?_ (fun hHeld => ?_)
      focus (exact keep3 (Below.drew (Below.refl _ _)) hS)
      refine tq 0 15 ?_ ?_ ?_; rotate_left; (focus intro w h; (try dsimp only at h); go_simp; try with_reducible rfl); try simp only [sA, sB, sC]
      refine tq 1 16 ?_ ?_ ?_; rotate_left; (focus intro w h; (try dsimp only at h); go_simp; try with_reducible rfl); try simp only [sA, sB, sC]
      refine tq 2 17 ?_ ?_ ?_; rotate_left; (focus intro w h; (try dsimp only at h); go_simp; try with_reducible rfl); try simp only [sA, sB, sC]
      refine tq 3 18 ?_ ?_ ?_; rotate_left; (focus intro w h; (try dsimp only at h); go_simp; try with_reducible rfl); try simp only [sA, sB, sC]
      refine rd1 4 (fun K hK => ?_)
      skip
      go_simp
      refine (c2.out _).mono ?_; rintro e w4 ⟨rfl, hb4⟩
      refine hK.out _ _ ?_ (fun hHeld => ?_)
      focus (exact keep3 hb4 hHeld)
      clear hK K
      try simp only [Act.put, sA, sB, sC]
      refine rd1 5 (fun K hK => ?_)
      skip
      go_simp
      skip
      refine hK.out _ _ ?_ (fun hHeld => ?_)
      focus (exact keep3 ((Below.refl _ _).alloc (Nat.le_refl _) _) hHeld)
      clear hK K
      try simp only [Act.put, sA, sB, sC]
      refine rd1 6 (fun K hK => ?_)
      skip
      go_simp
      refine (quotientOf3 s 10000 m _ _ (by simp) (by simp) (by simp) (by simp)).mono ?_; rintro e w6 ⟨rfl, hb6⟩
      refine hK.out _ _ ?_ (fun hHeld => ?_)
      focus (exact keep3 hb6 hHeld)
      clear hK K
      try simp only [Act.put, sA, sB, sC]
      refine rd1 7 (fun K hK => ?_)
      skip
      go_simp
      refine (c3.out _).mono ?_; rintro e w7 ⟨rfl, hb7⟩
      refine hK.out _ _ ?_ (fun hHeld => ?_)
      focus (exact keep3 hb7 hHeld)
      clear hK K
      try simp only [Act.put, sA, sB, sC]
      refine rd1 8 (fun K hK => ?_)
      have hKeep := hHeld; obtain ⟨_, _, _, kb, ksz, ⟨v0, k0⟩, ⟨v1, k1⟩, kf0, kf1⟩ := hHeld
      go_simp
      skip
      refine hK.out _ _ ?_ (fun hHeld => ?_)
      focus (exact keep3_set (by omega) (Nat.le_succ _) hKeep)
      clear hK K
      try simp only [Act.put, sA, sB, sC]
      refine tq 9 3 ?_ ?_ ?_; rotate_left; (focus intro w h; (try dsimp only at h); go_simp; try with_reducible rfl); try simp only [sA, sB, sC]
      refine wpAnyH_done (by kernel_rfl) ?_ _
      obtain ⟨_, _, _, hkk, _⟩ := hHeld
      go_wp2_with fail
      refine bodyPost_ret (v := .tuple #[.agg #[.int .i64 ql, .int .i64 qh], .int .i64 0]) (by simp [results, Tryz.results92, go_sem, k0, k1]) rfl ⟨by rw [E.out, E1.out, E2.out], hkk⟩
  · have hvf : spB a s = false := by simpa using hv
    rw [hvf] at c1
    have e := eE.out
    rw [hvf, if_neg (by simp)] at e
    have e1 := eL.out
    have e2 := eH.out
    rw [e, if_neg (by omega)] at e1 e2
    have E := Lib.hid e
    have E1 := Lib.hid e1
    have E2 := Lib.hid e2
    clear e e1 e2 hv hvf eE eL eH
    go_enter Tryz.func92, Tryz.ntmps92
    go_wp2_with fail
    refine (c1.out _).mono ?_
    rintro e w1 ⟨rfl, hb1⟩
    have r0 := cell_next hb1 (b := w.heap.size + 1) (o := 0) (by simp <;> omega) (v := some (.int .i64 0)) (by simp [go_sem])
    have r1 := cell_next hb1 (b := w.heap.size + 1) (o := 1) (by simp <;> omega) (v := some (.int .i64 0)) (by simp [go_sem])
    have f0 := frozen_next hb1 (b := w.heap.size + 1) (o := 0) (by simp <;> omega) (v := false) (by simp [go_sem])
    have f1 := frozen_next hb1 (b := w.heap.size + 1) (o := 1) (by simp <;> omega) (v := false) (by simp [go_sem])
    have hB := below3 hb1
    clear hb1
    go_wp2_with fail
    refine bodyPost_ret (v := .tuple #[.agg #[.int .i64 0, .int .i64 0], .int .i64 2]) (by simp [results, Tryz.results92, go_sem, r0, r1, f0, f1]) rfl ⟨by rw [E.out, E1.out, E2.out], ?_⟩
    exact (hB.setCell (p := ⟨w.heap.size + 1, 0, none⟩) (Nat.le_succ _) _).setCell (p := ⟨w.heap.size + 1, 1, none⟩) (Nat.le_succ _) _

open Go.RowKit Go.Lib Go.Shelf
set_option linter.unusedVariables false
set_option linter.unusedSimpArgs false
attribute [local go_sem ↓] Go.wp_at_zero Go.wp_at_succ

set_option maxHeartbeats 400000 in
theorem rSap_any (a s : Int) (w : World) :
    Calls Tryz.prog 55 #[.agg #[.int .i64 a, .int .i64 s]] w fun e w' => e = .returned (.bool (spB a s)) ∧ Below w.heap.size w w' := by
  have c1 := Lib.hid (rIn_any a 0 1000000000000)
  have c2 := Lib.hid (rIn_any s 0 1000000000000)
  have hv : Hid (spB a s = ((decide (0 ≤ a) && decide (a ≤ 1000000000000)) && (decide (0 ≤ s) && decide (s ≤ 1000000000000)))) := Lib.hid (by simp [spB, Bool.and_assoc])
  generalize (decide (0 ≤ a) && decide (a ≤ 1000000000000)) = p at *
  generalize (decide (0 ≤ s) && decide (s ≤ 1000000000000)) = q at *
  cases p
  · go_enter Tryz.func55, Tryz.ntmps55
    go_wp2_with fail
    refine (c1.out _).mono ?_
    rintro e w1 ⟨rfl, rfl⟩
    go_wp2_with fail
    go_ret
    exact ⟨by rw [hv.out]; rfl, (Below.refl _ _).alloc (Nat.le_refl _) _⟩
  · go_enter Tryz.func55, Tryz.ntmps55
    go_wp2_with fail
    refine (c1.out _).mono ?_
    rintro e w1 ⟨rfl, rfl⟩
    go_wp2_with fail
    refine (c2.out _).mono ?_
    rintro e w1 ⟨rfl, rfl⟩
    go_wp2_with fail
    go_ret
    exact ⟨by rw [hv.out]; rfl, (Below.refl _ _).alloc (Nat.le_refl _) _⟩

theorem floor_pos (a b : Int) (ha : 0 ≤ a) : a.tdiv b = a / b ∧ a.tmod b = a % b := ⟨Int.tdiv_eq_ediv_of_nonneg ha, Int.tmod_eq_emod_of_nonneg ha⟩
theorem floor_neg (a b : Int) (ha : a < 0) (hb : 0 < b) : (a.tmod b < 0 → a / b = a.tdiv b - 1) ∧ (¬ a.tmod b < 0 → a / b = a.tdiv b) := by
  have h := Int.mul_tdiv_add_tmod a b
  have h1 : a.tmod b ≤ 0 := by
    have := Int.tmod_nonneg b (show 0 ≤ -a by omega)
    rw [Int.neg_tmod] at this
    omega
  have h2 : -b < a.tmod b := by
    have := Int.tmod_lt_of_pos (-a) hb
    rw [Int.neg_tmod] at this
    omega
  generalize a.tdiv b = q at *
  generalize a.tmod b = r at *
  constructor
  · intro hr
    exact ((Int.ediv_emod_unique (a := a) (b := b) (r := b + r) (q := q - 1) hb).2 ⟨by rw [Int.mul_sub, Int.mul_one]; omega, by omega, by omega⟩).1
  · intro hr
    exact ((Int.ediv_emod_unique (a := a) (b := b) (r := r) (q := q) hb).2 ⟨by omega, by omega, by omega⟩).1
theorem tdiv_abs (a b : Int) (hb : 0 < b) (B : Int) (h1 : -B ≤ a) (h2 : a ≤ B) : -B ≤ a.tdiv b ∧ a.tdiv b ≤ B := by
  have h : (a.tdiv b).natAbs ≤ a.natAbs := by rw [Int.natAbs_tdiv]; exact Nat.div_le_self _ _
  omega
theorem tmod_abs (a b : Int) (hb : 0 < b) : -b < a.tmod b ∧ a.tmod b < b := by
  have h1 := Int.tmod_lt_of_pos a hb
  have h2 : -b < a.tmod b := by
    have := Int.tmod_lt_of_pos (-a) hb
    rw [Int.neg_tmod] at this
    omega
  exact ⟨h2, h1⟩

set_option maxHeartbeats 400000 in
theorem rFloor_any (a b : Int) (ha : -4000000000000000000 ≤ a ∧ a ≤ 4000000000000000000) (hb : 0 < b) (hb2 : b ≤ 4000000000000000000) (w : World) :
    Calls Tryz.prog 94 #[.int .i64 a, .int .i64 b] w fun e w' => e = .returned (.int .i64 (a / b)) ∧ w = w' := by
  obtain ⟨a1, a2⟩ := ha
  obtain ⟨q1, q2⟩ := tdiv_abs a b hb _ a1 a2
  obtain ⟨r1, r2⟩ := tmod_abs a b hb
  have hb0 : (b == 0) = false := by simp; omega
  have e : Hid (a / b = if a.tmod b < 0 then a.tdiv b - 1 else a.tdiv b) := Lib.hid (by
    by_cases h : a < 0
    · obtain ⟨e1, e2⟩ := floor_neg a b h hb
      split
      · exact e1 (by assumption)
      · exact e2 (by assumption)
    · obtain ⟨e1, e2⟩ := floor_pos a b (by omega)
      have := Int.emod_nonneg a (show b ≠ 0 by omega)
      rw [if_neg (by omega)]
      exact e1.symm)
  by_cases h0 : a < 0
  · by_cases h : a.tmod b < 0
    · have E : Hid (a / b = a.tdiv b - 1) := Lib.hid (by rw [e.out, if_pos h])
      clear e
      go_enter Tryz.func94, Tryz.ntmps94
      go_wp2
      go_ret
      exact ⟨ret_int E.out.symm, rfl⟩
    · have E : Hid (a / b = a.tdiv b) := Lib.hid (by rw [e.out, if_neg h])
      clear e
      go_enter Tryz.func94, Tryz.ntmps94
      go_wp2
      go_ret
      exact ⟨ret_int E.out.symm, rfl⟩
  · obtain ⟨e1, e2⟩ := floor_pos a b (by omega)
    have r3 := Int.emod_nonneg a (show b ≠ 0 by omega)
    have a3 : 0 ≤ a := by omega
    rw [e1] at q1 q2
    have q3 : 0 ≤ a / b := Int.ediv_nonneg a3 (by omega)
    have h : ¬ a % b < 0 := by omega
    clear e e1 e2 r1 r2 h0
    go_enter Tryz.func94, Tryz.ntmps94
    go_wp2
    go_ret
    exact ⟨rfl, rfl⟩

set_option maxHeartbeats 400000 in
theorem rCeil_any (a b : Int) (ha : -4000000000000000000 ≤ a ∧ a ≤ 4000000000000000000) (hb : 0 < b) (hb2 : b ≤ 4000000000000000000) (w : World) :
    Calls Tryz.prog 69 #[.int .i64 a, .int .i64 b] w fun e w' => e = .returned (.int .i64 (-(-a / b))) ∧ w = w' := by
  obtain ⟨a1, a2⟩ := ha
  have c1 := Lib.hid (rFloor_any (-a) b ⟨by omega, by omega⟩ hb hb2)
  have hq : -4000000000000000000 ≤ -a / b ∧ -a / b ≤ 4000000000000000000 := by
    have h1 := Int.ediv_le_ediv hb (show -a ≤ 4000000000000000000 by omega)
    have h2 := Int.ediv_le_ediv hb (show -4000000000000000000 ≤ -a by omega)
    have h3 : (4000000000000000000 : Int) / b ≤ 4000000000000000000 := Int.ediv_le_self _ (by omega)
    have h4 : -4000000000000000000 ≤ (-4000000000000000000 : Int) / b := (Int.le_ediv_iff_mul_le hb).2 (by omega)
    omega
  obtain ⟨q1, q2⟩ := hq
  generalize -a / b = q at *
  go_enter Tryz.func69, Tryz.ntmps69
  go_wp2_with fail
  refine (c1.out _).mono ?_
  rintro e w1 ⟨rfl, rfl⟩
  go_wp2_with fail
  go_ret
  exact ⟨rfl, rfl⟩

theorem q_of (a s : Int) (hv : spB a s = true) (h0 : a + s ≠ 0) : qLo s 10000 (a + s) = s * 10000 / (a + s) ∧ qHi s 10000 (a + s) = -(-(s * 10000) / (a + s)) := by
  obtain ⟨h1, h2, h3, h4⟩ := spB_of hv
  exact q_pos (a := s) (b := 10000) (c := a + s) (by omega) (by
    rw [show Int.natAbs 10000 = 10000 from rfl]
    refine Nat.le_trans (Nat.div_le_self _ _) ?_
    omega)

set_option maxRecDepth 20000 in
set_option maxHeartbeats 1000000 in
theorem rBrix_any (a s : Int) (w : World) :
    Calls Tryz.prog 60 #[.agg #[.int .i64 a, .int .i64 s]] w fun e w' => e = .returned (.tuple #[.agg #[.int .i64 (brL a s), .int .i64 (brH a s)], .int .i64 (brE a s)]) ∧ Below w.heap.size w w' := by
  have c1 := Lib.hid (rSap_any a s)
  have eE : Hid (brE a s = if spB a s then (if a + s = 0 then 7 else 0) else 2) := Lib.hid rfl
  have eL : Hid (brL a s = if brE a s = 0 then qLo s 10000 (a + s) else 0) := Lib.hid rfl
  have eH : Hid (brH a s = if brE a s = 0 then qHi s 10000 (a + s) else 0) := Lib.hid rfl
  by_cases hv : spB a s = true
  · obtain ⟨a1, a2, s1, s2⟩ := spB_of hv
    have hqq := q_of a s hv
    rw [hv] at c1 eE
    clear hv
    simp only [if_true] at eE
    by_cases h0 : a + s = 0
    · have e := eE.out
      rw [if_pos h0] at e
      have e1 := eL.out
      have e2 := eH.out
      rw [e, if_neg (by omega)] at e1 e2
      have E := Lib.hid e
      have E1 := Lib.hid e1
      have E2 := Lib.hid e2
      have hm0 : (a + s == 0) = true := by simpa using h0
      clear e e1 e2 hqq eE eL eH h0
      go_enter Tryz.func60, Tryz.ntmps60
      go_wp2_with fail
      refine (c1.out _).mono ?_
      rintro e w1 ⟨rfl, hb1⟩
      have s0 := cell_next hb1 (b := w.heap.size) (o := 0) (by simp <;> omega) (v := some (.int .i64 a)) (by simp [go_sem])
      have s1' := cell_next hb1 (b := w.heap.size) (o := 1) (by simp <;> omega) (v := some (.int .i64 s)) (by simp [go_sem])
      have r0 := cell_next hb1 (b := w.heap.size + 1) (o := 0) (by simp <;> omega) (v := some (.int .i64 0)) (by simp [go_sem])
      have r1 := cell_next hb1 (b := w.heap.size + 1) (o := 1) (by simp <;> omega) (v := some (.int .i64 0)) (by simp [go_sem])
      have f0 := frozen_next hb1 (b := w.heap.size + 1) (o := 0) (by simp <;> omega) (v := false) (by simp [go_sem])
      have f1 := frozen_next hb1 (b := w.heap.size + 1) (o := 1) (by simp <;> omega) (v := false) (by simp [go_sem])
      have hB := below2 hb1
      clear hb1
      go_wp2_with fail
      refine bodyPost_ret (v := .tuple #[.agg #[.int .i64 0, .int .i64 0], .int .i64 7]) (by simp [results, Tryz.results60, go_sem, r0, r1, f0, f1]) rfl ⟨by rw [E.out, E1.out, E2.out], ?_⟩
      exact (hB.setCell (p := ⟨w.heap.size + 1, 0, none⟩) (Nat.le_succ _) _).setCell (p := ⟨w.heap.size + 1, 1, none⟩) (Nat.le_succ _) _
    · obtain ⟨hl, hh⟩ := hqq h0
      have e := eE.out
      rw [if_neg h0] at e
      have e1 := eL.out
      have e2 := eH.out
      rw [if_pos e, hl] at e1
      rw [if_pos e, hh] at e2
      have E := Lib.hid e
      have E1 := Lib.hid e1
      have E2 := Lib.hid e2
      have hm1 : 0 < a + s := by omega
      have hm0 : (a + s == 0) = false := by simpa using h0
      have c2 := Lib.hid (rFloor_any (s * 10000) (a + s) ⟨by omega, by omega⟩ hm1 (by omega))
      have c3 := Lib.hid (rCeil_any (s * 10000) (a + s) ⟨by omega, by omega⟩ hm1 (by omega))
      clear e e1 e2 hl hh hqq eE eL eH h0
      generalize brL a s = rl at *
      generalize brH a s = rh at *
      generalize brE a s = re at *
      generalize s * 10000 / (a + s) = ql at *
      generalize -(-(s * 10000) / (a + s)) = qh at *
      go_enter Tryz.func60, Tryz.ntmps60
      go_wp2_with fail
      refine (c1.out _).mono ?_
      rintro e w1 ⟨rfl, hb1⟩
      have hS : w1.cell? ⟨w.heap.size, 0, none⟩ = some (.int .i64 a) ∧ w1.cell? ⟨w.heap.size, 1, none⟩ = some (.int .i64 s) ∧ Kp (w.heap.size + 1) w w1 :=
        ⟨cell_next hb1 (by simp <;> omega) (by simp [go_sem]), cell_next hb1 (by simp <;> omega) (by simp [go_sem]), below2 hb1, by have := hb1.size; simp at this; omega, ⟨_, cell_next hb1 (b := w.heap.size + 1) (o := 0) (by simp <;> omega) (v := some (.int .i64 0)) (by simp [go_sem])⟩, ⟨_, cell_next hb1 (b := w.heap.size + 1) (o := 1) (by simp <;> omega) (v := some (.int .i64 0)) (by simp [go_sem])⟩, frozen_next hb1 (b := w.heap.size + 1) (o := 0) (by simp <;> omega) (v := false) (by simp [go_sem]), frozen_next hb1 (b := w.heap.size + 1) (o := 1) (by simp <;> omega) (v := false) (by simp [go_sem])⟩
      clear hb1
      obtain ⟨s0, s1', hk⟩ := hS
      have HK := Lib.hid hk
      clear hk
      have hws : IntKind.i64.wrap (s * 10000) = s * 10000 := IntWalk.i64_in _ (by omega)
      go_wp2_with fail
      have hS := And.intro s0 (And.intro s1' HK.out)
      clear s0 s1' HK
      refine wp_region_held_drew (S := fun W' => W'.cell? ⟨w.heap.size, 0, none⟩ = some (.int .i64 a) ∧ W'.cell? ⟨w.heap.size, 1, none⟩ = some (.int .i64 s) ∧ Kp (w.heap.size + 1) w W') (by kernel_rfl) ?_ (fun hHeld => ?_)
      focus (exact keep2 (Below.drew (Below.refl _ _)) (Nat.le_succ _) hS)
      generalize w1.drew = wd at hHeld ⊢
      refine tk 0 17 ?_ rfl rfl (by kernel_rfl) (fun _ _ _ h => h) ⟨by rfl, ?_⟩ (by assumption) ?_; rotate_left; (focus intro w h; (try dsimp only at h); go_simp; try with_reducible rfl); try simp only [sA, sB, sC]
      refine tk 1 18 ?_ rfl rfl (by kernel_rfl) (fun _ _ _ h => h) ⟨by rfl, ?_⟩ (by assumption) ?_; rotate_left; (focus intro w h; (try dsimp only at h); go_simp; try with_reducible rfl); try simp only [sA, sB, sC]
      refine tk 2 19 ?_ rfl rfl (by kernel_rfl) (fun _ _ _ h => h) ⟨by rfl, ?_⟩ (by assumption) ?_; rotate_left; (focus intro w h; (try dsimp only at h); go_simp; try with_reducible rfl); try simp only [sA, sB, sC]
      refine tk 3 20 ?_ rfl rfl (by kernel_rfl) (fun _ _ _ h => h) ⟨by rfl, ?_⟩ (by assumption) ?_; rotate_left; (focus intro w h; (try dsimp only at h); go_simp; try with_reducible rfl); try simp only [sA, sB, sC]
      refine tk 5 22 ?_ rfl rfl (by kernel_rfl) (fun _ _ _ h => h) ⟨by rfl, ?_⟩ (by assumption) ?_; rotate_left; (focus intro w h; (try dsimp only at h); go_simp; try with_reducible rfl); try simp only [sA, sB, sC]
      refine tk 6 23 ?_ rfl rfl (by kernel_rfl) (fun _ _ _ h => h) ⟨by rfl, ?_⟩ (by assumption) ?_; rotate_left; (focus intro w h; (try dsimp only at h); go_simp; try with_reducible rfl); try simp only [sA, sB, sC]
      refine tk 7 24 ?_ rfl rfl (by kernel_rfl) (fun _ _ _ h => h) ⟨by rfl, ?_⟩ (by assumption) ?_; rotate_left; (focus intro w h; (try dsimp only at h); go_simp; try with_reducible rfl); try simp only [sA, sB, sC]
      refine tk 8 25 ?_ rfl rfl (by kernel_rfl) (fun _ _ _ h => h) ⟨by rfl, ?_⟩ (by assumption) ?_; rotate_left; (focus intro w h; (try dsimp only at h); go_simp; try with_reducible rfl); try simp only [sA, sB, sC]
      refine rd1 4 (fun K hK => ?_)
      skip
      go_simp
      refine (c2.out _).mono ?_; rintro e w4 ⟨rfl, rfl⟩
      refine hK.out _ _ ?_ (fun hHeld => ?_)
      focus (exact hHeld)
      clear hK K
      try simp only [Act.put, sA, sB, sC]
      refine rd1 9 (fun K hK => ?_)
      skip
      go_simp
      refine (c3.out _).mono ?_; rintro e w6 ⟨rfl, rfl⟩
      refine hK.out _ _ ?_ (fun hHeld => ?_)
      focus (exact hHeld)
      clear hK K
      try simp only [Act.put, sA, sB, sC]
      refine tk 10 27 ?_ rfl rfl (by kernel_rfl) (fun _ _ _ h => h) ⟨by rfl, ?_⟩ (by assumption) ?_; rotate_left; (focus intro w h; (try dsimp only at h); go_simp; try with_reducible rfl); try simp only [sA, sB, sC]
      refine rd1 11 (fun K hK => ?_)
      have hKeep := hHeld; obtain ⟨_, _, kb, ksz, ⟨v0, k0⟩, ⟨v1, k1⟩, kf0, kf1⟩ := hHeld
      go_simp
      skip
      refine hK.out _ _ ?_ (fun hHeld => ?_)
      focus (exact keep2_set (Nat.lt_succ_self _) (Nat.le_succ _) hKeep)
      clear hK K
      try simp only [Act.put, sA, sB, sC]
      refine tk 12 3 ?_ rfl rfl (by kernel_rfl) (fun _ _ _ h => h) ⟨by rfl, ?_⟩ (by assumption) ?_; rotate_left; (focus intro w h; (try dsimp only at h); go_simp; try with_reducible rfl); try simp only [sA, sB, sC]
      refine wpAnyH_done (by kernel_rfl) ?_ _
      obtain ⟨_, _, hkk, _⟩ := hHeld
      go_wp2_with fail
      refine bodyPost_ret (v := .tuple #[.agg #[.int .i64 ql, .int .i64 qh], .int .i64 0]) (by simp [results, Tryz.results60, go_sem, k0, k1]) rfl ⟨by rw [E.out, E1.out, E2.out], hkk⟩
  · have hvf : spB a s = false := by simpa using hv
    rw [hvf] at c1
    have e := eE.out
    rw [hvf, if_neg (by simp)] at e
    have e1 := eL.out
    have e2 := eH.out
    rw [e, if_neg (by omega)] at e1 e2
    have E := Lib.hid e
    have E1 := Lib.hid e1
    have E2 := Lib.hid e2
    clear e e1 e2 hv hvf eE eL eH
    go_enter Tryz.func60, Tryz.ntmps60
    go_wp2_with fail
    refine (c1.out _).mono ?_
    rintro e w1 ⟨rfl, hb1⟩
    have r0 := cell_next hb1 (b := w.heap.size + 1) (o := 0) (by simp <;> omega) (v := some (.int .i64 0)) (by simp [go_sem])
    have r1 := cell_next hb1 (b := w.heap.size + 1) (o := 1) (by simp <;> omega) (v := some (.int .i64 0)) (by simp [go_sem])
    have f0 := frozen_next hb1 (b := w.heap.size + 1) (o := 0) (by simp <;> omega) (v := false) (by simp [go_sem])
    have f1 := frozen_next hb1 (b := w.heap.size + 1) (o := 1) (by simp <;> omega) (v := false) (by simp [go_sem])
    have hB := below2 hb1
    clear hb1
    go_wp2_with fail
    refine bodyPost_ret (v := .tuple #[.agg #[.int .i64 0, .int .i64 0], .int .i64 2]) (by simp [results, Tryz.results60, go_sem, r0, r1, f0, f1]) rfl ⟨by rw [E.out, E1.out, E2.out], ?_⟩
    exact (hB.setCell (p := ⟨w.heap.size + 1, 0, none⟩) (Nat.le_succ _) _).setCell (p := ⟨w.heap.size + 1, 1, none⟩) (Nat.le_succ _) _
end Go.Proofs.YtgklpbgdimkhaaaGreat
