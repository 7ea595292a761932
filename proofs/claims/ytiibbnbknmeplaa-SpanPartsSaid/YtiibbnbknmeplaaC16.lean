/- Contracts: the reference's parts. -/
import Derived.Test.YtiibbnbknmeplaaP6
import Derived.Test.YtiibbnbknmeplaaC15
import Derived.StillTailTactics
namespace Go.Proofs.Ytiibbnbknmeplaa
open Go.RowKit Go.Lib
set_option linter.unusedVariables false
set_option linter.unusedSimpArgs false
attribute [local go_sem ↓] Go.wp_at_zero Go.wp_at_succ

theorem region_tail6 {P : Program} {id : Nat} {Q : Exit → Act → World → Prop} {a : Act} {w : World} {l : List Oper} (n : Nat) (hm : P.follows .mixedOrders = true) (hB : Region.lexTailB .any l.toArray n = true)
    (h : ∀ W : World, Below w.heap.size w W → wpStill P l.toArray W (fun a' => wpList P l.toArray Q (l.drop n) a' W) (l.take n) a) : (Code.region id l.toArray true).wp P Q a w :=
  wp_region_still_tail n hm hB (h _ ⟨rfl, rfl, rfl, Nat.le_refl _, fun _ _ => rfl⟩)

theorem below_undrew1 {W W' : World} (h : Below W.drew.heap.size W.drew W') : Below W.heap.size W W' := ⟨h.os, h.tape, h.output, h.size, h.block⟩
def G4 (n : Int) : Prop := -4000000000000000000 ≤ n ∧ n ≤ 4000000000000000000

set_option maxHeartbeats 400000 in
theorem rDivisor_any (a b : Int) (ha : G4 a) (hb : G4 b) (w : World) :
    Calls Try.prog 111 #[.int .i64 a, .int .i64 b] w fun e w' => e = .returned (.int .i64 (Int.gcd a b : Nat)) ∧ Below w.heap.size w w' := by
  have c1 := Lib.hid (rAbs_any a ha.1 ha.2)
  have c2 := Lib.hid (rAbs_any b hb.1 hb.2)
  obtain ⟨a1, a2⟩ := ha
  obtain ⟨b1, b2⟩ := hb
  obtain ⟨u, hu⟩ : ∃ u : Nat, a.natAbs = u := ⟨_, rfl⟩
  obtain ⟨v, hv⟩ : ∃ v : Nat, b.natAbs = v := ⟨_, rfl⟩
  have E : Hid (Nat.gcd u v = Int.gcd a b) := Lib.hid (by rw [← hu, ← hv]; rfl)
  have u1 : u ≤ 4000000000000000000 := by omega
  have v1 : v ≤ 4000000000000000000 := by omega
  rw [hu] at c1
  rw [hv] at c2
  generalize Int.gcd a b = r at *
  clear hu hv a1 a2 b1 b2
  go_enter Try.func111, Try.ntmps111
  go_wp2_with fail
  refine (c1.out _).mono ?_
  rintro e w' ⟨rfl, rfl⟩
  go_wp2_with fail
  refine (c2.out _).mono ?_
  rintro e w' ⟨rfl, rfl⟩
  go_wp2_with fail
  go_loopw [0, 1] (fun s t wr => ∃ x y : Nat, s = .int .i64 x ∧ t = .int .i64 y ∧ Hid (Nat.gcd x y = r) ∧ x ≤ 4000000000000000000 ∧ y ≤ 4000000000000000000 ∧ Below w.heap.size w wr) (fun _ t _ => (intOf t).natAbs)
  case atStart => exact ⟨u, v, rfl, rfl, E, u1, v1, Below.refl _ _⟩
  case round =>
    obtain ⟨x, y, rfl, rfl, hg, hx, hy, hbr⟩ := hrel
    by_cases h0 : y = 0
    · subst h0
      have HG : Hid (x = r) := Lib.hid (by rw [← hg.out, Nat.gcd_zero_right])
      go_wp2_with fail
      go_ret
      exact ⟨ret_int (by rw [HG.out]), hbr⟩
    · have hb0 : ((y : Int) != 0) = true := by simp; omega
      have hm : x % y < y := Nat.mod_lt _ (by omega)
      have HT : (x : Int).tmod (y : Int) = ((x % y : Nat) : Int) := by rw [Int.tmod_eq_emod_of_nonneg (by omega)]; rfl
      have HW : IntKind.i64.wrap ((x % y : Nat) : Int) = ((x % y : Nat) : Int) := IntWalk.i64_in _ (by omega)
      have hg2 : Hid (Nat.gcd y (x % y) = r) := Lib.hid (by rw [← hg.out, Nat.gcd_comm x y, Nat.gcd_comm y, ← Nat.gcd_rec])
      have hy0 : ((y : Int) == 0) = false := by simp; omega
      generalize x % y = z at *
      go_wp2_with fail
      go_quiet (fail)
      go_wp2_with fail
      go_roundw
      case rel => exact ⟨y, z, rfl, rfl, hg2, by omega, by omega, below_drewN hbr _⟩
      case measure => simp [intOf]; omega

set_option maxHeartbeats 1000000 in
theorem rPart_any (p q : Int) (w : World) :
    Calls Try.prog 42 #[.agg #[.int .i64 p, .int .i64 q]] w fun e w' => e = .returned (.bool (vpB p q)) ∧ Below w.heap.size w w' := by
  have c1 := Lib.hid (rIn_any p (-1000000000) 1000000000)
  have c2 := Lib.hid (rIn_any q 1 1000000000)
  have E : Hid (vpB p q = (((decide (-1000000000 ≤ p) && decide (p ≤ 1000000000)) && (decide (1 ≤ q) && decide (q ≤ 1000000000))) && decide ((Int.gcd p q : Int) = 1))) := Lib.hid (by unfold vpB fitsB; simp only [Bool.and_assoc]; congr 4; simp; omega)
  have c3 : Hid ((decide (-1000000000 ≤ p) && decide (p ≤ 1000000000)) = true → (decide (1 ≤ q) && decide (q ≤ 1000000000)) = true → ∀ w, Calls Try.prog 111 #[.int .i64 p, .int .i64 q] w fun e w' => e = .returned (.int .i64 (Int.gcd p q : Nat)) ∧ Below w.heap.size w w') := Lib.hid (fun h1 h2 w => by
    simp at h1 h2
    exact rDivisor_any p q ⟨by omega, by omega⟩ ⟨by omega, by omega⟩ w)
  generalize (decide (-1000000000 ≤ p) && decide (p ≤ 1000000000)) = x at *
  generalize (decide (1 ≤ q) && decide (q ≤ 1000000000)) = y at *
  generalize vpB p q = r at *
  generalize Int.gcd p q = g at *
  cases x
  · go_enter Try.func42, Try.ntmps42
    go_wp2_with fail
    refine (c1.out _).mono ?_
    rintro e w' ⟨rfl, rfl⟩
    go_wp2_with fail
    go_ret
    exact ⟨by rw [E.out]; rfl, ((Below.refl _ _).alloc (Nat.le_refl _) _)⟩
  · cases y
    · go_enter Try.func42, Try.ntmps42
      go_wp2_with fail
      refine (c1.out _).mono ?_
      rintro e w' ⟨rfl, rfl⟩
      go_wp2_with fail
      refine (c2.out _).mono ?_
      rintro e w' ⟨rfl, rfl⟩
      go_wp2_with fail
      go_ret
      exact ⟨by rw [E.out]; rfl, ((Below.refl _ _).alloc (Nat.le_refl _) _)⟩
    · have c4 := Lib.hid (c3.out rfl rfl)
      clear c3
      obtain ⟨t, ht⟩ : ∃ t, ((g : Int) == 1) = t := ⟨_, rfl⟩
      have E2 : Hid (r = t) := Lib.hid (by rw [E.out, ← ht]; rfl)
      clear E
      cases t
      all_goals
        go_enter Try.func42, Try.ntmps42
        go_wp2_with fail
        refine (c1.out _).mono ?_
        rintro e w' ⟨rfl, rfl⟩
        go_wp2_with fail
        refine (c2.out _).mono ?_
        rintro e w' ⟨rfl, rfl⟩
        go_wp2_with fail
        refine (c4.out _).mono ?_
        rintro e W1 ⟨rfl, hb⟩
        have A0 := cell_next hb (b := w.heap.size) (o := 0) (by simp <;> omega) (v := some (.int .i64 p)) (by simp [go_sem])
        have A1 := cell_next hb (b := w.heap.size) (o := 1) (by simp <;> omega) (v := some (.int .i64 q)) (by simp [go_sem])
        have nA : w.heap.size < W1.heap.size := by have := hb.size; simp at this; omega
        have hB := (below1 hb)
        clear hb
        go_wp2_with fail
        go_ret
        exact ⟨by rw [E2.out]; first | rfl | simp [ht], hB⟩

set_option maxHeartbeats 1000000 in
theorem rLowest_any (num den : Int) (hn : G4 num) (hd : G4 den) (hd0 : den ≠ 0) (w : World) :
    Calls Try.prog 43 #[.int .i64 num, .int .i64 den] w fun e w' => e = .returned (.tuple #[.agg #[.int .i64 (lowRN num den), .int .i64 (lowRQ num den)], .int .i64 (lowRE num den)]) ∧ Below w.heap.size w w' := by
  have c1 := Lib.hid (rDivisor_any num den hn hd)
  obtain ⟨e1, e2, e3, e4, e5⟩ := low_spec num den hd0
  have hg0 : 0 < Int.gcd num den := Int.gcd_pos_of_ne_zero_right num hd0
  have hg1 : Int.gcd num den ≤ 4000000000000000000 := by
    have := Nat.le_of_dvd (by omega) (Int.gcd_dvd_natAbs_right num den)
    obtain ⟨d1, d2⟩ := hd
    omega
  have hv : vpB (lowN num den) (lowQ num den) = fitsB (lowN num den) (lowQ num den) := by unfold vpB; rw [e3]; simp
  have c2 := Lib.hid (rPart_any (lowN num den) (lowQ num den))
  rw [hv] at c2
  have hRN : Hid (lowRN num den = if fitsB (lowN num den) (lowQ num den) then lowN num den else 0) := Lib.hid rfl
  have hRQ : Hid (lowRQ num den = if fitsB (lowN num den) (lowQ num den) then lowQ num den else 0) := Lib.hid rfl
  have hRE : Hid (lowRE num den = if fitsB (lowN num den) (lowQ num den) then 0 else 10) := Lib.hid rfl
  generalize lowRN num den = rn at *
  generalize lowRQ num den = rq at *
  generalize lowRE num den = re at *
  have hN : num.tdiv (lowD num den) = lowN num den := rfl
  have hQ : den.tdiv (lowD num den) = lowQ num den := rfl
  have hD : lowD num den = if den < 0 then -(Int.gcd num den : Int) else (Int.gcd num den : Int) := rfl
  generalize lowD num den = D at *
  generalize lowN num den = p at *
  generalize lowQ num den = q at *
  generalize Int.gcd num den = g at *
  generalize fitsB p q = f at *
  obtain ⟨n1, n2⟩ := hn
  obtain ⟨d1, d2⟩ := hd
  have k1 : IntKind.i64.wrap p = p := IntWalk.i64_in _ (by omega)
  have k2 : IntKind.i64.wrap q = q := IntWalk.i64_in _ (by omega)
  clear e1 e2 e3 e4 e5 hv
  by_cases hneg : den < 0
  · have hD' : D = -(g : Int) := by rw [hD, if_pos hneg]
    rw [hD'] at hN hQ
    have k3 : (-(g : Int) = 0) = False := by simp; omega
    have k4 : IntKind.i64.wrap (-(g : Int)) = -(g : Int) := IntWalk.i64_in _ (by omega)
    have k5 : ((g : Int) = 0) = False := by simp; omega
    have k6 : g ≠ 0 := by omega
    clear hD hD' hd0
    cases f
    · simp only [Bool.false_eq_true, if_false] at hRN hRQ hRE
      go_enter Try.func43, Try.ntmps43
      go_wp2_with fail
      refine (c1.out _).mono ?_
      rintro e W1 ⟨rfl, hb⟩
      have r0 := cell_next hb (b := w.heap.size) (o := 0) (by simp <;> omega) (v := some (.int .i64 0)) (by simp [go_sem])
      have fr0 := frozen_next hb (b := w.heap.size) (o := 0) (by simp <;> omega) (v := false) (by simp [go_sem])
      have r1 := cell_next hb (b := w.heap.size) (o := 1) (by simp <;> omega) (v := some (.int .i64 0)) (by simp [go_sem])
      have fr1 := frozen_next hb (b := w.heap.size) (o := 1) (by simp <;> omega) (v := false) (by simp [go_sem])
      have nr : w.heap.size < W1.heap.size := by have := hb.size; simp at this; omega
      have hB := (below1 hb)
      clear hb
      go_wp2_with fail
      go_region
      go_wp2_with fail
      refine (c2.out _).mono ?_
      rintro e W2 ⟨rfl, hb⟩
      replace hb := below_undrew1 hb
      replace r0 := cell_next (below1 hb) nr r0
      replace fr0 := frozen_next (below1 hb) nr fr0
      replace r1 := cell_next (below1 hb) nr r1
      replace fr1 := frozen_next (below1 hb) nr fr1
      replace nr := Nat.lt_of_lt_of_le nr (below1 hb).size
      have P0 := cell_next hb (b := W1.heap.size) (o := 0) (by simp <;> omega) (v := some (.int .i64 p)) (by simp [go_sem])
      have P1 := cell_next hb (b := W1.heap.size) (o := 1) (by simp <;> omega) (v := some (.int .i64 q)) (by simp [go_sem])
      have nP : W1.heap.size < W2.heap.size := by have := hb.size; simp at this; omega
      replace hB := hB.trans ((below1 hb).mono hB.size)
      clear hb
      generalize W1.heap.size = q2 at *
      go_wp2_with fail
      refine bodyPost_ret (v := .tuple #[.agg #[.int .i64 0, .int .i64 0], .int .i64 10]) (by simp [results, Try.results43, go_sem, r0, r1, fr0, fr1]) rfl ⟨by rw [hRN.out, hRQ.out, hRE.out], ?_⟩
      exact ((hB.setCell (p := ⟨w.heap.size, 0, none⟩) (by simp <;> omega) _).setCell (p := ⟨w.heap.size, 1, none⟩) (by simp <;> omega) _)
    · simp only [if_true] at hRN hRQ hRE
      go_enter Try.func43, Try.ntmps43
      go_wp2_with fail
      refine (c1.out _).mono ?_
      rintro e W1 ⟨rfl, hb⟩
      have r0 := cell_next hb (b := w.heap.size) (o := 0) (by simp <;> omega) (v := some (.int .i64 0)) (by simp [go_sem])
      have fr0 := frozen_next hb (b := w.heap.size) (o := 0) (by simp <;> omega) (v := false) (by simp [go_sem])
      have r1 := cell_next hb (b := w.heap.size) (o := 1) (by simp <;> omega) (v := some (.int .i64 0)) (by simp [go_sem])
      have fr1 := frozen_next hb (b := w.heap.size) (o := 1) (by simp <;> omega) (v := false) (by simp [go_sem])
      have nr : w.heap.size < W1.heap.size := by have := hb.size; simp at this; omega
      have hB := (below1 hb)
      clear hb
      go_wp2_with fail
      go_region
      go_wp2_with fail
      refine (c2.out _).mono ?_
      rintro e W2 ⟨rfl, hb⟩
      replace hb := below_undrew1 hb
      replace r0 := cell_next (below1 hb) nr r0
      replace fr0 := frozen_next (below1 hb) nr fr0
      replace r1 := cell_next (below1 hb) nr r1
      replace fr1 := frozen_next (below1 hb) nr fr1
      replace nr := Nat.lt_of_lt_of_le nr (below1 hb).size
      have P0 := cell_next hb (b := W1.heap.size) (o := 0) (by simp <;> omega) (v := some (.int .i64 p)) (by simp [go_sem])
      have P1 := cell_next hb (b := W1.heap.size) (o := 1) (by simp <;> omega) (v := some (.int .i64 q)) (by simp [go_sem])
      have nP : W1.heap.size < W2.heap.size := by have := hb.size; simp at this; omega
      replace hB := hB.trans ((below1 hb).mono hB.size)
      clear hb
      generalize W1.heap.size = q2 at *
      go_wp2_with fail
      refine bodyPost_ret (v := .tuple #[.agg #[.int .i64 p, .int .i64 q], .int .i64 0]) (by simp [results, Try.results43, go_sem, r0, r1, fr0, fr1]) rfl ⟨by rw [hRN.out, hRQ.out, hRE.out], ?_⟩
      exact ((hB.setCell (p := ⟨w.heap.size, 0, none⟩) (by simp <;> omega) _).setCell (p := ⟨w.heap.size, 1, none⟩) (by simp <;> omega) _)
  · have hD' : D = (g : Int) := by rw [hD, if_neg hneg]
    rw [hD'] at hN hQ
    have k3 : ((g : Int) = 0) = False := by simp; omega
    have k5 : ((g : Int) = 0) = False := by simp; omega
    clear hD hD' hd0
    cases f
    · simp only [Bool.false_eq_true, if_false] at hRN hRQ hRE
      go_enter Try.func43, Try.ntmps43
      go_wp2_with fail
      refine (c1.out _).mono ?_
      rintro e W1 ⟨rfl, hb⟩
      have r0 := cell_next hb (b := w.heap.size) (o := 0) (by simp <;> omega) (v := some (.int .i64 0)) (by simp [go_sem])
      have fr0 := frozen_next hb (b := w.heap.size) (o := 0) (by simp <;> omega) (v := false) (by simp [go_sem])
      have r1 := cell_next hb (b := w.heap.size) (o := 1) (by simp <;> omega) (v := some (.int .i64 0)) (by simp [go_sem])
      have fr1 := frozen_next hb (b := w.heap.size) (o := 1) (by simp <;> omega) (v := false) (by simp [go_sem])
      have nr : w.heap.size < W1.heap.size := by have := hb.size; simp at this; omega
      have hB := (below1 hb)
      clear hb
      go_wp2_with fail
      go_region
      go_wp2_with fail
      refine (c2.out _).mono ?_
      rintro e W2 ⟨rfl, hb⟩
      replace hb := below_undrew1 hb
      replace r0 := cell_next (below1 hb) nr r0
      replace fr0 := frozen_next (below1 hb) nr fr0
      replace r1 := cell_next (below1 hb) nr r1
      replace fr1 := frozen_next (below1 hb) nr fr1
      replace nr := Nat.lt_of_lt_of_le nr (below1 hb).size
      have P0 := cell_next hb (b := W1.heap.size) (o := 0) (by simp <;> omega) (v := some (.int .i64 p)) (by simp [go_sem])
      have P1 := cell_next hb (b := W1.heap.size) (o := 1) (by simp <;> omega) (v := some (.int .i64 q)) (by simp [go_sem])
      have nP : W1.heap.size < W2.heap.size := by have := hb.size; simp at this; omega
      replace hB := hB.trans ((below1 hb).mono hB.size)
      clear hb
      generalize W1.heap.size = q2 at *
      go_wp2_with fail
      refine bodyPost_ret (v := .tuple #[.agg #[.int .i64 0, .int .i64 0], .int .i64 10]) (by simp [results, Try.results43, go_sem, r0, r1, fr0, fr1]) rfl ⟨by rw [hRN.out, hRQ.out, hRE.out], ?_⟩
      exact ((hB.setCell (p := ⟨w.heap.size, 0, none⟩) (by simp <;> omega) _).setCell (p := ⟨w.heap.size, 1, none⟩) (by simp <;> omega) _)
    · simp only [if_true] at hRN hRQ hRE
      go_enter Try.func43, Try.ntmps43
      go_wp2_with fail
      refine (c1.out _).mono ?_
      rintro e W1 ⟨rfl, hb⟩
      have r0 := cell_next hb (b := w.heap.size) (o := 0) (by simp <;> omega) (v := some (.int .i64 0)) (by simp [go_sem])
      have fr0 := frozen_next hb (b := w.heap.size) (o := 0) (by simp <;> omega) (v := false) (by simp [go_sem])
      have r1 := cell_next hb (b := w.heap.size) (o := 1) (by simp <;> omega) (v := some (.int .i64 0)) (by simp [go_sem])
      have fr1 := frozen_next hb (b := w.heap.size) (o := 1) (by simp <;> omega) (v := false) (by simp [go_sem])
      have nr : w.heap.size < W1.heap.size := by have := hb.size; simp at this; omega
      have hB := (below1 hb)
      clear hb
      go_wp2_with fail
      go_region
      go_wp2_with fail
      refine (c2.out _).mono ?_
      rintro e W2 ⟨rfl, hb⟩
      replace hb := below_undrew1 hb
      replace r0 := cell_next (below1 hb) nr r0
      replace fr0 := frozen_next (below1 hb) nr fr0
      replace r1 := cell_next (below1 hb) nr r1
      replace fr1 := frozen_next (below1 hb) nr fr1
      replace nr := Nat.lt_of_lt_of_le nr (below1 hb).size
      have P0 := cell_next hb (b := W1.heap.size) (o := 0) (by simp <;> omega) (v := some (.int .i64 p)) (by simp [go_sem])
      have P1 := cell_next hb (b := W1.heap.size) (o := 1) (by simp <;> omega) (v := some (.int .i64 q)) (by simp [go_sem])
      have nP : W1.heap.size < W2.heap.size := by have := hb.size; simp at this; omega
      replace hB := hB.trans ((below1 hb).mono hB.size)
      clear hb
      generalize W1.heap.size = q2 at *
      go_wp2_with fail
      refine bodyPost_ret (v := .tuple #[.agg #[.int .i64 p, .int .i64 q], .int .i64 0]) (by simp [results, Try.results43, go_sem, r0, r1, fr0, fr1]) rfl ⟨by rw [hRN.out, hRQ.out, hRE.out], ?_⟩
      exact ((hB.setCell (p := ⟨w.heap.size, 0, none⟩) (by simp <;> omega) _).setCell (p := ⟨w.heap.size, 1, none⟩) (by simp <;> omega) _)

set_option maxHeartbeats 1000000 in
theorem rMakePart_any (num den : Int) (w : World) :
    Calls Try.prog 36 #[.int .i64 num, .int .i64 den] w fun e w' => e = .returned (.tuple #[.agg #[.int .i64 (mkN num den), .int .i64 (mkD num den)], .int .i64 (mkE num den)]) ∧ Below w.heap.size w w' := by
  have c1 := Lib.hid (rIn_any num (-1000000000000000) 1000000000000000)
  have c2 := Lib.hid (rIn_any den (-1000000000000000) 1000000000000000)
  have eN : Hid (mkN num den = if mkOk num den then lowRN num den else 0) := Lib.hid rfl
  have eD : Hid (mkD num den = if mkOk num den then lowRQ num den else 0) := Lib.hid rfl
  have eE : Hid (mkE num den = if mkOk num den then lowRE num den else 3) := Lib.hid rfl
  have eO : Hid (mkOk num den = ((decide (-1000000000000000 ≤ num) && decide (num ≤ 1000000000000000)) && (decide (-1000000000000000 ≤ den) && decide (den ≤ 1000000000000000)) && !(den == 0))) := Lib.hid (by unfold mkOk vnB; congr 1; simp; rfl)
  have c3 : Hid (mkOk num den = true → ∀ w, Calls Try.prog 43 #[.int .i64 num, .int .i64 den] w fun e w' => e = .returned (.tuple #[.agg #[.int .i64 (lowRN num den), .int .i64 (lowRQ num den)], .int .i64 (lowRE num den)]) ∧ Below w.heap.size w w') := Lib.hid (fun h w => by
    simp [mkOk, vnB] at h
    exact rLowest_any num den ⟨by omega, by omega⟩ ⟨by omega, by omega⟩ (by omega) w)
  generalize mkN num den = rn at *
  generalize mkD num den = rd at *
  generalize mkE num den = re at *
  generalize lowRN num den = ln at *
  generalize lowRQ num den = lq at *
  generalize lowRE num den = le at *
  generalize mkOk num den = ok at *
  obtain ⟨z, hz⟩ : ∃ z, (den == 0) = z := ⟨_, rfl⟩
  rw [hz] at eO
  generalize (decide (-1000000000000000 ≤ num) && decide (num ≤ 1000000000000000)) = x at *
  generalize (decide (-1000000000000000 ≤ den) && decide (den ≤ 1000000000000000)) = y at *
  cases x
  · obtain rfl : ok = false := eO.out
    simp only [Bool.false_eq_true, if_false] at eN eD eE
    clear c3
    go_enter Try.func36, Try.ntmps36
    go_wp2_with fail
    refine (c1.out _).mono ?_
    rintro e w' ⟨rfl, rfl⟩
    go_wp2_with fail
    refine bodyPost_ret (v := .tuple #[.agg #[.int .i64 0, .int .i64 0], .int .i64 3]) (by simp [results, Try.results36, go_sem]) rfl ⟨by rw [eN.out, eD.out, eE.out], ?_⟩
    exact (Below.refl _ _).alloc (Nat.le_refl _) _
  · cases y
    · obtain rfl : ok = false := eO.out
      simp only [Bool.false_eq_true, if_false] at eN eD eE
      clear c3
      go_enter Try.func36, Try.ntmps36
      go_wp2_with fail
      refine (c1.out _).mono ?_
      rintro e w' ⟨rfl, rfl⟩
      go_wp2_with fail
      refine (c2.out _).mono ?_
      rintro e w' ⟨rfl, rfl⟩
      go_wp2_with fail
      refine bodyPost_ret (v := .tuple #[.agg #[.int .i64 0, .int .i64 0], .int .i64 3]) (by simp [results, Try.results36, go_sem]) rfl ⟨by rw [eN.out, eD.out, eE.out], ?_⟩
      exact (Below.refl _ _).alloc (Nat.le_refl _) _
    · cases z
      · obtain rfl : ok = true := eO.out
        simp only [if_true] at eN eD eE
        have c4 := Lib.hid (c3.out rfl)
        clear c3
        go_enter Try.func36, Try.ntmps36
        go_wp2_with fail
        refine (c1.out _).mono ?_
        rintro e w' ⟨rfl, rfl⟩
        go_wp2_with fail
        refine (c2.out _).mono ?_
        rintro e w' ⟨rfl, rfl⟩
        go_wp2_with fail
        refine (c4.out _).mono ?_
        rintro e W1 ⟨rfl, hb⟩
        have r0 := cell_next hb (b := w.heap.size) (o := 0) (by simp <;> omega) (v := some (.int .i64 0)) (by simp [go_sem])
        have fr0 := frozen_next hb (b := w.heap.size) (o := 0) (by simp <;> omega) (v := false) (by simp [go_sem])
        have r1 := cell_next hb (b := w.heap.size) (o := 1) (by simp <;> omega) (v := some (.int .i64 0)) (by simp [go_sem])
        have fr1 := frozen_next hb (b := w.heap.size) (o := 1) (by simp <;> omega) (v := false) (by simp [go_sem])
        have nr : w.heap.size < W1.heap.size := by have := hb.size; simp at this; omega
        have hB := (below1 hb)
        clear hb
        go_wp2_with fail
        refine bodyPost_ret (v := .tuple #[.agg #[.int .i64 ln, .int .i64 lq], .int .i64 le]) (by simp [results, Try.results36, go_sem, r0, r1, fr0, fr1]) rfl ⟨by rw [eN.out, eD.out, eE.out], ?_⟩
        exact ((hB.setCell (p := ⟨w.heap.size, 0, none⟩) (by simp <;> omega) _).setCell (p := ⟨w.heap.size, 1, none⟩) (by simp <;> omega) _)
      · obtain rfl : ok = false := eO.out
        simp only [Bool.false_eq_true, if_false] at eN eD eE
        clear c3
        go_enter Try.func36, Try.ntmps36
        go_wp2_with fail
        refine (c1.out _).mono ?_
        rintro e w' ⟨rfl, rfl⟩
        go_wp2_with fail
        refine (c2.out _).mono ?_
        rintro e w' ⟨rfl, rfl⟩
        go_wp2_with fail
        refine bodyPost_ret (v := .tuple #[.agg #[.int .i64 0, .int .i64 0], .int .i64 3]) (by simp [results, Try.results36, go_sem]) rfl ⟨by rw [eN.out, eD.out, eE.out], ?_⟩
        exact (Below.refl _ _).alloc (Nat.le_refl _) _

set_option maxRecDepth 20000 in
set_option maxHeartbeats 1000000 in
theorem rCompare_any (a b c d : Int) (ha : vpB a b = true) (hb : vpB c d = true) (w : World) :
    Calls Try.prog 44 #[.agg #[.int .i64 a, .int .i64 b], .agg #[.int .i64 c, .int .i64 d]] w fun e w' => e = .returned (.int .i64 (cpS (a * d) (c * b))) ∧ Below w.heap.size w w' := by
  obtain ⟨⟨v1, v2⟩, ⟨v3, v4⟩, _⟩ := vv_bd ha hb
  have g0 : IntKind.i64.wrap (a * d) = a * d := IntWalk.i64_in _ (by omega)
  have g1 : IntKind.i64.wrap (c * b) = c * b := IntWalk.i64_in _ (by omega)
  have E : Hid (cpS (a * d) (c * b) = if a * d < c * b then -1 else if c * b < a * d then 1 else 0) := Lib.hid rfl
  generalize cpS (a * d) (c * b) = r at *
  clear ha hb v1 v2 v3 v4
  by_cases h1 : a * d < c * b
  · have E := Lib.hid (E.out.trans (if_pos h1))
    go_enter Try.func44, Try.ntmps44
    go_wp2_with fail
    go_quiet (fail)
    go_wp2_with fail
    go_ret
    exact ⟨ret_int E.out.symm, below_drewN (((Below.refl _ _).alloc (Nat.le_refl _) _).alloc (by simp) _) _⟩
  · by_cases h2 : c * b < a * d
    · have E := Lib.hid (E.out.trans ((if_neg h1).trans (if_pos h2)))
      go_enter Try.func44, Try.ntmps44
      go_wp2_with fail
      go_quiet (fail)
      go_wp2_with fail
      go_ret
      exact ⟨ret_int E.out.symm, below_drewN (((Below.refl _ _).alloc (Nat.le_refl _) _).alloc (by simp) _) _⟩
    · have E := Lib.hid (E.out.trans ((if_neg h1).trans (if_neg h2)))
      go_enter Try.func44, Try.ntmps44
      go_wp2_with fail
      go_quiet (fail)
      go_wp2_with fail
      go_ret
      exact ⟨ret_int E.out.symm, below_drewN (((Below.refl _ _).alloc (Nat.le_refl _) _).alloc (by simp) _) _⟩

theorem of_fit {n a b : Int} (h1 : vpB a b = true) (h2 : vnB n = true) : fitL (qLo n a b) (qHi n a b) = fitL (sdL n a b) (sdH n a b) ∧ fitH (qLo n a b) (qHi n a b) = fitH (sdL n a b) (sdH n a b) ∧ fitE (qLo n a b) (qHi n a b) = fitE (sdL n a b) (sdH n a b) ∧ sdL n a b ≤ sdH n a b := by
  obtain ⟨a1, a2, b1, b2, _⟩ := vpB_of h1
  obtain ⟨n1, n2⟩ := vnB_of h2
  have h := scale_fit (a1 := n) (a2 := n) (n := a) (d := b) ⟨by omega, by omega, by omega⟩ ⟨by omega, by omega⟩ ⟨by omega, by omega⟩
  simp only [scaleP, Int.min_self, Int.max_self] at h
  exact h
set_option maxRecDepth 20000 in
set_option maxHeartbeats 1000000 in
theorem rOf_any (n a b : Int) (w : World) :
    Calls Try.prog 38 #[.int .i64 n, .agg #[.int .i64 a, .int .i64 b]] w fun e w' => e = .returned (.tuple #[.agg #[.int .i64 (ofL n a b), .int .i64 (ofH n a b)], .int .i64 (ofE n a b)]) ∧ Below w.heap.size w w' := by
  have c1 := Lib.hid (rPart_any a b)
  have c2 := Lib.hid (rIn_any n (-1000000000000000) 1000000000000000)
  have EL : Hid (ofL n a b = if vpB a b = true then (if vnB n = true then fitL (qLo n a b) (qHi n a b) else 0) else 0) := Lib.hid rfl
  have EH : Hid (ofH n a b = if vpB a b = true then (if vnB n = true then fitH (qLo n a b) (qHi n a b) else 0) else 0) := Lib.hid rfl
  have EE : Hid (ofE n a b = if vpB a b = true then (if vnB n = true then fitE (qLo n a b) (qHi n a b) else 3) else 2) := Lib.hid rfl
  have HF := Lib.hid (@of_fit n a b)
  have c3 : Hid (vpB a b = true → vnB n = true → ∀ w, Calls Try.prog 101 #[.int .i64 n, .int .i64 a, .int .i64 b] w fun e w' => e = .returned (.tuple #[.int .i64 (sdL n a b), .int .i64 (sdH n a b)]) ∧ w = w') := Lib.hid (fun h1 h2 w => by
    obtain ⟨a1, a2, b1, b2, _⟩ := vpB_of h1
    obtain ⟨n1, n2⟩ := vnB_of h2
    exact rScaled_any n a b ⟨by omega, by omega⟩ ⟨by omega, by omega⟩ ⟨by omega, by omega⟩ w)
  have c4 := Lib.hid (rFits_any (sdL n a b) (sdH n a b))
  generalize ofL n a b = rl at *
  generalize ofH n a b = rh at *
  generalize ofE n a b = re at *
  generalize fitL (qLo n a b) (qHi n a b) = fl at *
  generalize fitH (qLo n a b) (qHi n a b) = fh at *
  generalize fitE (qLo n a b) (qHi n a b) = fe at *
  generalize fitL (sdL n a b) (sdH n a b) = fl' at *
  generalize fitH (sdL n a b) (sdH n a b) = fh' at *
  generalize fitE (sdL n a b) (sdH n a b) = fe' at *
  generalize sdL n a b = lo at *
  generalize sdH n a b = hi at *
  generalize vpB a b = p at *
  have hvn : vnB n = (decide (-1000000000000000 ≤ n) && decide (n ≤ 1000000000000000)) := rfl
  rw [← hvn] at c2
  generalize vnB n = q at *
  clear hvn
  cases p
  · simp only [Bool.false_eq_true, if_false] at EL EH EE
    go_enter Try.func38, Try.ntmps38
    go_wp2_with fail
    refine (c1.out _).mono ?_
    rintro e W1 ⟨rfl, hb⟩
    have A0 := cell_next hb (b := w.heap.size) (o := 0) (by simp <;> omega) (v := some (.int .i64 a)) (by simp [go_sem])
    have A1 := cell_next hb (b := w.heap.size) (o := 1) (by simp <;> omega) (v := some (.int .i64 b)) (by simp [go_sem])
    have nA : w.heap.size < W1.heap.size := by have := hb.size; simp at this; omega
    have r0 := cell_next hb (b := w.heap.size + 1) (o := 0) (by simp <;> omega) (v := some (.int .i64 0)) (by simp [go_sem])
    have fr0 := frozen_next hb (b := w.heap.size + 1) (o := 0) (by simp <;> omega) (v := false) (by simp [go_sem])
    have r1 := cell_next hb (b := w.heap.size + 1) (o := 1) (by simp <;> omega) (v := some (.int .i64 0)) (by simp [go_sem])
    have fr1 := frozen_next hb (b := w.heap.size + 1) (o := 1) (by simp <;> omega) (v := false) (by simp [go_sem])
    have nr : w.heap.size + 1 < W1.heap.size := by have := hb.size; simp at this; omega
    have hB := (below2 hb)
    clear hb
    go_wp2_with fail
    refine bodyPost_ret (v := .tuple #[.agg #[.int .i64 0, .int .i64 0], .int .i64 2]) (by simp [results, Try.results38, go_sem, r0, r1, fr0, fr1]) rfl ⟨by rw [EL.out, EH.out, EE.out], ?_⟩
    exact ((hB.setCell (p := ⟨w.heap.size + 1, 0, none⟩) (by simp <;> omega) _).setCell (p := ⟨w.heap.size + 1, 1, none⟩) (by simp <;> omega) _)
  · cases q
    · simp only [Bool.false_eq_true, if_false, if_true] at EL EH EE
      go_enter Try.func38, Try.ntmps38
      go_wp2_with fail
      refine (c1.out _).mono ?_
      rintro e W1 ⟨rfl, hb⟩
      have A0 := cell_next hb (b := w.heap.size) (o := 0) (by simp <;> omega) (v := some (.int .i64 a)) (by simp [go_sem])
      have A1 := cell_next hb (b := w.heap.size) (o := 1) (by simp <;> omega) (v := some (.int .i64 b)) (by simp [go_sem])
      have nA : w.heap.size < W1.heap.size := by have := hb.size; simp at this; omega
      have r0 := cell_next hb (b := w.heap.size + 1) (o := 0) (by simp <;> omega) (v := some (.int .i64 0)) (by simp [go_sem])
      have fr0 := frozen_next hb (b := w.heap.size + 1) (o := 0) (by simp <;> omega) (v := false) (by simp [go_sem])
      have r1 := cell_next hb (b := w.heap.size + 1) (o := 1) (by simp <;> omega) (v := some (.int .i64 0)) (by simp [go_sem])
      have fr1 := frozen_next hb (b := w.heap.size + 1) (o := 1) (by simp <;> omega) (v := false) (by simp [go_sem])
      have nr : w.heap.size + 1 < W1.heap.size := by have := hb.size; simp at this; omega
      have hB := (below2 hb)
      clear hb
      go_wp2_with fail
      refine (c2.out _).mono ?_
      rintro e w' ⟨rfl, rfl⟩
      go_wp2_with fail
      refine bodyPost_ret (v := .tuple #[.agg #[.int .i64 0, .int .i64 0], .int .i64 3]) (by simp [results, Try.results38, go_sem, r0, r1, fr0, fr1]) rfl ⟨by rw [EL.out, EH.out, EE.out], ?_⟩
      exact ((hB.setCell (p := ⟨w.heap.size + 1, 0, none⟩) (by simp <;> omega) _).setCell (p := ⟨w.heap.size + 1, 1, none⟩) (by simp <;> omega) _)
    · simp only [if_true] at EL EH EE
      obtain ⟨rfl, rfl, rfl, hle⟩ := HF.out rfl rfl
      have c5 := Lib.hid (c3.out rfl rfl)
      have c6 := Lib.hid (c4.out hle)
      clear c3 c4 hle HF
      go_enter Try.func38, Try.ntmps38
      go_wp2_with fail
      refine (c1.out _).mono ?_
      rintro e W1 ⟨rfl, hb⟩
      have A0 := cell_next hb (b := w.heap.size) (o := 0) (by simp <;> omega) (v := some (.int .i64 a)) (by simp [go_sem])
      have A1 := cell_next hb (b := w.heap.size) (o := 1) (by simp <;> omega) (v := some (.int .i64 b)) (by simp [go_sem])
      have nA : w.heap.size < W1.heap.size := by have := hb.size; simp at this; omega
      have r0 := cell_next hb (b := w.heap.size + 1) (o := 0) (by simp <;> omega) (v := some (.int .i64 0)) (by simp [go_sem])
      have fr0 := frozen_next hb (b := w.heap.size + 1) (o := 0) (by simp <;> omega) (v := false) (by simp [go_sem])
      have r1 := cell_next hb (b := w.heap.size + 1) (o := 1) (by simp <;> omega) (v := some (.int .i64 0)) (by simp [go_sem])
      have fr1 := frozen_next hb (b := w.heap.size + 1) (o := 1) (by simp <;> omega) (v := false) (by simp [go_sem])
      have nr : w.heap.size + 1 < W1.heap.size := by have := hb.size; simp at this; omega
      have hB := (below2 hb)
      clear hb
      go_wp2_with fail
      refine (c2.out _).mono ?_
      rintro e w' ⟨rfl, rfl⟩
      go_wp2_with fail
      refine (c5.out _).mono ?_
      rintro e w' ⟨rfl, rfl⟩
      go_wp2_with fail
      refine (c6.out _).mono ?_
      rintro e W2 ⟨rfl, hb⟩
      replace A0 := cell_next hb nA A0
      replace A1 := cell_next hb nA A1
      replace nA := Nat.lt_of_lt_of_le nA hb.size
      replace r0 := cell_next hb nr r0
      replace fr0 := frozen_next hb nr fr0
      replace r1 := cell_next hb nr r1
      replace fr1 := frozen_next hb nr fr1
      replace nr := Nat.lt_of_lt_of_le nr hb.size
      replace hB := hB.trans (hb.mono hB.size)
      clear hb
      go_wp2_with fail
      refine bodyPost_ret (v := .tuple #[.agg #[.int .i64 fl, .int .i64 fh], .int .i64 fe]) (by simp [results, Try.results38, go_sem, r0, r1, fr0, fr1]) rfl ⟨by rw [EL.out, EH.out, EE.out], ?_⟩
      exact ((hB.setCell (p := ⟨w.heap.size + 1, 0, none⟩) (by simp <;> omega) _).setCell (p := ⟨w.heap.size + 1, 1, none⟩) (by simp <;> omega) _)
end Go.Proofs.Ytiibbnbknmeplaa
