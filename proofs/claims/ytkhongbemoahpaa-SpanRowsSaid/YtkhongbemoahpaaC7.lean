/- Contracts: the greatest common divisor; fractions in lowest terms. -/
import Derived.Test.YtkhongbemoahpaaC2
namespace Go.Proofs.Ytkhongbemoahpaa
open Go.RowKit Go.Lib
set_option linter.unusedVariables false
set_option linter.unusedSimpArgs false

def G64 (n : Int) : Prop := -9223372036854775807 ≤ n ∧ n ≤ 9223372036854775807

theorem gcd_step (x y : Int) : Int.gcd y (x.tmod y) = Int.gcd x y := by
  unfold Int.gcd
  rw [Int.natAbs_tmod, Nat.gcd_comm x.natAbs, Nat.gcd_rec y.natAbs x.natAbs, Nat.gcd_comm]
theorem tmod_bd (x y : Int) (hx : G64 x) : G64 (x.tmod y) := by
  have h := Int.natAbs_tmod x y
  have h2 := Nat.mod_le x.natAbs y.natAbs
  unfold G64 at *
  omega
theorem tmod_lt (x y : Int) (hy : y ≠ 0) : (x.tmod y).natAbs < y.natAbs := by
  rw [Int.natAbs_tmod]
  exact Nat.mod_lt _ (by omega)
theorem wrap_tmod (x y : Int) (hx : G64 x) : IntKind.i64.wrap (x.tmod y) = x.tmod y := by
  have h := tmod_bd x y hx
  unfold G64 at h
  exact IntWalk.i64_in _ (by omega)

set_option maxHeartbeats 400000 in
theorem divisor_any (a b : Int) (ha : G64 a) (hb : G64 b) (w : World) :
    Calls Try.prog 51 #[.int .i64 a, .int .i64 b] w fun e w' => e = .returned (.int .i64 (Int.gcd a b : Nat)) ∧ Below w.heap.size w w' := by
  go_enter Try.func51, Try.ntmps51
  go_wp2_with fail
  go_loopw [0, 1] (fun s t wr => ∃ x y : Int, s = .int .i64 x ∧ t = .int .i64 y ∧ Hid (Int.gcd x y = Int.gcd a b) ∧ Hid (G64 x) ∧ Hid (G64 y) ∧ Below w.heap.size w wr) (fun _ t _ => (RowKit.intOf t).natAbs)
  case atStart => exact ⟨a, b, rfl, rfl, Lib.hid rfl, Lib.hid ha, Lib.hid hb, Below.refl _ _⟩
  case round =>
    obtain ⟨x, y, rfl, rfl, hg, hx, hy, hbr⟩ := hrel
    by_cases h0 : y = 0
    · have hb0 : (y != 0) = false := by simp [h0]
      have hgx : Int.gcd a b = x.natAbs := by rw [← hg.out, h0]; simp
      have HG := Lib.hid hgx
      clear hgx h0
      have hxb := hx.out
      unfold G64 at hxb
      by_cases hn : x < 0
      all_goals
        go_wp2_with fail
        go_ret
        refine ⟨ret_int ?_, hbr⟩
        rw [HG.out]
        omega
    · have hb0 : (y != 0) = true := by simp [h0]
      have hq := tmod_lt x y h0
      have HW := wrap_tmod x y hx.out
      have hy0 : (y == 0) = false := by simp [h0]
      have hg2 := Lib.hid ((gcd_step x y).trans hg.out)
      have hbd := Lib.hid (tmod_bd x y hx.out)
      have Hq := Lib.hid hq
      clear hq
      go_wp2_with fail
      go_quiet (fail)
      go_wp2_with fail
      go_roundw
      case rel => exact ⟨y, x.tmod y, rfl, rfl, hg2, hy, hbd, below_drewN hbr _⟩
      case measure =>
        have h := Hq.out
        rw [Int.natAbs_tmod] at h
        simp [RowKit.intOf]
        exact h

def fitsB (p q : Int) : Bool := decide (-1000000000 ≤ p) && decide (p ≤ 1000000000) && decide (1 ≤ q) && decide (q ≤ 1000000000)
def lowD (num den : Int) : Int := if den < 0 then -(Int.gcd num den : Int) else (Int.gcd num den : Int)
def lowN (num den : Int) : Int := num.tdiv (lowD num den)
def lowQ (num den : Int) : Int := den.tdiv (lowD num den)
/-- what 'lowest' returns -/
def lowRN (num den : Int) : Int := if fitsB (lowN num den) (lowQ num den) then lowN num den else 0
def lowRQ (num den : Int) : Int := if fitsB (lowN num den) (lowQ num den) then lowQ num den else 0
def lowRE (num den : Int) : Int := if fitsB (lowN num den) (lowQ num den) then 0 else 10

set_option maxHeartbeats 400000 in
theorem fits_any (p q : Int) (w : World) :
    Calls Try.prog 52 #[.int .i64 p, .int .i64 q] w fun e w' => e = .returned (.bool (fitsB p q)) ∧ w = w' := by
  by_cases h1 : -1000000000 ≤ p <;> by_cases h2 : p ≤ 1000000000 <;> by_cases h3 : 1 ≤ q <;> by_cases h4 : q ≤ 1000000000
  all_goals try (exfalso; omega)
  all_goals
    go_enter Try.func52, Try.ntmps52
    go_wp2
    go_ret
    exact ⟨by simp [fitsB, *], rfl⟩

theorem tdiv_bd (x y : Int) (hx : G64 x) : G64 (x.tdiv y) := by
  have h := Int.natAbs_tdiv x y
  have h2 : x.natAbs.div y.natAbs ≤ x.natAbs := Nat.div_le_self x.natAbs y.natAbs
  rw [← h] at h2
  clear h
  unfold G64 at *
  omega
theorem wrap_tdiv (x y : Int) (hx : G64 x) : IntKind.i64.wrap (x.tdiv y) = x.tdiv y := by
  have h := tdiv_bd x y hx
  unfold G64 at h
  exact IntWalk.i64_in _ (by omega)
theorem gcd_bd (a b : Int) (hb0 : b ≠ 0) (hb : G64 b) : 0 < Int.gcd a b ∧ Int.gcd a b ≤ 9223372036854775807 := by
  have h1 := Int.gcd_pos_of_ne_zero_right a hb0
  have h2 := Nat.le_of_dvd (by omega) (Int.gcd_dvd_natAbs_right a b)
  unfold G64 at hb
  omega

set_option maxHeartbeats 1000000 in
theorem lowest_any (num den : Int) (hn : G64 num) (hd : G64 den) (hd0 : den ≠ 0) (w : World) :
    Calls Try.prog 41 #[.int .i64 num, .int .i64 den] w fun e w' => e = .returned (.tuple #[.agg #[.int .i64 (lowRN num den), .int .i64 (lowRQ num den)], .int .i64 (lowRE num den)]) ∧ Below w.heap.size w w' := by
  obtain ⟨g1, g2⟩ := gcd_bd num den hd0 hd
  have hD : Hid (lowD num den = if den < 0 then -(Int.gcd num den : Int) else (Int.gcd num den : Int)) := Lib.hid rfl
  have hN : Hid (lowN num den = num.tdiv (lowD num den)) := Lib.hid rfl
  have hQ : Hid (lowQ num den = den.tdiv (lowD num den)) := Lib.hid rfl
  have c1 := Lib.hid (divisor_any num den hn hd)
  have hd0' := Lib.hid hd0
  generalize Int.gcd num den = g at *
  clear hd0
  have hd00 : den = 0 → False := hd0'.out
  have hRN : Hid (lowRN num den = if fitsB (lowN num den) (lowQ num den) then lowN num den else 0) := Lib.hid rfl
  have hRQ : Hid (lowRQ num den = if fitsB (lowN num den) (lowQ num den) then lowQ num den else 0) := Lib.hid rfl
  have hRE : Hid (lowRE num den = if fitsB (lowN num den) (lowQ num den) then 0 else 10) := Lib.hid rfl
  generalize lowRN num den = rn at *
  generalize lowRQ num den = rq at *
  generalize lowRE num den = re at *
  by_cases hneg : den < 0
  all_goals
    rw [hN.out, hQ.out, hD.out] at hRN hRQ hRE
    first | rw [if_pos hneg] at hRN hRQ hRE | rw [if_neg hneg] at hRN hRQ hRE
    try simp only [Int.tdiv_neg] at hRN hRQ hRE
    obtain ⟨b1, b2⟩ := tdiv_bd num g hn
    obtain ⟨b3, b4⟩ := tdiv_bd den g hd
    clear hn hd hN hQ hD
    have z1 : ((g : Int) == 0) = false := by simp; omega
    have z2 : (-(g : Int) == 0) = false := by simp; omega
    go_enter Try.func41, Try.ntmps41
    go_wp2_with fail
    refine (c1.out _).mono ?_
    rintro e w3 ⟨rfl, hb3⟩
    go_wp2_with fail
    go_quiet (fail)
    go_wp2_with fail
    refine (fits_any _ _ _).mono ?_
    rintro e w4 ⟨rfl, rfl⟩
    have r0 := cell_next hb3 (b := w.heap.size) (o := 0) (by simp) (v := some (.int .i64 0)) (by simp)
    have r1 := cell_next hb3 (b := w.heap.size) (o := 1) (by simp) (v := some (.int .i64 0)) (by simp)
    have e0 := frozen_next hb3 (b := w.heap.size) (o := 0) (by simp) (v := false) (by simp)
    have e1 := frozen_next hb3 (b := w.heap.size) (o := 1) (by simp) (v := false) (by simp)
    have hB := below1 hb3
    clear hb3
    generalize num.tdiv _ = p at *
    generalize den.tdiv _ = q at *
    generalize fitsB _ _ = f at *
    cases f
    all_goals
      simp only [if_true, if_false, Bool.false_eq_true] at hRN hRQ hRE
      go_wp2_with fail
      refine bodyPost_ret (v := .tuple #[.agg #[.int .i64 rn, .int .i64 rq], .int .i64 re]) (by rw [hRN.out, hRQ.out, hRE.out]; simp [results, Try.results41, go_sem, r0, r1]) rfl ⟨rfl, ?_⟩
      exact ((below_drewN hB _).setCell (p := ⟨w.heap.size, 0, none⟩) (Nat.le_refl _) _).setCell (p := ⟨w.heap.size, 1, none⟩) (Nat.le_refl _) _
end Go.Proofs.Ytkhongbemoahpaa

