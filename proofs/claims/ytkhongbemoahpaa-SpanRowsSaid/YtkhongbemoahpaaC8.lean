/- Contracts: the part that MakePart returns. -/
import Derived.Test.YtkhongbemoahpaaC7
namespace Go.Proofs.Ytkhongbemoahpaa
open Go.RowKit Go.Lib
set_option linter.unusedVariables false
set_option linter.unusedSimpArgs false

def vnB (n : Int) : Bool := decide (-1000000000000000 ≤ n) && decide (n ≤ 1000000000000000)
theorem vnB_of {n : Int} (h : vnB n = true) : -1000000000000000 ≤ n ∧ n ≤ 1000000000000000 := by simpa [vnB] using h

set_option maxHeartbeats 400000 in
theorem validNumber_any (n : Int) (w : World) :
    Calls Try.prog 40 #[.int .i64 n] w fun e w' => e = .returned (.bool (vnB n)) ∧ w = w' := by
  by_cases h1 : -1000000000000000 ≤ n <;> by_cases h2 : n ≤ 1000000000000000
  all_goals try (exfalso; omega)
  all_goals
    go_enter Try.func40, Try.ntmps40
    go_wp2
    go_ret
    exact ⟨by simp [vnB, *], rfl⟩

def mkOk (num den : Int) : Bool := vnB num && vnB den && decide (den ≠ 0)
def mkN (num den : Int) : Int := if mkOk num den then lowRN num den else 0
def mkD (num den : Int) : Int := if mkOk num den then lowRQ num den else 0
def mkE (num den : Int) : Int := if mkOk num den then lowRE num den else 3

set_option maxHeartbeats 1000000 in
theorem makePart_any (num den : Int) (w : World) :
    Calls Try.prog 19 #[.int .i64 num, .int .i64 den] w fun e w' => e = .returned (.tuple #[.agg #[.int .i64 (mkN num den), .int .i64 (mkD num den)], .int .i64 (mkE num den)]) ∧ Below w.heap.size w w' := by
  have c1 := Lib.hid (validNumber_any num)
  have c2 := Lib.hid (validNumber_any den)
  have eN : Hid (mkN num den = if mkOk num den then lowRN num den else 0) := Lib.hid rfl
  have eD : Hid (mkD num den = if mkOk num den then lowRQ num den else 0) := Lib.hid rfl
  have eE : Hid (mkE num den = if mkOk num den then lowRE num den else 3) := Lib.hid rfl
  have eO : Hid (mkOk num den = (vnB num && vnB den && decide (den ≠ 0))) := Lib.hid rfl
  generalize mkN num den = rn at *
  generalize mkD num den = rd at *
  generalize mkE num den = re at *
  have c3 : Hid (vnB num = true → vnB den = true → den ≠ 0 → ∀ w, Calls Try.prog 41 #[.int .i64 num, .int .i64 den] w fun e w' => e = .returned (.tuple #[.agg #[.int .i64 (lowRN num den), .int .i64 (lowRQ num den)], .int .i64 (lowRE num den)]) ∧ Below w.heap.size w w') := by
    intro h1 h2 h3 w
    have a := vnB_of h1
    have b := vnB_of h2
    exact lowest_any num den ⟨by omega, by omega⟩ ⟨by omega, by omega⟩ h3 w
  generalize lowRN num den = ln at *
  generalize lowRQ num den = lq at *
  generalize lowRE num den = le at *
  generalize mkOk num den = ok at *
  by_cases hz : den = 0
  all_goals
    generalize vnB num = b1 at *
    generalize vnB den = b2 at *
    cases b1 <;> cases b2
  all_goals
    simp [hz] at eO
    have eo := eO.out
    subst eo
    simp only [if_true, if_false, Bool.false_eq_true] at eN eD eE
    first | have hzb : (den == 0) = true := by simp [hz] | have hzb : (den == 0) = false := by simp [hz]
    have hz' := Lib.hid hz
    clear hz eO
    go_enter Try.func19, Try.ntmps19
    go_wp2_with fail
    refine (c1.out _).mono ?_
    rintro e w1 ⟨rfl, rfl⟩
    go_wp2_with fail
    try (refine (c2.out _).mono ?_; rintro e w2 ⟨rfl, rfl⟩; go_wp2_with fail)
    try (refine (c3.out (by trivial) (by trivial) hz'.out _).mono ?_; rintro e w3 ⟨rfl, hb3⟩; have r0 := cell_next hb3 (b := w.heap.size) (o := 0) (by simp) (v := some (.int .i64 0)) (by simp); have r1 := cell_next hb3 (b := w.heap.size) (o := 1) (by simp) (v := some (.int .i64 0)) (by simp); have e0 := frozen_next hb3 (b := w.heap.size) (o := 0) (by simp) (v := false) (by simp); have e1 := frozen_next hb3 (b := w.heap.size) (o := 1) (by simp) (v := false) (by simp); have hB := below1 hb3; clear hb3; go_wp2_with fail)
    refine bodyPost_ret (v := .tuple #[.agg #[.int .i64 rn, .int .i64 rd], .int .i64 re]) (by rw [eN.out, eD.out, eE.out]; first | (simp [results, Try.results19, go_sem, r0, r1]; done) | (simp [results, Try.results19, go_sem]; done)) rfl ⟨rfl, ?_⟩
    first | exact (hB.setCell (p := ⟨w.heap.size, 0, none⟩) (Nat.le_refl _) _).setCell (p := ⟨w.heap.size, 1, none⟩) (Nat.le_refl _) _ | exact (Below.refl _ _).alloc (Nat.le_refl _) _
end Go.Proofs.Ytkhongbemoahpaa

