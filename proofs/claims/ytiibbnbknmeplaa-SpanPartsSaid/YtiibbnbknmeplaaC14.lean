/- Contracts: whether a part is valid; sums, products and comparison of parts. -/
import Derived.Test.YtiibbnbknmeplaaP7
namespace Go.Proofs.Ytiibbnbknmeplaa
open Go.RowKit Go.Lib
set_option linter.unusedVariables false
set_option linter.unusedSimpArgs false

set_option maxHeartbeats 1000000 in
theorem validPart_any (p q : Int) (w : World) :
    Calls Try.prog 110 #[.agg #[.int .i64 p, .int .i64 q]] w fun e w' => e = .returned (.bool (vpB p q)) ∧ Below w.heap.size w w' := by
  have c1 := Lib.hid (fits_any p q)
  have c2 : Hid (fitsB p q = true → ∀ w, Calls Try.prog 141 #[.int .i64 p, .int .i64 q] w fun e w' => e = .returned (.int .i64 (Int.gcd p q : Nat)) ∧ Below w.heap.size w w') := Lib.hid (fun h w => by
    simp [fitsB] at h
    exact divisor_any p q ⟨by omega, by omega⟩ ⟨by omega, by omega⟩ w)
  have E : Hid (vpB p q = (fitsB p q && decide ((Int.gcd p q : Int) = 1))) := Lib.hid (by unfold vpB; congr 1; simp; omega)
  generalize vpB p q = r at *
  generalize fitsB p q = f at *
  generalize Int.gcd p q = g at *
  cases f
  · go_enter Try.func110, Try.ntmps110
    go_wp2_with fail
    refine (c1.out _).mono ?_
    rintro e w1 ⟨rfl, rfl⟩
    go_wp2_with fail
    go_ret
    exact ⟨by rw [E.out]; rfl, (Below.refl _ _).alloc (Nat.le_refl _) _⟩
  · obtain ⟨t, ht⟩ : ∃ t, ((g : Int) == 1) = t := ⟨_, rfl⟩
    have E2 : Hid (r = t) := Lib.hid (by rw [E.out, ← ht]; rfl)
    clear E
    have c3 := Lib.hid (c2.out rfl)
    clear c2
    cases t
    all_goals
      go_enter Try.func110, Try.ntmps110
      go_wp2_with fail
      refine (c1.out _).mono ?_
      rintro e w1 ⟨rfl, rfl⟩
      go_wp2_with fail
      refine (c3.out _).mono ?_
      rintro e w1 ⟨rfl, hb⟩
      go_wp2_with fail
      go_ret
      exact ⟨by rw [E2.out]; first | rfl | simp [ht], below1 hb⟩
end Go.Proofs.Ytiibbnbknmeplaa
