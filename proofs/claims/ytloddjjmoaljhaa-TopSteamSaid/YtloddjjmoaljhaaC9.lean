/- Contracts: sap, how concentrated it is, and how much water must go off or can be added. -/
import Derived.Test.YtloddjjmoaljhaaC6
import Derived.Test.YtloddjjmoaljhaaP1
namespace Go.Proofs.Ytloddjjmoaljhaa
open Go.RowKit Go.Lib Go.Shelf
set_option linter.unusedVariables false
set_option linter.unusedSimpArgs false
attribute [local go_sem ↓] Go.wp_at_zero Go.wp_at_succ

def spB (a s : Int) : Bool := decide (0 ≤ a) && decide (a ≤ 1000000000000) && decide (0 ≤ s) && decide (s ≤ 1000000000000)
theorem spB_of {a s : Int} (h : spB a s = true) : 0 ≤ a ∧ a ≤ 1000000000000 ∧ 0 ≤ s ∧ s ≤ 1000000000000 := by
  simp [spB] at h; omega

set_option maxHeartbeats 400000 in
theorem sapValid_any (a s : Int) (w : World) :
    Calls Try.prog 20 #[.agg #[.int .i64 a, .int .i64 s]] w fun e w' => e = .returned (.bool (spB a s)) ∧ Below w.heap.size w w' := by
  by_cases h1 : 0 ≤ a <;> by_cases h2 : a ≤ 1000000000000 <;> by_cases h3 : 0 ≤ s <;> by_cases h4 : s ≤ 1000000000000
  all_goals try (exfalso; omega)
  all_goals
    go_enter Try.func20, Try.ntmps20
    go_wp2
    go_ret
    exact ⟨by simp [spB, *], (Below.refl _ _).alloc (Nat.le_refl _) _⟩

set_option maxHeartbeats 400000 in
theorem sapMass_any (a s : Int) (h : spB a s = true) (w : World) :
    Calls Try.prog 21 #[.agg #[.int .i64 a, .int .i64 s]] w fun e w' => e = .returned (.int .i64 (a + s)) ∧ Below w.heap.size w w' := by
  obtain ⟨h1, h2, h3, h4⟩ := spB_of h
  clear h
  go_enter Try.func21, Try.ntmps21
  go_wp2
  go_ret
  exact ⟨rfl, (Below.refl _ _).alloc (Nat.le_refl _) _⟩

def cbE (a s brix : Int) : Int := if spB a s then (if brix < 1 ∨ 10000 < brix then 3 else if s = 0 then 7 else 0) else 2

set_option maxHeartbeats 400000 in
theorem checkBrix_any (a s brix : Int) (w : World) :
    Calls Try.prog 32 #[.agg #[.int .i64 a, .int .i64 s], .int .i64 brix] w fun e w' => e = .returned (.int .i64 (cbE a s brix)) ∧ Below w.heap.size w w' := by
  have c1 := Lib.hid (sapValid_any a s)
  have eE : Hid (cbE a s brix = if spB a s then (if brix < 1 ∨ 10000 < brix then 3 else if s = 0 then 7 else 0) else 2) := Lib.hid rfl
  generalize cbE a s brix = r at *
  generalize spB a s = ok at *
  cases ok
  · go_enter Try.func32, Try.ntmps32
    go_wp2_with fail
    refine (c1.out _).mono ?_
    rintro e w1 ⟨rfl, hb⟩
    have hB := below1 hb
    clear hb
    go_wp2_with fail
    go_ret
    exact ⟨ret_int (by rw [eE.out]; simp), hB⟩
  · by_cases h1 : brix < 1 <;> by_cases h2 : 10000 < brix <;> by_cases h3 : s = 0
    all_goals try (exfalso; omega)
    all_goals
      first | have h3b : (s == 0) = true := by simp [h3] | have h3b : (s == 0) = false := by simp [h3]
      have h3' := Lib.hid h3
      clear h3
      go_enter Try.func32, Try.ntmps32
      go_wp2_with fail
      refine (c1.out _).mono ?_
      rintro e w1 ⟨rfl, hb⟩
      have r1 := cell_next hb (b := w.heap.size) (o := 1) (by simp) (v := some (.int .i64 s)) (by simp)
      have hB := below1 hb
      clear hb
      go_wp2_with fail
      go_ret
      have h3 := h3'.out
      exact ⟨ret_int (by rw [eE.out]; simp [h1, h2, h3] <;> omega), hB⟩

theorem massAt_q (s brix : Int) (h3 : 0 ≤ s) (h4 : s ≤ 1000000000000) (b1 : 1 ≤ brix) (b2 : brix ≤ 10000) :
    Divides s 10000 brix ∧ qLo s 10000 brix = s * 10000 / brix ∧ 0 ≤ s * 10000 / brix ∧ s * 10000 / brix ≤ 10000000000000000 := by
  have hp : s.natAbs * (10000 : Int).natAbs < 18446744073709551616 := by
    show s.natAbs * 10000 < _
    omega
  refine ⟨fun w => divide_small s 10000 brix ⟨by omega, by omega⟩ ⟨by omega, by omega⟩ ⟨by omega, by omega⟩ (by omega) hp w, (q_pos (by omega) ?_).1, Int.ediv_nonneg (by omega) (by omega), ?_⟩
  · refine Nat.le_trans (Nat.div_le_self _ _) ?_
    show s.natAbs * 10000 ≤ _
    omega
  · refine Int.le_trans (Int.ediv_le_self _ (by omega)) ?_
    omega

theorem field_lo (x y : Int) (w : World) : (Instr.field 32 (.agg #[.int .i64 x, .int .i64 y]) 0).run Try.prog w = .ok (.int .i64 x) w := by kernel_rfl
theorem field_hi (x y : Int) (w : World) : (Instr.field 32 (.agg #[.int .i64 x, .int .i64 y]) 1).run Try.prog w = .ok (.int .i64 y) w := by kernel_rfl

set_option maxRecDepth 20000 in
set_option maxHeartbeats 400000 in
theorem massAt_any (a s brix : Int) (h3 : 0 ≤ s) (h4 : s ≤ 1000000000000) (b1 : 1 ≤ brix) (b2 : brix ≤ 10000) (w : World) :
    Calls Try.prog 33 #[.agg #[.int .i64 a, .int .i64 s], .int .i64 brix] w fun e w' => e = .returned (.int .i64 (s * 10000 / brix)) ∧ Below w.heap.size w w' := by
  obtain ⟨hd, hq, _, _⟩ := massAt_q s brix h3 h4 b1 b2
  have c2 := Lib.hid (around_of s 10000 brix hd)
  rw [hq] at c2
  clear hd hq
  generalize s * 10000 / brix = q at *
  generalize qHi s 10000 brix = u at *
  have hf := field_lo
  go_enter Try.func33, Try.ntmps33
  go_wp2_with fail
  refine (quotientOf3 s 10000 brix _ _ (by simp) (by simp) (by simp) (by simp)).mono ?_
  rintro e w1 ⟨rfl, hb1⟩
  have hB1 := below2 hb1
  clear hb1
  go_wp2_with fail
  refine (c2.out _).mono ?_
  rintro e w2 ⟨rfl, hb2⟩
  have hB2 := hB1.trans (hb2.mono hB1.size)
  clear hb2 hB1
  go_wp2_with fail
  go_ret
  exact ⟨rfl, hB2⟩
end Go.Proofs.Ytloddjjmoaljhaa

