/- Contracts: C6, P1, C9, joined. -/
import Derived.Test.YtgklpbgdimkhaaaGreatKA1
namespace Go.Proofs.YtgklpbgdimkhaaaGreat
open Go.RowKit Go.Lib Go.Shelf
set_option linter.unusedVariables false
set_option linter.unusedSimpArgs false
attribute [local go_sem ↓] Go.wp_at_zero Go.wp_at_succ

theorem drew_size (w : World) : w.drew.heap.size = w.heap.size := rfl
theorem drewN_size (w : World) (n : Nat) : (w.drewN n).heap.size = w.heap.size := rfl

theorem drew_cell (w : World) (a : Addr) : w.drew.cell? a = w.cell? a := rfl
theorem drewN_cell (w : World) (n : Nat) (a : Addr) : (w.drewN n).cell? a = w.cell? a := rfl
theorem cell_new (w : World) (cs : Array Value) (t : TypeId) (o : Nat) : (w.alloc (.cells cs t)).cell? ⟨w.heap.size, o, none⟩ = cs[o]? := by
  rw [cell_of_row _ _ o cs t (0, 0) (heap_alloc_new w _)]
theorem cell_old (w : World) (x : Obj) (b o : Nat) (h : b < w.heap.size) : (w.alloc x).cell? ⟨b, o, none⟩ = w.cell? ⟨b, o, none⟩ := World.cell?_alloc_lt w x _ h

theorem cell_at (w : World) (cs : Array Value) (t : TypeId) (n o : Nat) (h : n = w.heap.size) : (w.alloc (.cells cs t)).cell? ⟨n, o, none⟩ = cs[o]? := by subst h; exact cell_new w cs t o

/-- since w nothing below has turned; the block B holds the result -/
def Kp (B : Nat) (w w' : World) : Prop := Below w.heap.size w w' ∧ B < w'.heap.size ∧ (∃ v, w'.cell? ⟨B, 0, none⟩ = some v) ∧ (∃ v, w'.cell? ⟨B, 1, none⟩ = some v) ∧ w'.frozen? ⟨B, 0, none⟩ = false ∧ w'.frozen? ⟨B, 1, none⟩ = false
theorem Kp.next {w W W' : World} {B : Nat} (h : Kp B w W) (hw : w.heap.size ≤ W.heap.size) (hb : Below W.heap.size W W') : Kp B w W' := by
  obtain ⟨h1, h2, ⟨v, h3⟩, ⟨u, h4⟩, h5, h6⟩ := h
  exact ⟨h1.trans (hb.mono hw), Nat.lt_of_lt_of_le h2 hb.size, ⟨v, cell_next hb h2 h3⟩, ⟨u, cell_next hb h2 h4⟩, frozen_next hb h2 h5, frozen_next hb h2 h6⟩
theorem Kp.set {w W : World} {B : Nat} (h : Kp B w W) (hB : w.heap.size ≤ B) (x y : Value) : Kp B w ((W.setCell ⟨B, 0, none⟩ x).setCell ⟨B, 1, none⟩ y) := by
  obtain ⟨h1, h2, ⟨v, h3⟩, ⟨u, h4⟩, h5, h6⟩ := h
  refine ⟨(h1.setCell hB _).setCell hB _, by simpa [World.setCell] using h2, ⟨x, ?_⟩, ⟨y, ?_⟩, ?_, ?_⟩
  · simp [go_sem, h3, h4]
  · simp [go_sem, h3, h4]
  · simp [go_sem, h5]
  · simp [go_sem, h6]
theorem keep2 {w W W' : World} {b B : Nat} {x y : Option Value} (hb : Below W.heap.size W W') (hB : b ≤ B) (h : W.cell? ⟨b, 0, none⟩ = x ∧ W.cell? ⟨b, 1, none⟩ = y ∧ Kp B w W) :
    W'.cell? ⟨b, 0, none⟩ = x ∧ W'.cell? ⟨b, 1, none⟩ = y ∧ Kp B w W' := by
  obtain ⟨h1, h2, h3⟩ := h
  have := h3.2.1
  exact ⟨cell_next hb (by omega) h1, cell_next hb (by omega) h2, h3.next h3.1.size hb⟩
theorem around_small (a b c : Int) (ha : I64 a) (hb : I64 b) (hc : I64 c) (hc0 : c ≠ 0) (hs : a.natAbs * b.natAbs < 18446744073709551616) (w : World) :
    Calls Tryz.prog 109 #[.agg #[.int .i64 a, .int .i64 b, .int .i64 c]] w fun e w' => e = .returned (.agg #[.int .i64 (qLo a b c), .int .i64 (qHi a b c)]) ∧ Below w.heap.size w w' :=
  around_of a b c (fun w => divide_small a b c ha hb hc hc0 hs w) w

theorem hull_one (lo hi a b : Int) (g : Nat) (w : World) (hg : g < w.heap.size) (h0 : w.cell? ⟨g, 0, none⟩ = some (.int .i64 a)) (h1 : w.cell? ⟨g, 1, none⟩ = some (.int .i64 b)) :
    Calls Tryz.prog 90 #[.agg #[.int .i64 lo, .int .i64 hi], .slice (some ⟨g, 0, none⟩) 1 1] w fun e w' =>
      e = .returned (.agg #[.int .i64 (min lo a), .int .i64 (max hi b)]) ∧ Below w.heap.size w w' :=
  hull_any lo hi g 0 [(a, b)] 1 w hg (fun k p hp => by
    rcases k with _ | k
    · simp at hp; subst hp; exact ⟨h0, h1⟩
    · simp at hp) (by simp)

set_option linter.unusedVariables false
set_option linter.unusedSimpArgs false

theorem neg_ediv_nat (n c : Nat) (hc : 0 < c) : (-(n : Int)) / (c : Int) = -(((n / c : Nat) : Int) + if n % c = 0 then 0 else 1) := by
  have h := Nat.div_add_mod n c
  have hr := Nat.mod_lt n hc
  generalize n / c = q at *
  generalize n % c = r at *
  have hi : (c : Int) * (q : Int) + (r : Int) = (n : Int) := by exact_mod_cast h
  by_cases h0 : r = 0
  · rw [if_pos h0]
    have := (Int.ediv_emod_unique (a := -(n : Int)) (b := (c : Int)) (r := 0) (q := -((q : Int) + 0)) (by omega)).2 ⟨by rw [Int.mul_neg, Int.add_zero]; omega, by omega, by omega⟩
    exact this.1
  · rw [if_neg h0]
    have := (Int.ediv_emod_unique (a := -(n : Int)) (b := (c : Int)) (r := (c : Int) - (r : Int)) (q := -((q : Int) + 1)) (by omega)).2 ⟨by rw [Int.mul_neg, Int.mul_add, Int.mul_one]; omega, by omega, by omega⟩
    exact this.1

theorem qW_small {a b c : Int} (h : a.natAbs * b.natAbs / c.natAbs ≤ 1000000000000000000) : qW a b c = a.natAbs * b.natAbs / c.natAbs ∧ qR a b c = a.natAbs * b.natAbs % c.natAbs := by
  unfold qW qR
  rw [if_neg (by omega), if_neg (by omega)]
  exact ⟨rfl, rfl⟩

/-- the quotient by a number above 0, if it is not too great -/
theorem q_pos {a b c : Int} (hc : 0 < c) (h : a.natAbs * b.natAbs / c.natAbs ≤ 1000000000000000000) : qLo a b c = a * b / c ∧ qHi a b c = -((-(a * b)) / c) := by
  obtain ⟨hw, hr⟩ := qW_small h
  unfold qLo qHi
  rw [hw, hr]
  have hm : a.natAbs * b.natAbs = (a * b).natAbs := (Int.natAbs_mul a b).symm
  rw [hm]
  clear hw hr h hm
  obtain ⟨C, rfl⟩ := Int.eq_ofNat_of_zero_le (by omega : 0 ≤ c)
  have hC : 0 < C := by omega
  rw [Int.natAbs_natCast]
  have hneg : qNeg a b C = (decide (a < 0) != decide (b < 0)) := by
    unfold qNeg
    rw [show decide ((C : Int) < 0) = false from by simp]
    simp
  rw [hneg]
  by_cases h1 : a < 0 <;> by_cases h2 : b < 0
  · have hp : 0 ≤ a * b := Int.mul_nonneg_of_nonpos_of_nonpos (by omega) (by omega)
    obtain ⟨n, hn⟩ := Int.eq_ofNat_of_zero_le hp
    rw [hn, Int.natAbs_natCast, neg_ediv_nat n C hC]
    simp [h1, h2]
  · have hp : 0 ≤ -(a * b) := by rw [← Int.neg_mul]; exact Int.mul_nonneg (by omega) (by omega)
    obtain ⟨n, hn⟩ := Int.eq_ofNat_of_zero_le hp
    have hn' : a * b = -(n : Int) := by omega
    rw [hn', Int.natAbs_neg, Int.natAbs_natCast, neg_ediv_nat n C hC, Int.neg_neg]
    simp [h1, h2]
  · have hp : 0 ≤ -(a * b) := by rw [← Int.mul_neg]; exact Int.mul_nonneg (by omega) (by omega)
    obtain ⟨n, hn⟩ := Int.eq_ofNat_of_zero_le hp
    have hn' : a * b = -(n : Int) := by omega
    rw [hn', Int.natAbs_neg, Int.natAbs_natCast, neg_ediv_nat n C hC, Int.neg_neg]
    simp [h1, h2]
  · have hp : 0 ≤ a * b := Int.mul_nonneg (by omega) (by omega)
    obtain ⟨n, hn⟩ := Int.eq_ofNat_of_zero_le hp
    rw [hn, Int.natAbs_natCast, neg_ediv_nat n C hC]
    simp [h1, h2]

open Go.RowKit Go.Lib Go.Shelf
set_option linter.unusedVariables false
set_option linter.unusedSimpArgs false
attribute [local go_sem ↓] Go.wp_at_zero Go.wp_at_succ

def spB (a s : Int) : Bool := decide (0 ≤ a) && decide (a ≤ 1000000000000) && decide (0 ≤ s) && decide (s ≤ 1000000000000)
theorem spB_of {a s : Int} (h : spB a s = true) : 0 ≤ a ∧ a ≤ 1000000000000 ∧ 0 ≤ s ∧ s ≤ 1000000000000 := by
  simp [spB] at h; omega

set_option maxHeartbeats 400000 in
theorem sapValid_any (a s : Int) (w : World) :
    Calls Tryz.prog 117 #[.agg #[.int .i64 a, .int .i64 s]] w fun e w' => e = .returned (.bool (spB a s)) ∧ Below w.heap.size w w' := by
  by_cases h1 : 0 ≤ a <;> by_cases h2 : a ≤ 1000000000000 <;> by_cases h3 : 0 ≤ s <;> by_cases h4 : s ≤ 1000000000000
  all_goals try (exfalso; omega)
  all_goals
    go_enter Tryz.func117, Tryz.ntmps117
    go_wp2
    go_ret
    exact ⟨by simp [spB, *], (Below.refl _ _).alloc (Nat.le_refl _) _⟩

set_option maxHeartbeats 400000 in
theorem sapMass_any (a s : Int) (h : spB a s = true) (w : World) :
    Calls Tryz.prog 118 #[.agg #[.int .i64 a, .int .i64 s]] w fun e w' => e = .returned (.int .i64 (a + s)) ∧ Below w.heap.size w w' := by
  obtain ⟨h1, h2, h3, h4⟩ := spB_of h
  clear h
  go_enter Tryz.func118, Tryz.ntmps118
  go_wp2
  go_ret
  exact ⟨rfl, (Below.refl _ _).alloc (Nat.le_refl _) _⟩

def cbE (a s brix : Int) : Int := if spB a s then (if brix < 1 ∨ 10000 < brix then 3 else if s = 0 then 7 else 0) else 2

set_option maxHeartbeats 400000 in
theorem checkBrix_any (a s brix : Int) (w : World) :
    Calls Tryz.prog 131 #[.agg #[.int .i64 a, .int .i64 s], .int .i64 brix] w fun e w' => e = .returned (.int .i64 (cbE a s brix)) ∧ Below w.heap.size w w' := by
  have c1 := Lib.hid (sapValid_any a s)
  have eE : Hid (cbE a s brix = if spB a s then (if brix < 1 ∨ 10000 < brix then 3 else if s = 0 then 7 else 0) else 2) := Lib.hid rfl
  generalize cbE a s brix = r at *
  generalize spB a s = ok at *
  cases ok
  · go_enter Tryz.func131, Tryz.ntmps131
    go_wp2_with fail
    refine (c1.out _).mono ?_
    rintro e w1 ⟨rfl, hb⟩
    have hB := below1 hb
    clear hb
    go_wp2_with fail
    go_ret
    exact ⟨ret_int (by rw [eE.out]; simp), hB⟩
  · by_cases h1 : brix < 1 <;> by_cases h2 : 10000 < brix <;> by_cases h3 : s = 0
    all_goals try (exfalso; omega)
    all_goals
      first | have h3b : (s == 0) = true := by simp [h3] | have h3b : (s == 0) = false := by simp [h3]
      have h3' := Lib.hid h3
      clear h3
      go_enter Tryz.func131, Tryz.ntmps131
      go_wp2_with fail
      refine (c1.out _).mono ?_
      rintro e w1 ⟨rfl, hb⟩
      have r1 := cell_next hb (b := w.heap.size) (o := 1) (by simp) (v := some (.int .i64 s)) (by simp)
      have hB := below1 hb
      clear hb
      go_wp2_with fail
      go_ret
      have h3 := h3'.out
      exact ⟨ret_int (by rw [eE.out]; simp [h1, h2, h3] <;> omega), hB⟩

theorem massAt_q (s brix : Int) (h3 : 0 ≤ s) (h4 : s ≤ 1000000000000) (b1 : 1 ≤ brix) (b2 : brix ≤ 10000) :
    Divides s 10000 brix ∧ qLo s 10000 brix = s * 10000 / brix ∧ 0 ≤ s * 10000 / brix ∧ s * 10000 / brix ≤ 10000000000000000 := by
  have hp : s.natAbs * (10000 : Int).natAbs < 18446744073709551616 := by
    show s.natAbs * 10000 < _
    omega
  refine ⟨fun w => divide_small s 10000 brix ⟨by omega, by omega⟩ ⟨by omega, by omega⟩ ⟨by omega, by omega⟩ (by omega) hp w, (q_pos (by omega) ?_).1, Int.ediv_nonneg (by omega) (by omega), ?_⟩
  · refine Nat.le_trans (Nat.div_le_self _ _) ?_
    show s.natAbs * 10000 ≤ _
    omega
  · refine Int.le_trans (Int.ediv_le_self _ (by omega)) ?_
    omega

theorem field_lo (x y : Int) (w : World) : (Instr.field 24 (.agg #[.int .i64 x, .int .i64 y]) 0).run Tryz.prog w = .ok (.int .i64 x) w := by kernel_rfl
theorem field_hi (x y : Int) (w : World) : (Instr.field 24 (.agg #[.int .i64 x, .int .i64 y]) 1).run Tryz.prog w = .ok (.int .i64 y) w := by kernel_rfl

set_option maxRecDepth 20000 in
set_option maxHeartbeats 400000 in
theorem massAt_any (a s brix : Int) (h3 : 0 ≤ s) (h4 : s ≤ 1000000000000) (b1 : 1 ≤ brix) (b2 : brix ≤ 10000) (w : World) :
    Calls Tryz.prog 132 #[.agg #[.int .i64 a, .int .i64 s], .int .i64 brix] w fun e w' => e = .returned (.int .i64 (s * 10000 / brix)) ∧ Below w.heap.size w w' := by
  obtain ⟨hd, hq, _, _⟩ := massAt_q s brix h3 h4 b1 b2
  have c2 := Lib.hid (around_of s 10000 brix hd)
  rw [hq] at c2
  clear hd hq
  generalize s * 10000 / brix = q at *
  generalize qHi s 10000 brix = u at *
  have hf := field_lo
  go_enter Tryz.func132, Tryz.ntmps132
  go_wp2_with fail
  refine (quotientOf3 s 10000 brix _ _ (by simp) (by simp) (by simp) (by simp)).mono ?_
  rintro e w1 ⟨rfl, hb1⟩
  have hB1 := below2 hb1
  clear hb1
  go_wp2_with fail
  refine (c2.out _).mono ?_
  rintro e w2 ⟨rfl, hb2⟩
  have hB2 := hB1.trans (hb2.mono hB1.size)
  clear hb2 hB1
  go_wp2_with fail
  go_ret
  exact ⟨rfl, hB2⟩
end Go.Proofs.YtgklpbgdimkhaaaGreat
