/- Contracts: the law's has and inside; pairs of small signed numbers. -/
import Derived.Test.YtkhongbemoahpaaP15
import Derived.Test.YtkhongbemoahpaaC31
import Derived.Test.YtkhongbemoahpaaC32
import Derived.Test.YtkhongbemoahpaaR11
namespace Go.Proofs.Ytkhongbemoahpaa
open Go.RowKit Go.Lib Go.Shelf
set_option linter.unusedVariables false
set_option linter.unusedSimpArgs false
attribute [local go_sem ↓] Go.wp_at_zero Go.wp_at_succ

set_option maxHeartbeats 400000 in
theorem lHas_any (lo hi n : Int) (w : World) :
    Calls Try.prog 12 #[.agg #[.int .i64 lo, .int .i64 hi], .int .i64 n] w fun e w' => e = .returned (.bool (decide (lo ≤ n) && decide (n ≤ hi))) ∧ Below w.heap.size w w' := by
  by_cases h1 : lo ≤ n <;> by_cases h2 : n ≤ hi
  all_goals
    go_enter Try.func12, Try.ntmps12
    go_wp2
    go_ret
    exact ⟨by simp [*], (Below.refl _ _).alloc (Nat.le_refl _) _⟩
set_option maxHeartbeats 400000 in
theorem lInside_any (a b c d : Int) (w : World) :
    Calls Try.prog 11 #[.agg #[.int .i64 a, .int .i64 b], .agg #[.int .i64 c, .int .i64 d]] w fun e w' => e = .returned (.bool (decide (c ≤ a) && decide (b ≤ d))) ∧ Below w.heap.size w w' := by
  by_cases h1 : c ≤ a <;> by_cases h2 : b ≤ d
  all_goals
    go_enter Try.func11, Try.ntmps11
    go_wp2
    go_ret
    exact ⟨by simp [*], ((Below.refl _ _).alloc (Nat.le_refl _) _).alloc (by simp) _⟩

/-- pairs of small signed numbers, one after another -/
def P16 (w : World) (g off : Nat) (ps : List (Int × Int)) : Prop :=
  ∀ (k : Nat) (p : Int × Int), ps[k]? = some p → (w.cell? ⟨g, off + k * 2, none⟩ = some (.int .i16 p.1) ∧ w.cell? ⟨g, off + k * 2 + 1, none⟩ = some (.int .i16 p.2)) ∧ -32768 ≤ p.1 ∧ p.1 ≤ 32767 ∧ -32768 ≤ p.2 ∧ p.2 ≤ 32767
def P16At (w : World) (v : Value) (ps : List (Int × Int)) : Prop :=
  ∃ A c, v = .slice A ps.length c ∧ (0 < ps.length → ∃ g off, A = some ⟨g, off, none⟩ ∧ g < w.heap.size ∧ P16 w g off ps)
theorem P16.below {B : Nat} {w w' : World} {g off : Nat} {ps : List (Int × Int)} (h : P16 w g off ps) (hb : Below B w w') (hg : g < B) : P16 w' g off ps := by
  intro k p hp
  obtain ⟨⟨h1, h2⟩, h3⟩ := h k p hp
  exact ⟨⟨(hb.cell hg).trans h1, (hb.cell hg).trans h2⟩, h3⟩
theorem P16At.below {w w' : World} {v : Value} {ps : List (Int × Int)} (h : P16At w v ps) (hb : Below w.heap.size w w') : P16At w' v ps := by
  obtain ⟨A, c, rfl, h⟩ := h
  refine ⟨A, c, rfl, fun hn => ?_⟩
  obtain ⟨g, off, rfl, hg, hr⟩ := h hn
  exact ⟨g, off, rfl, Nat.lt_of_lt_of_le hg hb.size, hr.below hb hg⟩
theorem P16At.bd {w : World} {v : Value} {ps : List (Int × Int)} (h : P16At w v ps) : ∀ p ∈ ps, -32768 ≤ p.2 ∧ p.2 ≤ 32767 := fun p hp => by
  obtain ⟨A, c, rfl, h⟩ := h
  obtain ⟨k, hk, e⟩ := List.mem_iff_getElem.1 hp
  obtain ⟨g, off, rfl, hg, hr⟩ := h (by omega)
  have := hr k p (by rw [List.getElem?_eq_getElem hk, e])
  exact ⟨this.2.2.2.1, this.2.2.2.2⟩
theorem RowAt.argR {w : World} {v : Value} {xs : List (Int × Int)} (h : RowAt w.heap.size w v xs) : ArgAt w v xs := by
  obtain ⟨A, c, rfl, hc, h⟩ := h
  by_cases h0 : 0 < xs.length
  · obtain ⟨g, off, rfl, hg, hr⟩ := h h0
    exact .inr ⟨g, off, c, rfl, hc, hg, hr⟩
  · have : xs = [] := List.eq_nil_of_length_eq_zero (by omega)
    subst this
    exact .inl ⟨⟨A, c, rfl⟩, rfl⟩
theorem below_undrw {n k : Nat} {W W' : World} (h : Below n (W.drewN k) W') : Below n W W' := ⟨h.os, h.tape, h.output, h.size, h.block⟩
theorem take_snocR (xs : List (Int × Int)) (k : Nat) (p : Int × Int) (h : xs[k]? = some p) : xs.take (k + 1) = xs.take k ++ [p] := by
  rw [List.take_add_one, h]; rfl
theorem own_madeR (w : World) (T : TypeId) : (w.alloc (.cells #[] T)).ownsRow w.heap.size T 2 (.slice (some ⟨w.heap.size, 0, none⟩) 0 0) 0 (flat []) :=
  ⟨rfl, .inr ⟨w.heap.size, 0, #[], rfl, Nat.le_refl _, heap_alloc_new w _, Nat.le_refl _, Nat.zero_le _, rfl, rfl⟩⟩
theorem i16_u16 (a : Int) (h1 : -32768 ≤ a) (h2 : a ≤ 32767) : IntKind.u16.wrap a = a % 65536 := by
  have := IntKind.wrap_u16 a
  omega
theorem rrun_min2R {P : Program} (tys : Array TypeId) (ty : TypeId) (k : IntKind) (x y : Int) (w : World) : (Builtin.min_ tys ty #[.int k x, .int k y]).run P w = .ok (.int k (min x y)) w := by
  simp [Builtin.min_, Builtin.min2]
  split <;> omega
theorem rrun_max2R {P : Program} (tys : Array TypeId) (ty : TypeId) (k : IntKind) (x y : Int) (w : World) : (Builtin.max_ tys ty #[.int k x, .int k y]).run P w = .ok (.int k (max x y)) w := by
  simp [Builtin.max_, Builtin.max2]
  split <;> omega
end Go.Proofs.Ytkhongbemoahpaa

