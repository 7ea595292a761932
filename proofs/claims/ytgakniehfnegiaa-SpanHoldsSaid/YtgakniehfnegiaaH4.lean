/- The statement on all truths: its calls laid, its cases. -/
import Derived.Test.YtgakniehfnegiaaH3N
namespace Go.Proofs.Ytgakniehfnegiaa
open Go.RowKit Go.Lib Go.Shelf
set_option linter.unusedVariables false
set_option linter.unusedSimpArgs false

theorem tdiv_sm {a b : Int} (a1 : -2147483648 ≤ a) (a2 : a ≤ 2147483647) (b1 : -2147483648 ≤ b) (b2 : b ≤ 2147483647) : Sm ((min a b).tdiv 200) ((max a b).tdiv 200) := by
  have h : min a b ≤ max a b := by omega
  have h1 : -2147483648 ≤ min a b := by omega
  have h2 : max a b ≤ 2147483647 := by omega
  generalize min a b = x at *
  generalize max a b = y at *
  unfold Sm
  rcases Int.le_total 0 x with hx | hx <;> rcases Int.le_total 0 y with hy | hy <;>
    (try rw [Int.tdiv_eq_ediv_of_nonneg hx]) <;> (try rw [Int.tdiv_eq_ediv_of_nonneg hy]) <;>
    (try rw [show x = -(-x) from by omega, Int.neg_tdiv, Int.tdiv_eq_ediv_of_nonneg (by omega : 0 ≤ -x)]) <;>
    (try rw [show y = -(-y) from by omega, Int.neg_tdiv, Int.tdiv_eq_ediv_of_nonneg (by omega : 0 ≤ -y)]) <;> omega
theorem pick_in {lo hi p : Int} (s : Sm lo hi) : lo ≤ lo + p % (hi - lo + 1) ∧ lo + p % (hi - lo + 1) ≤ hi := by
  obtain ⟨s1, s2, s3⟩ := s
  have h1 : 0 ≤ p % (hi - lo + 1) := Int.emod_nonneg _ (by omega)
  have h2 : p % (hi - lo + 1) < hi - lo + 1 := Int.emod_lt_of_pos _ (by omega)
  omega

theorem hc_of {p0 p1 xl xh yl yh m n d : Int} (x : Sm xl xh) (y : Sm yl yh) (hp0 : 0 ≤ p0) (hp0' : p0 ≤ 4294967295) (hp1 : 0 ≤ p1) (hp1' : p1 ≤ 4294967295)
    (hm : xl + p0 % (xh - xl + 1) = m) (hn : yl + p1 % (yh - yl + 1) = n) (m1 : xl ≤ m) (m2 : m ≤ xh) (n1 : yl ≤ n) (n2 : n ≤ yh) (d1 : 1 ≤ d) (d2 : d ≤ 1000) :
    HC p0 p1 xl xh yl yh m n d (xl + yl) (xh + yh) (xl - yh) (xh - yl) (mn4 xl xh yl yh) (mx4 xl xh yl yh) (skL xl xh n d) (skH xl xh n d) (m + yl) (xh + yh) (m - yh) (xh - yl) (mn4 m xh yl yh) (mx4 m xh yl yh) (skL m xh n d) (skH m xh n d) (min xl yl) (max xh yh) := by
  have x' : Sm m xh := ⟨by have := x.1; omega, m2, x.2.2⟩
  have nb : -11000000 ≤ n ∧ n ≤ 11000000 := ⟨by have := y.1; omega, by have := y.2.2; omega⟩
  have ht := times_has m1 m2 n1 n2
  have ti := times_inside m1 m2 (yl := yl) (yh := yh) y.2.1
  have si := scale_inside (n := n) m1 m2 d1
  refine ⟨fun w => ?_, fun w => ?_, fun v w hv => ?_, fun w => ?_, fun w => ?_, fun w => ?_, fun w => ?_, fun w => ?_, fun w => ?_, fun v w hv => ?_, fun w => ?_, fun w => ?_, fun w => ?_, fun w => ?_, fun w => ?_, fun w => ?_, fun w => ?_, fun v w hv => ?_, fun v w hv => ?_, fun w => ?_, fun w => ?_⟩
  · have := wIn_any xl xh p0 x hp0 hp0' w; rwa [hm] at this
  · have := wIn_any yl yh p1 y hp1 hp1' w; rwa [hn] at this
  · have := sum_any v _ w hv; obtain ⟨e1, e2, e3⟩ := sum_two x y; rwa [e1, e2, e3] at this
  · have := less_any xl xh yl yh w; obtain ⟨e1, e2, e3⟩ := less_two x y; rwa [e1, e2, e3] at this
  · have := times_any xl xh yl yh w; obtain ⟨e1, e2, e3⟩ := times_two x y; rwa [e1, e2, e3] at this
  · have := scale_any xl xh n d w; obtain ⟨e1, e2, e3⟩ := scale_two x nb.1 nb.2 d1 d2; rwa [e1, e2, e3] at this
  · exact lHas_yes (by omega) (by omega) w
  · exact lHas_yes (by omega) (by omega) w
  · exact lHas_yes ht.1 ht.2 w
  · have := sum_any v _ w hv; obtain ⟨e1, e2, e3⟩ := sum_two x' y; rwa [e1, e2, e3] at this
  · have := less_any m xh yl yh w; obtain ⟨e1, e2, e3⟩ := less_two x' y; rwa [e1, e2, e3] at this
  · have := times_any m xh yl yh w; obtain ⟨e1, e2, e3⟩ := times_two x' y; rwa [e1, e2, e3] at this
  · have := scale_any m xh n d w; obtain ⟨e1, e2, e3⟩ := scale_two x' nb.1 nb.2 d1 d2; rwa [e1, e2, e3] at this
  · exact lInside_yes (by omega) (by omega) w
  · exact lInside_yes (by omega) (by omega) w
  · exact lInside_yes ti.1 ti.2 w
  · exact lInside_yes si.1 si.2 w
  · have := hullAll_any v _ w hv; obtain ⟨e1, e2, e3⟩ := hull_two x y; rwa [e1, e2, e3] at this
  · have := meet_any v _ w hv; obtain ⟨e1, e2, e3⟩ := meet_two x y; rwa [e1, e2, e3] at this
  · exact lInside_yes (by omega) (by omega) w
  · exact lInside_yes (by omega) (by omega) w

theorem mul_small {a b : Int} (A B : Int) (h1 : -A ≤ a) (h2 : a ≤ A) (h3 : -B ≤ b) (h4 : b ≤ B) (hA : 0 ≤ A) (hB : 0 ≤ B) (h : A * B ≤ 1000000000000000) : -1000000000000000 ≤ a * b ∧ a * b ≤ 1000000000000000 := by
  obtain ⟨u, v⟩ := mul_bd h1 h2 h3 h4 hA hB
  constructor <;> omega

theorem sk_bd {xl xh n d : Int} (x : Sm xl xh) (n1 : -11000000 ≤ n) (n2 : n ≤ 11000000) (d1 : 1 ≤ d) (d2 : d ≤ 1000) :
    (-1000000000000000 ≤ skL xl xh n d * d ∧ skL xl xh n d * d ≤ 1000000000000000) ∧ (-1000000000000000 ≤ skH xl xh n d * d ∧ skH xl xh n d * d ≤ 1000000000000000) := by
  obtain ⟨x1, x2, x3⟩ := x
  have a1 := mul_bd (m := xl) (n := n) (A := 11000000) (B := 11000000) (by omega) (by omega) (by omega) (by omega) (by omega) (by omega)
  have a2 := mul_bd (m := xh) (n := n) (A := 11000000) (B := 11000000) (by omega) (by omega) (by omega) (by omega) (by omega) (by omega)
  have lo : ∀ z : Int, -121000000000000 ≤ z → z ≤ 121000000000000 → -1000000000000000 ≤ (z / d) * d ∧ (z / d) * d ≤ 1000000000000000 := fun z z1 z2 => by
    have h1 := Int.emod_add_mul_ediv z d
    have h2 := Int.emod_nonneg z (by omega : d ≠ 0)
    have h3 := Int.emod_lt_of_pos z (by omega : 0 < d)
    rw [Int.mul_comm] at h1
    omega
  have l1 := lo (xl * n) (by omega) (by omega)
  have l2 := lo (xh * n) (by omega) (by omega)
  have l3 := lo (-(xl * n)) (by omega) (by omega)
  have l4 := lo (-(xh * n)) (by omega) (by omega)
  constructor
  · unfold skL
    rcases Int.le_total (xl * n / d) (xh * n / d) with h | h
    · rw [Int.min_eq_left h]; exact l1
    · rw [Int.min_eq_right h]; exact l2
  · unfold skH
    rcases Int.le_total (-(-(xl * n) / d)) (-(-(xh * n) / d)) with h | h
    · rw [Int.max_eq_right h, Int.neg_mul]; omega
    · rw [Int.max_eq_left h, Int.neg_mul]; omega

set_option maxHeartbeats 1000000 in
theorem holds_walk (a0 a1 b0 b1 p0 p1 p2 : Int) (ha0 : -2147483648 ≤ a0) (ha0' : a0 ≤ 2147483647) (ha1 : -2147483648 ≤ a1) (ha1' : a1 ≤ 2147483647)
    (hb0 : -2147483648 ≤ b0) (hb0' : b0 ≤ 2147483647) (hb1 : -2147483648 ≤ b1) (hb1' : b1 ≤ 2147483647)
    (hp0 : 0 ≤ p0) (hp0' : p0 ≤ 4294967295) (hp1 : 0 ≤ p1) (hp1' : p1 ≤ 4294967295) (hp2 : 0 ≤ p2) (hp2' : p2 ≤ 4294967295) (w : World) :
    Calls Try.prog 11 #[.agg #[.int .i32 a0, .int .i32 a1], .agg #[.int .i32 b0, .int .i32 b1], .agg #[.int .u32 p0, .int .u32 p1, .int .u32 p2]] w fun e w' => e = .returned (.bool true) ∧ Below w.heap.size w w' := by
  have x := tdiv_sm ha0 ha0' ha1 ha1'
  have y := tdiv_sm hb0 hb0' hb1 hb1'
  have E : Ends a0 a1 b0 b1 (min a0 a1) (max a0 a1) (min b0 b1) (max b0 b1) ((min a0 a1).tdiv 200) ((max a0 a1).tdiv 200) ((min b0 b1).tdiv 200) ((max b0 b1).tdiv 200) :=
    ⟨rfl, rfl, rfl, rfl, by omega, by omega, by omega, by omega, by omega, by omega, by omega, by omega, rfl, rfl, rfl, rfl⟩
  generalize (min a0 a1).tdiv 200 = xl at *
  generalize (max a0 a1).tdiv 200 = xh at *
  generalize (min b0 b1).tdiv 200 = yl at *
  generalize (max b0 b1).tdiv 200 = yh at *
  have mm := pick_in (p := p0) x
  have nn := pick_in (p := p1) y
  generalize hm : xl + p0 % (xh - xl + 1) = m at mm
  generalize hn : yl + p1 % (yh - yl + 1) = n at nn
  have dd : 1 ≤ 1 + p2 % 1000 ∧ 1 + p2 % 1000 ≤ 1000 := by omega
  generalize hd : 1 + p2 % 1000 = d at dd
  obtain ⟨m1, m2⟩ := mm
  obtain ⟨n1, n2⟩ := nn
  obtain ⟨d1, d2⟩ := dd
  have K := hc_of (d := d) x y hp0 hp0' hp1 hp1' hm hn m1 m2 n1 n2 d1 d2
  have xs := x
  have ys := y
  obtain ⟨x1, x2, x3⟩ := xs
  obtain ⟨y1, y2, y3⟩ := ys
  have nb1 : -11000000 ≤ n := by omega
  have nb2 : n ≤ 11000000 := by omega
  have kk := scale_has (n := n) m1 m2 d1
  have kb := sk_bd x nb1 nb2 d1 d2
  have pb := mul_small (a := m) (b := n) 11000000 11000000 (by omega) (by omega) (by omega) (by omega) (by omega) (by omega) (by omega)
  have N : HN p2 xl xh yl yh m n d (xl + yl) (xh + yh) (xl - yh) (xh - yl) (mn4 xl xh yl yh) (mx4 xl xh yl yh) (skL xl xh n d) (skH xl xh n d) (m + yl) (xh + yh) (m - yh) (xh - yl) (mn4 m xh yl yh) (mx4 m xh yl yh) (skL m xh n d) (skH m xh n d) (min xl yl) (max xh yh) :=
    ⟨x1, m1, m2, x3, y1, n1, n2, y3, hp2, hp2', hd, d1, d2, kk.2.2, kk.1, kk.2.1, kb.1.1, kb.1.2, kb.2.1, kb.2.2, pb.1, pb.2⟩
  by_cases hz : yl ≤ 0 ∧ 0 ≤ yh
  · refine holds_zero a0 a1 b0 b1 p0 p1 p2 _ _ _ _ xl xh yl yh m n d _ _ _ _ _ _ _ _ _ _ _ _ _ _ _ _ _ _ E K N (fun w => ?_) (fun w => lHas_yes hz.1 hz.2 w) w
    have := over_any xl xh yl yh w
    obtain ⟨e1, e2, e3⟩ := over_zero x y hz
    rwa [e1, e2, e3] at this
  · have hz' : 0 < yl ∨ yh < 0 := by omega
    obtain ⟨L, H, O⟩ := over_two x y hz' m1 m2 n1 n2
    have ho : ∀ w : World, Calls Try.prog 33 #[.agg #[.int .i64 xl, .int .i64 xh], .agg #[.int .i64 yl, .int .i64 yh]] w fun e w' => e = .returned (.tuple #[.agg #[.int .i64 L, .int .i64 H], .int .i64 0]) ∧ Below w.heap.size w w' := fun w => by
      have := over_any xl xh yl yh w
      rwa [O.eL, O.eH, O.eE] at this
    have hle := O.le
    have hbl := O.bl
    have hbh := O.bh
    have ql := mul_small (a := L) (b := n) 11000000 11000000 (by omega) (by omega) (by omega) (by omega) (by omega) (by omega) (by omega)
    have qh := mul_small (a := H) (b := n) 11000000 11000000 (by omega) (by omega) (by omega) (by omega) (by omega) (by omega) (by omega)
    have hn0 : 0 < n ∨ n < 0 := by omega
    rcases hn0 with hn0 | hn0
    · have o := O.pos hn0
      exact holds_pos a0 a1 b0 b1 p0 p1 p2 _ _ _ _ xl xh yl yh m n d _ _ _ _ _ _ _ _ _ _ _ _ _ _ _ _ _ _ L H E K N ho (fun w => lHas_no hz w) (fun w => lHas_yes (by omega) (by omega) w) (fun w => lHas_yes m1 m2 w) ql.1 ql.2 qh.1 qh.2 hn0 o.1 o.2 w
    · have o := O.neg hn0
      exact holds_neg a0 a1 b0 b1 p0 p1 p2 _ _ _ _ xl xh yl yh m n d _ _ _ _ _ _ _ _ _ _ _ _ _ _ _ _ _ _ L H E K N ho (fun w => lHas_no hz w) (fun w => lHas_yes (by omega) (by omega) w) (fun w => lHas_yes m1 m2 w) ql.1 ql.2 qh.1 qh.2 hn0 o.1 o.2 w
end Go.Proofs.Ytgakniehfnegiaa
