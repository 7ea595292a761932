/- Contracts: whether a number lies in one of some ranges; ranges made of gaps and lengths. -/
import Derived.Test.YtiibbnbknmeplaaP9
import Derived.Test.YtiibbnbknmeplaaC18
import Derived.Test.YtiibbnbknmeplaaR11
namespace Go.Proofs.Ytiibbnbknmeplaa
open Go.RowKit Go.Lib Go.Shelf
set_option linter.unusedVariables false
set_option linter.unusedSimpArgs false
attribute [local go_sem ↓] Go.wp_at_zero Go.wp_at_succ

set_option maxHeartbeats 400000 in
theorem mHas_any (lo hi n : Int) (w : World) :
    Calls Try.prog 85 #[.agg #[.int .i64 lo, .int .i64 hi], .int .i64 n] w fun e w' => e = .returned (.bool (decide (lo ≤ n) && decide (n ≤ hi))) ∧ Below w.heap.size w w' := by
  by_cases h1 : lo ≤ n <;> by_cases h2 : n ≤ hi
  all_goals
    go_enter Try.func85, Try.ntmps85
    go_wp2
    go_ret
    exact ⟨by simp [*], (Below.refl _ _).alloc (Nat.le_refl _) _⟩

set_option maxRecDepth 20000 in
set_option maxHeartbeats 1000000 in
theorem contains_any (v : Value) (xs : List (Int × Int)) (x : Int) (hl : xs.length ≤ 1000000) (w : World) (hv : SetAt w.heap.size w v xs) :
    Calls Try.prog 88 #[v, .int .i64 x] w fun e w' => e = .returned (.bool (memB xs x)) ∧ Below w.heap.size w w' := by
  obtain ⟨A, c, rfl, hr⟩ := hv
  obtain ⟨re, hre⟩ : ∃ r, memB xs x = r := ⟨_, rfl⟩
  rw [hre]
  have HRE := Lib.hid hre
  obtain ⟨n, hn⟩ : ∃ n, xs.length = n := ⟨_, rfl⟩
  rw [hn] at hl hr ⊢
  have Hn := Lib.hid hn
  have HR := Lib.hid hr
  clear hr hn hre
  go_enter Try.func88, Try.ntmps88
  go_wp2_with fail
  go_loopw [5] (fun i wr => ∃ (k : Nat), k ≤ n ∧ i = .int .i64 k ∧ Hid (memB (xs.take k) x = false) ∧ Below w.heap.size w wr) (fun i _ => n - (intOf i).toNat)
  case atStart => exact ⟨0, Nat.zero_le _, rfl, Lib.hid rfl, Below.refl _ _⟩
  case round =>
    obtain ⟨k, hk, rfl, hm, hbr⟩ := hrel
    by_cases hlt : (k : Int) < (n : Int)
    · obtain ⟨p, hp⟩ : ∃ p, xs[k]? = some p := ⟨_, List.getElem?_eq_getElem (by rw [Hn.out]; omega)⟩
      obtain ⟨g, off, rfl, hg, hc⟩ := HR.out (by omega)
      obtain ⟨q0, q1⟩ := (hc.below hbr hg) k p hp
      have c1 := Lib.hid (mHas_any p.1 p.2 x)
      have hnext : Hid (memB (xs.take (k + 1)) x = (decide (p.1 ≤ x) && decide (x ≤ p.2))) := Lib.hid (by rw [take_snoc'' xs k p hp, memB_snoc, hm.out, Bool.false_or])
      have HT := Lib.hid (memB_take_true (xs := xs) (x := x) (k := k + 1))
      generalize (decide (p.1 ≤ x) && decide (x ≤ p.2)) = t at *
      clear hc hp
      cases t
      · go_wp2_with fail
        refine (c1.out _).mono ?_
        rintro e w1 ⟨rfl, hb⟩
        replace hbr := hbr.trans (hb.mono hbr.size)
        clear hb
        go_wp2_with fail
        go_roundw
        case rel => exact ⟨k + 1, by omega, by go_num, hnext, hbr⟩
        case measure => simp [intOf]; omega
      · have E : Hid (re = true) := Lib.hid (by rw [← HRE.out]; exact HT.out hnext.out)
        obtain rfl := E.out
        go_wp2_with fail
        refine (c1.out _).mono ?_
        rintro e w1 ⟨rfl, hb⟩
        replace hbr := hbr.trans (hb.mono hbr.size)
        clear hb
        go_wp2_with fail
        go_ret
        exact ⟨rfl, hbr⟩
    · obtain rfl : k = n := by omega
      have E : Hid (re = false) := Lib.hid (by rw [← HRE.out, ← hm.out, List.take_of_length_le (by rw [Hn.out]; exact Nat.le_refl _)])
      obtain rfl := E.out
      go_wp2_with fail
      go_ret
      exact ⟨rfl, hbr⟩

/-- pairs of small numbers, one after another -/
def P8 (w : World) (g off : Nat) (ps : List (Int × Int)) : Prop :=
  ∀ (k : Nat) (p : Int × Int), ps[k]? = some p → (w.cell? ⟨g, off + k * 2, none⟩ = some (.int .u8 p.1) ∧ w.cell? ⟨g, off + k * 2 + 1, none⟩ = some (.int .u8 p.2)) ∧ 0 ≤ p.1 ∧ p.1 ≤ 255 ∧ 0 ≤ p.2 ∧ p.2 ≤ 255
def P8At (w : World) (v : Value) (ps : List (Int × Int)) : Prop :=
  ∃ A c, v = .slice A ps.length c ∧ (0 < ps.length → ∃ g off, A = some ⟨g, off, none⟩ ∧ g < w.heap.size ∧ P8 w g off ps)
theorem P8.below {B : Nat} {w w' : World} {g off : Nat} {ps : List (Int × Int)} (h : P8 w g off ps) (hb : Below B w w') (hg : g < B) : P8 w' g off ps := by
  intro k p hp
  obtain ⟨⟨h1, h2⟩, h3⟩ := h k p hp
  exact ⟨⟨(hb.cell hg).trans h1, (hb.cell hg).trans h2⟩, h3⟩
theorem P8At.below {w w' : World} {v : Value} {ps : List (Int × Int)} (h : P8At w v ps) (hb : Below w.heap.size w w') : P8At w' v ps := by
  obtain ⟨A, c, rfl, h⟩ := h
  refine ⟨A, c, rfl, fun hn => ?_⟩
  obtain ⟨g, off, rfl, hg, hr⟩ := h hn
  exact ⟨g, off, rfl, Nat.lt_of_lt_of_le hg hb.size, hr.below hb hg⟩

/-- what is made of gaps and lengths: the ranges, and the last number -/
def mdJ (s : List (Int × Int) × Int) (p : Int × Int) : List (Int × Int) × Int := (s.1 ++ [(s.2 + (2 + p.1 % 16), s.2 + (2 + p.1 % 16) + p.2 % 16)], s.2 + (2 + p.1 % 16) + p.2 % 16)
def mdS (ps : List (Int × Int)) : List (Int × Int) × Int := ps.foldl mdJ ([], -300)
theorem mdS_snoc (ps : List (Int × Int)) (p : Int × Int) : mdS (ps ++ [p]) = mdJ (mdS ps) p := by simp [mdS, List.foldl_append]
theorem mdS_is (ps : List (Int × Int)) : ∀ (m : Nat) (ps : List (Int × Int)), ps.length = m → (mdS ps).1.length = m ∧ -300 ≤ (mdS ps).2 ∧ (mdS ps).2 ≤ -300 + 32 * m ∧ Apart (mdS ps).1 ∧ ∀ p ∈ (mdS ps).1, -298 ≤ p.1 ∧ p.2 ≤ (mdS ps).2 := by
  intro m
  induction m with
  | zero => intro ps h; obtain rfl := List.eq_nil_of_length_eq_zero h; exact ⟨rfl, by decide, by decide, ⟨by simp [mdS], by simp [mdS]⟩, by simp [mdS]⟩
  | succ m ih =>
    intro ps h
    rcases List.eq_nil_or_concat ps with rfl | ⟨l, p, rfl⟩
    · simp at h
    rw [List.concat_eq_append] at *
    obtain ⟨i1, i2, i3, i4, i5⟩ := ih l (by simp at h; exact h)
    rw [mdS_snoc]
    generalize mdS l = s at *
    unfold mdJ
    have h1 := Int.emod_nonneg p.1 (by decide : (16 : Int) ≠ 0)
    have h2 := Int.emod_lt_of_pos p.1 (by decide : (0 : Int) < 16)
    have h3 := Int.emod_nonneg p.2 (by decide : (16 : Int) ≠ 0)
    have h4 := Int.emod_lt_of_pos p.2 (by decide : (0 : Int) < 16)
    generalize p.1 % 16 = a at *
    generalize p.2 % 16 = b at *
    refine ⟨by simp [i1], by simp only; omega, by simp only; omega, apart_snoc.2 ⟨i4, by simp only; omega, fun q hq => by have := i5 q hq; simp only; omega⟩, fun q hq => ?_⟩
    rcases List.mem_append.1 hq with hq | hq
    · have := i5 q hq; simp only; omega
    · simp at hq; subst hq; simp only; omega

set_option maxRecDepth 20000 in
set_option maxHeartbeats 2000000 in
theorem made_any (v : Value) (ps : List (Int × Int)) (hl : ps.length ≤ 12) (w : World) (hv : P8At w v ps) :
    Calls Try.prog 87 #[v] w fun e w' => ∃ v, e = .returned v ∧ w'.ownsRow w.heap.size 24 2 v ps.length (flat (mdS ps).1) ∧ Below w.heap.size w w' := by
  obtain ⟨i0, hi0, hz0, hz1, hz2⟩ := info_parts infoRange
  obtain ⟨A, c, rfl, hr⟩ := hv
  obtain ⟨n, hn⟩ : ∃ n, ps.length = n := ⟨_, rfl⟩
  rw [hn] at hl hr ⊢
  have Hn := Lib.hid hn
  have HR := Lib.hid hr
  clear hr hn
  have HM := Lib.hid (own_made w 24)
  go_enter Try.func87, Try.ntmps87
  go_wp2_with fail
  go_loopw [3, 4, 5] (fun s a i wr => ∃ (k : Nat) (u : Int), k ≤ n ∧ i = .int .i64 k ∧ a = .int .i64 u ∧ Hid (u = (mdS (ps.take k)).2) ∧ wr.ownsRow w.heap.size 24 2 s k (flat (mdS (ps.take k)).1) ∧ Below w.heap.size w wr) (fun _ _ i _ => n - (intOf i).toNat)
  case atStart => exact ⟨0, -300, Nat.zero_le _, rfl, rfl, Lib.hid rfl, HM.out, (Below.refl _ _).alloc (Nat.le_refl _) _⟩
  case round =>
    clear HM
    obtain ⟨k, u, hk, rfl, rfl, hu, hown, hbr⟩ := hrel
    by_cases hlt : (k : Int) < (n : Int)
    · obtain ⟨p, hp⟩ : ∃ p, ps[k]? = some p := ⟨_, List.getElem?_eq_getElem (by rw [Hn.out]; omega)⟩
      obtain ⟨g, off, rfl, hg, hc⟩ := HR.out (by omega)
      obtain ⟨⟨q0, q1⟩, p1, p2, p3, p4⟩ := (hc.below hbr hg) k p hp
      obtain ⟨m1, m2, m3, _, _⟩ := mdS_is [] k (ps.take k) (by rw [List.length_take, Hn.out]; omega)
      have hnext : Hid (mdS (ps.take (k + 1)) = mdJ (mdS (ps.take k)) p) := Lib.hid (by rw [take_snoc'' ps k p hp, mdS_snoc])
      have h1 := Int.emod_nonneg p.1 (by decide : (16 : Int) ≠ 0)
      have h2 := Int.emod_lt_of_pos p.1 (by decide : (0 : Int) < 16)
      have h3 := Int.emod_nonneg p.2 (by decide : (16 : Int) ≠ 0)
      have h4 := Int.emod_lt_of_pos p.2 (by decide : (0 : Int) < 16)
      have t1 : p.1.tmod 16 = p.1 % 16 := Int.tmod_eq_emod_of_nonneg p1
      have t2 : p.2.tmod 16 = p.2 % 16 := Int.tmod_eq_emod_of_nonneg p3
      have HO := Lib.hid hown
      have HQ := Lib.hid (hc k p hp).1
      rw [← hu.out] at m2 m3
      have hz := hbr.size
      unfold mdJ at hnext
      rw [← hu.out] at hnext
      clear hc hp hown hu
      generalize (mdS (ps.take k)).1 = L at *
      generalize p.1 % 16 = a at *
      generalize p.2 % 16 = b at *
      have u1 : IntKind.u8.wrap a = a := by simp only [IntKind.wrap, IntKind.bits, IntKind.signed]; simp; omega
      have u2 : IntKind.u8.wrap b = b := by simp only [IntKind.wrap, IntKind.bits, IntKind.signed]; simp; omega
      have w0 : IntKind.i64.wrap a = a := IntWalk.i64_in _ (by omega)
      have w0' : IntKind.i64.wrap b = b := IntWalk.i64_in _ (by omega)
      have w1 : IntKind.i64.wrap (2 + a) = 2 + a := IntWalk.i64_in _ (by omega)
      have w2 : IntKind.i64.wrap (u + (2 + a)) = u + (2 + a) := IntWalk.i64_in _ (by omega)
      have w3 : IntKind.i64.wrap (u + (2 + a) + b) = u + (2 + a) + b := IntWalk.i64_in _ (by omega)
      have hk0 : (0 : Int) ≤ (k : Int) := by omega
      go_wp2_with (at_builtin; refine wpList_append_own_at _ rfl (.tmp 23) (.tmp 35) 22 rfl w.heap.size 24 i0 (.agg #[.int .i64 0, .int .i64 0]) 2 16 Try.underlying22 hi0 hz0 hz1 hz2 rfl (by decide) _ k (flat L) rfl (HO.out.alloc _) ⟨wr.heap.size, 0, none⟩ 1 1 [.int .i64 (u + (2 + a)), .int .i64 (u + (2 + a) + b)] rfl rfl ?_ ?_ ?_ ?_ ?_ ?_)
      case refine_1 =>
        intro j u hj
        rcases j with _ | _ | j
        · simp at hj; subst hj; exact (cell_at _ _ _ _ _ (by simp))
        · simp at hj; subst hj; exact (cell_at _ _ _ _ _ (by simp))
        · simp at hj
      case refine_2 => simp [Value.oneCell']
      case refine_3 => unfold maxLen; omega
      case refine_4 => omega
      case refine_5 => simp; omega
      case refine_6 =>
        intro v' w7 own7 hgrow _ hat
        have hB7 := (hbr.alloc hz _).grown hgrow (by simp; omega) (fun r hr => (HO.out.lt r hr).1)
        obtain ⟨q2, q3⟩ : w7.cell? ⟨g, off + k * 2, none⟩ = some (.int .u8 p.1) ∧ w7.cell? ⟨g, off + k * 2 + 1, none⟩ = some (.int .u8 p.2) := by
          exact ⟨(hB7.cell hg).trans HQ.out.1, (hB7.cell hg).trans HQ.out.2⟩
        have HO7 := Lib.hid own7
        clear hgrow hat own7
        go_wp2_with fail
        go_roundw
        case rel => exact ⟨k + 1, u + (2 + a) + b, by omega, by go_num, rfl, Lib.hid (by rw [hnext.out]), by rw [hnext.out, flat_append, flat_one]; simpa using HO7.out, hB7⟩
        case measure => simp [intOf]; omega
    · obtain rfl : k = n := by omega
      have hT : ps.take k = ps := List.take_of_length_le (by rw [Hn.out]; exact Nat.le_refl _)
      rw [hT] at hown
      have HO := Lib.hid hown
      clear hT hown hu
      go_wp2_with fail
      go_ret
      exact ⟨_, rfl, HO.out, hbr⟩
end Go.Proofs.Ytiibbnbknmeplaa
