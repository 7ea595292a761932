/- The walk of the statement on members of sets. -/
import Derived.Test.YtiibbnbknmeplaaP10
import Derived.Test.YtiibbnbknmeplaaR11
import Derived.Test.YtiibbnbknmeplaaK2
namespace Go.Proofs.Ytiibbnbknmeplaa
open Go.RowKit Go.Lib Go.Shelf
set_option linter.unusedVariables false
set_option linter.unusedSimpArgs false
attribute [local go_sem ↓] Go.wp_at_zero Go.wp_at_succ

theorem RowAt.arg {w : World} {v : Value} {xs : List (Int × Int)} (h : RowAt w.heap.size w v xs) : ArgAt w v xs := by
  obtain ⟨A, c, rfl, hc, h⟩ := h
  by_cases h0 : 0 < xs.length
  · obtain ⟨g, off, rfl, hg, hr⟩ := h h0
    exact .inr ⟨g, off, c, rfl, hc, hg, hr⟩
  · have : xs = [] := List.eq_nil_of_length_eq_zero (by omega)
    subst this
    exact .inl ⟨⟨A, c, rfl⟩, rfl⟩
theorem P8At.slice {w : World} {v : Value} {ps : List (Int × Int)} (h : P8At w v ps) : ∃ A c, v = .slice A ps.length c := by
  obtain ⟨A, c, rfl, _⟩ := h
  exact ⟨A, c, rfl⟩
theorem made_two (v : Value) (ps : List (Int × Int)) (hl : ps.length ≤ 12) (w : World) (hv : P8At w v ps) :
    Calls Try.prog 87 #[v] w fun e w' => ∃ v, e = .returned v ∧ w'.ownsRow w.heap.size 24 2 v (mdS ps).1.length (flat (mdS ps).1) ∧ Below w.heap.size w w' := by
  rw [(fine_md hl).2.1]
  exact made_any v ps hl w hv
theorem below_undrw {n k : Nat} {W W' : World} (h : Below n (W.drewN k) W') : Below n W W' := ⟨h.os, h.tape, h.output, h.size, h.block⟩
theorem iff_none {P : Int → Prop} (b : Int)  : (false = true) ↔ ∃ i, b ≤ i ∧ i < b ∧ P i := ⟨fun h => by simp at h, fun ⟨i, h1, h2, _⟩ => by omega⟩
theorem iff_all {P : Int → Prop} (b : Int)  : (true = true) ↔ ∀ i, b ≤ i → i < b → P i := ⟨fun _ i h1 h2 => by omega, fun _ => rfl⟩
theorem iff_more {f : Int → Bool} {s : Bool} {b j : Int} (h : s = true ↔ ∃ i, b ≤ i ∧ i < j ∧ f i = true) (hj : b ≤ j) : (s || f j) = true ↔ ∃ i, b ≤ i ∧ i < j + 1 ∧ f i = true := by
  rw [Bool.or_eq_true, h]
  constructor
  · rintro (⟨i, h1, h2, h3⟩ | h)
    · exact ⟨i, h1, by omega, h3⟩
    · exact ⟨j, hj, by omega, h⟩
  · rintro ⟨i, h1, h2, h3⟩
    by_cases e : i = j
    · subst e; exact .inr h3
    · exact .inl ⟨i, h1, by omega, h3⟩
theorem iff_each {f : Int → Bool} {s : Bool} {b j : Int} (h : s = true ↔ ∀ i, b ≤ i → i < j → f i = true) (hj : b ≤ j) : (s && f j) = true ↔ ∀ i, b ≤ i → i < j + 1 → f i = true := by
  rw [Bool.and_eq_true, h]
  constructor
  · rintro ⟨h1, h2⟩ i h3 h4
    by_cases e : i = j
    · subst e; exact h2
    · exact h1 i h3 (by omega)
  · intro h1
    exact ⟨fun i h3 h4 => h1 i h3 (by omega), h1 j hj (by omega)⟩
theorem cntV_bd (L : List (Int × Int)) (h : L.length ≤ 200) (hs : setE L = 0) : 0 ≤ cntV L ∧ cntV L ≤ 400000000000000200 := by
  have := cntL_bd L (setE_bd hs).2
  unfold cntV
  rw [if_pos hs]
  omega

set_option maxRecDepth 40000 in
set_option maxHeartbeats 2000000 in
theorem members_big (A B : Option Addr) (n m ca cb : Nat) (b x : Int) (w : World) (hl : 12 < n ∨ ¬ 12 < n ∧ 12 < m) :
    Calls Try.prog 14 #[.agg #[.slice A n ca, .slice B m cb, .int .u8 b, .int .i16 x]] w fun e w' => e = .returned (.bool true) ∧ Below w.heap.size w w' := by
  have HK := Lib.hid known_any
  rcases hl with h1 | ⟨h1, h2⟩
  · go_enter Try.func14, Try.ntmps14
    go_wp2_with fail
    go_quiet (fail)
    go_wp2_with fail
    refine (HK.out _).mono ?_
    rintro e W1 ⟨rfl, hb⟩
    replace hb := below_undrw hb
    have hB := (below1 hb)
    clear hb
    go_wp2_with fail
    go_ret
    exact ⟨rfl, hB⟩
  · go_enter Try.func14, Try.ntmps14
    go_wp2_with fail
    go_quiet (fail)
    go_wp2_with fail
    refine (HK.out _).mono ?_
    rintro e W1 ⟨rfl, hb⟩
    replace hb := below_undrw hb
    have hB := (below1 hb)
    clear hb
    go_wp2_with fail
    go_ret
    exact ⟨rfl, hB⟩

set_option maxRecDepth 40000 in
set_option maxHeartbeats 8000000 in
theorem members_main (va vb : Value) (ps qs : List (Int × Int)) (b x : Int) (hb : 0 ≤ b ∧ b ≤ 255) (hx : -32768 ≤ x ∧ x ≤ 32767) (w : World) (hv : P8At w va ps) (hu : P8At w vb qs) (hl : ps.length ≤ 12) (hm : qs.length ≤ 12) :
    Calls Try.prog 14 #[.agg #[va, vb, .int .u8 b, .int .i16 x]] w fun e w' => e = .returned (.bool true) ∧ Below w.heap.size w w' := by
  obtain ⟨d, hd⟩ : ∃ d, b % 20 = d := ⟨_, rfl⟩
  have td : b.tmod 20 = d := by rw [Int.tmod_eq_emod_of_nonneg hb.1, hd]
  have hd0 : 0 ≤ d ∧ d ≤ 19 := by omega
  have ud : IntKind.u8.wrap d = d := IntWalk.u8_in _ (by omega)
  have wd : IntKind.i64.wrap d = d := IntWalk.i64_in _ (by omega)
  have wx : IntKind.i64.wrap x = x := IntWalk.i64_in _ (by omega)
  obtain ⟨hX, lX, bX⟩ := fine_md hl
  obtain ⟨hY, lY, bY⟩ := fine_md hm
  have HmA := Lib.hid (fun (W : World) (h : Below w.heap.size w W) => made_two va ps hl W (hv.below h))
  have HmB := Lib.hid (fun (W : World) (h : Below w.heap.size w W) => made_two vb qs hm W (hu.below h))
  obtain ⟨A, ca, rfl⟩ := hv.slice
  obtain ⟨B, cb, rfl⟩ := hu.slice
  clear hv hu hd
  have kX : (mdS ps).1.length ≤ 12 := by omega
  have kY : (mdS qs).1.length ≤ 12 := by omega
  clear lX lY
  generalize (mdS ps).1 = xs at *
  generalize (mdS qs).1 = ys at *
  obtain ⟨na, hna⟩ : ∃ n, ps.length = n := ⟨_, rfl⟩
  obtain ⟨nb, hnb⟩ : ∃ n, qs.length = n := ⟨_, rfl⟩
  rw [hna] at hl HmA ⊢
  rw [hnb] at hm HmB ⊢
  clear hna hnb
  obtain ⟨jU, fU, _, mU⟩ := join_fine (fun p q => p || q) rfl xs ys hX hY bX bY kX kY
  have HUo : Hid (∀ (u v : Value) (W : World), SetAt W.heap.size W u xs → SetAt W.heap.size W v ys → Calls Try.prog 72 #[u, v] W (ListPost W (jnR (fun p q => p || q) xs ys) 0)) := Lib.hid (fun u v W h k => by have := union_any u v xs ys W h k; rw [jU] at this; exact this)
  obtain ⟨jC, fC, _, mC⟩ := join_fine (fun p q => p && q) rfl xs ys hX hY bX bY kX kY
  have HCo : Hid (∀ (u v : Value) (W : World), SetAt W.heap.size W u xs → SetAt W.heap.size W v ys → Calls Try.prog 73 #[u, v] W (ListPost W (jnR (fun p q => p && q) xs ys) 0)) := Lib.hid (fun u v W h k => by have := common_any u v xs ys W h k; rw [jC] at this; exact this)
  obtain ⟨jD, fD, _, mD⟩ := join_fine (fun p q => p && !q) rfl xs ys hX hY bX bY kX kY
  have HDo : Hid (∀ (u v : Value) (W : World), SetAt W.heap.size W u xs → SetAt W.heap.size W v ys → Calls Try.prog 74 #[u, v] W (ListPost W (jnR (fun p q => p && !q) xs ys) 0)) := Lib.hid (fun u v W h k => by have := without_any u v xs ys W h k; rw [jD] at this; exact this)
  have hcnt := count_fine xs ys hX hY bX bY kX kY
  generalize jnR (fun p q => p || q) xs ys = LU at *
  clear jU
  generalize jnR (fun p q => p && q) xs ys = LC at *
  clear jC
  generalize jnR (fun p q => p && !q) xs ys = LD at *
  clear jD
  obtain ⟨jE, fE, mE⟩ := wide_fine d hd0 xs hX bX kX
  obtain ⟨fG, mG⟩ := thin_fine d hd0 xs hX bX kX
  have HEo : Hid (∀ (u : Value) (W : World), SetAt W.heap.size W u xs → Calls Try.prog 78 #[u, .int .i64 d] W (ListPost W (widL d xs) 0)) := Lib.hid (fun u W h => by have := widen_any u xs d W h; rw [jE, if_pos rfl] at this; exact this)
  have HGo : Hid (∀ (u : Value) (W : World), SetAt W.heap.size W u xs → Calls Try.prog 79 #[u, .int .i64 d] W (ListPost W (nwL d xs) 0)) := Lib.hid (fun u W h => by have := narrow_any u xs d W h; rw [jE, if_pos rfl] at this; exact this)
  generalize widL d xs = LE at *
  generalize nwL d xs = LG at *
  have fX : Fine xs := ⟨hX, by omega, fun p hp => by have := bX p hp; omega⟩
  have fY : Fine ys := ⟨hY, by omega, fun p hp => by have := bY p hp; omega⟩
  obtain ⟨near0, near1⟩ := near_fine x hx xs hX bX kX
  replace near0 := Lib.hid near0
  replace near1 := Lib.hid near1
  clear jE hX hY bX bY
  have lX := Lib.hid fX.2.1
  have sX := Lib.hid fX.set
  have lY := Lib.hid fY.2.1
  have sY := Lib.hid fY.set
  have lU := Lib.hid fU.2.1
  have sU := Lib.hid fU.set
  have lC := Lib.hid fC.2.1
  have sC := Lib.hid fC.set
  have lD := Lib.hid fD.2.1
  have sD := Lib.hid fD.set
  have lE := Lib.hid fE.2.1
  have sE := Lib.hid fE.set
  have lG := Lib.hid fG.2.1
  have sG := Lib.hid fG.set
  have kU : Hid (∀ (u : Value) (W : World), SetAt W.heap.size W u LU → Calls Try.prog 71 #[u] W fun e w' => e = .returned (.int .i64 0) ∧ Below W.heap.size W w') := Lib.hid (fun u W h => by have := checkSet_any u LU W h; rw [sU.out] at this; exact this)
  have kC : Hid (∀ (u : Value) (W : World), SetAt W.heap.size W u LC → Calls Try.prog 71 #[u] W fun e w' => e = .returned (.int .i64 0) ∧ Below W.heap.size W w') := Lib.hid (fun u W h => by have := checkSet_any u LC W h; rw [sC.out] at this; exact this)
  have kD : Hid (∀ (u : Value) (W : World), SetAt W.heap.size W u LD → Calls Try.prog 71 #[u] W fun e w' => e = .returned (.int .i64 0) ∧ Below W.heap.size W w') := Lib.hid (fun u W h => by have := checkSet_any u LD W h; rw [sD.out] at this; exact this)
  have kE : Hid (∀ (u : Value) (W : World), SetAt W.heap.size W u LE → Calls Try.prog 71 #[u] W fun e w' => e = .returned (.int .i64 0) ∧ Below W.heap.size W w') := Lib.hid (fun u W h => by have := checkSet_any u LE W h; rw [sE.out] at this; exact this)
  have kG : Hid (∀ (u : Value) (W : World), SetAt W.heap.size W u LG → Calls Try.prog 71 #[u] W fun e w' => e = .returned (.int .i64 0) ∧ Below W.heap.size W w') := Lib.hid (fun u W h => by have := checkSet_any u LG W h; rw [sG.out] at this; exact this)
  have nU : Hid (∀ (u : Value) (W : World), SetAt W.heap.size W u LU → Calls Try.prog 75 #[u] W fun e w' => e = .returned (.tuple #[.int .i64 (cntV LU), .int .i64 0]) ∧ Below W.heap.size W w') := Lib.hid (fun u W h => by have := count_any u LU W h; rw [sU.out] at this; exact this)
  have zU := cntV_bd LU lU.out sU.out
  have nC : Hid (∀ (u : Value) (W : World), SetAt W.heap.size W u LC → Calls Try.prog 75 #[u] W fun e w' => e = .returned (.tuple #[.int .i64 (cntV LC), .int .i64 0]) ∧ Below W.heap.size W w') := Lib.hid (fun u W h => by have := count_any u LC W h; rw [sC.out] at this; exact this)
  have zC := cntV_bd LC lC.out sC.out
  have nX : Hid (∀ (u : Value) (W : World), SetAt W.heap.size W u xs → Calls Try.prog 75 #[u] W fun e w' => e = .returned (.tuple #[.int .i64 (cntV xs), .int .i64 0]) ∧ Below W.heap.size W w') := Lib.hid (fun u W h => by have := count_any u xs W h; rw [sX.out] at this; exact this)
  have zX := cntV_bd xs lX.out sX.out
  have nY : Hid (∀ (u : Value) (W : World), SetAt W.heap.size W u ys → Calls Try.prog 75 #[u] W fun e w' => e = .returned (.tuple #[.int .i64 (cntV ys), .int .i64 0]) ∧ Below W.heap.size W w') := Lib.hid (fun u W h => by have := count_any u ys W h; rw [sY.out] at this; exact this)
  have zY := cntV_bd ys lY.out sY.out
  generalize cntV LU = c1 at *
  generalize cntV LC = c2 at *
  generalize cntV xs = c3 at *
  generalize cntV ys = c4 at *
  obtain ⟨cs, hcs⟩ : ∃ cs, c3 + c4 = cs := ⟨_, rfl⟩
  rw [hcs] at hcnt
  have wc1 : IntKind.i64.wrap (c1 + c2) = cs := by rw [hcnt]; exact IntWalk.i64_in _ (by omega)
  have wc2 : IntKind.i64.wrap (c3 + c4) = cs := by rw [hcs]; exact IntWalk.i64_in _ (by omega)
  clear hcnt hcs zU zC zX zY
  have nN := Lib.hid (fun (u : Value) (W : World) (h : RowAt W.heap.size W u xs) => near_any u xs x W h)
  generalize nrR xs x = nr at *
  generalize nrE xs x = ne at *
  clear fX sX
  clear fY sY
  clear fU sU
  clear fC sC
  clear fD sD
  clear fE sE
  clear fG sG
  have HK := Lib.hid known_any
  obtain ⟨mUl, hmU⟩ : ∃ m, LU.length = m := ⟨_, rfl⟩
  replace hmU := Lib.hid hmU
  obtain ⟨mCl, hmC⟩ : ∃ m, LC.length = m := ⟨_, rfl⟩
  replace hmC := Lib.hid hmC
  obtain ⟨mDl, hmD⟩ : ∃ m, LD.length = m := ⟨_, rfl⟩
  replace hmD := Lib.hid hmD
  obtain ⟨mEl, hmE⟩ : ∃ m, LE.length = m := ⟨_, rfl⟩
  replace hmE := Lib.hid hmE
  obtain ⟨mGl, hmG⟩ : ∃ m, LG.length = m := ⟨_, rfl⟩
  replace hmG := Lib.hid hmG
  obtain ⟨mXl, hmX⟩ : ∃ m, xs.length = m := ⟨_, rfl⟩
  replace hmX := Lib.hid hmX
  obtain ⟨mYl, hmY⟩ : ∃ m, ys.length = m := ⟨_, rfl⟩
  replace hmY := Lib.hid hmY
  replace mU := Lib.hid mU
  replace mC := Lib.hid mC
  replace mD := Lib.hid mD
  replace mE := Lib.hid mE
  replace mG := Lib.hid mG
  go_enter Try.func14, Try.ntmps14
  go_wp2_with fail
  go_quiet (fail)
  go_wp2_with fail
  refine (HmA.out _ (below_drewN ((Below.refl _ _).alloc (Nat.le_refl _) _) _)).mono ?_
  rintro e W1 ⟨vX, rfl, ownX, hb⟩
  replace hb := below_undrw hb
  have hB := (below1 hb)
  clear hb
  have RX := own_row _ _ rfl vX W1 ownX
  obtain ⟨AX, cX, rfl⟩ : ∃ A c, vX = .slice A mXl c := by obtain ⟨A, c, h, _⟩ := RX; exact ⟨A, c, by rw [h, hmX.out]⟩
  have HX := Lib.hid (fun (W : World) (h : Below W1.heap.size W1 W) => (RX.below h (Nat.le_refl _)).mono h.size)
  have hX := Below.refl W1.heap.size W1
  clear RX ownX
  go_wp2_with fail
  refine (HmB.out _ hB).mono ?_
  rintro e W2 ⟨vY, rfl, ownY, hb⟩
  replace hX := hX.trans (hb.mono hX.size)
  replace hB := hB.trans (hb.mono hB.size)
  clear hb
  have RY := own_row _ _ rfl vY W2 ownY
  obtain ⟨AY, cY, rfl⟩ : ∃ A c, vY = .slice A mYl c := by obtain ⟨A, c, h, _⟩ := RY; exact ⟨A, c, by rw [h, hmY.out]⟩
  have HY := Lib.hid (fun (W : World) (h : Below W2.heap.size W2 W) => (RY.below h (Nat.le_refl _)).mono h.size)
  have hY := Below.refl W2.heap.size W2
  clear RY ownY
  go_wp2_with fail
  refine (lRanges_any _ xs (Nat.le_trans lX.out (by decide)) _ (HX.out _ hX).arg).mono ?_
  rintro e W3 ⟨vP, rfl, rP, hb⟩
  replace hX := hX.trans (hb.mono hX.size)
  replace hY := hY.trans (hb.mono hY.size)
  replace hB := hB.trans (hb.mono hB.size)
  clear hb
  have HP := Lib.hid (fun (W : World) (h : Below W3.heap.size W3 W) => (rP.below h (Nat.le_refl _)).mono h.size)
  have hP := Below.refl W3.heap.size W3
  clear rP
  go_wp2_with fail
  refine (lRanges_any _ ys (Nat.le_trans lY.out (by decide)) _ (HY.out _ hY).arg).mono ?_
  rintro e W4 ⟨vQ, rfl, rQ, hb⟩
  replace hX := hX.trans (hb.mono hX.size)
  replace hY := hY.trans (hb.mono hY.size)
  replace hP := hP.trans (hb.mono hP.size)
  replace hB := hB.trans (hb.mono hB.size)
  clear hb
  have HQ := Lib.hid (fun (W : World) (h : Below W4.heap.size W4 W) => (rQ.below h (Nat.le_refl _)).mono h.size)
  have hQ := Below.refl W4.heap.size W4
  clear rQ
  go_wp2_with fail
  refine (HUo.out _ _ _ (HP.out _ hP).set (HQ.out _ hQ).set).mono ?_
  rintro e W5 ⟨vU, rfl, ownU, hb⟩
  replace hX := hX.trans (hb.mono hX.size)
  replace hY := hY.trans (hb.mono hY.size)
  replace hP := hP.trans (hb.mono hP.size)
  replace hQ := hQ.trans (hb.mono hQ.size)
  replace hB := hB.trans (hb.mono hB.size)
  clear hb
  have RU := own_row _ _ rfl vU W5 ownU
  obtain ⟨AU, cU, rfl⟩ : ∃ A c, vU = .slice A mUl c := by obtain ⟨A, c, h, _⟩ := RU; exact ⟨A, c, by rw [h, hmU.out]⟩
  have HU := Lib.hid (fun (W : World) (h : Below W5.heap.size W5 W) => (RU.below h (Nat.le_refl _)).mono h.size)
  have hU := Below.refl W5.heap.size W5
  clear RU ownU
  clear HP hP
  clear HQ hQ
  go_wp2_with fail
  refine (lRanges_any _ xs (Nat.le_trans lX.out (by decide)) _ (HX.out _ hX).arg).mono ?_
  rintro e W6 ⟨vP, rfl, rP, hb⟩
  replace hX := hX.trans (hb.mono hX.size)
  replace hY := hY.trans (hb.mono hY.size)
  replace hU := hU.trans (hb.mono hU.size)
  replace hB := hB.trans (hb.mono hB.size)
  clear hb
  have HP := Lib.hid (fun (W : World) (h : Below W6.heap.size W6 W) => (rP.below h (Nat.le_refl _)).mono h.size)
  have hP := Below.refl W6.heap.size W6
  clear rP
  go_wp2_with fail
  refine (lRanges_any _ ys (Nat.le_trans lY.out (by decide)) _ (HY.out _ hY).arg).mono ?_
  rintro e W7 ⟨vQ, rfl, rQ, hb⟩
  replace hX := hX.trans (hb.mono hX.size)
  replace hY := hY.trans (hb.mono hY.size)
  replace hU := hU.trans (hb.mono hU.size)
  replace hP := hP.trans (hb.mono hP.size)
  replace hB := hB.trans (hb.mono hB.size)
  clear hb
  have HQ := Lib.hid (fun (W : World) (h : Below W7.heap.size W7 W) => (rQ.below h (Nat.le_refl _)).mono h.size)
  have hQ := Below.refl W7.heap.size W7
  clear rQ
  go_wp2_with fail
  refine (HCo.out _ _ _ (HP.out _ hP).set (HQ.out _ hQ).set).mono ?_
  rintro e W8 ⟨vC, rfl, ownC, hb⟩
  replace hX := hX.trans (hb.mono hX.size)
  replace hY := hY.trans (hb.mono hY.size)
  replace hU := hU.trans (hb.mono hU.size)
  replace hP := hP.trans (hb.mono hP.size)
  replace hQ := hQ.trans (hb.mono hQ.size)
  replace hB := hB.trans (hb.mono hB.size)
  clear hb
  have RC := own_row _ _ rfl vC W8 ownC
  obtain ⟨AC, cC, rfl⟩ : ∃ A c, vC = .slice A mCl c := by obtain ⟨A, c, h, _⟩ := RC; exact ⟨A, c, by rw [h, hmC.out]⟩
  have HC := Lib.hid (fun (W : World) (h : Below W8.heap.size W8 W) => (RC.below h (Nat.le_refl _)).mono h.size)
  have hC := Below.refl W8.heap.size W8
  clear RC ownC
  clear HP hP
  clear HQ hQ
  go_wp2_with fail
  refine (lRanges_any _ xs (Nat.le_trans lX.out (by decide)) _ (HX.out _ hX).arg).mono ?_
  rintro e W9 ⟨vP, rfl, rP, hb⟩
  replace hX := hX.trans (hb.mono hX.size)
  replace hY := hY.trans (hb.mono hY.size)
  replace hU := hU.trans (hb.mono hU.size)
  replace hC := hC.trans (hb.mono hC.size)
  replace hB := hB.trans (hb.mono hB.size)
  clear hb
  have HP := Lib.hid (fun (W : World) (h : Below W9.heap.size W9 W) => (rP.below h (Nat.le_refl _)).mono h.size)
  have hP := Below.refl W9.heap.size W9
  clear rP
  go_wp2_with fail
  refine (lRanges_any _ ys (Nat.le_trans lY.out (by decide)) _ (HY.out _ hY).arg).mono ?_
  rintro e W10 ⟨vQ, rfl, rQ, hb⟩
  replace hX := hX.trans (hb.mono hX.size)
  replace hY := hY.trans (hb.mono hY.size)
  replace hU := hU.trans (hb.mono hU.size)
  replace hC := hC.trans (hb.mono hC.size)
  replace hP := hP.trans (hb.mono hP.size)
  replace hB := hB.trans (hb.mono hB.size)
  clear hb
  have HQ := Lib.hid (fun (W : World) (h : Below W10.heap.size W10 W) => (rQ.below h (Nat.le_refl _)).mono h.size)
  have hQ := Below.refl W10.heap.size W10
  clear rQ
  go_wp2_with fail
  refine (HDo.out _ _ _ (HP.out _ hP).set (HQ.out _ hQ).set).mono ?_
  rintro e W11 ⟨vD, rfl, ownD, hb⟩
  replace hX := hX.trans (hb.mono hX.size)
  replace hY := hY.trans (hb.mono hY.size)
  replace hU := hU.trans (hb.mono hU.size)
  replace hC := hC.trans (hb.mono hC.size)
  replace hP := hP.trans (hb.mono hP.size)
  replace hQ := hQ.trans (hb.mono hQ.size)
  replace hB := hB.trans (hb.mono hB.size)
  clear hb
  have RD := own_row _ _ rfl vD W11 ownD
  obtain ⟨AD, cD, rfl⟩ : ∃ A c, vD = .slice A mDl c := by obtain ⟨A, c, h, _⟩ := RD; exact ⟨A, c, by rw [h, hmD.out]⟩
  have HD := Lib.hid (fun (W : World) (h : Below W11.heap.size W11 W) => (RD.below h (Nat.le_refl _)).mono h.size)
  have hD := Below.refl W11.heap.size W11
  clear RD ownD
  clear HP hP
  clear HQ hQ
  go_wp2_with fail
  refine (lRanges_any _ xs (Nat.le_trans lX.out (by decide)) _ (HX.out _ hX).arg).mono ?_
  rintro e W12 ⟨vP, rfl, rP, hb⟩
  replace hX := hX.trans (hb.mono hX.size)
  replace hY := hY.trans (hb.mono hY.size)
  replace hU := hU.trans (hb.mono hU.size)
  replace hC := hC.trans (hb.mono hC.size)
  replace hD := hD.trans (hb.mono hD.size)
  replace hB := hB.trans (hb.mono hB.size)
  clear hb
  have HP := Lib.hid (fun (W : World) (h : Below W12.heap.size W12 W) => (rP.below h (Nat.le_refl _)).mono h.size)
  have hP := Below.refl W12.heap.size W12
  clear rP
  go_wp2_with fail
  refine (HEo.out _ _ (HP.out _ hP).set).mono ?_
  rintro e W13 ⟨vE, rfl, ownE, hb⟩
  replace hX := hX.trans (hb.mono hX.size)
  replace hY := hY.trans (hb.mono hY.size)
  replace hU := hU.trans (hb.mono hU.size)
  replace hC := hC.trans (hb.mono hC.size)
  replace hD := hD.trans (hb.mono hD.size)
  replace hP := hP.trans (hb.mono hP.size)
  replace hB := hB.trans (hb.mono hB.size)
  clear hb
  have RE := own_row _ _ rfl vE W13 ownE
  obtain ⟨AE, cE, rfl⟩ : ∃ A c, vE = .slice A mEl c := by obtain ⟨A, c, h, _⟩ := RE; exact ⟨A, c, by rw [h, hmE.out]⟩
  have HE := Lib.hid (fun (W : World) (h : Below W13.heap.size W13 W) => (RE.below h (Nat.le_refl _)).mono h.size)
  have hE := Below.refl W13.heap.size W13
  clear RE ownE
  clear HP hP
  go_wp2_with fail
  refine (lRanges_any _ xs (Nat.le_trans lX.out (by decide)) _ (HX.out _ hX).arg).mono ?_
  rintro e W14 ⟨vP, rfl, rP, hb⟩
  replace hX := hX.trans (hb.mono hX.size)
  replace hY := hY.trans (hb.mono hY.size)
  replace hU := hU.trans (hb.mono hU.size)
  replace hC := hC.trans (hb.mono hC.size)
  replace hD := hD.trans (hb.mono hD.size)
  replace hE := hE.trans (hb.mono hE.size)
  replace hB := hB.trans (hb.mono hB.size)
  clear hb
  have HP := Lib.hid (fun (W : World) (h : Below W14.heap.size W14 W) => (rP.below h (Nat.le_refl _)).mono h.size)
  have hP := Below.refl W14.heap.size W14
  clear rP
  go_wp2_with fail
  refine (HGo.out _ _ (HP.out _ hP).set).mono ?_
  rintro e W15 ⟨vG, rfl, ownG, hb⟩
  replace hX := hX.trans (hb.mono hX.size)
  replace hY := hY.trans (hb.mono hY.size)
  replace hU := hU.trans (hb.mono hU.size)
  replace hC := hC.trans (hb.mono hC.size)
  replace hD := hD.trans (hb.mono hD.size)
  replace hE := hE.trans (hb.mono hE.size)
  replace hP := hP.trans (hb.mono hP.size)
  replace hB := hB.trans (hb.mono hB.size)
  clear hb
  have RG := own_row _ _ rfl vG W15 ownG
  obtain ⟨AG, cG, rfl⟩ : ∃ A c, vG = .slice A mGl c := by obtain ⟨A, c, h, _⟩ := RG; exact ⟨A, c, by rw [h, hmG.out]⟩
  have HG := Lib.hid (fun (W : World) (h : Below W15.heap.size W15 W) => (RG.below h (Nat.le_refl _)).mono h.size)
  have hG := Below.refl W15.heap.size W15
  clear RG ownG
  clear HP hP
  have qX := Lib.hid (fun (m : Int) (W' : World) (h : Below W15.heap.size W15 W') => contains_any _ xs m (Nat.le_trans lX.out (by decide)) W' (HX.out W' (hX.trans (h.mono hX.size))).set)
  have rX := Lib.hid (fun (W' : World) (h : Below W15.heap.size W15 W') => lRanges_any _ xs (Nat.le_trans lX.out (by decide)) W' (HX.out W' (hX.trans (h.mono hX.size))).arg)
  clear HX hX
  have qY := Lib.hid (fun (m : Int) (W' : World) (h : Below W15.heap.size W15 W') => contains_any _ ys m (Nat.le_trans lY.out (by decide)) W' (HY.out W' (hY.trans (h.mono hY.size))).set)
  have rY := Lib.hid (fun (W' : World) (h : Below W15.heap.size W15 W') => lRanges_any _ ys (Nat.le_trans lY.out (by decide)) W' (HY.out W' (hY.trans (h.mono hY.size))).arg)
  clear HY hY
  have qU := Lib.hid (fun (m : Int) (W' : World) (h : Below W15.heap.size W15 W') => contains_any _ LU m (Nat.le_trans lU.out (by decide)) W' (HU.out W' (hU.trans (h.mono hU.size))).set)
  have rU := Lib.hid (fun (W' : World) (h : Below W15.heap.size W15 W') => lRanges_any _ LU (Nat.le_trans lU.out (by decide)) W' (HU.out W' (hU.trans (h.mono hU.size))).arg)
  clear HU hU
  have qC := Lib.hid (fun (m : Int) (W' : World) (h : Below W15.heap.size W15 W') => contains_any _ LC m (Nat.le_trans lC.out (by decide)) W' (HC.out W' (hC.trans (h.mono hC.size))).set)
  have rC := Lib.hid (fun (W' : World) (h : Below W15.heap.size W15 W') => lRanges_any _ LC (Nat.le_trans lC.out (by decide)) W' (HC.out W' (hC.trans (h.mono hC.size))).arg)
  clear HC hC
  have qD := Lib.hid (fun (m : Int) (W' : World) (h : Below W15.heap.size W15 W') => contains_any _ LD m (Nat.le_trans lD.out (by decide)) W' (HD.out W' (hD.trans (h.mono hD.size))).set)
  have rD := Lib.hid (fun (W' : World) (h : Below W15.heap.size W15 W') => lRanges_any _ LD (Nat.le_trans lD.out (by decide)) W' (HD.out W' (hD.trans (h.mono hD.size))).arg)
  clear HD hD
  have qE := Lib.hid (fun (m : Int) (W' : World) (h : Below W15.heap.size W15 W') => contains_any _ LE m (Nat.le_trans lE.out (by decide)) W' (HE.out W' (hE.trans (h.mono hE.size))).set)
  have rE := Lib.hid (fun (W' : World) (h : Below W15.heap.size W15 W') => lRanges_any _ LE (Nat.le_trans lE.out (by decide)) W' (HE.out W' (hE.trans (h.mono hE.size))).arg)
  clear HE hE
  have qG := Lib.hid (fun (m : Int) (W' : World) (h : Below W15.heap.size W15 W') => contains_any _ LG m (Nat.le_trans lG.out (by decide)) W' (HG.out W' (hG.trans (h.mono hG.size))).set)
  have rG := Lib.hid (fun (W' : World) (h : Below W15.heap.size W15 W') => lRanges_any _ LG (Nat.le_trans lG.out (by decide)) W' (HG.out W' (hG.trans (h.mono hG.size))).arg)
  clear HG hG
  have hc := Below.refl W15.heap.size W15
  clear HmA HmB HUo HCo HDo HEo HGo
  go_wp2_with fail
  go_loopw [21] (fun i wr => ∃ k : Int, (k = 0 ∨ k = 1 ∨ k = 2 ∨ k = 3 ∨ k = 4 ∨ k = 5) ∧ i = .int .i64 k ∧ Below W15.heap.size W15 wr ∧ W15.heap.size < wr.heap.size ∧ wr.cell? ⟨W15.heap.size, 0, none⟩ = some (.slice AU mUl cU) ∧ wr.cell? ⟨W15.heap.size, 1, none⟩ = some (.slice AC mCl cC) ∧ wr.cell? ⟨W15.heap.size, 2, none⟩ = some (.slice AD mDl cD) ∧ wr.cell? ⟨W15.heap.size, 3, none⟩ = some (.slice AE mEl cE) ∧ wr.cell? ⟨W15.heap.size, 4, none⟩ = some (.slice AG mGl cG)) (fun i _ => 5 - (intOf i).toNat)
  case atStart => exact ⟨0, .inl rfl, rfl, by first | exact (hc.alloc (Nat.le_refl _) _) | (apply Below.setCells), by simp, by simp [go_sem], by simp [go_sem], by simp [go_sem], by simp [go_sem], by simp [go_sem]⟩
  case round =>
    clear hc
    obtain ⟨k, hk, rfl, hc, hz, e0, e1, e2, e3, e4⟩ := hrel
    rcases hk with rfl | rfl | rfl | rfl | rfl | rfl
    · go_wp2_with fail
      refine (rU.out _ hc).mono ?_
      rintro e w1 ⟨vP, rfl, rP, hb⟩
      replace e0 := cell_next hb hz e0
      replace e1 := cell_next hb hz e1
      replace e2 := cell_next hb hz e2
      replace e3 := cell_next hb hz e3
      replace e4 := cell_next hb hz e4
      replace hz := Nat.lt_of_lt_of_le hz hb.size
      replace hc := hc.trans (hb.mono hc.size)
      clear hb
      go_wp2_with fail
      refine (kU.out _ _ rP.set).mono ?_
      rintro e w2 ⟨rfl, hb⟩
      clear rP
      replace e0 := cell_next hb hz e0
      replace e1 := cell_next hb hz e1
      replace e2 := cell_next hb hz e2
      replace e3 := cell_next hb hz e3
      replace e4 := cell_next hb hz e4
      replace hz := Nat.lt_of_lt_of_le hz hb.size
      replace hc := hc.trans (hb.mono hc.size)
      clear hb
      go_wp2_with fail
      go_roundw
      case rel => exact ⟨1, by decide, by go_num, hc, hz, e0, e1, e2, e3, e4⟩
      case measure => simp [intOf]
    · go_wp2_with fail
      refine (rC.out _ hc).mono ?_
      rintro e w1 ⟨vP, rfl, rP, hb⟩
      replace e0 := cell_next hb hz e0
      replace e1 := cell_next hb hz e1
      replace e2 := cell_next hb hz e2
      replace e3 := cell_next hb hz e3
      replace e4 := cell_next hb hz e4
      replace hz := Nat.lt_of_lt_of_le hz hb.size
      replace hc := hc.trans (hb.mono hc.size)
      clear hb
      go_wp2_with fail
      refine (kC.out _ _ rP.set).mono ?_
      rintro e w2 ⟨rfl, hb⟩
      clear rP
      replace e0 := cell_next hb hz e0
      replace e1 := cell_next hb hz e1
      replace e2 := cell_next hb hz e2
      replace e3 := cell_next hb hz e3
      replace e4 := cell_next hb hz e4
      replace hz := Nat.lt_of_lt_of_le hz hb.size
      replace hc := hc.trans (hb.mono hc.size)
      clear hb
      go_wp2_with fail
      go_roundw
      case rel => exact ⟨2, by decide, by go_num, hc, hz, e0, e1, e2, e3, e4⟩
      case measure => simp [intOf]
    · go_wp2_with fail
      refine (rD.out _ hc).mono ?_
      rintro e w1 ⟨vP, rfl, rP, hb⟩
      replace e0 := cell_next hb hz e0
      replace e1 := cell_next hb hz e1
      replace e2 := cell_next hb hz e2
      replace e3 := cell_next hb hz e3
      replace e4 := cell_next hb hz e4
      replace hz := Nat.lt_of_lt_of_le hz hb.size
      replace hc := hc.trans (hb.mono hc.size)
      clear hb
      go_wp2_with fail
      refine (kD.out _ _ rP.set).mono ?_
      rintro e w2 ⟨rfl, hb⟩
      clear rP
      replace e0 := cell_next hb hz e0
      replace e1 := cell_next hb hz e1
      replace e2 := cell_next hb hz e2
      replace e3 := cell_next hb hz e3
      replace e4 := cell_next hb hz e4
      replace hz := Nat.lt_of_lt_of_le hz hb.size
      replace hc := hc.trans (hb.mono hc.size)
      clear hb
      go_wp2_with fail
      go_roundw
      case rel => exact ⟨3, by decide, by go_num, hc, hz, e0, e1, e2, e3, e4⟩
      case measure => simp [intOf]
    · go_wp2_with fail
      refine (rE.out _ hc).mono ?_
      rintro e w1 ⟨vP, rfl, rP, hb⟩
      replace e0 := cell_next hb hz e0
      replace e1 := cell_next hb hz e1
      replace e2 := cell_next hb hz e2
      replace e3 := cell_next hb hz e3
      replace e4 := cell_next hb hz e4
      replace hz := Nat.lt_of_lt_of_le hz hb.size
      replace hc := hc.trans (hb.mono hc.size)
      clear hb
      go_wp2_with fail
      refine (kE.out _ _ rP.set).mono ?_
      rintro e w2 ⟨rfl, hb⟩
      clear rP
      replace e0 := cell_next hb hz e0
      replace e1 := cell_next hb hz e1
      replace e2 := cell_next hb hz e2
      replace e3 := cell_next hb hz e3
      replace e4 := cell_next hb hz e4
      replace hz := Nat.lt_of_lt_of_le hz hb.size
      replace hc := hc.trans (hb.mono hc.size)
      clear hb
      go_wp2_with fail
      go_roundw
      case rel => exact ⟨4, by decide, by go_num, hc, hz, e0, e1, e2, e3, e4⟩
      case measure => simp [intOf]
    · go_wp2_with fail
      refine (rG.out _ hc).mono ?_
      rintro e w1 ⟨vP, rfl, rP, hb⟩
      replace e0 := cell_next hb hz e0
      replace e1 := cell_next hb hz e1
      replace e2 := cell_next hb hz e2
      replace e3 := cell_next hb hz e3
      replace e4 := cell_next hb hz e4
      replace hz := Nat.lt_of_lt_of_le hz hb.size
      replace hc := hc.trans (hb.mono hc.size)
      clear hb
      go_wp2_with fail
      refine (kG.out _ _ rP.set).mono ?_
      rintro e w2 ⟨rfl, hb⟩
      clear rP
      replace e0 := cell_next hb hz e0
      replace e1 := cell_next hb hz e1
      replace e2 := cell_next hb hz e2
      replace e3 := cell_next hb hz e3
      replace e4 := cell_next hb hz e4
      replace hz := Nat.lt_of_lt_of_le hz hb.size
      replace hc := hc.trans (hb.mono hc.size)
      clear hb
      go_wp2_with fail
      go_roundw
      case rel => exact ⟨5, by decide, by go_num, hc, hz, e0, e1, e2, e3, e4⟩
      case measure => simp [intOf]
    · clear e0 e1 e2 e3 e4 hz kU kC kD kE kG
      go_wp2_with fail
      obtain ⟨wo, hwo⟩ : ∃ wo : World, wo = wr := ⟨_, rfl⟩
      subst hwo
      go_loopw [22] (fun i wr => ∃ n : Int, -340 ≤ n ∧ n ≤ 240 ∧ i = .int .i64 n ∧ Below W15.heap.size W15 wr) (fun i _ => (240 - intOf i).toNat)
      case atStart => exact ⟨-340, by omega, by omega, rfl, hc⟩
      case round =>
        clear hc
        obtain ⟨n, n1, n2, rfl, hc⟩ := hrel
        by_cases hlt : n < 240
        · clear nU nC nX nY nN near0 near1 rU rC rD rE rG rX rY HK
          have aX := qX.out n
          have aY := qY.out n
          have aU := qU.out n
          have aC := qC.out n
          have aD := qD.out n
          have aE := qE.out n
          have aG := qG.out n
          rw [mU.out n] at aU
          rw [mC.out n] at aC
          rw [mD.out n] at aD
          have hsm := mE.out n
          have ham := mG.out n
          generalize memB LE n = s at *
          generalize memB LG n = a at *
          replace hsm := Lib.hid hsm
          replace ham := Lib.hid ham
          clear qU qC qD qE qG qY mU mC mD mE mG
          generalize memB xs n = p at *
          generalize memB ys n = q at *
          replace aX := Lib.hid aX
          replace aY := Lib.hid aY
          replace aU := Lib.hid aU
          replace aC := Lib.hid aC
          replace aD := Lib.hid aD
          replace aE := Lib.hid aE
          replace aG := Lib.hid aG
          have wn1 : IntKind.i64.wrap (n - d) = n - d := IntWalk.i64_in _ (by omega)
          have wn2 : IntKind.i64.wrap (n + d) = n + d := IntWalk.i64_in _ (by omega)
          have wn3 : IntKind.i64.wrap (n + 1) = n + 1 := IntWalk.i64_in _ (by omega)
          go_wp2_with fail
          refine (aX.out _ hc).mono ?_
          rintro e w1 ⟨rfl, hb⟩
          replace hc := hc.trans (hb.mono hc.size)
          clear hb
          go_wp2_with fail
          refine (aY.out _ hc).mono ?_
          rintro e w1 ⟨rfl, hb⟩
          replace hc := hc.trans (hb.mono hc.size)
          clear hb
          go_wp2_with fail
          obtain ⟨wp, hwp⟩ : ∃ wp : World, wp = wr := ⟨_, rfl⟩
          subst hwp
          go_loopw [25, 26, 27] (fun sm al k wr => ∃ (j : Int) (s' a' : Bool), n - d ≤ j ∧ j ≤ n + d + 1 ∧ k = .int .i64 j ∧ sm = .bool s' ∧ al = .bool a' ∧ Hid (s' = true ↔ ∃ i, n - d ≤ i ∧ i < j ∧ memB xs i = true) ∧ Hid (a' = true ↔ ∀ i, n - d ≤ i → i < j → memB xs i = true) ∧ Below W15.heap.size W15 wr) (fun _ _ k _ => (n + d + 1 - intOf k).toNat)
          case atStart => exact ⟨n - d, false, true, Int.le_refl _, by omega, rfl, rfl, rfl, Lib.hid (iff_none _), Lib.hid (iff_all _), hc⟩
          case round =>
            clear hc
            obtain ⟨j, s', a', j1, j2, rfl, rfl, rfl, hs', ha', hc⟩ := hrel
            by_cases hlt2 : j ≤ n + d
            · have aj := qX.out j
              have ns := Lib.hid (iff_more hs'.out (by omega))
              have na' := Lib.hid (iff_each ha'.out (by omega))
              have wj : IntKind.i64.wrap (j + 1) = j + 1 := IntWalk.i64_in _ (by omega)
              generalize memB xs j = t at *
              replace aj := Lib.hid aj
              clear hs' ha' aU aC aD aE aG hsm ham aX aY qX
              cases s' <;> cases a' <;> cases t
              all_goals
                go_wp2_with fail
                refine (aj.out _ hc).mono ?_
                rintro e w1 ⟨rfl, hb⟩
                replace hc := hc.trans (hb.mono hc.size)
                clear hb
                go_wp2_with fail
                go_roundw
                case rel => exact ⟨j + 1, _, _, by omega, by omega, rfl, rfl, rfl, ns, na', hc⟩
                case measure => simp [intOf]; omega
            · obtain rfl : j = n + d + 1 := by omega
              have es : s' = s := by rw [Bool.eq_iff_iff, hs'.out, hsm.out]; constructor <;> (rintro ⟨i, h1, h2, h3⟩; exact ⟨i, h1, by omega, h3⟩)
              have ea : a' = a := by rw [Bool.eq_iff_iff, ha'.out, ham.out]; constructor <;> (intro h i h1 h2; exact h i h1 (by omega))
              subst es ea
              clear hs' ha' hsm ham aX aY qX
              cases p <;> cases q <;> simp only [Bool.or_false, Bool.or_true, Bool.false_or, Bool.true_or, Bool.and_false, Bool.and_true, Bool.false_and, Bool.true_and, Bool.not_true, Bool.not_false] at aU aC aD <;> cases s' <;> cases a'
              all_goals
                go_wp2_with fail
                refine (aU.out _ hc).mono ?_
                rintro e w1 ⟨rfl, hb⟩
                replace hc := hc.trans (hb.mono hc.size)
                clear hb
                go_wp2_with fail
                refine (aC.out _ hc).mono ?_
                rintro e w1 ⟨rfl, hb⟩
                replace hc := hc.trans (hb.mono hc.size)
                clear hb
                go_wp2_with fail
                refine (aD.out _ hc).mono ?_
                rintro e w1 ⟨rfl, hb⟩
                replace hc := hc.trans (hb.mono hc.size)
                clear hb
                go_wp2_with fail
                refine (aE.out _ hc).mono ?_
                rintro e w1 ⟨rfl, hb⟩
                replace hc := hc.trans (hb.mono hc.size)
                clear hb
                go_wp2_with fail
                refine (aG.out _ hc).mono ?_
                rintro e w1 ⟨rfl, hb⟩
                replace hc := hc.trans (hb.mono hc.size)
                clear hb
                go_wp2_with fail
                go_roundw
                case rel => exact ⟨n + 1, by omega, by omega, rfl, hc⟩
                case measure => simp [intOf]; omega
        · obtain rfl : n = 240 := by omega
          clear mU mC mD mE mG qU qC qD qE qG qY rD rE rG
          go_wp2_with fail
          refine (rU.out _ hc).mono ?_
          rintro e w1 ⟨vP, rfl, rP, hb⟩
          replace hc := hc.trans (hb.mono hc.size)
          clear hb
          go_wp2_with fail
          refine (nU.out _ _ rP.set).mono ?_
          rintro e w2 ⟨rfl, hb⟩
          replace hc := hc.trans (hb.mono hc.size)
          clear hb
          clear rP
          go_wp2_with fail
          refine (rC.out _ hc).mono ?_
          rintro e w1 ⟨vP, rfl, rP, hb⟩
          replace hc := hc.trans (hb.mono hc.size)
          clear hb
          go_wp2_with fail
          refine (nC.out _ _ rP.set).mono ?_
          rintro e w2 ⟨rfl, hb⟩
          replace hc := hc.trans (hb.mono hc.size)
          clear hb
          clear rP
          go_wp2_with fail
          refine (rX.out _ hc).mono ?_
          rintro e w1 ⟨vP, rfl, rP, hb⟩
          replace hc := hc.trans (hb.mono hc.size)
          clear hb
          go_wp2_with fail
          refine (nX.out _ _ rP.set).mono ?_
          rintro e w2 ⟨rfl, hb⟩
          replace hc := hc.trans (hb.mono hc.size)
          clear hb
          clear rP
          go_wp2_with fail
          refine (rY.out _ hc).mono ?_
          rintro e w1 ⟨vP, rfl, rP, hb⟩
          replace hc := hc.trans (hb.mono hc.size)
          clear hb
          go_wp2_with fail
          refine (nY.out _ _ rP.set).mono ?_
          rintro e w2 ⟨rfl, hb⟩
          replace hc := hc.trans (hb.mono hc.size)
          clear hb
          clear rP
          go_wp2_with fail
          refine (rX.out _ hc).mono ?_
          rintro e w1 ⟨vP, rfl, rP, hb⟩
          replace hc := hc.trans (hb.mono hc.size)
          clear hb
          have aN := nN.out _ _ rP
          clear nN rP nU nC nX nY rU rC rX rY
          by_cases h0 : mXl = 0
          · have hne := near0.out (by rw [hmX.out]; exact h0)
            subst h0 hne
            replace aN := Lib.hid aN
            clear near0 near1 qX
            go_wp2_with fail
            refine (aN.out).mono ?_
            rintro e w1 ⟨rfl, hb⟩
            replace hc := hc.trans (hb.mono hc.size)
            clear hb
            go_wp2_with fail
            refine (HK.out _).mono ?_
            rintro e w1 ⟨rfl, hb⟩
            replace hc := hc.trans (hb.mono hc.size)
            clear hb
            go_wp2_with fail
            go_ret
            exact ⟨rfl, hB.trans (hc.mono hB.size)⟩
          · obtain ⟨e0, e1, e2, e3, e4⟩ := near1.out (by rw [hmX.out]; omega)
            subst e0
            have aM := qX.out nr
            rw [e1] at aM
            replace aM := Lib.hid aM
            replace aN := Lib.hid aN
            have hN := Lib.hid e4
            obtain ⟨far, hfar⟩ : ∃ f, max (nr - x) (x - nr) = f := ⟨_, rfl⟩
            obtain ⟨m, hm7⟩ : ∃ m, min far 700 = m := ⟨_, rfl⟩
            have rm1 : ∀ tys ty w, (Builtin.max_ tys ty #[.int .i64 (nr - x), .int .i64 (x - nr)]).run Try.prog w = .ok (.int .i64 far) w := fun tys ty w => by rw [← hfar]; exact nrun_max2 ..
            have rm2 : ∀ tys ty w, (Builtin.min_ tys ty #[.int .i64 far, .int .i64 700]).run Try.prog w = .ok (.int .i64 m) w := fun tys ty w => by rw [← hm7]; exact nrun_min2 ..
            have hm0 : 0 ≤ m ∧ m ≤ 700 := by omega
            have hfar' := Lib.hid hfar
            have hm7' := Lib.hid hm7
            clear hfar hm7 e1 e4 near0 near1
            have wf1 : IntKind.i64.wrap (nr - x) = nr - x := IntWalk.i64_in _ (by omega)
            have wf2 : IntKind.i64.wrap (x - nr) = x - nr := IntWalk.i64_in _ (by omega)
            have wf3 : IntKind.i64.wrap (x - m) = x - m := IntWalk.i64_in _ (by omega)
            have wf4 : IntKind.i64.wrap (x + m) = x + m := IntWalk.i64_in _ (by omega)
            have h0' : ((mXl : Int) == 0) = false := by simpa using h0
            go_wp2_with fail
            refine (aN.out).mono ?_
            rintro e w1 ⟨rfl, hb⟩
            replace hc := hc.trans (hb.mono hc.size)
            clear hb
            go_wp2_with fail
            refine (aM.out _ hc).mono ?_
            rintro e w1 ⟨rfl, hb⟩
            replace hc := hc.trans (hb.mono hc.size)
            clear hb
            clear aN aM
            go_wp2_with fail
            obtain ⟨wp, hwp⟩ : ∃ wp : World, wp = wr := ⟨_, rfl⟩
            subst hwp
            go_loopw [35] (fun i wr => ∃ k : Int, x - m ≤ k ∧ k ≤ x + m ∧ i = .int .i64 k ∧ Below W15.heap.size W15 wr) (fun i _ => (x + m - intOf i).toNat)
            case atStart => exact ⟨x - m, Int.le_refl _, by omega, rfl, hc⟩
            case round =>
              clear hc
              obtain ⟨k, k1, k2, rfl, hc⟩ := hrel
              by_cases hlt : k < x + m
              · have wk : IntKind.i64.wrap (k + 1) = k + 1 := IntWalk.i64_in _ (by omega)
                by_cases hk : k = nr
                · have hk' : (k != nr) = false := by simpa using hk
                  go_wp2_with fail
                  go_roundw
                  case rel => exact ⟨k + 1, by omega, by omega, by rw [hk], hc⟩
                  case measure => simp [intOf]; omega
                · have hk' : (k != nr) = true := by simpa using hk
                  have aK := qX.out k
                  have hmk : memB xs k = false := by
                    cases h : memB xs k with
                    | false => rfl
                    | true =>
                      exfalso
                      have h1 := hN.out k h
                      have h2 := hfar'.out
                      have h3 := hm7'.out
                      omega
                  rw [hmk] at aK
                  replace aK := Lib.hid aK
                  clear hmk hN hfar' hm7'
                  go_wp2_with fail
                  refine (aK.out _ hc).mono ?_
                  rintro e w1 ⟨rfl, hb⟩
                  replace hc := hc.trans (hb.mono hc.size)
                  clear hb
                  go_wp2_with fail
                  go_roundw
                  case rel => exact ⟨k + 1, by omega, by omega, rfl, hc⟩
                  case measure => simp [intOf]; omega
              · obtain rfl : k = x + m := by omega
                go_wp2_with fail
                refine (HK.out _).mono ?_
                rintro e w1 ⟨rfl, hb⟩
                replace hc := hc.trans (hb.mono hc.size)
                clear hb
                go_wp2_with fail
                go_ret
                exact ⟨rfl, hB.trans (hc.mono hB.size)⟩

theorem members_walk (va vb : Value) (ps qs : List (Int × Int)) (b x : Int) (hb : 0 ≤ b ∧ b ≤ 255) (hx : -32768 ≤ x ∧ x ≤ 32767) (w : World) (hv : P8At w va ps) (hu : P8At w vb qs) :
    Calls Try.prog 14 #[.agg #[va, vb, .int .u8 b, .int .i16 x]] w fun e w' => e = .returned (.bool true) ∧ Below w.heap.size w w' := by
  by_cases hl : ps.length ≤ 12
  · by_cases hm : qs.length ≤ 12
    · exact members_main va vb ps qs b x hb hx w hv hu hl hm
    · obtain ⟨A, ca, rfl⟩ := hv.slice
      obtain ⟨B, cb, rfl⟩ := hu.slice
      exact members_big A B _ _ ca cb b x w (.inr ⟨by omega, by omega⟩)
  · obtain ⟨A, ca, rfl⟩ := hv.slice
    obtain ⟨B, cb, rfl⟩ := hu.slice
    exact members_big A B _ _ ca cb b x w (.inl (by omega))
end Go.Proofs.Ytiibbnbknmeplaa
