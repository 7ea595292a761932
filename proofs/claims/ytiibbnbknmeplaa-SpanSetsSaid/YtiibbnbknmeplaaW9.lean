/- The walk of the statement on union, common numbers, what is left, and counts. -/
import Derived.Test.YtiibbnbknmeplaaC21
import Derived.Test.YtiibbnbknmeplaaC22
import Derived.Test.YtiibbnbknmeplaaR11
import Derived.Test.YtiibbnbknmeplaaK2
namespace Go.Proofs.Ytiibbnbknmeplaa
open Go.RowKit Go.Lib Go.Shelf
set_option linter.unusedVariables false
set_option linter.unusedSimpArgs false
attribute [local go_sem ↓] Go.wp_at_zero Go.wp_at_succ

theorem ArgAt.below9 {w W : World} {v : Value} {xs : List (Int × Int)} (h : ArgAt w v xs) (hb : Below w.heap.size w W) : ArgAt W v xs := by
  rcases h with h | ⟨g, off, c, rfl, hc, hg, hr⟩
  · exact Or.inl h
  · exact Or.inr ⟨g, off, c, rfl, hc, Nat.lt_of_lt_of_le hg hb.size, hr.below hb hg⟩
theorem ArgAt.slice {w : World} {v : Value} {xs : List (Int × Int)} (h : ArgAt w v xs) : ∃ A c, v = .slice A xs.length c := by
  rcases h with ⟨⟨A, c, rfl⟩, rfl⟩ | ⟨g, off, c, rfl, _⟩
  · exact ⟨A, c, rfl⟩
  · exact ⟨_, c, rfl⟩
theorem joined_any (K : Bool → Bool → Bool) (way : Nat) (hw : way < 3) (hK : wayK way = K) (va vb : Value) (xs ys : List (Int × Int)) (hsx : setE xs = 0) (hsy : setE ys = 0) (w : World) (hva : SetAt w.heap.size w va xs) (hvb : SetAt w.heap.size w vb ys) :
    Calls Try.prog 77 #[va, vb, .int .i64 way] w (ListPost w (jnR K xs ys) (jnE K xs ys)) := by
  have h := rJoined_any va vb xs ys way hw hsx hsy w hva hvb
  rw [hK] at h
  have e1 : jnE K xs ys = if 200 < (joinL K xs ys).length then 8 else 0 := by unfold jnE; rw [if_pos hsx, if_pos hsy]
  have e2 : jnR K xs ys = if 200 < (joinL K xs ys).length then [] else joinL K xs ys := by unfold jnR; rw [if_pos hsx, if_pos hsy]
  rw [e1, e2]
  exact h

set_option maxRecDepth 40000 in
set_option maxHeartbeats 2000000 in
theorem sets_big (A B : Option Addr) (n m ca cb : Nat) (w : World) (hl : 220 < n ∨ ¬ 220 < n ∧ 220 < m) :
    Calls Try.prog 9 #[.slice A n ca, .slice B m cb] w fun e w' => e = .returned (.bool true) ∧ Below w.heap.size w w' := by
  have HK := Lib.hid known_any
  rcases hl with h1 | ⟨h1, h2⟩
  · go_enter Try.func9, Try.ntmps9
    go_wp2_with fail
    refine (HK.out _).mono ?_
    rintro e W1 ⟨rfl, hb⟩
    have hB := hb
    clear hb
    go_wp2_with fail
    go_ret
    exact ⟨rfl, hB⟩
  · go_enter Try.func9, Try.ntmps9
    go_wp2_with fail
    refine (HK.out _).mono ?_
    rintro e W1 ⟨rfl, hb⟩
    have hB := hb
    clear hb
    go_wp2_with fail
    go_ret
    exact ⟨rfl, hB⟩

set_option maxRecDepth 40000 in
set_option maxHeartbeats 4000000 in
theorem sets_a (va vb : Value) (xs ys : List (Int × Int)) (w : World) (hv : ArgAt w va xs) (hu : ArgAt w vb ys) (hl : xs.length ≤ 220) (hm : ys.length ≤ 220) (hs : setE xs ≠ 0) :
    Calls Try.prog 9 #[va, vb] w fun e w' => e = .returned (.bool true) ∧ Below w.heap.size w w' := by
  have HL := Lib.hid (fun (W : World) (h : Below w.heap.size w W) => (hv.row.set.below h (Nat.le_refl _)).mono h.size)
  have HM := Lib.hid (fun (W : World) (h : Below w.heap.size w W) => (hu.row.set.below h (Nat.le_refl _)).mono h.size)
  have HRx := Lib.hid (fun (W : World) (h : Below w.heap.size w W) => lRanges_any _ xs (by omega) W (hv.below9 h))
  have HRy := Lib.hid (fun (W : World) (h : Below w.heap.size w W) => lRanges_any _ ys (by omega) W (hu.below9 h))
  have HCk := Lib.hid (fun (u : Value) (W : World) (h : SetAt W.heap.size W u xs) => checkSet_any u xs W h)
  have HCn := Lib.hid (fun (u : Value) (W : World) (h : SetAt W.heap.size W u xs) => count_any u xs W h)
  have HOs1 := Lib.hid (fun (u v : Value) (W : World) (h : SetAt W.heap.size W u xs) (k : SetAt W.heap.size W v ys) => union_any u v xs ys W h k)
  have HOs2 := Lib.hid (fun (u v : Value) (W : World) (h : SetAt W.heap.size W u xs) (k : SetAt W.heap.size W v ys) => common_any u v xs ys W h k)
  have HOs3 := Lib.hid (fun (u v : Value) (W : World) (h : SetAt W.heap.size W u xs) (k : SetAt W.heap.size W v ys) => without_any u v xs ys W h k)
  have HSx := Lib.hid (fun (u v : Value) (W : World) (h : SetAt W.heap.size W u xs) (k : SetAt W.heap.size W v xs) => lSame_any u v xs (by omega) W h k)
  have HSy := Lib.hid (fun (u v : Value) (W : World) (h : SetAt W.heap.size W u ys) (k : SetAt W.heap.size W v ys) => lSame_any u v ys (by omega) W h k)
  have HQx := Lib.hid (fun (u : Value) (W : World) (h : SetAt W.heap.size W u xs) => rSet_any u xs W h)
  have HQy := Lib.hid (fun (u : Value) (W : World) (h : SetAt W.heap.size W u ys) => rSet_any u ys W h)
  have HK := Lib.hid known_any
  obtain ⟨A, ca, rfl⟩ := hv.slice
  obtain ⟨B, cb, rfl⟩ := hu.slice
  have e1s1 : jnE (fun p q => p || q) xs ys = setE xs := by unfold jnE; rw [if_neg hs]
  have e2s1 : jnR (fun p q => p || q) xs ys = [] := by unfold jnR; rw [if_neg hs]
  rw [e1s1, e2s1] at HOs1
  have e1s2 : jnE (fun p q => p && q) xs ys = setE xs := by unfold jnE; rw [if_neg hs]
  have e2s2 : jnR (fun p q => p && q) xs ys = [] := by unfold jnR; rw [if_neg hs]
  rw [e1s2, e2s2] at HOs2
  have e1s3 : jnE (fun p q => p && !q) xs ys = setE xs := by unfold jnE; rw [if_neg hs]
  have e2s3 : jnR (fun p q => p && !q) xs ys = [] := by unfold jnR; rw [if_neg hs]
  rw [e1s3, e2s3] at HOs3
  have ec : cntV xs = 0 := by unfold cntV; rw [if_neg hs]
  rw [ec] at HCn
  have hne : (setE xs != 0) = true := by simpa using hs
  generalize setE xs = s at *
  clear hs ec e1s1 e2s1 e1s2 e2s2 e1s3 e2s3
  clear hv hu
  obtain ⟨na, hna⟩ : ∃ n, xs.length = n := ⟨_, rfl⟩
  obtain ⟨nb, hnb⟩ : ∃ n, ys.length = n := ⟨_, rfl⟩
  have Hna := Lib.hid hna
  have Hnb := Lib.hid hnb
  rw [hna] at hl HL HRx ⊢
  rw [hnb] at hm HM HRy ⊢
  clear hna hnb
  go_enter Try.func9, Try.ntmps9
  go_wp2_with fail
  refine (HRx.out _ (Below.refl _ _)).mono ?_
  rintro e W1 ⟨vX, rfl, hrx, hb⟩
  have hB := hb
  clear hb
  have HX := Lib.hid (fun (W : World) (h : Below W1.heap.size W1 W) => (hrx.below h (Nat.le_refl _)).mono h.size)
  have hX := Below.refl W1.heap.size W1
  clear hrx
  go_wp2_with fail
  refine (HRy.out _ hB).mono ?_
  rintro e W2 ⟨vY, rfl, hry, hb⟩
  replace hX := hX.trans (hb.mono hX.size)
  replace hB := hB.trans (hb.mono hB.size)
  clear hb
  have HY := Lib.hid (fun (W : World) (h : Below W2.heap.size W2 W) => (hry.below h (Nat.le_refl _)).mono h.size)
  have hY := Below.refl W2.heap.size W2
  clear hry
  go_wp2_with fail
  refine (HCk.out _ _ (HX.out _ hX).set).mono ?_
  rintro e W3 ⟨rfl, hb⟩
  replace hX := hX.trans (hb.mono hX.size)
  replace hY := hY.trans (hb.mono hY.size)
  replace hB := hB.trans (hb.mono hB.size)
  clear hb
  go_wp2_with fail
  refine (HOs1.out _ _ _ (HX.out _ hX).set (HY.out _ hY).set).mono ?_
  rintro e W4 ⟨vs1, rfl, owns1, hb⟩
  replace hX := hX.trans (hb.mono hX.size)
  replace hY := hY.trans (hb.mono hY.size)
  replace hB := hB.trans (hb.mono hB.size)
  clear hb
  have Rs1 := own_row _ _ rfl vs1 W4 owns1
  obtain ⟨As1, cs1, rfl⟩ : ∃ A c, vs1 = .slice A 0 c := by obtain ⟨A, c, h, _⟩ := Rs1; exact ⟨A, c, by rw [h]; rfl⟩
  have Hs1 := Lib.hid (fun (W : World) (h : Below W4.heap.size W4 W) => (Rs1.below h (Nat.le_refl _)).mono h.size)
  have hs1 := Below.refl W4.heap.size W4
  clear Rs1 owns1
  go_wp2_with fail
  refine (HOs2.out _ _ _ (HX.out _ hX).set (HY.out _ hY).set).mono ?_
  rintro e W5 ⟨vs2, rfl, owns2, hb⟩
  replace hX := hX.trans (hb.mono hX.size)
  replace hY := hY.trans (hb.mono hY.size)
  replace hs1 := hs1.trans (hb.mono hs1.size)
  replace hB := hB.trans (hb.mono hB.size)
  clear hb
  have Rs2 := own_row _ _ rfl vs2 W5 owns2
  obtain ⟨As2, cs2, rfl⟩ : ∃ A c, vs2 = .slice A 0 c := by obtain ⟨A, c, h, _⟩ := Rs2; exact ⟨A, c, by rw [h]; rfl⟩
  have Hs2 := Lib.hid (fun (W : World) (h : Below W5.heap.size W5 W) => (Rs2.below h (Nat.le_refl _)).mono h.size)
  have hs2 := Below.refl W5.heap.size W5
  clear Rs2 owns2
  go_wp2_with fail
  refine (HOs3.out _ _ _ (HX.out _ hX).set (HY.out _ hY).set).mono ?_
  rintro e W6 ⟨vs3, rfl, owns3, hb⟩
  replace hX := hX.trans (hb.mono hX.size)
  replace hY := hY.trans (hb.mono hY.size)
  replace hs1 := hs1.trans (hb.mono hs1.size)
  replace hs2 := hs2.trans (hb.mono hs2.size)
  replace hB := hB.trans (hb.mono hB.size)
  clear hb
  have Rs3 := own_row _ _ rfl vs3 W6 owns3
  obtain ⟨As3, cs3, rfl⟩ : ∃ A c, vs3 = .slice A 0 c := by obtain ⟨A, c, h, _⟩ := Rs3; exact ⟨A, c, by rw [h]; rfl⟩
  have Hs3 := Lib.hid (fun (W : World) (h : Below W6.heap.size W6 W) => (Rs3.below h (Nat.le_refl _)).mono h.size)
  have hs3 := Below.refl W6.heap.size W6
  clear Rs3 owns3
  go_wp2_with fail
  refine (HCn.out _ _ (HX.out _ hX).set).mono ?_
  rintro e W7 ⟨rfl, hb⟩
  replace hX := hX.trans (hb.mono hX.size)
  replace hY := hY.trans (hb.mono hY.size)
  replace hs1 := hs1.trans (hb.mono hs1.size)
  replace hs2 := hs2.trans (hb.mono hs2.size)
  replace hs3 := hs3.trans (hb.mono hs3.size)
  replace hB := hB.trans (hb.mono hB.size)
  clear hb
  go_wp2_with fail
  refine (HSx.out _ _ _ (HX.out _ hX).set (HL.out _ hB)).mono ?_
  rintro e W8 ⟨rfl, hb⟩
  replace hX := hX.trans (hb.mono hX.size)
  replace hY := hY.trans (hb.mono hY.size)
  replace hs1 := hs1.trans (hb.mono hs1.size)
  replace hs2 := hs2.trans (hb.mono hs2.size)
  replace hs3 := hs3.trans (hb.mono hs3.size)
  replace hB := hB.trans (hb.mono hB.size)
  clear hb
  go_wp2_with fail
  refine (HSy.out _ _ _ (HY.out _ hY).set (HM.out _ hB)).mono ?_
  rintro e W9 ⟨rfl, hb⟩
  replace hX := hX.trans (hb.mono hX.size)
  replace hY := hY.trans (hb.mono hY.size)
  replace hs1 := hs1.trans (hb.mono hs1.size)
  replace hs2 := hs2.trans (hb.mono hs2.size)
  replace hs3 := hs3.trans (hb.mono hs3.size)
  replace hB := hB.trans (hb.mono hB.size)
  clear hb
  clear HX hX
  clear HY hY
  go_wp2_with fail
  refine (HQx.out _ _ (HL.out _ hB)).mono ?_
  rintro e W10 ⟨rfl, hb⟩
  replace hs1 := hs1.trans (hb.mono hs1.size)
  replace hs2 := hs2.trans (hb.mono hs2.size)
  replace hs3 := hs3.trans (hb.mono hs3.size)
  replace hB := hB.trans (hb.mono hB.size)
  clear hb
  go_wp2_with fail
  refine (HK.out _).mono ?_
  rintro e W11 ⟨rfl, hb⟩
  replace hs1 := hs1.trans (hb.mono hs1.size)
  replace hs2 := hs2.trans (hb.mono hs2.size)
  replace hs3 := hs3.trans (hb.mono hs3.size)
  replace hB := hB.trans (hb.mono hB.size)
  clear hb
  go_wp2_with fail
  go_ret
  exact ⟨rfl, hB⟩

set_option maxRecDepth 40000 in
set_option maxHeartbeats 4000000 in
theorem sets_b (va vb : Value) (xs ys : List (Int × Int)) (w : World) (hv : ArgAt w va xs) (hu : ArgAt w vb ys) (hl : xs.length ≤ 220) (hm : ys.length ≤ 220) (hs : setE xs = 0) (ht : setE ys ≠ 0) :
    Calls Try.prog 9 #[va, vb] w fun e w' => e = .returned (.bool true) ∧ Below w.heap.size w w' := by
  have HL := Lib.hid (fun (W : World) (h : Below w.heap.size w W) => (hv.row.set.below h (Nat.le_refl _)).mono h.size)
  have HM := Lib.hid (fun (W : World) (h : Below w.heap.size w W) => (hu.row.set.below h (Nat.le_refl _)).mono h.size)
  have HRx := Lib.hid (fun (W : World) (h : Below w.heap.size w W) => lRanges_any _ xs (by omega) W (hv.below9 h))
  have HRy := Lib.hid (fun (W : World) (h : Below w.heap.size w W) => lRanges_any _ ys (by omega) W (hu.below9 h))
  have HCk := Lib.hid (fun (u : Value) (W : World) (h : SetAt W.heap.size W u xs) => checkSet_any u xs W h)
  have HCn := Lib.hid (fun (u : Value) (W : World) (h : SetAt W.heap.size W u xs) => count_any u xs W h)
  have HOs1 := Lib.hid (fun (u v : Value) (W : World) (h : SetAt W.heap.size W u xs) (k : SetAt W.heap.size W v ys) => union_any u v xs ys W h k)
  have HOs2 := Lib.hid (fun (u v : Value) (W : World) (h : SetAt W.heap.size W u xs) (k : SetAt W.heap.size W v ys) => common_any u v xs ys W h k)
  have HOs3 := Lib.hid (fun (u v : Value) (W : World) (h : SetAt W.heap.size W u xs) (k : SetAt W.heap.size W v ys) => without_any u v xs ys W h k)
  have HSx := Lib.hid (fun (u v : Value) (W : World) (h : SetAt W.heap.size W u xs) (k : SetAt W.heap.size W v xs) => lSame_any u v xs (by omega) W h k)
  have HSy := Lib.hid (fun (u v : Value) (W : World) (h : SetAt W.heap.size W u ys) (k : SetAt W.heap.size W v ys) => lSame_any u v ys (by omega) W h k)
  have HQx := Lib.hid (fun (u : Value) (W : World) (h : SetAt W.heap.size W u xs) => rSet_any u xs W h)
  have HQy := Lib.hid (fun (u : Value) (W : World) (h : SetAt W.heap.size W u ys) => rSet_any u ys W h)
  have HK := Lib.hid known_any
  obtain ⟨A, ca, rfl⟩ := hv.slice
  obtain ⟨B, cb, rfl⟩ := hu.slice
  have e1s1 : jnE (fun p q => p || q) xs ys = setE ys := by unfold jnE; rw [if_pos hs, if_neg ht]
  have e2s1 : jnR (fun p q => p || q) xs ys = [] := by unfold jnR; rw [if_pos hs, if_neg ht]
  rw [e1s1, e2s1] at HOs1
  have e1s2 : jnE (fun p q => p && q) xs ys = setE ys := by unfold jnE; rw [if_pos hs, if_neg ht]
  have e2s2 : jnR (fun p q => p && q) xs ys = [] := by unfold jnR; rw [if_pos hs, if_neg ht]
  rw [e1s2, e2s2] at HOs2
  have e1s3 : jnE (fun p q => p && !q) xs ys = setE ys := by unfold jnE; rw [if_pos hs, if_neg ht]
  have e2s3 : jnR (fun p q => p && !q) xs ys = [] := by unfold jnR; rw [if_pos hs, if_neg ht]
  rw [e1s3, e2s3] at HOs3
  have ec : cntV xs = cntL xs := by unfold cntV; rw [if_pos hs]
  rw [ec, hs] at HCn
  rw [hs] at HCk HQx
  obtain ⟨hl2, hv0⟩ := setE_bd hs
  have HV := Lib.hid hv0
  have hne : (setE ys != 0) = true := by simpa using ht
  generalize setE ys = s at *
  clear hs ht ec hv0 e1s1 e2s1 e1s2 e2s2 e1s3 e2s3
  clear hv hu
  obtain ⟨na, hna⟩ : ∃ n, xs.length = n := ⟨_, rfl⟩
  obtain ⟨nb, hnb⟩ : ∃ n, ys.length = n := ⟨_, rfl⟩
  have Hna := Lib.hid hna
  have Hnb := Lib.hid hnb
  rw [hna] at hl HL HRx ⊢
  rw [hnb] at hm HM HRy ⊢
  clear hna hnb
  go_enter Try.func9, Try.ntmps9
  go_wp2_with fail
  refine (HRx.out _ (Below.refl _ _)).mono ?_
  rintro e W1 ⟨vX, rfl, hrx, hb⟩
  have hB := hb
  clear hb
  have HX := Lib.hid (fun (W : World) (h : Below W1.heap.size W1 W) => (hrx.below h (Nat.le_refl _)).mono h.size)
  have hX := Below.refl W1.heap.size W1
  clear hrx
  go_wp2_with fail
  refine (HRy.out _ hB).mono ?_
  rintro e W2 ⟨vY, rfl, hry, hb⟩
  replace hX := hX.trans (hb.mono hX.size)
  replace hB := hB.trans (hb.mono hB.size)
  clear hb
  have HY := Lib.hid (fun (W : World) (h : Below W2.heap.size W2 W) => (hry.below h (Nat.le_refl _)).mono h.size)
  have hY := Below.refl W2.heap.size W2
  clear hry
  go_wp2_with fail
  refine (HCk.out _ _ (HX.out _ hX).set).mono ?_
  rintro e W3 ⟨rfl, hb⟩
  replace hX := hX.trans (hb.mono hX.size)
  replace hY := hY.trans (hb.mono hY.size)
  replace hB := hB.trans (hb.mono hB.size)
  clear hb
  go_wp2_with fail
  refine (HOs1.out _ _ _ (HX.out _ hX).set (HY.out _ hY).set).mono ?_
  rintro e W4 ⟨vs1, rfl, owns1, hb⟩
  replace hX := hX.trans (hb.mono hX.size)
  replace hY := hY.trans (hb.mono hY.size)
  replace hB := hB.trans (hb.mono hB.size)
  clear hb
  have Rs1 := own_row _ _ rfl vs1 W4 owns1
  obtain ⟨As1, cs1, rfl⟩ : ∃ A c, vs1 = .slice A 0 c := by obtain ⟨A, c, h, _⟩ := Rs1; exact ⟨A, c, by rw [h]; rfl⟩
  have Hs1 := Lib.hid (fun (W : World) (h : Below W4.heap.size W4 W) => (Rs1.below h (Nat.le_refl _)).mono h.size)
  have hs1 := Below.refl W4.heap.size W4
  clear Rs1 owns1
  go_wp2_with fail
  refine (HOs2.out _ _ _ (HX.out _ hX).set (HY.out _ hY).set).mono ?_
  rintro e W5 ⟨vs2, rfl, owns2, hb⟩
  replace hX := hX.trans (hb.mono hX.size)
  replace hY := hY.trans (hb.mono hY.size)
  replace hs1 := hs1.trans (hb.mono hs1.size)
  replace hB := hB.trans (hb.mono hB.size)
  clear hb
  have Rs2 := own_row _ _ rfl vs2 W5 owns2
  obtain ⟨As2, cs2, rfl⟩ : ∃ A c, vs2 = .slice A 0 c := by obtain ⟨A, c, h, _⟩ := Rs2; exact ⟨A, c, by rw [h]; rfl⟩
  have Hs2 := Lib.hid (fun (W : World) (h : Below W5.heap.size W5 W) => (Rs2.below h (Nat.le_refl _)).mono h.size)
  have hs2 := Below.refl W5.heap.size W5
  clear Rs2 owns2
  go_wp2_with fail
  refine (HOs3.out _ _ _ (HX.out _ hX).set (HY.out _ hY).set).mono ?_
  rintro e W6 ⟨vs3, rfl, owns3, hb⟩
  replace hX := hX.trans (hb.mono hX.size)
  replace hY := hY.trans (hb.mono hY.size)
  replace hs1 := hs1.trans (hb.mono hs1.size)
  replace hs2 := hs2.trans (hb.mono hs2.size)
  replace hB := hB.trans (hb.mono hB.size)
  clear hb
  have Rs3 := own_row _ _ rfl vs3 W6 owns3
  obtain ⟨As3, cs3, rfl⟩ : ∃ A c, vs3 = .slice A 0 c := by obtain ⟨A, c, h, _⟩ := Rs3; exact ⟨A, c, by rw [h]; rfl⟩
  have Hs3 := Lib.hid (fun (W : World) (h : Below W6.heap.size W6 W) => (Rs3.below h (Nat.le_refl _)).mono h.size)
  have hs3 := Below.refl W6.heap.size W6
  clear Rs3 owns3
  go_wp2_with fail
  refine (HCn.out _ _ (HX.out _ hX).set).mono ?_
  rintro e W7 ⟨rfl, hb⟩
  replace hX := hX.trans (hb.mono hX.size)
  replace hY := hY.trans (hb.mono hY.size)
  replace hs1 := hs1.trans (hb.mono hs1.size)
  replace hs2 := hs2.trans (hb.mono hs2.size)
  replace hs3 := hs3.trans (hb.mono hs3.size)
  replace hB := hB.trans (hb.mono hB.size)
  clear hb
  go_wp2_with fail
  refine (HSx.out _ _ _ (HX.out _ hX).set (HL.out _ hB)).mono ?_
  rintro e W8 ⟨rfl, hb⟩
  replace hX := hX.trans (hb.mono hX.size)
  replace hY := hY.trans (hb.mono hY.size)
  replace hs1 := hs1.trans (hb.mono hs1.size)
  replace hs2 := hs2.trans (hb.mono hs2.size)
  replace hs3 := hs3.trans (hb.mono hs3.size)
  replace hB := hB.trans (hb.mono hB.size)
  clear hb
  go_wp2_with fail
  refine (HSy.out _ _ _ (HY.out _ hY).set (HM.out _ hB)).mono ?_
  rintro e W9 ⟨rfl, hb⟩
  replace hX := hX.trans (hb.mono hX.size)
  replace hY := hY.trans (hb.mono hY.size)
  replace hs1 := hs1.trans (hb.mono hs1.size)
  replace hs2 := hs2.trans (hb.mono hs2.size)
  replace hs3 := hs3.trans (hb.mono hs3.size)
  replace hB := hB.trans (hb.mono hB.size)
  clear hb
  clear HX hX
  clear HY hY
  go_wp2_with fail
  refine (HQx.out _ _ (HL.out _ hB)).mono ?_
  rintro e W10 ⟨rfl, hb⟩
  replace hs1 := hs1.trans (hb.mono hs1.size)
  replace hs2 := hs2.trans (hb.mono hs2.size)
  replace hs3 := hs3.trans (hb.mono hs3.size)
  replace hB := hB.trans (hb.mono hB.size)
  clear hb
  go_wp2_with fail
  obtain ⟨wo, hwo⟩ : ∃ wo : World, wo = W10 := ⟨_, rfl⟩
  go_loopw [17, 18] (fun s i wr => ∃ (k : Nat) (u : Int), k ≤ na ∧ i = .int .i64 k ∧ s = .int .i64 u ∧ Hid (u = cntL (xs.take k)) ∧ Below wo.heap.size wo wr) (fun _ i _ => na - (intOf i).toNat)
  case atStart => exact ⟨0, 0, Nat.zero_le _, rfl, rfl, Lib.hid rfl, by rw [hwo]; exact Below.refl _ _⟩
  case round =>
    subst hwo
    obtain ⟨k, u, hk, rfl, rfl, hu, hb⟩ := hrel
    replace hs1 := hs1.trans (hb.mono hs1.size)
    replace hs2 := hs2.trans (hb.mono hs2.size)
    replace hs3 := hs3.trans (hb.mono hs3.size)
    replace hB := hB.trans (hb.mono hB.size)
    have hbr := hb
    clear hb
    by_cases hlt : (k : Int) < (na : Int)
    · obtain ⟨p, hp⟩ : ∃ p, xs[k]? = some p := ⟨_, List.getElem?_eq_getElem (by rw [Hna.out]; omega)⟩
      obtain ⟨A', c', hA, hr⟩ := HL.out wr hB
      injection hA with hA1 hA2 hA3
      subst hA1 hA3
      obtain ⟨g, off, rfl, hg, hc⟩ := hr (by rw [Hna.out]; omega)
      obtain ⟨q0, q1⟩ := hc k p hp
      obtain ⟨p1, p2, p3⟩ := vrB_of (HV.out p (List.mem_of_getElem? hp))
      obtain ⟨b1, b2⟩ := cntL_bd (xs.take k) (fun q hq => HV.out q (List.mem_of_mem_take hq))
      have b3 : ((xs.take k).length : Int) ≤ 220 := by rw [List.length_take]; omega
      have hnext : Hid (u + (p.2 - p.1 + 1) = cntL (xs.take (k + 1))) := Lib.hid (by rw [take_snoc'' xs k p hp, cntL_snoc, hu.out])
      rw [← hu.out] at b1 b2
      have b4 : u ≤ 500000000000000000 := by omega
      have w1 : IntKind.i64.wrap (p.2 - p.1) = p.2 - p.1 := IntWalk.i64_in _ (by omega)
      have w2 : IntKind.i64.wrap (p.2 - p.1 + 1) = p.2 - p.1 + 1 := IntWalk.i64_in _ (by omega)
      have w3 : IntKind.i64.wrap (u + (p.2 - p.1 + 1)) = u + (p.2 - p.1 + 1) := IntWalk.i64_in _ (by omega)
      have hk0 : (0 : Int) ≤ (k : Int) := by omega
      have hbr2 := hbr
      clear hc hp hr b2 b3
      go_wp2_with fail
      go_quiet (fail)
      go_wp2_with fail
      go_roundw
      case rel => exact ⟨k + 1, _, by omega, by go_num, rfl, hnext, below_drewN hbr2 _⟩
      case measure => simp [intOf]; omega
    · obtain rfl : k = na := by omega
      have E3 : Hid (u = cntL xs) := Lib.hid (by rw [hu.out, List.take_of_length_le (by rw [Hna.out]; exact Nat.le_refl _)])
      obtain rfl := E3.out
      clear hu E3 hbr
      generalize cntL xs = cnt at *
      go_wp2_with fail
      refine (HQy.out _ _ (HM.out _ hB)).mono ?_
      rintro e W11 ⟨rfl, hb⟩
      replace hs1 := hs1.trans (hb.mono hs1.size)
      replace hs2 := hs2.trans (hb.mono hs2.size)
      replace hs3 := hs3.trans (hb.mono hs3.size)
      replace hB := hB.trans (hb.mono hB.size)
      clear hb
      go_wp2_with fail
      refine (HK.out _).mono ?_
      rintro e W12 ⟨rfl, hb⟩
      replace hs1 := hs1.trans (hb.mono hs1.size)
      replace hs2 := hs2.trans (hb.mono hs2.size)
      replace hs3 := hs3.trans (hb.mono hs3.size)
      replace hB := hB.trans (hb.mono hB.size)
      clear hb
      go_wp2_with fail
      go_ret
      exact ⟨rfl, hB⟩

set_option maxRecDepth 40000 in
set_option maxHeartbeats 4000000 in
theorem sets_c (va vb : Value) (xs ys : List (Int × Int)) (w : World) (hv : ArgAt w va xs) (hu : ArgAt w vb ys) (hl : xs.length ≤ 220) (hm : ys.length ≤ 220) (hs : setE xs = 0) (ht : setE ys = 0) :
    Calls Try.prog 9 #[va, vb] w fun e w' => e = .returned (.bool true) ∧ Below w.heap.size w w' := by
  have HL := Lib.hid (fun (W : World) (h : Below w.heap.size w W) => (hv.row.set.below h (Nat.le_refl _)).mono h.size)
  have HM := Lib.hid (fun (W : World) (h : Below w.heap.size w W) => (hu.row.set.below h (Nat.le_refl _)).mono h.size)
  have HRx := Lib.hid (fun (W : World) (h : Below w.heap.size w W) => lRanges_any _ xs (by omega) W (hv.below9 h))
  have HRy := Lib.hid (fun (W : World) (h : Below w.heap.size w W) => lRanges_any _ ys (by omega) W (hu.below9 h))
  have HCk := Lib.hid (fun (u : Value) (W : World) (h : SetAt W.heap.size W u xs) => checkSet_any u xs W h)
  have HCn := Lib.hid (fun (u : Value) (W : World) (h : SetAt W.heap.size W u xs) => count_any u xs W h)
  have HOs1 := Lib.hid (fun (u v : Value) (W : World) (h : SetAt W.heap.size W u xs) (k : SetAt W.heap.size W v ys) => union_any u v xs ys W h k)
  have HOs2 := Lib.hid (fun (u v : Value) (W : World) (h : SetAt W.heap.size W u xs) (k : SetAt W.heap.size W v ys) => common_any u v xs ys W h k)
  have HOs3 := Lib.hid (fun (u v : Value) (W : World) (h : SetAt W.heap.size W u xs) (k : SetAt W.heap.size W v ys) => without_any u v xs ys W h k)
  have HSx := Lib.hid (fun (u v : Value) (W : World) (h : SetAt W.heap.size W u xs) (k : SetAt W.heap.size W v xs) => lSame_any u v xs (by omega) W h k)
  have HSy := Lib.hid (fun (u v : Value) (W : World) (h : SetAt W.heap.size W u ys) (k : SetAt W.heap.size W v ys) => lSame_any u v ys (by omega) W h k)
  have HQx := Lib.hid (fun (u : Value) (W : World) (h : SetAt W.heap.size W u xs) => rSet_any u xs W h)
  have HQy := Lib.hid (fun (u : Value) (W : World) (h : SetAt W.heap.size W u ys) => rSet_any u ys W h)
  have HK := Lib.hid known_any
  obtain ⟨A, ca, rfl⟩ := hv.slice
  obtain ⟨B, cb, rfl⟩ := hu.slice
  have HJs1 := Lib.hid (fun (u v : Value) (W : World) (h : SetAt W.heap.size W u xs) (k : SetAt W.heap.size W v ys) => joined_any (fun p q => p || q) 0 (by decide) (by funext p q; rfl) u v xs ys hs ht W h k)
  have hjs1 := jnR_len (fun p q => p || q) xs ys
  have HSs1 := Lib.hid (fun (u v : Value) (W : World) (h : SetAt W.heap.size W u (jnR (fun p q => p || q) xs ys)) (k : SetAt W.heap.size W v (jnR (fun p q => p || q) xs ys)) => lSame_any u v _ (by omega) W h k)
  generalize jnE (fun p q => p || q) xs ys = es1 at *
  generalize jnR (fun p q => p || q) xs ys = rs1 at *
  obtain ⟨ms1, hms1⟩ : ∃ m, rs1.length = m := ⟨_, rfl⟩
  replace hms1 := Lib.hid hms1
  have HJs2 := Lib.hid (fun (u v : Value) (W : World) (h : SetAt W.heap.size W u xs) (k : SetAt W.heap.size W v ys) => joined_any (fun p q => p && q) 1 (by decide) (by funext p q; rfl) u v xs ys hs ht W h k)
  have hjs2 := jnR_len (fun p q => p && q) xs ys
  have HSs2 := Lib.hid (fun (u v : Value) (W : World) (h : SetAt W.heap.size W u (jnR (fun p q => p && q) xs ys)) (k : SetAt W.heap.size W v (jnR (fun p q => p && q) xs ys)) => lSame_any u v _ (by omega) W h k)
  generalize jnE (fun p q => p && q) xs ys = es2 at *
  generalize jnR (fun p q => p && q) xs ys = rs2 at *
  obtain ⟨ms2, hms2⟩ : ∃ m, rs2.length = m := ⟨_, rfl⟩
  replace hms2 := Lib.hid hms2
  have HJs3 := Lib.hid (fun (u v : Value) (W : World) (h : SetAt W.heap.size W u xs) (k : SetAt W.heap.size W v ys) => joined_any (fun p q => p && !q) 2 (by decide) (by funext p q; rfl) u v xs ys hs ht W h k)
  have hjs3 := jnR_len (fun p q => p && !q) xs ys
  have HSs3 := Lib.hid (fun (u v : Value) (W : World) (h : SetAt W.heap.size W u (jnR (fun p q => p && !q) xs ys)) (k : SetAt W.heap.size W v (jnR (fun p q => p && !q) xs ys)) => lSame_any u v _ (by omega) W h k)
  generalize jnE (fun p q => p && !q) xs ys = es3 at *
  generalize jnR (fun p q => p && !q) xs ys = rs3 at *
  obtain ⟨ms3, hms3⟩ : ∃ m, rs3.length = m := ⟨_, rfl⟩
  replace hms3 := Lib.hid hms3
  have ec : cntV xs = cntL xs := by unfold cntV; rw [if_pos hs]
  rw [ec, hs] at HCn
  rw [hs] at HCk HQx
  rw [ht] at HQy
  obtain ⟨hl2, hv0⟩ := setE_bd hs
  have HV := Lib.hid hv0
  clear hs ht ec hv0 hjs1 hjs2 hjs3
  clear hv hu
  obtain ⟨na, hna⟩ : ∃ n, xs.length = n := ⟨_, rfl⟩
  obtain ⟨nb, hnb⟩ : ∃ n, ys.length = n := ⟨_, rfl⟩
  have Hna := Lib.hid hna
  have Hnb := Lib.hid hnb
  rw [hna] at hl HL HRx ⊢
  rw [hnb] at hm HM HRy ⊢
  clear hna hnb
  go_enter Try.func9, Try.ntmps9
  go_wp2_with fail
  refine (HRx.out _ (Below.refl _ _)).mono ?_
  rintro e W1 ⟨vX, rfl, hrx, hb⟩
  have hB := hb
  clear hb
  have HX := Lib.hid (fun (W : World) (h : Below W1.heap.size W1 W) => (hrx.below h (Nat.le_refl _)).mono h.size)
  have hX := Below.refl W1.heap.size W1
  clear hrx
  go_wp2_with fail
  refine (HRy.out _ hB).mono ?_
  rintro e W2 ⟨vY, rfl, hry, hb⟩
  replace hX := hX.trans (hb.mono hX.size)
  replace hB := hB.trans (hb.mono hB.size)
  clear hb
  have HY := Lib.hid (fun (W : World) (h : Below W2.heap.size W2 W) => (hry.below h (Nat.le_refl _)).mono h.size)
  have hY := Below.refl W2.heap.size W2
  clear hry
  go_wp2_with fail
  refine (HCk.out _ _ (HX.out _ hX).set).mono ?_
  rintro e W3 ⟨rfl, hb⟩
  replace hX := hX.trans (hb.mono hX.size)
  replace hY := hY.trans (hb.mono hY.size)
  replace hB := hB.trans (hb.mono hB.size)
  clear hb
  go_wp2_with fail
  refine (HOs1.out _ _ _ (HX.out _ hX).set (HY.out _ hY).set).mono ?_
  rintro e W4 ⟨vs1, rfl, owns1, hb⟩
  replace hX := hX.trans (hb.mono hX.size)
  replace hY := hY.trans (hb.mono hY.size)
  replace hB := hB.trans (hb.mono hB.size)
  clear hb
  have Rs1 := own_row _ _ rfl vs1 W4 owns1
  obtain ⟨As1, cs1, rfl⟩ : ∃ A c, vs1 = .slice A ms1 c := by obtain ⟨A, c, h, _⟩ := Rs1; exact ⟨A, c, by rw [h, hms1.out]⟩
  have Hs1 := Lib.hid (fun (W : World) (h : Below W4.heap.size W4 W) => (Rs1.below h (Nat.le_refl _)).mono h.size)
  have hs1 := Below.refl W4.heap.size W4
  clear Rs1 owns1
  go_wp2_with fail
  refine (HOs2.out _ _ _ (HX.out _ hX).set (HY.out _ hY).set).mono ?_
  rintro e W5 ⟨vs2, rfl, owns2, hb⟩
  replace hX := hX.trans (hb.mono hX.size)
  replace hY := hY.trans (hb.mono hY.size)
  replace hs1 := hs1.trans (hb.mono hs1.size)
  replace hB := hB.trans (hb.mono hB.size)
  clear hb
  have Rs2 := own_row _ _ rfl vs2 W5 owns2
  obtain ⟨As2, cs2, rfl⟩ : ∃ A c, vs2 = .slice A ms2 c := by obtain ⟨A, c, h, _⟩ := Rs2; exact ⟨A, c, by rw [h, hms2.out]⟩
  have Hs2 := Lib.hid (fun (W : World) (h : Below W5.heap.size W5 W) => (Rs2.below h (Nat.le_refl _)).mono h.size)
  have hs2 := Below.refl W5.heap.size W5
  clear Rs2 owns2
  go_wp2_with fail
  refine (HOs3.out _ _ _ (HX.out _ hX).set (HY.out _ hY).set).mono ?_
  rintro e W6 ⟨vs3, rfl, owns3, hb⟩
  replace hX := hX.trans (hb.mono hX.size)
  replace hY := hY.trans (hb.mono hY.size)
  replace hs1 := hs1.trans (hb.mono hs1.size)
  replace hs2 := hs2.trans (hb.mono hs2.size)
  replace hB := hB.trans (hb.mono hB.size)
  clear hb
  have Rs3 := own_row _ _ rfl vs3 W6 owns3
  obtain ⟨As3, cs3, rfl⟩ : ∃ A c, vs3 = .slice A ms3 c := by obtain ⟨A, c, h, _⟩ := Rs3; exact ⟨A, c, by rw [h, hms3.out]⟩
  have Hs3 := Lib.hid (fun (W : World) (h : Below W6.heap.size W6 W) => (Rs3.below h (Nat.le_refl _)).mono h.size)
  have hs3 := Below.refl W6.heap.size W6
  clear Rs3 owns3
  go_wp2_with fail
  refine (HCn.out _ _ (HX.out _ hX).set).mono ?_
  rintro e W7 ⟨rfl, hb⟩
  replace hX := hX.trans (hb.mono hX.size)
  replace hY := hY.trans (hb.mono hY.size)
  replace hs1 := hs1.trans (hb.mono hs1.size)
  replace hs2 := hs2.trans (hb.mono hs2.size)
  replace hs3 := hs3.trans (hb.mono hs3.size)
  replace hB := hB.trans (hb.mono hB.size)
  clear hb
  go_wp2_with fail
  refine (HSx.out _ _ _ (HX.out _ hX).set (HL.out _ hB)).mono ?_
  rintro e W8 ⟨rfl, hb⟩
  replace hX := hX.trans (hb.mono hX.size)
  replace hY := hY.trans (hb.mono hY.size)
  replace hs1 := hs1.trans (hb.mono hs1.size)
  replace hs2 := hs2.trans (hb.mono hs2.size)
  replace hs3 := hs3.trans (hb.mono hs3.size)
  replace hB := hB.trans (hb.mono hB.size)
  clear hb
  go_wp2_with fail
  refine (HSy.out _ _ _ (HY.out _ hY).set (HM.out _ hB)).mono ?_
  rintro e W9 ⟨rfl, hb⟩
  replace hX := hX.trans (hb.mono hX.size)
  replace hY := hY.trans (hb.mono hY.size)
  replace hs1 := hs1.trans (hb.mono hs1.size)
  replace hs2 := hs2.trans (hb.mono hs2.size)
  replace hs3 := hs3.trans (hb.mono hs3.size)
  replace hB := hB.trans (hb.mono hB.size)
  clear hb
  clear HX hX
  clear HY hY
  go_wp2_with fail
  refine (HQx.out _ _ (HL.out _ hB)).mono ?_
  rintro e W10 ⟨rfl, hb⟩
  replace hs1 := hs1.trans (hb.mono hs1.size)
  replace hs2 := hs2.trans (hb.mono hs2.size)
  replace hs3 := hs3.trans (hb.mono hs3.size)
  replace hB := hB.trans (hb.mono hB.size)
  clear hb
  go_wp2_with fail
  obtain ⟨wo, hwo⟩ : ∃ wo : World, wo = W10 := ⟨_, rfl⟩
  go_loopw [17, 18] (fun s i wr => ∃ (k : Nat) (u : Int), k ≤ na ∧ i = .int .i64 k ∧ s = .int .i64 u ∧ Hid (u = cntL (xs.take k)) ∧ Below wo.heap.size wo wr) (fun _ i _ => na - (intOf i).toNat)
  case atStart => exact ⟨0, 0, Nat.zero_le _, rfl, rfl, Lib.hid rfl, by rw [hwo]; exact Below.refl _ _⟩
  case round =>
    subst hwo
    obtain ⟨k, u, hk, rfl, rfl, hu, hb⟩ := hrel
    replace hs1 := hs1.trans (hb.mono hs1.size)
    replace hs2 := hs2.trans (hb.mono hs2.size)
    replace hs3 := hs3.trans (hb.mono hs3.size)
    replace hB := hB.trans (hb.mono hB.size)
    have hbr := hb
    clear hb
    by_cases hlt : (k : Int) < (na : Int)
    · obtain ⟨p, hp⟩ : ∃ p, xs[k]? = some p := ⟨_, List.getElem?_eq_getElem (by rw [Hna.out]; omega)⟩
      obtain ⟨A', c', hA, hr⟩ := HL.out wr hB
      injection hA with hA1 hA2 hA3
      subst hA1 hA3
      obtain ⟨g, off, rfl, hg, hc⟩ := hr (by rw [Hna.out]; omega)
      obtain ⟨q0, q1⟩ := hc k p hp
      obtain ⟨p1, p2, p3⟩ := vrB_of (HV.out p (List.mem_of_getElem? hp))
      obtain ⟨b1, b2⟩ := cntL_bd (xs.take k) (fun q hq => HV.out q (List.mem_of_mem_take hq))
      have b3 : ((xs.take k).length : Int) ≤ 220 := by rw [List.length_take]; omega
      have hnext : Hid (u + (p.2 - p.1 + 1) = cntL (xs.take (k + 1))) := Lib.hid (by rw [take_snoc'' xs k p hp, cntL_snoc, hu.out])
      rw [← hu.out] at b1 b2
      have b4 : u ≤ 500000000000000000 := by omega
      have w1 : IntKind.i64.wrap (p.2 - p.1) = p.2 - p.1 := IntWalk.i64_in _ (by omega)
      have w2 : IntKind.i64.wrap (p.2 - p.1 + 1) = p.2 - p.1 + 1 := IntWalk.i64_in _ (by omega)
      have w3 : IntKind.i64.wrap (u + (p.2 - p.1 + 1)) = u + (p.2 - p.1 + 1) := IntWalk.i64_in _ (by omega)
      have hk0 : (0 : Int) ≤ (k : Int) := by omega
      have hbr2 := hbr
      clear hc hp hr b2 b3
      go_wp2_with fail
      go_quiet (fail)
      go_wp2_with fail
      go_roundw
      case rel => exact ⟨k + 1, _, by omega, by go_num, rfl, hnext, below_drewN hbr2 _⟩
      case measure => simp [intOf]; omega
    · obtain rfl : k = na := by omega
      have E3 : Hid (u = cntL xs) := Lib.hid (by rw [hu.out, List.take_of_length_le (by rw [Hna.out]; exact Nat.le_refl _)])
      obtain rfl := E3.out
      clear hu E3 hbr
      generalize cntL xs = cnt at *
      go_wp2_with fail
      refine (HQy.out _ _ (HM.out _ hB)).mono ?_
      rintro e W11 ⟨rfl, hb⟩
      replace hs1 := hs1.trans (hb.mono hs1.size)
      replace hs2 := hs2.trans (hb.mono hs2.size)
      replace hs3 := hs3.trans (hb.mono hs3.size)
      replace hB := hB.trans (hb.mono hB.size)
      clear hb
      go_wp2_with fail
      refine (HJs1.out _ _ _ (HL.out _ hB) (HM.out _ hB)).mono ?_
      rintro e W12 ⟨vjs1, rfl, ownjs1, hb⟩
      replace hs1 := hs1.trans (hb.mono hs1.size)
      replace hs2 := hs2.trans (hb.mono hs2.size)
      replace hs3 := hs3.trans (hb.mono hs3.size)
      replace hB := hB.trans (hb.mono hB.size)
      clear hb
      have Rjs1 := own_row _ _ rfl vjs1 W12 ownjs1
      obtain ⟨Ajs1, cjs1, rfl⟩ : ∃ A c, vjs1 = .slice A ms1 c := by obtain ⟨A, c, h, _⟩ := Rjs1; exact ⟨A, c, by rw [h, hms1.out]⟩
      have Hjs1 := Lib.hid (fun (W : World) (h : Below W12.heap.size W12 W) => (Rjs1.below h (Nat.le_refl _)).mono h.size)
      have hjs1 := Below.refl W12.heap.size W12
      clear Rjs1 ownjs1
      go_wp2_with fail
      refine (HJs2.out _ _ _ (HL.out _ hB) (HM.out _ hB)).mono ?_
      rintro e W13 ⟨vjs2, rfl, ownjs2, hb⟩
      replace hs1 := hs1.trans (hb.mono hs1.size)
      replace hs2 := hs2.trans (hb.mono hs2.size)
      replace hs3 := hs3.trans (hb.mono hs3.size)
      replace hjs1 := hjs1.trans (hb.mono hjs1.size)
      replace hB := hB.trans (hb.mono hB.size)
      clear hb
      have Rjs2 := own_row _ _ rfl vjs2 W13 ownjs2
      obtain ⟨Ajs2, cjs2, rfl⟩ : ∃ A c, vjs2 = .slice A ms2 c := by obtain ⟨A, c, h, _⟩ := Rjs2; exact ⟨A, c, by rw [h, hms2.out]⟩
      have Hjs2 := Lib.hid (fun (W : World) (h : Below W13.heap.size W13 W) => (Rjs2.below h (Nat.le_refl _)).mono h.size)
      have hjs2 := Below.refl W13.heap.size W13
      clear Rjs2 ownjs2
      go_wp2_with fail
      refine (HJs3.out _ _ _ (HL.out _ hB) (HM.out _ hB)).mono ?_
      rintro e W14 ⟨vjs3, rfl, ownjs3, hb⟩
      replace hs1 := hs1.trans (hb.mono hs1.size)
      replace hs2 := hs2.trans (hb.mono hs2.size)
      replace hs3 := hs3.trans (hb.mono hs3.size)
      replace hjs1 := hjs1.trans (hb.mono hjs1.size)
      replace hjs2 := hjs2.trans (hb.mono hjs2.size)
      replace hB := hB.trans (hb.mono hB.size)
      clear hb
      have Rjs3 := own_row _ _ rfl vjs3 W14 ownjs3
      obtain ⟨Ajs3, cjs3, rfl⟩ : ∃ A c, vjs3 = .slice A ms3 c := by obtain ⟨A, c, h, _⟩ := Rjs3; exact ⟨A, c, by rw [h, hms3.out]⟩
      have Hjs3 := Lib.hid (fun (W : World) (h : Below W14.heap.size W14 W) => (Rjs3.below h (Nat.le_refl _)).mono h.size)
      have hjs3 := Below.refl W14.heap.size W14
      clear Rjs3 ownjs3
      go_wp2_with fail
      refine (HSs1.out _ _ _ (Hs1.out _ hs1).set (Hjs1.out _ hjs1).set).mono ?_
      rintro e W15 ⟨rfl, hb⟩
      replace hs1 := hs1.trans (hb.mono hs1.size)
      replace hs2 := hs2.trans (hb.mono hs2.size)
      replace hs3 := hs3.trans (hb.mono hs3.size)
      replace hjs1 := hjs1.trans (hb.mono hjs1.size)
      replace hjs2 := hjs2.trans (hb.mono hjs2.size)
      replace hjs3 := hjs3.trans (hb.mono hjs3.size)
      replace hB := hB.trans (hb.mono hB.size)
      clear hb
      clear Hs1 hs1
      clear Hjs1 hjs1
      go_wp2_with fail
      refine (HSs2.out _ _ _ (Hs2.out _ hs2).set (Hjs2.out _ hjs2).set).mono ?_
      rintro e W16 ⟨rfl, hb⟩
      replace hs2 := hs2.trans (hb.mono hs2.size)
      replace hs3 := hs3.trans (hb.mono hs3.size)
      replace hjs2 := hjs2.trans (hb.mono hjs2.size)
      replace hjs3 := hjs3.trans (hb.mono hjs3.size)
      replace hB := hB.trans (hb.mono hB.size)
      clear hb
      clear Hs2 hs2
      clear Hjs2 hjs2
      go_wp2_with fail
      refine (HSs3.out _ _ _ (Hs3.out _ hs3).set (Hjs3.out _ hjs3).set).mono ?_
      rintro e W17 ⟨rfl, hb⟩
      replace hs3 := hs3.trans (hb.mono hs3.size)
      replace hjs3 := hjs3.trans (hb.mono hjs3.size)
      replace hB := hB.trans (hb.mono hB.size)
      clear hb
      clear Hs3 hs3
      clear Hjs3 hjs3
      go_wp2_with fail
      refine (HK.out _).mono ?_
      rintro e W18 ⟨rfl, hb⟩
      replace hB := hB.trans (hb.mono hB.size)
      clear hb
      go_wp2_with fail
      go_ret
      exact ⟨rfl, hB⟩

theorem sets_walk (va vb : Value) (xs ys : List (Int × Int)) (w : World) (hv : ArgAt w va xs) (hu : ArgAt w vb ys) :
    Calls Try.prog 9 #[va, vb] w fun e w' => e = .returned (.bool true) ∧ Below w.heap.size w w' := by
  by_cases hl : xs.length ≤ 220
  · by_cases hm : ys.length ≤ 220
    · by_cases hs : setE xs = 0
      · by_cases ht : setE ys = 0
        · exact sets_c va vb xs ys w hv hu hl hm hs ht
        · exact sets_b va vb xs ys w hv hu hl hm hs ht
      · exact sets_a va vb xs ys w hv hu hl hm hs
    · obtain ⟨A, ca, rfl⟩ := hv.slice
      obtain ⟨B, cb, rfl⟩ := hu.slice
      exact sets_big A B _ _ ca cb w (.inr ⟨by omega, by omega⟩)
  · obtain ⟨A, ca, rfl⟩ := hv.slice
    obtain ⟨B, cb, rfl⟩ := hu.slice
    exact sets_big A B _ _ ca cb w (.inl (by omega))
end Go.Proofs.Ytiibbnbknmeplaa
