/- The walk of the statement on sets widened and narrowed, and on what is nearest. -/
import Derived.Test.YtiibbnbknmeplaaC19
import Derived.Test.YtiibbnbknmeplaaR11
import Derived.Test.YtiibbnbknmeplaaK2
namespace Go.Proofs.Ytiibbnbknmeplaa
open Go.RowKit Go.Lib Go.Shelf
set_option linter.unusedVariables false
set_option linter.unusedSimpArgs false
attribute [local go_sem ↓] Go.wp_at_zero Go.wp_at_succ

theorem ArgAt.below' {w W : World} {v : Value} {xs : List (Int × Int)} (h : ArgAt w v xs) (hb : Below w.heap.size w W) : ArgAt W v xs := by
  rcases h with h | ⟨g, off, c, rfl, hc, hg, hr⟩
  · exact Or.inl h
  · exact Or.inr ⟨g, off, c, rfl, hc, Nat.lt_of_lt_of_le hg hb.size, hr.below hb hg⟩

set_option maxRecDepth 40000 in
set_option maxHeartbeats 2000000 in
theorem nears_big (A : Option Addr) (n c : Nat) (b x : Int) (w : World) (hl : 220 < n) :
    Calls Try.prog 10 #[.slice A n c, .int .i64 b, .int .i64 x] w fun e w' => e = .returned (.bool true) ∧ Below w.heap.size w w' := by
  have HK := Lib.hid known_any
  go_enter Try.func10, Try.ntmps10
  go_wp2_with fail
  refine (HK.out _).mono ?_
  rintro e W1 ⟨rfl, hb⟩
  have hB := hb
  clear hb
  go_wp2_with fail
  go_ret
  exact ⟨rfl, hB⟩

set_option maxRecDepth 40000 in
set_option maxHeartbeats 4000000 in
theorem nears_bad (v : Value) (xs : List (Int × Int)) (b x : Int) (w : World) (hv : ArgAt w v xs) (hl : xs.length ≤ 220) (hs : setE xs ≠ 0) :
    Calls Try.prog 10 #[v, .int .i64 b, .int .i64 x] w fun e w' => e = .returned (.bool true) ∧ Below w.heap.size w w' := by
  obtain ⟨A, c, rfl⟩ : ∃ A c, v = .slice A xs.length c := by
    rcases hv with ⟨⟨A, c, rfl⟩, rfl⟩ | ⟨g, off, c, rfl, _⟩
    · exact ⟨A, c, rfl⟩
    · exact ⟨_, c, rfl⟩
  have HL := Lib.hid (fun (W : World) (h : Below w.heap.size w W) => (hv.row.set.below h (Nat.le_refl _)).mono h.size)
  have HR := Lib.hid (fun (W : World) (h : Below w.heap.size w W) => lRanges_any _ xs (by omega) W (hv.below' h))
  have HW := Lib.hid (fun (u : Value) (W : World) (h : SetAt W.heap.size W u xs) => widen_any u xs b W h)
  have HN := Lib.hid (fun (u : Value) (W : World) (h : SetAt W.heap.size W u xs) => narrow_any u xs b W h)
  have HE := Lib.hid (fun (u : Value) (W : World) (h : RowAt W.heap.size W u xs) => near_any u xs x W h)
  have HS := Lib.hid (fun (u v : Value) (W : World) (h : SetAt W.heap.size W u xs) (k : SetAt W.heap.size W v xs) => lSame_any u v xs (by omega) W h k)
  have HQ := Lib.hid (fun (u : Value) (W : World) (h : SetAt W.heap.size W u xs) => rSet_any u xs W h)
  have HK := Lib.hid known_any
  have e1 : stE xs b = setE xs := if_neg hs
  have e2 : nrE xs x = setE xs := if_neg hs
  have e3 : nrR xs x = 0 := by unfold nrR; rw [e2, if_neg hs]
  rw [e1, if_neg hs] at HW HN
  rw [e2, e3] at HE
  have hne : (setE xs != 0) = true := by simpa using hs
  generalize setE xs = s at *
  clear e1 e2 e3 hs
  clear hv
  generalize xs.length = n at *
  go_enter Try.func10, Try.ntmps10
  go_wp2_with fail
  refine (HR.out _ (Below.refl _ _)).mono ?_
  rintro e W1 ⟨vi, rfl, hri, hb⟩
  have hB := hb
  clear hb
  have HI := Lib.hid (fun (W : World) (h : Below W1.heap.size W1 W) => (hri.below h (Nat.le_refl _)).mono h.size)
  have hI := Below.refl W1.heap.size W1
  clear hri
  go_wp2_with fail
  refine (HW.out _ _ (HI.out _ hI).set).mono ?_
  rintro e W2 ⟨v8, rfl, own8, hb⟩
  replace hI := hI.trans (hb.mono hI.size)
  replace hB := hB.trans (hb.mono hB.size)
  clear hb
  have R8 : RowAt W2.heap.size W2 v8 [] := own_row _ _ rfl v8 W2 own8
  obtain ⟨A8, c8, rfl⟩ : ∃ A c, v8 = .slice A 0 c := by obtain ⟨A, c, h, _⟩ := R8; exact ⟨A, c, (by rw [h]; rfl)⟩
  have H8 := Lib.hid (fun (W : World) (h : Below W2.heap.size W2 W) => (R8.below h (Nat.le_refl _)).mono h.size)
  have h8 := Below.refl W2.heap.size W2
  clear R8 own8
  go_wp2_with fail
  refine (HN.out _ _ (HI.out _ hI).set).mono ?_
  rintro e W3 ⟨v9, rfl, own9, hb⟩
  replace hI := hI.trans (hb.mono hI.size)
  replace h8 := h8.trans (hb.mono h8.size)
  replace hB := hB.trans (hb.mono hB.size)
  clear hb
  have R9 : RowAt W3.heap.size W3 v9 [] := own_row _ _ rfl v9 W3 own9
  obtain ⟨A9, c9, rfl⟩ : ∃ A c, v9 = .slice A 0 c := by obtain ⟨A, c, h, _⟩ := R9; exact ⟨A, c, (by rw [h]; rfl)⟩
  have H9 := Lib.hid (fun (W : World) (h : Below W3.heap.size W3 W) => (R9.below h (Nat.le_refl _)).mono h.size)
  have h9 := Below.refl W3.heap.size W3
  clear R9 own9
  go_wp2_with fail
  refine (HE.out _ _ (HI.out _ hI)).mono ?_
  rintro e W4 ⟨rfl, hb⟩
  replace hI := hI.trans (hb.mono hI.size)
  replace h8 := h8.trans (hb.mono h8.size)
  replace h9 := h9.trans (hb.mono h9.size)
  replace hB := hB.trans (hb.mono hB.size)
  clear hb
  go_wp2_with fail
  refine (HS.out _ _ _ (HI.out _ hI).set (HL.out _ hB)).mono ?_
  rintro e W5 ⟨rfl, hb⟩
  replace hI := hI.trans (hb.mono hI.size)
  replace h8 := h8.trans (hb.mono h8.size)
  replace h9 := h9.trans (hb.mono h9.size)
  replace hB := hB.trans (hb.mono hB.size)
  clear hb
  go_wp2_with fail
  refine (HQ.out _ _ (HL.out _ hB)).mono ?_
  rintro e W6 ⟨rfl, hb⟩
  replace hI := hI.trans (hb.mono hI.size)
  replace h8 := h8.trans (hb.mono h8.size)
  replace h9 := h9.trans (hb.mono h9.size)
  replace hB := hB.trans (hb.mono hB.size)
  clear hb
  go_wp2_with fail
  refine (HK.out _).mono ?_
  rintro e W7 ⟨rfl, hb⟩
  replace hI := hI.trans (hb.mono hI.size)
  replace h8 := h8.trans (hb.mono h8.size)
  replace h9 := h9.trans (hb.mono h9.size)
  replace hB := hB.trans (hb.mono hB.size)
  clear hb
  go_wp2_with fail
  go_ret
  exact ⟨rfl, hB⟩


set_option maxRecDepth 40000 in
set_option maxHeartbeats 4000000 in
theorem nears_an (v : Value) (xs : List (Int × Int)) (b x : Int) (w : World) (hv : ArgAt w v xs) (hl : xs.length ≤ 220) (hs : setE xs = 0) (hx : vnB x = false) (hb : b < 0 ∨ 1000000000000000 < b) :
    Calls Try.prog 10 #[v, .int .i64 b, .int .i64 x] w fun e w' => e = .returned (.bool true) ∧ Below w.heap.size w w' := by
  obtain ⟨A, c, rfl⟩ : ∃ A c, v = .slice A xs.length c := by
    rcases hv with ⟨⟨A, c, rfl⟩, rfl⟩ | ⟨g, off, c, rfl, _⟩
    · exact ⟨A, c, rfl⟩
    · exact ⟨_, c, rfl⟩
  have HL := Lib.hid (fun (W : World) (h : Below w.heap.size w W) => (hv.row.set.below h (Nat.le_refl _)).mono h.size)
  have HR := Lib.hid (fun (W : World) (h : Below w.heap.size w W) => lRanges_any _ xs (by omega) W (hv.below' h))
  have HW := Lib.hid (fun (u : Value) (W : World) (h : SetAt W.heap.size W u xs) => widen_any u xs b W h)
  have HN := Lib.hid (fun (u : Value) (W : World) (h : SetAt W.heap.size W u xs) => narrow_any u xs b W h)
  have HE := Lib.hid (fun (u : Value) (W : World) (h : RowAt W.heap.size W u xs) => near_any u xs x W h)
  have HS := Lib.hid (fun (u v : Value) (W : World) (h : SetAt W.heap.size W u xs) (k : SetAt W.heap.size W v xs) => lSame_any u v xs (by omega) W h k)
  have HQ := Lib.hid (fun (u : Value) (W : World) (h : SetAt W.heap.size W u xs) => rSet_any u xs W h)
  have HK := Lib.hid known_any
  rw [hs] at HQ
  have e2 : nrE xs x = 3 := by unfold nrE; rw [if_pos hs, hx]; rfl
  have e3 : nrR xs x = 0 := by unfold nrR; rw [e2]; rfl
  rw [e2, e3] at HE
  have cx : Hid (∀ w : World, Calls Try.prog 67 #[.int .i64 x, .int .i64 (-1000000000000000), .int .i64 1000000000000000] w fun e w' => e = .returned (.bool false) ∧ w = w') := Lib.hid (fun w => by have h := rIn_any x (-1000000000000000) 1000000000000000 w; rw [show (decide (-1000000000000000 ≤ x) && decide (x ≤ 1000000000000000)) = false from hx] at h; exact h)
  clear e2 e3 hx
  have e1 : stE xs b = 3 := by unfold stE; rw [if_pos hs, if_pos hb]
  rw [e1, if_neg (by decide)] at HW HN
  have cb : Hid (∀ w : World, Calls Try.prog 67 #[.int .i64 b, .int .i64 0, .int .i64 1000000000000000] w fun e w' => e = .returned (.bool false) ∧ w = w') := Lib.hid (fun w => by have h := rIn_any b 0 1000000000000000 w; rw [show (decide (0 ≤ b) && decide (b ≤ 1000000000000000)) = false from by simp; omega] at h; exact h)
  clear e1 hb
  clear hs
  clear hv
  generalize xs.length = n at *
  go_enter Try.func10, Try.ntmps10
  go_wp2_with fail
  refine (HR.out _ (Below.refl _ _)).mono ?_
  rintro e W1 ⟨vi, rfl, hri, hb⟩
  have hB := hb
  clear hb
  have HI := Lib.hid (fun (W : World) (h : Below W1.heap.size W1 W) => (hri.below h (Nat.le_refl _)).mono h.size)
  have hI := Below.refl W1.heap.size W1
  clear hri
  go_wp2_with fail
  refine (HW.out _ _ (HI.out _ hI).set).mono ?_
  rintro e W2 ⟨v8, rfl, own8, hb⟩
  replace hI := hI.trans (hb.mono hI.size)
  replace hB := hB.trans (hb.mono hB.size)
  clear hb
  have R8 : RowAt W2.heap.size W2 v8 [] := own_row _ _ rfl v8 W2 own8
  obtain ⟨A8, c8, rfl⟩ : ∃ A c, v8 = .slice A 0 c := by obtain ⟨A, c, h, _⟩ := R8; exact ⟨A, c, (by rw [h]; rfl)⟩
  have H8 := Lib.hid (fun (W : World) (h : Below W2.heap.size W2 W) => (R8.below h (Nat.le_refl _)).mono h.size)
  have h8 := Below.refl W2.heap.size W2
  clear R8 own8
  go_wp2_with fail
  refine (HN.out _ _ (HI.out _ hI).set).mono ?_
  rintro e W3 ⟨v9, rfl, own9, hb⟩
  replace hI := hI.trans (hb.mono hI.size)
  replace h8 := h8.trans (hb.mono h8.size)
  replace hB := hB.trans (hb.mono hB.size)
  clear hb
  have R9 : RowAt W3.heap.size W3 v9 [] := own_row _ _ rfl v9 W3 own9
  obtain ⟨A9, c9, rfl⟩ : ∃ A c, v9 = .slice A 0 c := by obtain ⟨A, c, h, _⟩ := R9; exact ⟨A, c, (by rw [h]; rfl)⟩
  have H9 := Lib.hid (fun (W : World) (h : Below W3.heap.size W3 W) => (R9.below h (Nat.le_refl _)).mono h.size)
  have h9 := Below.refl W3.heap.size W3
  clear R9 own9
  go_wp2_with fail
  refine (HE.out _ _ (HI.out _ hI)).mono ?_
  rintro e W4 ⟨rfl, hb⟩
  replace hI := hI.trans (hb.mono hI.size)
  replace h8 := h8.trans (hb.mono h8.size)
  replace h9 := h9.trans (hb.mono h9.size)
  replace hB := hB.trans (hb.mono hB.size)
  clear hb
  go_wp2_with fail
  refine (HS.out _ _ _ (HI.out _ hI).set (HL.out _ hB)).mono ?_
  rintro e W5 ⟨rfl, hb⟩
  replace hI := hI.trans (hb.mono hI.size)
  replace h8 := h8.trans (hb.mono h8.size)
  replace h9 := h9.trans (hb.mono h9.size)
  replace hB := hB.trans (hb.mono hB.size)
  clear hb
  go_wp2_with fail
  refine (HQ.out _ _ (HL.out _ hB)).mono ?_
  rintro e W6 ⟨rfl, hb⟩
  replace hI := hI.trans (hb.mono hI.size)
  replace h8 := h8.trans (hb.mono h8.size)
  replace h9 := h9.trans (hb.mono h9.size)
  replace hB := hB.trans (hb.mono hB.size)
  clear hb
  go_wp2_with fail
  refine (cx.out _).mono ?_
  rintro e w' ⟨rfl, rfl⟩
  go_wp2_with fail
  refine (cb.out _).mono ?_
  rintro e w' ⟨rfl, rfl⟩
  go_wp2_with fail
  refine (HK.out _).mono ?_
  rintro e W7 ⟨rfl, hb⟩
  replace hI := hI.trans (hb.mono hI.size)
  replace h8 := h8.trans (hb.mono h8.size)
  replace h9 := h9.trans (hb.mono h9.size)
  replace hB := hB.trans (hb.mono hB.size)
  clear hb
  go_wp2_with fail
  go_ret
  exact ⟨rfl, hB⟩


set_option maxRecDepth 40000 in
set_option maxHeartbeats 4000000 in
theorem nears_ay (v : Value) (xs : List (Int × Int)) (b x : Int) (w : World) (hv : ArgAt w v xs) (hl : xs.length ≤ 220) (hs : setE xs = 0) (hx : vnB x = false) (h1 : 0 ≤ b) (h2 : b ≤ 1000000000000000) :
    Calls Try.prog 10 #[v, .int .i64 b, .int .i64 x] w fun e w' => e = .returned (.bool true) ∧ Below w.heap.size w w' := by
  obtain ⟨A, c, rfl⟩ : ∃ A c, v = .slice A xs.length c := by
    rcases hv with ⟨⟨A, c, rfl⟩, rfl⟩ | ⟨g, off, c, rfl, _⟩
    · exact ⟨A, c, rfl⟩
    · exact ⟨_, c, rfl⟩
  have HL := Lib.hid (fun (W : World) (h : Below w.heap.size w W) => (hv.row.set.below h (Nat.le_refl _)).mono h.size)
  have HR := Lib.hid (fun (W : World) (h : Below w.heap.size w W) => lRanges_any _ xs (by omega) W (hv.below' h))
  have HW := Lib.hid (fun (u : Value) (W : World) (h : SetAt W.heap.size W u xs) => widen_any u xs b W h)
  have HN := Lib.hid (fun (u : Value) (W : World) (h : SetAt W.heap.size W u xs) => narrow_any u xs b W h)
  have HE := Lib.hid (fun (u : Value) (W : World) (h : RowAt W.heap.size W u xs) => near_any u xs x W h)
  have HS := Lib.hid (fun (u v : Value) (W : World) (h : SetAt W.heap.size W u xs) (k : SetAt W.heap.size W v xs) => lSame_any u v xs (by omega) W h k)
  have HQ := Lib.hid (fun (u : Value) (W : World) (h : SetAt W.heap.size W u xs) => rSet_any u xs W h)
  have HK := Lib.hid known_any
  rw [hs] at HQ
  have e2 : nrE xs x = 3 := by unfold nrE; rw [if_pos hs, hx]; rfl
  have e3 : nrR xs x = 0 := by unfold nrR; rw [e2]; rfl
  rw [e2, e3] at HE
  have cx : Hid (∀ w : World, Calls Try.prog 67 #[.int .i64 x, .int .i64 (-1000000000000000), .int .i64 1000000000000000] w fun e w' => e = .returned (.bool false) ∧ w = w') := Lib.hid (fun w => by have h := rIn_any x (-1000000000000000) 1000000000000000 w; rw [show (decide (-1000000000000000 ≤ x) && decide (x ≤ 1000000000000000)) = false from hx] at h; exact h)
  clear e2 e3 hx
  have e1 : stE xs b = 0 := by unfold stE; rw [if_pos hs, if_neg (by omega)]
  rw [e1, if_pos rfl] at HW HN
  have HrW := Lib.hid (fun (u : Value) (W : World) (h : SetAt W.heap.size W u xs) => rWiden_any u xs b hs h1 h2 W h)
  have HrN := Lib.hid (fun (u : Value) (W : World) (h : SetAt W.heap.size W u xs) => rNarrow_any u xs b hs h1 h2 W h)
  have hw8 := widL_len b xs
  have hw9 := nwL_len b xs
  have HSw := Lib.hid (fun (u v : Value) (W : World) (h : SetAt W.heap.size W u (widL b xs)) (k : SetAt W.heap.size W v (widL b xs)) => lSame_any u v (widL b xs) (by omega) W h k)
  have HSn := Lib.hid (fun (u v : Value) (W : World) (h : SetAt W.heap.size W u (nwL b xs)) (k : SetAt W.heap.size W v (nwL b xs)) => lSame_any u v (nwL b xs) (by omega) W h k)
  have cb : Hid (∀ w : World, Calls Try.prog 67 #[.int .i64 b, .int .i64 0, .int .i64 1000000000000000] w fun e w' => e = .returned (.bool true) ∧ w = w') := Lib.hid (fun w => by have h := rIn_any b 0 1000000000000000 w; rw [show (decide (0 ≤ b) && decide (b ≤ 1000000000000000)) = true from by simp; omega] at h; exact h)
  generalize widL b xs = wl at *
  generalize nwL b xs = nl at *
  obtain ⟨m8, hm8⟩ : ∃ m, wl.length = m := ⟨_, rfl⟩
  obtain ⟨m9, hm9⟩ : ∃ m, nl.length = m := ⟨_, rfl⟩
  replace hm8 := Lib.hid hm8
  replace hm9 := Lib.hid hm9
  clear e1 hw8 hw9
  clear hs
  clear hv
  generalize xs.length = n at *
  go_enter Try.func10, Try.ntmps10
  go_wp2_with fail
  refine (HR.out _ (Below.refl _ _)).mono ?_
  rintro e W1 ⟨vi, rfl, hri, hb⟩
  have hB := hb
  clear hb
  have HI := Lib.hid (fun (W : World) (h : Below W1.heap.size W1 W) => (hri.below h (Nat.le_refl _)).mono h.size)
  have hI := Below.refl W1.heap.size W1
  clear hri
  go_wp2_with fail
  refine (HW.out _ _ (HI.out _ hI).set).mono ?_
  rintro e W2 ⟨v8, rfl, own8, hb⟩
  replace hI := hI.trans (hb.mono hI.size)
  replace hB := hB.trans (hb.mono hB.size)
  clear hb
  have R8 : RowAt W2.heap.size W2 v8 wl := own_row _ _ rfl v8 W2 own8
  obtain ⟨A8, c8, rfl⟩ : ∃ A c, v8 = .slice A m8 c := by obtain ⟨A, c, h, _⟩ := R8; exact ⟨A, c, (by rw [h, hm8.out])⟩
  have H8 := Lib.hid (fun (W : World) (h : Below W2.heap.size W2 W) => (R8.below h (Nat.le_refl _)).mono h.size)
  have h8 := Below.refl W2.heap.size W2
  clear R8 own8
  go_wp2_with fail
  refine (HN.out _ _ (HI.out _ hI).set).mono ?_
  rintro e W3 ⟨v9, rfl, own9, hb⟩
  replace hI := hI.trans (hb.mono hI.size)
  replace h8 := h8.trans (hb.mono h8.size)
  replace hB := hB.trans (hb.mono hB.size)
  clear hb
  have R9 : RowAt W3.heap.size W3 v9 nl := own_row _ _ rfl v9 W3 own9
  obtain ⟨A9, c9, rfl⟩ : ∃ A c, v9 = .slice A m9 c := by obtain ⟨A, c, h, _⟩ := R9; exact ⟨A, c, (by rw [h, hm9.out])⟩
  have H9 := Lib.hid (fun (W : World) (h : Below W3.heap.size W3 W) => (R9.below h (Nat.le_refl _)).mono h.size)
  have h9 := Below.refl W3.heap.size W3
  clear R9 own9
  go_wp2_with fail
  refine (HE.out _ _ (HI.out _ hI)).mono ?_
  rintro e W4 ⟨rfl, hb⟩
  replace hI := hI.trans (hb.mono hI.size)
  replace h8 := h8.trans (hb.mono h8.size)
  replace h9 := h9.trans (hb.mono h9.size)
  replace hB := hB.trans (hb.mono hB.size)
  clear hb
  go_wp2_with fail
  refine (HS.out _ _ _ (HI.out _ hI).set (HL.out _ hB)).mono ?_
  rintro e W5 ⟨rfl, hb⟩
  replace hI := hI.trans (hb.mono hI.size)
  replace h8 := h8.trans (hb.mono h8.size)
  replace h9 := h9.trans (hb.mono h9.size)
  replace hB := hB.trans (hb.mono hB.size)
  clear hb
  go_wp2_with fail
  refine (HQ.out _ _ (HL.out _ hB)).mono ?_
  rintro e W6 ⟨rfl, hb⟩
  replace hI := hI.trans (hb.mono hI.size)
  replace h8 := h8.trans (hb.mono h8.size)
  replace h9 := h9.trans (hb.mono h9.size)
  replace hB := hB.trans (hb.mono hB.size)
  clear hb
  go_wp2_with fail
  refine (cx.out _).mono ?_
  rintro e w' ⟨rfl, rfl⟩
  go_wp2_with fail
  refine (cb.out _).mono ?_
  rintro e w' ⟨rfl, rfl⟩
  go_wp2_with fail
  refine (HrW.out _ _ (HL.out _ hB)).mono ?_
  rintro e W7 ⟨v6, rfl, own6, hb⟩
  replace hI := hI.trans (hb.mono hI.size)
  replace h8 := h8.trans (hb.mono h8.size)
  replace h9 := h9.trans (hb.mono h9.size)
  replace hB := hB.trans (hb.mono hB.size)
  clear hb
  have R6 := (own_row _ _ rfl v6 W7 own6).set
  clear own6
  go_wp2_with fail
  refine (HSw.out _ _ _ (H8.out _ h8).set R6).mono ?_
  rintro e W8 ⟨rfl, hb⟩
  replace hI := hI.trans (hb.mono hI.size)
  replace h8 := h8.trans (hb.mono h8.size)
  replace h9 := h9.trans (hb.mono h9.size)
  replace hB := hB.trans (hb.mono hB.size)
  clear hb
  clear R6
  go_wp2_with fail
  refine (HrN.out _ _ (HL.out _ hB)).mono ?_
  rintro e W9 ⟨v5, rfl, own5, hb⟩
  replace hI := hI.trans (hb.mono hI.size)
  replace h8 := h8.trans (hb.mono h8.size)
  replace h9 := h9.trans (hb.mono h9.size)
  replace hB := hB.trans (hb.mono hB.size)
  clear hb
  have R5 := (own_row _ _ rfl v5 W9 own5).set
  clear own5
  go_wp2_with fail
  refine (HSn.out _ _ _ (H9.out _ h9).set R5).mono ?_
  rintro e W10 ⟨rfl, hb⟩
  replace hI := hI.trans (hb.mono hI.size)
  replace h8 := h8.trans (hb.mono h8.size)
  replace h9 := h9.trans (hb.mono h9.size)
  replace hB := hB.trans (hb.mono hB.size)
  clear hb
  clear R5
  go_wp2_with fail
  refine (HK.out _).mono ?_
  rintro e W11 ⟨rfl, hb⟩
  replace hI := hI.trans (hb.mono hI.size)
  replace h8 := h8.trans (hb.mono h8.size)
  replace h9 := h9.trans (hb.mono h9.size)
  replace hB := hB.trans (hb.mono hB.size)
  clear hb
  go_wp2_with fail
  go_ret
  exact ⟨rfl, hB⟩


set_option maxRecDepth 40000 in
set_option maxHeartbeats 4000000 in
theorem nears_bn (v : Value) (xs : List (Int × Int)) (b x : Int) (w : World) (hv : ArgAt w v xs) (hl : xs.length ≤ 220) (hs : setE xs = 0) (hx : vnB x = true) (h0 : xs.length = 0) (hb : b < 0 ∨ 1000000000000000 < b) :
    Calls Try.prog 10 #[v, .int .i64 b, .int .i64 x] w fun e w' => e = .returned (.bool true) ∧ Below w.heap.size w w' := by
  obtain ⟨A, c, rfl⟩ : ∃ A c, v = .slice A xs.length c := by
    rcases hv with ⟨⟨A, c, rfl⟩, rfl⟩ | ⟨g, off, c, rfl, _⟩
    · exact ⟨A, c, rfl⟩
    · exact ⟨_, c, rfl⟩
  have HL := Lib.hid (fun (W : World) (h : Below w.heap.size w W) => (hv.row.set.below h (Nat.le_refl _)).mono h.size)
  have HR := Lib.hid (fun (W : World) (h : Below w.heap.size w W) => lRanges_any _ xs (by omega) W (hv.below' h))
  have HW := Lib.hid (fun (u : Value) (W : World) (h : SetAt W.heap.size W u xs) => widen_any u xs b W h)
  have HN := Lib.hid (fun (u : Value) (W : World) (h : SetAt W.heap.size W u xs) => narrow_any u xs b W h)
  have HE := Lib.hid (fun (u : Value) (W : World) (h : RowAt W.heap.size W u xs) => near_any u xs x W h)
  have HS := Lib.hid (fun (u v : Value) (W : World) (h : SetAt W.heap.size W u xs) (k : SetAt W.heap.size W v xs) => lSame_any u v xs (by omega) W h k)
  have HQ := Lib.hid (fun (u : Value) (W : World) (h : SetAt W.heap.size W u xs) => rSet_any u xs W h)
  have HK := Lib.hid known_any
  rw [hs] at HQ
  have cx : Hid (∀ w : World, Calls Try.prog 67 #[.int .i64 x, .int .i64 (-1000000000000000), .int .i64 1000000000000000] w fun e w' => e = .returned (.bool true) ∧ w = w') := Lib.hid (fun w => by have h := rIn_any x (-1000000000000000) 1000000000000000 w; rw [show (decide (-1000000000000000 ≤ x) && decide (x ≤ 1000000000000000)) = true from hx] at h; exact h)
  have e2 : nrE xs x = 7 := by unfold nrE; rw [if_pos hs, hx, if_pos rfl, if_pos h0]
  have e3 : nrR xs x = 0 := by unfold nrR; rw [e2]; rfl
  rw [e2, e3] at HE
  clear e2 e3 hx
  have e1 : stE xs b = 3 := by unfold stE; rw [if_pos hs, if_pos hb]
  rw [e1, if_neg (by decide)] at HW HN
  have cb : Hid (∀ w : World, Calls Try.prog 67 #[.int .i64 b, .int .i64 0, .int .i64 1000000000000000] w fun e w' => e = .returned (.bool false) ∧ w = w') := Lib.hid (fun w => by have h := rIn_any b 0 1000000000000000 w; rw [show (decide (0 ≤ b) && decide (b ≤ 1000000000000000)) = false from by simp; omega] at h; exact h)
  clear e1 hb
  clear hs
  clear hv
  generalize xs.length = n at *
  subst h0
  go_enter Try.func10, Try.ntmps10
  go_wp2_with fail
  refine (HR.out _ (Below.refl _ _)).mono ?_
  rintro e W1 ⟨vi, rfl, hri, hb⟩
  have hB := hb
  clear hb
  have HI := Lib.hid (fun (W : World) (h : Below W1.heap.size W1 W) => (hri.below h (Nat.le_refl _)).mono h.size)
  have hI := Below.refl W1.heap.size W1
  clear hri
  go_wp2_with fail
  refine (HW.out _ _ (HI.out _ hI).set).mono ?_
  rintro e W2 ⟨v8, rfl, own8, hb⟩
  replace hI := hI.trans (hb.mono hI.size)
  replace hB := hB.trans (hb.mono hB.size)
  clear hb
  have R8 : RowAt W2.heap.size W2 v8 [] := own_row _ _ rfl v8 W2 own8
  obtain ⟨A8, c8, rfl⟩ : ∃ A c, v8 = .slice A 0 c := by obtain ⟨A, c, h, _⟩ := R8; exact ⟨A, c, (by rw [h]; rfl)⟩
  have H8 := Lib.hid (fun (W : World) (h : Below W2.heap.size W2 W) => (R8.below h (Nat.le_refl _)).mono h.size)
  have h8 := Below.refl W2.heap.size W2
  clear R8 own8
  go_wp2_with fail
  refine (HN.out _ _ (HI.out _ hI).set).mono ?_
  rintro e W3 ⟨v9, rfl, own9, hb⟩
  replace hI := hI.trans (hb.mono hI.size)
  replace h8 := h8.trans (hb.mono h8.size)
  replace hB := hB.trans (hb.mono hB.size)
  clear hb
  have R9 : RowAt W3.heap.size W3 v9 [] := own_row _ _ rfl v9 W3 own9
  obtain ⟨A9, c9, rfl⟩ : ∃ A c, v9 = .slice A 0 c := by obtain ⟨A, c, h, _⟩ := R9; exact ⟨A, c, (by rw [h]; rfl)⟩
  have H9 := Lib.hid (fun (W : World) (h : Below W3.heap.size W3 W) => (R9.below h (Nat.le_refl _)).mono h.size)
  have h9 := Below.refl W3.heap.size W3
  clear R9 own9
  go_wp2_with fail
  refine (HE.out _ _ (HI.out _ hI)).mono ?_
  rintro e W4 ⟨rfl, hb⟩
  replace hI := hI.trans (hb.mono hI.size)
  replace h8 := h8.trans (hb.mono h8.size)
  replace h9 := h9.trans (hb.mono h9.size)
  replace hB := hB.trans (hb.mono hB.size)
  clear hb
  go_wp2_with fail
  refine (HS.out _ _ _ (HI.out _ hI).set (HL.out _ hB)).mono ?_
  rintro e W5 ⟨rfl, hb⟩
  replace hI := hI.trans (hb.mono hI.size)
  replace h8 := h8.trans (hb.mono h8.size)
  replace h9 := h9.trans (hb.mono h9.size)
  replace hB := hB.trans (hb.mono hB.size)
  clear hb
  go_wp2_with fail
  refine (HQ.out _ _ (HL.out _ hB)).mono ?_
  rintro e W6 ⟨rfl, hb⟩
  replace hI := hI.trans (hb.mono hI.size)
  replace h8 := h8.trans (hb.mono h8.size)
  replace h9 := h9.trans (hb.mono h9.size)
  replace hB := hB.trans (hb.mono hB.size)
  clear hb
  go_wp2_with fail
  refine (cx.out _).mono ?_
  rintro e w' ⟨rfl, rfl⟩
  go_wp2_with fail
  refine (cb.out _).mono ?_
  rintro e w' ⟨rfl, rfl⟩
  go_wp2_with fail
  refine (HK.out _).mono ?_
  rintro e W7 ⟨rfl, hb⟩
  replace hI := hI.trans (hb.mono hI.size)
  replace h8 := h8.trans (hb.mono h8.size)
  replace h9 := h9.trans (hb.mono h9.size)
  replace hB := hB.trans (hb.mono hB.size)
  clear hb
  go_wp2_with fail
  go_ret
  exact ⟨rfl, hB⟩


set_option maxRecDepth 40000 in
set_option maxHeartbeats 4000000 in
theorem nears_by (v : Value) (xs : List (Int × Int)) (b x : Int) (w : World) (hv : ArgAt w v xs) (hl : xs.length ≤ 220) (hs : setE xs = 0) (hx : vnB x = true) (h0 : xs.length = 0) (h1 : 0 ≤ b) (h2 : b ≤ 1000000000000000) :
    Calls Try.prog 10 #[v, .int .i64 b, .int .i64 x] w fun e w' => e = .returned (.bool true) ∧ Below w.heap.size w w' := by
  obtain ⟨A, c, rfl⟩ : ∃ A c, v = .slice A xs.length c := by
    rcases hv with ⟨⟨A, c, rfl⟩, rfl⟩ | ⟨g, off, c, rfl, _⟩
    · exact ⟨A, c, rfl⟩
    · exact ⟨_, c, rfl⟩
  have HL := Lib.hid (fun (W : World) (h : Below w.heap.size w W) => (hv.row.set.below h (Nat.le_refl _)).mono h.size)
  have HR := Lib.hid (fun (W : World) (h : Below w.heap.size w W) => lRanges_any _ xs (by omega) W (hv.below' h))
  have HW := Lib.hid (fun (u : Value) (W : World) (h : SetAt W.heap.size W u xs) => widen_any u xs b W h)
  have HN := Lib.hid (fun (u : Value) (W : World) (h : SetAt W.heap.size W u xs) => narrow_any u xs b W h)
  have HE := Lib.hid (fun (u : Value) (W : World) (h : RowAt W.heap.size W u xs) => near_any u xs x W h)
  have HS := Lib.hid (fun (u v : Value) (W : World) (h : SetAt W.heap.size W u xs) (k : SetAt W.heap.size W v xs) => lSame_any u v xs (by omega) W h k)
  have HQ := Lib.hid (fun (u : Value) (W : World) (h : SetAt W.heap.size W u xs) => rSet_any u xs W h)
  have HK := Lib.hid known_any
  rw [hs] at HQ
  have cx : Hid (∀ w : World, Calls Try.prog 67 #[.int .i64 x, .int .i64 (-1000000000000000), .int .i64 1000000000000000] w fun e w' => e = .returned (.bool true) ∧ w = w') := Lib.hid (fun w => by have h := rIn_any x (-1000000000000000) 1000000000000000 w; rw [show (decide (-1000000000000000 ≤ x) && decide (x ≤ 1000000000000000)) = true from hx] at h; exact h)
  have e2 : nrE xs x = 7 := by unfold nrE; rw [if_pos hs, hx, if_pos rfl, if_pos h0]
  have e3 : nrR xs x = 0 := by unfold nrR; rw [e2]; rfl
  rw [e2, e3] at HE
  clear e2 e3 hx
  have e1 : stE xs b = 0 := by unfold stE; rw [if_pos hs, if_neg (by omega)]
  rw [e1, if_pos rfl] at HW HN
  have HrW := Lib.hid (fun (u : Value) (W : World) (h : SetAt W.heap.size W u xs) => rWiden_any u xs b hs h1 h2 W h)
  have HrN := Lib.hid (fun (u : Value) (W : World) (h : SetAt W.heap.size W u xs) => rNarrow_any u xs b hs h1 h2 W h)
  have hw8 := widL_len b xs
  have hw9 := nwL_len b xs
  have HSw := Lib.hid (fun (u v : Value) (W : World) (h : SetAt W.heap.size W u (widL b xs)) (k : SetAt W.heap.size W v (widL b xs)) => lSame_any u v (widL b xs) (by omega) W h k)
  have HSn := Lib.hid (fun (u v : Value) (W : World) (h : SetAt W.heap.size W u (nwL b xs)) (k : SetAt W.heap.size W v (nwL b xs)) => lSame_any u v (nwL b xs) (by omega) W h k)
  have cb : Hid (∀ w : World, Calls Try.prog 67 #[.int .i64 b, .int .i64 0, .int .i64 1000000000000000] w fun e w' => e = .returned (.bool true) ∧ w = w') := Lib.hid (fun w => by have h := rIn_any b 0 1000000000000000 w; rw [show (decide (0 ≤ b) && decide (b ≤ 1000000000000000)) = true from by simp; omega] at h; exact h)
  generalize widL b xs = wl at *
  generalize nwL b xs = nl at *
  obtain ⟨m8, hm8⟩ : ∃ m, wl.length = m := ⟨_, rfl⟩
  obtain ⟨m9, hm9⟩ : ∃ m, nl.length = m := ⟨_, rfl⟩
  replace hm8 := Lib.hid hm8
  replace hm9 := Lib.hid hm9
  clear e1 hw8 hw9
  clear hs
  clear hv
  generalize xs.length = n at *
  subst h0
  go_enter Try.func10, Try.ntmps10
  go_wp2_with fail
  refine (HR.out _ (Below.refl _ _)).mono ?_
  rintro e W1 ⟨vi, rfl, hri, hb⟩
  have hB := hb
  clear hb
  have HI := Lib.hid (fun (W : World) (h : Below W1.heap.size W1 W) => (hri.below h (Nat.le_refl _)).mono h.size)
  have hI := Below.refl W1.heap.size W1
  clear hri
  go_wp2_with fail
  refine (HW.out _ _ (HI.out _ hI).set).mono ?_
  rintro e W2 ⟨v8, rfl, own8, hb⟩
  replace hI := hI.trans (hb.mono hI.size)
  replace hB := hB.trans (hb.mono hB.size)
  clear hb
  have R8 : RowAt W2.heap.size W2 v8 wl := own_row _ _ rfl v8 W2 own8
  obtain ⟨A8, c8, rfl⟩ : ∃ A c, v8 = .slice A m8 c := by obtain ⟨A, c, h, _⟩ := R8; exact ⟨A, c, (by rw [h, hm8.out])⟩
  have H8 := Lib.hid (fun (W : World) (h : Below W2.heap.size W2 W) => (R8.below h (Nat.le_refl _)).mono h.size)
  have h8 := Below.refl W2.heap.size W2
  clear R8 own8
  go_wp2_with fail
  refine (HN.out _ _ (HI.out _ hI).set).mono ?_
  rintro e W3 ⟨v9, rfl, own9, hb⟩
  replace hI := hI.trans (hb.mono hI.size)
  replace h8 := h8.trans (hb.mono h8.size)
  replace hB := hB.trans (hb.mono hB.size)
  clear hb
  have R9 : RowAt W3.heap.size W3 v9 nl := own_row _ _ rfl v9 W3 own9
  obtain ⟨A9, c9, rfl⟩ : ∃ A c, v9 = .slice A m9 c := by obtain ⟨A, c, h, _⟩ := R9; exact ⟨A, c, (by rw [h, hm9.out])⟩
  have H9 := Lib.hid (fun (W : World) (h : Below W3.heap.size W3 W) => (R9.below h (Nat.le_refl _)).mono h.size)
  have h9 := Below.refl W3.heap.size W3
  clear R9 own9
  go_wp2_with fail
  refine (HE.out _ _ (HI.out _ hI)).mono ?_
  rintro e W4 ⟨rfl, hb⟩
  replace hI := hI.trans (hb.mono hI.size)
  replace h8 := h8.trans (hb.mono h8.size)
  replace h9 := h9.trans (hb.mono h9.size)
  replace hB := hB.trans (hb.mono hB.size)
  clear hb
  go_wp2_with fail
  refine (HS.out _ _ _ (HI.out _ hI).set (HL.out _ hB)).mono ?_
  rintro e W5 ⟨rfl, hb⟩
  replace hI := hI.trans (hb.mono hI.size)
  replace h8 := h8.trans (hb.mono h8.size)
  replace h9 := h9.trans (hb.mono h9.size)
  replace hB := hB.trans (hb.mono hB.size)
  clear hb
  go_wp2_with fail
  refine (HQ.out _ _ (HL.out _ hB)).mono ?_
  rintro e W6 ⟨rfl, hb⟩
  replace hI := hI.trans (hb.mono hI.size)
  replace h8 := h8.trans (hb.mono h8.size)
  replace h9 := h9.trans (hb.mono h9.size)
  replace hB := hB.trans (hb.mono hB.size)
  clear hb
  go_wp2_with fail
  refine (cx.out _).mono ?_
  rintro e w' ⟨rfl, rfl⟩
  go_wp2_with fail
  refine (cb.out _).mono ?_
  rintro e w' ⟨rfl, rfl⟩
  go_wp2_with fail
  refine (HrW.out _ _ (HL.out _ hB)).mono ?_
  rintro e W7 ⟨v6, rfl, own6, hb⟩
  replace hI := hI.trans (hb.mono hI.size)
  replace h8 := h8.trans (hb.mono h8.size)
  replace h9 := h9.trans (hb.mono h9.size)
  replace hB := hB.trans (hb.mono hB.size)
  clear hb
  have R6 := (own_row _ _ rfl v6 W7 own6).set
  clear own6
  go_wp2_with fail
  refine (HSw.out _ _ _ (H8.out _ h8).set R6).mono ?_
  rintro e W8 ⟨rfl, hb⟩
  replace hI := hI.trans (hb.mono hI.size)
  replace h8 := h8.trans (hb.mono h8.size)
  replace h9 := h9.trans (hb.mono h9.size)
  replace hB := hB.trans (hb.mono hB.size)
  clear hb
  clear R6
  go_wp2_with fail
  refine (HrN.out _ _ (HL.out _ hB)).mono ?_
  rintro e W9 ⟨v5, rfl, own5, hb⟩
  replace hI := hI.trans (hb.mono hI.size)
  replace h8 := h8.trans (hb.mono h8.size)
  replace h9 := h9.trans (hb.mono h9.size)
  replace hB := hB.trans (hb.mono hB.size)
  clear hb
  have R5 := (own_row _ _ rfl v5 W9 own5).set
  clear own5
  go_wp2_with fail
  refine (HSn.out _ _ _ (H9.out _ h9).set R5).mono ?_
  rintro e W10 ⟨rfl, hb⟩
  replace hI := hI.trans (hb.mono hI.size)
  replace h8 := h8.trans (hb.mono h8.size)
  replace h9 := h9.trans (hb.mono h9.size)
  replace hB := hB.trans (hb.mono hB.size)
  clear hb
  clear R5
  go_wp2_with fail
  refine (HK.out _).mono ?_
  rintro e W11 ⟨rfl, hb⟩
  replace hI := hI.trans (hb.mono hI.size)
  replace h8 := h8.trans (hb.mono h8.size)
  replace h9 := h9.trans (hb.mono h9.size)
  replace hB := hB.trans (hb.mono hB.size)
  clear hb
  go_wp2_with fail
  go_ret
  exact ⟨rfl, hB⟩


set_option maxRecDepth 40000 in
set_option maxHeartbeats 4000000 in
theorem nears_cn (v : Value) (xs : List (Int × Int)) (b x : Int) (w : World) (hv : ArgAt w v xs) (hl : xs.length ≤ 220) (hs : setE xs = 0) (hx : vnB x = true) (h0 : xs.length ≠ 0) (hb : b < 0 ∨ 1000000000000000 < b) :
    Calls Try.prog 10 #[v, .int .i64 b, .int .i64 x] w fun e w' => e = .returned (.bool true) ∧ Below w.heap.size w w' := by
  obtain ⟨A, c, rfl⟩ : ∃ A c, v = .slice A xs.length c := by
    rcases hv with ⟨⟨A, c, rfl⟩, rfl⟩ | ⟨g, off, c, rfl, _⟩
    · exact ⟨A, c, rfl⟩
    · exact ⟨_, c, rfl⟩
  have HL := Lib.hid (fun (W : World) (h : Below w.heap.size w W) => (hv.row.set.below h (Nat.le_refl _)).mono h.size)
  have HR := Lib.hid (fun (W : World) (h : Below w.heap.size w W) => lRanges_any _ xs (by omega) W (hv.below' h))
  have HW := Lib.hid (fun (u : Value) (W : World) (h : SetAt W.heap.size W u xs) => widen_any u xs b W h)
  have HN := Lib.hid (fun (u : Value) (W : World) (h : SetAt W.heap.size W u xs) => narrow_any u xs b W h)
  have HE := Lib.hid (fun (u : Value) (W : World) (h : RowAt W.heap.size W u xs) => near_any u xs x W h)
  have HS := Lib.hid (fun (u v : Value) (W : World) (h : SetAt W.heap.size W u xs) (k : SetAt W.heap.size W v xs) => lSame_any u v xs (by omega) W h k)
  have HQ := Lib.hid (fun (u : Value) (W : World) (h : SetAt W.heap.size W u xs) => rSet_any u xs W h)
  have HK := Lib.hid known_any
  rw [hs] at HQ
  have cx : Hid (∀ w : World, Calls Try.prog 67 #[.int .i64 x, .int .i64 (-1000000000000000), .int .i64 1000000000000000] w fun e w' => e = .returned (.bool true) ∧ w = w') := Lib.hid (fun w => by have h := rIn_any x (-1000000000000000) 1000000000000000 w; rw [show (decide (-1000000000000000 ≤ x) && decide (x ≤ 1000000000000000)) = true from hx] at h; exact h)
  have e2 : nrE xs x = 0 := by unfold nrE; rw [if_pos hs, hx, if_pos rfl, if_neg h0]
  have e3 : nrR xs x = nrV x xs := by unfold nrR; rw [if_pos e2]
  rw [e2, e3] at HE
  have HP := Lib.hid (fun (u : Value) (W : World) (h : SetAt W.heap.size W u xs) => rNear_any u xs x hs hx W h)
  generalize nrV x xs = nv at *
  clear e2 e3 hx
  have e1 : stE xs b = 3 := by unfold stE; rw [if_pos hs, if_pos hb]
  rw [e1, if_neg (by decide)] at HW HN
  have cb : Hid (∀ w : World, Calls Try.prog 67 #[.int .i64 b, .int .i64 0, .int .i64 1000000000000000] w fun e w' => e = .returned (.bool false) ∧ w = w') := Lib.hid (fun w => by have h := rIn_any b 0 1000000000000000 w; rw [show (decide (0 ≤ b) && decide (b ≤ 1000000000000000)) = false from by simp; omega] at h; exact h)
  clear e1 hb
  clear hs
  clear hv
  generalize xs.length = n at *
  have hnb : ((n : Int) == 0) = false := by simp; omega
  clear h0
  go_enter Try.func10, Try.ntmps10
  go_wp2_with fail
  refine (HR.out _ (Below.refl _ _)).mono ?_
  rintro e W1 ⟨vi, rfl, hri, hb⟩
  have hB := hb
  clear hb
  have HI := Lib.hid (fun (W : World) (h : Below W1.heap.size W1 W) => (hri.below h (Nat.le_refl _)).mono h.size)
  have hI := Below.refl W1.heap.size W1
  clear hri
  go_wp2_with fail
  refine (HW.out _ _ (HI.out _ hI).set).mono ?_
  rintro e W2 ⟨v8, rfl, own8, hb⟩
  replace hI := hI.trans (hb.mono hI.size)
  replace hB := hB.trans (hb.mono hB.size)
  clear hb
  have R8 : RowAt W2.heap.size W2 v8 [] := own_row _ _ rfl v8 W2 own8
  obtain ⟨A8, c8, rfl⟩ : ∃ A c, v8 = .slice A 0 c := by obtain ⟨A, c, h, _⟩ := R8; exact ⟨A, c, (by rw [h]; rfl)⟩
  have H8 := Lib.hid (fun (W : World) (h : Below W2.heap.size W2 W) => (R8.below h (Nat.le_refl _)).mono h.size)
  have h8 := Below.refl W2.heap.size W2
  clear R8 own8
  go_wp2_with fail
  refine (HN.out _ _ (HI.out _ hI).set).mono ?_
  rintro e W3 ⟨v9, rfl, own9, hb⟩
  replace hI := hI.trans (hb.mono hI.size)
  replace h8 := h8.trans (hb.mono h8.size)
  replace hB := hB.trans (hb.mono hB.size)
  clear hb
  have R9 : RowAt W3.heap.size W3 v9 [] := own_row _ _ rfl v9 W3 own9
  obtain ⟨A9, c9, rfl⟩ : ∃ A c, v9 = .slice A 0 c := by obtain ⟨A, c, h, _⟩ := R9; exact ⟨A, c, (by rw [h]; rfl)⟩
  have H9 := Lib.hid (fun (W : World) (h : Below W3.heap.size W3 W) => (R9.below h (Nat.le_refl _)).mono h.size)
  have h9 := Below.refl W3.heap.size W3
  clear R9 own9
  go_wp2_with fail
  refine (HE.out _ _ (HI.out _ hI)).mono ?_
  rintro e W4 ⟨rfl, hb⟩
  replace hI := hI.trans (hb.mono hI.size)
  replace h8 := h8.trans (hb.mono h8.size)
  replace h9 := h9.trans (hb.mono h9.size)
  replace hB := hB.trans (hb.mono hB.size)
  clear hb
  go_wp2_with fail
  refine (HS.out _ _ _ (HI.out _ hI).set (HL.out _ hB)).mono ?_
  rintro e W5 ⟨rfl, hb⟩
  replace hI := hI.trans (hb.mono hI.size)
  replace h8 := h8.trans (hb.mono h8.size)
  replace h9 := h9.trans (hb.mono h9.size)
  replace hB := hB.trans (hb.mono hB.size)
  clear hb
  go_wp2_with fail
  refine (HQ.out _ _ (HL.out _ hB)).mono ?_
  rintro e W6 ⟨rfl, hb⟩
  replace hI := hI.trans (hb.mono hI.size)
  replace h8 := h8.trans (hb.mono h8.size)
  replace h9 := h9.trans (hb.mono h9.size)
  replace hB := hB.trans (hb.mono hB.size)
  clear hb
  go_wp2_with fail
  refine (cx.out _).mono ?_
  rintro e w' ⟨rfl, rfl⟩
  go_wp2_with fail
  refine (HP.out _ _ (HL.out _ hB)).mono ?_
  rintro e W7 ⟨rfl, hb⟩
  replace hI := hI.trans (hb.mono hI.size)
  replace h8 := h8.trans (hb.mono h8.size)
  replace h9 := h9.trans (hb.mono h9.size)
  replace hB := hB.trans (hb.mono hB.size)
  clear hb
  go_wp2_with fail
  refine (cb.out _).mono ?_
  rintro e w' ⟨rfl, rfl⟩
  go_wp2_with fail
  refine (HK.out _).mono ?_
  rintro e W8 ⟨rfl, hb⟩
  replace hI := hI.trans (hb.mono hI.size)
  replace h8 := h8.trans (hb.mono h8.size)
  replace h9 := h9.trans (hb.mono h9.size)
  replace hB := hB.trans (hb.mono hB.size)
  clear hb
  go_wp2_with fail
  go_ret
  exact ⟨rfl, hB⟩


set_option maxRecDepth 40000 in
set_option maxHeartbeats 4000000 in
theorem nears_cy (v : Value) (xs : List (Int × Int)) (b x : Int) (w : World) (hv : ArgAt w v xs) (hl : xs.length ≤ 220) (hs : setE xs = 0) (hx : vnB x = true) (h0 : xs.length ≠ 0) (h1 : 0 ≤ b) (h2 : b ≤ 1000000000000000) :
    Calls Try.prog 10 #[v, .int .i64 b, .int .i64 x] w fun e w' => e = .returned (.bool true) ∧ Below w.heap.size w w' := by
  obtain ⟨A, c, rfl⟩ : ∃ A c, v = .slice A xs.length c := by
    rcases hv with ⟨⟨A, c, rfl⟩, rfl⟩ | ⟨g, off, c, rfl, _⟩
    · exact ⟨A, c, rfl⟩
    · exact ⟨_, c, rfl⟩
  have HL := Lib.hid (fun (W : World) (h : Below w.heap.size w W) => (hv.row.set.below h (Nat.le_refl _)).mono h.size)
  have HR := Lib.hid (fun (W : World) (h : Below w.heap.size w W) => lRanges_any _ xs (by omega) W (hv.below' h))
  have HW := Lib.hid (fun (u : Value) (W : World) (h : SetAt W.heap.size W u xs) => widen_any u xs b W h)
  have HN := Lib.hid (fun (u : Value) (W : World) (h : SetAt W.heap.size W u xs) => narrow_any u xs b W h)
  have HE := Lib.hid (fun (u : Value) (W : World) (h : RowAt W.heap.size W u xs) => near_any u xs x W h)
  have HS := Lib.hid (fun (u v : Value) (W : World) (h : SetAt W.heap.size W u xs) (k : SetAt W.heap.size W v xs) => lSame_any u v xs (by omega) W h k)
  have HQ := Lib.hid (fun (u : Value) (W : World) (h : SetAt W.heap.size W u xs) => rSet_any u xs W h)
  have HK := Lib.hid known_any
  rw [hs] at HQ
  have cx : Hid (∀ w : World, Calls Try.prog 67 #[.int .i64 x, .int .i64 (-1000000000000000), .int .i64 1000000000000000] w fun e w' => e = .returned (.bool true) ∧ w = w') := Lib.hid (fun w => by have h := rIn_any x (-1000000000000000) 1000000000000000 w; rw [show (decide (-1000000000000000 ≤ x) && decide (x ≤ 1000000000000000)) = true from hx] at h; exact h)
  have e2 : nrE xs x = 0 := by unfold nrE; rw [if_pos hs, hx, if_pos rfl, if_neg h0]
  have e3 : nrR xs x = nrV x xs := by unfold nrR; rw [if_pos e2]
  rw [e2, e3] at HE
  have HP := Lib.hid (fun (u : Value) (W : World) (h : SetAt W.heap.size W u xs) => rNear_any u xs x hs hx W h)
  generalize nrV x xs = nv at *
  clear e2 e3 hx
  have e1 : stE xs b = 0 := by unfold stE; rw [if_pos hs, if_neg (by omega)]
  rw [e1, if_pos rfl] at HW HN
  have HrW := Lib.hid (fun (u : Value) (W : World) (h : SetAt W.heap.size W u xs) => rWiden_any u xs b hs h1 h2 W h)
  have HrN := Lib.hid (fun (u : Value) (W : World) (h : SetAt W.heap.size W u xs) => rNarrow_any u xs b hs h1 h2 W h)
  have hw8 := widL_len b xs
  have hw9 := nwL_len b xs
  have HSw := Lib.hid (fun (u v : Value) (W : World) (h : SetAt W.heap.size W u (widL b xs)) (k : SetAt W.heap.size W v (widL b xs)) => lSame_any u v (widL b xs) (by omega) W h k)
  have HSn := Lib.hid (fun (u v : Value) (W : World) (h : SetAt W.heap.size W u (nwL b xs)) (k : SetAt W.heap.size W v (nwL b xs)) => lSame_any u v (nwL b xs) (by omega) W h k)
  have cb : Hid (∀ w : World, Calls Try.prog 67 #[.int .i64 b, .int .i64 0, .int .i64 1000000000000000] w fun e w' => e = .returned (.bool true) ∧ w = w') := Lib.hid (fun w => by have h := rIn_any b 0 1000000000000000 w; rw [show (decide (0 ≤ b) && decide (b ≤ 1000000000000000)) = true from by simp; omega] at h; exact h)
  generalize widL b xs = wl at *
  generalize nwL b xs = nl at *
  obtain ⟨m8, hm8⟩ : ∃ m, wl.length = m := ⟨_, rfl⟩
  obtain ⟨m9, hm9⟩ : ∃ m, nl.length = m := ⟨_, rfl⟩
  replace hm8 := Lib.hid hm8
  replace hm9 := Lib.hid hm9
  clear e1 hw8 hw9
  clear hs
  clear hv
  generalize xs.length = n at *
  have hnb : ((n : Int) == 0) = false := by simp; omega
  clear h0
  go_enter Try.func10, Try.ntmps10
  go_wp2_with fail
  refine (HR.out _ (Below.refl _ _)).mono ?_
  rintro e W1 ⟨vi, rfl, hri, hb⟩
  have hB := hb
  clear hb
  have HI := Lib.hid (fun (W : World) (h : Below W1.heap.size W1 W) => (hri.below h (Nat.le_refl _)).mono h.size)
  have hI := Below.refl W1.heap.size W1
  clear hri
  go_wp2_with fail
  refine (HW.out _ _ (HI.out _ hI).set).mono ?_
  rintro e W2 ⟨v8, rfl, own8, hb⟩
  replace hI := hI.trans (hb.mono hI.size)
  replace hB := hB.trans (hb.mono hB.size)
  clear hb
  have R8 : RowAt W2.heap.size W2 v8 wl := own_row _ _ rfl v8 W2 own8
  obtain ⟨A8, c8, rfl⟩ : ∃ A c, v8 = .slice A m8 c := by obtain ⟨A, c, h, _⟩ := R8; exact ⟨A, c, (by rw [h, hm8.out])⟩
  have H8 := Lib.hid (fun (W : World) (h : Below W2.heap.size W2 W) => (R8.below h (Nat.le_refl _)).mono h.size)
  have h8 := Below.refl W2.heap.size W2
  clear R8 own8
  go_wp2_with fail
  refine (HN.out _ _ (HI.out _ hI).set).mono ?_
  rintro e W3 ⟨v9, rfl, own9, hb⟩
  replace hI := hI.trans (hb.mono hI.size)
  replace h8 := h8.trans (hb.mono h8.size)
  replace hB := hB.trans (hb.mono hB.size)
  clear hb
  have R9 : RowAt W3.heap.size W3 v9 nl := own_row _ _ rfl v9 W3 own9
  obtain ⟨A9, c9, rfl⟩ : ∃ A c, v9 = .slice A m9 c := by obtain ⟨A, c, h, _⟩ := R9; exact ⟨A, c, (by rw [h, hm9.out])⟩
  have H9 := Lib.hid (fun (W : World) (h : Below W3.heap.size W3 W) => (R9.below h (Nat.le_refl _)).mono h.size)
  have h9 := Below.refl W3.heap.size W3
  clear R9 own9
  go_wp2_with fail
  refine (HE.out _ _ (HI.out _ hI)).mono ?_
  rintro e W4 ⟨rfl, hb⟩
  replace hI := hI.trans (hb.mono hI.size)
  replace h8 := h8.trans (hb.mono h8.size)
  replace h9 := h9.trans (hb.mono h9.size)
  replace hB := hB.trans (hb.mono hB.size)
  clear hb
  go_wp2_with fail
  refine (HS.out _ _ _ (HI.out _ hI).set (HL.out _ hB)).mono ?_
  rintro e W5 ⟨rfl, hb⟩
  replace hI := hI.trans (hb.mono hI.size)
  replace h8 := h8.trans (hb.mono h8.size)
  replace h9 := h9.trans (hb.mono h9.size)
  replace hB := hB.trans (hb.mono hB.size)
  clear hb
  go_wp2_with fail
  refine (HQ.out _ _ (HL.out _ hB)).mono ?_
  rintro e W6 ⟨rfl, hb⟩
  replace hI := hI.trans (hb.mono hI.size)
  replace h8 := h8.trans (hb.mono h8.size)
  replace h9 := h9.trans (hb.mono h9.size)
  replace hB := hB.trans (hb.mono hB.size)
  clear hb
  go_wp2_with fail
  refine (cx.out _).mono ?_
  rintro e w' ⟨rfl, rfl⟩
  go_wp2_with fail
  refine (HP.out _ _ (HL.out _ hB)).mono ?_
  rintro e W7 ⟨rfl, hb⟩
  replace hI := hI.trans (hb.mono hI.size)
  replace h8 := h8.trans (hb.mono h8.size)
  replace h9 := h9.trans (hb.mono h9.size)
  replace hB := hB.trans (hb.mono hB.size)
  clear hb
  go_wp2_with fail
  refine (cb.out _).mono ?_
  rintro e w' ⟨rfl, rfl⟩
  go_wp2_with fail
  refine (HrW.out _ _ (HL.out _ hB)).mono ?_
  rintro e W8 ⟨v6, rfl, own6, hb⟩
  replace hI := hI.trans (hb.mono hI.size)
  replace h8 := h8.trans (hb.mono h8.size)
  replace h9 := h9.trans (hb.mono h9.size)
  replace hB := hB.trans (hb.mono hB.size)
  clear hb
  have R6 := (own_row _ _ rfl v6 W8 own6).set
  clear own6
  go_wp2_with fail
  refine (HSw.out _ _ _ (H8.out _ h8).set R6).mono ?_
  rintro e W9 ⟨rfl, hb⟩
  replace hI := hI.trans (hb.mono hI.size)
  replace h8 := h8.trans (hb.mono h8.size)
  replace h9 := h9.trans (hb.mono h9.size)
  replace hB := hB.trans (hb.mono hB.size)
  clear hb
  clear R6
  go_wp2_with fail
  refine (HrN.out _ _ (HL.out _ hB)).mono ?_
  rintro e W10 ⟨v5, rfl, own5, hb⟩
  replace hI := hI.trans (hb.mono hI.size)
  replace h8 := h8.trans (hb.mono h8.size)
  replace h9 := h9.trans (hb.mono h9.size)
  replace hB := hB.trans (hb.mono hB.size)
  clear hb
  have R5 := (own_row _ _ rfl v5 W10 own5).set
  clear own5
  go_wp2_with fail
  refine (HSn.out _ _ _ (H9.out _ h9).set R5).mono ?_
  rintro e W11 ⟨rfl, hb⟩
  replace hI := hI.trans (hb.mono hI.size)
  replace h8 := h8.trans (hb.mono h8.size)
  replace h9 := h9.trans (hb.mono h9.size)
  replace hB := hB.trans (hb.mono hB.size)
  clear hb
  clear R5
  go_wp2_with fail
  refine (HK.out _).mono ?_
  rintro e W12 ⟨rfl, hb⟩
  replace hI := hI.trans (hb.mono hI.size)
  replace h8 := h8.trans (hb.mono h8.size)
  replace h9 := h9.trans (hb.mono h9.size)
  replace hB := hB.trans (hb.mono hB.size)
  clear hb
  go_wp2_with fail
  go_ret
  exact ⟨rfl, hB⟩


theorem nears_walk (v : Value) (xs : List (Int × Int)) (b x : Int) (w : World) (hv : ArgAt w v xs) :
    Calls Try.prog 10 #[v, .int .i64 b, .int .i64 x] w fun e w' => e = .returned (.bool true) ∧ Below w.heap.size w w' := by
  by_cases hl : xs.length ≤ 220
  · by_cases hs : setE xs = 0
    · cases hx : vnB x
      · by_cases hb : b < 0 ∨ 1000000000000000 < b
        · exact nears_an v xs b x w hv hl hs hx hb
        · exact nears_ay v xs b x w hv hl hs hx (by omega) (by omega)
      · by_cases h0 : xs.length = 0
        · by_cases hb : b < 0 ∨ 1000000000000000 < b
          · exact nears_bn v xs b x w hv hl hs hx h0 hb
          · exact nears_by v xs b x w hv hl hs hx h0 (by omega) (by omega)
        · by_cases hb : b < 0 ∨ 1000000000000000 < b
          · exact nears_cn v xs b x w hv hl hs hx h0 hb
          · exact nears_cy v xs b x w hv hl hs hx h0 (by omega) (by omega)
    · exact nears_bad v xs b x w hv hl hs
  · obtain ⟨A, c, rfl⟩ : ∃ A c, v = .slice A xs.length c := by
      rcases hv with ⟨⟨A, c, rfl⟩, rfl⟩ | ⟨g, off, c, rfl, _⟩
      · exact ⟨A, c, rfl⟩
      · exact ⟨_, c, rfl⟩
    exact nears_big A _ c b x w (by omega)
end Go.Proofs.Ytiibbnbknmeplaa
