/- The walk of the statement on tables. -/
import Derived.Test.YtfkkddbghogffaaC31
import Derived.Test.YtfkkddbghogffaaC33
import Derived.Test.YtfkkddbghogffaaC34
import Derived.Test.YtfkkddbghogffaaK2
namespace Go.Proofs.Ytfkkddbghogffaa
open Go.RowKit Go.Lib Go.Shelf
set_option linter.unusedVariables false
set_option linter.unusedSimpArgs false
attribute [local go_sem ↓] Go.wp_at_zero Go.wp_at_succ

theorem ArgAt.belowT {w W : World} {v : Value} {xs : List (Int × Int)} (h : ArgAt w v xs) (hb : Below w.heap.size w W) : ArgAt W v xs := by
  rcases h with h | ⟨g, off, c, rfl, hc, hg, hr⟩
  · exact Or.inl h
  · exact Or.inr ⟨g, off, c, rfl, hc, Nat.lt_of_lt_of_le hg hb.size, hr.below hb hg⟩
theorem ArgAt.sliceT {w : World} {v : Value} {xs : List (Int × Int)} (h : ArgAt w v xs) : ∃ A c, v = .slice A xs.length c := by
  rcases h with ⟨⟨A, c, rfl⟩, rfl⟩ | ⟨g, off, c, rfl, _⟩
  · exact ⟨A, c, rfl⟩
  · exact ⟨_, c, rfl⟩
theorem below_undrw {n k : Nat} {W W' : World} (h : Below n (W.drewN k) W') : Below n W W' := ⟨h.os, h.tape, h.output, h.size, h.block⟩
theorem tabE_two {xs : List (Int × Int)} (h : tabE xs ≠ 0) : tabE xs = 2 := by
  unfold tabE at h ⊢
  split at h
  · exact absurd rfl h
  · rename_i h2; rw [if_neg h2]

set_option maxRecDepth 40000 in
set_option maxHeartbeats 2000000 in
theorem tables_big (A : Option Addr) (n c : Nat) (x al ah bl bh : Int) (w : World) (hl : 80 < n) :
    Calls Try.prog 8 #[.slice A n c, .int .i64 x, .agg #[.int .i64 al, .int .i64 ah, .int .i64 bl, .int .i64 bh]] w fun e w' => e = .returned (.bool true) ∧ Below w.heap.size w w' := by
  have HK := Lib.hid known_any
  go_enter Try.func8, Try.ntmps8
  go_wp2_with fail
  refine (HK.out _).mono ?_
  rintro e W1 ⟨rfl, hb⟩
  have hB := (below1 hb)
  clear hb
  go_wp2_with fail
  go_ret
  exact ⟨rfl, hB⟩

set_option maxRecDepth 40000 in
set_option maxHeartbeats 4000000 in
theorem tables_bad (v : Value) (xs : List (Int × Int)) (x al ah bl bh : Int) (w : World) (hv : ArgAt w v xs) (hl : xs.length ≤ 80) (ht : tabE xs ≠ 0) :
    Calls Try.prog 8 #[v, .int .i64 x, .agg #[.int .i64 al, .int .i64 ah, .int .i64 bl, .int .i64 bh]] w fun e w' => e = .returned (.bool true) ∧ Below w.heap.size w w' := by
  have HL := Lib.hid (fun (W : World) (h : Below w.heap.size w W) => (hv.row.set.below h (Nat.le_refl _)).mono h.size)
  have HA := Lib.hid (fun (W : World) (h : Below w.heap.size w W) => lRows_any _ xs (by omega) W (hv.belowT h))
  have HC := Lib.hid (fun (u : Value) (W : World) (h : SetAt W.heap.size W u xs) => checkTable_any u xs W h)
  have HVa := Lib.hid (fun (u : Value) (W : World) (h : SetAt W.heap.size W u xs) => value_any u xs x W h)
  have HVl := Lib.hid (fun (u : Value) (W : World) (h : SetAt W.heap.size W u xs) => values_any u xs al ah W h)
  have HWh := Lib.hid (fun (u : Value) (W : World) (h : SetAt W.heap.size W u xs) => where_any u xs bl bh W h)
  have HT := Lib.hid (fun (u : Value) (W : World) (h : SetAt W.heap.size W u xs) => rTable_any u xs (by omega) W h)
  have HK := Lib.hid known_any
  have e1 : vaE xs x = tabE xs := by unfold vaE; rw [if_neg ht]
  have e2 : vaR xs x = (0, 0) := by unfold vaR; rw [if_neg (by rw [e1]; exact ht)]
  have e3 : vlE xs al ah = tabE xs := by unfold vlE; rw [if_neg ht]
  have e4 : vlR xs al ah = (0, 0) := by unfold vlR; rw [if_neg (by rw [e3]; exact ht)]
  have e5 : whE xs bl bh = tabE xs := by unfold whE; rw [if_neg ht]
  have e6 : whR xs bl bh = [] := by unfold whR; rw [if_neg (by rw [e5]; exact ht)]
  have e7 : decide (tabE xs = 0) = false := by simpa using ht
  rw [e1, e2] at HVa
  rw [e3, e4] at HVl
  rw [e5, e6] at HWh
  rw [e7] at HT
  rw [tabE_two ht] at HC HVa HVl HWh
  obtain ⟨A, ca, rfl⟩ := hv.sliceT
  clear hv e1 e2 e3 e4 e5 e6 e7 ht
  obtain ⟨na, hna⟩ : ∃ n, xs.length = n := ⟨_, rfl⟩
  have Hna := Lib.hid hna
  rw [hna] at hl HL HA ⊢
  clear hna
  go_enter Try.func8, Try.ntmps8
  go_wp2_with fail
  refine (HA.out _ ((Below.refl _ _).alloc (Nat.le_refl _) _)).mono ?_
  rintro e W1 ⟨vX, rfl, hrx, hb⟩
  have A0 := cell_next hb (b := w.heap.size) (o := 0) (by simp <;> omega) (v := some (.int .i64 al)) (by simp [go_sem])
  have A1 := cell_next hb (b := w.heap.size) (o := 1) (by simp <;> omega) (v := some (.int .i64 ah)) (by simp [go_sem])
  have A2 := cell_next hb (b := w.heap.size) (o := 2) (by simp <;> omega) (v := some (.int .i64 bl)) (by simp [go_sem])
  have A3 := cell_next hb (b := w.heap.size) (o := 3) (by simp <;> omega) (v := some (.int .i64 bh)) (by simp [go_sem])
  have nA : w.heap.size < W1.heap.size := by have := hb.size; simp at this; omega
  have hB := (below1 hb)
  clear hb
  obtain ⟨AX, cX, rfl⟩ : ∃ A c, vX = .slice A na c := by obtain ⟨A, c, h, _⟩ := hrx; exact ⟨A, c, by rw [h, Hna.out]⟩
  have HX := Lib.hid (fun (W : World) (h : Below W1.heap.size W1 W) => (hrx.below h (Nat.le_refl _)).mono h.size)
  have hX := Below.refl W1.heap.size W1
  clear hrx
  go_wp2_with fail
  refine (HC.out _ _ (HX.out _ hX).set).mono ?_
  rintro e W2 ⟨rfl, hb⟩
  replace hX := hX.trans (hb.mono hX.size)
  replace A0 := cell_next hb nA A0
  replace A1 := cell_next hb nA A1
  replace A2 := cell_next hb nA A2
  replace A3 := cell_next hb nA A3
  replace nA := Nat.lt_of_lt_of_le nA hb.size
  replace hB := hB.trans (hb.mono hB.size)
  clear hb
  go_wp2_with fail
  refine (HVa.out _ _ (HX.out _ hX).set).mono ?_
  rintro e W3 ⟨rfl, hb⟩
  replace hX := hX.trans (hb.mono hX.size)
  replace A0 := cell_next hb nA A0
  replace A1 := cell_next hb nA A1
  replace A2 := cell_next hb nA A2
  replace A3 := cell_next hb nA A3
  replace nA := Nat.lt_of_lt_of_le nA hb.size
  replace hB := hB.trans (hb.mono hB.size)
  clear hb
  go_wp2_with fail
  refine (HVl.out _ _ (HX.out _ (hX.alloc hX.size _)).set).mono ?_
  rintro e W4 ⟨rfl, hb⟩
  replace hX := hX.trans ((below1 hb).mono hX.size)
  replace A0 := cell_next (below1 hb) nA A0
  replace A1 := cell_next (below1 hb) nA A1
  replace A2 := cell_next (below1 hb) nA A2
  replace A3 := cell_next (below1 hb) nA A3
  replace nA := Nat.lt_of_lt_of_le nA (below1 hb).size
  have V0 := cell_next hb (b := W3.heap.size) (o := 0) (by simp <;> omega) (v := some (.int .i64 0)) (by simp [go_sem])
  have V1 := cell_next hb (b := W3.heap.size) (o := 1) (by simp <;> omega) (v := some (.int .i64 0)) (by simp [go_sem])
  have nV : W3.heap.size < W4.heap.size := by have := hb.size; simp at this; omega
  replace hB := hB.trans ((below1 hb).mono hB.size)
  clear hb
  generalize W3.heap.size = q4 at *
  go_wp2_with fail
  refine (HWh.out _ _ (HX.out _ (hX.alloc hX.size _)).set).mono ?_
  rintro e W5 ⟨vZ, rfl, ownZ, hb⟩
  replace hX := hX.trans ((below1 hb).mono hX.size)
  replace A0 := cell_next (below1 hb) nA A0
  replace A1 := cell_next (below1 hb) nA A1
  replace A2 := cell_next (below1 hb) nA A2
  replace A3 := cell_next (below1 hb) nA A3
  replace nA := Nat.lt_of_lt_of_le nA (below1 hb).size
  replace V0 := cell_next (below1 hb) nV V0
  replace V1 := cell_next (below1 hb) nV V1
  replace nV := Nat.lt_of_lt_of_le nV (below1 hb).size
  have L0 := cell_next hb (b := W4.heap.size) (o := 0) (by simp <;> omega) (v := some (.int .i64 0)) (by simp [go_sem])
  have L1 := cell_next hb (b := W4.heap.size) (o := 1) (by simp <;> omega) (v := some (.int .i64 0)) (by simp [go_sem])
  have nL : W4.heap.size < W5.heap.size := by have := hb.size; simp at this; omega
  replace hB := hB.trans ((below1 hb).mono hB.size)
  clear hb
  generalize W4.heap.size = q5 at *
  have RZ := own_row _ _ rfl vZ W5 ownZ
  obtain ⟨AZ, cZ, rfl⟩ : ∃ A c, vZ = .slice A 0 c := by obtain ⟨A, c, h, _⟩ := RZ; exact ⟨A, c, by rw [h]; rfl⟩
  have HZ := Lib.hid (fun (W : World) (h : Below W5.heap.size W5 W) => (RZ.below h (Nat.le_refl _)).mono h.size)
  have hZ := Below.refl W5.heap.size W5
  clear RZ ownZ
  go_wp2_with fail
  obtain ⟨wo, hwo⟩ : ∃ wo : World, wo = W5 := ⟨_, rfl⟩
  go_loopw [15] (fun i wr => ∃ k : Nat, k ≤ na ∧ i = .int .i64 k ∧ Below wo.heap.size wo wr) (fun i _ => na - (intOf i).toNat)
  case atStart => exact ⟨0, Nat.zero_le _, rfl, by rw [hwo]; exact Below.refl _ _⟩
  case round =>
    subst hwo
    obtain ⟨k, hk, rfl, hb⟩ := hrel
    have hbk := hb
    replace hX := hX.trans (hb.mono hX.size)
    replace hZ := hZ.trans (hb.mono hZ.size)
    replace A0 := cell_next hb nA A0
    replace A1 := cell_next hb nA A1
    replace A2 := cell_next hb nA A2
    replace A3 := cell_next hb nA A3
    replace nA := Nat.lt_of_lt_of_le nA hb.size
    replace V0 := cell_next hb nV V0
    replace V1 := cell_next hb nV V1
    replace nV := Nat.lt_of_lt_of_le nV hb.size
    replace L0 := cell_next hb nL L0
    replace L1 := cell_next hb nL L1
    replace nL := Nat.lt_of_lt_of_le nL hb.size
    replace hB := hB.trans (hb.mono hB.size)
    clear hb
    by_cases hlt : (k : Int) < (na : Int)
    · obtain ⟨p, hp⟩ : ∃ p, xs[k]? = some p := ⟨_, List.getElem?_eq_getElem (by rw [Hna.out]; omega)⟩
      obtain ⟨A', c', hA', hr'⟩ := HL.out wr hB
      injection hA' with i1 i2 i3
      (try subst i1)
      (try subst i3)
      obtain ⟨g, off, i4, hg, hc⟩ := hr' (by rw [Hna.out]; omega)
      (try cases i4)
      obtain ⟨q0, q1⟩ := hc k p hp
      obtain ⟨A2, c2, hA2, _, hr2⟩ := HX.out wr hX
      injection hA2 with j1 j2 j3
      subst j1 j3
      obtain ⟨g2, off2, rfl, hg2, hc2⟩ := hr2 (by rw [Hna.out]; omega)
      obtain ⟨s0, s1⟩ := hc2 k p hp
      have hk0 : (0 : Int) ≤ (k : Int) := by omega
      have hrel2 : Below _ _ wr := hbk
      clear hc hp hc2
      go_wp2_with fail
      go_quiet (fail)
      go_wp2_with fail
      go_roundw
      case rel => exact ⟨k + 1, by omega, by go_num, below_drewN hrel2 _⟩
      case measure => simp [intOf]; omega
    · clear hbk
      obtain rfl : k = na := by omega
      clear hlt hk
      go_wp2_with fail
      refine (HT.out _ _ (HL.out _ hB)).mono ?_
      rintro e W6 ⟨rfl, hb⟩
      replace hX := hX.trans (hb.mono hX.size)
      replace hZ := hZ.trans (hb.mono hZ.size)
      replace A0 := cell_next hb nA A0
      replace A1 := cell_next hb nA A1
      replace A2 := cell_next hb nA A2
      replace A3 := cell_next hb nA A3
      replace nA := Nat.lt_of_lt_of_le nA hb.size
      replace V0 := cell_next hb nV V0
      replace V1 := cell_next hb nV V1
      replace nV := Nat.lt_of_lt_of_le nV hb.size
      replace L0 := cell_next hb nL L0
      replace L1 := cell_next hb nL L1
      replace nL := Nat.lt_of_lt_of_le nL hb.size
      replace hB := hB.trans (hb.mono hB.size)
      clear hb
      go_wp2_with fail
      refine (HK.out _).mono ?_
      rintro e W7 ⟨rfl, hb⟩
      replace hX := hX.trans (hb.mono hX.size)
      replace hZ := hZ.trans (hb.mono hZ.size)
      replace A0 := cell_next hb nA A0
      replace A1 := cell_next hb nA A1
      replace A2 := cell_next hb nA A2
      replace A3 := cell_next hb nA A3
      replace nA := Nat.lt_of_lt_of_le nA hb.size
      replace V0 := cell_next hb nV V0
      replace V1 := cell_next hb nV V1
      replace nV := Nat.lt_of_lt_of_le nV hb.size
      replace L0 := cell_next hb nL L0
      replace L1 := cell_next hb nL L1
      replace nL := Nat.lt_of_lt_of_le nL hb.size
      replace hB := hB.trans (hb.mono hB.size)
      clear hb
      go_wp2_with fail
      go_ret
      exact ⟨rfl, hB⟩

set_option maxRecDepth 40000 in
set_option maxHeartbeats 16000000 in
theorem tables_good (xs : List (Int × Int)) (g off c : Nat) (x al ah bl bh : Int) (w : World) (hc : xs.length ≤ c) (hg : g < w.heap.size) (hr : RRd w g off xs) (ht : tabE xs = 0) :
    Calls Try.prog 8 #[.slice (some ⟨g, off, none⟩) xs.length c, .int .i64 x, .agg #[.int .i64 al, .int .i64 ah, .int .i64 bl, .int .i64 bh]] w fun e w' => e = .returned (.bool true) ∧ Below w.heap.size w w' := by
  have hv : ArgAt w (.slice (some ⟨g, off, none⟩) xs.length c) xs := .inr ⟨g, off, c, rfl, hc, hg, hr⟩
  have hT := tabOk_of ht
  have hl := hT.2.1
  have HL := Lib.hid (fun (W : World) (h : Below w.heap.size w W) => (hv.row.set.below h (Nat.le_refl _)).mono h.size)
  have HA := Lib.hid (fun (W : World) (h : Below w.heap.size w W) => lRows_any _ xs (by omega) W (hv.belowT h))
  have HC := Lib.hid (fun (u : Value) (W : World) (h : SetAt W.heap.size W u xs) => checkTable_any u xs W h)
  have HVa := Lib.hid (fun (u : Value) (W : World) (h : SetAt W.heap.size W u xs) => value_any u xs x W h)
  have HVl := Lib.hid (fun (u : Value) (W : World) (h : SetAt W.heap.size W u xs) => values_any u xs al ah W h)
  have HWh := Lib.hid (fun (u : Value) (W : World) (h : SetAt W.heap.size W u xs) => where_any u xs bl bh W h)
  have HT := Lib.hid (fun (u : Value) (W : World) (h : SetAt W.heap.size W u xs) => rTable_any u xs (by omega) W h)
  have HK := Lib.hid known_any
  have HRR := Lib.hid (fun (W : World) (h : Below w.heap.size w W) => hr.below h hg)
  have HIx := Lib.hid (fun p q => rIn_any x p q)
  have HIa := Lib.hid (fun p q => rIn_any al p q)
  have HIb := Lib.hid (fun p q => rIn_any ah p q)
  have HRa := Lib.hid (rRange_any al ah)
  have HRb := Lib.hid (rRange_any bl bh)
  have F0 : Hid (covB xs x = false → vaE xs x = 3 ∧ (vaR xs x).1 = 0 ∧ (vaR xs x).2 = 0) := Lib.hid (fun h => by
    have e : vaE xs x = 3 := by unfold vaE; rw [if_pos ht, h]; rfl
    unfold vaR; rw [e]; exact ⟨rfl, rfl, rfl⟩)
  have F1 : Hid (covB xs x = true → vaE xs x = 0 ∧ (vaR xs x).1 = (valV xs x).1 ∧ (vaR xs x).2 = (valV xs x).2) := Lib.hid (fun h => by
    have e : vaE xs x = 0 := by unfold vaE; rw [if_pos ht, if_pos h]
    unfold vaR; rw [if_pos e]; exact ⟨e, rfl, rfl⟩)
  have G0 : Hid (vrB al ah = false → vlE xs al ah = 2 ∧ (vlR xs al ah).1 = 0 ∧ (vlR xs al ah).2 = 0) := Lib.hid (fun h => by
    have e : vlE xs al ah = 2 := by unfold vlE; rw [if_pos ht, if_neg (by rw [h]; simp)]
    unfold vlR; rw [e]; exact ⟨rfl, rfl, rfl⟩)
  have G1 : Hid (vrB al ah = true → covB xs al = false → vlE xs al ah = 3 ∧ (vlR xs al ah).1 = 0 ∧ (vlR xs al ah).2 = 0) := Lib.hid (fun h h2 => by
    have e : vlE xs al ah = 3 := by unfold vlE; rw [if_pos ht, if_pos h, if_neg (by rw [h2]; simp)]
    unfold vlR; rw [e]; exact ⟨rfl, rfl, rfl⟩)
  have G2 : Hid (vrB al ah = true → covB xs al = true → covB xs ah = false → vlE xs al ah = 3 ∧ (vlR xs al ah).1 = 0 ∧ (vlR xs al ah).2 = 0) := Lib.hid (fun h _ h2 => by
    have e : vlE xs al ah = 3 := by unfold vlE; rw [if_pos ht, if_pos h, if_neg (by rw [h2]; simp)]
    unfold vlR; rw [e]; exact ⟨rfl, rfl, rfl⟩)
  have G3 : Hid (vrB al ah = true → covB xs al = true → covB xs ah = true → vlE xs al ah = 0 ∧ (vlR xs al ah).1 = (valsV xs al ah).1 ∧ (vlR xs al ah).2 = (valsV xs al ah).2) := Lib.hid (fun h h1 h2 => by
    have e : vlE xs al ah = 0 := by unfold vlE; rw [if_pos ht, if_pos h, if_pos ⟨h1, h2⟩]
    unfold vlR; rw [if_pos e]; exact ⟨e, rfl, rfl⟩)
  have K0 : Hid (vrB bl bh = false → whE xs bl bh = 2 ∧ (whR xs bl bh).length = 0) := Lib.hid (fun h => by
    have e : whE xs bl bh = 2 := by unfold whE; rw [if_pos ht, if_neg (by rw [h]; simp)]
    unfold whR; rw [e]; exact ⟨rfl, rfl⟩)
  have K1 : Hid (vrB bl bh = true → whE xs bl bh = 0) := Lib.hid (fun h => by unfold whE; rw [if_pos ht, if_pos h])
  have RV : Hid (covB xs x = true → ∀ (u : Value) (W : World), SetAt W.heap.size W u xs → Calls Try.prog 68 #[u, .int .i64 x] W fun e w' => e = .returned (.agg #[.int .i64 (valV xs x).1, .int .i64 (valV xs x).2]) ∧ Below W.heap.size W w') := Lib.hid (fun h u W hu => by
    obtain ⟨A, c', rfl, h'⟩ := hu
    obtain ⟨g', off', rfl, hg', hr'⟩ := h' (by have := hT.1; omega)
    exact rValue_any xs x g' off' c' hT h W hg' hr')
  have RL : Hid (vrB al ah = true → covB xs al = true → covB xs ah = true → ∀ (u : Value) (W : World), SetAt W.heap.size W u xs → Calls Try.prog 69 #[u, .agg #[.int .i64 al, .int .i64 ah]] W fun e w' => e = .returned (.agg #[.int .i64 (valsV xs al ah).1, .int .i64 (valsV xs al ah).2]) ∧ Below W.heap.size W w') := Lib.hid (fun _ h1 h2 u W hu => by
    obtain ⟨A, c', rfl, h'⟩ := hu
    obtain ⟨g', off', rfl, hg', hr'⟩ := h' (by have := hT.1; omega)
    exact rValues_at xs al ah g' off' c' hT h1 h2 W hg' hr')
  have RW : Hid (vrB bl bh = true → ∀ (u : Value) (W : World), SetAt W.heap.size W u xs → Calls Try.prog 70 #[u, .agg #[.int .i64 bl, .int .i64 bh]] W (RlPost W (whR xs bl bh))) := Lib.hid (fun h u W hu => by
    obtain ⟨A, c', rfl, h'⟩ := hu
    obtain ⟨g', off', rfl, hg', hr'⟩ := h' (by have := hT.1; omega)
    have e : whR xs bl bh = whV xs bl bh := by unfold whR whE; rw [if_pos ht, if_pos h, if_pos rfl]
    rw [e]
    exact rWhere_at xs bl bh g' off' c' hT (by have := (vrB_of h).2.1; omega) W hg' hr')
  have hwl := whR_len xs bl bh
  have HS := Lib.hid (fun (u v : Value) (W : World) (h : SetAt W.heap.size W u (whR xs bl bh)) (k : SetAt W.heap.size W v (whR xs bl bh)) => lSame_any u v (whR xs bl bh) (by omega) W h k)
  obtain ⟨m1, hm1⟩ : ∃ m, xs.length = m + 1 := ⟨xs.length - 1, by have := hT.1; omega⟩
  obtain ⟨p, hp⟩ : ∃ p, xs[0]? = some p := ⟨_, List.getElem?_eq_getElem (by omega)⟩
  obtain ⟨q, hq⟩ : ∃ q, xs[m1]? = some q := ⟨_, List.getElem?_eq_getElem (by omega)⟩
  replace HIx := Lib.hid (HIx.out p.1 q.1)
  replace HIa := Lib.hid (HIa.out p.1 q.1)
  replace HIb := Lib.hid (HIb.out p.1 q.1)
  rw [← covB_of x hm1 hp hq] at HIx
  rw [← covB_of al hm1 hp hq] at HIa
  rw [← covB_of ah hm1 hp hq] at HIb
  have Hp := Lib.hid hp
  have Hq := Lib.hid hq
  have e7 : decide (tabE xs = 0) = true := by simpa using ht
  rw [e7] at HT
  rw [ht] at HC
  have wm : IntKind.i64.wrap ((m1 + 1 : Nat) - 1 : Int) = m1 := by rw [show ((m1 + 1 : Nat) - 1 : Int) = m1 from by omega]; exact IntWalk.i64_in _ (by omega)
  have wm' : IntKind.i64.wrap ((m1 : Int) + 1 - 1) = m1 := by rw [show ((m1 : Int) + 1 - 1) = m1 from by omega]; exact IntWalk.i64_in _ (by omega)
  have hm0 : (0 : Int) ≤ m1 := by omega
  clear hp hq hT ht e7 hv hr hwl hc
  obtain ⟨na, hna⟩ : ∃ n, xs.length = n := ⟨_, rfl⟩
  have Hna := Lib.hid hna
  rw [hna] at hl HL HA hm1 ⊢
  clear hna
  subst hm1
  generalize vaE xs x = f at *
  generalize (vaR xs x).1 = v1 at *
  generalize (vaR xs x).2 = v2 at *
  generalize (valV xs x).1 = t1 at *
  generalize (valV xs x).2 = t2 at *
  generalize vlE xs al ah = f2 at *
  generalize (vlR xs al ah).1 = l1 at *
  generalize (vlR xs al ah).2 = l2 at *
  generalize (valsV xs al ah).1 = t3 at *
  generalize (valsV xs al ah).2 = t4 at *
  generalize whE xs bl bh = f3 at *
  generalize whR xs bl bh = L at *
  obtain ⟨m, hm⟩ : ∃ m, L.length = m := ⟨_, rfl⟩
  rw [hm] at K0
  have Hm := Lib.hid hm
  clear hm
  generalize covB xs x = cx at *
  generalize covB xs al = ca at *
  generalize covB xs ah = cb at *
  generalize vrB al ah = ra at *
  generalize vrB bl bh = rb at *
  go_enter Try.func8, Try.ntmps8
  go_wp2_with fail
  refine (HA.out _ ((Below.refl _ _).alloc (Nat.le_refl _) _)).mono ?_
  rintro e W1 ⟨vX, rfl, hrx, hb⟩
  have A0 := cell_next hb (b := w.heap.size) (o := 0) (by simp <;> omega) (v := some (.int .i64 al)) (by simp [go_sem])
  have A1 := cell_next hb (b := w.heap.size) (o := 1) (by simp <;> omega) (v := some (.int .i64 ah)) (by simp [go_sem])
  have A2 := cell_next hb (b := w.heap.size) (o := 2) (by simp <;> omega) (v := some (.int .i64 bl)) (by simp [go_sem])
  have A3 := cell_next hb (b := w.heap.size) (o := 3) (by simp <;> omega) (v := some (.int .i64 bh)) (by simp [go_sem])
  have nA : w.heap.size < W1.heap.size := by have := hb.size; simp at this; omega
  have hB := (below1 hb)
  clear hb
  obtain ⟨AX, cX, rfl⟩ : ∃ A c, vX = .slice A (m1 + 1) c := by obtain ⟨A, c, h, _⟩ := hrx; exact ⟨A, c, by rw [h, Hna.out]⟩
  have HX := Lib.hid (fun (W : World) (h : Below W1.heap.size W1 W) => (hrx.below h (Nat.le_refl _)).mono h.size)
  have hX := Below.refl W1.heap.size W1
  clear hrx
  go_wp2_with fail
  refine (HC.out _ _ (HX.out _ hX).set).mono ?_
  rintro e W2 ⟨rfl, hb⟩
  replace hX := hX.trans (hb.mono hX.size)
  replace A0 := cell_next hb nA A0
  replace A1 := cell_next hb nA A1
  replace A2 := cell_next hb nA A2
  replace A3 := cell_next hb nA A3
  replace nA := Nat.lt_of_lt_of_le nA hb.size
  replace hB := hB.trans (hb.mono hB.size)
  clear hb
  go_wp2_with fail
  refine (HVa.out _ _ (HX.out _ hX).set).mono ?_
  rintro e W3 ⟨rfl, hb⟩
  replace hX := hX.trans (hb.mono hX.size)
  replace A0 := cell_next hb nA A0
  replace A1 := cell_next hb nA A1
  replace A2 := cell_next hb nA A2
  replace A3 := cell_next hb nA A3
  replace nA := Nat.lt_of_lt_of_le nA hb.size
  replace hB := hB.trans (hb.mono hB.size)
  clear hb
  go_wp2_with fail
  refine (HVl.out _ _ (HX.out _ (hX.alloc hX.size _)).set).mono ?_
  rintro e W4 ⟨rfl, hb⟩
  replace hX := hX.trans ((below1 hb).mono hX.size)
  replace A0 := cell_next (below1 hb) nA A0
  replace A1 := cell_next (below1 hb) nA A1
  replace A2 := cell_next (below1 hb) nA A2
  replace A3 := cell_next (below1 hb) nA A3
  replace nA := Nat.lt_of_lt_of_le nA (below1 hb).size
  have V0 := cell_next hb (b := W3.heap.size) (o := 0) (by simp <;> omega) (v := some (.int .i64 v1)) (by simp [go_sem])
  have V1 := cell_next hb (b := W3.heap.size) (o := 1) (by simp <;> omega) (v := some (.int .i64 v2)) (by simp [go_sem])
  have nV : W3.heap.size < W4.heap.size := by have := hb.size; simp at this; omega
  replace hB := hB.trans ((below1 hb).mono hB.size)
  clear hb
  generalize W3.heap.size = q4 at *
  go_wp2_with fail
  refine (HWh.out _ _ (HX.out _ (hX.alloc hX.size _)).set).mono ?_
  rintro e W5 ⟨vZ, rfl, ownZ, hb⟩
  replace hX := hX.trans ((below1 hb).mono hX.size)
  replace A0 := cell_next (below1 hb) nA A0
  replace A1 := cell_next (below1 hb) nA A1
  replace A2 := cell_next (below1 hb) nA A2
  replace A3 := cell_next (below1 hb) nA A3
  replace nA := Nat.lt_of_lt_of_le nA (below1 hb).size
  replace V0 := cell_next (below1 hb) nV V0
  replace V1 := cell_next (below1 hb) nV V1
  replace nV := Nat.lt_of_lt_of_le nV (below1 hb).size
  have L0 := cell_next hb (b := W4.heap.size) (o := 0) (by simp <;> omega) (v := some (.int .i64 l1)) (by simp [go_sem])
  have L1 := cell_next hb (b := W4.heap.size) (o := 1) (by simp <;> omega) (v := some (.int .i64 l2)) (by simp [go_sem])
  have nL : W4.heap.size < W5.heap.size := by have := hb.size; simp at this; omega
  replace hB := hB.trans ((below1 hb).mono hB.size)
  clear hb
  generalize W4.heap.size = q5 at *
  have RZ := own_row _ _ rfl vZ W5 ownZ
  obtain ⟨AZ, cZ, rfl⟩ : ∃ A c, vZ = .slice A m c := by obtain ⟨A, c, h, _⟩ := RZ; exact ⟨A, c, by rw [h, Hm.out]⟩
  have HZ := Lib.hid (fun (W : World) (h : Below W5.heap.size W5 W) => (RZ.below h (Nat.le_refl _)).mono h.size)
  have hZ := Below.refl W5.heap.size W5
  clear RZ ownZ
  go_wp2_with fail
  obtain ⟨wo, hwo⟩ : ∃ wo : World, wo = W5 := ⟨_, rfl⟩
  go_loopw [15] (fun i wr => ∃ k : Nat, k ≤ m1 + 1 ∧ i = .int .i64 k ∧ Below wo.heap.size wo wr) (fun i _ => m1 + 1 - (intOf i).toNat)
  case atStart => exact ⟨0, Nat.zero_le _, rfl, by rw [hwo]; exact Below.refl _ _⟩
  case round =>
    subst hwo
    obtain ⟨k, hk, rfl, hb⟩ := hrel
    have hbk := hb
    replace hX := hX.trans (hb.mono hX.size)
    replace hZ := hZ.trans (hb.mono hZ.size)
    replace A0 := cell_next hb nA A0
    replace A1 := cell_next hb nA A1
    replace A2 := cell_next hb nA A2
    replace A3 := cell_next hb nA A3
    replace nA := Nat.lt_of_lt_of_le nA hb.size
    replace V0 := cell_next hb nV V0
    replace V1 := cell_next hb nV V1
    replace nV := Nat.lt_of_lt_of_le nV hb.size
    replace L0 := cell_next hb nL L0
    replace L1 := cell_next hb nL L1
    replace nL := Nat.lt_of_lt_of_le nL hb.size
    replace hB := hB.trans (hb.mono hB.size)
    clear hb
    by_cases hlt : (k : Int) < (m1 : Int) + 1
    · obtain ⟨p, hp⟩ : ∃ p, xs[k]? = some p := ⟨_, List.getElem?_eq_getElem (by rw [Hna.out]; omega)⟩
      obtain ⟨A', c', hA', hr'⟩ := HL.out wr hB
      injection hA' with i1 i2 i3
      (try subst i1)
      (try subst i3)
      obtain ⟨g, off, i4, hg, hc⟩ := hr' (by rw [Hna.out]; omega)
      (try cases i4)
      obtain ⟨q0, q1⟩ := hc k p hp
      obtain ⟨A2, c2, hA2, _, hr2⟩ := HX.out wr hX
      injection hA2 with j1 j2 j3
      subst j1 j3
      obtain ⟨g2, off2, rfl, hg2, hc2⟩ := hr2 (by rw [Hna.out]; omega)
      obtain ⟨s0, s1⟩ := hc2 k p hp
      have hk0 : (0 : Int) ≤ (k : Int) := by omega
      have hrel2 : Below _ _ wr := hbk
      clear hc hp hc2
      go_wp2_with fail
      go_quiet (fail)
      go_wp2_with fail
      go_roundw
      case rel => exact ⟨k + 1, by omega, by go_num, below_drewN hrel2 _⟩
      case measure => simp [intOf]; omega
    · clear hbk
      obtain rfl : k = m1 + 1 := by omega
      clear hlt hk
      go_wp2_with fail
      refine (HT.out _ _ (HL.out _ hB)).mono ?_
      rintro e W6 ⟨rfl, hb⟩
      replace hX := hX.trans (hb.mono hX.size)
      replace hZ := hZ.trans (hb.mono hZ.size)
      replace A0 := cell_next hb nA A0
      replace A1 := cell_next hb nA A1
      replace A2 := cell_next hb nA A2
      replace A3 := cell_next hb nA A3
      replace nA := Nat.lt_of_lt_of_le nA hb.size
      replace V0 := cell_next hb nV V0
      replace V1 := cell_next hb nV V1
      replace nV := Nat.lt_of_lt_of_le nV hb.size
      replace L0 := cell_next hb nL L0
      replace L1 := cell_next hb nL L1
      replace nL := Nat.lt_of_lt_of_le nL hb.size
      replace hB := hB.trans (hb.mono hB.size)
      clear hb
      go_wp2_with fail
      obtain ⟨p0, _⟩ := (HRR.out _ hB) 0 p Hp.out
      obtain ⟨q0, _⟩ := (HRR.out _ hB) m1 q Hq.out
      simp only [Nat.zero_mul, Nat.add_zero] at p0
      go_quiet (fail)
      clear p0 q0
      go_wp2_with fail
      refine (HIx.out _).mono ?_
      rintro e w' ⟨rfl, rfl⟩
      cases cx
      · obtain ⟨rfl, rfl, rfl⟩ := F0.out (by simp)
        go_wp2_with fail
        refine (HRa.out _).mono ?_
        rintro e W7 ⟨rfl, hb⟩
        replace hb := below_undrw hb
        replace hX := hX.trans (hb.mono hX.size)
        replace hZ := hZ.trans (hb.mono hZ.size)
        replace A0 := cell_next hb nA A0
        replace A1 := cell_next hb nA A1
        replace A2 := cell_next hb nA A2
        replace A3 := cell_next hb nA A3
        replace nA := Nat.lt_of_lt_of_le nA hb.size
        replace V0 := cell_next hb nV V0
        replace V1 := cell_next hb nV V1
        replace nV := Nat.lt_of_lt_of_le nV hb.size
        replace L0 := cell_next hb nL L0
        replace L1 := cell_next hb nL L1
        replace nL := Nat.lt_of_lt_of_le nL hb.size
        replace hB := hB.trans (hb.mono hB.size)
        clear hb
        cases ra
        · obtain ⟨rfl, rfl, rfl⟩ := G0.out (by simp)
          go_wp2_with fail
          refine (HRb.out _).mono ?_
          rintro e W8 ⟨rfl, hb⟩
          replace hX := hX.trans (hb.mono hX.size)
          replace hZ := hZ.trans (hb.mono hZ.size)
          replace A0 := cell_next hb nA A0
          replace A1 := cell_next hb nA A1
          replace A2 := cell_next hb nA A2
          replace A3 := cell_next hb nA A3
          replace nA := Nat.lt_of_lt_of_le nA hb.size
          replace V0 := cell_next hb nV V0
          replace V1 := cell_next hb nV V1
          replace nV := Nat.lt_of_lt_of_le nV hb.size
          replace L0 := cell_next hb nL L0
          replace L1 := cell_next hb nL L1
          replace nL := Nat.lt_of_lt_of_le nL hb.size
          replace hB := hB.trans (hb.mono hB.size)
          clear hb
          cases rb
          · obtain ⟨rfl, rfl⟩ := K0.out (by simp)
            go_wp2_with fail
            refine (HK.out _).mono ?_
            rintro e W9 ⟨rfl, hb⟩
            replace hX := hX.trans (hb.mono hX.size)
            replace hZ := hZ.trans (hb.mono hZ.size)
            replace A0 := cell_next hb nA A0
            replace A1 := cell_next hb nA A1
            replace A2 := cell_next hb nA A2
            replace A3 := cell_next hb nA A3
            replace nA := Nat.lt_of_lt_of_le nA hb.size
            replace V0 := cell_next hb nV V0
            replace V1 := cell_next hb nV V1
            replace nV := Nat.lt_of_lt_of_le nV hb.size
            replace L0 := cell_next hb nL L0
            replace L1 := cell_next hb nL L1
            replace nL := Nat.lt_of_lt_of_le nL hb.size
            replace hB := hB.trans (hb.mono hB.size)
            clear hb
            go_wp2_with fail
            go_ret
            exact ⟨rfl, hB⟩
          · obtain rfl := K1.out (by simp)
            go_wp2_with fail
            refine (RW.out (by simp) _ _ (HL.out _ hB)).mono ?_
            rintro e W9 ⟨vY, rfl, ownY, hb⟩
            replace hX := hX.trans (hb.mono hX.size)
            replace hZ := hZ.trans (hb.mono hZ.size)
            replace A0 := cell_next hb nA A0
            replace A1 := cell_next hb nA A1
            replace A2 := cell_next hb nA A2
            replace A3 := cell_next hb nA A3
            replace nA := Nat.lt_of_lt_of_le nA hb.size
            replace V0 := cell_next hb nV V0
            replace V1 := cell_next hb nV V1
            replace nV := Nat.lt_of_lt_of_le nV hb.size
            replace L0 := cell_next hb nL L0
            replace L1 := cell_next hb nL L1
            replace nL := Nat.lt_of_lt_of_le nL hb.size
            replace hB := hB.trans (hb.mono hB.size)
            clear hb
            have RY := own_row _ _ rfl vY W9 ownY
            obtain ⟨AY, cY, rfl⟩ : ∃ A c, vY = .slice A m c := by obtain ⟨A, c, h, _⟩ := RY; exact ⟨A, c, by rw [h, Hm.out]⟩
            have HY := Lib.hid (fun (W : World) (h : Below W9.heap.size W9 W) => (RY.below h (Nat.le_refl _)).mono h.size)
            have hY := Below.refl W9.heap.size W9
            clear RY ownY
            go_wp2_with fail
            refine (HS.out _ _ _ (HZ.out _ hZ).set (HY.out _ hY).set).mono ?_
            rintro e W10 ⟨rfl, hb⟩
            replace hX := hX.trans (hb.mono hX.size)
            replace hZ := hZ.trans (hb.mono hZ.size)
            replace hY := hY.trans (hb.mono hY.size)
            replace A0 := cell_next hb nA A0
            replace A1 := cell_next hb nA A1
            replace A2 := cell_next hb nA A2
            replace A3 := cell_next hb nA A3
            replace nA := Nat.lt_of_lt_of_le nA hb.size
            replace V0 := cell_next hb nV V0
            replace V1 := cell_next hb nV V1
            replace nV := Nat.lt_of_lt_of_le nV hb.size
            replace L0 := cell_next hb nL L0
            replace L1 := cell_next hb nL L1
            replace nL := Nat.lt_of_lt_of_le nL hb.size
            replace hB := hB.trans (hb.mono hB.size)
            clear hb
            go_wp2_with fail
            refine (HK.out _).mono ?_
            rintro e W11 ⟨rfl, hb⟩
            replace hX := hX.trans (hb.mono hX.size)
            replace hZ := hZ.trans (hb.mono hZ.size)
            replace hY := hY.trans (hb.mono hY.size)
            replace A0 := cell_next hb nA A0
            replace A1 := cell_next hb nA A1
            replace A2 := cell_next hb nA A2
            replace A3 := cell_next hb nA A3
            replace nA := Nat.lt_of_lt_of_le nA hb.size
            replace V0 := cell_next hb nV V0
            replace V1 := cell_next hb nV V1
            replace nV := Nat.lt_of_lt_of_le nV hb.size
            replace L0 := cell_next hb nL L0
            replace L1 := cell_next hb nL L1
            replace nL := Nat.lt_of_lt_of_le nL hb.size
            replace hB := hB.trans (hb.mono hB.size)
            clear hb
            go_wp2_with fail
            go_ret
            exact ⟨rfl, hB⟩
        · go_wp2_with fail
          refine (HIa.out _).mono ?_
          rintro e w' ⟨rfl, rfl⟩
          cases ca
          · obtain ⟨rfl, rfl, rfl⟩ := G1.out (by simp) (by simp)
            go_wp2_with fail
            refine (HRb.out _).mono ?_
            rintro e W8 ⟨rfl, hb⟩
            replace hX := hX.trans (hb.mono hX.size)
            replace hZ := hZ.trans (hb.mono hZ.size)
            replace A0 := cell_next hb nA A0
            replace A1 := cell_next hb nA A1
            replace A2 := cell_next hb nA A2
            replace A3 := cell_next hb nA A3
            replace nA := Nat.lt_of_lt_of_le nA hb.size
            replace V0 := cell_next hb nV V0
            replace V1 := cell_next hb nV V1
            replace nV := Nat.lt_of_lt_of_le nV hb.size
            replace L0 := cell_next hb nL L0
            replace L1 := cell_next hb nL L1
            replace nL := Nat.lt_of_lt_of_le nL hb.size
            replace hB := hB.trans (hb.mono hB.size)
            clear hb
            cases rb
            · obtain ⟨rfl, rfl⟩ := K0.out (by simp)
              go_wp2_with fail
              refine (HK.out _).mono ?_
              rintro e W9 ⟨rfl, hb⟩
              replace hX := hX.trans (hb.mono hX.size)
              replace hZ := hZ.trans (hb.mono hZ.size)
              replace A0 := cell_next hb nA A0
              replace A1 := cell_next hb nA A1
              replace A2 := cell_next hb nA A2
              replace A3 := cell_next hb nA A3
              replace nA := Nat.lt_of_lt_of_le nA hb.size
              replace V0 := cell_next hb nV V0
              replace V1 := cell_next hb nV V1
              replace nV := Nat.lt_of_lt_of_le nV hb.size
              replace L0 := cell_next hb nL L0
              replace L1 := cell_next hb nL L1
              replace nL := Nat.lt_of_lt_of_le nL hb.size
              replace hB := hB.trans (hb.mono hB.size)
              clear hb
              go_wp2_with fail
              go_ret
              exact ⟨rfl, hB⟩
            · obtain rfl := K1.out (by simp)
              go_wp2_with fail
              refine (RW.out (by simp) _ _ (HL.out _ hB)).mono ?_
              rintro e W9 ⟨vY, rfl, ownY, hb⟩
              replace hX := hX.trans (hb.mono hX.size)
              replace hZ := hZ.trans (hb.mono hZ.size)
              replace A0 := cell_next hb nA A0
              replace A1 := cell_next hb nA A1
              replace A2 := cell_next hb nA A2
              replace A3 := cell_next hb nA A3
              replace nA := Nat.lt_of_lt_of_le nA hb.size
              replace V0 := cell_next hb nV V0
              replace V1 := cell_next hb nV V1
              replace nV := Nat.lt_of_lt_of_le nV hb.size
              replace L0 := cell_next hb nL L0
              replace L1 := cell_next hb nL L1
              replace nL := Nat.lt_of_lt_of_le nL hb.size
              replace hB := hB.trans (hb.mono hB.size)
              clear hb
              have RY := own_row _ _ rfl vY W9 ownY
              obtain ⟨AY, cY, rfl⟩ : ∃ A c, vY = .slice A m c := by obtain ⟨A, c, h, _⟩ := RY; exact ⟨A, c, by rw [h, Hm.out]⟩
              have HY := Lib.hid (fun (W : World) (h : Below W9.heap.size W9 W) => (RY.below h (Nat.le_refl _)).mono h.size)
              have hY := Below.refl W9.heap.size W9
              clear RY ownY
              go_wp2_with fail
              refine (HS.out _ _ _ (HZ.out _ hZ).set (HY.out _ hY).set).mono ?_
              rintro e W10 ⟨rfl, hb⟩
              replace hX := hX.trans (hb.mono hX.size)
              replace hZ := hZ.trans (hb.mono hZ.size)
              replace hY := hY.trans (hb.mono hY.size)
              replace A0 := cell_next hb nA A0
              replace A1 := cell_next hb nA A1
              replace A2 := cell_next hb nA A2
              replace A3 := cell_next hb nA A3
              replace nA := Nat.lt_of_lt_of_le nA hb.size
              replace V0 := cell_next hb nV V0
              replace V1 := cell_next hb nV V1
              replace nV := Nat.lt_of_lt_of_le nV hb.size
              replace L0 := cell_next hb nL L0
              replace L1 := cell_next hb nL L1
              replace nL := Nat.lt_of_lt_of_le nL hb.size
              replace hB := hB.trans (hb.mono hB.size)
              clear hb
              go_wp2_with fail
              refine (HK.out _).mono ?_
              rintro e W11 ⟨rfl, hb⟩
              replace hX := hX.trans (hb.mono hX.size)
              replace hZ := hZ.trans (hb.mono hZ.size)
              replace hY := hY.trans (hb.mono hY.size)
              replace A0 := cell_next hb nA A0
              replace A1 := cell_next hb nA A1
              replace A2 := cell_next hb nA A2
              replace A3 := cell_next hb nA A3
              replace nA := Nat.lt_of_lt_of_le nA hb.size
              replace V0 := cell_next hb nV V0
              replace V1 := cell_next hb nV V1
              replace nV := Nat.lt_of_lt_of_le nV hb.size
              replace L0 := cell_next hb nL L0
              replace L1 := cell_next hb nL L1
              replace nL := Nat.lt_of_lt_of_le nL hb.size
              replace hB := hB.trans (hb.mono hB.size)
              clear hb
              go_wp2_with fail
              go_ret
              exact ⟨rfl, hB⟩
          · go_wp2_with fail
            refine (HIb.out _).mono ?_
            rintro e w' ⟨rfl, rfl⟩
            cases cb
            · obtain ⟨rfl, rfl, rfl⟩ := G2.out (by simp) (by simp) (by simp)
              go_wp2_with fail
              refine (HRb.out _).mono ?_
              rintro e W8 ⟨rfl, hb⟩
              replace hX := hX.trans (hb.mono hX.size)
              replace hZ := hZ.trans (hb.mono hZ.size)
              replace A0 := cell_next hb nA A0
              replace A1 := cell_next hb nA A1
              replace A2 := cell_next hb nA A2
              replace A3 := cell_next hb nA A3
              replace nA := Nat.lt_of_lt_of_le nA hb.size
              replace V0 := cell_next hb nV V0
              replace V1 := cell_next hb nV V1
              replace nV := Nat.lt_of_lt_of_le nV hb.size
              replace L0 := cell_next hb nL L0
              replace L1 := cell_next hb nL L1
              replace nL := Nat.lt_of_lt_of_le nL hb.size
              replace hB := hB.trans (hb.mono hB.size)
              clear hb
              cases rb
              · obtain ⟨rfl, rfl⟩ := K0.out (by simp)
                go_wp2_with fail
                refine (HK.out _).mono ?_
                rintro e W9 ⟨rfl, hb⟩
                replace hX := hX.trans (hb.mono hX.size)
                replace hZ := hZ.trans (hb.mono hZ.size)
                replace A0 := cell_next hb nA A0
                replace A1 := cell_next hb nA A1
                replace A2 := cell_next hb nA A2
                replace A3 := cell_next hb nA A3
                replace nA := Nat.lt_of_lt_of_le nA hb.size
                replace V0 := cell_next hb nV V0
                replace V1 := cell_next hb nV V1
                replace nV := Nat.lt_of_lt_of_le nV hb.size
                replace L0 := cell_next hb nL L0
                replace L1 := cell_next hb nL L1
                replace nL := Nat.lt_of_lt_of_le nL hb.size
                replace hB := hB.trans (hb.mono hB.size)
                clear hb
                go_wp2_with fail
                go_ret
                exact ⟨rfl, hB⟩
              · obtain rfl := K1.out (by simp)
                go_wp2_with fail
                refine (RW.out (by simp) _ _ (HL.out _ hB)).mono ?_
                rintro e W9 ⟨vY, rfl, ownY, hb⟩
                replace hX := hX.trans (hb.mono hX.size)
                replace hZ := hZ.trans (hb.mono hZ.size)
                replace A0 := cell_next hb nA A0
                replace A1 := cell_next hb nA A1
                replace A2 := cell_next hb nA A2
                replace A3 := cell_next hb nA A3
                replace nA := Nat.lt_of_lt_of_le nA hb.size
                replace V0 := cell_next hb nV V0
                replace V1 := cell_next hb nV V1
                replace nV := Nat.lt_of_lt_of_le nV hb.size
                replace L0 := cell_next hb nL L0
                replace L1 := cell_next hb nL L1
                replace nL := Nat.lt_of_lt_of_le nL hb.size
                replace hB := hB.trans (hb.mono hB.size)
                clear hb
                have RY := own_row _ _ rfl vY W9 ownY
                obtain ⟨AY, cY, rfl⟩ : ∃ A c, vY = .slice A m c := by obtain ⟨A, c, h, _⟩ := RY; exact ⟨A, c, by rw [h, Hm.out]⟩
                have HY := Lib.hid (fun (W : World) (h : Below W9.heap.size W9 W) => (RY.below h (Nat.le_refl _)).mono h.size)
                have hY := Below.refl W9.heap.size W9
                clear RY ownY
                go_wp2_with fail
                refine (HS.out _ _ _ (HZ.out _ hZ).set (HY.out _ hY).set).mono ?_
                rintro e W10 ⟨rfl, hb⟩
                replace hX := hX.trans (hb.mono hX.size)
                replace hZ := hZ.trans (hb.mono hZ.size)
                replace hY := hY.trans (hb.mono hY.size)
                replace A0 := cell_next hb nA A0
                replace A1 := cell_next hb nA A1
                replace A2 := cell_next hb nA A2
                replace A3 := cell_next hb nA A3
                replace nA := Nat.lt_of_lt_of_le nA hb.size
                replace V0 := cell_next hb nV V0
                replace V1 := cell_next hb nV V1
                replace nV := Nat.lt_of_lt_of_le nV hb.size
                replace L0 := cell_next hb nL L0
                replace L1 := cell_next hb nL L1
                replace nL := Nat.lt_of_lt_of_le nL hb.size
                replace hB := hB.trans (hb.mono hB.size)
                clear hb
                go_wp2_with fail
                refine (HK.out _).mono ?_
                rintro e W11 ⟨rfl, hb⟩
                replace hX := hX.trans (hb.mono hX.size)
                replace hZ := hZ.trans (hb.mono hZ.size)
                replace hY := hY.trans (hb.mono hY.size)
                replace A0 := cell_next hb nA A0
                replace A1 := cell_next hb nA A1
                replace A2 := cell_next hb nA A2
                replace A3 := cell_next hb nA A3
                replace nA := Nat.lt_of_lt_of_le nA hb.size
                replace V0 := cell_next hb nV V0
                replace V1 := cell_next hb nV V1
                replace nV := Nat.lt_of_lt_of_le nV hb.size
                replace L0 := cell_next hb nL L0
                replace L1 := cell_next hb nL L1
                replace nL := Nat.lt_of_lt_of_le nL hb.size
                replace hB := hB.trans (hb.mono hB.size)
                clear hb
                go_wp2_with fail
                go_ret
                exact ⟨rfl, hB⟩
            · obtain ⟨rfl, rfl, rfl⟩ := G3.out (by simp) (by simp) (by simp)
              go_wp2_with fail
              have SB : Hid (∀ W' : World, Below W7.heap.size W7 W' → (fun w' => w'.cell? ⟨q5, 0, none⟩ = some (.int .i64 l1) ∧ w'.cell? ⟨q5, 1, none⟩ = some (.int .i64 l2) ∧ w'.cell? ⟨w.heap.size, 0, none⟩ = some (.int .i64 al) ∧ w'.cell? ⟨w.heap.size, 1, none⟩ = some (.int .i64 ah) ∧ Below W7.heap.size W7 w') W') := Lib.hid (fun W' h => ⟨cell_next h nL L0, cell_next h nL L1, cell_next h nA A0, cell_next h nA A1, h⟩)
              refine wp_region_held_drew (S := fun w' => w'.cell? ⟨q5, 0, none⟩ = some (.int .i64 l1) ∧ w'.cell? ⟨q5, 1, none⟩ = some (.int .i64 l2) ∧ w'.cell? ⟨w.heap.size, 0, none⟩ = some (.int .i64 al) ∧ w'.cell? ⟨w.heap.size, 1, none⟩ = some (.int .i64 ah) ∧ Below W7.heap.size W7 w') (by kernel_rfl) ?_ (fun hHeld => ?_)
              focus (exact SB.out _ (Below.drew (Below.refl _ _)))
              refine take_slot (i := 0) (d := 133) (v := ?_) rfl rfl (by kernel_rfl) (by kernel_rfl) (by kernel_rfl) (fun _ _ _ h => h) (Or.inl ⟨by rfl, ?_⟩) (by assumption) ?_
              rotate_left 1
              focus (intro wS hSw; (try dsimp only at hSw); go_simp; try with_reducible rfl)
              try simp only [List.setIfInBounds_toArray, List.set_cons_zero, List.set_cons_succ]
              refine take_slot (i := 1) (d := 134) (v := ?_) rfl rfl (by kernel_rfl) (by kernel_rfl) (by kernel_rfl) (fun _ _ _ h => h) (Or.inl ⟨by rfl, ?_⟩) (by assumption) ?_
              rotate_left 1
              focus (intro wS hSw; (try dsimp only at hSw); go_simp; try with_reducible rfl)
              try simp only [List.setIfInBounds_toArray, List.set_cons_zero, List.set_cons_succ]
              refine take_slot (i := 2) (d := 135) (v := ?_) rfl rfl (by kernel_rfl) (by kernel_rfl) (by kernel_rfl) (fun _ _ _ h => h) (Or.inl ⟨by rfl, ?_⟩) (by assumption) ?_
              rotate_left 1
              focus (intro wS hSw; (try dsimp only at hSw); go_simp; try with_reducible rfl)
              try simp only [List.setIfInBounds_toArray, List.set_cons_zero, List.set_cons_succ]
              refine take_slot (i := 3) (d := 136) (v := ?_) rfl rfl (by kernel_rfl) (by kernel_rfl) (by kernel_rfl) (fun _ _ _ h => h) (Or.inl ⟨by rfl, ?_⟩) (by assumption) ?_
              rotate_left 1
              focus (intro wS hSw; (try dsimp only at hSw); go_simp; try with_reducible rfl)
              try simp only [List.setIfInBounds_toArray, List.set_cons_zero, List.set_cons_succ]
              refine take_slot (i := 4) (d := 137) (v := ?_) rfl rfl (by kernel_rfl) (by kernel_rfl) (by kernel_rfl) (fun _ _ _ h => h) (Or.inl ⟨by rfl, ?_⟩) (by assumption) ?_
              rotate_left 1
              focus (intro wS hSw; (try dsimp only at hSw); go_simp; try with_reducible rfl)
              try simp only [List.setIfInBounds_toArray, List.set_cons_zero, List.set_cons_succ]
              refine take_slot (i := 5) (d := 138) (v := ?_) rfl rfl (by kernel_rfl) (by kernel_rfl) (by kernel_rfl) (fun _ _ _ h => h) (Or.inl ⟨by rfl, ?_⟩) (by assumption) ?_
              rotate_left 1
              focus (intro wS hSw; (try dsimp only at hSw); go_simp; try with_reducible rfl)
              try simp only [List.setIfInBounds_toArray, List.set_cons_zero, List.set_cons_succ]
              refine take_slot (i := 6) (d := 139) (v := ?_) rfl rfl (by kernel_rfl) (by kernel_rfl) (by kernel_rfl) (fun _ _ _ h => h) (Or.inl ⟨by rfl, ?_⟩) (by assumption) ?_
              rotate_left 1
              focus (intro wS hSw; (try dsimp only at hSw); go_simp; try with_reducible rfl)
              try simp only [List.setIfInBounds_toArray, List.set_cons_zero, List.set_cons_succ]
              refine wpAnyH_ready (rs := [7]) (by kernel_rfl) (by simp) ?_
              refine AllReadyH.cons rfl (fun K hK => ?_) AllReadyH.nil
              skip
              go_simp
              (refine (RL.out (by simp) (by simp) (by simp) _ _ (HL.out _ (hB.trans (hHeld.2.2.2.2.mono hB.size)))).mono ?_)
              rintro e W8 ⟨rfl, hb⟩
              refine hK.out _ _ ?_ (fun hHeld => ?_)
              focus (exact SB.out _ (hHeld.2.2.2.2.trans (hb.mono hHeld.2.2.2.2.size)))
              clear hK K
              try simp only [Act.put, List.setIfInBounds_toArray, List.set_cons_zero, List.set_cons_succ]
              refine take_slot (i := 8) (d := 141) (v := ?_) rfl rfl (by kernel_rfl) (by kernel_rfl) (by kernel_rfl) (fun _ _ _ h => h) (Or.inl ⟨by rfl, ?_⟩) (by assumption) ?_
              rotate_left 1
              focus (intro wS hSw; (try dsimp only at hSw); go_simp; try with_reducible rfl)
              try simp only [List.setIfInBounds_toArray, List.set_cons_zero, List.set_cons_succ]
              refine take_slot (i := 9) (d := 142) (v := ?_) rfl rfl (by kernel_rfl) (by kernel_rfl) (by kernel_rfl) (fun _ _ _ h => h) (Or.inl ⟨by rfl, ?_⟩) (by assumption) ?_
              rotate_left 1
              focus (intro wS hSw; (try dsimp only at hSw); go_simp; try with_reducible rfl)
              try simp only [List.setIfInBounds_toArray, List.set_cons_zero, List.set_cons_succ]
              refine wpAnyH_done (by kernel_rfl) ?_ _
              replace hb := hHeld.2.2.2.2
              clear hHeld SB
              replace hX := hX.trans (hb.mono hX.size)
              replace hZ := hZ.trans (hb.mono hZ.size)
              replace A0 := cell_next hb nA A0
              replace A1 := cell_next hb nA A1
              replace A2 := cell_next hb nA A2
              replace A3 := cell_next hb nA A3
              replace nA := Nat.lt_of_lt_of_le nA hb.size
              replace V0 := cell_next hb nV V0
              replace V1 := cell_next hb nV V1
              replace nV := Nat.lt_of_lt_of_le nV hb.size
              replace L0 := cell_next hb nL L0
              replace L1 := cell_next hb nL L1
              replace nL := Nat.lt_of_lt_of_le nL hb.size
              replace hB := hB.trans (hb.mono hB.size)
              clear hb
              go_wp2_with fail
              refine (HRb.out _).mono ?_
              rintro e W9 ⟨rfl, hb⟩
              replace hX := hX.trans (hb.mono hX.size)
              replace hZ := hZ.trans (hb.mono hZ.size)
              replace A0 := cell_next hb nA A0
              replace A1 := cell_next hb nA A1
              replace A2 := cell_next hb nA A2
              replace A3 := cell_next hb nA A3
              replace nA := Nat.lt_of_lt_of_le nA hb.size
              replace V0 := cell_next hb nV V0
              replace V1 := cell_next hb nV V1
              replace nV := Nat.lt_of_lt_of_le nV hb.size
              replace L0 := cell_next hb nL L0
              replace L1 := cell_next hb nL L1
              replace nL := Nat.lt_of_lt_of_le nL hb.size
              replace hB := hB.trans (hb.mono hB.size)
              clear hb
              cases rb
              · obtain ⟨rfl, rfl⟩ := K0.out (by simp)
                go_wp2_with fail
                refine (HK.out _).mono ?_
                rintro e W10 ⟨rfl, hb⟩
                replace hX := hX.trans (hb.mono hX.size)
                replace hZ := hZ.trans (hb.mono hZ.size)
                replace A0 := cell_next hb nA A0
                replace A1 := cell_next hb nA A1
                replace A2 := cell_next hb nA A2
                replace A3 := cell_next hb nA A3
                replace nA := Nat.lt_of_lt_of_le nA hb.size
                replace V0 := cell_next hb nV V0
                replace V1 := cell_next hb nV V1
                replace nV := Nat.lt_of_lt_of_le nV hb.size
                replace L0 := cell_next hb nL L0
                replace L1 := cell_next hb nL L1
                replace nL := Nat.lt_of_lt_of_le nL hb.size
                replace hB := hB.trans (hb.mono hB.size)
                clear hb
                go_wp2_with fail
                go_ret
                exact ⟨rfl, hB⟩
              · obtain rfl := K1.out (by simp)
                go_wp2_with fail
                refine (RW.out (by simp) _ _ (HL.out _ hB)).mono ?_
                rintro e W10 ⟨vY, rfl, ownY, hb⟩
                replace hX := hX.trans (hb.mono hX.size)
                replace hZ := hZ.trans (hb.mono hZ.size)
                replace A0 := cell_next hb nA A0
                replace A1 := cell_next hb nA A1
                replace A2 := cell_next hb nA A2
                replace A3 := cell_next hb nA A3
                replace nA := Nat.lt_of_lt_of_le nA hb.size
                replace V0 := cell_next hb nV V0
                replace V1 := cell_next hb nV V1
                replace nV := Nat.lt_of_lt_of_le nV hb.size
                replace L0 := cell_next hb nL L0
                replace L1 := cell_next hb nL L1
                replace nL := Nat.lt_of_lt_of_le nL hb.size
                replace hB := hB.trans (hb.mono hB.size)
                clear hb
                have RY := own_row _ _ rfl vY W10 ownY
                obtain ⟨AY, cY, rfl⟩ : ∃ A c, vY = .slice A m c := by obtain ⟨A, c, h, _⟩ := RY; exact ⟨A, c, by rw [h, Hm.out]⟩
                have HY := Lib.hid (fun (W : World) (h : Below W10.heap.size W10 W) => (RY.below h (Nat.le_refl _)).mono h.size)
                have hY := Below.refl W10.heap.size W10
                clear RY ownY
                go_wp2_with fail
                refine (HS.out _ _ _ (HZ.out _ hZ).set (HY.out _ hY).set).mono ?_
                rintro e W11 ⟨rfl, hb⟩
                replace hX := hX.trans (hb.mono hX.size)
                replace hZ := hZ.trans (hb.mono hZ.size)
                replace hY := hY.trans (hb.mono hY.size)
                replace A0 := cell_next hb nA A0
                replace A1 := cell_next hb nA A1
                replace A2 := cell_next hb nA A2
                replace A3 := cell_next hb nA A3
                replace nA := Nat.lt_of_lt_of_le nA hb.size
                replace V0 := cell_next hb nV V0
                replace V1 := cell_next hb nV V1
                replace nV := Nat.lt_of_lt_of_le nV hb.size
                replace L0 := cell_next hb nL L0
                replace L1 := cell_next hb nL L1
                replace nL := Nat.lt_of_lt_of_le nL hb.size
                replace hB := hB.trans (hb.mono hB.size)
                clear hb
                go_wp2_with fail
                refine (HK.out _).mono ?_
                rintro e W12 ⟨rfl, hb⟩
                replace hX := hX.trans (hb.mono hX.size)
                replace hZ := hZ.trans (hb.mono hZ.size)
                replace hY := hY.trans (hb.mono hY.size)
                replace A0 := cell_next hb nA A0
                replace A1 := cell_next hb nA A1
                replace A2 := cell_next hb nA A2
                replace A3 := cell_next hb nA A3
                replace nA := Nat.lt_of_lt_of_le nA hb.size
                replace V0 := cell_next hb nV V0
                replace V1 := cell_next hb nV V1
                replace nV := Nat.lt_of_lt_of_le nV hb.size
                replace L0 := cell_next hb nL L0
                replace L1 := cell_next hb nL L1
                replace nL := Nat.lt_of_lt_of_le nL hb.size
                replace hB := hB.trans (hb.mono hB.size)
                clear hb
                go_wp2_with fail
                go_ret
                exact ⟨rfl, hB⟩
      · obtain ⟨rfl, rfl, rfl⟩ := F1.out (by simp)
        go_wp2_with fail
        have SB : Hid (∀ W' : World, Below W6.heap.size W6 W' → (fun w' => w'.cell? ⟨q4, 0, none⟩ = some (.int .i64 v1) ∧ w'.cell? ⟨q4, 1, none⟩ = some (.int .i64 v2) ∧ Below W6.heap.size W6 w') W') := Lib.hid (fun W' h => ⟨cell_next h nV V0, cell_next h nV V1, h⟩)
        refine wp_region_held_drew (S := fun w' => w'.cell? ⟨q4, 0, none⟩ = some (.int .i64 v1) ∧ w'.cell? ⟨q4, 1, none⟩ = some (.int .i64 v2) ∧ Below W6.heap.size W6 w') (by kernel_rfl) ?_ (fun hHeld => ?_)
        focus (exact SB.out _ (Below.drew (below_drewN (Below.refl _ _) _)))
        refine take_slot (i := 0) (d := 124) (v := ?_) rfl rfl (by kernel_rfl) (by kernel_rfl) (by kernel_rfl) (fun _ _ _ h => h) (Or.inl ⟨by rfl, ?_⟩) (by assumption) ?_
        rotate_left 1
        focus (intro wS hSw; (try dsimp only at hSw); go_simp; try with_reducible rfl)
        try simp only [List.setIfInBounds_toArray, List.set_cons_zero, List.set_cons_succ]
        refine take_slot (i := 1) (d := 125) (v := ?_) rfl rfl (by kernel_rfl) (by kernel_rfl) (by kernel_rfl) (fun _ _ _ h => h) (Or.inl ⟨by rfl, ?_⟩) (by assumption) ?_
        rotate_left 1
        focus (intro wS hSw; (try dsimp only at hSw); go_simp; try with_reducible rfl)
        try simp only [List.setIfInBounds_toArray, List.set_cons_zero, List.set_cons_succ]
        refine take_slot (i := 2) (d := 126) (v := ?_) rfl rfl (by kernel_rfl) (by kernel_rfl) (by kernel_rfl) (fun _ _ _ h => h) (Or.inl ⟨by rfl, ?_⟩) (by assumption) ?_
        rotate_left 1
        focus (intro wS hSw; (try dsimp only at hSw); go_simp; try with_reducible rfl)
        try simp only [List.setIfInBounds_toArray, List.set_cons_zero, List.set_cons_succ]
        refine take_slot (i := 3) (d := 127) (v := ?_) rfl rfl (by kernel_rfl) (by kernel_rfl) (by kernel_rfl) (fun _ _ _ h => h) (Or.inl ⟨by rfl, ?_⟩) (by assumption) ?_
        rotate_left 1
        focus (intro wS hSw; (try dsimp only at hSw); go_simp; try with_reducible rfl)
        try simp only [List.setIfInBounds_toArray, List.set_cons_zero, List.set_cons_succ]
        refine take_slot (i := 4) (d := 128) (v := ?_) rfl rfl (by kernel_rfl) (by kernel_rfl) (by kernel_rfl) (fun _ _ _ h => h) (Or.inl ⟨by rfl, ?_⟩) (by assumption) ?_
        rotate_left 1
        focus (intro wS hSw; (try dsimp only at hSw); go_simp; try with_reducible rfl)
        try simp only [List.setIfInBounds_toArray, List.set_cons_zero, List.set_cons_succ]
        refine take_slot (i := 5) (d := 129) (v := ?_) rfl rfl (by kernel_rfl) (by kernel_rfl) (by kernel_rfl) (fun _ _ _ h => h) (Or.inl ⟨by rfl, ?_⟩) (by assumption) ?_
        rotate_left 1
        focus (intro wS hSw; (try dsimp only at hSw); go_simp; try with_reducible rfl)
        try simp only [List.setIfInBounds_toArray, List.set_cons_zero, List.set_cons_succ]
        refine wpAnyH_ready (rs := [6]) (by kernel_rfl) (by simp) ?_
        refine AllReadyH.cons rfl (fun K hK => ?_) AllReadyH.nil
        skip
        go_simp
        (refine (RV.out (by simp) _ _ (HL.out _ (hB.trans (hHeld.2.2.mono hB.size)))).mono ?_)
        rintro e W7 ⟨rfl, hb⟩
        refine hK.out _ _ ?_ (fun hHeld => ?_)
        focus (exact SB.out _ (hHeld.2.2.trans (hb.mono hHeld.2.2.size)))
        clear hK K
        try simp only [Act.put, List.setIfInBounds_toArray, List.set_cons_zero, List.set_cons_succ]
        refine take_slot (i := 7) (d := 131) (v := ?_) rfl rfl (by kernel_rfl) (by kernel_rfl) (by kernel_rfl) (fun _ _ _ h => h) (Or.inl ⟨by rfl, ?_⟩) (by assumption) ?_
        rotate_left 1
        focus (intro wS hSw; (try dsimp only at hSw); go_simp; try with_reducible rfl)
        try simp only [List.setIfInBounds_toArray, List.set_cons_zero, List.set_cons_succ]
        refine take_slot (i := 8) (d := 132) (v := ?_) rfl rfl (by kernel_rfl) (by kernel_rfl) (by kernel_rfl) (fun _ _ _ h => h) (Or.inl ⟨by rfl, ?_⟩) (by assumption) ?_
        rotate_left 1
        focus (intro wS hSw; (try dsimp only at hSw); go_simp; try with_reducible rfl)
        try simp only [List.setIfInBounds_toArray, List.set_cons_zero, List.set_cons_succ]
        refine wpAnyH_done (by kernel_rfl) ?_ _
        replace hb := hHeld.2.2
        clear hHeld SB
        replace hX := hX.trans (hb.mono hX.size)
        replace hZ := hZ.trans (hb.mono hZ.size)
        replace A0 := cell_next hb nA A0
        replace A1 := cell_next hb nA A1
        replace A2 := cell_next hb nA A2
        replace A3 := cell_next hb nA A3
        replace nA := Nat.lt_of_lt_of_le nA hb.size
        replace V0 := cell_next hb nV V0
        replace V1 := cell_next hb nV V1
        replace nV := Nat.lt_of_lt_of_le nV hb.size
        replace L0 := cell_next hb nL L0
        replace L1 := cell_next hb nL L1
        replace nL := Nat.lt_of_lt_of_le nL hb.size
        replace hB := hB.trans (hb.mono hB.size)
        clear hb
        go_wp2_with fail
        refine (HRa.out _).mono ?_
        rintro e W8 ⟨rfl, hb⟩
        replace hX := hX.trans (hb.mono hX.size)
        replace hZ := hZ.trans (hb.mono hZ.size)
        replace A0 := cell_next hb nA A0
        replace A1 := cell_next hb nA A1
        replace A2 := cell_next hb nA A2
        replace A3 := cell_next hb nA A3
        replace nA := Nat.lt_of_lt_of_le nA hb.size
        replace V0 := cell_next hb nV V0
        replace V1 := cell_next hb nV V1
        replace nV := Nat.lt_of_lt_of_le nV hb.size
        replace L0 := cell_next hb nL L0
        replace L1 := cell_next hb nL L1
        replace nL := Nat.lt_of_lt_of_le nL hb.size
        replace hB := hB.trans (hb.mono hB.size)
        clear hb
        cases ra
        · obtain ⟨rfl, rfl, rfl⟩ := G0.out (by simp)
          go_wp2_with fail
          refine (HRb.out _).mono ?_
          rintro e W9 ⟨rfl, hb⟩
          replace hX := hX.trans (hb.mono hX.size)
          replace hZ := hZ.trans (hb.mono hZ.size)
          replace A0 := cell_next hb nA A0
          replace A1 := cell_next hb nA A1
          replace A2 := cell_next hb nA A2
          replace A3 := cell_next hb nA A3
          replace nA := Nat.lt_of_lt_of_le nA hb.size
          replace V0 := cell_next hb nV V0
          replace V1 := cell_next hb nV V1
          replace nV := Nat.lt_of_lt_of_le nV hb.size
          replace L0 := cell_next hb nL L0
          replace L1 := cell_next hb nL L1
          replace nL := Nat.lt_of_lt_of_le nL hb.size
          replace hB := hB.trans (hb.mono hB.size)
          clear hb
          cases rb
          · obtain ⟨rfl, rfl⟩ := K0.out (by simp)
            go_wp2_with fail
            refine (HK.out _).mono ?_
            rintro e W10 ⟨rfl, hb⟩
            replace hX := hX.trans (hb.mono hX.size)
            replace hZ := hZ.trans (hb.mono hZ.size)
            replace A0 := cell_next hb nA A0
            replace A1 := cell_next hb nA A1
            replace A2 := cell_next hb nA A2
            replace A3 := cell_next hb nA A3
            replace nA := Nat.lt_of_lt_of_le nA hb.size
            replace V0 := cell_next hb nV V0
            replace V1 := cell_next hb nV V1
            replace nV := Nat.lt_of_lt_of_le nV hb.size
            replace L0 := cell_next hb nL L0
            replace L1 := cell_next hb nL L1
            replace nL := Nat.lt_of_lt_of_le nL hb.size
            replace hB := hB.trans (hb.mono hB.size)
            clear hb
            go_wp2_with fail
            go_ret
            exact ⟨rfl, hB⟩
          · obtain rfl := K1.out (by simp)
            go_wp2_with fail
            refine (RW.out (by simp) _ _ (HL.out _ hB)).mono ?_
            rintro e W10 ⟨vY, rfl, ownY, hb⟩
            replace hX := hX.trans (hb.mono hX.size)
            replace hZ := hZ.trans (hb.mono hZ.size)
            replace A0 := cell_next hb nA A0
            replace A1 := cell_next hb nA A1
            replace A2 := cell_next hb nA A2
            replace A3 := cell_next hb nA A3
            replace nA := Nat.lt_of_lt_of_le nA hb.size
            replace V0 := cell_next hb nV V0
            replace V1 := cell_next hb nV V1
            replace nV := Nat.lt_of_lt_of_le nV hb.size
            replace L0 := cell_next hb nL L0
            replace L1 := cell_next hb nL L1
            replace nL := Nat.lt_of_lt_of_le nL hb.size
            replace hB := hB.trans (hb.mono hB.size)
            clear hb
            have RY := own_row _ _ rfl vY W10 ownY
            obtain ⟨AY, cY, rfl⟩ : ∃ A c, vY = .slice A m c := by obtain ⟨A, c, h, _⟩ := RY; exact ⟨A, c, by rw [h, Hm.out]⟩
            have HY := Lib.hid (fun (W : World) (h : Below W10.heap.size W10 W) => (RY.below h (Nat.le_refl _)).mono h.size)
            have hY := Below.refl W10.heap.size W10
            clear RY ownY
            go_wp2_with fail
            refine (HS.out _ _ _ (HZ.out _ hZ).set (HY.out _ hY).set).mono ?_
            rintro e W11 ⟨rfl, hb⟩
            replace hX := hX.trans (hb.mono hX.size)
            replace hZ := hZ.trans (hb.mono hZ.size)
            replace hY := hY.trans (hb.mono hY.size)
            replace A0 := cell_next hb nA A0
            replace A1 := cell_next hb nA A1
            replace A2 := cell_next hb nA A2
            replace A3 := cell_next hb nA A3
            replace nA := Nat.lt_of_lt_of_le nA hb.size
            replace V0 := cell_next hb nV V0
            replace V1 := cell_next hb nV V1
            replace nV := Nat.lt_of_lt_of_le nV hb.size
            replace L0 := cell_next hb nL L0
            replace L1 := cell_next hb nL L1
            replace nL := Nat.lt_of_lt_of_le nL hb.size
            replace hB := hB.trans (hb.mono hB.size)
            clear hb
            go_wp2_with fail
            refine (HK.out _).mono ?_
            rintro e W12 ⟨rfl, hb⟩
            replace hX := hX.trans (hb.mono hX.size)
            replace hZ := hZ.trans (hb.mono hZ.size)
            replace hY := hY.trans (hb.mono hY.size)
            replace A0 := cell_next hb nA A0
            replace A1 := cell_next hb nA A1
            replace A2 := cell_next hb nA A2
            replace A3 := cell_next hb nA A3
            replace nA := Nat.lt_of_lt_of_le nA hb.size
            replace V0 := cell_next hb nV V0
            replace V1 := cell_next hb nV V1
            replace nV := Nat.lt_of_lt_of_le nV hb.size
            replace L0 := cell_next hb nL L0
            replace L1 := cell_next hb nL L1
            replace nL := Nat.lt_of_lt_of_le nL hb.size
            replace hB := hB.trans (hb.mono hB.size)
            clear hb
            go_wp2_with fail
            go_ret
            exact ⟨rfl, hB⟩
        · go_wp2_with fail
          refine (HIa.out _).mono ?_
          rintro e w' ⟨rfl, rfl⟩
          cases ca
          · obtain ⟨rfl, rfl, rfl⟩ := G1.out (by simp) (by simp)
            go_wp2_with fail
            refine (HRb.out _).mono ?_
            rintro e W9 ⟨rfl, hb⟩
            replace hX := hX.trans (hb.mono hX.size)
            replace hZ := hZ.trans (hb.mono hZ.size)
            replace A0 := cell_next hb nA A0
            replace A1 := cell_next hb nA A1
            replace A2 := cell_next hb nA A2
            replace A3 := cell_next hb nA A3
            replace nA := Nat.lt_of_lt_of_le nA hb.size
            replace V0 := cell_next hb nV V0
            replace V1 := cell_next hb nV V1
            replace nV := Nat.lt_of_lt_of_le nV hb.size
            replace L0 := cell_next hb nL L0
            replace L1 := cell_next hb nL L1
            replace nL := Nat.lt_of_lt_of_le nL hb.size
            replace hB := hB.trans (hb.mono hB.size)
            clear hb
            cases rb
            · obtain ⟨rfl, rfl⟩ := K0.out (by simp)
              go_wp2_with fail
              refine (HK.out _).mono ?_
              rintro e W10 ⟨rfl, hb⟩
              replace hX := hX.trans (hb.mono hX.size)
              replace hZ := hZ.trans (hb.mono hZ.size)
              replace A0 := cell_next hb nA A0
              replace A1 := cell_next hb nA A1
              replace A2 := cell_next hb nA A2
              replace A3 := cell_next hb nA A3
              replace nA := Nat.lt_of_lt_of_le nA hb.size
              replace V0 := cell_next hb nV V0
              replace V1 := cell_next hb nV V1
              replace nV := Nat.lt_of_lt_of_le nV hb.size
              replace L0 := cell_next hb nL L0
              replace L1 := cell_next hb nL L1
              replace nL := Nat.lt_of_lt_of_le nL hb.size
              replace hB := hB.trans (hb.mono hB.size)
              clear hb
              go_wp2_with fail
              go_ret
              exact ⟨rfl, hB⟩
            · obtain rfl := K1.out (by simp)
              go_wp2_with fail
              refine (RW.out (by simp) _ _ (HL.out _ hB)).mono ?_
              rintro e W10 ⟨vY, rfl, ownY, hb⟩
              replace hX := hX.trans (hb.mono hX.size)
              replace hZ := hZ.trans (hb.mono hZ.size)
              replace A0 := cell_next hb nA A0
              replace A1 := cell_next hb nA A1
              replace A2 := cell_next hb nA A2
              replace A3 := cell_next hb nA A3
              replace nA := Nat.lt_of_lt_of_le nA hb.size
              replace V0 := cell_next hb nV V0
              replace V1 := cell_next hb nV V1
              replace nV := Nat.lt_of_lt_of_le nV hb.size
              replace L0 := cell_next hb nL L0
              replace L1 := cell_next hb nL L1
              replace nL := Nat.lt_of_lt_of_le nL hb.size
              replace hB := hB.trans (hb.mono hB.size)
              clear hb
              have RY := own_row _ _ rfl vY W10 ownY
              obtain ⟨AY, cY, rfl⟩ : ∃ A c, vY = .slice A m c := by obtain ⟨A, c, h, _⟩ := RY; exact ⟨A, c, by rw [h, Hm.out]⟩
              have HY := Lib.hid (fun (W : World) (h : Below W10.heap.size W10 W) => (RY.below h (Nat.le_refl _)).mono h.size)
              have hY := Below.refl W10.heap.size W10
              clear RY ownY
              go_wp2_with fail
              refine (HS.out _ _ _ (HZ.out _ hZ).set (HY.out _ hY).set).mono ?_
              rintro e W11 ⟨rfl, hb⟩
              replace hX := hX.trans (hb.mono hX.size)
              replace hZ := hZ.trans (hb.mono hZ.size)
              replace hY := hY.trans (hb.mono hY.size)
              replace A0 := cell_next hb nA A0
              replace A1 := cell_next hb nA A1
              replace A2 := cell_next hb nA A2
              replace A3 := cell_next hb nA A3
              replace nA := Nat.lt_of_lt_of_le nA hb.size
              replace V0 := cell_next hb nV V0
              replace V1 := cell_next hb nV V1
              replace nV := Nat.lt_of_lt_of_le nV hb.size
              replace L0 := cell_next hb nL L0
              replace L1 := cell_next hb nL L1
              replace nL := Nat.lt_of_lt_of_le nL hb.size
              replace hB := hB.trans (hb.mono hB.size)
              clear hb
              go_wp2_with fail
              refine (HK.out _).mono ?_
              rintro e W12 ⟨rfl, hb⟩
              replace hX := hX.trans (hb.mono hX.size)
              replace hZ := hZ.trans (hb.mono hZ.size)
              replace hY := hY.trans (hb.mono hY.size)
              replace A0 := cell_next hb nA A0
              replace A1 := cell_next hb nA A1
              replace A2 := cell_next hb nA A2
              replace A3 := cell_next hb nA A3
              replace nA := Nat.lt_of_lt_of_le nA hb.size
              replace V0 := cell_next hb nV V0
              replace V1 := cell_next hb nV V1
              replace nV := Nat.lt_of_lt_of_le nV hb.size
              replace L0 := cell_next hb nL L0
              replace L1 := cell_next hb nL L1
              replace nL := Nat.lt_of_lt_of_le nL hb.size
              replace hB := hB.trans (hb.mono hB.size)
              clear hb
              go_wp2_with fail
              go_ret
              exact ⟨rfl, hB⟩
          · go_wp2_with fail
            refine (HIb.out _).mono ?_
            rintro e w' ⟨rfl, rfl⟩
            cases cb
            · obtain ⟨rfl, rfl, rfl⟩ := G2.out (by simp) (by simp) (by simp)
              go_wp2_with fail
              refine (HRb.out _).mono ?_
              rintro e W9 ⟨rfl, hb⟩
              replace hX := hX.trans (hb.mono hX.size)
              replace hZ := hZ.trans (hb.mono hZ.size)
              replace A0 := cell_next hb nA A0
              replace A1 := cell_next hb nA A1
              replace A2 := cell_next hb nA A2
              replace A3 := cell_next hb nA A3
              replace nA := Nat.lt_of_lt_of_le nA hb.size
              replace V0 := cell_next hb nV V0
              replace V1 := cell_next hb nV V1
              replace nV := Nat.lt_of_lt_of_le nV hb.size
              replace L0 := cell_next hb nL L0
              replace L1 := cell_next hb nL L1
              replace nL := Nat.lt_of_lt_of_le nL hb.size
              replace hB := hB.trans (hb.mono hB.size)
              clear hb
              cases rb
              · obtain ⟨rfl, rfl⟩ := K0.out (by simp)
                go_wp2_with fail
                refine (HK.out _).mono ?_
                rintro e W10 ⟨rfl, hb⟩
                replace hX := hX.trans (hb.mono hX.size)
                replace hZ := hZ.trans (hb.mono hZ.size)
                replace A0 := cell_next hb nA A0
                replace A1 := cell_next hb nA A1
                replace A2 := cell_next hb nA A2
                replace A3 := cell_next hb nA A3
                replace nA := Nat.lt_of_lt_of_le nA hb.size
                replace V0 := cell_next hb nV V0
                replace V1 := cell_next hb nV V1
                replace nV := Nat.lt_of_lt_of_le nV hb.size
                replace L0 := cell_next hb nL L0
                replace L1 := cell_next hb nL L1
                replace nL := Nat.lt_of_lt_of_le nL hb.size
                replace hB := hB.trans (hb.mono hB.size)
                clear hb
                go_wp2_with fail
                go_ret
                exact ⟨rfl, hB⟩
              · obtain rfl := K1.out (by simp)
                go_wp2_with fail
                refine (RW.out (by simp) _ _ (HL.out _ hB)).mono ?_
                rintro e W10 ⟨vY, rfl, ownY, hb⟩
                replace hX := hX.trans (hb.mono hX.size)
                replace hZ := hZ.trans (hb.mono hZ.size)
                replace A0 := cell_next hb nA A0
                replace A1 := cell_next hb nA A1
                replace A2 := cell_next hb nA A2
                replace A3 := cell_next hb nA A3
                replace nA := Nat.lt_of_lt_of_le nA hb.size
                replace V0 := cell_next hb nV V0
                replace V1 := cell_next hb nV V1
                replace nV := Nat.lt_of_lt_of_le nV hb.size
                replace L0 := cell_next hb nL L0
                replace L1 := cell_next hb nL L1
                replace nL := Nat.lt_of_lt_of_le nL hb.size
                replace hB := hB.trans (hb.mono hB.size)
                clear hb
                have RY := own_row _ _ rfl vY W10 ownY
                obtain ⟨AY, cY, rfl⟩ : ∃ A c, vY = .slice A m c := by obtain ⟨A, c, h, _⟩ := RY; exact ⟨A, c, by rw [h, Hm.out]⟩
                have HY := Lib.hid (fun (W : World) (h : Below W10.heap.size W10 W) => (RY.below h (Nat.le_refl _)).mono h.size)
                have hY := Below.refl W10.heap.size W10
                clear RY ownY
                go_wp2_with fail
                refine (HS.out _ _ _ (HZ.out _ hZ).set (HY.out _ hY).set).mono ?_
                rintro e W11 ⟨rfl, hb⟩
                replace hX := hX.trans (hb.mono hX.size)
                replace hZ := hZ.trans (hb.mono hZ.size)
                replace hY := hY.trans (hb.mono hY.size)
                replace A0 := cell_next hb nA A0
                replace A1 := cell_next hb nA A1
                replace A2 := cell_next hb nA A2
                replace A3 := cell_next hb nA A3
                replace nA := Nat.lt_of_lt_of_le nA hb.size
                replace V0 := cell_next hb nV V0
                replace V1 := cell_next hb nV V1
                replace nV := Nat.lt_of_lt_of_le nV hb.size
                replace L0 := cell_next hb nL L0
                replace L1 := cell_next hb nL L1
                replace nL := Nat.lt_of_lt_of_le nL hb.size
                replace hB := hB.trans (hb.mono hB.size)
                clear hb
                go_wp2_with fail
                refine (HK.out _).mono ?_
                rintro e W12 ⟨rfl, hb⟩
                replace hX := hX.trans (hb.mono hX.size)
                replace hZ := hZ.trans (hb.mono hZ.size)
                replace hY := hY.trans (hb.mono hY.size)
                replace A0 := cell_next hb nA A0
                replace A1 := cell_next hb nA A1
                replace A2 := cell_next hb nA A2
                replace A3 := cell_next hb nA A3
                replace nA := Nat.lt_of_lt_of_le nA hb.size
                replace V0 := cell_next hb nV V0
                replace V1 := cell_next hb nV V1
                replace nV := Nat.lt_of_lt_of_le nV hb.size
                replace L0 := cell_next hb nL L0
                replace L1 := cell_next hb nL L1
                replace nL := Nat.lt_of_lt_of_le nL hb.size
                replace hB := hB.trans (hb.mono hB.size)
                clear hb
                go_wp2_with fail
                go_ret
                exact ⟨rfl, hB⟩
            · obtain ⟨rfl, rfl, rfl⟩ := G3.out (by simp) (by simp) (by simp)
              go_wp2_with fail
              have SB : Hid (∀ W' : World, Below W8.heap.size W8 W' → (fun w' => w'.cell? ⟨q5, 0, none⟩ = some (.int .i64 l1) ∧ w'.cell? ⟨q5, 1, none⟩ = some (.int .i64 l2) ∧ w'.cell? ⟨w.heap.size, 0, none⟩ = some (.int .i64 al) ∧ w'.cell? ⟨w.heap.size, 1, none⟩ = some (.int .i64 ah) ∧ Below W8.heap.size W8 w') W') := Lib.hid (fun W' h => ⟨cell_next h nL L0, cell_next h nL L1, cell_next h nA A0, cell_next h nA A1, h⟩)
              refine wp_region_held_drew (S := fun w' => w'.cell? ⟨q5, 0, none⟩ = some (.int .i64 l1) ∧ w'.cell? ⟨q5, 1, none⟩ = some (.int .i64 l2) ∧ w'.cell? ⟨w.heap.size, 0, none⟩ = some (.int .i64 al) ∧ w'.cell? ⟨w.heap.size, 1, none⟩ = some (.int .i64 ah) ∧ Below W8.heap.size W8 w') (by kernel_rfl) ?_ (fun hHeld => ?_)
              focus (exact SB.out _ (Below.drew (Below.refl _ _)))
              refine take_slot (i := 0) (d := 133) (v := ?_) rfl rfl (by kernel_rfl) (by kernel_rfl) (by kernel_rfl) (fun _ _ _ h => h) (Or.inl ⟨by rfl, ?_⟩) (by assumption) ?_
              rotate_left 1
              focus (intro wS hSw; (try dsimp only at hSw); go_simp; try with_reducible rfl)
              try simp only [List.setIfInBounds_toArray, List.set_cons_zero, List.set_cons_succ]
              refine take_slot (i := 1) (d := 134) (v := ?_) rfl rfl (by kernel_rfl) (by kernel_rfl) (by kernel_rfl) (fun _ _ _ h => h) (Or.inl ⟨by rfl, ?_⟩) (by assumption) ?_
              rotate_left 1
              focus (intro wS hSw; (try dsimp only at hSw); go_simp; try with_reducible rfl)
              try simp only [List.setIfInBounds_toArray, List.set_cons_zero, List.set_cons_succ]
              refine take_slot (i := 2) (d := 135) (v := ?_) rfl rfl (by kernel_rfl) (by kernel_rfl) (by kernel_rfl) (fun _ _ _ h => h) (Or.inl ⟨by rfl, ?_⟩) (by assumption) ?_
              rotate_left 1
              focus (intro wS hSw; (try dsimp only at hSw); go_simp; try with_reducible rfl)
              try simp only [List.setIfInBounds_toArray, List.set_cons_zero, List.set_cons_succ]
              refine take_slot (i := 3) (d := 136) (v := ?_) rfl rfl (by kernel_rfl) (by kernel_rfl) (by kernel_rfl) (fun _ _ _ h => h) (Or.inl ⟨by rfl, ?_⟩) (by assumption) ?_
              rotate_left 1
              focus (intro wS hSw; (try dsimp only at hSw); go_simp; try with_reducible rfl)
              try simp only [List.setIfInBounds_toArray, List.set_cons_zero, List.set_cons_succ]
              refine take_slot (i := 4) (d := 137) (v := ?_) rfl rfl (by kernel_rfl) (by kernel_rfl) (by kernel_rfl) (fun _ _ _ h => h) (Or.inl ⟨by rfl, ?_⟩) (by assumption) ?_
              rotate_left 1
              focus (intro wS hSw; (try dsimp only at hSw); go_simp; try with_reducible rfl)
              try simp only [List.setIfInBounds_toArray, List.set_cons_zero, List.set_cons_succ]
              refine take_slot (i := 5) (d := 138) (v := ?_) rfl rfl (by kernel_rfl) (by kernel_rfl) (by kernel_rfl) (fun _ _ _ h => h) (Or.inl ⟨by rfl, ?_⟩) (by assumption) ?_
              rotate_left 1
              focus (intro wS hSw; (try dsimp only at hSw); go_simp; try with_reducible rfl)
              try simp only [List.setIfInBounds_toArray, List.set_cons_zero, List.set_cons_succ]
              refine take_slot (i := 6) (d := 139) (v := ?_) rfl rfl (by kernel_rfl) (by kernel_rfl) (by kernel_rfl) (fun _ _ _ h => h) (Or.inl ⟨by rfl, ?_⟩) (by assumption) ?_
              rotate_left 1
              focus (intro wS hSw; (try dsimp only at hSw); go_simp; try with_reducible rfl)
              try simp only [List.setIfInBounds_toArray, List.set_cons_zero, List.set_cons_succ]
              refine wpAnyH_ready (rs := [7]) (by kernel_rfl) (by simp) ?_
              refine AllReadyH.cons rfl (fun K hK => ?_) AllReadyH.nil
              skip
              go_simp
              (refine (RL.out (by simp) (by simp) (by simp) _ _ (HL.out _ (hB.trans (hHeld.2.2.2.2.mono hB.size)))).mono ?_)
              rintro e W9 ⟨rfl, hb⟩
              refine hK.out _ _ ?_ (fun hHeld => ?_)
              focus (exact SB.out _ (hHeld.2.2.2.2.trans (hb.mono hHeld.2.2.2.2.size)))
              clear hK K
              try simp only [Act.put, List.setIfInBounds_toArray, List.set_cons_zero, List.set_cons_succ]
              refine take_slot (i := 8) (d := 141) (v := ?_) rfl rfl (by kernel_rfl) (by kernel_rfl) (by kernel_rfl) (fun _ _ _ h => h) (Or.inl ⟨by rfl, ?_⟩) (by assumption) ?_
              rotate_left 1
              focus (intro wS hSw; (try dsimp only at hSw); go_simp; try with_reducible rfl)
              try simp only [List.setIfInBounds_toArray, List.set_cons_zero, List.set_cons_succ]
              refine take_slot (i := 9) (d := 142) (v := ?_) rfl rfl (by kernel_rfl) (by kernel_rfl) (by kernel_rfl) (fun _ _ _ h => h) (Or.inl ⟨by rfl, ?_⟩) (by assumption) ?_
              rotate_left 1
              focus (intro wS hSw; (try dsimp only at hSw); go_simp; try with_reducible rfl)
              try simp only [List.setIfInBounds_toArray, List.set_cons_zero, List.set_cons_succ]
              refine wpAnyH_done (by kernel_rfl) ?_ _
              replace hb := hHeld.2.2.2.2
              clear hHeld SB
              replace hX := hX.trans (hb.mono hX.size)
              replace hZ := hZ.trans (hb.mono hZ.size)
              replace A0 := cell_next hb nA A0
              replace A1 := cell_next hb nA A1
              replace A2 := cell_next hb nA A2
              replace A3 := cell_next hb nA A3
              replace nA := Nat.lt_of_lt_of_le nA hb.size
              replace V0 := cell_next hb nV V0
              replace V1 := cell_next hb nV V1
              replace nV := Nat.lt_of_lt_of_le nV hb.size
              replace L0 := cell_next hb nL L0
              replace L1 := cell_next hb nL L1
              replace nL := Nat.lt_of_lt_of_le nL hb.size
              replace hB := hB.trans (hb.mono hB.size)
              clear hb
              go_wp2_with fail
              refine (HRb.out _).mono ?_
              rintro e W10 ⟨rfl, hb⟩
              replace hX := hX.trans (hb.mono hX.size)
              replace hZ := hZ.trans (hb.mono hZ.size)
              replace A0 := cell_next hb nA A0
              replace A1 := cell_next hb nA A1
              replace A2 := cell_next hb nA A2
              replace A3 := cell_next hb nA A3
              replace nA := Nat.lt_of_lt_of_le nA hb.size
              replace V0 := cell_next hb nV V0
              replace V1 := cell_next hb nV V1
              replace nV := Nat.lt_of_lt_of_le nV hb.size
              replace L0 := cell_next hb nL L0
              replace L1 := cell_next hb nL L1
              replace nL := Nat.lt_of_lt_of_le nL hb.size
              replace hB := hB.trans (hb.mono hB.size)
              clear hb
              cases rb
              · obtain ⟨rfl, rfl⟩ := K0.out (by simp)
                go_wp2_with fail
                refine (HK.out _).mono ?_
                rintro e W11 ⟨rfl, hb⟩
                replace hX := hX.trans (hb.mono hX.size)
                replace hZ := hZ.trans (hb.mono hZ.size)
                replace A0 := cell_next hb nA A0
                replace A1 := cell_next hb nA A1
                replace A2 := cell_next hb nA A2
                replace A3 := cell_next hb nA A3
                replace nA := Nat.lt_of_lt_of_le nA hb.size
                replace V0 := cell_next hb nV V0
                replace V1 := cell_next hb nV V1
                replace nV := Nat.lt_of_lt_of_le nV hb.size
                replace L0 := cell_next hb nL L0
                replace L1 := cell_next hb nL L1
                replace nL := Nat.lt_of_lt_of_le nL hb.size
                replace hB := hB.trans (hb.mono hB.size)
                clear hb
                go_wp2_with fail
                go_ret
                exact ⟨rfl, hB⟩
              · obtain rfl := K1.out (by simp)
                go_wp2_with fail
                refine (RW.out (by simp) _ _ (HL.out _ hB)).mono ?_
                rintro e W11 ⟨vY, rfl, ownY, hb⟩
                replace hX := hX.trans (hb.mono hX.size)
                replace hZ := hZ.trans (hb.mono hZ.size)
                replace A0 := cell_next hb nA A0
                replace A1 := cell_next hb nA A1
                replace A2 := cell_next hb nA A2
                replace A3 := cell_next hb nA A3
                replace nA := Nat.lt_of_lt_of_le nA hb.size
                replace V0 := cell_next hb nV V0
                replace V1 := cell_next hb nV V1
                replace nV := Nat.lt_of_lt_of_le nV hb.size
                replace L0 := cell_next hb nL L0
                replace L1 := cell_next hb nL L1
                replace nL := Nat.lt_of_lt_of_le nL hb.size
                replace hB := hB.trans (hb.mono hB.size)
                clear hb
                have RY := own_row _ _ rfl vY W11 ownY
                obtain ⟨AY, cY, rfl⟩ : ∃ A c, vY = .slice A m c := by obtain ⟨A, c, h, _⟩ := RY; exact ⟨A, c, by rw [h, Hm.out]⟩
                have HY := Lib.hid (fun (W : World) (h : Below W11.heap.size W11 W) => (RY.below h (Nat.le_refl _)).mono h.size)
                have hY := Below.refl W11.heap.size W11
                clear RY ownY
                go_wp2_with fail
                refine (HS.out _ _ _ (HZ.out _ hZ).set (HY.out _ hY).set).mono ?_
                rintro e W12 ⟨rfl, hb⟩
                replace hX := hX.trans (hb.mono hX.size)
                replace hZ := hZ.trans (hb.mono hZ.size)
                replace hY := hY.trans (hb.mono hY.size)
                replace A0 := cell_next hb nA A0
                replace A1 := cell_next hb nA A1
                replace A2 := cell_next hb nA A2
                replace A3 := cell_next hb nA A3
                replace nA := Nat.lt_of_lt_of_le nA hb.size
                replace V0 := cell_next hb nV V0
                replace V1 := cell_next hb nV V1
                replace nV := Nat.lt_of_lt_of_le nV hb.size
                replace L0 := cell_next hb nL L0
                replace L1 := cell_next hb nL L1
                replace nL := Nat.lt_of_lt_of_le nL hb.size
                replace hB := hB.trans (hb.mono hB.size)
                clear hb
                go_wp2_with fail
                refine (HK.out _).mono ?_
                rintro e W13 ⟨rfl, hb⟩
                replace hX := hX.trans (hb.mono hX.size)
                replace hZ := hZ.trans (hb.mono hZ.size)
                replace hY := hY.trans (hb.mono hY.size)
                replace A0 := cell_next hb nA A0
                replace A1 := cell_next hb nA A1
                replace A2 := cell_next hb nA A2
                replace A3 := cell_next hb nA A3
                replace nA := Nat.lt_of_lt_of_le nA hb.size
                replace V0 := cell_next hb nV V0
                replace V1 := cell_next hb nV V1
                replace nV := Nat.lt_of_lt_of_le nV hb.size
                replace L0 := cell_next hb nL L0
                replace L1 := cell_next hb nL L1
                replace nL := Nat.lt_of_lt_of_le nL hb.size
                replace hB := hB.trans (hb.mono hB.size)
                clear hb
                go_wp2_with fail
                go_ret
                exact ⟨rfl, hB⟩

theorem tables_walk (v : Value) (xs : List (Int × Int)) (x al ah bl bh : Int) (w : World) (hv : ArgAt w v xs) :
    Calls Try.prog 8 #[v, .int .i64 x, .agg #[.int .i64 al, .int .i64 ah, .int .i64 bl, .int .i64 bh]] w fun e w' => e = .returned (.bool true) ∧ Below w.heap.size w w' := by
  by_cases hl : xs.length ≤ 80
  · by_cases ht : tabE xs = 0
    · rcases hv with ⟨⟨A, c, rfl⟩, rfl⟩ | ⟨g, off, c, rfl, hc, hg, hr⟩
      · exact absurd (tabOk_of ht).1 (by simp)
      · exact tables_good xs g off c x al ah bl bh w hc hg hr ht
    · exact tables_bad v xs x al ah bl bh w hv hl ht
  · obtain ⟨A, c, rfl⟩ := hv.sliceT
    exact tables_big A _ c x al ah bl bh w (by omega)
end Go.Proofs.Ytfkkddbghogffaa
