/- Contracts: a range times a fraction, errors too; lists of ranges: whether they are valid. -/
import Derived.Test.YtdlmkjllcejoaaaD2
import Derived.Test.YtdlmkjllcejoaaaT8
import Derived.Test.YtdlmkjllcejoaaaJ13
namespace Go.Proofs.Ytdlmkjllcejoaaa
open Go.RowKit Go.Lib Go.Shelf
set_option linter.unusedVariables false
set_option linter.unusedSimpArgs false
attribute [local go_sem ↓] Go.wp_at_zero Go.wp_at_succ

/-- a range times a fraction -/
def scaleP (a1 a2 n d : Int) : Int × Int := (min (qLo a1 n d) (qLo a2 n d), max (qHi a1 n d) (qHi a2 n d))
def frB (n d : Int) : Bool := decide (-1000000000 ≤ n) && decide (n ≤ 1000000000) && decide (1 ≤ d) && decide (d ≤ 1000000000)
def scL (a1 a2 n d : Int) : Int := if vrB a1 a2 then (if frB n d then fitL (scaleP a1 a2 n d).1 (scaleP a1 a2 n d).2 else 0) else 0
def scH (a1 a2 n d : Int) : Int := if vrB a1 a2 then (if frB n d then fitH (scaleP a1 a2 n d).1 (scaleP a1 a2 n d).2 else 0) else 0
def scE (a1 a2 n d : Int) : Int := if vrB a1 a2 then (if frB n d then fitE (scaleP a1 a2 n d).1 (scaleP a1 a2 n d).2 else 3) else 2

set_option maxRecDepth 20000 in
set_option maxHeartbeats 1000000 in
theorem scale_any (a1 a2 n d : Int) (w : World) :
    Calls Try.prog 169 #[.agg #[.int .i64 a1, .int .i64 a2], .int .i64 n, .int .i64 d] w fun e w' => e = .returned (.tuple #[.agg #[.int .i64 (scL a1 a2 n d), .int .i64 (scH a1 a2 n d)], .int .i64 (scE a1 a2 n d)]) ∧ Below w.heap.size w w' := by
  have c1 := Lib.hid (validRange_any a1 a2)
  by_cases ha : vrB a1 a2 = true
  · by_cases hf : frB n d = true
    · have hv := vrB_of' ha
      have hf' : -1000000000 ≤ n ∧ n ≤ 1000000000 ∧ 1 ≤ d ∧ d ≤ 1000000000 := by have := hf; simp [frB] at this; omega
      obtain ⟨f1, f2, f3, f4⟩ := hf'
      obtain ⟨v1, v2, v3⟩ := hv
      have h := scale_ok a1 a2 n d ha f1 f2 f3 f4 (divide_any a1 n d ⟨by omega, by omega⟩ ⟨by omega, by omega⟩ ⟨by omega, by omega⟩ (by omega)) (divide_any a2 n d ⟨by omega, by omega⟩ ⟨by omega, by omega⟩ ⟨by omega, by omega⟩ (by omega)) w
      rw [show scL a1 a2 n d = fitL (scaleP a1 a2 n d).1 (scaleP a1 a2 n d).2 from by unfold scL; rw [ha, hf]; rfl, show scH a1 a2 n d = fitH (scaleP a1 a2 n d).1 (scaleP a1 a2 n d).2 from by unfold scH; rw [ha, hf]; rfl, show scE a1 a2 n d = fitE (scaleP a1 a2 n d).1 (scaleP a1 a2 n d).2 from by unfold scE; rw [ha, hf]; rfl]
      exact h
    · have hff : frB n d = false := by simpa using hf
      have E : Hid (scE a1 a2 n d = 3) := Lib.hid (by unfold scE; rw [ha, hff]; rfl)
      have E1 : Hid (scL a1 a2 n d = 0) := Lib.hid (by unfold scL; rw [ha, hff]; rfl)
      have E2 : Hid (scH a1 a2 n d = 0) := Lib.hid (by unfold scH; rw [ha, hff]; rfl)
      have hcase : (n < -1000000000) ∨ (¬ n < -1000000000 ∧ 1000000000 < n) ∨ (¬ n < -1000000000 ∧ ¬ 1000000000 < n ∧ d < 1) ∨ (¬ n < -1000000000 ∧ ¬ 1000000000 < n ∧ ¬ d < 1 ∧ 1000000000 < d) := by
        simp [frB] at hff
        omega
      rw [ha] at c1
      clear ha hf hff
      rcases hcase with h1 | ⟨h1, h2⟩ | ⟨h1, h2, h3⟩ | ⟨h1, h2, h3, h4⟩
      all_goals
        go_enter Try.func169, Try.ntmps169
        go_wp2_with fail
        refine (c1.out _).mono ?_
        rintro e w1 ⟨rfl, hb⟩
        have r0 := cell_next hb (b := w.heap.size + 1) (o := 0) (by simp <;> omega) (v := some (.int .i64 0)) (by simp [go_sem])
        have r1 := cell_next hb (b := w.heap.size + 1) (o := 1) (by simp <;> omega) (v := some (.int .i64 0)) (by simp [go_sem])
        have f0 := frozen_next hb (b := w.heap.size + 1) (o := 0) (by simp <;> omega) (v := false) (by simp [go_sem])
        have f1 := frozen_next hb (b := w.heap.size + 1) (o := 1) (by simp <;> omega) (v := false) (by simp [go_sem])
        have hB := below2 hb
        clear hb
        go_wp2_with fail
        refine bodyPost_ret (v := .tuple #[.agg #[.int .i64 0, .int .i64 0], .int .i64 3]) (by simp [results, Try.results169, go_sem, r0, r1, f0, f1]) rfl ⟨by rw [E.out, E1.out, E2.out], ?_⟩
        exact (hB.setCell (p := ⟨w.heap.size + 1, 0, none⟩) (Nat.le_succ _) _).setCell (p := ⟨w.heap.size + 1, 1, none⟩) (Nat.le_succ _) _
  · have haf : vrB a1 a2 = false := by simpa using ha
    have E : Hid (scE a1 a2 n d = 2) := Lib.hid (by unfold scE; rw [haf]; rfl)
    have E1 : Hid (scL a1 a2 n d = 0) := Lib.hid (by unfold scL; rw [haf]; rfl)
    have E2 : Hid (scH a1 a2 n d = 0) := Lib.hid (by unfold scH; rw [haf]; rfl)
    rw [haf] at c1
    clear ha haf
    go_enter Try.func169, Try.ntmps169
    go_wp2_with fail
    refine (c1.out _).mono ?_
    rintro e w1 ⟨rfl, hb⟩
    have r0 := cell_next hb (b := w.heap.size + 1) (o := 0) (by simp <;> omega) (v := some (.int .i64 0)) (by simp [go_sem])
    have r1 := cell_next hb (b := w.heap.size + 1) (o := 1) (by simp <;> omega) (v := some (.int .i64 0)) (by simp [go_sem])
    have f0 := frozen_next hb (b := w.heap.size + 1) (o := 0) (by simp <;> omega) (v := false) (by simp [go_sem])
    have f1 := frozen_next hb (b := w.heap.size + 1) (o := 1) (by simp <;> omega) (v := false) (by simp [go_sem])
    have hB := below2 hb
    clear hb
    go_wp2_with fail
    refine bodyPost_ret (v := .tuple #[.agg #[.int .i64 0, .int .i64 0], .int .i64 2]) (by simp [results, Try.results169, go_sem, r0, r1, f0, f1]) rfl ⟨by rw [E.out, E1.out, E2.out], ?_⟩
    exact (hB.setCell (p := ⟨w.heap.size + 1, 0, none⟩) (Nat.le_succ _) _).setCell (p := ⟨w.heap.size + 1, 1, none⟩) (Nat.le_succ _) _

/-- the error of a list of ranges, and of one that must not be empty -/
def vrsB (xs : List (Int × Int)) : Bool := xs.all fun p => vrB p.1 p.2
def chkL (xs : List (Int × Int)) : Int := if 100 < xs.length then 5 else if vrsB xs then 0 else 2
def chkS (xs : List (Int × Int)) : Int := if chkL xs = 0 then (if xs.length = 0 then 4 else 0) else chkL xs
theorem vrsB_snoc (xs : List (Int × Int)) (p : Int × Int) : vrsB (xs ++ [p]) = (vrsB xs && vrB p.1 p.2) := by simp [vrsB, List.all_append]
theorem chkL_no {xs : List (Int × Int)} (hl : xs.length ≤ 100) {k : Nat} {p : Int × Int} (h : xs[k]? = some p) (hp : vrB p.1 p.2 = false) : chkL xs = 2 := by
  have : vrsB xs = false := by
    rw [Bool.eq_false_iff]
    intro ha
    have := List.all_eq_true.1 ha p (List.mem_of_getElem? h)
    rw [hp] at this
    cases this
  unfold chkL
  rw [if_neg (by omega), this]
  rfl
theorem chkL_yes {xs : List (Int × Int)} (hl : xs.length ≤ 100) (h : vrsB xs = true) : chkL xs = 0 := by unfold chkL; rw [if_neg (by omega), h]; rfl

set_option maxRecDepth 20000 in
set_option maxHeartbeats 1000000 in
theorem checkList_any (v : Value) (xs : List (Int × Int)) (w : World) (hv : SetAt w.heap.size w v xs) :
    Calls Try.prog 190 #[v] w fun e w' => e = .returned (.int .i64 (chkL xs)) ∧ Below w.heap.size w w' := by
  obtain ⟨A, c, rfl, hr⟩ := hv
  by_cases hbig : 100 < xs.length
  · have E : Hid (chkL xs = 5) := Lib.hid (by unfold chkL; rw [if_pos hbig])
    generalize xs.length = n at *
    go_enter Try.func190, Try.ntmps190
    go_wp2_with fail
    go_ret
    exact ⟨ret_int E.out.symm, Below.refl _ _⟩
  · have HN := Lib.hid (fun (k : Nat) (p : Int × Int) (h : xs[k]? = some p) hp => chkL_no (by omega) h hp)
    have HY := Lib.hid (fun h => chkL_yes (xs := xs) (by omega) h)
    generalize chkL xs = re at *
    obtain ⟨n, hn⟩ : ∃ n, xs.length = n := ⟨_, rfl⟩
    rw [hn] at hbig hr ⊢
    have Hn := Lib.hid hn
    have HR := Lib.hid hr
    clear hr hn
    go_enter Try.func190, Try.ntmps190
    go_wp2_with fail
    go_loopw [10] (fun i wr => ∃ k : Nat, k ≤ n ∧ i = .int .i64 k ∧ Hid (vrsB (xs.take k) = true) ∧ Below w.heap.size w wr) (fun i _ => n - (RowKit.intOf i).toNat)
    case atStart => exact ⟨0, Nat.zero_le _, rfl, Lib.hid rfl, Below.refl _ _⟩
    case round =>
      obtain ⟨k, hk, rfl, ho, hbr⟩ := hrel
      by_cases hlt : (k : Int) < (n : Int)
      · obtain ⟨p, hp⟩ : ∃ p, xs[k]? = some p := ⟨_, List.getElem?_eq_getElem (by rw [Hn.out]; omega)⟩
        obtain ⟨g, off, rfl, hg, hc⟩ := HR.out (by omega)
        obtain ⟨q0, q1⟩ := (hc.below hbr hg) k p hp
        have HNk := Lib.hid (HN.out k p hp)
        have hok : Hid (vrsB (xs.take (k + 1)) = vrB p.1 p.2) := Lib.hid (by rw [take_snoc' xs k p hp, vrsB_snoc, ho.out]; rfl)
        have c1 := Lib.hid (validRange_any p.1 p.2)
        clear hc hp
        generalize vrB p.1 p.2 = b at *
        cases b
        · have E := Lib.hid (HNk.out rfl)
          go_wp2_with fail
          refine (c1.out _).mono ?_
          rintro e w1 ⟨rfl, hb⟩
          have hB := hbr.trans ((below1 hb).mono hbr.size)
          clear hb
          go_wp2_with fail
          go_ret
          exact ⟨ret_int E.out.symm, hB⟩
        · go_wp2_with fail
          refine (c1.out _).mono ?_
          rintro e w1 ⟨rfl, hb⟩
          have hB := hbr.trans ((below1 hb).mono hbr.size)
          clear hb q0 q1
          go_wp2_with fail
          go_roundw
          case rel => exact ⟨k + 1, by omega, by go_num, hok, hB⟩
          case measure => simp [RowKit.intOf]; omega
      · obtain rfl : k = n := by omega
        have E : Hid (re = 0) := Lib.hid (HY.out (by have h := ho.out; rwa [List.take_of_length_le (by rw [Hn.out]; exact Nat.le_refl _)] at h))
        go_wp2_with fail
        go_ret
        exact ⟨ret_int E.out.symm, hbr⟩

set_option maxRecDepth 20000 in
set_option maxHeartbeats 1000000 in
theorem checkSome_any (v : Value) (xs : List (Int × Int)) (w : World) (hv : SetAt w.heap.size w v xs) :
    Calls Try.prog 180 #[v] w fun e w' => e = .returned (.int .i64 (chkS xs)) ∧ Below w.heap.size w w' := by
  have c1 := Lib.hid (checkList_any v xs w hv)
  obtain ⟨A, c, rfl, hr⟩ := hv
  have E : Hid (chkS xs = if chkL xs = 0 then (if xs.length = 0 then 4 else 0) else chkL xs) := Lib.hid rfl
  generalize chkS xs = rs at *
  generalize chkL xs = re at *
  generalize xs.length = n at *
  clear hr
  by_cases h0 : re = 0
  · subst h0
    by_cases hn : n = 0
    · subst hn
      go_enter Try.func180, Try.ntmps180
      go_wp2_with fail
      refine c1.out.mono ?_
      rintro e w1 ⟨rfl, hb⟩
      go_wp2_with fail
      go_ret
      exact ⟨ret_int (by rw [E.out]; rfl), hb⟩
    · have hn' : ((n : Int) == 0) = false := by simpa using hn
      have HN := Lib.hid hn
      clear hn
      go_enter Try.func180, Try.ntmps180
      go_wp2_with fail
      refine c1.out.mono ?_
      rintro e w1 ⟨rfl, hb⟩
      go_wp2_with fail
      go_ret
      exact ⟨ret_int (by have h := E.out; simp [HN.out] at h; rw [h]), hb⟩
  · have hre : (re != 0) = true := by simpa using h0
    have H0 := Lib.hid h0
    clear h0
    go_enter Try.func180, Try.ntmps180
    go_wp2_with fail
    refine c1.out.mono ?_
    rintro e w1 ⟨rfl, hb⟩
    go_wp2_with fail
    go_ret
    exact ⟨ret_int (by rw [E.out, if_neg H0.out]), hb⟩
end Go.Proofs.Ytdlmkjllcejoaaa

