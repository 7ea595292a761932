/- Contracts: a range times a fraction, errors too; lists of ranges: whether they are valid. -/
import Derived.Test.YtbmjkmepjggkfaaD2
import Derived.Test.YtbmjkmepjggkfaaT8
import Derived.Test.YtbmjkmepjggkfaaJ13
namespace Go.Proofs.Ytbmjkmepjggkfaa
open Go.RowKit Go.Lib Go.Shelf
set_option linter.unusedVariables false
set_option linter.unusedSimpArgs false
attribute [local go_sem ↓] Go.wp_at_zero Go.wp_at_succ

/-- a range times a fraction -/
def scaleP (a1 a2 n d : Int) : Int × Int := (min (qLo a1 n d) (qLo a2 n d), max (qHi a1 n d) (qHi a2 n d))
def frB (n d : Int) : Bool := decide (-1000000000 ≤ n) && decide (n ≤ 1000000000) && decide (1 ≤ d) && decide (d ≤ 1000000000)
def scL (a1 a2 n d : Int) : Int := if vrB a1 a2 then (if frB n d then fitL (scaleP a1 a2 n d).1 (scaleP a1 a2 n d).2 else 0) else 0
def scH (a1 a2 n d : Int) : Int := if vrB a1 a2 then (if frB n d then fitH (scaleP a1 a2 n d).1 (scaleP a1 a2 n d).2 else 0) else 0
def scE (a1 a2 n d : Int) : Int := if vrB a1 a2 then (if frB n d then fitE (scaleP a1 a2 n d).1 (scaleP a1 a2 n d).2 else 3) else 2

/-- the error of a list of ranges, and of one that must not be empty -/
def vrsB (xs : List (Int × Int)) : Bool := xs.all fun p => vrB p.1 p.2
def chkL (xs : List (Int × Int)) : Int := if 100 < xs.length then 5 else if vrsB xs then 0 else 2
def chkS (xs : List (Int × Int)) : Int := if chkL xs = 0 then (if xs.length = 0 then 4 else 0) else chkL xs
theorem vrsB_snoc (xs : List (Int × Int)) (p : Int × Int) : vrsB (xs ++ [p]) = (vrsB xs && vrB p.1 p.2) := by simp [vrsB, List.all_append]
theorem chkL_no {xs : List (Int × Int)} (hl : xs.length ≤ 100) {k : Nat} {p : Int × Int} (h : xs[k]? = some p) (hp : vrB p.1 p.2 = false) : chkL xs = 2 := by
  have : vrsB xs = false := by
    rw [Bool.eq_false_iff]
    intro ha
    have := List.all_eq_true.1 ha p (List.mem_of_getElem? h)
    rw [hp] at this
    cases this
  unfold chkL
  rw [if_neg (by omega), this]
  rfl
theorem chkL_yes {xs : List (Int × Int)} (hl : xs.length ≤ 100) (h : vrsB xs = true) : chkL xs = 0 := by unfold chkL; rw [if_neg (by omega), h]; rfl

set_option maxRecDepth 20000 in
set_option maxHeartbeats 1000000 in
theorem checkList_any (v : Value) (xs : List (Int × Int)) (w : World) (hv : SetAt w.heap.size w v xs) :
    Calls Try.prog 136 #[v] w fun e w' => e = .returned (.int .i64 (chkL xs)) ∧ Below w.heap.size w w' := by
  obtain ⟨A, c, rfl, hr⟩ := hv
  by_cases hbig : 100 < xs.length
  · have E : Hid (chkL xs = 5) := Lib.hid (by unfold chkL; rw [if_pos hbig])
    generalize xs.length = n at *
    go_enter Try.func136, Try.ntmps136
    go_wp2_with fail
    go_ret
    exact ⟨ret_int E.out.symm, Below.refl _ _⟩
  · have HN := Lib.hid (fun (k : Nat) (p : Int × Int) (h : xs[k]? = some p) hp => chkL_no (by omega) h hp)
    have HY := Lib.hid (fun h => chkL_yes (xs := xs) (by omega) h)
    generalize chkL xs = re at *
    obtain ⟨n, hn⟩ : ∃ n, xs.length = n := ⟨_, rfl⟩
    rw [hn] at hbig hr ⊢
    have Hn := Lib.hid hn
    have HR := Lib.hid hr
    clear hr hn
    go_enter Try.func136, Try.ntmps136
    go_wp2_with fail
    go_loopw [10] (fun i wr => ∃ k : Nat, k ≤ n ∧ i = .int .i64 k ∧ Hid (vrsB (xs.take k) = true) ∧ Below w.heap.size w wr) (fun i _ => n - (RowKit.intOf i).toNat)
    case atStart => exact ⟨0, Nat.zero_le _, rfl, Lib.hid rfl, Below.refl _ _⟩
    case round =>
      obtain ⟨k, hk, rfl, ho, hbr⟩ := hrel
      by_cases hlt : (k : Int) < (n : Int)
      · obtain ⟨p, hp⟩ : ∃ p, xs[k]? = some p := ⟨_, List.getElem?_eq_getElem (by rw [Hn.out]; omega)⟩
        obtain ⟨g, off, rfl, hg, hc⟩ := HR.out (by omega)
        obtain ⟨q0, q1⟩ := (hc.below hbr hg) k p hp
        have HNk := Lib.hid (HN.out k p hp)
        have hok : Hid (vrsB (xs.take (k + 1)) = vrB p.1 p.2) := Lib.hid (by rw [take_snoc' xs k p hp, vrsB_snoc, ho.out]; rfl)
        have c1 := Lib.hid (validRange_any p.1 p.2)
        clear hc hp
        generalize vrB p.1 p.2 = b at *
        cases b
        · have E := Lib.hid (HNk.out rfl)
          go_wp2_with fail
          refine (c1.out _).mono ?_
          rintro e w1 ⟨rfl, hb⟩
          have hB := hbr.trans ((below1 hb).mono hbr.size)
          clear hb
          go_wp2_with fail
          go_ret
          exact ⟨ret_int E.out.symm, hB⟩
        · go_wp2_with fail
          refine (c1.out _).mono ?_
          rintro e w1 ⟨rfl, hb⟩
          have hB := hbr.trans ((below1 hb).mono hbr.size)
          clear hb q0 q1
          go_wp2_with fail
          go_roundw
          case rel => exact ⟨k + 1, by omega, by go_num, hok, hB⟩
          case measure => simp [RowKit.intOf]; omega
      · obtain rfl : k = n := by omega
        have E : Hid (re = 0) := Lib.hid (HY.out (by have h := ho.out; rwa [List.take_of_length_le (by rw [Hn.out]; exact Nat.le_refl _)] at h))
        go_wp2_with fail
        go_ret
        exact ⟨ret_int E.out.symm, hbr⟩

set_option maxRecDepth 20000 in
set_option maxHeartbeats 1000000 in
theorem checkSome_any (v : Value) (xs : List (Int × Int)) (w : World) (hv : SetAt w.heap.size w v xs) :
    Calls Try.prog 126 #[v] w fun e w' => e = .returned (.int .i64 (chkS xs)) ∧ Below w.heap.size w w' := by
  have c1 := Lib.hid (checkList_any v xs w hv)
  obtain ⟨A, c, rfl, hr⟩ := hv
  have E : Hid (chkS xs = if chkL xs = 0 then (if xs.length = 0 then 4 else 0) else chkL xs) := Lib.hid rfl
  generalize chkS xs = rs at *
  generalize chkL xs = re at *
  generalize xs.length = n at *
  clear hr
  by_cases h0 : re = 0
  · subst h0
    by_cases hn : n = 0
    · subst hn
      go_enter Try.func126, Try.ntmps126
      go_wp2_with fail
      refine c1.out.mono ?_
      rintro e w1 ⟨rfl, hb⟩
      go_wp2_with fail
      go_ret
      exact ⟨ret_int (by rw [E.out]; rfl), hb⟩
    · have hn' : ((n : Int) == 0) = false := by simpa using hn
      have HN := Lib.hid hn
      clear hn
      go_enter Try.func126, Try.ntmps126
      go_wp2_with fail
      refine c1.out.mono ?_
      rintro e w1 ⟨rfl, hb⟩
      go_wp2_with fail
      go_ret
      exact ⟨ret_int (by have h := E.out; simp [HN.out] at h; rw [h]), hb⟩
  · have hre : (re != 0) = true := by simpa using h0
    have H0 := Lib.hid h0
    clear h0
    go_enter Try.func126, Try.ntmps126
    go_wp2_with fail
    refine c1.out.mono ?_
    rintro e w1 ⟨rfl, hb⟩
    go_wp2_with fail
    go_ret
    exact ⟨ret_int (by rw [E.out, if_neg H0.out]), hb⟩
end Go.Proofs.Ytbmjkmepjggkfaa

