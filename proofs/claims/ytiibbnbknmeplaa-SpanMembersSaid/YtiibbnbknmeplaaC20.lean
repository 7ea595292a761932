/- Contracts: how many numbers a set has; the reference's membership. -/
import Derived.Test.YtiibbnbknmeplaaP8
import Derived.Test.YtiibbnbknmeplaaC18
namespace Go.Proofs.Ytiibbnbknmeplaa
open Go.RowKit Go.Lib Go.Shelf
set_option linter.unusedVariables false
set_option linter.unusedSimpArgs false
attribute [local go_sem ↓] Go.wp_at_zero Go.wp_at_succ

def cntL (xs : List (Int × Int)) : Int := xs.foldl (fun n p => n + (p.2 - p.1 + 1)) 0
def cntV (xs : List (Int × Int)) : Int := if setE xs = 0 then cntL xs else 0
theorem cntL_snoc (xs : List (Int × Int)) (p : Int × Int) : cntL (xs ++ [p]) = cntL xs + (p.2 - p.1 + 1) := by simp [cntL, List.foldl_append]
theorem cntL_bd (xs : List (Int × Int)) (h : ∀ p ∈ xs, vrB p.1 p.2 = true) : 0 ≤ cntL xs ∧ cntL xs ≤ xs.length * 2000000000000001 := by
  have : ∀ (m : Nat) (xs : List (Int × Int)), xs.length = m → (∀ p ∈ xs, vrB p.1 p.2 = true) → 0 ≤ cntL xs ∧ cntL xs ≤ xs.length * 2000000000000001 := by
    intro m
    induction m with
    | zero => intro xs hx _; obtain rfl := List.eq_nil_of_length_eq_zero hx; simp [cntL]
    | succ m ih =>
      intro xs hx hv
      rcases List.eq_nil_or_concat xs with rfl | ⟨ys, p, rfl⟩
      · simp [cntL]
      · rw [List.concat_eq_append] at *
        have h1 := ih ys (by simp at hx; exact hx) (fun q hq => hv q (by simp [hq]))
        have h2 := vrB_of (hv p (by simp))
        rw [cntL_snoc, List.length_append, List.length_singleton]
        omega
  exact this _ xs rfl h

set_option maxRecDepth 20000 in
set_option maxHeartbeats 1000000 in
theorem count_any (v : Value) (xs : List (Int × Int)) (w : World) (hv : SetAt w.heap.size w v xs) :
    Calls Try.prog 75 #[v] w fun e w' => e = .returned (.tuple #[.int .i64 (cntV xs), .int .i64 (setE xs)]) ∧ Below w.heap.size w w' := by
  have c1 := Lib.hid (checkSet_any v xs w hv)
  have EV : Hid (cntV xs = if setE xs = 0 then cntL xs else 0) := Lib.hid rfl
  obtain ⟨A, c, rfl, hr⟩ := hv
  by_cases h0 : setE xs = 0
  · obtain ⟨hl, hv0⟩ := setE_bd h0
    have HV := Lib.hid hv0
    have E : Hid (cntV xs = cntL xs) := Lib.hid (EV.out.trans (if_pos h0))
    rw [h0] at c1 ⊢
    generalize cntV xs = re at *
    obtain ⟨n, hn⟩ : ∃ n, xs.length = n := ⟨_, rfl⟩
    rw [hn] at hl hr c1 ⊢
    have Hn := Lib.hid hn
    have HR := Lib.hid hr
    clear hr hn h0 hv0 EV
    go_enter Try.func75, Try.ntmps75
    go_wp2_with fail
    refine c1.out.mono ?_
    rintro e w1 ⟨rfl, hB⟩
    go_wp2_with fail
    go_loopw [5, 15] (fun s i wr => ∃ (k : Nat) (u : Int), k ≤ n ∧ i = .int .i64 k ∧ s = .int .i64 u ∧ Hid (u = cntL (xs.take k)) ∧ Below w.heap.size w wr) (fun _ i _ => n - (intOf i).toNat)
    case atStart => exact ⟨0, 0, Nat.zero_le _, rfl, rfl, Lib.hid rfl, hB⟩
    case round =>
      clear hB
      obtain ⟨k, u, hk, rfl, rfl, hu, hbr⟩ := hrel
      by_cases hlt : (k : Int) < (n : Int)
      · obtain ⟨p, hp⟩ : ∃ p, xs[k]? = some p := ⟨_, List.getElem?_eq_getElem (by rw [Hn.out]; omega)⟩
        obtain ⟨g, off, rfl, hg, hc⟩ := HR.out (by omega)
        obtain ⟨q0, q1⟩ := (hc.below hbr hg) k p hp
        obtain ⟨p1, p2, p3⟩ := vrB_of (HV.out p (List.mem_of_getElem? hp))
        obtain ⟨b1, b2⟩ := cntL_bd (xs.take k) (fun q hq => HV.out q (List.mem_of_mem_take hq))
        have b3 : ((xs.take k).length : Int) ≤ 200 := by rw [List.length_take]; omega
        have hnext : Hid (u + (p.2 - p.1 + 1) = cntL (xs.take (k + 1))) := Lib.hid (by rw [take_snoc'' xs k p hp, cntL_snoc, hu.out])
        rw [← hu.out] at b1 b2
        have b4 : u ≤ 500000000000000000 := by omega
        have hB2 := hbr.alloc hbr.size (.cells #[.int .i64 p.1, .int .i64 p.2] 24)
        clear hc hp b2 b3
        go_wp2_with fail
        go_roundw
        case rel => exact ⟨k + 1, _, by omega, by go_num, rfl, hnext, hB2⟩
        case measure => simp [intOf]; omega
      · obtain rfl : k = n := by omega
        have E3 : Hid (re = u) := Lib.hid (by rw [E.out, hu.out, List.take_of_length_le (by rw [Hn.out]; exact Nat.le_refl _)])
        go_wp2_with fail
        go_ret2
        exact ⟨ret_ints2 E3.out.symm rfl, hbr⟩
  · have E : Hid (cntV xs = 0) := Lib.hid (EV.out.trans (if_neg h0))
    have hne : (setE xs != 0) = true := by simpa using h0
    generalize cntV xs = re at *
    generalize setE xs = s at *
    generalize xs.length = n at *
    clear h0 EV hr
    go_enter Try.func75, Try.ntmps75
    go_wp2_with fail
    refine c1.out.mono ?_
    rintro e w1 ⟨rfl, hB⟩
    go_wp2_with fail
    go_ret2
    exact ⟨ret_ints2 E.out.symm rfl, hB⟩

theorem memB_snoc (xs : List (Int × Int)) (p : Int × Int) (x : Int) : memB (xs ++ [p]) x = (memB xs x || (decide (p.1 ≤ x) && decide (x ≤ p.2))) := by simp [memB, List.any_append]
theorem memB_take_true {xs : List (Int × Int)} {x : Int} {k : Nat} (h : memB (xs.take k) x = true) : memB xs x = true := by
  unfold memB at *
  rw [List.any_eq_true] at *
  obtain ⟨p, hp, h⟩ := h
  exact ⟨p, List.mem_of_mem_take hp, h⟩

set_option maxRecDepth 20000 in
set_option maxHeartbeats 1000000 in
theorem rHas_any (v : Value) (xs : List (Int × Int)) (x : Int) (hl : xs.length ≤ 1000000) (w : World) (hv : SetAt w.heap.size w v xs) :
    Calls Try.prog 133 #[v, .int .i64 x] w fun e w' => e = .returned (.bool (memB xs x)) ∧ ∃ n, w' = w.drewN n := by
  obtain ⟨A, c, rfl, hr⟩ := hv
  obtain ⟨re, hre⟩ : ∃ r, memB xs x = r := ⟨_, rfl⟩
  rw [hre]
  have HRE := Lib.hid hre
  obtain ⟨n, hn⟩ : ∃ n, xs.length = n := ⟨_, rfl⟩
  rw [hn] at hl hr ⊢
  have Hn := Lib.hid hn
  have HR := Lib.hid hr
  clear hr hn hre
  go_enter Try.func133, Try.ntmps133
  go_wp2_with fail
  go_loopw [5] (fun i wr => ∃ (k : Nat), k ≤ n ∧ i = .int .i64 k ∧ Hid (memB (xs.take k) x = false) ∧ Hid (∃ m, wr = w.drewN m)) (fun i _ => n - (intOf i).toNat)
  case atStart => exact ⟨0, Nat.zero_le _, rfl, Lib.hid rfl, Lib.hid ⟨0, rfl⟩⟩
  case round =>
    obtain ⟨k, hk, rfl, hm, hw⟩ := hrel
    by_cases hlt : (k : Int) < (n : Int)
    · obtain ⟨p, hp⟩ : ∃ p, xs[k]? = some p := ⟨_, List.getElem?_eq_getElem (by rw [Hn.out]; omega)⟩
      obtain ⟨g, off, rfl, hg, hc⟩ := HR.out (by omega)
      have q0 : wr.cell? ⟨g, off + k * 2, none⟩ = some (.int .i64 p.1) := by obtain ⟨m, rfl⟩ := hw.out; exact (hc k p hp).1
      have q1 : wr.cell? ⟨g, off + k * 2 + 1, none⟩ = some (.int .i64 p.2) := by obtain ⟨m, rfl⟩ := hw.out; exact (hc k p hp).2
      have HWN : ∀ j, Hid (∃ m, wr.drewN j = w.drewN m) := fun j => Lib.hid (by obtain ⟨m, rfl⟩ := hw.out; exact ⟨_, World.drewN_drewN _ _ _⟩)
      have HWN := Lib.hid HWN
      have hk0 : (0 : Int) ≤ (k : Int) := by omega
      have c1 := Lib.hid (rIn_any x p.1 p.2)
      have hnext : Hid (memB (xs.take (k + 1)) x = (decide (p.1 ≤ x) && decide (x ≤ p.2))) := Lib.hid (by rw [take_snoc'' xs k p hp, memB_snoc, hm.out, Bool.false_or])
      have HT := Lib.hid (memB_take_true (xs := xs) (x := x) (k := k + 1))
      generalize (decide (p.1 ≤ x) && decide (x ≤ p.2)) = t at *
      clear hc hp
      cases t
      · go_wp2_with fail
        go_quiet ((go_at_call 67; exact quiet_left (c1.out _)))
        go_wp2_with fail
        go_roundw
        case rel => exact ⟨k + 1, by omega, by go_num, hnext, HWN.out _⟩
        case measure => simp [intOf]; omega
      · have E : Hid (re = true) := Lib.hid (by rw [← HRE.out]; exact HT.out hnext.out)
        obtain rfl := E.out
        go_wp2_with fail
        go_quiet ((go_at_call 67; exact quiet_left (c1.out _)))
        go_wp2_with fail
        go_ret
        exact ⟨rfl, (HWN.out _).out⟩
    · obtain rfl : k = n := by omega
      have E : Hid (re = false) := Lib.hid (by rw [← HRE.out, ← hm.out, List.take_of_length_le (by rw [Hn.out]; exact Nat.le_refl _)])
      obtain rfl := E.out
      go_wp2_with fail
      go_ret
      exact ⟨rfl, hw.out⟩
end Go.Proofs.Ytiibbnbknmeplaa
