/- Contracts: the reference's functions on lists of ranges. -/
import Derived.Test.YtiibbnbknmeplaaR3
import Derived.Test.YtiibbnbknmeplaaD5
import Derived.Deep.QuietTactic
import Derived.BigQuiet
namespace Go.Proofs.Ytiibbnbknmeplaa
open Go.RowKit Go.Lib Go.Shelf
set_option linter.unusedVariables false
set_option linter.unusedSimpArgs false
attribute [local go_sem ↓] Go.wp_at_zero Go.wp_at_succ

set_option maxRecDepth 20000 in
set_option maxHeartbeats 1000000 in
theorem rRanges_any (v : Value) (xs : List (Int × Int)) (w : World) (hv : SetAt w.heap.size w v xs) :
    Calls Try.prog 96 #[v] w fun e w' => e = .returned (.int .i64 (chkL xs)) ∧ Below w.heap.size w w' := by
  obtain ⟨A, c, rfl, hr⟩ := hv
  by_cases hbig : 100 < xs.length
  · have E : Hid (chkL xs = 5) := Lib.hid (by unfold chkL; rw [if_pos hbig])
    generalize xs.length = n at *
    go_enter Try.func96, Try.ntmps96
    go_wp2_with fail
    go_ret
    exact ⟨ret_int E.out.symm, Below.refl _ _⟩
  · have HN := Lib.hid (fun (k : Nat) (p : Int × Int) (h : xs[k]? = some p) hp => chkL_no (by omega) h hp)
    have HY := Lib.hid (fun h => chkL_yes (xs := xs) (by omega) h)
    generalize chkL xs = re at *
    obtain ⟨n, hn⟩ : ∃ n, xs.length = n := ⟨_, rfl⟩
    rw [hn] at hbig hr ⊢
    have Hn := Lib.hid hn
    have HR := Lib.hid hr
    clear hr hn
    go_enter Try.func96, Try.ntmps96
    go_wp2_with fail
    go_loopw [3] (fun i wr => ∃ k : Nat, k ≤ n ∧ i = .int .i64 k ∧ Hid (vrsB (xs.take k) = true) ∧ Below w.heap.size w wr) (fun i _ => n - (intOf i).toNat)
    case atStart => exact ⟨0, Nat.zero_le _, rfl, Lib.hid rfl, Below.refl _ _⟩
    case round =>
      obtain ⟨k, hk, rfl, ho, hbr⟩ := hrel
      by_cases hlt : (k : Int) < (n : Int)
      · obtain ⟨p, hp⟩ : ∃ p, xs[k]? = some p := ⟨_, List.getElem?_eq_getElem (by rw [Hn.out]; omega)⟩
        obtain ⟨g, off, rfl, hg, hc⟩ := HR.out (by omega)
        obtain ⟨q0, q1⟩ := (hc.below hbr hg) k p hp
        have HNk := Lib.hid (HN.out k p hp)
        have hok : Hid (vrsB (xs.take (k + 1)) = vrB p.1 p.2) := Lib.hid (by rw [take_snoc' xs k p hp, vrsB_snoc, ho.out]; rfl)
        have c1 := Lib.hid (rRange_any p.1 p.2)
        clear hc hp
        generalize vrB p.1 p.2 = b at *
        cases b
        · have E := Lib.hid (HNk.out rfl)
          go_wp2_with fail
          refine (c1.out _).mono ?_
          rintro e w1 ⟨rfl, hb⟩
          have hB := hbr.trans (hb.mono hbr.size)
          clear hb
          go_wp2_with fail
          go_ret
          exact ⟨ret_int E.out.symm, hB⟩
        · go_wp2_with fail
          refine (c1.out _).mono ?_
          rintro e w1 ⟨rfl, hb⟩
          have hB := hbr.trans (hb.mono hbr.size)
          clear hb q0 q1
          go_wp2_with fail
          go_roundw
          case rel => exact ⟨k + 1, by omega, by go_num, hok, hB⟩
          case measure => simp [intOf]; omega
      · obtain rfl : k = n := by omega
        have E : Hid (re = 0) := Lib.hid (HY.out (by have h := ho.out; rwa [List.take_of_length_le (by rw [Hn.out]; exact Nat.le_refl _)] at h))
        go_wp2_with fail
        go_ret
        exact ⟨ret_int E.out.symm, hbr⟩


theorem Kp.drewN' {B : Nat} {w W : World} (h : Kp B w W) (n : Nat) : Kp B w (W.drewN n) := ⟨below_drewN h.1 n, h.2⟩
theorem sumJ_le (xs : List (Int × Int)) : ∀ a : Int × Int, a.1 ≤ a.2 → vrsB xs = true → (xs.foldl sumJ a).1 ≤ (xs.foldl sumJ a).2 := by
  induction xs with
  | nil => intro a h _; exact h
  | cons p xs ih =>
    intro a h hv
    simp only [vrsB, List.all_cons, Bool.and_eq_true] at hv
    have := vrB_in hv.1
    exact ih _ (by simp only [sumJ]; omega) hv.2

set_option maxRecDepth 20000 in
set_option maxHeartbeats 2000000 in
theorem rSum_any (v : Value) (xs : List (Int × Int)) (w : World) (hv : SetAt w.heap.size w v xs) :
    Calls Try.prog 22 #[v] w fun e w' => e = .returned (.tuple #[.agg #[.int .i64 (smL xs), .int .i64 (smH xs)], .int .i64 (smE xs)]) ∧ Below w.heap.size w w' := by
  have HC : Hid (∀ W : World, Below w.heap.size w W → Calls Try.prog 96 #[v] W fun e w' => e = .returned (.int .i64 (chkL xs)) ∧ Below W.heap.size W w') := Lib.hid fun W hb => rRanges_any v xs W ((hv.below hb (Nat.le_refl _)).mono hb.size)
  have E0 : Hid (smE xs = if chkL xs = 0 then fitE (sumP xs).1 (sumP xs).2 else chkL xs) := Lib.hid rfl
  have E1 : Hid (smL xs = if chkL xs = 0 then fitL (sumP xs).1 (sumP xs).2 else 0) := Lib.hid rfl
  have E2 : Hid (smH xs = if chkL xs = 0 then fitH (sumP xs).1 (sumP xs).2 else 0) := Lib.hid rfl
  generalize smL xs = rl at *
  generalize smH xs = rh at *
  generalize smE xs = re at *
  by_cases h0 : chkL xs = 0
  · obtain ⟨hl, hvr⟩ := chkL_ok h0
    have E0' : Hid (re = fitE (sumP xs).1 (sumP xs).2) := Lib.hid (by rw [E0.out, if_pos h0])
    have E1' : Hid (rl = fitL (sumP xs).1 (sumP xs).2) := Lib.hid (by rw [E1.out, if_pos h0])
    have E2' : Hid (rh = fitH (sumP xs).1 (sumP xs).2) := Lib.hid (by rw [E2.out, if_pos h0])
    rw [h0] at HC
    have c3 := Lib.hid (rFits_any _ _ (sumJ_le xs (0, 0) (Int.le_refl _) hvr))
    obtain ⟨S, hS⟩ : ∃ S, sumP xs = S := ⟨_, rfl⟩
    have HS : Hid (xs.foldl sumJ (0, 0) = S) := Lib.hid hS
    rw [show xs.foldl sumJ (0, 0) = S from hS] at c3
    rw [hS] at E0' E1' E2'
    have HV := Lib.hid hvr
    clear E0 E1 E2 h0 hvr hS
    generalize fitE S.1 S.2 = te at *
    generalize fitL S.1 S.2 = tl at *
    generalize fitH S.1 S.2 = th at *
    obtain ⟨A, c, rfl, hr⟩ := hv
    obtain ⟨n, hn⟩ : ∃ n, xs.length = n := ⟨_, rfl⟩
    rw [hn] at hl hr HC ⊢
    have Hn := Lib.hid hn
    have HR := Lib.hid hr
    clear hr hn
    go_enter Try.func22, Try.ntmps22
    go_wp2_with fail
    refine (HC.out _ ((Below.refl _ _).alloc (Nat.le_refl _) _)).mono ?_
    rintro e w1 ⟨rfl, hb⟩
    have r0 := cell_next hb (b := w.heap.size) (o := 0) (by simp <;> omega) (v := some (.int .i64 0)) (by simp [go_sem])
    have r1 := cell_next hb (b := w.heap.size) (o := 1) (by simp <;> omega) (v := some (.int .i64 0)) (by simp [go_sem])
    have f0 := frozen_next hb (b := w.heap.size) (o := 0) (by simp <;> omega) (v := false) (by simp [go_sem])
    have f1 := frozen_next hb (b := w.heap.size) (o := 1) (by simp <;> omega) (v := false) (by simp [go_sem])
    have nz : w.heap.size < w1.heap.size := by have := hb.size; simp at this; omega
    have hB := below1 hb
    have hKp : Kp w.heap.size w w1 := ⟨hB, nz, ⟨_, r0⟩, ⟨_, r1⟩, f0, f1⟩
    clear hb r0 r1 f0 f1 nz hB
    go_wp2_with fail
    go_loopw [5, 6, 7] (fun l h i wr => ∃ (k : Nat) (a : Int × Int), k ≤ n ∧ i = .int .i64 k ∧ l = .int .i64 a.1 ∧ h = .int .i64 a.2 ∧ Hid (a = (xs.take k).foldl sumJ (0, 0)) ∧ Hid (BdK k a) ∧ Kp w.heap.size w wr) (fun _ _ i _ => n - (intOf i).toNat)
    case atStart => exact ⟨0, (0, 0), Nat.zero_le _, rfl, rfl, rfl, Lib.hid rfl, Lib.hid (by simp [BdK]), hKp⟩
    case round =>
      clear hKp
      obtain ⟨k, a, hk, rfl, rfl, rfl, ha, hbd, hkp⟩ := hrel
      by_cases hlt : (k : Int) < (n : Int)
      · obtain ⟨p, hp⟩ : ∃ p, xs[k]? = some p := ⟨_, List.getElem?_eq_getElem (by rw [Hn.out]; omega)⟩
        obtain ⟨g, off, rfl, hg, hc⟩ := HR.out (by omega)
        obtain ⟨q0, q1⟩ := (hc.below hkp.1 hg) k p hp
        have hE := vrsB_bd HV.out p (List.mem_of_getElem? hp)
        have hf : Hid (sumJ a p = (xs.take (k + 1)).foldl sumJ (0, 0)) := Lib.hid (by rw [take_snoc' xs k p hp, List.foldl_append, ← ha.out]; rfl)
        have hD : Hid (BdK (k + 1) (sumJ a p)) := Lib.hid (by have h1 := hbd.out; simp only [BdK, BdE, sumJ] at h1 hE ⊢; omega)
        have hw1 : IntKind.i64.wrap (a.1 + p.1) = a.1 + p.1 := IntWalk.i64_in _ (by have h1 := hD.out; simp only [BdK, sumJ] at h1; omega)
        have hw2 : IntKind.i64.wrap (a.2 + p.2) = a.2 + p.2 := IntWalk.i64_in _ (by have h1 := hD.out; simp only [BdK, sumJ] at h1; omega)
        have HK := Lib.hid hkp
        clear hc hp hE hkp
        go_wp2_with fail
        go_quiet (fail)
        go_wp2_with fail
        go_roundw
        case rel => exact ⟨k + 1, sumJ a p, by omega, by go_num, rfl, rfl, hf, hD, HK.out.drewN' _⟩
        case measure => simp [intOf]; omega
      · obtain rfl : k = n := by omega
        have hS' : Hid (a = S) := Lib.hid (by rw [ha.out, List.take_of_length_le (by rw [Hn.out]; exact Nat.le_refl _)]; exact HS.out)
        obtain rfl := hS'.out
        go_wp2_with fail
        refine (c3.out _).mono ?_
        rintro e w3 ⟨rfl, hb⟩
        obtain ⟨hB, nz, ⟨v0, r0⟩, ⟨v1, r1⟩, f0, f1⟩ := hkp.next hkp.1.size hb
        clear hb hkp
        go_wp2_with fail
        refine bodyPost_ret (v := .tuple #[.agg #[.int .i64 tl, .int .i64 th], .int .i64 te]) (by simp [results, Try.results22, go_sem, r0, r1, f0, f1]) rfl ⟨by rw [E0'.out, E1'.out, E2'.out], ?_⟩
        exact (hB.setCell (p := ⟨w.heap.size, 0, none⟩) (Nat.le_refl _) _).setCell (p := ⟨w.heap.size, 1, none⟩) (Nat.le_refl _) _
  · have E0' : Hid (re = chkL xs) := Lib.hid (by rw [E0.out, if_neg h0])
    have E1' : Hid (rl = 0) := Lib.hid (by rw [E1.out, if_neg h0])
    have E2' : Hid (rh = 0) := Lib.hid (by rw [E2.out, if_neg h0])
    clear E0 E1 E2
    generalize chkL xs = ce at *
    have hne : (ce != 0) = true := by simpa using h0
    obtain ⟨A, c, rfl, _⟩ := hv
    generalize xs.length = n at *
    clear h0
    go_enter Try.func22, Try.ntmps22
    go_wp2_with fail
    refine (HC.out _ ((Below.refl _ _).alloc (Nat.le_refl _) _)).mono ?_
    rintro e w1 ⟨rfl, hb⟩
    have r0 := cell_next hb (b := w.heap.size) (o := 0) (by simp <;> omega) (v := some (.int .i64 0)) (by simp [go_sem])
    have r1 := cell_next hb (b := w.heap.size) (o := 1) (by simp <;> omega) (v := some (.int .i64 0)) (by simp [go_sem])
    have f0 := frozen_next hb (b := w.heap.size) (o := 0) (by simp <;> omega) (v := false) (by simp [go_sem])
    have f1 := frozen_next hb (b := w.heap.size) (o := 1) (by simp <;> omega) (v := false) (by simp [go_sem])
    have hB := below1 hb
    clear hb
    go_wp2_with fail
    refine bodyPost_ret (v := .tuple #[.agg #[.int .i64 0, .int .i64 0], .int .i64 ce]) (by simp [results, Try.results22, go_sem, r0, r1, f0, f1]) rfl ⟨by rw [E0'.out, E1'.out, E2'.out], ?_⟩
    exact (hB.setCell (p := ⟨w.heap.size, 0, none⟩) (Nat.le_refl _) _).setCell (p := ⟨w.heap.size, 1, none⟩) (Nat.le_refl _) _
end Go.Proofs.Ytiibbnbknmeplaa
