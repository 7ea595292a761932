/- Contracts: whether a table is valid, in the reference. -/
import Derived.Test.YtfkkddbghogffaaC26
import Derived.Test.YtfkkddbghogffaaRI
import Derived.Deep.QuietTactic
import Derived.BigQuiet
namespace Go.Proofs.Ytfkkddbghogffaa
open Go.RowKit Go.Lib Go.Shelf
set_option linter.unusedVariables false
set_option linter.unusedSimpArgs false
attribute [local go_sem ↓] Go.wp_at_zero Go.wp_at_succ

theorem tabE_bool (xs : List (Int × Int)) : tabOk xs = decide (tabE xs = 0) := by unfold tabE; cases tabOk xs <;> simp
set_option maxRecDepth 20000 in
set_option maxHeartbeats 1000000 in
theorem rTable_bad (A : Option Addr) (n c : Nat) (hn : n ≤ 1000000) (h : n < 2 ∨ 60 < n) (w : World) :
    Calls Try.prog 66 #[.slice A n c] w fun e w' => e = .returned (.bool false) ∧ Below w.heap.size w w' := by
  have c1 := Lib.hid (rIn_any (n : Int) 2 60)
  rw [show (decide ((2 : Int) ≤ n) && decide ((n : Int) ≤ 60)) = false from by simp; omega] at c1
  go_enter Try.func66, Try.ntmps66
  go_wp2_with fail
  refine (c1.out _).mono ?_
  rintro e w1 ⟨rfl, rfl⟩
  go_wp2_with fail
  go_ret
  exact ⟨rfl, Below.refl _ _⟩
set_option maxRecDepth 20000 in
set_option maxHeartbeats 2000000 in
theorem rTable_at (g off : Nat) (xs : List (Int × Int)) (c : Nat) (w : World) (hg : g < w.heap.size) (hr : RRd w g off xs) (h1 : 2 ≤ xs.length) (h2 : xs.length ≤ 60) :
    Calls Try.prog 66 #[.slice (some ⟨g, off, none⟩) xs.length c] w fun e w' => e = .returned (.bool (decide (tabE xs = 0))) ∧ Below w.heap.size w w' := by
  have HY := Lib.hid (fun h => tabE_yes (xs := xs) h1 h2 h)
  have HN := Lib.hid (fun h => tabE_no (xs := xs) h)
  have HS := Lib.hid (fun n => rowsOk_succ xs n)
  have HK := Lib.hid (fun k hk h => rowsOk_no xs xs.length k hk h)
  generalize tabE xs = r at *
  obtain ⟨n, hn⟩ : ∃ n, xs.length = n := ⟨_, rfl⟩
  rw [hn] at h1 h2 ⊢
  have Hn := Lib.hid hn
  clear hn
  have HR := Lib.hid hr
  clear hr
  have c0 := Lib.hid (rIn_any (n : Int) 2 60)
  rw [show (decide ((2 : Int) ≤ n) && decide ((n : Int) ≤ 60)) = true from by simp; omega] at c0
  go_enter Try.func66, Try.ntmps66
  go_wp2_with fail
  refine (c0.out _).mono ?_
  rintro e w1 ⟨rfl, rfl⟩
  go_wp2_with fail
  go_loopw [3] (fun i wr => ∃ k : Nat, k ≤ n ∧ i = .int .i64 k ∧ Hid (rowsOk xs k = true) ∧ Below w.heap.size w wr) (fun i _ => n - (intOf i).toNat)
  case atStart => exact ⟨0, Nat.zero_le _, rfl, Lib.hid rfl, Below.refl _ _⟩
  case round =>
    obtain ⟨k, hk, rfl, hok, hbr⟩ := hrel
    by_cases hlt : k < n
    · have hkl : k < xs.length := by rw [Hn.out]; exact hlt
      obtain ⟨p, hp⟩ : ∃ p, xs[k]? = some p := ⟨_, List.getElem?_eq_getElem hkl⟩
      obtain ⟨q0, q1⟩ := (HR.out.below hbr hg) k p hp
      have c1 := Lib.hid (rIn_any p.1 (-1000000000) 1000000000)
      have c2 := Lib.hid (rIn_any p.2 (-1000000000) 1000000000)
      have hrow := rowOk_of hp
      have hB : rowB p.1 p.2 = ((decide (-1000000000 ≤ p.1) && decide (p.1 ≤ 1000000000)) && (decide (-1000000000 ≤ p.2) && decide (p.2 ≤ 1000000000))) := by
        unfold rowB; simp only [Bool.and_assoc]
      rw [hB] at hrow
      generalize (decide (-1000000000 ≤ p.1) && decide (p.1 ≤ 1000000000)) = b1 at *
      generalize (decide (-1000000000 ≤ p.2) && decide (p.2 ≤ 1000000000)) = b2 at *
      have hp' := Lib.hid hp
      have hk0 : (0 : Int) ≤ (k : Int) := by omega
      have hkn : (k : Int) < (n : Int) := by omega
      clear hB
      by_cases hb : b1 = true ∧ b2 = true
      · obtain ⟨rfl, rfl⟩ := hb
        obtain rfl | ⟨j, rfl⟩ : k = 0 ∨ ∃ j, k = j + 1 := by cases k with | zero => exact .inl rfl | succ j => exact .inr ⟨j, rfl⟩
        · have hyes : rowOk xs 0 = true := by rw [hrow]; rfl
          have hok1 := Lib.hid (show rowsOk xs (0 + 1) = true by rw [HS.out, hok.out, hyes]; rfl)
          clear hrow hyes hok hp
          have q0' := q0
          have q1' := q1
          simp only [Nat.zero_mul, Nat.add_zero] at q0' q1'
          go_wp2_with fail
          go_quiet ((go_at_call 67; first | (with_reducible exact quiet_left (c1.out _)) | (with_reducible exact quiet_left (c2.out _))))
          go_wp2_with fail
          go_roundw
          case rel => exact ⟨0 + 1, by omega, by go_num, hok1, below_drewN hbr _⟩
          case measure => simp [intOf]; omega
        · obtain ⟨q, hq⟩ : ∃ q, xs[j]? = some q := ⟨_, List.getElem?_eq_getElem (by omega)⟩
          obtain ⟨z0, z1⟩ := (HR.out.below hbr hg) j q hq
          simp only [hq] at hrow
          have wj : IntKind.i64.wrap ((j : Int) + 1 - 1) = j := by rw [show ((j : Int) + 1 - 1) = j from by omega]; exact IntWalk.i64_in _ (by omega)
          by_cases ho : q.1 < p.1
          · have ho' : decide (p.1 ≤ q.1) = false := by simp; omega
            have hyes : rowOk xs (j + 1) = true := by rw [hrow]; simpa using ho
            have hok1 := Lib.hid (show rowsOk xs (j + 1 + 1) = true by rw [HS.out, hok.out, hyes]; rfl)
            clear hrow hyes hok hq hp
            go_wp2_with fail
            go_quiet ((go_at_call 67; first | (with_reducible exact quiet_left (c1.out _)) | (with_reducible exact quiet_left (c2.out _))))
            go_wp2_with fail
            go_roundw
            case rel => exact ⟨j + 1 + 1, by omega, by go_num, hok1, below_drewN hbr _⟩
            case measure => simp [intOf]; omega
          · have ho' : decide (p.1 ≤ q.1) = true := by simp; omega
            have hno : rowOk xs (j + 1) = false := by rw [hrow]; simp; omega
            have er : Hid (decide (r = 0) = false) := Lib.hid (by rw [HN.out (HK.out _ hkl hno)]; rfl)
            clear hrow hno hok hq hp
            go_wp2_with fail
            go_quiet ((go_at_call 67; first | (with_reducible exact quiet_left (c1.out _)) | (with_reducible exact quiet_left (c2.out _))))
            go_wp2_with fail
            go_ret
            exact ⟨by rw [er.out] <;> rfl, below_drewN hbr _⟩
      · have hno : rowOk xs k = false := by rw [hrow]; cases b1 <;> cases b2 <;> simp at hb ⊢
        have er : Hid (decide (r = 0) = false) := Lib.hid (by rw [HN.out (HK.out _ hkl hno)]; rfl)
        clear hrow hno hok hp
        cases b1 <;> cases b2 <;> simp only [and_self, not_true_eq_false, Bool.false_eq_true, and_false, false_and, not_false_eq_true] at hb
        all_goals
          go_wp2_with fail
          go_quiet ((go_at_call 67; first | (with_reducible exact quiet_left (c1.out _)) | (with_reducible exact quiet_left (c2.out _))))
          go_wp2_with fail
          go_ret
          exact ⟨by rw [er.out] <;> rfl, below_drewN hbr _⟩
    · obtain rfl : k = n := by omega
      have er : Hid (decide (r = 0) = true) := Lib.hid (by rw [HY.out (by rw [Hn.out]; exact hok.out)]; rfl)
      go_wp2_with fail
      go_ret
      exact ⟨by rw [er.out] <;> rfl, hbr⟩
theorem rTable_any (v : Value) (xs : List (Int × Int)) (hl : xs.length ≤ 1000000) (w : World) (hv : SetAt w.heap.size w v xs) :
    Calls Try.prog 66 #[v] w fun e w' => e = .returned (.bool (decide (tabE xs = 0))) ∧ Below w.heap.size w w' := by
  obtain ⟨A, c, rfl, h⟩ := hv
  by_cases h' : xs.length < 2 ∨ 60 < xs.length
  · rw [tabE_short h']
    exact rTable_bad A _ c hl h' w
  · obtain ⟨g, off, rfl, hg, hr⟩ := h (by omega)
    exact rTable_at g off xs c w hg hr (by omega) (by omega)
end Go.Proofs.Ytfkkddbghogffaa
