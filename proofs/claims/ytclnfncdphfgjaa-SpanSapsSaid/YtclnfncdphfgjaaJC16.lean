/- Contracts: Z3, joined. -/
import Derived.Test.YtclnfncdphfgjaaJC15
namespace Go.Proofs.Ytclnfncdphfgjaa
open Go.Shelf Go.RowKit Go.Lib Go.Sort
set_option linter.unusedVariables false
set_option linter.unusedSimpArgs false

set_option maxHeartbeats 4000000 in
set_option maxRecDepth 1000000 in
theorem symMerge_left {α : Type} [Inhabited α] (enc : α → Value) (cf : α → α → Int) (g : Nat) (cb : Array Value) (blk off cap : Nat) (d0 : Array α) (w0 : World) (eg : ∀ args w, (callFunc g args).run Try.prog w = .ok (.enter g args) w)
    (hcmp : CmpLays1 Try.prog g cb enc cf blk off d0.size w0) (hS : SWO (ltOf cf)) (ix : α → Nat) (R : Row1 enc w0 blk off d0) (hsz : d0.size < 1000000000) (a m b : Nat) (d : Array α) (w : World) (hs : d0.size = d.size) (S : SW enc w0 blk off d w)
    (h1 : a < m) (h2 : m < b) (hb : b ≤ d.size) (s1 : Srt (ltOf cf) ix d a m) (s2 : Srt (ltOf cf) ix d m b) (hl : Lft ix d a m b) (hma : m = a + 1) :
    Calls Try.prog 153 #[.slice (some ⟨blk, off, none⟩) d.size cap, .int .i64 a, .int .i64 m, .int .i64 b, .func (.func g) #[] cb] w fun e w' => e = .returned (.tuple #[]) ∧ ∃ d', SW enc w0 blk off d' w' ∧ Mv d d' a b ∧ Srt (ltOf cf) ix d' a b := by
  have mixed := mixedP
  have hcl0 := R.hO.cells
  simp only [Value.cells] at hcl0
  have hst := R.hO.store Try.prog
  have S0 : Aside (SW enc w0 blk off d w) := S
  have HC : Aside _ := hcmp
  have HS1 : Aside (Srt (ltOf cf) ix d a m) := s1
  have HS2 : Aside (Srt (ltOf cf) ix d m b) := s2
  have HL : Aside (Lft ix d a m b) := hl
  clear S hcmp s1 s2 hl
  have HM : Aside (m = a + 1) := hma
  have t0 : ((m : Int) - (a : Int) == 1) = true := by rw [beq_iff_eq]; omega
  have w1 : IntKind.i64.wrap ((m : Int) - (a : Int)) = (m : Int) - (a : Int) := IntWalk.i64_in _ (by omega)
  clear hma
  go_enter Try.func153, Try.ntmps153
  go_wp2_with fail
  go_loopg [10, 11] (b - a) (fun g1 vi vj wr => ∃ (i j : Nat), vi = .int .i64 i ∧ vj = .int .i64 j ∧ m ≤ i ∧ i ≤ j ∧ j ≤ b ∧ j - i ≤ g1 ∧ Aside (SW enc w0 blk off d wr) ∧ Aside (a + 1 < i → ttB (ltOf cf) ix d[i - 1]! d[a]! = true) ∧ Aside (j < b → ttB (ltOf cf) ix d[a]! d[j]! = true))
  case atStart => exact ⟨m, b, rfl, rfl, by omega, by omega, by omega, by omega, S0, (fun h => by have := HM.out; omega), (fun h => by omega)⟩
  case round =>
    clear S0 w1 t0
    obtain ⟨i, j, rfl, rfl, hi1, hij, hj1, hg1, S1, HI, HJ⟩ := hrel
    by_cases hlt : i < j
    · have hltz : (i : Int) < (j : Int) := by omega
      have k1 : i ≤ (i + j) / 2 := by omega
      have k2 : (i + j) / 2 < j := by omega
      cases hlv : (ltOf cf) d[(i + j) / 2]! d[a]! with
      | true =>
        have hn : Aside (a + 1 < (i + j) / 2 + 1 → ttB (ltOf cf) ix d[(i + j) / 2 + 1 - 1]! d[a]! = true) := fun _ => by
          rw [Nat.add_sub_cancel]; exact test_true HL.out (Nat.le_refl _) h1 (by omega) (by omega) hlv
        obtain ⟨iN03, hiN03⟩ : ∃ q9, q9 = (i + j) / 2 := ⟨_, rfl⟩
        obtain ⟨jN03, hjN03⟩ : ∃ q9, q9 = a := ⟨_, rfl⟩
        have ea03 : (((i : Int) + (j : Int)) / 2).toNat = iN03 := by omega
        have pa03 : (0 : Int) ≤ ((i : Int) + (j : Int)) / 2 := by omega
        have ba03 : ((i : Int) + (j : Int)) / 2 < (d.size : Int) := by omega
        have ra03 : IntKind.i64.wrap (((i : Int) + (j : Int)) / 2) = ((i : Int) + (j : Int)) / 2 := by rw [IntKind.wrap_i64]; omega
        have ec03 : ((a : Int)).toNat = jN03 := by omega
        have pc03 : (0 : Int) ≤ (a : Int) := by omega
        have bc03 : (a : Int) < (d.size : Int) := by omega
        have rc03 : IntKind.i64.wrap ((a : Int)) = (a : Int) := by rw [IntKind.wrap_i64]; omega
        obtain ⟨x03, hx03⟩ : ∃ v9, v9 = d[(i + j) / 2]! := ⟨_, rfl⟩
        obtain ⟨y03, hy03⟩ : ∃ v9, v9 = d[a]! := ⟨_, rfl⟩
        have l03a := S1.out.cl R (by omega) ((i + j) / 2) (by omega)
        have l03b := S1.out.cl R (by omega) (a) (by omega)
        rw [← hx03, ← hiN03] at l03a
        rw [← hy03, ← hjN03] at l03b
        have hc03 := S1.out.cmp HC.out (by omega) x03 y03
        have hv03 : cf x03 y03 < 0 := by rw [hx03, hy03]; exact of_decide_eq_true hlv
        have hd03 : decide (cf x03 y03 < 0) = true := decide_eq_true hv03
        clear hx03 hy03 hiN03 hjN03
        go_wp2_with fail
        go_quiet_grown (first | (go_at_fn g; refine Calls.grown_of (hc03 _ _)))
        have S2 : Aside (SW enc w0 blk off d (grow (wr.drewN nq) osq)) := S1.out.grown nq osq
        clear l03a l03b hc03 S1
        generalize grow (wr.drewN nq) osq = w2 at S2 ⊢
        clear nq osq
        clear ea03 ec03

        go_wp2_with fail
        go_roundg (j - ((i + j) / 2 + 1))
        case measure => omega
        case rel => exact ⟨(i + j) / 2 + 1, j, by go_num, rfl, by omega, by omega, by omega, Nat.le_refl _, S2, hn, HJ⟩
      | false =>
        have hn : Aside ((i + j) / 2 < b → ttB (ltOf cf) ix d[a]! d[(i + j) / 2]! = true) := fun _ =>
          test_false hS HL.out (Nat.le_refl _) h1 (by omega) (by omega) hlv
        obtain ⟨iN04, hiN04⟩ : ∃ q9, q9 = (i + j) / 2 := ⟨_, rfl⟩
        obtain ⟨jN04, hjN04⟩ : ∃ q9, q9 = a := ⟨_, rfl⟩
        have ea04 : (((i : Int) + (j : Int)) / 2).toNat = iN04 := by omega
        have pa04 : (0 : Int) ≤ ((i : Int) + (j : Int)) / 2 := by omega
        have ba04 : ((i : Int) + (j : Int)) / 2 < (d.size : Int) := by omega
        have ra04 : IntKind.i64.wrap (((i : Int) + (j : Int)) / 2) = ((i : Int) + (j : Int)) / 2 := by rw [IntKind.wrap_i64]; omega
        have ec04 : ((a : Int)).toNat = jN04 := by omega
        have pc04 : (0 : Int) ≤ (a : Int) := by omega
        have bc04 : (a : Int) < (d.size : Int) := by omega
        have rc04 : IntKind.i64.wrap ((a : Int)) = (a : Int) := by rw [IntKind.wrap_i64]; omega
        obtain ⟨x04, hx04⟩ : ∃ v9, v9 = d[(i + j) / 2]! := ⟨_, rfl⟩
        obtain ⟨y04, hy04⟩ : ∃ v9, v9 = d[a]! := ⟨_, rfl⟩
        have l04a := S1.out.cl R (by omega) ((i + j) / 2) (by omega)
        have l04b := S1.out.cl R (by omega) (a) (by omega)
        rw [← hx04, ← hiN04] at l04a
        rw [← hy04, ← hjN04] at l04b
        have hc04 := S1.out.cmp HC.out (by omega) x04 y04
        have hv04 : ¬ cf x04 y04 < 0 := by rw [hx04, hy04]; exact of_decide_eq_false hlv
        have hd04 : decide (cf x04 y04 < 0) = false := decide_eq_false hv04
        clear hx04 hy04 hiN04 hjN04
        go_wp2_with fail
        go_quiet_grown (first | (go_at_fn g; refine Calls.grown_of (hc04 _ _)))
        have S2 : Aside (SW enc w0 blk off d (grow (wr.drewN nq) osq)) := S1.out.grown nq osq
        clear l04a l04b hc04 S1
        generalize grow (wr.drewN nq) osq = w2 at S2 ⊢
        clear nq osq
        clear ea04 ec04

        go_wp2_with fail
        go_roundg ((i + j) / 2 - i)
        case measure => omega
        case rel => exact ⟨i, (i + j) / 2, rfl, by go_num, by omega, by omega, by omega, Nat.le_refl _, S2, HI, hn⟩
    · obtain rfl : i = j := by omega
      have w3 : IntKind.i64.wrap ((i : Int) - 1) = (i : Int) - 1 := IntWalk.i64_in _ (by omega)
      have hi0 : Aside (Rot d d a m m) := Rot.none d a m m (.inr rfl) (by omega) (Nat.le_refl _)
      have hma2 : a + 1 ≤ m := by omega
      go_wp2_with fail
      go_loopg [13] b (fun g2 vk wq => ∃ (k : Nat) (dk : Array α), vk = .int .i64 k ∧ a ≤ k ∧ k + 1 ≤ i ∧ i - 1 - k ≤ g2 ∧ dk.size = d.size ∧ Aside (SW enc w0 blk off dk wq) ∧ Aside (Rot d dk a (a + 1) (k + 1)))
      case atStart => exact ⟨a, d, rfl, Nat.le_refl _, by omega, by omega, rfl, S1, (by have e := HM.out; rw [← e]; exact hi0.out)⟩
      case round =>
        clear S1 hi0
        obtain ⟨k, dk, rfl, hk1, hk2, hg2, hsk, S1, HR⟩ := hrel
        by_cases hlk : k + 1 < i
        · have hltz : (k : Int) < (i : Int) - 1 := by omega
          have hnx : Aside (Rot d (swp dk k (k + 1)) a (a + 1) (k + 2)) := walk_up HR.out hk1 (by omega)
          clear HR
          go_wp2_with fail
          obtain ⟨iN05, hiN05⟩ : ∃ q9, q9 = k := ⟨_, rfl⟩
          obtain ⟨jN05, hjN05⟩ : ∃ q9, q9 = k + 1 := ⟨_, rfl⟩
          have ea05 : ((k : Int)).toNat = iN05 := by omega
          have pa05 : (0 : Int) ≤ (k : Int) := by omega
          have ba05 : (k : Int) < (d.size : Int) := by omega
          have ra05 : IntKind.i64.wrap ((k : Int)) = (k : Int) := by rw [IntKind.wrap_i64]; omega
          have ec05 : ((k : Int) + 1).toNat = jN05 := by omega
          have pc05 : (0 : Int) ≤ (k : Int) + 1 := by omega
          have bc05 : (k : Int) + 1 < (d.size : Int) := by omega
          have rc05 : IntKind.i64.wrap ((k : Int) + 1) = (k : Int) + 1 := by rw [IntKind.wrap_i64]; omega
          obtain ⟨x05, hx05⟩ : ∃ v9, v9 = dk[k]! := ⟨_, rfl⟩
          obtain ⟨y05, hy05⟩ : ∃ v9, v9 = dk[k + 1]! := ⟨_, rfl⟩
          have S2 : Aside (SW enc w0 blk off (swp dk (k) (k + 1)) ((wr.setCell ⟨blk, off + iN05, none⟩ (enc y05)).setCell ⟨blk, off + jN05, none⟩ (enc x05)).drew) := by rw [hiN05, hjN05, hx05, hy05]; exact S1.out.swapped R (k) (k + 1) (by omega) (by omega)
          have c05a := S1.out.c1 R (by omega) (k) (by omega)
          have c05b := S1.out.c1 R (by omega) (k + 1) (by omega)
          have f05a := S1.out.f1 R (by omega) (k) (by omega)
          have f05b := S1.out.f1 R (by omega) (k + 1) (by omega)
          obtain ⟨u05, c05c⟩ := S1.out.c2 R (by omega) (k) (k + 1) (by omega) (by omega) (enc y05)
          first | rw [← hjN05, ← hiN05] at c05c | rw [← hiN05, ← hjN05] at c05c
          rw [← hx05, ← hiN05] at c05a
          rw [← hy05, ← hjN05] at c05b
          rw [← hiN05] at f05a
          rw [← hjN05] at f05b
          clear S1 hx05 hy05 hiN05 hjN05
          go_wp2_with fail
          go_big_region_o
          clear c05a c05b c05c f05a f05b
          generalize ((wr.setCell ⟨blk, off + iN05, none⟩ (enc y05)).setCell ⟨blk, off + jN05, none⟩ (enc x05)).drew = w2 at S2 ⊢
          clear ea05 ec05

          go_wp2_with fail
          go_roundg (i - 1 - (k + 1))
          case measure => omega
          case rel => exact ⟨k + 1, _, by go_num, by omega, by omega, Nat.le_refl _, by rw [size_swp]; exact hsk, S2, hnx⟩
        · have hltz : ¬ (k : Int) < (i : Int) - 1 := by omega
          obtain rfl : i = k + 1 := by omega
          have hfin : Mv d dk a b ∧ Srt (ltOf cf) ix dk a b := by
            have e := HM.out
            subst e
            exact cut_first hS HS2.out HL.out (by omega) (by omega) hb HI.out HJ.out HR.out
          have HF : Aside _ := hfin
          clear hfin HI HJ
          go_wp2_with fail
          first | go_end0 | (refine bodyPost_ret (results_none rfl _ _ _) rfl ?_)
          exact ⟨rfl, dk, S1.out, HF.out⟩

set_option maxHeartbeats 4000000 in
set_option maxRecDepth 1000000 in
theorem symMerge_right {α : Type} [Inhabited α] (enc : α → Value) (cf : α → α → Int) (g : Nat) (cb : Array Value) (blk off cap : Nat) (d0 : Array α) (w0 : World) (eg : ∀ args w, (callFunc g args).run Try.prog w = .ok (.enter g args) w)
    (hcmp : CmpLays1 Try.prog g cb enc cf blk off d0.size w0) (hS : SWO (ltOf cf)) (ix : α → Nat) (R : Row1 enc w0 blk off d0) (hsz : d0.size < 1000000000) (a m b : Nat) (d : Array α) (w : World) (hs : d0.size = d.size) (S : SW enc w0 blk off d w)
    (h1 : a < m) (h2 : m < b) (hb : b ≤ d.size) (s1 : Srt (ltOf cf) ix d a m) (s2 : Srt (ltOf cf) ix d m b) (hl : Lft ix d a m b) (hma : m ≠ a + 1) (hmb : b = m + 1) :
    Calls Try.prog 153 #[.slice (some ⟨blk, off, none⟩) d.size cap, .int .i64 a, .int .i64 m, .int .i64 b, .func (.func g) #[] cb] w fun e w' => e = .returned (.tuple #[]) ∧ ∃ d', SW enc w0 blk off d' w' ∧ Mv d d' a b ∧ Srt (ltOf cf) ix d' a b := by
  have mixed := mixedP
  have hcl0 := R.hO.cells
  simp only [Value.cells] at hcl0
  have hst := R.hO.store Try.prog
  have S0 : Aside (SW enc w0 blk off d w) := S
  have HC : Aside _ := hcmp
  have HS1 : Aside (Srt (ltOf cf) ix d a m) := s1
  have HS2 : Aside (Srt (ltOf cf) ix d m b) := s2
  have HL : Aside (Lft ix d a m b) := hl
  clear S hcmp s1 s2 hl
  have HM : Aside (b = m + 1) := hmb
  have t0 : ((m : Int) - (a : Int) == 1) = false := by rw [beq_eq_false_iff_ne]; omega
  have t1 : ((b : Int) - (m : Int) == 1) = true := by rw [beq_iff_eq]; omega
  have w1 : IntKind.i64.wrap ((m : Int) - (a : Int)) = (m : Int) - (a : Int) := IntWalk.i64_in _ (by omega)
  have w1' : IntKind.i64.wrap ((b : Int) - (m : Int)) = (b : Int) - (m : Int) := IntWalk.i64_in _ (by omega)
  clear hma hmb
  go_enter Try.func153, Try.ntmps153
  go_wp2_with fail
  go_loopg [14, 15] (b - a) (fun g1 vi vj wr => ∃ (i j : Nat), vi = .int .i64 i ∧ vj = .int .i64 j ∧ a ≤ i ∧ i ≤ j ∧ j ≤ m ∧ j - i ≤ g1 ∧ Aside (SW enc w0 blk off d wr) ∧ Aside (a < i → ttB (ltOf cf) ix d[i - 1]! d[m]! = true) ∧ Aside (j < m → ttB (ltOf cf) ix d[m]! d[j]! = true))
  case atStart => exact ⟨a, m, rfl, rfl, by omega, by omega, by omega, by omega, S0, (fun h => by omega), (fun h => by omega)⟩
  case round =>
    clear S0 w1 t0 w1' t1
    obtain ⟨i, j, rfl, rfl, hi1, hij, hj1, hg1, S1, HI, HJ⟩ := hrel
    by_cases hlt : i < j
    · have hltz : (i : Int) < (j : Int) := by omega
      have k1 : i ≤ (i + j) / 2 := by omega
      have k2 : (i + j) / 2 < j := by omega
      cases hlv : (ltOf cf) d[m]! d[(i + j) / 2]! with
      | false =>
        have hn : Aside (a < (i + j) / 2 + 1 → ttB (ltOf cf) ix d[(i + j) / 2 + 1 - 1]! d[m]! = true) := fun _ => by
          rw [Nat.add_sub_cancel]; exact test_false hS HL.out (by omega) (by omega) (Nat.le_refl _) h2 hlv
        obtain ⟨iN06, hiN06⟩ : ∃ q9, q9 = m := ⟨_, rfl⟩
        obtain ⟨jN06, hjN06⟩ : ∃ q9, q9 = (i + j) / 2 := ⟨_, rfl⟩
        have ea06 : ((m : Int)).toNat = iN06 := by omega
        have pa06 : (0 : Int) ≤ (m : Int) := by omega
        have ba06 : (m : Int) < (d.size : Int) := by omega
        have ra06 : IntKind.i64.wrap ((m : Int)) = (m : Int) := by rw [IntKind.wrap_i64]; omega
        have ec06 : (((i : Int) + (j : Int)) / 2).toNat = jN06 := by omega
        have pc06 : (0 : Int) ≤ ((i : Int) + (j : Int)) / 2 := by omega
        have bc06 : ((i : Int) + (j : Int)) / 2 < (d.size : Int) := by omega
        have rc06 : IntKind.i64.wrap (((i : Int) + (j : Int)) / 2) = ((i : Int) + (j : Int)) / 2 := by rw [IntKind.wrap_i64]; omega
        obtain ⟨x06, hx06⟩ : ∃ v9, v9 = d[m]! := ⟨_, rfl⟩
        obtain ⟨y06, hy06⟩ : ∃ v9, v9 = d[(i + j) / 2]! := ⟨_, rfl⟩
        have l06a := S1.out.cl R (by omega) (m) (by omega)
        have l06b := S1.out.cl R (by omega) ((i + j) / 2) (by omega)
        rw [← hx06, ← hiN06] at l06a
        rw [← hy06, ← hjN06] at l06b
        have hc06 := S1.out.cmp HC.out (by omega) x06 y06
        have hv06 : ¬ cf x06 y06 < 0 := by rw [hx06, hy06]; exact of_decide_eq_false hlv
        have hd06 : decide (cf x06 y06 < 0) = false := decide_eq_false hv06
        clear hx06 hy06 hiN06 hjN06
        go_wp2_with fail
        go_quiet_grown (first | (go_at_fn g; refine Calls.grown_of (hc06 _ _)))
        have S2 : Aside (SW enc w0 blk off d (grow (wr.drewN nq) osq)) := S1.out.grown nq osq
        clear l06a l06b hc06 S1
        generalize grow (wr.drewN nq) osq = w2 at S2 ⊢
        clear nq osq
        clear ea06 ec06

        go_wp2_with fail
        go_roundg (j - ((i + j) / 2 + 1))
        case measure => omega
        case rel => exact ⟨(i + j) / 2 + 1, j, by go_num, rfl, by omega, by omega, by omega, Nat.le_refl _, S2, hn, HJ⟩
      | true =>
        have hn : Aside ((i + j) / 2 < m → ttB (ltOf cf) ix d[m]! d[(i + j) / 2]! = true) := fun _ =>
          test_true HL.out (by omega) (by omega) (Nat.le_refl _) h2 hlv
        obtain ⟨iN07, hiN07⟩ : ∃ q9, q9 = m := ⟨_, rfl⟩
        obtain ⟨jN07, hjN07⟩ : ∃ q9, q9 = (i + j) / 2 := ⟨_, rfl⟩
        have ea07 : ((m : Int)).toNat = iN07 := by omega
        have pa07 : (0 : Int) ≤ (m : Int) := by omega
        have ba07 : (m : Int) < (d.size : Int) := by omega
        have ra07 : IntKind.i64.wrap ((m : Int)) = (m : Int) := by rw [IntKind.wrap_i64]; omega
        have ec07 : (((i : Int) + (j : Int)) / 2).toNat = jN07 := by omega
        have pc07 : (0 : Int) ≤ ((i : Int) + (j : Int)) / 2 := by omega
        have bc07 : ((i : Int) + (j : Int)) / 2 < (d.size : Int) := by omega
        have rc07 : IntKind.i64.wrap (((i : Int) + (j : Int)) / 2) = ((i : Int) + (j : Int)) / 2 := by rw [IntKind.wrap_i64]; omega
        obtain ⟨x07, hx07⟩ : ∃ v9, v9 = d[m]! := ⟨_, rfl⟩
        obtain ⟨y07, hy07⟩ : ∃ v9, v9 = d[(i + j) / 2]! := ⟨_, rfl⟩
        have l07a := S1.out.cl R (by omega) (m) (by omega)
        have l07b := S1.out.cl R (by omega) ((i + j) / 2) (by omega)
        rw [← hx07, ← hiN07] at l07a
        rw [← hy07, ← hjN07] at l07b
        have hc07 := S1.out.cmp HC.out (by omega) x07 y07
        have hv07 : cf x07 y07 < 0 := by rw [hx07, hy07]; exact of_decide_eq_true hlv
        have hd07 : decide (cf x07 y07 < 0) = true := decide_eq_true hv07
        clear hx07 hy07 hiN07 hjN07
        go_wp2_with fail
        go_quiet_grown (first | (go_at_fn g; refine Calls.grown_of (hc07 _ _)))
        have S2 : Aside (SW enc w0 blk off d (grow (wr.drewN nq) osq)) := S1.out.grown nq osq
        clear l07a l07b hc07 S1
        generalize grow (wr.drewN nq) osq = w2 at S2 ⊢
        clear nq osq
        clear ea07 ec07

        go_wp2_with fail
        go_roundg ((i + j) / 2 - i)
        case measure => omega
        case rel => exact ⟨i, (i + j) / 2, rfl, by go_num, by omega, by omega, by omega, Nat.le_refl _, S2, HI, hn⟩
    · obtain rfl : i = j := by omega
      have hi0 : Aside (Rot d d m m (m + 1)) := Rot.none d m m (m + 1) (.inl rfl) (Nat.le_refl _) (by omega)
      go_wp2_with fail
      go_loopg [17] b (fun g2 vk wq => ∃ (k : Nat) (dk : Array α), vk = .int .i64 k ∧ i ≤ k ∧ k ≤ m ∧ k - i ≤ g2 ∧ dk.size = d.size ∧ Aside (SW enc w0 blk off dk wq) ∧ Aside (Rot d dk k m (m + 1)))
      case atStart => exact ⟨m, d, rfl, by omega, Nat.le_refl _, by omega, rfl, S1, hi0⟩
      case round =>
        clear S1 hi0
        obtain ⟨k, dk, rfl, hk1, hk2, hg2, hsk, S1, HR⟩ := hrel
        by_cases hlk : i < k
        · obtain ⟨q, rfl⟩ : ∃ q, k = q + 1 := ⟨k - 1, by omega⟩
          have hnx : Aside (Rot d (swp dk (q + 1) q) q m (m + 1)) := walk_down HR.out (by omega) (by omega)
          have zq : ((q + 1 : Nat) : Int) = (q : Int) + 1 := rfl
          rw [zq]
          have hltz : (i : Int) < (q : Int) + 1 := by omega
          have w3 : IntKind.i64.wrap ((q : Int) + 1 - 1) = (q : Int) := by rw [IntKind.wrap_i64]; omega
          have w4 : (q : Int) + 1 - 1 = (q : Int) := by omega
          clear HR
          go_wp2_with fail
          obtain ⟨iN08, hiN08⟩ : ∃ q9, q9 = q + 1 := ⟨_, rfl⟩
          obtain ⟨jN08, hjN08⟩ : ∃ q9, q9 = q := ⟨_, rfl⟩
          have ea08 : ((q : Int) + 1).toNat = iN08 := by omega
          have pa08 : (0 : Int) ≤ (q : Int) + 1 := by omega
          have ba08 : (q : Int) + 1 < (d.size : Int) := by omega
          have ra08 : IntKind.i64.wrap ((q : Int) + 1) = (q : Int) + 1 := by rw [IntKind.wrap_i64]; omega
          have ec08 : ((q : Int)).toNat = jN08 := by omega
          have pc08 : (0 : Int) ≤ (q : Int) := by omega
          have bc08 : (q : Int) < (d.size : Int) := by omega
          have rc08 : IntKind.i64.wrap ((q : Int)) = (q : Int) := by rw [IntKind.wrap_i64]; omega
          obtain ⟨x08, hx08⟩ : ∃ v9, v9 = dk[q + 1]! := ⟨_, rfl⟩
          obtain ⟨y08, hy08⟩ : ∃ v9, v9 = dk[q]! := ⟨_, rfl⟩
          have S2 : Aside (SW enc w0 blk off (swp dk (q + 1) (q)) ((wr.setCell ⟨blk, off + iN08, none⟩ (enc y08)).setCell ⟨blk, off + jN08, none⟩ (enc x08)).drew) := by rw [hiN08, hjN08, hx08, hy08]; exact S1.out.swapped R (q + 1) (q) (by omega) (by omega)
          have c08a := S1.out.c1 R (by omega) (q + 1) (by omega)
          have c08b := S1.out.c1 R (by omega) (q) (by omega)
          have f08a := S1.out.f1 R (by omega) (q + 1) (by omega)
          have f08b := S1.out.f1 R (by omega) (q) (by omega)
          obtain ⟨u08, c08c⟩ := S1.out.c2 R (by omega) (q + 1) (q) (by omega) (by omega) (enc y08)
          first | rw [← hjN08, ← hiN08] at c08c | rw [← hiN08, ← hjN08] at c08c
          rw [← hx08, ← hiN08] at c08a
          rw [← hy08, ← hjN08] at c08b
          rw [← hiN08] at f08a
          rw [← hjN08] at f08b
          clear S1 hx08 hy08 hiN08 hjN08
          go_wp2_with fail
          go_big_region_o
          clear c08a c08b c08c f08a f08b
          generalize ((wr.setCell ⟨blk, off + iN08, none⟩ (enc y08)).setCell ⟨blk, off + jN08, none⟩ (enc x08)).drew = w2 at S2 ⊢
          clear ea08 ec08

          go_wp2_with fail
          go_roundg (q - i)
          case measure => omega
          case rel => exact ⟨q, _, by go_num, by omega, by omega, Nat.le_refl _, by rw [size_swp]; exact hsk, S2, hnx⟩
        · have hltz : ¬ (i : Int) < (k : Int) := by omega
          obtain rfl : i = k := by omega
          have hfin : Mv d dk a b ∧ Srt (ltOf cf) ix dk a b := by
            have e := HM.out
            subst e
            exact cut_last hS HS1.out HL.out (by omega) (by omega) hb HJ.out HI.out HR.out
          have HF : Aside _ := hfin
          clear hfin HI HJ
          go_wp2_with fail
          first | go_end0 | (refine bodyPost_ret (results_none rfl _ _ _) rfl ?_)
          exact ⟨rfl, dk, S1.out, HF.out⟩
end Go.Proofs.Ytclnfncdphfgjaa
