/- Contract: whether tubing is valid (Check). -/
import Derived.Test.YtpphchbokphkdaaDoorN2
import Derived.Outline
namespace Go.Proofs.YtpphchbokphkdaaDoor
open Go.RowKit Go.Lib Go.Shelf
set_option linter.unusedVariables false
set_option linter.unusedSimpArgs false
attribute [local go_sem ↓] Go.wp_at_zero Go.wp_at_succ

theorem netE_no {pump : Int} {ps : List Pp} (h : netB pump ps = false) : netE pump ps = 2 := by unfold netE; rw [h]; rfl
theorem netE_yes {pump : Int} {ps : List Pp} (h : netB pump ps = true) : netE pump ps = 0 := by unfold netE; rw [h]; rfl

set_option maxRecDepth 20000 in
set_option maxHeartbeats 1000000 in
/-- too short or too long, or a wrong vacuum -/
theorem check_early (pump : Int) (A : Option Addr) (n c : Nat) (w : World) (h : ((decide (1 ≤ (n : Int)) && decide ((n : Int) ≤ 60)) && (decide (0 ≤ pump) && decide (pump ≤ 10000))) = false) :
    Calls Tryd.prog 14 #[.agg #[.int .i64 pump, .slice A n c]] w fun e w' => e = .returned (.int .i64 2) ∧ Below w.heap.size w w' := by
  have c1 := Lib.hid (in_any (n : Int) 1 60)
  have c2 := Lib.hid (in_any pump 0 10000)
  generalize (decide (1 ≤ (n : Int)) && decide ((n : Int) ≤ 60)) = b1 at *
  generalize (decide (0 ≤ pump) && decide (pump ≤ 10000)) = b2 at *
  cases b1
  · clear h
    go_enter Tryd.func14, Tryd.ntmps14
    go_wp2_with fail
    go_quiet ((go_at_call 25; first | (with_reducible exact quiet_left (c1.out _)) | (with_reducible exact quiet_left (c2.out _))))
    go_wp2_with fail
    go_ret
    exact ⟨rfl, below_drewN ((Below.refl _ _).alloc (Nat.le_refl _) _) _⟩
  · obtain rfl : b2 = false := by simpa using h
    clear h
    go_enter Tryd.func14, Tryd.ntmps14
    go_wp2_with fail
    go_quiet ((go_at_call 25; first | (with_reducible exact quiet_left (c1.out _)) | (with_reducible exact quiet_left (c2.out _))))
    go_wp2_with fail
    go_ret
    exact ⟨rfl, below_drewN ((Below.refl _ _).alloc (Nat.le_refl _) _) _⟩

set_option maxRecDepth 20000 in
set_option maxHeartbeats 1000000 in
/-- the pump's pipe is another one -/
theorem check_pump (pump : Int) (g off n c : Nat) (p : Pp) (w : World) (hG : Gp w) (hg : g < w.heap.size) (h : ((decide (1 ≤ (n : Int)) && decide ((n : Int) ≤ 60)) && (decide (0 ≤ pump) && decide (pump ≤ 10000))) = true) (hp : ppEq p p0 = false)
    (h0 : w.cell? ⟨g, off, none⟩ = some (.int .i64 p.pa)) (h1 : w.cell? ⟨g, off + 1, none⟩ = some (.int .i64 p.ln)) (h2 : w.cell? ⟨g, off + 2, none⟩ = some (.int .i64 p.bo)) (h3 : w.cell? ⟨g, off + 3, none⟩ = some (.int .i64 p.dr)) (h4 : w.cell? ⟨g, off + 4, none⟩ = some (.int .i64 p.ta)) :
    Calls Tryd.prog 14 #[.agg #[.int .i64 pump, .slice (some ⟨g, off, none⟩) n c]] w fun e w' => e = .returned (.int .i64 2) ∧ Below w.heap.size w w' := by
  have c1 := Lib.hid (in_any (n : Int) 1 60)
  have c2 := Lib.hid (in_any pump 0 10000)
  have hn0 : 0 < n := by simp at h; omega
  generalize (decide (1 ≤ (n : Int)) && decide ((n : Int) ≤ 60)) = b1 at *
  generalize (decide (0 ≤ pump) && decide (pump ≤ 10000)) = b2 at *
  obtain ⟨rfl, rfl⟩ : b1 = true ∧ b2 = true := by simpa using h
  obtain ⟨hz, g0, g1, g2, g3, g4⟩ := hG
  have HN : ∀ w : World, (binOp .neq 36 (.agg #[.int .i64 p.pa, .int .i64 p.ln, .int .i64 p.bo, .int .i64 p.dr, .int .i64 p.ta]) (.agg #[.int .i64 (-1), .int .i64 0, .int .i64 0, .int .i64 0, .int .i64 0])).run Tryd.prog w = .ok (.bool true) w := fun w => by
    have := run_neq_pipe p p0 w
    rw [hp] at this
    exact this
  have hn1 : (0 : Int) < (n : Int) := by omega
  clear h hp
  go_enter Tryd.func14, Tryd.ntmps14
  go_wp2_with fail
  go_quiet ((go_at_call 25; first | (with_reducible exact quiet_left (c1.out _)) | (with_reducible exact quiet_left (c2.out _))))
  go_wp2_with fail
  go_ret
  exact ⟨rfl, below_drewN ((Below.refl _ _).alloc (Nat.le_refl _) _) _⟩

set_option maxRecDepth 20000 in
set_option maxHeartbeats 2000000 in
/-- the pump's pipe is right: all others are looked at -/
theorem check_rest (pump : Int) (g off c m : Nat) (ps : List Pp) (w : World) (hl : ps.length = m + 1) (hc : m + 1 ≤ c) (hG : Gp w) (hg : g < w.heap.size) (h : ((decide (1 ≤ ((m + 1 : Nat) : Int)) && decide (((m + 1 : Nat) : Int) ≤ 60)) && (decide (0 ≤ pump) && decide (pump ≤ 10000))) = true) (hp : ps.getD 0 p0 = p0) (hR : PRd w g off ps) :
    Calls Tryd.prog 14 #[.agg #[.int .i64 pump, .slice (some ⟨g, off, none⟩) (m + 1) c]] w fun e w' => e = .returned (.int .i64 (netE pump ps)) ∧ Below w.heap.size w w' := by
  rw [Int.natCast_succ] at h
  have c1 := Lib.hid (in_any ((m : Int) + 1) 1 60)
  have c2 := Lib.hid (in_any pump 0 10000)
  have HB : Hid (netB pump ps = pvsB ps m) := Lib.hid (by
    unfold netB pvsB
    rw [hl, Int.natCast_succ, h, hp, ppEq_self, Bool.true_and, Bool.true_and, show m + 1 - 1 = m from rfl])
  have hm : m < 60 := by simp at h; omega
  generalize (decide (1 ≤ (m : Int) + 1) && decide ((m : Int) + 1 ≤ 60)) = b1 at *
  generalize (decide (0 ≤ pump) && decide (pump ≤ 10000)) = b2 at *
  obtain ⟨rfl, rfl⟩ : b1 = true ∧ b2 = true := by simpa using h
  have HG := Lib.hid hG
  obtain ⟨hz, g0, g1, g2, g3, g4⟩ := hG
  have HNE : ∀ w : World, (binOp .neq 36 (.agg #[.int .i64 (-1), .int .i64 0, .int .i64 0, .int .i64 0, .int .i64 0]) (.agg #[.int .i64 (-1), .int .i64 0, .int .i64 0, .int .i64 0, .int .i64 0])).run Tryd.prog w = .ok (.bool false) w := fun w => by
    have := run_neq_pipe p0 p0 w
    rw [ppEq_self] at this
    exact this
  have hps0 : ps[0]? = some p0 := by rw [getElem?_getD p0 (by omega), hp]
  obtain ⟨h0, h1, h2, h3, h4⟩ := hR 0 p0 hps0
  simp only [Nat.zero_mul, Nat.add_zero] at h0 h1 h2 h3 h4
  unfold p0 at h0 h1 h2 h3 h4
  dsimp only at h0 h1 h2 h3 h4
  have HR := Lib.hid hR
  have HL := Lib.hid hl
  clear h hp hR hl hps0
  have hm1 : (1 : Int) ≤ (m : Int) + 1 := by omega
  have hm0 : (0 : Int) < (m : Int) + 1 := by omega
  by_cases hc1 : c = 1
  · subst hc1
    obtain rfl : m = 0 := by omega
    have E : Hid (netE pump ps = 0) := Lib.hid (netE_yes HB.out)
    have c0 : Hid (∀ w : World, Calls Tryd.prog 25 #[.int .i64 1, .int .i64 1, .int .i64 60] w fun e w' => e = .returned (.bool true) ∧ w = w') := Lib.hid (in_any 1 1 60)
    clear c1
    generalize netE pump ps = re at *
    go_enter Tryd.func14, Tryd.ntmps14
    go_wp2_with fail
    go_quiet ((go_at_call 25; first | (with_reducible exact quiet_left (c0.out _)) | (with_reducible exact quiet_left (c2.out _))))
    go_wp2_with fail
    go_loopw [28] (fun i wr => i = .int .i64 0 ∧ Below w.heap.size w wr) (fun _ _ => 0)
    case atStart => exact ⟨rfl, below_drewN ((Below.refl _ _).alloc (Nat.le_refl _) _) _⟩
    case round =>
      obtain ⟨rfl, hB⟩ := hrel
      go_wp2_with fail
      go_ret
      exact ⟨ret_int E.out.symm, hB⟩
  · have HY := Lib.hid (fun h => netE_yes (pump := pump) (ps := ps) (HB.out.trans h))
    have HN : Hid (∀ k, k < m → pvB (ps.getD (k + 1) p0) (k : Int) = false → netE pump ps = 2) := Lib.hid fun k hk h => netE_no (netB_no k (by rw [HL.out]; omega) h)
    generalize netE pump ps = re at *
    go_enter Tryd.func14, Tryd.ntmps14
    go_wp2_with fail
    go_quiet ((go_at_call 25; first | (with_reducible exact quiet_left (c1.out _)) | (with_reducible exact quiet_left (c2.out _))))
    go_wp2_with fail
    clear c1 c2 g0 g1 g2 g3 g4 HNE h0 h1 h2 h3 h4 HG
    go_loopw [28] (fun i wr => ∃ k : Nat, k ≤ m ∧ i = .int .i64 k ∧ Hid (pvsB ps k = true) ∧ Below w.heap.size w wr) (fun i _ => m - (intOf i).toNat)
    case atStart => exact ⟨0, Nat.zero_le _, rfl, Lib.hid rfl, below_drewN ((Below.refl _ _).alloc (Nat.le_refl _) _) _⟩
    case round =>
      obtain ⟨k, hk, rfl, ho, hbr⟩ := hrel
      by_cases hlt : (k : Int) < (m : Int)
      · obtain ⟨p, hp⟩ : ∃ p, ps[k + 1]? = some p := ⟨_, List.getElem?_eq_getElem (by rw [HL.out]; omega)⟩
        have hd : ps.getD (k + 1) p0 = p := getD_of hp
        obtain ⟨q0, q1, q2, q3, q4⟩ := (HR.out.below hbr hg) (k + 1) p hp
        rw [show off + (k + 1) * 5 = off + 5 + k * 5 from by omega] at q0 q1 q2 q3 q4
        have HNk := Lib.hid (HN.out k (by omega))
        have hok : Hid (pvsB ps (k + 1) = pvB p (k : Int)) := Lib.hid (by rw [pvsB_succ, ho.out, hd]; rfl)
        rw [hd] at HNk
        have c1 := Lib.hid (validPipe_any p (k : Int))
        clear hp hd
        unfold Pp.val at c1
        generalize pvB p (k : Int) = b at *
        cases b
        · have E := Lib.hid (HNk.out rfl)
          go_wp2_with fail
          refine (c1.out _).mono ?_
          rintro e w1 ⟨rfl, hb⟩
          have hB := hbr.trans ((below1 hb).mono hbr.size)
          clear hb
          go_wp2_with fail
          go_ret
          exact ⟨ret_int E.out.symm, hB⟩
        · go_wp2_with fail
          refine (c1.out _).mono ?_
          rintro e w1 ⟨rfl, hb⟩
          have hB := hbr.trans ((below1 hb).mono hbr.size)
          clear hb q0 q1 q2 q3 q4
          go_wp2_with fail
          go_roundw
          case rel => exact ⟨k + 1, by omega, by go_num, hok, hB⟩
          case measure => simp [intOf]; omega
      · obtain rfl : k = m := by omega
        have E : Hid (re = 0) := Lib.hid (HY.out ho.out)
        go_wp2_with fail
        go_ret
        exact ⟨ret_int E.out.symm, hbr⟩

/-- whether tubing is valid, whatever it is -/
theorem check_any (pump : Int) (v : Value) (ps : List Pp) (w : World) (hv : PipesAt w.heap.size w v ps) (hG : Gp w) :
    Calls Tryd.prog 14 #[.agg #[.int .i64 pump, v]] w fun e w' => e = .returned (.int .i64 (netE pump ps)) ∧ Below w.heap.size w w' := by
  obtain ⟨A, c, rfl, hc, h⟩ := hv
  by_cases h1 : ((decide (1 ≤ (ps.length : Int)) && decide ((ps.length : Int) ≤ 60)) && (decide (0 ≤ pump) && decide (pump ≤ 10000))) = true
  · have hn : 0 < ps.length := by simp at h1; omega
    obtain ⟨g, off, rfl, hg, hR⟩ := h hn
    obtain ⟨m, hm⟩ : ∃ m, ps.length = m + 1 := ⟨ps.length - 1, by omega⟩
    by_cases hp : ppEq (ps.getD 0 p0) p0 = true
    · rw [hm] at h1 ⊢
      exact check_rest pump g off c m ps w hm (by omega) hG hg h1 (ppEq_of hp) hR
    · have hpf : ppEq (ps.getD 0 p0) p0 = false := by simpa using hp
      rw [netE_no (by unfold netB; rw [h1, hpf, Bool.true_and, Bool.false_and])]
      obtain ⟨h0, h1', h2, h3, h4⟩ := hR 0 _ (getElem?_getD p0 hn)
      simp only [Nat.zero_mul, Nat.add_zero] at h0 h1' h2 h3 h4
      exact check_pump pump g off ps.length c _ w hG hg h1 hpf h0 h1' h2 h3 h4
  · have h1f : ((decide (1 ≤ (ps.length : Int)) && decide ((ps.length : Int) ≤ 60)) && (decide (0 ≤ pump) && decide (pump ≤ 10000))) = false := by simpa using h1
    rw [netE_no (by unfold netB; rw [h1f, Bool.false_and, Bool.false_and])]
    exact check_early pump A ps.length c w h1f
end Go.Proofs.YtpphchbokphkdaaDoor
