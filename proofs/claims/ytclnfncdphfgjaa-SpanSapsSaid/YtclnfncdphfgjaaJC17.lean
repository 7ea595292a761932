/- Contracts: Z4, joined. -/
import Derived.Test.YtclnfncdphfgjaaJC16
namespace Go.Proofs.Ytclnfncdphfgjaa
open Go.Shelf Go.RowKit Go.Lib Go.Sort
set_option linter.unusedVariables false
set_option linter.unusedSimpArgs false

set_option maxHeartbeats 4000000 in
set_option maxRecDepth 1000000 in
theorem symMerge_mid {α : Type} [Inhabited α] (enc : α → Value) (cf : α → α → Int) (g : Nat) (cb : Array Value) (blk off cap : Nat) (d0 : Array α) (w0 : World) (eg : ∀ args w, (callFunc g args).run Try.prog w = .ok (.enter g args) w)
    (hcmp : CmpLays1 Try.prog g cb enc cf blk off d0.size w0) (hS : SWO (ltOf cf)) (ix : α → Nat) (R : Row1 enc w0 blk off d0) (hsz : d0.size < 1000000000) (a m b : Nat) (d : Array α) (w : World) (hs : d0.size = d.size) (S : SW enc w0 blk off d w)
    (h1 : a < m) (h2 : m < b) (hb : b ≤ d.size) (s1 : Srt (ltOf cf) ix d a m) (s2 : Srt (ltOf cf) ix d m b) (hl : Lft ix d a m b) (hma : m ≠ a + 1) (hmb : b ≠ m + 1) (ih : ∀ (a' m' b' : Nat) (d' : Array α) (w' : World), b' - a' < b - a → d0.size = d'.size → SW enc w0 blk off d' w' → a' < m' → m' < b' → b' ≤ d'.size → Srt (ltOf cf) ix d' a' m' → Srt (ltOf cf) ix d' m' b' → Lft ix d' a' m' b' →
      Calls Try.prog 153 #[.slice (some ⟨blk, off, none⟩) d'.size cap, .int .i64 a', .int .i64 m', .int .i64 b', .func (.func g) #[] cb] w' fun e w2 => e = .returned (.tuple #[]) ∧ ∃ d2, SW enc w0 blk off d2 w2 ∧ Mv d' d2 a' b' ∧ Srt (ltOf cf) ix d2 a' b') :
    Calls Try.prog 153 #[.slice (some ⟨blk, off, none⟩) d.size cap, .int .i64 a, .int .i64 m, .int .i64 b, .func (.func g) #[] cb] w fun e w' => e = .returned (.tuple #[]) ∧ ∃ d', SW enc w0 blk off d' w' ∧ Mv d d' a b ∧ Srt (ltOf cf) ix d' a b := by
  have mixed := mixedP
  have hcl0 := R.hO.cells
  simp only [Value.cells] at hcl0
  have hst := R.hO.store Try.prog
  have S0 : Aside (SW enc w0 blk off d w) := S
  have HC : Aside _ := hcmp
  have HS1 : Aside (Srt (ltOf cf) ix d a m) := s1
  have HS2 : Aside (Srt (ltOf cf) ix d m b) := s2
  have HL : Aside (Lft ix d a m b) := hl
  clear S hcmp s1 s2 hl
  have IHH : Aside _ := ih
  have t0 : ((m : Int) - (a : Int) == 1) = false := by rw [beq_eq_false_iff_ne]; omega
  have t1 : ((b : Int) - (m : Int) == 1) = false := by rw [beq_eq_false_iff_ne]; omega
  have w1 : IntKind.i64.wrap ((m : Int) - (a : Int)) = (m : Int) - (a : Int) := IntWalk.i64_in _ (by omega)
  have w1' : IntKind.i64.wrap ((b : Int) - (m : Int)) = (b : Int) - (m : Int) := IntWalk.i64_in _ (by omega)
  obtain ⟨q, hq⟩ : ∃ q, (a + b) / 2 = q := ⟨_, rfl⟩
  have hqz : ((a : Int) + (b : Int)) / 2 = (q : Int) := by omega
  have hq1 : 2 * q ≤ a + b := by omega
  have hq2 : a + b ≤ 2 * q + 1 := by omega
  have hd0 : d.size < 1000000000 := by omega
  clear hma hmb ih hq
  go_enter Try.func153, Try.ntmps153
  by_cases hmid : q < m
  · as_aux_lemma =>
    obtain ⟨s0, hs0⟩ : ∃ s0, q + m - b = s0 := ⟨_, rfl⟩
    have hs0a : a ≤ s0 := by omega
    have hs0z : (q : Int) + (m : Int) - (b : Int) = (s0 : Int) := by omega
    have zc : (q : Int) < (m : Int) := by omega
    have wz : IntKind.i64.wrap (s0 : Int) = (s0 : Int) := IntWalk.i64_in _ (by omega)
    go_wp2_with fail
    go_loopg [20, 21] (b - a) (fun g1 vi vj wr => ∃ (s r : Nat), vi = .int .i64 s ∧ vj = .int .i64 r ∧ s0 ≤ s ∧ s ≤ r ∧ r ≤ q ∧ r - s ≤ g1 ∧ Aside (SW enc w0 blk off d wr) ∧ Aside (s0 < s → ttB (ltOf cf) ix d[s - 1]! d[q + m - 1 - (s - 1)]! = true) ∧ Aside (r < q → ttB (ltOf cf) ix d[q + m - 1 - r]! d[r]! = true))
    case atStart => exact ⟨s0, q, rfl, rfl, Nat.le_refl _, by omega, Nat.le_refl _, by omega, S0, (fun h => by omega), (fun h => by omega)⟩
    case round =>
      clear S0 w1 t0 w1' t1
      obtain ⟨s, r, rfl, rfl, hi1, hij, hj1, hg1, S1, HI, HJ⟩ := hrel
      by_cases hlt : s < r
      · have hltz : (s : Int) < (r : Int) := by omega
        obtain ⟨c, hc⟩ : ∃ c, (s + r) / 2 = c := ⟨_, rfl⟩
        have hcz : ((s : Int) + (r : Int)) / 2 = (c : Int) := by omega
        have k1 : s ≤ c := by omega
        have k2 : c < r := by omega
        have k3 : m ≤ q + m - 1 - c := by omega
        have k4 : q + m - 1 - c < b := by omega
        have k5 : a ≤ c := by omega
        have k6 : c < m := by omega
        obtain ⟨v, hv⟩ : ∃ v, q + m - 1 - c = v := ⟨_, rfl⟩
        have hvz : (q : Int) + (m : Int) - 1 - (c : Int) = (v : Int) := by omega
        have w5 : IntKind.i64.wrap (v : Int) = (v : Int) := IntWalk.i64_in _ (by omega)
        rw [hv] at k3 k4
        clear hc
        cases hlv : (ltOf cf) d[v]! d[c]! with
        | false =>
          have hn : Aside (s0 < c + 1 → ttB (ltOf cf) ix d[c + 1 - 1]! d[q + m - 1 - (c + 1 - 1)]! = true) := fun _ => by
            rw [Nat.add_sub_cancel, hv]; exact test_false hS HL.out k5 k6 k3 k4 hlv
          clear hv
          obtain ⟨iN11, hiN11⟩ : ∃ q9, q9 = v := ⟨_, rfl⟩
          obtain ⟨jN11, hjN11⟩ : ∃ q9, q9 = c := ⟨_, rfl⟩
          have ea11 : ((v : Int)).toNat = iN11 := by omega
          have pa11 : (0 : Int) ≤ (v : Int) := by omega
          have ba11 : (v : Int) < (d.size : Int) := by omega
          have ra11 : IntKind.i64.wrap ((v : Int)) = (v : Int) := by rw [IntKind.wrap_i64]; omega
          have ec11 : ((c : Int)).toNat = jN11 := by omega
          have pc11 : (0 : Int) ≤ (c : Int) := by omega
          have bc11 : (c : Int) < (d.size : Int) := by omega
          have rc11 : IntKind.i64.wrap ((c : Int)) = (c : Int) := by rw [IntKind.wrap_i64]; omega
          obtain ⟨x11, hx11⟩ : ∃ v9, v9 = d[v]! := ⟨_, rfl⟩
          obtain ⟨y11, hy11⟩ : ∃ v9, v9 = d[c]! := ⟨_, rfl⟩
          have l11a := S1.out.cl R (by omega) (v) (by omega)
          have l11b := S1.out.cl R (by omega) (c) (by omega)
          rw [← hx11, ← hiN11] at l11a
          rw [← hy11, ← hjN11] at l11b
          have hc11 := S1.out.cmp HC.out (by omega) x11 y11
          have hv11 : ¬ cf x11 y11 < 0 := by rw [hx11, hy11]; exact of_decide_eq_false hlv
          have hd11 : decide (cf x11 y11 < 0) = false := decide_eq_false hv11
          clear hx11 hy11 hiN11 hjN11
          go_wp2_with fail
          go_quiet_grown (first | (go_at_fn g; refine Calls.grown_of (hc11 _ _)))
          have S2 : Aside (SW enc w0 blk off d (grow (wr.drewN nq) osq)) := S1.out.grown nq osq
          clear l11a l11b hc11 S1
          generalize grow (wr.drewN nq) osq = w2 at S2 ⊢
          clear nq osq
          clear ea11 ec11

          go_wp2_with fail
          go_roundg (r - (c + 1))
          case measure => omega
          case rel => exact ⟨c + 1, r, by go_num, rfl, by omega, by omega, by omega, Nat.le_refl _, S2, hn, HJ⟩
        | true =>
          have hn : Aside (c < q → ttB (ltOf cf) ix d[q + m - 1 - c]! d[c]! = true) := fun _ => by rw [hv]; exact test_true HL.out k5 k6 k3 k4 hlv
          clear hv
          obtain ⟨iN13, hiN13⟩ : ∃ q9, q9 = v := ⟨_, rfl⟩
          obtain ⟨jN13, hjN13⟩ : ∃ q9, q9 = c := ⟨_, rfl⟩
          have ea13 : ((v : Int)).toNat = iN13 := by omega
          have pa13 : (0 : Int) ≤ (v : Int) := by omega
          have ba13 : (v : Int) < (d.size : Int) := by omega
          have ra13 : IntKind.i64.wrap ((v : Int)) = (v : Int) := by rw [IntKind.wrap_i64]; omega
          have ec13 : ((c : Int)).toNat = jN13 := by omega
          have pc13 : (0 : Int) ≤ (c : Int) := by omega
          have bc13 : (c : Int) < (d.size : Int) := by omega
          have rc13 : IntKind.i64.wrap ((c : Int)) = (c : Int) := by rw [IntKind.wrap_i64]; omega
          obtain ⟨x13, hx13⟩ : ∃ v9, v9 = d[v]! := ⟨_, rfl⟩
          obtain ⟨y13, hy13⟩ : ∃ v9, v9 = d[c]! := ⟨_, rfl⟩
          have l13a := S1.out.cl R (by omega) (v) (by omega)
          have l13b := S1.out.cl R (by omega) (c) (by omega)
          rw [← hx13, ← hiN13] at l13a
          rw [← hy13, ← hjN13] at l13b
          have hc13 := S1.out.cmp HC.out (by omega) x13 y13
          have hv13 : cf x13 y13 < 0 := by rw [hx13, hy13]; exact of_decide_eq_true hlv
          have hd13 : decide (cf x13 y13 < 0) = true := decide_eq_true hv13
          clear hx13 hy13 hiN13 hjN13
          go_wp2_with fail
          go_quiet_grown (first | (go_at_fn g; refine Calls.grown_of (hc13 _ _)))
          have S2 : Aside (SW enc w0 blk off d (grow (wr.drewN nq) osq)) := S1.out.grown nq osq
          clear l13a l13b hc13 S1
          generalize grow (wr.drewN nq) osq = w2 at S2 ⊢
          clear nq osq
          clear ea13 ec13

          go_wp2_with fail
          go_roundg (c - s)
          case measure => omega
          case rel => exact ⟨s, c, rfl, rfl, by omega, by omega, by omega, Nat.le_refl _, S2, HI, hn⟩
      · obtain rfl : s = r := by omega
        obtain ⟨e, he⟩ : ∃ e, q + m - s = e := ⟨_, rfl⟩
        have hez : (q : Int) + (m : Int) - (s : Int) = (e : Int) := by omega
        have wez : IntKind.i64.wrap (e : Int) = (e : Int) := IntWalk.i64_in _ (by omega)
        have g1 : a ≤ s := by omega
        have g2 : s ≤ m := by omega
        have g3 : m ≤ e := by omega
        have g4 : e ≤ b := by omega
        have g5 : s ≤ q := by omega
        have g6 : q ≤ e := by omega
        have CUT : Aside (∀ d', Rot d d' s m e → Cut (ltOf cf) ix d d' a s q e b) := fun d' hR =>
          cut hS HS1.out HS2.out HL.out g1 g2 g3 g4 hb (by omega) (fun x1 x2 => by have h := HJ.out (by omega); rw [show q + m - 1 - s = e - 1 by omega] at h; exact h) (fun x1 x2 => by have h := HI.out (by omega); rw [show q + m - 1 - (s - 1) = e by omega] at h; exact h) hR
        clear HI HJ HL HS1 HS2 he hcl0 hst HC eg mixed
        clear hs0 hs0a hs0z zc wz
        clear hi1 hj1 hg1 hij
        by_cases y1 : s < m ∧ m < e
        · as_aux_lemma =>
            have z1a : (s : Int) < (m : Int) := by omega
            have z1b : (m : Int) < (e : Int) := by omega
            have hca := rotate_s enc g cb blk off cap s m e d0 d w0 wr R hs S1.out y1.1 y1.2 (by omega) (by omega)
            have HCA := Lib.hid hca
            clear hca S1
            go_wp2_with fail
            refine HCA.out.mono ?_
            rintro e9 w2 ⟨rfl, d1, S2', hR⟩
            have S2 : Aside (SW enc w0 blk off d1 w2) := S2'
            have CU : Aside (Cut (ltOf cf) ix d d1 a s q e b) := CUT.out d1 hR
            have hz1 : d1.size = d.size := hR.1
            clear S2' hR HCA CUT
            by_cases y2 : a < s ∧ s < q
            · as_aux_lemma =>
                have z2a : (a : Int) < (s : Int) := by omega
                have z2b : (s : Int) < (q : Int) := by omega
                have hcb := IHH.out a s q d1 w2 (by omega) (by omega) S2.out y2.1 y2.2 (by omega) CU.out.s1 CU.out.s2 CU.out.l1
                rw [hz1] at hcb
                have HCB := Lib.hid hcb
                clear hcb S2
                go_wp2_with fail
                refine HCB.out.mono ?_
                rintro e9 w3 ⟨rfl, d2, S3', m1, t1⟩
                have S3 : Aside (SW enc w0 blk off d2 w3) := S3'
                have M1 : Aside (Mv d1 d2 a q) := m1
                have T1 : Aside (Srt (ltOf cf) ix d2 a q) := t1
                have hz2 : d2.size = d.size := m1.1.trans hz1
                clear S3' m1 t1 HCB
                by_cases y3 : q < e ∧ e < b
                · as_aux_lemma =>
                    have z3a : (q : Int) < (e : Int) := by omega
                    have z3b : (e : Int) < (b : Int) := by omega
                    have hcc := IHH.out q e b d2 w3 (by omega) (by omega) S3.out y3.1 y3.2 (by omega) ((CU.out.s3).same fun k k1 k2 => M1.out.out k (.inr k1)) ((CU.out.s4).same fun k k1 k2 => M1.out.out k (.inr (by omega))) ((CU.out.l2).same fun k k1 k2 => M1.out.out k (.inr k1))
                    rw [hz2] at hcc
                    have HCC := Lib.hid hcc
                    clear hcc S3
                    go_wp2_with fail
                    refine HCC.out.mono ?_
                    rintro e9 w4 ⟨rfl, d3, S4, m2, t2⟩
                    have hfin : SW enc w0 blk off d3 w4 ∧ Mv d d3 a b ∧ Srt (ltOf cf) ix d3 a b := ⟨S4, CU.out.done (by omega) (by omega) hb M1.out T1.out m2 t2⟩
                    have HF : Aside _ := hfin
                    clear hfin S4 m2 t2 HCC
                    go_wp2_with fail
                    go_end0
                    exact ⟨rfl, d3, HF.out⟩
                · as_aux_lemma =>
                    have hfin : Mv d d2 a b ∧ Srt (ltOf cf) ix d2 a b := CU.out.done (by omega) (by omega) hb M1.out T1.out (Mv.refl _ _ _) (by
                      by_cases h : q < e
                      · obtain rfl : e = b := by omega
                        exact (CU.out.s3).same fun k k1 k2 => M1.out.out k (.inr k1)
                      · obtain rfl : e = q := by omega
                        exact (CU.out.s4).same fun k k1 k2 => M1.out.out k (.inr k1))
                    have HF : Aside _ := hfin
                    clear hfin
                    by_cases z3 : q < e
                    · have z3a : (q : Int) < (e : Int) := by omega
                      have z3b : ¬ (e : Int) < (b : Int) := by omega
                      have z3c : ¬ e < b := by omega
                      go_wp2_with fail
                      go_end0
                      exact ⟨rfl, d2, S3.out, HF.out⟩
                    · have z3a : ¬ (q : Int) < (e : Int) := by omega
                      go_wp2_with fail
                      go_end0
                      exact ⟨rfl, d2, S3.out, HF.out⟩
            · as_aux_lemma =>
                obtain ⟨d2, hd2⟩ : ∃ v9, v9 = d1 := ⟨_, rfl⟩
                have S3 : Aside (SW enc w0 blk off d2 w2) := by rw [hd2]; exact S2.out
                have M1 : Aside (Mv d1 d2 a q) := by rw [hd2]; exact Mv.refl _ _ _
                have T1 : Aside (Srt (ltOf cf) ix d2 a q) := by
                  rw [hd2]
                  by_cases h : a < s
                  · have e9 : s = q := by omega
                    have := CU.out.s1
                    rw [e9] at this
                    exact this
                  · have e9 : s = a := by omega
                    have := CU.out.s2
                    rw [e9] at this
                    exact this
                have hz2 : d2.size = d.size := by rw [hd2]; exact hz1
                clear hd2 S2
                by_cases z2 : a < s
                · have z2a : (a : Int) < (s : Int) := by omega
                  have z2b : ¬ (s : Int) < (q : Int) := by omega
                  have z2c : ¬ s < q := by omega
                  by_cases y3 : q < e ∧ e < b
                  · as_aux_lemma =>
                      have z3a : (q : Int) < (e : Int) := by omega
                      have z3b : (e : Int) < (b : Int) := by omega
                      have hcc := IHH.out q e b d2 w2 (by omega) (by omega) S3.out y3.1 y3.2 (by omega) ((CU.out.s3).same fun k k1 k2 => M1.out.out k (.inr k1)) ((CU.out.s4).same fun k k1 k2 => M1.out.out k (.inr (by omega))) ((CU.out.l2).same fun k k1 k2 => M1.out.out k (.inr k1))
                      rw [hz2] at hcc
                      have HCC := Lib.hid hcc
                      clear hcc S3
                      go_wp2_with fail
                      refine HCC.out.mono ?_
                      rintro e9 w4 ⟨rfl, d3, S4, m2, t2⟩
                      have hfin : SW enc w0 blk off d3 w4 ∧ Mv d d3 a b ∧ Srt (ltOf cf) ix d3 a b := ⟨S4, CU.out.done (by omega) (by omega) hb M1.out T1.out m2 t2⟩
                      have HF : Aside _ := hfin
                      clear hfin S4 m2 t2 HCC
                      go_wp2_with fail
                      go_end0
                      exact ⟨rfl, d3, HF.out⟩
                  · as_aux_lemma =>
                      have hfin : Mv d d2 a b ∧ Srt (ltOf cf) ix d2 a b := CU.out.done (by omega) (by omega) hb M1.out T1.out (Mv.refl _ _ _) (by
                        by_cases h : q < e
                        · obtain rfl : e = b := by omega
                          exact (CU.out.s3).same fun k k1 k2 => M1.out.out k (.inr k1)
                        · obtain rfl : e = q := by omega
                          exact (CU.out.s4).same fun k k1 k2 => M1.out.out k (.inr k1))
                      have HF : Aside _ := hfin
                      clear hfin
                      by_cases z3 : q < e
                      · have z3a : (q : Int) < (e : Int) := by omega
                        have z3b : ¬ (e : Int) < (b : Int) := by omega
                        have z3c : ¬ e < b := by omega
                        go_wp2_with fail
                        go_end0
                        exact ⟨rfl, d2, S3.out, HF.out⟩
                      · have z3a : ¬ (q : Int) < (e : Int) := by omega
                        go_wp2_with fail
                        go_end0
                        exact ⟨rfl, d2, S3.out, HF.out⟩
                · have z2a : ¬ (a : Int) < (s : Int) := by omega
                  by_cases y3 : q < e ∧ e < b
                  · as_aux_lemma =>
                      have z3a : (q : Int) < (e : Int) := by omega
                      have z3b : (e : Int) < (b : Int) := by omega
                      have hcc := IHH.out q e b d2 w2 (by omega) (by omega) S3.out y3.1 y3.2 (by omega) ((CU.out.s3).same fun k k1 k2 => M1.out.out k (.inr k1)) ((CU.out.s4).same fun k k1 k2 => M1.out.out k (.inr (by omega))) ((CU.out.l2).same fun k k1 k2 => M1.out.out k (.inr k1))
                      rw [hz2] at hcc
                      have HCC := Lib.hid hcc
                      clear hcc S3
                      go_wp2_with fail
                      refine HCC.out.mono ?_
                      rintro e9 w4 ⟨rfl, d3, S4, m2, t2⟩
                      have hfin : SW enc w0 blk off d3 w4 ∧ Mv d d3 a b ∧ Srt (ltOf cf) ix d3 a b := ⟨S4, CU.out.done (by omega) (by omega) hb M1.out T1.out m2 t2⟩
                      have HF : Aside _ := hfin
                      clear hfin S4 m2 t2 HCC
                      go_wp2_with fail
                      go_end0
                      exact ⟨rfl, d3, HF.out⟩
                  · as_aux_lemma =>
                      have hfin : Mv d d2 a b ∧ Srt (ltOf cf) ix d2 a b := CU.out.done (by omega) (by omega) hb M1.out T1.out (Mv.refl _ _ _) (by
                        by_cases h : q < e
                        · obtain rfl : e = b := by omega
                          exact (CU.out.s3).same fun k k1 k2 => M1.out.out k (.inr k1)
                        · obtain rfl : e = q := by omega
                          exact (CU.out.s4).same fun k k1 k2 => M1.out.out k (.inr k1))
                      have HF : Aside _ := hfin
                      clear hfin
                      by_cases z3 : q < e
                      · have z3a : (q : Int) < (e : Int) := by omega
                        have z3b : ¬ (e : Int) < (b : Int) := by omega
                        have z3c : ¬ e < b := by omega
                        go_wp2_with fail
                        go_end0
                        exact ⟨rfl, d2, S3.out, HF.out⟩
                      · have z3a : ¬ (q : Int) < (e : Int) := by omega
                        go_wp2_with fail
                        go_end0
                        exact ⟨rfl, d2, S3.out, HF.out⟩
        · as_aux_lemma =>
            obtain ⟨d1, hd1⟩ : ∃ v9, v9 = d := ⟨_, rfl⟩
            have S2 : Aside (SW enc w0 blk off d1 wr) := by rw [hd1]; exact S1.out
            have CU : Aside (Cut (ltOf cf) ix d d1 a s q e b) := CUT.out d1 (by rw [hd1]; exact Rot.none d s m e (by omega) (by omega) (by omega))
            have hz1 : d1.size = d.size := by rw [hd1]
            clear hd1 S1 CUT
            by_cases z1 : s < m
            · have z1a : (s : Int) < (m : Int) := by omega
              have z1b : ¬ (m : Int) < (e : Int) := by omega
              have z1c : ¬ m < e := by omega
              by_cases y2 : a < s ∧ s < q
              · as_aux_lemma =>
                  have z2a : (a : Int) < (s : Int) := by omega
                  have z2b : (s : Int) < (q : Int) := by omega
                  have hcb := IHH.out a s q d1 wr (by omega) (by omega) S2.out y2.1 y2.2 (by omega) CU.out.s1 CU.out.s2 CU.out.l1
                  rw [hz1] at hcb
                  have HCB := Lib.hid hcb
                  clear hcb S2
                  go_wp2_with fail
                  refine HCB.out.mono ?_
                  rintro e9 w3 ⟨rfl, d2, S3', m1, t1⟩
                  have S3 : Aside (SW enc w0 blk off d2 w3) := S3'
                  have M1 : Aside (Mv d1 d2 a q) := m1
                  have T1 : Aside (Srt (ltOf cf) ix d2 a q) := t1
                  have hz2 : d2.size = d.size := m1.1.trans hz1
                  clear S3' m1 t1 HCB
                  by_cases y3 : q < e ∧ e < b
                  · as_aux_lemma =>
                      have z3a : (q : Int) < (e : Int) := by omega
                      have z3b : (e : Int) < (b : Int) := by omega
                      have hcc := IHH.out q e b d2 w3 (by omega) (by omega) S3.out y3.1 y3.2 (by omega) ((CU.out.s3).same fun k k1 k2 => M1.out.out k (.inr k1)) ((CU.out.s4).same fun k k1 k2 => M1.out.out k (.inr (by omega))) ((CU.out.l2).same fun k k1 k2 => M1.out.out k (.inr k1))
                      rw [hz2] at hcc
                      have HCC := Lib.hid hcc
                      clear hcc S3
                      go_wp2_with fail
                      refine HCC.out.mono ?_
                      rintro e9 w4 ⟨rfl, d3, S4, m2, t2⟩
                      have hfin : SW enc w0 blk off d3 w4 ∧ Mv d d3 a b ∧ Srt (ltOf cf) ix d3 a b := ⟨S4, CU.out.done (by omega) (by omega) hb M1.out T1.out m2 t2⟩
                      have HF : Aside _ := hfin
                      clear hfin S4 m2 t2 HCC
                      go_wp2_with fail
                      go_end0
                      exact ⟨rfl, d3, HF.out⟩
                  · as_aux_lemma =>
                      have hfin : Mv d d2 a b ∧ Srt (ltOf cf) ix d2 a b := CU.out.done (by omega) (by omega) hb M1.out T1.out (Mv.refl _ _ _) (by
                        by_cases h : q < e
                        · obtain rfl : e = b := by omega
                          exact (CU.out.s3).same fun k k1 k2 => M1.out.out k (.inr k1)
                        · obtain rfl : e = q := by omega
                          exact (CU.out.s4).same fun k k1 k2 => M1.out.out k (.inr k1))
                      have HF : Aside _ := hfin
                      clear hfin
                      by_cases z3 : q < e
                      · have z3a : (q : Int) < (e : Int) := by omega
                        have z3b : ¬ (e : Int) < (b : Int) := by omega
                        have z3c : ¬ e < b := by omega
                        go_wp2_with fail
                        go_end0
                        exact ⟨rfl, d2, S3.out, HF.out⟩
                      · have z3a : ¬ (q : Int) < (e : Int) := by omega
                        go_wp2_with fail
                        go_end0
                        exact ⟨rfl, d2, S3.out, HF.out⟩
              · as_aux_lemma =>
                  obtain ⟨d2, hd2⟩ : ∃ v9, v9 = d1 := ⟨_, rfl⟩
                  have S3 : Aside (SW enc w0 blk off d2 wr) := by rw [hd2]; exact S2.out
                  have M1 : Aside (Mv d1 d2 a q) := by rw [hd2]; exact Mv.refl _ _ _
                  have T1 : Aside (Srt (ltOf cf) ix d2 a q) := by
                    rw [hd2]
                    by_cases h : a < s
                    · have e9 : s = q := by omega
                      have := CU.out.s1
                      rw [e9] at this
                      exact this
                    · have e9 : s = a := by omega
                      have := CU.out.s2
                      rw [e9] at this
                      exact this
                  have hz2 : d2.size = d.size := by rw [hd2]; exact hz1
                  clear hd2 S2
                  by_cases z2 : a < s
                  · have z2a : (a : Int) < (s : Int) := by omega
                    have z2b : ¬ (s : Int) < (q : Int) := by omega
                    have z2c : ¬ s < q := by omega
                    by_cases y3 : q < e ∧ e < b
                    · as_aux_lemma =>
                        have z3a : (q : Int) < (e : Int) := by omega
                        have z3b : (e : Int) < (b : Int) := by omega
                        have hcc := IHH.out q e b d2 wr (by omega) (by omega) S3.out y3.1 y3.2 (by omega) ((CU.out.s3).same fun k k1 k2 => M1.out.out k (.inr k1)) ((CU.out.s4).same fun k k1 k2 => M1.out.out k (.inr (by omega))) ((CU.out.l2).same fun k k1 k2 => M1.out.out k (.inr k1))
                        rw [hz2] at hcc
                        have HCC := Lib.hid hcc
                        clear hcc S3
                        go_wp2_with fail
                        refine HCC.out.mono ?_
                        rintro e9 w4 ⟨rfl, d3, S4, m2, t2⟩
                        have hfin : SW enc w0 blk off d3 w4 ∧ Mv d d3 a b ∧ Srt (ltOf cf) ix d3 a b := ⟨S4, CU.out.done (by omega) (by omega) hb M1.out T1.out m2 t2⟩
                        have HF : Aside _ := hfin
                        clear hfin S4 m2 t2 HCC
                        go_wp2_with fail
                        go_end0
                        exact ⟨rfl, d3, HF.out⟩
                    · as_aux_lemma =>
                        have hfin : Mv d d2 a b ∧ Srt (ltOf cf) ix d2 a b := CU.out.done (by omega) (by omega) hb M1.out T1.out (Mv.refl _ _ _) (by
                          by_cases h : q < e
                          · obtain rfl : e = b := by omega
                            exact (CU.out.s3).same fun k k1 k2 => M1.out.out k (.inr k1)
                          · obtain rfl : e = q := by omega
                            exact (CU.out.s4).same fun k k1 k2 => M1.out.out k (.inr k1))
                        have HF : Aside _ := hfin
                        clear hfin
                        by_cases z3 : q < e
                        · have z3a : (q : Int) < (e : Int) := by omega
                          have z3b : ¬ (e : Int) < (b : Int) := by omega
                          have z3c : ¬ e < b := by omega
                          go_wp2_with fail
                          go_end0
                          exact ⟨rfl, d2, S3.out, HF.out⟩
                        · have z3a : ¬ (q : Int) < (e : Int) := by omega
                          go_wp2_with fail
                          go_end0
                          exact ⟨rfl, d2, S3.out, HF.out⟩
                  · have z2a : ¬ (a : Int) < (s : Int) := by omega
                    by_cases y3 : q < e ∧ e < b
                    · as_aux_lemma =>
                        have z3a : (q : Int) < (e : Int) := by omega
                        have z3b : (e : Int) < (b : Int) := by omega
                        have hcc := IHH.out q e b d2 wr (by omega) (by omega) S3.out y3.1 y3.2 (by omega) ((CU.out.s3).same fun k k1 k2 => M1.out.out k (.inr k1)) ((CU.out.s4).same fun k k1 k2 => M1.out.out k (.inr (by omega))) ((CU.out.l2).same fun k k1 k2 => M1.out.out k (.inr k1))
                        rw [hz2] at hcc
                        have HCC := Lib.hid hcc
                        clear hcc S3
                        go_wp2_with fail
                        refine HCC.out.mono ?_
                        rintro e9 w4 ⟨rfl, d3, S4, m2, t2⟩
                        have hfin : SW enc w0 blk off d3 w4 ∧ Mv d d3 a b ∧ Srt (ltOf cf) ix d3 a b := ⟨S4, CU.out.done (by omega) (by omega) hb M1.out T1.out m2 t2⟩
                        have HF : Aside _ := hfin
                        clear hfin S4 m2 t2 HCC
                        go_wp2_with fail
                        go_end0
                        exact ⟨rfl, d3, HF.out⟩
                    · as_aux_lemma =>
                        have hfin : Mv d d2 a b ∧ Srt (ltOf cf) ix d2 a b := CU.out.done (by omega) (by omega) hb M1.out T1.out (Mv.refl _ _ _) (by
                          by_cases h : q < e
                          · obtain rfl : e = b := by omega
                            exact (CU.out.s3).same fun k k1 k2 => M1.out.out k (.inr k1)
                          · obtain rfl : e = q := by omega
                            exact (CU.out.s4).same fun k k1 k2 => M1.out.out k (.inr k1))
                        have HF : Aside _ := hfin
                        clear hfin
                        by_cases z3 : q < e
                        · have z3a : (q : Int) < (e : Int) := by omega
                          have z3b : ¬ (e : Int) < (b : Int) := by omega
                          have z3c : ¬ e < b := by omega
                          go_wp2_with fail
                          go_end0
                          exact ⟨rfl, d2, S3.out, HF.out⟩
                        · have z3a : ¬ (q : Int) < (e : Int) := by omega
                          go_wp2_with fail
                          go_end0
                          exact ⟨rfl, d2, S3.out, HF.out⟩
            · have z1a : ¬ (s : Int) < (m : Int) := by omega
              by_cases y2 : a < s ∧ s < q
              · as_aux_lemma =>
                  have z2a : (a : Int) < (s : Int) := by omega
                  have z2b : (s : Int) < (q : Int) := by omega
                  have hcb := IHH.out a s q d1 wr (by omega) (by omega) S2.out y2.1 y2.2 (by omega) CU.out.s1 CU.out.s2 CU.out.l1
                  rw [hz1] at hcb
                  have HCB := Lib.hid hcb
                  clear hcb S2
                  go_wp2_with fail
                  refine HCB.out.mono ?_
                  rintro e9 w3 ⟨rfl, d2, S3', m1, t1⟩
                  have S3 : Aside (SW enc w0 blk off d2 w3) := S3'
                  have M1 : Aside (Mv d1 d2 a q) := m1
                  have T1 : Aside (Srt (ltOf cf) ix d2 a q) := t1
                  have hz2 : d2.size = d.size := m1.1.trans hz1
                  clear S3' m1 t1 HCB
                  by_cases y3 : q < e ∧ e < b
                  · as_aux_lemma =>
                      have z3a : (q : Int) < (e : Int) := by omega
                      have z3b : (e : Int) < (b : Int) := by omega
                      have hcc := IHH.out q e b d2 w3 (by omega) (by omega) S3.out y3.1 y3.2 (by omega) ((CU.out.s3).same fun k k1 k2 => M1.out.out k (.inr k1)) ((CU.out.s4).same fun k k1 k2 => M1.out.out k (.inr (by omega))) ((CU.out.l2).same fun k k1 k2 => M1.out.out k (.inr k1))
                      rw [hz2] at hcc
                      have HCC := Lib.hid hcc
                      clear hcc S3
                      go_wp2_with fail
                      refine HCC.out.mono ?_
                      rintro e9 w4 ⟨rfl, d3, S4, m2, t2⟩
                      have hfin : SW enc w0 blk off d3 w4 ∧ Mv d d3 a b ∧ Srt (ltOf cf) ix d3 a b := ⟨S4, CU.out.done (by omega) (by omega) hb M1.out T1.out m2 t2⟩
                      have HF : Aside _ := hfin
                      clear hfin S4 m2 t2 HCC
                      go_wp2_with fail
                      go_end0
                      exact ⟨rfl, d3, HF.out⟩
                  · as_aux_lemma =>
                      have hfin : Mv d d2 a b ∧ Srt (ltOf cf) ix d2 a b := CU.out.done (by omega) (by omega) hb M1.out T1.out (Mv.refl _ _ _) (by
                        by_cases h : q < e
                        · obtain rfl : e = b := by omega
                          exact (CU.out.s3).same fun k k1 k2 => M1.out.out k (.inr k1)
                        · obtain rfl : e = q := by omega
                          exact (CU.out.s4).same fun k k1 k2 => M1.out.out k (.inr k1))
                      have HF : Aside _ := hfin
                      clear hfin
                      by_cases z3 : q < e
                      · have z3a : (q : Int) < (e : Int) := by omega
                        have z3b : ¬ (e : Int) < (b : Int) := by omega
                        have z3c : ¬ e < b := by omega
                        go_wp2_with fail
                        go_end0
                        exact ⟨rfl, d2, S3.out, HF.out⟩
                      · have z3a : ¬ (q : Int) < (e : Int) := by omega
                        go_wp2_with fail
                        go_end0
                        exact ⟨rfl, d2, S3.out, HF.out⟩
              · as_aux_lemma =>
                  obtain ⟨d2, hd2⟩ : ∃ v9, v9 = d1 := ⟨_, rfl⟩
                  have S3 : Aside (SW enc w0 blk off d2 wr) := by rw [hd2]; exact S2.out
                  have M1 : Aside (Mv d1 d2 a q) := by rw [hd2]; exact Mv.refl _ _ _
                  have T1 : Aside (Srt (ltOf cf) ix d2 a q) := by
                    rw [hd2]
                    by_cases h : a < s
                    · have e9 : s = q := by omega
                      have := CU.out.s1
                      rw [e9] at this
                      exact this
                    · have e9 : s = a := by omega
                      have := CU.out.s2
                      rw [e9] at this
                      exact this
                  have hz2 : d2.size = d.size := by rw [hd2]; exact hz1
                  clear hd2 S2
                  by_cases z2 : a < s
                  · have z2a : (a : Int) < (s : Int) := by omega
                    have z2b : ¬ (s : Int) < (q : Int) := by omega
                    have z2c : ¬ s < q := by omega
                    by_cases y3 : q < e ∧ e < b
                    · as_aux_lemma =>
                        have z3a : (q : Int) < (e : Int) := by omega
                        have z3b : (e : Int) < (b : Int) := by omega
                        have hcc := IHH.out q e b d2 wr (by omega) (by omega) S3.out y3.1 y3.2 (by omega) ((CU.out.s3).same fun k k1 k2 => M1.out.out k (.inr k1)) ((CU.out.s4).same fun k k1 k2 => M1.out.out k (.inr (by omega))) ((CU.out.l2).same fun k k1 k2 => M1.out.out k (.inr k1))
                        rw [hz2] at hcc
                        have HCC := Lib.hid hcc
                        clear hcc S3
                        go_wp2_with fail
                        refine HCC.out.mono ?_
                        rintro e9 w4 ⟨rfl, d3, S4, m2, t2⟩
                        have hfin : SW enc w0 blk off d3 w4 ∧ Mv d d3 a b ∧ Srt (ltOf cf) ix d3 a b := ⟨S4, CU.out.done (by omega) (by omega) hb M1.out T1.out m2 t2⟩
                        have HF : Aside _ := hfin
                        clear hfin S4 m2 t2 HCC
                        go_wp2_with fail
                        go_end0
                        exact ⟨rfl, d3, HF.out⟩
                    · as_aux_lemma =>
                        have hfin : Mv d d2 a b ∧ Srt (ltOf cf) ix d2 a b := CU.out.done (by omega) (by omega) hb M1.out T1.out (Mv.refl _ _ _) (by
                          by_cases h : q < e
                          · obtain rfl : e = b := by omega
                            exact (CU.out.s3).same fun k k1 k2 => M1.out.out k (.inr k1)
                          · obtain rfl : e = q := by omega
                            exact (CU.out.s4).same fun k k1 k2 => M1.out.out k (.inr k1))
                        have HF : Aside _ := hfin
                        clear hfin
                        by_cases z3 : q < e
                        · have z3a : (q : Int) < (e : Int) := by omega
                          have z3b : ¬ (e : Int) < (b : Int) := by omega
                          have z3c : ¬ e < b := by omega
                          go_wp2_with fail
                          go_end0
                          exact ⟨rfl, d2, S3.out, HF.out⟩
                        · have z3a : ¬ (q : Int) < (e : Int) := by omega
                          go_wp2_with fail
                          go_end0
                          exact ⟨rfl, d2, S3.out, HF.out⟩
                  · have z2a : ¬ (a : Int) < (s : Int) := by omega
                    by_cases y3 : q < e ∧ e < b
                    · as_aux_lemma =>
                        have z3a : (q : Int) < (e : Int) := by omega
                        have z3b : (e : Int) < (b : Int) := by omega
                        have hcc := IHH.out q e b d2 wr (by omega) (by omega) S3.out y3.1 y3.2 (by omega) ((CU.out.s3).same fun k k1 k2 => M1.out.out k (.inr k1)) ((CU.out.s4).same fun k k1 k2 => M1.out.out k (.inr (by omega))) ((CU.out.l2).same fun k k1 k2 => M1.out.out k (.inr k1))
                        rw [hz2] at hcc
                        have HCC := Lib.hid hcc
                        clear hcc S3
                        go_wp2_with fail
                        refine HCC.out.mono ?_
                        rintro e9 w4 ⟨rfl, d3, S4, m2, t2⟩
                        have hfin : SW enc w0 blk off d3 w4 ∧ Mv d d3 a b ∧ Srt (ltOf cf) ix d3 a b := ⟨S4, CU.out.done (by omega) (by omega) hb M1.out T1.out m2 t2⟩
                        have HF : Aside _ := hfin
                        clear hfin S4 m2 t2 HCC
                        go_wp2_with fail
                        go_end0
                        exact ⟨rfl, d3, HF.out⟩
                    · as_aux_lemma =>
                        have hfin : Mv d d2 a b ∧ Srt (ltOf cf) ix d2 a b := CU.out.done (by omega) (by omega) hb M1.out T1.out (Mv.refl _ _ _) (by
                          by_cases h : q < e
                          · obtain rfl : e = b := by omega
                            exact (CU.out.s3).same fun k k1 k2 => M1.out.out k (.inr k1)
                          · obtain rfl : e = q := by omega
                            exact (CU.out.s4).same fun k k1 k2 => M1.out.out k (.inr k1))
                        have HF : Aside _ := hfin
                        clear hfin
                        by_cases z3 : q < e
                        · have z3a : (q : Int) < (e : Int) := by omega
                          have z3b : ¬ (e : Int) < (b : Int) := by omega
                          have z3c : ¬ e < b := by omega
                          go_wp2_with fail
                          go_end0
                          exact ⟨rfl, d2, S3.out, HF.out⟩
                        · have z3a : ¬ (q : Int) < (e : Int) := by omega
                          go_wp2_with fail
                          go_end0
                          exact ⟨rfl, d2, S3.out, HF.out⟩
  · as_aux_lemma =>
    have zc : ¬ (q : Int) < (m : Int) := by omega
    go_wp2_with fail
    go_loopg [20, 21] (b - a) (fun g1 vi vj wr => ∃ (s r : Nat), vi = .int .i64 s ∧ vj = .int .i64 r ∧ a ≤ s ∧ s ≤ r ∧ r ≤ m ∧ r - s ≤ g1 ∧ Aside (SW enc w0 blk off d wr) ∧ Aside (a < s → ttB (ltOf cf) ix d[s - 1]! d[q + m - 1 - (s - 1)]! = true) ∧ Aside (r < m → ttB (ltOf cf) ix d[q + m - 1 - r]! d[r]! = true))
    case atStart => exact ⟨a, m, rfl, rfl, Nat.le_refl _, by omega, Nat.le_refl _, by omega, S0, (fun h => by omega), (fun h => by omega)⟩
    case round =>
      clear S0 w1 t0 w1' t1
      obtain ⟨s, r, rfl, rfl, hi1, hij, hj1, hg1, S1, HI, HJ⟩ := hrel
      by_cases hlt : s < r
      · have hltz : (s : Int) < (r : Int) := by omega
        obtain ⟨c, hc⟩ : ∃ c, (s + r) / 2 = c := ⟨_, rfl⟩
        have hcz : ((s : Int) + (r : Int)) / 2 = (c : Int) := by omega
        have k1 : s ≤ c := by omega
        have k2 : c < r := by omega
        have k3 : m ≤ q + m - 1 - c := by omega
        have k4 : q + m - 1 - c < b := by omega
        have k5 : a ≤ c := by omega
        have k6 : c < m := by omega
        obtain ⟨v, hv⟩ : ∃ v, q + m - 1 - c = v := ⟨_, rfl⟩
        have hvz : (q : Int) + (m : Int) - 1 - (c : Int) = (v : Int) := by omega
        have w5 : IntKind.i64.wrap (v : Int) = (v : Int) := IntWalk.i64_in _ (by omega)
        rw [hv] at k3 k4
        clear hc
        cases hlv : (ltOf cf) d[v]! d[c]! with
        | false =>
          have hn : Aside (a < c + 1 → ttB (ltOf cf) ix d[c + 1 - 1]! d[q + m - 1 - (c + 1 - 1)]! = true) := fun _ => by
            rw [Nat.add_sub_cancel, hv]; exact test_false hS HL.out k5 k6 k3 k4 hlv
          clear hv
          obtain ⟨iN12, hiN12⟩ : ∃ q9, q9 = v := ⟨_, rfl⟩
          obtain ⟨jN12, hjN12⟩ : ∃ q9, q9 = c := ⟨_, rfl⟩
          have ea12 : ((v : Int)).toNat = iN12 := by omega
          have pa12 : (0 : Int) ≤ (v : Int) := by omega
          have ba12 : (v : Int) < (d.size : Int) := by omega
          have ra12 : IntKind.i64.wrap ((v : Int)) = (v : Int) := by rw [IntKind.wrap_i64]; omega
          have ec12 : ((c : Int)).toNat = jN12 := by omega
          have pc12 : (0 : Int) ≤ (c : Int) := by omega
          have bc12 : (c : Int) < (d.size : Int) := by omega
          have rc12 : IntKind.i64.wrap ((c : Int)) = (c : Int) := by rw [IntKind.wrap_i64]; omega
          obtain ⟨x12, hx12⟩ : ∃ v9, v9 = d[v]! := ⟨_, rfl⟩
          obtain ⟨y12, hy12⟩ : ∃ v9, v9 = d[c]! := ⟨_, rfl⟩
          have l12a := S1.out.cl R (by omega) (v) (by omega)
          have l12b := S1.out.cl R (by omega) (c) (by omega)
          rw [← hx12, ← hiN12] at l12a
          rw [← hy12, ← hjN12] at l12b
          have hc12 := S1.out.cmp HC.out (by omega) x12 y12
          have hv12 : ¬ cf x12 y12 < 0 := by rw [hx12, hy12]; exact of_decide_eq_false hlv
          have hd12 : decide (cf x12 y12 < 0) = false := decide_eq_false hv12
          clear hx12 hy12 hiN12 hjN12
          go_wp2_with fail
          go_quiet_grown (first | (go_at_fn g; refine Calls.grown_of (hc12 _ _)))
          have S2 : Aside (SW enc w0 blk off d (grow (wr.drewN nq) osq)) := S1.out.grown nq osq
          clear l12a l12b hc12 S1
          generalize grow (wr.drewN nq) osq = w2 at S2 ⊢
          clear nq osq
          clear ea12 ec12

          go_wp2_with fail
          go_roundg (r - (c + 1))
          case measure => omega
          case rel => exact ⟨c + 1, r, by go_num, rfl, by omega, by omega, by omega, Nat.le_refl _, S2, hn, HJ⟩
        | true =>
          have hn : Aside (c < m → ttB (ltOf cf) ix d[q + m - 1 - c]! d[c]! = true) := fun _ => by rw [hv]; exact test_true HL.out k5 k6 k3 k4 hlv
          clear hv
          obtain ⟨iN14, hiN14⟩ : ∃ q9, q9 = v := ⟨_, rfl⟩
          obtain ⟨jN14, hjN14⟩ : ∃ q9, q9 = c := ⟨_, rfl⟩
          have ea14 : ((v : Int)).toNat = iN14 := by omega
          have pa14 : (0 : Int) ≤ (v : Int) := by omega
          have ba14 : (v : Int) < (d.size : Int) := by omega
          have ra14 : IntKind.i64.wrap ((v : Int)) = (v : Int) := by rw [IntKind.wrap_i64]; omega
          have ec14 : ((c : Int)).toNat = jN14 := by omega
          have pc14 : (0 : Int) ≤ (c : Int) := by omega
          have bc14 : (c : Int) < (d.size : Int) := by omega
          have rc14 : IntKind.i64.wrap ((c : Int)) = (c : Int) := by rw [IntKind.wrap_i64]; omega
          obtain ⟨x14, hx14⟩ : ∃ v9, v9 = d[v]! := ⟨_, rfl⟩
          obtain ⟨y14, hy14⟩ : ∃ v9, v9 = d[c]! := ⟨_, rfl⟩
          have l14a := S1.out.cl R (by omega) (v) (by omega)
          have l14b := S1.out.cl R (by omega) (c) (by omega)
          rw [← hx14, ← hiN14] at l14a
          rw [← hy14, ← hjN14] at l14b
          have hc14 := S1.out.cmp HC.out (by omega) x14 y14
          have hv14 : cf x14 y14 < 0 := by rw [hx14, hy14]; exact of_decide_eq_true hlv
          have hd14 : decide (cf x14 y14 < 0) = true := decide_eq_true hv14
          clear hx14 hy14 hiN14 hjN14
          go_wp2_with fail
          go_quiet_grown (first | (go_at_fn g; refine Calls.grown_of (hc14 _ _)))
          have S2 : Aside (SW enc w0 blk off d (grow (wr.drewN nq) osq)) := S1.out.grown nq osq
          clear l14a l14b hc14 S1
          generalize grow (wr.drewN nq) osq = w2 at S2 ⊢
          clear nq osq
          clear ea14 ec14

          go_wp2_with fail
          go_roundg (c - s)
          case measure => omega
          case rel => exact ⟨s, c, rfl, rfl, by omega, by omega, by omega, Nat.le_refl _, S2, HI, hn⟩
      · obtain rfl : s = r := by omega
        obtain ⟨e, he⟩ : ∃ e, q + m - s = e := ⟨_, rfl⟩
        have hez : (q : Int) + (m : Int) - (s : Int) = (e : Int) := by omega
        have wez : IntKind.i64.wrap (e : Int) = (e : Int) := IntWalk.i64_in _ (by omega)
        have g1 : a ≤ s := by omega
        have g2 : s ≤ m := by omega
        have g3 : m ≤ e := by omega
        have g4 : e ≤ b := by omega
        have g5 : s ≤ q := by omega
        have g6 : q ≤ e := by omega
        have CUT : Aside (∀ d', Rot d d' s m e → Cut (ltOf cf) ix d d' a s q e b) := fun d' hR =>
          cut hS HS1.out HS2.out HL.out g1 g2 g3 g4 hb (by omega) (fun x1 x2 => by have h := HJ.out (by omega); rw [show q + m - 1 - s = e - 1 by omega] at h; exact h) (fun x1 x2 => by have h := HI.out (by omega); rw [show q + m - 1 - (s - 1) = e by omega] at h; exact h) hR
        clear HI HJ HL HS1 HS2 he hcl0 hst HC eg mixed
        clear zc
        clear hi1 hj1 hg1 hij
        by_cases y1 : s < m ∧ m < e
        · as_aux_lemma =>
            have z1a : (s : Int) < (m : Int) := by omega
            have z1b : (m : Int) < (e : Int) := by omega
            have hca := rotate_s enc g cb blk off cap s m e d0 d w0 wr R hs S1.out y1.1 y1.2 (by omega) (by omega)
            have HCA := Lib.hid hca
            clear hca S1
            go_wp2_with fail
            refine HCA.out.mono ?_
            rintro e9 w2 ⟨rfl, d1, S2', hR⟩
            have S2 : Aside (SW enc w0 blk off d1 w2) := S2'
            have CU : Aside (Cut (ltOf cf) ix d d1 a s q e b) := CUT.out d1 hR
            have hz1 : d1.size = d.size := hR.1
            clear S2' hR HCA CUT
            by_cases y2 : a < s ∧ s < q
            · as_aux_lemma =>
                have z2a : (a : Int) < (s : Int) := by omega
                have z2b : (s : Int) < (q : Int) := by omega
                have hcb := IHH.out a s q d1 w2 (by omega) (by omega) S2.out y2.1 y2.2 (by omega) CU.out.s1 CU.out.s2 CU.out.l1
                rw [hz1] at hcb
                have HCB := Lib.hid hcb
                clear hcb S2
                go_wp2_with fail
                refine HCB.out.mono ?_
                rintro e9 w3 ⟨rfl, d2, S3', m1, t1⟩
                have S3 : Aside (SW enc w0 blk off d2 w3) := S3'
                have M1 : Aside (Mv d1 d2 a q) := m1
                have T1 : Aside (Srt (ltOf cf) ix d2 a q) := t1
                have hz2 : d2.size = d.size := m1.1.trans hz1
                clear S3' m1 t1 HCB
                by_cases y3 : q < e ∧ e < b
                · as_aux_lemma =>
                    have z3a : (q : Int) < (e : Int) := by omega
                    have z3b : (e : Int) < (b : Int) := by omega
                    have hcc := IHH.out q e b d2 w3 (by omega) (by omega) S3.out y3.1 y3.2 (by omega) ((CU.out.s3).same fun k k1 k2 => M1.out.out k (.inr k1)) ((CU.out.s4).same fun k k1 k2 => M1.out.out k (.inr (by omega))) ((CU.out.l2).same fun k k1 k2 => M1.out.out k (.inr k1))
                    rw [hz2] at hcc
                    have HCC := Lib.hid hcc
                    clear hcc S3
                    go_wp2_with fail
                    refine HCC.out.mono ?_
                    rintro e9 w4 ⟨rfl, d3, S4, m2, t2⟩
                    have hfin : SW enc w0 blk off d3 w4 ∧ Mv d d3 a b ∧ Srt (ltOf cf) ix d3 a b := ⟨S4, CU.out.done (by omega) (by omega) hb M1.out T1.out m2 t2⟩
                    have HF : Aside _ := hfin
                    clear hfin S4 m2 t2 HCC
                    go_wp2_with fail
                    go_end0
                    exact ⟨rfl, d3, HF.out⟩
                · as_aux_lemma =>
                    have hfin : Mv d d2 a b ∧ Srt (ltOf cf) ix d2 a b := CU.out.done (by omega) (by omega) hb M1.out T1.out (Mv.refl _ _ _) (by
                      by_cases h : q < e
                      · obtain rfl : e = b := by omega
                        exact (CU.out.s3).same fun k k1 k2 => M1.out.out k (.inr k1)
                      · obtain rfl : e = q := by omega
                        exact (CU.out.s4).same fun k k1 k2 => M1.out.out k (.inr k1))
                    have HF : Aside _ := hfin
                    clear hfin
                    by_cases z3 : q < e
                    · have z3a : (q : Int) < (e : Int) := by omega
                      have z3b : ¬ (e : Int) < (b : Int) := by omega
                      have z3c : ¬ e < b := by omega
                      go_wp2_with fail
                      go_end0
                      exact ⟨rfl, d2, S3.out, HF.out⟩
                    · have z3a : ¬ (q : Int) < (e : Int) := by omega
                      go_wp2_with fail
                      go_end0
                      exact ⟨rfl, d2, S3.out, HF.out⟩
            · as_aux_lemma =>
                obtain ⟨d2, hd2⟩ : ∃ v9, v9 = d1 := ⟨_, rfl⟩
                have S3 : Aside (SW enc w0 blk off d2 w2) := by rw [hd2]; exact S2.out
                have M1 : Aside (Mv d1 d2 a q) := by rw [hd2]; exact Mv.refl _ _ _
                have T1 : Aside (Srt (ltOf cf) ix d2 a q) := by
                  rw [hd2]
                  by_cases h : a < s
                  · have e9 : s = q := by omega
                    have := CU.out.s1
                    rw [e9] at this
                    exact this
                  · have e9 : s = a := by omega
                    have := CU.out.s2
                    rw [e9] at this
                    exact this
                have hz2 : d2.size = d.size := by rw [hd2]; exact hz1
                clear hd2 S2
                by_cases z2 : a < s
                · have z2a : (a : Int) < (s : Int) := by omega
                  have z2b : ¬ (s : Int) < (q : Int) := by omega
                  have z2c : ¬ s < q := by omega
                  by_cases y3 : q < e ∧ e < b
                  · as_aux_lemma =>
                      have z3a : (q : Int) < (e : Int) := by omega
                      have z3b : (e : Int) < (b : Int) := by omega
                      have hcc := IHH.out q e b d2 w2 (by omega) (by omega) S3.out y3.1 y3.2 (by omega) ((CU.out.s3).same fun k k1 k2 => M1.out.out k (.inr k1)) ((CU.out.s4).same fun k k1 k2 => M1.out.out k (.inr (by omega))) ((CU.out.l2).same fun k k1 k2 => M1.out.out k (.inr k1))
                      rw [hz2] at hcc
                      have HCC := Lib.hid hcc
                      clear hcc S3
                      go_wp2_with fail
                      refine HCC.out.mono ?_
                      rintro e9 w4 ⟨rfl, d3, S4, m2, t2⟩
                      have hfin : SW enc w0 blk off d3 w4 ∧ Mv d d3 a b ∧ Srt (ltOf cf) ix d3 a b := ⟨S4, CU.out.done (by omega) (by omega) hb M1.out T1.out m2 t2⟩
                      have HF : Aside _ := hfin
                      clear hfin S4 m2 t2 HCC
                      go_wp2_with fail
                      go_end0
                      exact ⟨rfl, d3, HF.out⟩
                  · as_aux_lemma =>
                      have hfin : Mv d d2 a b ∧ Srt (ltOf cf) ix d2 a b := CU.out.done (by omega) (by omega) hb M1.out T1.out (Mv.refl _ _ _) (by
                        by_cases h : q < e
                        · obtain rfl : e = b := by omega
                          exact (CU.out.s3).same fun k k1 k2 => M1.out.out k (.inr k1)
                        · obtain rfl : e = q := by omega
                          exact (CU.out.s4).same fun k k1 k2 => M1.out.out k (.inr k1))
                      have HF : Aside _ := hfin
                      clear hfin
                      by_cases z3 : q < e
                      · have z3a : (q : Int) < (e : Int) := by omega
                        have z3b : ¬ (e : Int) < (b : Int) := by omega
                        have z3c : ¬ e < b := by omega
                        go_wp2_with fail
                        go_end0
                        exact ⟨rfl, d2, S3.out, HF.out⟩
                      · have z3a : ¬ (q : Int) < (e : Int) := by omega
                        go_wp2_with fail
                        go_end0
                        exact ⟨rfl, d2, S3.out, HF.out⟩
                · have z2a : ¬ (a : Int) < (s : Int) := by omega
                  by_cases y3 : q < e ∧ e < b
                  · as_aux_lemma =>
                      have z3a : (q : Int) < (e : Int) := by omega
                      have z3b : (e : Int) < (b : Int) := by omega
                      have hcc := IHH.out q e b d2 w2 (by omega) (by omega) S3.out y3.1 y3.2 (by omega) ((CU.out.s3).same fun k k1 k2 => M1.out.out k (.inr k1)) ((CU.out.s4).same fun k k1 k2 => M1.out.out k (.inr (by omega))) ((CU.out.l2).same fun k k1 k2 => M1.out.out k (.inr k1))
                      rw [hz2] at hcc
                      have HCC := Lib.hid hcc
                      clear hcc S3
                      go_wp2_with fail
                      refine HCC.out.mono ?_
                      rintro e9 w4 ⟨rfl, d3, S4, m2, t2⟩
                      have hfin : SW enc w0 blk off d3 w4 ∧ Mv d d3 a b ∧ Srt (ltOf cf) ix d3 a b := ⟨S4, CU.out.done (by omega) (by omega) hb M1.out T1.out m2 t2⟩
                      have HF : Aside _ := hfin
                      clear hfin S4 m2 t2 HCC
                      go_wp2_with fail
                      go_end0
                      exact ⟨rfl, d3, HF.out⟩
                  · as_aux_lemma =>
                      have hfin : Mv d d2 a b ∧ Srt (ltOf cf) ix d2 a b := CU.out.done (by omega) (by omega) hb M1.out T1.out (Mv.refl _ _ _) (by
                        by_cases h : q < e
                        · obtain rfl : e = b := by omega
                          exact (CU.out.s3).same fun k k1 k2 => M1.out.out k (.inr k1)
                        · obtain rfl : e = q := by omega
                          exact (CU.out.s4).same fun k k1 k2 => M1.out.out k (.inr k1))
                      have HF : Aside _ := hfin
                      clear hfin
                      by_cases z3 : q < e
                      · have z3a : (q : Int) < (e : Int) := by omega
                        have z3b : ¬ (e : Int) < (b : Int) := by omega
                        have z3c : ¬ e < b := by omega
                        go_wp2_with fail
                        go_end0
                        exact ⟨rfl, d2, S3.out, HF.out⟩
                      · have z3a : ¬ (q : Int) < (e : Int) := by omega
                        go_wp2_with fail
                        go_end0
                        exact ⟨rfl, d2, S3.out, HF.out⟩
        · as_aux_lemma =>
            obtain ⟨d1, hd1⟩ : ∃ v9, v9 = d := ⟨_, rfl⟩
            have S2 : Aside (SW enc w0 blk off d1 wr) := by rw [hd1]; exact S1.out
            have CU : Aside (Cut (ltOf cf) ix d d1 a s q e b) := CUT.out d1 (by rw [hd1]; exact Rot.none d s m e (by omega) (by omega) (by omega))
            have hz1 : d1.size = d.size := by rw [hd1]
            clear hd1 S1 CUT
            by_cases z1 : s < m
            · have z1a : (s : Int) < (m : Int) := by omega
              have z1b : ¬ (m : Int) < (e : Int) := by omega
              have z1c : ¬ m < e := by omega
              by_cases y2 : a < s ∧ s < q
              · as_aux_lemma =>
                  have z2a : (a : Int) < (s : Int) := by omega
                  have z2b : (s : Int) < (q : Int) := by omega
                  have hcb := IHH.out a s q d1 wr (by omega) (by omega) S2.out y2.1 y2.2 (by omega) CU.out.s1 CU.out.s2 CU.out.l1
                  rw [hz1] at hcb
                  have HCB := Lib.hid hcb
                  clear hcb S2
                  go_wp2_with fail
                  refine HCB.out.mono ?_
                  rintro e9 w3 ⟨rfl, d2, S3', m1, t1⟩
                  have S3 : Aside (SW enc w0 blk off d2 w3) := S3'
                  have M1 : Aside (Mv d1 d2 a q) := m1
                  have T1 : Aside (Srt (ltOf cf) ix d2 a q) := t1
                  have hz2 : d2.size = d.size := m1.1.trans hz1
                  clear S3' m1 t1 HCB
                  by_cases y3 : q < e ∧ e < b
                  · as_aux_lemma =>
                      have z3a : (q : Int) < (e : Int) := by omega
                      have z3b : (e : Int) < (b : Int) := by omega
                      have hcc := IHH.out q e b d2 w3 (by omega) (by omega) S3.out y3.1 y3.2 (by omega) ((CU.out.s3).same fun k k1 k2 => M1.out.out k (.inr k1)) ((CU.out.s4).same fun k k1 k2 => M1.out.out k (.inr (by omega))) ((CU.out.l2).same fun k k1 k2 => M1.out.out k (.inr k1))
                      rw [hz2] at hcc
                      have HCC := Lib.hid hcc
                      clear hcc S3
                      go_wp2_with fail
                      refine HCC.out.mono ?_
                      rintro e9 w4 ⟨rfl, d3, S4, m2, t2⟩
                      have hfin : SW enc w0 blk off d3 w4 ∧ Mv d d3 a b ∧ Srt (ltOf cf) ix d3 a b := ⟨S4, CU.out.done (by omega) (by omega) hb M1.out T1.out m2 t2⟩
                      have HF : Aside _ := hfin
                      clear hfin S4 m2 t2 HCC
                      go_wp2_with fail
                      go_end0
                      exact ⟨rfl, d3, HF.out⟩
                  · as_aux_lemma =>
                      have hfin : Mv d d2 a b ∧ Srt (ltOf cf) ix d2 a b := CU.out.done (by omega) (by omega) hb M1.out T1.out (Mv.refl _ _ _) (by
                        by_cases h : q < e
                        · obtain rfl : e = b := by omega
                          exact (CU.out.s3).same fun k k1 k2 => M1.out.out k (.inr k1)
                        · obtain rfl : e = q := by omega
                          exact (CU.out.s4).same fun k k1 k2 => M1.out.out k (.inr k1))
                      have HF : Aside _ := hfin
                      clear hfin
                      by_cases z3 : q < e
                      · have z3a : (q : Int) < (e : Int) := by omega
                        have z3b : ¬ (e : Int) < (b : Int) := by omega
                        have z3c : ¬ e < b := by omega
                        go_wp2_with fail
                        go_end0
                        exact ⟨rfl, d2, S3.out, HF.out⟩
                      · have z3a : ¬ (q : Int) < (e : Int) := by omega
                        go_wp2_with fail
                        go_end0
                        exact ⟨rfl, d2, S3.out, HF.out⟩
              · as_aux_lemma =>
                  obtain ⟨d2, hd2⟩ : ∃ v9, v9 = d1 := ⟨_, rfl⟩
                  have S3 : Aside (SW enc w0 blk off d2 wr) := by rw [hd2]; exact S2.out
                  have M1 : Aside (Mv d1 d2 a q) := by rw [hd2]; exact Mv.refl _ _ _
                  have T1 : Aside (Srt (ltOf cf) ix d2 a q) := by
                    rw [hd2]
                    by_cases h : a < s
                    · have e9 : s = q := by omega
                      have := CU.out.s1
                      rw [e9] at this
                      exact this
                    · have e9 : s = a := by omega
                      have := CU.out.s2
                      rw [e9] at this
                      exact this
                  have hz2 : d2.size = d.size := by rw [hd2]; exact hz1
                  clear hd2 S2
                  by_cases z2 : a < s
                  · have z2a : (a : Int) < (s : Int) := by omega
                    have z2b : ¬ (s : Int) < (q : Int) := by omega
                    have z2c : ¬ s < q := by omega
                    by_cases y3 : q < e ∧ e < b
                    · as_aux_lemma =>
                        have z3a : (q : Int) < (e : Int) := by omega
                        have z3b : (e : Int) < (b : Int) := by omega
                        have hcc := IHH.out q e b d2 wr (by omega) (by omega) S3.out y3.1 y3.2 (by omega) ((CU.out.s3).same fun k k1 k2 => M1.out.out k (.inr k1)) ((CU.out.s4).same fun k k1 k2 => M1.out.out k (.inr (by omega))) ((CU.out.l2).same fun k k1 k2 => M1.out.out k (.inr k1))
                        rw [hz2] at hcc
                        have HCC := Lib.hid hcc
                        clear hcc S3
                        go_wp2_with fail
                        refine HCC.out.mono ?_
                        rintro e9 w4 ⟨rfl, d3, S4, m2, t2⟩
                        have hfin : SW enc w0 blk off d3 w4 ∧ Mv d d3 a b ∧ Srt (ltOf cf) ix d3 a b := ⟨S4, CU.out.done (by omega) (by omega) hb M1.out T1.out m2 t2⟩
                        have HF : Aside _ := hfin
                        clear hfin S4 m2 t2 HCC
                        go_wp2_with fail
                        go_end0
                        exact ⟨rfl, d3, HF.out⟩
                    · as_aux_lemma =>
                        have hfin : Mv d d2 a b ∧ Srt (ltOf cf) ix d2 a b := CU.out.done (by omega) (by omega) hb M1.out T1.out (Mv.refl _ _ _) (by
                          by_cases h : q < e
                          · obtain rfl : e = b := by omega
                            exact (CU.out.s3).same fun k k1 k2 => M1.out.out k (.inr k1)
                          · obtain rfl : e = q := by omega
                            exact (CU.out.s4).same fun k k1 k2 => M1.out.out k (.inr k1))
                        have HF : Aside _ := hfin
                        clear hfin
                        by_cases z3 : q < e
                        · have z3a : (q : Int) < (e : Int) := by omega
                          have z3b : ¬ (e : Int) < (b : Int) := by omega
                          have z3c : ¬ e < b := by omega
                          go_wp2_with fail
                          go_end0
                          exact ⟨rfl, d2, S3.out, HF.out⟩
                        · have z3a : ¬ (q : Int) < (e : Int) := by omega
                          go_wp2_with fail
                          go_end0
                          exact ⟨rfl, d2, S3.out, HF.out⟩
                  · have z2a : ¬ (a : Int) < (s : Int) := by omega
                    by_cases y3 : q < e ∧ e < b
                    · as_aux_lemma =>
                        have z3a : (q : Int) < (e : Int) := by omega
                        have z3b : (e : Int) < (b : Int) := by omega
                        have hcc := IHH.out q e b d2 wr (by omega) (by omega) S3.out y3.1 y3.2 (by omega) ((CU.out.s3).same fun k k1 k2 => M1.out.out k (.inr k1)) ((CU.out.s4).same fun k k1 k2 => M1.out.out k (.inr (by omega))) ((CU.out.l2).same fun k k1 k2 => M1.out.out k (.inr k1))
                        rw [hz2] at hcc
                        have HCC := Lib.hid hcc
                        clear hcc S3
                        go_wp2_with fail
                        refine HCC.out.mono ?_
                        rintro e9 w4 ⟨rfl, d3, S4, m2, t2⟩
                        have hfin : SW enc w0 blk off d3 w4 ∧ Mv d d3 a b ∧ Srt (ltOf cf) ix d3 a b := ⟨S4, CU.out.done (by omega) (by omega) hb M1.out T1.out m2 t2⟩
                        have HF : Aside _ := hfin
                        clear hfin S4 m2 t2 HCC
                        go_wp2_with fail
                        go_end0
                        exact ⟨rfl, d3, HF.out⟩
                    · as_aux_lemma =>
                        have hfin : Mv d d2 a b ∧ Srt (ltOf cf) ix d2 a b := CU.out.done (by omega) (by omega) hb M1.out T1.out (Mv.refl _ _ _) (by
                          by_cases h : q < e
                          · obtain rfl : e = b := by omega
                            exact (CU.out.s3).same fun k k1 k2 => M1.out.out k (.inr k1)
                          · obtain rfl : e = q := by omega
                            exact (CU.out.s4).same fun k k1 k2 => M1.out.out k (.inr k1))
                        have HF : Aside _ := hfin
                        clear hfin
                        by_cases z3 : q < e
                        · have z3a : (q : Int) < (e : Int) := by omega
                          have z3b : ¬ (e : Int) < (b : Int) := by omega
                          have z3c : ¬ e < b := by omega
                          go_wp2_with fail
                          go_end0
                          exact ⟨rfl, d2, S3.out, HF.out⟩
                        · have z3a : ¬ (q : Int) < (e : Int) := by omega
                          go_wp2_with fail
                          go_end0
                          exact ⟨rfl, d2, S3.out, HF.out⟩
            · have z1a : ¬ (s : Int) < (m : Int) := by omega
              by_cases y2 : a < s ∧ s < q
              · as_aux_lemma =>
                  have z2a : (a : Int) < (s : Int) := by omega
                  have z2b : (s : Int) < (q : Int) := by omega
                  have hcb := IHH.out a s q d1 wr (by omega) (by omega) S2.out y2.1 y2.2 (by omega) CU.out.s1 CU.out.s2 CU.out.l1
                  rw [hz1] at hcb
                  have HCB := Lib.hid hcb
                  clear hcb S2
                  go_wp2_with fail
                  refine HCB.out.mono ?_
                  rintro e9 w3 ⟨rfl, d2, S3', m1, t1⟩
                  have S3 : Aside (SW enc w0 blk off d2 w3) := S3'
                  have M1 : Aside (Mv d1 d2 a q) := m1
                  have T1 : Aside (Srt (ltOf cf) ix d2 a q) := t1
                  have hz2 : d2.size = d.size := m1.1.trans hz1
                  clear S3' m1 t1 HCB
                  by_cases y3 : q < e ∧ e < b
                  · as_aux_lemma =>
                      have z3a : (q : Int) < (e : Int) := by omega
                      have z3b : (e : Int) < (b : Int) := by omega
                      have hcc := IHH.out q e b d2 w3 (by omega) (by omega) S3.out y3.1 y3.2 (by omega) ((CU.out.s3).same fun k k1 k2 => M1.out.out k (.inr k1)) ((CU.out.s4).same fun k k1 k2 => M1.out.out k (.inr (by omega))) ((CU.out.l2).same fun k k1 k2 => M1.out.out k (.inr k1))
                      rw [hz2] at hcc
                      have HCC := Lib.hid hcc
                      clear hcc S3
                      go_wp2_with fail
                      refine HCC.out.mono ?_
                      rintro e9 w4 ⟨rfl, d3, S4, m2, t2⟩
                      have hfin : SW enc w0 blk off d3 w4 ∧ Mv d d3 a b ∧ Srt (ltOf cf) ix d3 a b := ⟨S4, CU.out.done (by omega) (by omega) hb M1.out T1.out m2 t2⟩
                      have HF : Aside _ := hfin
                      clear hfin S4 m2 t2 HCC
                      go_wp2_with fail
                      go_end0
                      exact ⟨rfl, d3, HF.out⟩
                  · as_aux_lemma =>
                      have hfin : Mv d d2 a b ∧ Srt (ltOf cf) ix d2 a b := CU.out.done (by omega) (by omega) hb M1.out T1.out (Mv.refl _ _ _) (by
                        by_cases h : q < e
                        · obtain rfl : e = b := by omega
                          exact (CU.out.s3).same fun k k1 k2 => M1.out.out k (.inr k1)
                        · obtain rfl : e = q := by omega
                          exact (CU.out.s4).same fun k k1 k2 => M1.out.out k (.inr k1))
                      have HF : Aside _ := hfin
                      clear hfin
                      by_cases z3 : q < e
                      · have z3a : (q : Int) < (e : Int) := by omega
                        have z3b : ¬ (e : Int) < (b : Int) := by omega
                        have z3c : ¬ e < b := by omega
                        go_wp2_with fail
                        go_end0
                        exact ⟨rfl, d2, S3.out, HF.out⟩
                      · have z3a : ¬ (q : Int) < (e : Int) := by omega
                        go_wp2_with fail
                        go_end0
                        exact ⟨rfl, d2, S3.out, HF.out⟩
              · as_aux_lemma =>
                  obtain ⟨d2, hd2⟩ : ∃ v9, v9 = d1 := ⟨_, rfl⟩
                  have S3 : Aside (SW enc w0 blk off d2 wr) := by rw [hd2]; exact S2.out
                  have M1 : Aside (Mv d1 d2 a q) := by rw [hd2]; exact Mv.refl _ _ _
                  have T1 : Aside (Srt (ltOf cf) ix d2 a q) := by
                    rw [hd2]
                    by_cases h : a < s
                    · have e9 : s = q := by omega
                      have := CU.out.s1
                      rw [e9] at this
                      exact this
                    · have e9 : s = a := by omega
                      have := CU.out.s2
                      rw [e9] at this
                      exact this
                  have hz2 : d2.size = d.size := by rw [hd2]; exact hz1
                  clear hd2 S2
                  by_cases z2 : a < s
                  · have z2a : (a : Int) < (s : Int) := by omega
                    have z2b : ¬ (s : Int) < (q : Int) := by omega
                    have z2c : ¬ s < q := by omega
                    by_cases y3 : q < e ∧ e < b
                    · as_aux_lemma =>
                        have z3a : (q : Int) < (e : Int) := by omega
                        have z3b : (e : Int) < (b : Int) := by omega
                        have hcc := IHH.out q e b d2 wr (by omega) (by omega) S3.out y3.1 y3.2 (by omega) ((CU.out.s3).same fun k k1 k2 => M1.out.out k (.inr k1)) ((CU.out.s4).same fun k k1 k2 => M1.out.out k (.inr (by omega))) ((CU.out.l2).same fun k k1 k2 => M1.out.out k (.inr k1))
                        rw [hz2] at hcc
                        have HCC := Lib.hid hcc
                        clear hcc S3
                        go_wp2_with fail
                        refine HCC.out.mono ?_
                        rintro e9 w4 ⟨rfl, d3, S4, m2, t2⟩
                        have hfin : SW enc w0 blk off d3 w4 ∧ Mv d d3 a b ∧ Srt (ltOf cf) ix d3 a b := ⟨S4, CU.out.done (by omega) (by omega) hb M1.out T1.out m2 t2⟩
                        have HF : Aside _ := hfin
                        clear hfin S4 m2 t2 HCC
                        go_wp2_with fail
                        go_end0
                        exact ⟨rfl, d3, HF.out⟩
                    · as_aux_lemma =>
                        have hfin : Mv d d2 a b ∧ Srt (ltOf cf) ix d2 a b := CU.out.done (by omega) (by omega) hb M1.out T1.out (Mv.refl _ _ _) (by
                          by_cases h : q < e
                          · obtain rfl : e = b := by omega
                            exact (CU.out.s3).same fun k k1 k2 => M1.out.out k (.inr k1)
                          · obtain rfl : e = q := by omega
                            exact (CU.out.s4).same fun k k1 k2 => M1.out.out k (.inr k1))
                        have HF : Aside _ := hfin
                        clear hfin
                        by_cases z3 : q < e
                        · have z3a : (q : Int) < (e : Int) := by omega
                          have z3b : ¬ (e : Int) < (b : Int) := by omega
                          have z3c : ¬ e < b := by omega
                          go_wp2_with fail
                          go_end0
                          exact ⟨rfl, d2, S3.out, HF.out⟩
                        · have z3a : ¬ (q : Int) < (e : Int) := by omega
                          go_wp2_with fail
                          go_end0
                          exact ⟨rfl, d2, S3.out, HF.out⟩
                  · have z2a : ¬ (a : Int) < (s : Int) := by omega
                    by_cases y3 : q < e ∧ e < b
                    · as_aux_lemma =>
                        have z3a : (q : Int) < (e : Int) := by omega
                        have z3b : (e : Int) < (b : Int) := by omega
                        have hcc := IHH.out q e b d2 wr (by omega) (by omega) S3.out y3.1 y3.2 (by omega) ((CU.out.s3).same fun k k1 k2 => M1.out.out k (.inr k1)) ((CU.out.s4).same fun k k1 k2 => M1.out.out k (.inr (by omega))) ((CU.out.l2).same fun k k1 k2 => M1.out.out k (.inr k1))
                        rw [hz2] at hcc
                        have HCC := Lib.hid hcc
                        clear hcc S3
                        go_wp2_with fail
                        refine HCC.out.mono ?_
                        rintro e9 w4 ⟨rfl, d3, S4, m2, t2⟩
                        have hfin : SW enc w0 blk off d3 w4 ∧ Mv d d3 a b ∧ Srt (ltOf cf) ix d3 a b := ⟨S4, CU.out.done (by omega) (by omega) hb M1.out T1.out m2 t2⟩
                        have HF : Aside _ := hfin
                        clear hfin S4 m2 t2 HCC
                        go_wp2_with fail
                        go_end0
                        exact ⟨rfl, d3, HF.out⟩
                    · as_aux_lemma =>
                        have hfin : Mv d d2 a b ∧ Srt (ltOf cf) ix d2 a b := CU.out.done (by omega) (by omega) hb M1.out T1.out (Mv.refl _ _ _) (by
                          by_cases h : q < e
                          · obtain rfl : e = b := by omega
                            exact (CU.out.s3).same fun k k1 k2 => M1.out.out k (.inr k1)
                          · obtain rfl : e = q := by omega
                            exact (CU.out.s4).same fun k k1 k2 => M1.out.out k (.inr k1))
                        have HF : Aside _ := hfin
                        clear hfin
                        by_cases z3 : q < e
                        · have z3a : (q : Int) < (e : Int) := by omega
                          have z3b : ¬ (e : Int) < (b : Int) := by omega
                          have z3c : ¬ e < b := by omega
                          go_wp2_with fail
                          go_end0
                          exact ⟨rfl, d2, S3.out, HF.out⟩
                        · have z3a : ¬ (q : Int) < (e : Int) := by omega
                          go_wp2_with fail
                          go_end0
                          exact ⟨rfl, d2, S3.out, HF.out⟩

theorem symMerge_s {α : Type} [Inhabited α] (enc : α → Value) (cf : α → α → Int) (g : Nat) (cb : Array Value) (blk off cap : Nat) (d0 : Array α) (w0 : World) (eg : ∀ args w, (callFunc g args).run Try.prog w = .ok (.enter g args) w)
    (hcmp : CmpLays1 Try.prog g cb enc cf blk off d0.size w0) (hS : SWO (ltOf cf)) (ix : α → Nat) (R : Row1 enc w0 blk off d0) (hsz : d0.size < 1000000000) : ∀ (N a m b : Nat) (d : Array α) (w : World), b - a ≤ N → d0.size = d.size → SW enc w0 blk off d w →
    a < m → m < b → b ≤ d.size → Srt (ltOf cf) ix d a m → Srt (ltOf cf) ix d m b → Lft ix d a m b →
    Calls Try.prog 153 #[.slice (some ⟨blk, off, none⟩) d.size cap, .int .i64 a, .int .i64 m, .int .i64 b, .func (.func g) #[] cb] w fun e w' => e = .returned (.tuple #[]) ∧ ∃ d', SW enc w0 blk off d' w' ∧ Mv d d' a b ∧ Srt (ltOf cf) ix d' a b
  | 0, a, m, b, d, w, hN, hs, S, h1, h2, hb, s1, s2, hl => by omega
  | N + 1, a, m, b, d, w, hN, hs, S, h1, h2, hb, s1, s2, hl => by
    by_cases hma : m = a + 1
    · exact symMerge_left enc cf g cb blk off cap d0 w0 eg hcmp hS ix R hsz a m b d w hs S h1 h2 hb s1 s2 hl hma
    · by_cases hmb : b = m + 1
      · exact symMerge_right enc cf g cb blk off cap d0 w0 eg hcmp hS ix R hsz a m b d w hs S h1 h2 hb s1 s2 hl hma hmb
      · exact symMerge_mid enc cf g cb blk off cap d0 w0 eg hcmp hS ix R hsz a m b d w hs S h1 h2 hb s1 s2 hl hma hmb
          (fun a' m' b' d' w' hlt hs' S' h1' h2' hb' s1' s2' hl' => symMerge_s enc cf g cb blk off cap d0 w0 eg hcmp hS ix R hsz N a' m' b' d' w' (by omega) hs' S' h1' h2' hb' s1' s2' hl')
end Go.Proofs.Ytclnfncdphfgjaa
