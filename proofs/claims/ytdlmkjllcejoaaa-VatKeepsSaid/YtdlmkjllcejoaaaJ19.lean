/- Contracts: R1, C27, C28, C29, C33, joined. -/
import Derived.Test.YtdlmkjllcejoaaaC13
import Derived.Test.YtdlmkjllcejoaaaRI
import Derived.Test.YtdlmkjllcejoaaaC26
import Derived.Deep.QuietTactic
import Derived.BigQuiet
import Derived.Test.YtdlmkjllcejoaaaC32
namespace Go.Proofs.Ytdlmkjllcejoaaa
open Go.RowKit Go.Lib Go.Shelf
set_option linter.unusedVariables false
set_option linter.unusedSimpArgs false
attribute [local go_sem ↓] Go.wp_at_zero Go.wp_at_succ

set_option maxHeartbeats 400000 in
theorem rSap_any (a s : Int) (w : World) :
    Calls Try.prog 53 #[.agg #[.int .i64 a, .int .i64 s]] w fun e w' => e = .returned (.bool (spB a s)) ∧ Below w.heap.size w w' := by
  have c1 := Lib.hid (rIn_any a 0 1000000000000)
  have c2 := Lib.hid (rIn_any s 0 1000000000000)
  have hv : Hid (spB a s = ((decide (0 ≤ a) && decide (a ≤ 1000000000000)) && (decide (0 ≤ s) && decide (s ≤ 1000000000000)))) := Lib.hid (by simp [spB, Bool.and_assoc])
  generalize (decide (0 ≤ a) && decide (a ≤ 1000000000000)) = p at *
  generalize (decide (0 ≤ s) && decide (s ≤ 1000000000000)) = q at *
  cases p
  · go_enter Try.func53, Try.ntmps53
    go_wp2_with fail
    refine (c1.out _).mono ?_
    rintro e w1 ⟨rfl, rfl⟩
    go_wp2_with fail
    go_ret
    exact ⟨by rw [hv.out]; rfl, (Below.refl _ _).alloc (Nat.le_refl _) _⟩
  · go_enter Try.func53, Try.ntmps53
    go_wp2_with fail
    refine (c1.out _).mono ?_
    rintro e w1 ⟨rfl, rfl⟩
    go_wp2_with fail
    refine (c2.out _).mono ?_
    rintro e w1 ⟨rfl, rfl⟩
    go_wp2_with fail
    go_ret
    exact ⟨by rw [hv.out]; rfl, (Below.refl _ _).alloc (Nat.le_refl _) _⟩

theorem floor_pos (a b : Int) (ha : 0 ≤ a) : a.tdiv b = a / b ∧ a.tmod b = a % b := ⟨Int.tdiv_eq_ediv_of_nonneg ha, Int.tmod_eq_emod_of_nonneg ha⟩
theorem floor_neg (a b : Int) (ha : a < 0) (hb : 0 < b) : (a.tmod b < 0 → a / b = a.tdiv b - 1) ∧ (¬ a.tmod b < 0 → a / b = a.tdiv b) := by
  have h := Int.mul_tdiv_add_tmod a b
  have h1 : a.tmod b ≤ 0 := by
    have := Int.tmod_nonneg b (show 0 ≤ -a by omega)
    rw [Int.neg_tmod] at this
    omega
  have h2 : -b < a.tmod b := by
    have := Int.tmod_lt_of_pos (-a) hb
    rw [Int.neg_tmod] at this
    omega
  generalize a.tdiv b = q at *
  generalize a.tmod b = r at *
  constructor
  · intro hr
    exact ((Int.ediv_emod_unique (a := a) (b := b) (r := b + r) (q := q - 1) hb).2 ⟨by rw [Int.mul_sub, Int.mul_one]; omega, by omega, by omega⟩).1
  · intro hr
    exact ((Int.ediv_emod_unique (a := a) (b := b) (r := r) (q := q) hb).2 ⟨by omega, by omega, by omega⟩).1
theorem tdiv_abs (a b : Int) (hb : 0 < b) (B : Int) (h1 : -B ≤ a) (h2 : a ≤ B) : -B ≤ a.tdiv b ∧ a.tdiv b ≤ B := by
  have h : (a.tdiv b).natAbs ≤ a.natAbs := by rw [Int.natAbs_tdiv]; exact Nat.div_le_self _ _
  omega
theorem tmod_abs (a b : Int) (hb : 0 < b) : -b < a.tmod b ∧ a.tmod b < b := by
  have h1 := Int.tmod_lt_of_pos a hb
  have h2 : -b < a.tmod b := by
    have := Int.tmod_lt_of_pos (-a) hb
    rw [Int.neg_tmod] at this
    omega
  exact ⟨h2, h1⟩

set_option maxHeartbeats 400000 in
theorem rFloor_any (a b : Int) (ha : -4000000000000000000 ≤ a ∧ a ≤ 4000000000000000000) (hb : 0 < b) (hb2 : b ≤ 4000000000000000000) (w : World) :
    Calls Try.prog 182 #[.int .i64 a, .int .i64 b] w fun e w' => e = .returned (.int .i64 (a / b)) ∧ w = w' := by
  obtain ⟨a1, a2⟩ := ha
  obtain ⟨q1, q2⟩ := tdiv_abs a b hb _ a1 a2
  obtain ⟨r1, r2⟩ := tmod_abs a b hb
  have hb0 : (b == 0) = false := by simp; omega
  have e : Hid (a / b = if a.tmod b < 0 then a.tdiv b - 1 else a.tdiv b) := Lib.hid (by
    by_cases h : a < 0
    · obtain ⟨e1, e2⟩ := floor_neg a b h hb
      split
      · exact e1 (by assumption)
      · exact e2 (by assumption)
    · obtain ⟨e1, e2⟩ := floor_pos a b (by omega)
      have := Int.emod_nonneg a (show b ≠ 0 by omega)
      rw [if_neg (by omega)]
      exact e1.symm)
  by_cases h0 : a < 0
  · by_cases h : a.tmod b < 0
    · have E : Hid (a / b = a.tdiv b - 1) := Lib.hid (by rw [e.out, if_pos h])
      clear e
      go_enter Try.func182, Try.ntmps182
      go_wp2
      go_ret
      exact ⟨ret_int E.out.symm, rfl⟩
    · have E : Hid (a / b = a.tdiv b) := Lib.hid (by rw [e.out, if_neg h])
      clear e
      go_enter Try.func182, Try.ntmps182
      go_wp2
      go_ret
      exact ⟨ret_int E.out.symm, rfl⟩
  · obtain ⟨e1, e2⟩ := floor_pos a b (by omega)
    have r3 := Int.emod_nonneg a (show b ≠ 0 by omega)
    have a3 : 0 ≤ a := by omega
    rw [e1] at q1 q2
    have q3 : 0 ≤ a / b := Int.ediv_nonneg a3 (by omega)
    have h : ¬ a % b < 0 := by omega
    clear e e1 e2 r1 r2 h0
    go_enter Try.func182, Try.ntmps182
    go_wp2
    go_ret
    exact ⟨rfl, rfl⟩

set_option maxHeartbeats 400000 in
theorem rCeil_any (a b : Int) (ha : -4000000000000000000 ≤ a ∧ a ≤ 4000000000000000000) (hb : 0 < b) (hb2 : b ≤ 4000000000000000000) (w : World) :
    Calls Try.prog 183 #[.int .i64 a, .int .i64 b] w fun e w' => e = .returned (.int .i64 (-(-a / b))) ∧ w = w' := by
  obtain ⟨a1, a2⟩ := ha
  have c1 := Lib.hid (rFloor_any (-a) b ⟨by omega, by omega⟩ hb hb2)
  have hq : -4000000000000000000 ≤ -a / b ∧ -a / b ≤ 4000000000000000000 := by
    have h1 := Int.ediv_le_ediv hb (show -a ≤ 4000000000000000000 by omega)
    have h2 := Int.ediv_le_ediv hb (show -4000000000000000000 ≤ -a by omega)
    have h3 : (4000000000000000000 : Int) / b ≤ 4000000000000000000 := Int.ediv_le_self _ (by omega)
    have h4 : -4000000000000000000 ≤ (-4000000000000000000 : Int) / b := (Int.le_ediv_iff_mul_le hb).2 (by omega)
    omega
  obtain ⟨q1, q2⟩ := hq
  generalize -a / b = q at *
  go_enter Try.func183, Try.ntmps183
  go_wp2_with fail
  refine (c1.out _).mono ?_
  rintro e w1 ⟨rfl, rfl⟩
  go_wp2_with fail
  go_ret
  exact ⟨rfl, rfl⟩

theorem q_of (a s : Int) (hv : spB a s = true) (h0 : a + s ≠ 0) : qLo s 10000 (a + s) = s * 10000 / (a + s) ∧ qHi s 10000 (a + s) = -(-(s * 10000) / (a + s)) := by
  obtain ⟨h1, h2, h3, h4⟩ := spB_of hv
  exact q_pos (a := s) (b := 10000) (c := a + s) (by omega) (by
    rw [show Int.natAbs 10000 = 10000 from rfl]
    refine Nat.le_trans (Nat.div_le_self _ _) ?_
    omega)

open Go.RowKit Go.Lib Go.Shelf
set_option linter.unusedVariables false
set_option linter.unusedSimpArgs false
attribute [local go_sem ↓] Go.wp_at_zero Go.wp_at_succ

theorem tabE_bool (xs : List (Int × Int)) : tabOk xs = decide (tabE xs = 0) := by unfold tabE; cases tabOk xs <;> simp
set_option maxRecDepth 20000 in
set_option maxHeartbeats 1000000 in
theorem rTable_bad (A : Option Addr) (n c : Nat) (hn : n ≤ 1000000) (h : n < 2 ∨ 60 < n) (w : World) :
    Calls Try.prog 110 #[.slice A n c] w fun e w' => e = .returned (.bool false) ∧ Below w.heap.size w w' := by
  have c1 := Lib.hid (rIn_any (n : Int) 2 60)
  rw [show (decide ((2 : Int) ≤ n) && decide ((n : Int) ≤ 60)) = false from by simp; omega] at c1
  go_enter Try.func110, Try.ntmps110
  go_wp2_with fail
  refine (c1.out _).mono ?_
  rintro e w1 ⟨rfl, rfl⟩
  go_wp2_with fail
  go_ret
  exact ⟨rfl, Below.refl _ _⟩
set_option maxRecDepth 20000 in
set_option maxHeartbeats 2000000 in
theorem rTable_at (g off : Nat) (xs : List (Int × Int)) (c : Nat) (w : World) (hg : g < w.heap.size) (hr : RRd w g off xs) (h1 : 2 ≤ xs.length) (h2 : xs.length ≤ 60) :
    Calls Try.prog 110 #[.slice (some ⟨g, off, none⟩) xs.length c] w fun e w' => e = .returned (.bool (decide (tabE xs = 0))) ∧ Below w.heap.size w w' := by
  have HY := Lib.hid (fun h => tabE_yes (xs := xs) h1 h2 h)
  have HN := Lib.hid (fun h => tabE_no (xs := xs) h)
  have HS := Lib.hid (fun n => rowsOk_succ xs n)
  have HK := Lib.hid (fun k hk h => rowsOk_no xs xs.length k hk h)
  generalize tabE xs = r at *
  obtain ⟨n, hn⟩ : ∃ n, xs.length = n := ⟨_, rfl⟩
  rw [hn] at h1 h2 ⊢
  have Hn := Lib.hid hn
  clear hn
  have HR := Lib.hid hr
  clear hr
  have c0 := Lib.hid (rIn_any (n : Int) 2 60)
  rw [show (decide ((2 : Int) ≤ n) && decide ((n : Int) ≤ 60)) = true from by simp; omega] at c0
  go_enter Try.func110, Try.ntmps110
  go_wp2_with fail
  refine (c0.out _).mono ?_
  rintro e w1 ⟨rfl, rfl⟩
  go_wp2_with fail
  go_loopw [3] (fun i wr => ∃ k : Nat, k ≤ n ∧ i = .int .i64 k ∧ Hid (rowsOk xs k = true) ∧ Below w.heap.size w wr) (fun i _ => n - (RowKit.intOf i).toNat)
  case atStart => exact ⟨0, Nat.zero_le _, rfl, Lib.hid rfl, Below.refl _ _⟩
  case round =>
    obtain ⟨k, hk, rfl, hok, hbr⟩ := hrel
    by_cases hlt : k < n
    · have hkl : k < xs.length := by rw [Hn.out]; exact hlt
      obtain ⟨p, hp⟩ : ∃ p, xs[k]? = some p := ⟨_, List.getElem?_eq_getElem hkl⟩
      obtain ⟨q0, q1⟩ := (HR.out.below hbr hg) k p hp
      have c1 := Lib.hid (rIn_any p.1 (-1000000000) 1000000000)
      have c2 := Lib.hid (rIn_any p.2 (-1000000000) 1000000000)
      have hrow := rowOk_of hp
      have hB : rowB p.1 p.2 = ((decide (-1000000000 ≤ p.1) && decide (p.1 ≤ 1000000000)) && (decide (-1000000000 ≤ p.2) && decide (p.2 ≤ 1000000000))) := by
        unfold rowB; simp only [Bool.and_assoc]
      rw [hB] at hrow
      generalize (decide (-1000000000 ≤ p.1) && decide (p.1 ≤ 1000000000)) = b1 at *
      generalize (decide (-1000000000 ≤ p.2) && decide (p.2 ≤ 1000000000)) = b2 at *
      have hp' := Lib.hid hp
      have hk0 : (0 : Int) ≤ (k : Int) := by omega
      have hkn : (k : Int) < (n : Int) := by omega
      clear hB
      by_cases hb : b1 = true ∧ b2 = true
      · obtain ⟨rfl, rfl⟩ := hb
        obtain rfl | ⟨j, rfl⟩ : k = 0 ∨ ∃ j, k = j + 1 := by cases k with | zero => exact .inl rfl | succ j => exact .inr ⟨j, rfl⟩
        · have hyes : rowOk xs 0 = true := by rw [hrow]; rfl
          have hok1 := Lib.hid (show rowsOk xs (0 + 1) = true by rw [HS.out, hok.out, hyes]; rfl)
          clear hrow hyes hok hp
          have q0' := q0
          have q1' := q1
          simp only [Nat.zero_mul, Nat.add_zero] at q0' q1'
          go_wp2_with fail
          go_quiet ((go_at_call 14; first | (with_reducible exact quiet_left (c1.out _)) | (with_reducible exact quiet_left (c2.out _))))
          go_wp2_with fail
          go_roundw
          case rel => exact ⟨0 + 1, by omega, by go_num, hok1, below_drewN hbr _⟩
          case measure => simp [RowKit.intOf]; omega
        · obtain ⟨q, hq⟩ : ∃ q, xs[j]? = some q := ⟨_, List.getElem?_eq_getElem (by omega)⟩
          obtain ⟨z0, z1⟩ := (HR.out.below hbr hg) j q hq
          simp only [hq] at hrow
          have wj : IntKind.i64.wrap ((j : Int) + 1 - 1) = j := by rw [show ((j : Int) + 1 - 1) = j from by omega]; exact IntWalk.i64_in _ (by omega)
          by_cases ho : q.1 < p.1
          · have ho' : decide (p.1 ≤ q.1) = false := by simp; omega
            have hyes : rowOk xs (j + 1) = true := by rw [hrow]; simpa using ho
            have hok1 := Lib.hid (show rowsOk xs (j + 1 + 1) = true by rw [HS.out, hok.out, hyes]; rfl)
            clear hrow hyes hok hq hp
            go_wp2_with fail
            go_quiet ((go_at_call 14; first | (with_reducible exact quiet_left (c1.out _)) | (with_reducible exact quiet_left (c2.out _))))
            go_wp2_with fail
            go_roundw
            case rel => exact ⟨j + 1 + 1, by omega, by go_num, hok1, below_drewN hbr _⟩
            case measure => simp [RowKit.intOf]; omega
          · have ho' : decide (p.1 ≤ q.1) = true := by simp; omega
            have hno : rowOk xs (j + 1) = false := by rw [hrow]; simp; omega
            have er : Hid (decide (r = 0) = false) := Lib.hid (by rw [HN.out (HK.out _ hkl hno)]; rfl)
            clear hrow hno hok hq hp
            go_wp2_with fail
            go_quiet ((go_at_call 14; first | (with_reducible exact quiet_left (c1.out _)) | (with_reducible exact quiet_left (c2.out _))))
            go_wp2_with fail
            go_ret
            exact ⟨by rw [er.out] <;> rfl, below_drewN hbr _⟩
      · have hno : rowOk xs k = false := by rw [hrow]; cases b1 <;> cases b2 <;> simp at hb ⊢
        have er : Hid (decide (r = 0) = false) := Lib.hid (by rw [HN.out (HK.out _ hkl hno)]; rfl)
        clear hrow hno hok hp
        cases b1 <;> cases b2 <;> simp only [and_self, not_true_eq_false, Bool.false_eq_true, and_false, false_and, not_false_eq_true] at hb
        all_goals
          go_wp2_with fail
          go_quiet ((go_at_call 14; first | (with_reducible exact quiet_left (c1.out _)) | (with_reducible exact quiet_left (c2.out _))))
          go_wp2_with fail
          go_ret
          exact ⟨by rw [er.out] <;> rfl, below_drewN hbr _⟩
    · obtain rfl : k = n := by omega
      have er : Hid (decide (r = 0) = true) := Lib.hid (by rw [HY.out (by rw [Hn.out]; exact hok.out)]; rfl)
      go_wp2_with fail
      go_ret
      exact ⟨by rw [er.out] <;> rfl, hbr⟩
theorem rTable_any (v : Value) (xs : List (Int × Int)) (hl : xs.length ≤ 1000000) (w : World) (hv : SetAt w.heap.size w v xs) :
    Calls Try.prog 110 #[v] w fun e w' => e = .returned (.bool (decide (tabE xs = 0))) ∧ Below w.heap.size w w' := by
  obtain ⟨A, c, rfl, h⟩ := hv
  by_cases h' : xs.length < 2 ∨ 60 < xs.length
  · rw [tabE_short h']
    exact rTable_bad A _ c hl h' w
  · obtain ⟨g, off, rfl, hg, hr⟩ := h (by omega)
    exact rTable_at g off xs c w hg hr (by omega) (by omega)

open Go.RowKit Go.Lib Go.Shelf
set_option linter.unusedVariables false
set_option linter.unusedSimpArgs false
attribute [local go_sem ↓] Go.wp_at_zero Go.wp_at_succ

/-- the stretch that At comes to -/
theorem seg_last {xs : List (Int × Int)} {x : Int} (ht : TabOk xs) (hc : covB xs x = true) : ∃ k p q, xs[k]? = some p ∧ xs[k + 1]? = some q ∧ p.1 ≤ x ∧ x ≤ q.1 ∧ (k + 2 = xs.length ∨ x < q.1) ∧ ∀ j r, j < k → xs[j + 1]? = some r → r.1 ≤ x := by
  obtain ⟨m, hm⟩ : ∃ m, xs.length = m + 1 := ⟨xs.length - 1, by have := ht.1; omega⟩
  have hm1 : 1 ≤ m := by have := ht.1; omega
  obtain ⟨p, hp⟩ : ∃ p, xs[0]? = some p := ⟨_, List.getElem?_eq_getElem (by omega)⟩
  obtain ⟨q, hq⟩ : ∃ q, xs[m]? = some q := ⟨_, List.getElem?_eq_getElem (by omega)⟩
  rw [covB_of x hm hp hq] at hc
  simp at hc
  have key : ∀ d k p, k + d = m → 1 ≤ d → xs[k]? = some p → p.1 ≤ x → (∀ j r, j < k → xs[j + 1]? = some r → r.1 ≤ x) → ∃ k p q, xs[k]? = some p ∧ xs[k + 1]? = some q ∧ p.1 ≤ x ∧ x ≤ q.1 ∧ (k + 2 = xs.length ∨ x < q.1) ∧ ∀ j r, j < k → xs[j + 1]? = some r → r.1 ≤ x := by
    intro d
    induction d with
    | zero => intro k p _ h; omega
    | succ d ih =>
      intro k p hk _ hp hpx hj
      obtain ⟨r, hr⟩ : ∃ r, xs[k + 1]? = some r := ⟨_, List.getElem?_eq_getElem (by omega)⟩
      by_cases hx : x < r.1
      · exact ⟨k, p, r, hp, hr, hpx, by omega, .inr hx, hj⟩
      · rcases Nat.eq_zero_or_pos d with h | h
        · subst h
          have e : r = q := by rw [show k + 1 = m from by omega, hq] at hr; injection hr with hr; exact hr.symm
          subst e
          exact ⟨k, p, r, hp, hr, hpx, hc.2, .inl (by omega), hj⟩
        · refine ih (k + 1) r (by omega) h hr (by omega) (fun j s hj' hs => ?_)
          by_cases e : j = k
          · subst e; rw [hr] at hs; injection hs with hs; subst hs; omega
          · exact hj j s (by omega) hs
  exact key m 0 p (by omega) hm1 hp hc.1 (fun j r h => by omega)

def AtPost (xs : List (Int × Int)) (x : Int) (w : World) (e : Ending) (w' : World) : Prop :=
  ∃ (k : Nat) (p q : Int × Int), xs[k]? = some p ∧ xs[k + 1]? = some q ∧ p.1 ≤ x ∧ x ≤ q.1 ∧ e = .returned (.tuple #[.int .i64 k, .int .i64 ((q.2 - p.2) * (x - p.1)), .int .i64 (q.1 - p.1)]) ∧ Below w.heap.size w w'
set_option maxRecDepth 20000 in
set_option maxHeartbeats 2000000 in
theorem rAt_any (xs : List (Int × Int)) (x : Int) (g off c : Nat) (ht : TabOk xs) (hcv : covB xs x = true) (w : World) (hg : g < w.heap.size) (hr : RRd w g off xs) :
    Calls Try.prog 181 #[.slice (some ⟨g, off, none⟩) xs.length c, .int .i64 x] w (AtPost xs x w) := by
  obtain ⟨k, p, q, hp, hq, hpx, hxq, hend, hbef⟩ := seg_last ht hcv
  obtain ⟨r1, r2, r3, r4⟩ := rowB_of (ht.2.2.1 p (List.mem_of_getElem? hp))
  obtain ⟨s1, s2, s3, s4⟩ := rowB_of (ht.2.2.1 q (List.mem_of_getElem? hq))
  have hkn : k + 1 < xs.length := (List.getElem?_eq_some_iff.1 hq).1
  have hn60 := ht.2.1
  have hpost : Hid (∀ (W : World), Below w.heap.size w W → AtPost xs x w (.returned (.tuple #[.int .i64 k, .int .i64 ((q.2 - p.2) * (x - p.1)), .int .i64 (q.1 - p.1)])) W) := Lib.hid (fun W h => ⟨k, p, q, hp, hq, hpx, hxq, rfl, h⟩)
  have hA : ((q.2 - p.2) * (x - p.1)).natAbs ≤ 2000000000 * 2000000000 := by rw [Int.natAbs_mul]; exact Nat.mul_le_mul (by omega) (by omega)
  obtain ⟨p0, p1⟩ := hr k p hp
  obtain ⟨q0, q1⟩ := hr (k + 1) q hq
  have HR := Lib.hid hr
  have HB := Lib.hid hbef
  obtain ⟨n, hn⟩ : ∃ n, xs.length = n := ⟨_, rfl⟩
  rw [hn] at hkn hn60 hend ⊢
  have Hn := Lib.hid hn
  have w1 : IntKind.i64.wrap (q.2 - p.2) = q.2 - p.2 := IntWalk.i64_in _ (by omega)
  have w2 : IntKind.i64.wrap (x - p.1) = x - p.1 := IntWalk.i64_in _ (by omega)
  have w3 : IntKind.i64.wrap (q.1 - p.1) = q.1 - p.1 := IntWalk.i64_in _ (by omega)
  have w4 : IntKind.i64.wrap ((q.2 - p.2) * (x - p.1)) = (q.2 - p.2) * (x - p.1) := IntWalk.i64_in _ (by omega)
  have w6 := IntWalk.wrap64_in ((q.2 - p.2) * (x - p.1)) (by omega)
  generalize hnum : (q.2 - p.2) * (x - p.1) = num at *
  have HNum := Lib.hid hnum
  clear hnum
  clear hn hr hbef hcv ht hp hq hA
  generalize AtPost xs x w = Q at *
  go_enter Try.func181, Try.ntmps181
  go_wp2_with fail
  go_loop [7] (fun i => ∃ j : Nat, j ≤ k ∧ i = .int .i64 j) (fun i => k - (RowKit.intOf i).toNat)
  case atStart => exact ⟨0, Nat.zero_le _, rfl⟩
  case round =>
    obtain ⟨j, hj, rfl⟩ := hrel
    have hj0 : (0 : Int) ≤ j := by omega
    have wj : IntKind.i64.wrap ((j : Int) + 2) = j + 2 := IntWalk.i64_in _ (by omega)
    by_cases hlt : j < k
    · obtain ⟨r, hr⟩ : ∃ r, xs[j + 1]? = some r := ⟨_, List.getElem?_eq_getElem (by rw [Hn.out]; omega)⟩
      have hrx := HB.out j r hlt hr
      have e0 : w.cell? ⟨g, off + (j + 1) * 2, none⟩ = some (.int .i64 r.1) := (HR.out (j + 1) r hr).1
      go_wp2_with fail
      go_round
      case rel => exact ⟨j + 1, by omega, by go_num⟩
      case measure => simp [RowKit.intOf]; omega
    · obtain rfl : j = k := by omega
      rcases (by omega : j + 2 = n ∨ j + 2 < n ∧ x < q.1) with he | ⟨he, hx2⟩
      all_goals
        go_wp2_with fail
        go_quiet (fail)
        go_wp2_with fail
        refine bodyPost_ret (v := .tuple #[.int .i64 j, .int .i64 num, .int .i64 (q.1 - p.1)]) (by simp [results, Try.results181, go_sem]; rw [HNum.out]; exact w6) rfl (hpost.out _ (below_drewN (Below.refl _ _) _))

open Go.RowKit Go.Lib Go.Shelf
set_option linter.unusedVariables false
set_option linter.unusedSimpArgs false
attribute [local go_sem ↓] Go.wp_at_zero Go.wp_at_succ

theorem keepT {w W W' : World} {g o : Nat} {x : Option Value} (hg : g < w.heap.size) (hb : Below W.heap.size W W') (h : W.cell? ⟨g, o, none⟩ = x ∧ Kp w.heap.size w W) : W'.cell? ⟨g, o, none⟩ = x ∧ Kp w.heap.size w W' :=
  ⟨cell_next hb (Nat.lt_of_lt_of_le hg h.2.1.size) h.1, h.2.next h.2.1.size hb⟩
theorem keepT_set {w W : World} {g o : Nat} {x : Option Value} {u v : Value} (hg : g < w.heap.size) (h : W.cell? ⟨g, o, none⟩ = x ∧ Kp w.heap.size w W) :
    ((W.setCell ⟨w.heap.size, 0, none⟩ u).setCell ⟨w.heap.size, 1, none⟩ v).cell? ⟨g, o, none⟩ = x ∧ Kp w.heap.size w ((W.setCell ⟨w.heap.size, 0, none⟩ u).setCell ⟨w.heap.size, 1, none⟩ v) := by
  have hne : g ≠ w.heap.size := by omega
  refine ⟨?_, h.2.set (Nat.le_refl _) u v⟩
  rw [World.cell?_setCell_other _ _ _ _ (by intro e; injection e; omega), World.cell?_setCell_other _ _ _ _ (by intro e; injection e; omega)]; exact h.1
set_option maxRecDepth 20000 in
set_option maxHeartbeats 2000000 in
theorem rValue_any (xs : List (Int × Int)) (x : Int) (g off c : Nat) (ht : TabOk xs) (hcv : covB xs x = true) (w : World) (hg : g < w.heap.size) (hr : RRd w g off xs) :
    Calls Try.prog 152 #[.slice (some ⟨g, off, none⟩) xs.length c, .int .i64 x] w fun e w' => e = .returned (.agg #[.int .i64 (valV xs x).1, .int .i64 (valV xs x).2]) ∧ Below w.heap.size w w' := by
  have c0 := Lib.hid (fun (W : World) (h : Below w.heap.size w W) => rAt_any xs x g off c ht hcv W (Nat.lt_of_lt_of_le hg h.size) (hr.below h hg))
  have HV := Lib.hid (fun (k : Nat) (p q : Int × Int) (h1 : xs[k]? = some p) (h2 : xs[k + 1]? = some q) (h3 : p.1 ≤ x) (h4 : x ≤ q.1) => valV_is ht (x := x) ⟨k, p, q, h1, h2, h3, h4, rfl⟩)
  have HT := Lib.hid ht
  have HR := Lib.hid hr
  generalize valV xs x = r at *
  obtain ⟨n, hn⟩ : ∃ n, xs.length = n := ⟨_, rfl⟩
  have Hn := Lib.hid hn
  have hn60 := ht.2.1
  rw [hn] at c0 hn60 ⊢
  clear hn ht hr hcv
  go_enter Try.func152, Try.ntmps152
  go_wp2_with fail
  refine (c0.out _ ((Below.refl _ _).alloc (Nat.le_refl _) _)).mono ?_
  rintro e w1 ⟨k, p, q, hp, hq, hpx, hxq, rfl, hb⟩
  have hk : Kp w.heap.size w w1 := ⟨below1 hb, by have := hb.size; simp at this; omega, ⟨.int .i64 0, cell_next hb (by simp) (by simp [go_sem])⟩, ⟨.int .i64 0, cell_next hb (by simp) (by simp [go_sem])⟩, frozen_next hb (by simp) (by simp [go_sem]), frozen_next hb (by simp) (by simp [go_sem])⟩
  have hv := HV.out k p q hp hq hpx hxq
  have hkn : k < n := by rw [← Hn.out]; exact (List.getElem?_eq_some_iff.1 hp).1
  have hpq := HT.out.2.2.2 k (k + 1) _ _ (by omega) hp hq
  obtain ⟨r1, r2, r3, r4⟩ := rowB_of (HT.out.2.2.1 p (List.mem_of_getElem? hp))
  obtain ⟨s1, s2, s3, s4⟩ := rowB_of (HT.out.2.2.1 q (List.mem_of_getElem? hq))
  have hS := And.intro ((hk.1.cell (p := ⟨g, off + k * 2 + 1, none⟩) hg).trans (HR.out k p hp).2) hk
  have hA : ((q.2 - p.2) * (x - p.1)).natAbs ≤ 2000000000 * (q.1 - p.1).natAbs := by rw [Int.natAbs_mul]; exact Nat.mul_le_mul (by omega) (by omega)
  unfold segV at hv
  have hd : 0 < q.1 - p.1 := by omega
  have hd2 : q.1 - p.1 ≤ 2000000000 := by omega
  clear HV HT HR Hn c0 hb hk hp hq hpq
  generalize (q.2 - p.2) * (x - p.1) = A at *
  generalize q.1 - p.1 = d at *
  have hlo : -2000000000 ≤ A / d ∧ A / d ≤ 2000000000 ∧ -2000000000 ≤ -(-A / d) ∧ -(-A / d) ≤ 2000000000 := by
    have h1 := Int.le_ediv_of_mul_le (a := -2000000000) (b := A) hd (by omega)
    have h2 := Int.ediv_le_of_le_mul (a := A) (b := 2000000000) hd (by omega)
    have h3 := Int.le_ediv_of_mul_le (a := -2000000000) (b := -A) hd (by omega)
    have h4 := Int.ediv_le_of_le_mul (a := -A) (b := 2000000000) hd (by omega)
    omega
  have c1 := Lib.hid (rFloor_any A d ⟨by omega, by omega⟩ hd (by omega))
  have c2 := Lib.hid (rCeil_any A d ⟨by omega, by omega⟩ hd (by omega))
  generalize A / d = lo at *
  generalize -(-A / d) = hi at *
  obtain ⟨l1, l2, l3, l4⟩ := hlo
  have w4 : IntKind.i64.wrap (p.2 + lo) = p.2 + lo := IntWalk.i64_in _ (by omega)
  have w5 : IntKind.i64.wrap (p.2 + hi) = p.2 + hi := IntWalk.i64_in _ (by omega)
  have hk0 : (0 : Int) ≤ k := by omega
  have HVR := Lib.hid hv
  clear hv hA hd
  go_wp2_with fail
  refine wp_region_held_drew (S := fun w' => w'.cell? ⟨g, off + k * 2 + 1, none⟩ = some (.int .i64 p.2) ∧ Kp w.heap.size w w') (by kernel_rfl) ?_ (fun hHeld => ?_)
  focus (exact keepT hg (Below.drew (Below.refl _ _)) hS)
  refine take_slot (i := 0) (d := 15) (v := ?_) rfl rfl (by kernel_rfl) (by kernel_rfl) (by kernel_rfl) (fun _ _ _ h => h) (Or.inl ⟨by rfl, ?_⟩) (by assumption) ?_
  rotate_left 1
  focus (intro wS hSw; (try dsimp only at hSw); go_simp; try with_reducible rfl)
  try simp only [List.setIfInBounds_toArray, List.set_cons_zero, List.set_cons_succ]
  refine take_slot (i := 1) (d := 16) (v := ?_) rfl rfl (by kernel_rfl) (by kernel_rfl) (by kernel_rfl) (fun _ _ _ h => h) (Or.inl ⟨by rfl, ?_⟩) (by assumption) ?_
  rotate_left 1
  focus (intro wS hSw; (try dsimp only at hSw); go_simp; try with_reducible rfl)
  try simp only [List.setIfInBounds_toArray, List.set_cons_zero, List.set_cons_succ]
  refine take_slot (i := 2) (d := 17) (v := ?_) rfl rfl (by kernel_rfl) (by kernel_rfl) (by kernel_rfl) (fun _ _ _ h => h) (Or.inl ⟨by rfl, ?_⟩) (by assumption) ?_
  rotate_left 1
  focus (intro wS hSw; (try dsimp only at hSw); go_simp; try with_reducible rfl)
  try simp only [List.setIfInBounds_toArray, List.set_cons_zero, List.set_cons_succ]
  refine take_slot (i := 3) (d := 18) (v := ?_) rfl rfl (by kernel_rfl) (by kernel_rfl) (by kernel_rfl) (fun _ _ _ h => h) (Or.inl ⟨by rfl, ?_⟩) (by assumption) ?_
  rotate_left 1
  focus (intro wS hSw; (try dsimp only at hSw); go_simp; try with_reducible rfl)
  try simp only [List.setIfInBounds_toArray, List.set_cons_zero, List.set_cons_succ]
  refine take_slot (i := 4) (d := 19) (v := ?_) rfl rfl (by kernel_rfl) (by kernel_rfl) (by kernel_rfl) (fun _ _ _ h => h) (Or.inl ⟨by rfl, ?_⟩) (by assumption) ?_
  rotate_left 1
  focus (intro wS hSw; (try dsimp only at hSw); go_simp; try with_reducible rfl)
  try simp only [List.setIfInBounds_toArray, List.set_cons_zero, List.set_cons_succ]
  refine take_slot (i := 5) (d := 20) (v := ?_) rfl rfl (by kernel_rfl) (by kernel_rfl) (by kernel_rfl) (fun _ _ _ h => h) (Or.inl ⟨by rfl, ?_⟩) (by assumption) ?_
  rotate_left 1
  focus (intro wS hSw; (try dsimp only at hSw); go_simp; try with_reducible rfl)
  try simp only [List.setIfInBounds_toArray, List.set_cons_zero, List.set_cons_succ]
  refine take_slot (i := 6) (d := 21) (v := ?_) rfl rfl (by kernel_rfl) (by kernel_rfl) (by kernel_rfl) (fun _ _ _ h => h) (Or.inl ⟨by rfl, ?_⟩) (by assumption) ?_
  rotate_left 1
  focus (intro wS hSw; (try dsimp only at hSw); go_simp; try with_reducible rfl)
  try simp only [List.setIfInBounds_toArray, List.set_cons_zero, List.set_cons_succ]
  refine take_slot (i := 9) (d := 24) (v := ?_) rfl rfl (by kernel_rfl) (by kernel_rfl) (by kernel_rfl) (fun _ _ _ h => h) (Or.inl ⟨by rfl, ?_⟩) (by assumption) ?_
  rotate_left 1
  focus (intro wS hSw; (try dsimp only at hSw); go_simp; try with_reducible rfl)
  try simp only [List.setIfInBounds_toArray, List.set_cons_zero, List.set_cons_succ]
  refine take_slot (i := 10) (d := 25) (v := ?_) rfl rfl (by kernel_rfl) (by kernel_rfl) (by kernel_rfl) (fun _ _ _ h => h) (Or.inl ⟨by rfl, ?_⟩) (by assumption) ?_
  rotate_left 1
  focus (intro wS hSw; (try dsimp only at hSw); go_simp; try with_reducible rfl)
  try simp only [List.setIfInBounds_toArray, List.set_cons_zero, List.set_cons_succ]
  refine take_slot (i := 11) (d := 26) (v := ?_) rfl rfl (by kernel_rfl) (by kernel_rfl) (by kernel_rfl) (fun _ _ _ h => h) (Or.inl ⟨by rfl, ?_⟩) (by assumption) ?_
  rotate_left 1
  focus (intro wS hSw; (try dsimp only at hSw); go_simp; try with_reducible rfl)
  try simp only [List.setIfInBounds_toArray, List.set_cons_zero, List.set_cons_succ]
  refine take_slot (i := 12) (d := 27) (v := ?_) rfl rfl (by kernel_rfl) (by kernel_rfl) (by kernel_rfl) (fun _ _ _ h => h) (Or.inl ⟨by rfl, ?_⟩) (by assumption) ?_
  rotate_left 1
  focus (intro wS hSw; (try dsimp only at hSw); go_simp; try with_reducible rfl)
  try simp only [List.setIfInBounds_toArray, List.set_cons_zero, List.set_cons_succ]
  refine take_slot (i := 13) (d := 28) (v := ?_) rfl rfl (by kernel_rfl) (by kernel_rfl) (by kernel_rfl) (fun _ _ _ h => h) (Or.inl ⟨by rfl, ?_⟩) (by assumption) ?_
  rotate_left 1
  focus (intro wS hSw; (try dsimp only at hSw); go_simp; try with_reducible rfl)
  try simp only [List.setIfInBounds_toArray, List.set_cons_zero, List.set_cons_succ]
  refine take_slot (i := 14) (d := 29) (v := ?_) rfl rfl (by kernel_rfl) (by kernel_rfl) (by kernel_rfl) (fun _ _ _ h => h) (Or.inl ⟨by rfl, ?_⟩) (by assumption) ?_
  rotate_left 1
  focus (intro wS hSw; (try dsimp only at hSw); go_simp; try with_reducible rfl)
  try simp only [List.setIfInBounds_toArray, List.set_cons_zero, List.set_cons_succ]
  refine take_slot (i := 15) (d := 30) (v := ?_) rfl rfl (by kernel_rfl) (by kernel_rfl) (by kernel_rfl) (fun _ _ _ h => h) (Or.inl ⟨by rfl, ?_⟩) (by assumption) ?_
  rotate_left 1
  focus (intro wS hSw; (try dsimp only at hSw); go_simp; try with_reducible rfl)
  try simp only [List.setIfInBounds_toArray, List.set_cons_zero, List.set_cons_succ]
  refine wpAnyH_ready (rs := [7]) (by kernel_rfl) (by simp) ?_
  refine AllReadyH.cons rfl (fun K hK => ?_) AllReadyH.nil
  go_simp
  refine (c1.out _).mono ?_; rintro e w4 ⟨rfl, rfl⟩
  refine hK.out _ _ ?_ (fun hHeld => ?_)
  focus (assumption)
  clear hK K
  try simp only [Act.put, List.setIfInBounds_toArray, List.set_cons_zero, List.set_cons_succ]
  refine take_slot (i := 8) (d := 23) (v := ?_) rfl rfl (by kernel_rfl) (by kernel_rfl) (by kernel_rfl) (fun _ _ _ h => h) (Or.inl ⟨by rfl, ?_⟩) (by assumption) ?_
  rotate_left 1
  focus (intro wS hSw; (try dsimp only at hSw); go_simp; try with_reducible rfl)
  try simp only [List.setIfInBounds_toArray, List.set_cons_zero, List.set_cons_succ]
  refine wpAnyH_ready (rs := [16]) (by kernel_rfl) (by simp) ?_
  refine AllReadyH.cons rfl (fun K hK => ?_) AllReadyH.nil
  go_simp
  refine (c2.out _).mono ?_; rintro e w4 ⟨rfl, rfl⟩
  refine hK.out _ _ ?_ (fun hHeld => ?_)
  focus (assumption)
  clear hK K
  try simp only [Act.put, List.setIfInBounds_toArray, List.set_cons_zero, List.set_cons_succ]
  refine take_slot (i := 17) (d := 32) (v := ?_) rfl rfl (by kernel_rfl) (by kernel_rfl) (by kernel_rfl) (fun _ _ _ h => h) (Or.inl ⟨by rfl, ?_⟩) (by assumption) ?_
  rotate_left 1
  focus (intro wS hSw; (try dsimp only at hSw); go_simp; try with_reducible rfl)
  try simp only [List.setIfInBounds_toArray, List.set_cons_zero, List.set_cons_succ]
  refine take_slot (i := 18) (d := 33) (v := ?_) rfl rfl (by kernel_rfl) (by kernel_rfl) (by kernel_rfl) (fun _ _ _ h => h) (Or.inl ⟨by rfl, ?_⟩) (by assumption) ?_
  rotate_left 1
  focus (intro wS hSw; (try dsimp only at hSw); go_simp; try with_reducible rfl)
  try simp only [List.setIfInBounds_toArray, List.set_cons_zero, List.set_cons_succ]
  refine wpAnyH_ready (rs := [19]) (by kernel_rfl) (by simp) ?_
  refine AllReadyH.cons rfl (fun K hK => ?_) AllReadyH.nil
  have hS2 := hS
  obtain ⟨kg, kB, kn, ⟨_, k2⟩, ⟨_, k3⟩, k4, k5⟩ := hS
  go_simp
  refine hK.out _ _ ?_ (fun hHeld => ?_)
  focus (first | exact keepT_set hg hS2 | exact keepT hg (Below.drew (Below.refl _ _)) (keepT_set hg hS2))
  clear hK K hS2
  try simp only [Act.put, List.setIfInBounds_toArray, List.set_cons_zero, List.set_cons_succ]
  refine wpAnyH_done (by kernel_rfl) ?_ _
  go_wp2_with fail
  refine bodyPost_ret (v := .agg #[.int .i64 (p.2 + lo), .int .i64 (p.2 + hi)]) (by simp [results, Try.results152, go_sem, k2, k3]) rfl ⟨by rw [HVR.out], ?_⟩
  have hE := (kB.setCell (p := ⟨w.heap.size, 0, none⟩) (Nat.le_refl _) (.int .i64 (p.2 + lo))).setCell (p := ⟨w.heap.size, 1, none⟩) (Nat.le_refl _) (.int .i64 (p.2 + hi))
  first | exact hE | exact Below.drew hE

open Go.RowKit Go.Lib Go.Shelf
set_option linter.unusedVariables false
set_option linter.unusedSimpArgs false
attribute [local go_sem ↓] Go.wp_at_zero Go.wp_at_succ

theorem frozen_far {w : World} {b c o : Nat} {z : Bool} (x y : Value) (h : w.frozen? ⟨c, o, none⟩ = z) : ((w.setCell ⟨b, 0, none⟩ x).setCell ⟨b, 1, none⟩ y).frozen? ⟨c, o, none⟩ = z := by simp [go_sem, h]
theorem size_far {w : World} {b c : Nat} (x y : Value) (h : c < w.heap.size) : c < ((w.setCell ⟨b, 0, none⟩ x).setCell ⟨b, 1, none⟩ y).heap.size := by simpa [World.setCell] using h
/-- both values lie in blocks of the call's own -/
def Vy (a b : Int) (w : World) (va vb : Int × Int) (s5 s6 : Value) (W : World) : Prop :=
  ∃ gl gh, s5 = .pointer (some ⟨gl, 0, none⟩) ∧ s6 = .pointer (some ⟨gh, 0, none⟩) ∧ gl < W.heap.size ∧ gh < W.heap.size ∧ W.cell? ⟨gl, 0, none⟩ = some (.int .i64 va.1) ∧ W.cell? ⟨gl, 1, none⟩ = some (.int .i64 va.2) ∧
    W.cell? ⟨gh, 0, none⟩ = some (.int .i64 vb.1) ∧ W.cell? ⟨gh, 1, none⟩ = some (.int .i64 vb.2) ∧ W.cell? ⟨w.heap.size, 0, none⟩ = some (.int .i64 a) ∧ W.cell? ⟨w.heap.size, 1, none⟩ = some (.int .i64 b) ∧ Kp (w.heap.size + 1) w W
theorem vy_vx {a b : Int} {w W : World} {va vb : Int × Int} {s5 s6 : Value} (h : Vy a b w va vb s5 s6 W) (s : Int × Int) : Vx a b w s (.pointer (some ⟨W.heap.size, 0, none⟩)) (W.alloc (.cells #[.int .i64 s.1, .int .i64 s.2] 24)) := by
  obtain ⟨gl, gh, _, _, nl, nh, l0, l1, h0, h1, hS⟩ := h
  have hb := (Below.refl W.heap.size W).alloc (Nat.le_refl _) (.cells #[.int .i64 s.1, .int .i64 s.2] 24)
  obtain ⟨e0, e1, hk⟩ := keep2 hb (Nat.le_succ _) hS
  exact ⟨_, rfl, hS.2.2.2.1, by simp, cell_new _ _ _ 0, cell_new _ _ _ 1, by simp [go_sem], by simp [go_sem], e0, e1, hk⟩
theorem vy_vx' {a b : Int} {w W : World} {va vb : Int × Int} {s5 s6 : Value} (h : Vy a b w va vb s5 s6 W) (s : Int × Int) : ∃ gx, gx = W.heap.size ∧ Vx a b w s (.pointer (some ⟨gx, 0, none⟩)) (W.alloc (.cells #[.int .i64 s.1, .int .i64 s.2] 24)) :=
  ⟨_, rfl, vy_vx h s⟩
theorem vx_drewN {a b : Int} {w W : World} {s : Int × Int} {v : Value} (h : Vx a b w s v W) (n : Nat) : Vx a b w s v (W.drewN n) := by
  obtain ⟨gx, rfl, h1, h2, h3, h4, h5, h6, h7, h8, h9, h10, h11, h12, h13, h14⟩ := h
  exact ⟨gx, rfl, h1, h2, h3, h4, h5, h6, h7, h8, below_drewN h9 n, h10, h11, h12, h13, h14⟩
theorem vx_drew {a b : Int} {w W : World} {s : Int × Int} {v : Value} (h : Vx a b w s v W) : Vx a b w s v W.drew := by
  obtain ⟨gx, rfl, h1, h2, h3, h4, h5, h6, h7, h8, h9, h10, h11, h12, h13, h14⟩ := h
  exact ⟨gx, rfl, h1, h2, h3, h4, h5, h6, h7, h8, h9.drew, h10, h11, h12, h13, h14⟩
theorem vx_set {a b : Int} {w W : World} {s : Int × Int} {g : Nat} (h : Vx a b w s (.pointer (some ⟨g, 0, none⟩)) W) (q : Int × Int) : Vx a b w q (.pointer (some ⟨g, 0, none⟩)) ((W.setCell ⟨g, 0, none⟩ (.int .i64 q.1)).setCell ⟨g, 1, none⟩ (.int .i64 q.2)) := by
  obtain ⟨gx, hge, h1, h2, h3, h4, h5, h6, h7, h8, hk⟩ := h
  obtain rfl : g = gx := by injection hge with hge; injection hge with hge; injection hge
  obtain ⟨t0, t1⟩ := set2 (.int .i64 q.1) (.int .i64 q.2) h3 h4
  obtain ⟨e0, e1, hk'⟩ := keep2_far (u := .int .i64 q.1) (v := .int .i64 q.2) (by omega : w.heap.size < g) h1 (by omega) ⟨h7, h8, hk⟩
  exact ⟨g, rfl, h1, size_far _ _ h2, t0, t1, frozen_far _ _ h5, frozen_far _ _ h6, e0, e1, hk'⟩
theorem vrun_min2 {P : Program} (tys : Array TypeId) (ty : TypeId) (k : IntKind) (x y : Int) (w : World) : (Builtin.min_ tys ty #[.int k x, .int k y]).run P w = .ok (.int k (min x y)) w := by
  simp [Builtin.min_, Builtin.min2]
  split <;> omega
theorem vrun_max2 {P : Program} (tys : Array TypeId) (ty : TypeId) (k : IntKind) (x y : Int) (w : World) : (Builtin.max_ tys ty #[.int k x, .int k y]).run P w = .ok (.int k (max x y)) w := by
  simp [Builtin.max_, Builtin.max2]
  split <;> omega
set_option maxRecDepth 20000 in
set_option maxHeartbeats 8000000 in
theorem rValues_at (xs : List (Int × Int)) (a b : Int) (g off c : Nat) (hT : TabOk xs) (hca : covB xs a = true) (hcb : covB xs b = true) (w : World) (hg : g < w.heap.size) (hr : RRd w g off xs) :
    Calls Try.prog 112 #[.slice (some ⟨g, off, none⟩) xs.length c, .agg #[.int .i64 a, .int .i64 b]] w fun e w' => e = .returned (.agg #[.int .i64 (valsV xs a b).1, .int .i64 (valsV xs a b).2]) ∧ Below w.heap.size w w' := by
  have c4 := Lib.hid (fun (W : World) (h : Below w.heap.size w W) => rValue_any xs a g off c hT hca W (Nat.lt_of_lt_of_le hg h.size) (hr.below h hg))
  have c4' := Lib.hid (fun (W : World) (h : Below w.heap.size w W) => rValue_any xs b g off c hT hcb W (Nat.lt_of_lt_of_le hg h.size) (hr.below h hg))
  have HV : Hid ((min (valV xs a).1 (valV xs b).1, max (valV xs a).2 (valV xs b).2) = vs0 xs a b) := Lib.hid rfl
  have HD : Hid (valsV xs a b = xs.foldl (vsK a b) (vs0 xs a b)) := Lib.hid (vs_same hT a b).symm
  have HR := Lib.hid hr
  have hn60 := hT.2.1
  generalize valsV xs a b = res at *
  generalize vs0 xs a b = s0 at *
  generalize valV xs a = va at *
  generalize valV xs b = vb at *
  obtain ⟨n, hn⟩ : ∃ n, xs.length = n := ⟨_, rfl⟩
  rw [hn] at c4 c4' hn60 ⊢
  have Hn := Lib.hid hn
  clear hn hT hca hcb hr
  have hS : ((w.alloc (.cells #[.int .i64 a, .int .i64 b] 24)).alloc (.cells #[.int .i64 0, .int .i64 0] 24)).cell? ⟨w.heap.size, 0, none⟩ = some (.int .i64 a) ∧ ((w.alloc (.cells #[.int .i64 a, .int .i64 b] 24)).alloc (.cells #[.int .i64 0, .int .i64 0] 24)).cell? ⟨w.heap.size, 1, none⟩ = some (.int .i64 b) ∧ Kp (w.heap.size + 1) w ((w.alloc (.cells #[.int .i64 a, .int .i64 b] 24)).alloc (.cells #[.int .i64 0, .int .i64 0] 24)) :=
    ⟨by simp [go_sem], by simp [go_sem], ((Below.refl _ _).alloc (Nat.le_refl _) _).alloc (by simp) _, by simp, ⟨.int .i64 0, by simp [go_sem]⟩, ⟨.int .i64 0, by simp [go_sem]⟩, by simp [go_sem], by simp [go_sem]⟩
  have HS := Lib.hid hS
  clear hS
  go_enter Try.func112, Try.ntmps112
  go_upto_region 1 with fail
  go_cut [5, 6] (fun s5 s6 wx => Vy a b w va vb s5 s6 wx)
  case first =>
    have hS := HS.out
    clear HS
    have d4 := Lib.hid (fun (W : World) (h : W.cell? ⟨w.heap.size, 0, none⟩ = some (.int .i64 a) ∧ W.cell? ⟨w.heap.size, 1, none⟩ = some (.int .i64 b) ∧ Kp (w.heap.size + 1) w W) => c4.out W h.2.2.1)
    have d4' := Lib.hid (fun (W : World) (h : W.cell? ⟨w.heap.size, 0, none⟩ = some (.int .i64 a) ∧ W.cell? ⟨w.heap.size, 1, none⟩ = some (.int .i64 b) ∧ Kp (w.heap.size + 1) w W) => c4'.out W h.2.2.1)
    clear c4 c4'
    refine wp_region_held_drew (S := fun w' => w'.cell? ⟨w.heap.size, 0, none⟩ = some (.int .i64 a) ∧ w'.cell? ⟨w.heap.size, 1, none⟩ = some (.int .i64 b) ∧ Kp (w.heap.size + 1) w w') (by kernel_rfl) ?_ (fun hHeld => ?_)
    focus (exact keep2 (Below.drew (Below.refl _ _)) (Nat.le_succ _) hS)
    clear hS
    refine take_slot (i := 0) (d := 9) (v := ?_) rfl rfl (by kernel_rfl) (by kernel_rfl) (by kernel_rfl) (fun _ _ _ h => h) (Or.inl ⟨by rfl, ?_⟩) (by assumption) ?_
    rotate_left 1
    focus (intro wS hSw; (try dsimp only at hSw); go_simp; try with_reducible rfl)
    try simp only [List.setIfInBounds_toArray, List.set_cons_zero, List.set_cons_succ]
    refine take_slot (i := 1) (d := 10) (v := ?_) rfl rfl (by kernel_rfl) (by kernel_rfl) (by kernel_rfl) (fun _ _ _ h => h) (Or.inl ⟨by rfl, ?_⟩) (by assumption) ?_
    rotate_left 1
    focus (intro wS hSw; (try dsimp only at hSw); go_simp; try with_reducible rfl)
    try simp only [List.setIfInBounds_toArray, List.set_cons_zero, List.set_cons_succ]
    refine take_slot (i := 2) (d := 11) (v := ?_) rfl rfl (by kernel_rfl) (by kernel_rfl) (by kernel_rfl) (fun _ _ _ h => h) (Or.inl ⟨by rfl, ?_⟩) (by assumption) ?_
    rotate_left 1
    focus (intro wS hSw; (try dsimp only at hSw); go_simp; try with_reducible rfl)
    try simp only [List.setIfInBounds_toArray, List.set_cons_zero, List.set_cons_succ]
    refine take_slot (i := 4) (d := 13) (v := ?_) rfl rfl (by kernel_rfl) (by kernel_rfl) (by kernel_rfl) (fun _ _ _ h => h) (Or.inl ⟨by rfl, ?_⟩) (by assumption) ?_
    rotate_left 1
    focus (intro wS hSw; (try dsimp only at hSw); go_simp; try with_reducible rfl)
    try simp only [List.setIfInBounds_toArray, List.set_cons_zero, List.set_cons_succ]
    refine take_slot (i := 5) (d := 14) (v := ?_) rfl rfl (by kernel_rfl) (by kernel_rfl) (by kernel_rfl) (fun _ _ _ h => h) (Or.inl ⟨by rfl, ?_⟩) (by assumption) ?_
    rotate_left 1
    focus (intro wS hSw; (try dsimp only at hSw); go_simp; try with_reducible rfl)
    try simp only [List.setIfInBounds_toArray, List.set_cons_zero, List.set_cons_succ]
    refine take_slot (i := 6) (d := 15) (v := ?_) rfl rfl (by kernel_rfl) (by kernel_rfl) (by kernel_rfl) (fun _ _ _ h => h) (Or.inl ⟨by rfl, ?_⟩) (by assumption) ?_
    rotate_left 1
    focus (intro wS hSw; (try dsimp only at hSw); go_simp; try with_reducible rfl)
    try simp only [List.setIfInBounds_toArray, List.set_cons_zero, List.set_cons_succ]
    have hS := hHeld
    clear hHeld
    generalize World.drew _ = W0 at *
    refine wpAnyH_ready (rs := [3, 8, 9]) (by kernel_rfl) (by simp) ?_
    refine AllReadyH.cons rfl (fun K hK => ?_) ?_
    · go_simp
      refine (d4.out _ hS).mono ?_
      rintro e X1 ⟨rfl, hb⟩
      replace hS := keep2 hb (Nat.le_succ _) hS
      refine hK.out _ _ hS (fun _ => ?_)
      clear hK K hb
      try simp only [Act.put, List.setIfInBounds_toArray, List.set_cons_zero, List.set_cons_succ]
      refine wpAnyH_ready (rs := [7, 8, 9]) (by kernel_rfl) (by simp) ?_
      refine AllReadyH.cons rfl (fun K hK => ?_) ?_
      · go_simp
        refine (d4'.out _ hS).mono ?_
        rintro e X2 ⟨rfl, hb⟩
        replace hS := keep2 hb (Nat.le_succ _) hS
        refine hK.out _ _ hS (fun _ => ?_)
        clear hK K hb
        try simp only [Act.put, List.setIfInBounds_toArray, List.set_cons_zero, List.set_cons_succ]
        refine wpAnyH_ready (rs := [8, 9]) (by kernel_rfl) (by simp) ?_
        refine AllReadyH.cons rfl (fun K hK => ?_) ?_
        · go_simp
          have hb := (Below.refl X2.heap.size X2).alloc (Nat.le_refl _) (Obj.cells #[Value.int .i64 0, Value.int .i64 0] 24)
          have bl : w.heap.size + 1 < X2.heap.size := hS.2.2.2.1
          replace hS := keep2 hb (Nat.le_succ _) hS
          have l0 : (X2.alloc (Obj.cells #[Value.int .i64 0, Value.int .i64 0] 24)).cell? ⟨X2.heap.size, 0, none⟩ = some (Value.int .i64 0) := cell_new _ _ _ 0
          have fl0 : (X2.alloc (Obj.cells #[Value.int .i64 0, Value.int .i64 0] 24)).frozen? ⟨X2.heap.size, 0, none⟩ = false := by simp [go_sem]
          have l1 : (X2.alloc (Obj.cells #[Value.int .i64 0, Value.int .i64 0] 24)).cell? ⟨X2.heap.size, 1, none⟩ = some (Value.int .i64 0) := cell_new _ _ _ 1
          have fl1 : (X2.alloc (Obj.cells #[Value.int .i64 0, Value.int .i64 0] 24)).frozen? ⟨X2.heap.size, 1, none⟩ = false := by simp [go_sem]
          have nl : X2.heap.size < (X2.alloc (Obj.cells #[Value.int .i64 0, Value.int .i64 0] 24)).heap.size := by simp
          refine hK.out _ _ hS (fun _ => ?_)
          clear hK K hb
          generalize X2.alloc (Obj.cells #[Value.int .i64 0, Value.int .i64 0] 24) = X3 at *
          try simp only [Act.put, List.setIfInBounds_toArray, List.set_cons_zero, List.set_cons_succ]
          refine wpAnyH_ready (rs := [9]) (by kernel_rfl) (by simp) ?_
          refine AllReadyH.cons rfl (fun K hK => ?_) AllReadyH.nil
          go_simp
          have hb := (Below.refl X3.heap.size X3).alloc (Nat.le_refl _) (Obj.cells #[Value.int .i64 0, Value.int .i64 0] 24)
          have bh : w.heap.size + 1 < X3.heap.size := hS.2.2.2.1
          have dlh : X2.heap.size < X3.heap.size := nl
          replace l0 := cell_next hb nl l0
          replace fl0 := frozen_next hb nl fl0
          replace l1 := cell_next hb nl l1
          replace fl1 := frozen_next hb nl fl1
          replace nl := Nat.lt_of_lt_of_le nl hb.size
          replace hS := keep2 hb (Nat.le_succ _) hS
          have h0 : (X3.alloc (Obj.cells #[Value.int .i64 0, Value.int .i64 0] 24)).cell? ⟨X3.heap.size, 0, none⟩ = some (Value.int .i64 0) := cell_new _ _ _ 0
          have fh0 : (X3.alloc (Obj.cells #[Value.int .i64 0, Value.int .i64 0] 24)).frozen? ⟨X3.heap.size, 0, none⟩ = false := by simp [go_sem]
          have h1 : (X3.alloc (Obj.cells #[Value.int .i64 0, Value.int .i64 0] 24)).cell? ⟨X3.heap.size, 1, none⟩ = some (Value.int .i64 0) := cell_new _ _ _ 1
          have fh1 : (X3.alloc (Obj.cells #[Value.int .i64 0, Value.int .i64 0] 24)).frozen? ⟨X3.heap.size, 1, none⟩ = false := by simp [go_sem]
          have nh : X3.heap.size < (X3.alloc (Obj.cells #[Value.int .i64 0, Value.int .i64 0] 24)).heap.size := by simp
          refine hK.out _ _ hS (fun _ => ?_)
          clear hK K hb
          generalize X3.alloc (Obj.cells #[Value.int .i64 0, Value.int .i64 0] 24) = X4 at *
          try simp only [Act.put, List.setIfInBounds_toArray, List.set_cons_zero, List.set_cons_succ]
          refine wpAnyH_ready (rs := [10]) (by kernel_rfl) (by simp) ?_
          refine AllReadyH.cons rfl (fun K hK => ?_) AllReadyH.nil
          go_simp
          replace hS := keep2_far (u := .int .i64 va.1) (v := .int .i64 va.2) (by omega : _ < X2.heap.size) (by omega) (by omega) hS
          refine hK.out _ _ hS (fun _ => ?_)
          clear hK K
          replace h0 := set2_far (b := X2.heap.size) (.int .i64 va.1) (.int .i64 va.2) (by omega) h0
          replace fh0 := frozen_far (b := X2.heap.size) (.int .i64 va.1) (.int .i64 va.2) fh0
          replace h1 := set2_far (b := X2.heap.size) (.int .i64 va.1) (.int .i64 va.2) (by omega) h1
          replace fh1 := frozen_far (b := X2.heap.size) (.int .i64 va.1) (.int .i64 va.2) fh1
          obtain ⟨l0, l1⟩ := set2 (.int .i64 va.1) (.int .i64 va.2) l0 l1
          replace fl0 := frozen_far (b := X2.heap.size) (.int .i64 va.1) (.int .i64 va.2) fl0
          replace fl1 := frozen_far (b := X2.heap.size) (.int .i64 va.1) (.int .i64 va.2) fl1
          replace nl := size_far (b := X2.heap.size) (.int .i64 va.1) (.int .i64 va.2) nl
          replace nh := size_far (b := X2.heap.size) (.int .i64 va.1) (.int .i64 va.2) nh
          generalize ((X4.setCell ⟨X2.heap.size, 0, none⟩ (.int .i64 va.1)).setCell ⟨X2.heap.size, 1, none⟩ (.int .i64 va.2)) = X5 at *
          try simp only [Act.put, List.setIfInBounds_toArray, List.set_cons_zero, List.set_cons_succ]
          refine wpAnyH_ready (rs := [11]) (by kernel_rfl) (by simp) ?_
          refine AllReadyH.cons rfl (fun K hK => ?_) AllReadyH.nil
          go_simp
          replace hS := keep2_far (u := .int .i64 vb.1) (v := .int .i64 vb.2) (by omega : _ < X3.heap.size) (by omega) (by omega) hS
          refine hK.out _ _ hS (fun _ => ?_)
          clear hK K
          replace l0 := set2_far (b := X3.heap.size) (.int .i64 vb.1) (.int .i64 vb.2) (by omega) l0
          replace fl0 := frozen_far (b := X3.heap.size) (.int .i64 vb.1) (.int .i64 vb.2) fl0
          replace l1 := set2_far (b := X3.heap.size) (.int .i64 vb.1) (.int .i64 vb.2) (by omega) l1
          replace fl1 := frozen_far (b := X3.heap.size) (.int .i64 vb.1) (.int .i64 vb.2) fl1
          obtain ⟨h0, h1⟩ := set2 (.int .i64 vb.1) (.int .i64 vb.2) h0 h1
          replace fh0 := frozen_far (b := X3.heap.size) (.int .i64 vb.1) (.int .i64 vb.2) fh0
          replace fh1 := frozen_far (b := X3.heap.size) (.int .i64 vb.1) (.int .i64 vb.2) fh1
          replace nl := size_far (b := X3.heap.size) (.int .i64 vb.1) (.int .i64 vb.2) nl
          replace nh := size_far (b := X3.heap.size) (.int .i64 vb.1) (.int .i64 vb.2) nh
          generalize ((X5.setCell ⟨X3.heap.size, 0, none⟩ (.int .i64 vb.1)).setCell ⟨X3.heap.size, 1, none⟩ (.int .i64 vb.2)) = X6 at *
          try simp only [Act.put, List.setIfInBounds_toArray, List.set_cons_zero, List.set_cons_succ]
          refine wpAnyH_done (by kernel_rfl) ?_ _
          go_wp2_with fail
          go_meet
          exact ⟨_, _, rfl, rfl, nl, nh, l0, l1, h0, h1, hS⟩
        refine AllReadyH.cons rfl (fun K hK => ?_) AllReadyH.nil
        go_simp
        have hb := (Below.refl X2.heap.size X2).alloc (Nat.le_refl _) (Obj.cells #[Value.int .i64 0, Value.int .i64 0] 24)
        have bh : w.heap.size + 1 < X2.heap.size := hS.2.2.2.1
        replace hS := keep2 hb (Nat.le_succ _) hS
        have h0 : (X2.alloc (Obj.cells #[Value.int .i64 0, Value.int .i64 0] 24)).cell? ⟨X2.heap.size, 0, none⟩ = some (Value.int .i64 0) := cell_new _ _ _ 0
        have fh0 : (X2.alloc (Obj.cells #[Value.int .i64 0, Value.int .i64 0] 24)).frozen? ⟨X2.heap.size, 0, none⟩ = false := by simp [go_sem]
        have h1 : (X2.alloc (Obj.cells #[Value.int .i64 0, Value.int .i64 0] 24)).cell? ⟨X2.heap.size, 1, none⟩ = some (Value.int .i64 0) := cell_new _ _ _ 1
        have fh1 : (X2.alloc (Obj.cells #[Value.int .i64 0, Value.int .i64 0] 24)).frozen? ⟨X2.heap.size, 1, none⟩ = false := by simp [go_sem]
        have nh : X2.heap.size < (X2.alloc (Obj.cells #[Value.int .i64 0, Value.int .i64 0] 24)).heap.size := by simp
        refine hK.out _ _ hS (fun _ => ?_)
        clear hK K hb
        generalize X2.alloc (Obj.cells #[Value.int .i64 0, Value.int .i64 0] 24) = X7 at *
        try simp only [Act.put, List.setIfInBounds_toArray, List.set_cons_zero, List.set_cons_succ]
        refine wpAnyH_ready (rs := [8]) (by kernel_rfl) (by simp) ?_
        refine AllReadyH.cons rfl (fun K hK => ?_) AllReadyH.nil
        go_simp
        have hb := (Below.refl X7.heap.size X7).alloc (Nat.le_refl _) (Obj.cells #[Value.int .i64 0, Value.int .i64 0] 24)
        have bl : w.heap.size + 1 < X7.heap.size := hS.2.2.2.1
        have dhl : X2.heap.size < X7.heap.size := nh
        replace h0 := cell_next hb nh h0
        replace fh0 := frozen_next hb nh fh0
        replace h1 := cell_next hb nh h1
        replace fh1 := frozen_next hb nh fh1
        replace nh := Nat.lt_of_lt_of_le nh hb.size
        replace hS := keep2 hb (Nat.le_succ _) hS
        have l0 : (X7.alloc (Obj.cells #[Value.int .i64 0, Value.int .i64 0] 24)).cell? ⟨X7.heap.size, 0, none⟩ = some (Value.int .i64 0) := cell_new _ _ _ 0
        have fl0 : (X7.alloc (Obj.cells #[Value.int .i64 0, Value.int .i64 0] 24)).frozen? ⟨X7.heap.size, 0, none⟩ = false := by simp [go_sem]
        have l1 : (X7.alloc (Obj.cells #[Value.int .i64 0, Value.int .i64 0] 24)).cell? ⟨X7.heap.size, 1, none⟩ = some (Value.int .i64 0) := cell_new _ _ _ 1
        have fl1 : (X7.alloc (Obj.cells #[Value.int .i64 0, Value.int .i64 0] 24)).frozen? ⟨X7.heap.size, 1, none⟩ = false := by simp [go_sem]
        have nl : X7.heap.size < (X7.alloc (Obj.cells #[Value.int .i64 0, Value.int .i64 0] 24)).heap.size := by simp
        refine hK.out _ _ hS (fun _ => ?_)
        clear hK K hb
        generalize X7.alloc (Obj.cells #[Value.int .i64 0, Value.int .i64 0] 24) = X8 at *
        try simp only [Act.put, List.setIfInBounds_toArray, List.set_cons_zero, List.set_cons_succ]
        refine wpAnyH_ready (rs := [10]) (by kernel_rfl) (by simp) ?_
        refine AllReadyH.cons rfl (fun K hK => ?_) AllReadyH.nil
        go_simp
        replace hS := keep2_far (u := .int .i64 va.1) (v := .int .i64 va.2) (by omega : _ < X7.heap.size) (by omega) (by omega) hS
        refine hK.out _ _ hS (fun _ => ?_)
        clear hK K
        replace h0 := set2_far (b := X7.heap.size) (.int .i64 va.1) (.int .i64 va.2) (by omega) h0
        replace fh0 := frozen_far (b := X7.heap.size) (.int .i64 va.1) (.int .i64 va.2) fh0
        replace h1 := set2_far (b := X7.heap.size) (.int .i64 va.1) (.int .i64 va.2) (by omega) h1
        replace fh1 := frozen_far (b := X7.heap.size) (.int .i64 va.1) (.int .i64 va.2) fh1
        obtain ⟨l0, l1⟩ := set2 (.int .i64 va.1) (.int .i64 va.2) l0 l1
        replace fl0 := frozen_far (b := X7.heap.size) (.int .i64 va.1) (.int .i64 va.2) fl0
        replace fl1 := frozen_far (b := X7.heap.size) (.int .i64 va.1) (.int .i64 va.2) fl1
        replace nh := size_far (b := X7.heap.size) (.int .i64 va.1) (.int .i64 va.2) nh
        replace nl := size_far (b := X7.heap.size) (.int .i64 va.1) (.int .i64 va.2) nl
        generalize ((X8.setCell ⟨X7.heap.size, 0, none⟩ (.int .i64 va.1)).setCell ⟨X7.heap.size, 1, none⟩ (.int .i64 va.2)) = X9 at *
        try simp only [Act.put, List.setIfInBounds_toArray, List.set_cons_zero, List.set_cons_succ]
        refine wpAnyH_ready (rs := [11]) (by kernel_rfl) (by simp) ?_
        refine AllReadyH.cons rfl (fun K hK => ?_) AllReadyH.nil
        go_simp
        replace hS := keep2_far (u := .int .i64 vb.1) (v := .int .i64 vb.2) (by omega : _ < X2.heap.size) (by omega) (by omega) hS
        refine hK.out _ _ hS (fun _ => ?_)
        clear hK K
        replace l0 := set2_far (b := X2.heap.size) (.int .i64 vb.1) (.int .i64 vb.2) (by omega) l0
        replace fl0 := frozen_far (b := X2.heap.size) (.int .i64 vb.1) (.int .i64 vb.2) fl0
        replace l1 := set2_far (b := X2.heap.size) (.int .i64 vb.1) (.int .i64 vb.2) (by omega) l1
        replace fl1 := frozen_far (b := X2.heap.size) (.int .i64 vb.1) (.int .i64 vb.2) fl1
        obtain ⟨h0, h1⟩ := set2 (.int .i64 vb.1) (.int .i64 vb.2) h0 h1
        replace fh0 := frozen_far (b := X2.heap.size) (.int .i64 vb.1) (.int .i64 vb.2) fh0
        replace fh1 := frozen_far (b := X2.heap.size) (.int .i64 vb.1) (.int .i64 vb.2) fh1
        replace nh := size_far (b := X2.heap.size) (.int .i64 vb.1) (.int .i64 vb.2) nh
        replace nl := size_far (b := X2.heap.size) (.int .i64 vb.1) (.int .i64 vb.2) nl
        generalize ((X9.setCell ⟨X2.heap.size, 0, none⟩ (.int .i64 vb.1)).setCell ⟨X2.heap.size, 1, none⟩ (.int .i64 vb.2)) = X10 at *
        try simp only [Act.put, List.setIfInBounds_toArray, List.set_cons_zero, List.set_cons_succ]
        refine wpAnyH_done (by kernel_rfl) ?_ _
        go_wp2_with fail
        go_meet
        exact ⟨_, _, rfl, rfl, nl, nh, l0, l1, h0, h1, hS⟩
      refine AllReadyH.cons rfl (fun K hK => ?_) ?_
      · go_simp
        have hb := (Below.refl X1.heap.size X1).alloc (Nat.le_refl _) (Obj.cells #[Value.int .i64 0, Value.int .i64 0] 24)
        have bl : w.heap.size + 1 < X1.heap.size := hS.2.2.2.1
        replace hS := keep2 hb (Nat.le_succ _) hS
        have l0 : (X1.alloc (Obj.cells #[Value.int .i64 0, Value.int .i64 0] 24)).cell? ⟨X1.heap.size, 0, none⟩ = some (Value.int .i64 0) := cell_new _ _ _ 0
        have fl0 : (X1.alloc (Obj.cells #[Value.int .i64 0, Value.int .i64 0] 24)).frozen? ⟨X1.heap.size, 0, none⟩ = false := by simp [go_sem]
        have l1 : (X1.alloc (Obj.cells #[Value.int .i64 0, Value.int .i64 0] 24)).cell? ⟨X1.heap.size, 1, none⟩ = some (Value.int .i64 0) := cell_new _ _ _ 1
        have fl1 : (X1.alloc (Obj.cells #[Value.int .i64 0, Value.int .i64 0] 24)).frozen? ⟨X1.heap.size, 1, none⟩ = false := by simp [go_sem]
        have nl : X1.heap.size < (X1.alloc (Obj.cells #[Value.int .i64 0, Value.int .i64 0] 24)).heap.size := by simp
        refine hK.out _ _ hS (fun _ => ?_)
        clear hK K hb
        generalize X1.alloc (Obj.cells #[Value.int .i64 0, Value.int .i64 0] 24) = X11 at *
        try simp only [Act.put, List.setIfInBounds_toArray, List.set_cons_zero, List.set_cons_succ]
        refine wpAnyH_ready (rs := [7, 9]) (by kernel_rfl) (by simp) ?_
        refine AllReadyH.cons rfl (fun K hK => ?_) ?_
        · go_simp
          refine (d4'.out _ hS).mono ?_
          rintro e X12 ⟨rfl, hb⟩
          replace hS := keep2 hb (Nat.le_succ _) hS
          replace l0 := cell_next hb nl l0
          replace fl0 := frozen_next hb nl fl0
          replace l1 := cell_next hb nl l1
          replace fl1 := frozen_next hb nl fl1
          replace nl := Nat.lt_of_lt_of_le nl hb.size
          refine hK.out _ _ hS (fun _ => ?_)
          clear hK K hb
          try simp only [Act.put, List.setIfInBounds_toArray, List.set_cons_zero, List.set_cons_succ]
          refine wpAnyH_ready (rs := [9]) (by kernel_rfl) (by simp) ?_
          refine AllReadyH.cons rfl (fun K hK => ?_) AllReadyH.nil
          go_simp
          have hb := (Below.refl X12.heap.size X12).alloc (Nat.le_refl _) (Obj.cells #[Value.int .i64 0, Value.int .i64 0] 24)
          have bh : w.heap.size + 1 < X12.heap.size := hS.2.2.2.1
          have dlh : X1.heap.size < X12.heap.size := nl
          replace l0 := cell_next hb nl l0
          replace fl0 := frozen_next hb nl fl0
          replace l1 := cell_next hb nl l1
          replace fl1 := frozen_next hb nl fl1
          replace nl := Nat.lt_of_lt_of_le nl hb.size
          replace hS := keep2 hb (Nat.le_succ _) hS
          have h0 : (X12.alloc (Obj.cells #[Value.int .i64 0, Value.int .i64 0] 24)).cell? ⟨X12.heap.size, 0, none⟩ = some (Value.int .i64 0) := cell_new _ _ _ 0
          have fh0 : (X12.alloc (Obj.cells #[Value.int .i64 0, Value.int .i64 0] 24)).frozen? ⟨X12.heap.size, 0, none⟩ = false := by simp [go_sem]
          have h1 : (X12.alloc (Obj.cells #[Value.int .i64 0, Value.int .i64 0] 24)).cell? ⟨X12.heap.size, 1, none⟩ = some (Value.int .i64 0) := cell_new _ _ _ 1
          have fh1 : (X12.alloc (Obj.cells #[Value.int .i64 0, Value.int .i64 0] 24)).frozen? ⟨X12.heap.size, 1, none⟩ = false := by simp [go_sem]
          have nh : X12.heap.size < (X12.alloc (Obj.cells #[Value.int .i64 0, Value.int .i64 0] 24)).heap.size := by simp
          refine hK.out _ _ hS (fun _ => ?_)
          clear hK K hb
          generalize X12.alloc (Obj.cells #[Value.int .i64 0, Value.int .i64 0] 24) = X13 at *
          try simp only [Act.put, List.setIfInBounds_toArray, List.set_cons_zero, List.set_cons_succ]
          refine wpAnyH_ready (rs := [10]) (by kernel_rfl) (by simp) ?_
          refine AllReadyH.cons rfl (fun K hK => ?_) AllReadyH.nil
          go_simp
          replace hS := keep2_far (u := .int .i64 va.1) (v := .int .i64 va.2) (by omega : _ < X1.heap.size) (by omega) (by omega) hS
          refine hK.out _ _ hS (fun _ => ?_)
          clear hK K
          replace h0 := set2_far (b := X1.heap.size) (.int .i64 va.1) (.int .i64 va.2) (by omega) h0
          replace fh0 := frozen_far (b := X1.heap.size) (.int .i64 va.1) (.int .i64 va.2) fh0
          replace h1 := set2_far (b := X1.heap.size) (.int .i64 va.1) (.int .i64 va.2) (by omega) h1
          replace fh1 := frozen_far (b := X1.heap.size) (.int .i64 va.1) (.int .i64 va.2) fh1
          obtain ⟨l0, l1⟩ := set2 (.int .i64 va.1) (.int .i64 va.2) l0 l1
          replace fl0 := frozen_far (b := X1.heap.size) (.int .i64 va.1) (.int .i64 va.2) fl0
          replace fl1 := frozen_far (b := X1.heap.size) (.int .i64 va.1) (.int .i64 va.2) fl1
          replace nl := size_far (b := X1.heap.size) (.int .i64 va.1) (.int .i64 va.2) nl
          replace nh := size_far (b := X1.heap.size) (.int .i64 va.1) (.int .i64 va.2) nh
          generalize ((X13.setCell ⟨X1.heap.size, 0, none⟩ (.int .i64 va.1)).setCell ⟨X1.heap.size, 1, none⟩ (.int .i64 va.2)) = X14 at *
          try simp only [Act.put, List.setIfInBounds_toArray, List.set_cons_zero, List.set_cons_succ]
          refine wpAnyH_ready (rs := [11]) (by kernel_rfl) (by simp) ?_
          refine AllReadyH.cons rfl (fun K hK => ?_) AllReadyH.nil
          go_simp
          replace hS := keep2_far (u := .int .i64 vb.1) (v := .int .i64 vb.2) (by omega : _ < X12.heap.size) (by omega) (by omega) hS
          refine hK.out _ _ hS (fun _ => ?_)
          clear hK K
          replace l0 := set2_far (b := X12.heap.size) (.int .i64 vb.1) (.int .i64 vb.2) (by omega) l0
          replace fl0 := frozen_far (b := X12.heap.size) (.int .i64 vb.1) (.int .i64 vb.2) fl0
          replace l1 := set2_far (b := X12.heap.size) (.int .i64 vb.1) (.int .i64 vb.2) (by omega) l1
          replace fl1 := frozen_far (b := X12.heap.size) (.int .i64 vb.1) (.int .i64 vb.2) fl1
          obtain ⟨h0, h1⟩ := set2 (.int .i64 vb.1) (.int .i64 vb.2) h0 h1
          replace fh0 := frozen_far (b := X12.heap.size) (.int .i64 vb.1) (.int .i64 vb.2) fh0
          replace fh1 := frozen_far (b := X12.heap.size) (.int .i64 vb.1) (.int .i64 vb.2) fh1
          replace nl := size_far (b := X12.heap.size) (.int .i64 vb.1) (.int .i64 vb.2) nl
          replace nh := size_far (b := X12.heap.size) (.int .i64 vb.1) (.int .i64 vb.2) nh
          generalize ((X14.setCell ⟨X12.heap.size, 0, none⟩ (.int .i64 vb.1)).setCell ⟨X12.heap.size, 1, none⟩ (.int .i64 vb.2)) = X15 at *
          try simp only [Act.put, List.setIfInBounds_toArray, List.set_cons_zero, List.set_cons_succ]
          refine wpAnyH_done (by kernel_rfl) ?_ _
          go_wp2_with fail
          go_meet
          exact ⟨_, _, rfl, rfl, nl, nh, l0, l1, h0, h1, hS⟩
        refine AllReadyH.cons rfl (fun K hK => ?_) AllReadyH.nil
        go_simp
        have hb := (Below.refl X11.heap.size X11).alloc (Nat.le_refl _) (Obj.cells #[Value.int .i64 0, Value.int .i64 0] 24)
        have bh : w.heap.size + 1 < X11.heap.size := hS.2.2.2.1
        have dlh : X1.heap.size < X11.heap.size := nl
        replace l0 := cell_next hb nl l0
        replace fl0 := frozen_next hb nl fl0
        replace l1 := cell_next hb nl l1
        replace fl1 := frozen_next hb nl fl1
        replace nl := Nat.lt_of_lt_of_le nl hb.size
        replace hS := keep2 hb (Nat.le_succ _) hS
        have h0 : (X11.alloc (Obj.cells #[Value.int .i64 0, Value.int .i64 0] 24)).cell? ⟨X11.heap.size, 0, none⟩ = some (Value.int .i64 0) := cell_new _ _ _ 0
        have fh0 : (X11.alloc (Obj.cells #[Value.int .i64 0, Value.int .i64 0] 24)).frozen? ⟨X11.heap.size, 0, none⟩ = false := by simp [go_sem]
        have h1 : (X11.alloc (Obj.cells #[Value.int .i64 0, Value.int .i64 0] 24)).cell? ⟨X11.heap.size, 1, none⟩ = some (Value.int .i64 0) := cell_new _ _ _ 1
        have fh1 : (X11.alloc (Obj.cells #[Value.int .i64 0, Value.int .i64 0] 24)).frozen? ⟨X11.heap.size, 1, none⟩ = false := by simp [go_sem]
        have nh : X11.heap.size < (X11.alloc (Obj.cells #[Value.int .i64 0, Value.int .i64 0] 24)).heap.size := by simp
        refine hK.out _ _ hS (fun _ => ?_)
        clear hK K hb
        generalize X11.alloc (Obj.cells #[Value.int .i64 0, Value.int .i64 0] 24) = X16 at *
        try simp only [Act.put, List.setIfInBounds_toArray, List.set_cons_zero, List.set_cons_succ]
        refine wpAnyH_ready (rs := [7]) (by kernel_rfl) (by simp) ?_
        refine AllReadyH.cons rfl (fun K hK => ?_) AllReadyH.nil
        go_simp
        refine (d4'.out _ hS).mono ?_
        rintro e X17 ⟨rfl, hb⟩
        replace hS := keep2 hb (Nat.le_succ _) hS
        replace l0 := cell_next hb nl l0
        replace fl0 := frozen_next hb nl fl0
        replace l1 := cell_next hb nl l1
        replace fl1 := frozen_next hb nl fl1
        replace nl := Nat.lt_of_lt_of_le nl hb.size
        replace h0 := cell_next hb nh h0
        replace fh0 := frozen_next hb nh fh0
        replace h1 := cell_next hb nh h1
        replace fh1 := frozen_next hb nh fh1
        replace nh := Nat.lt_of_lt_of_le nh hb.size
        refine hK.out _ _ hS (fun _ => ?_)
        clear hK K hb
        try simp only [Act.put, List.setIfInBounds_toArray, List.set_cons_zero, List.set_cons_succ]
        refine wpAnyH_ready (rs := [10]) (by kernel_rfl) (by simp) ?_
        refine AllReadyH.cons rfl (fun K hK => ?_) AllReadyH.nil
        go_simp
        replace hS := keep2_far (u := .int .i64 va.1) (v := .int .i64 va.2) (by omega : _ < X1.heap.size) (by omega) (by omega) hS
        refine hK.out _ _ hS (fun _ => ?_)
        clear hK K
        replace h0 := set2_far (b := X1.heap.size) (.int .i64 va.1) (.int .i64 va.2) (by omega) h0
        replace fh0 := frozen_far (b := X1.heap.size) (.int .i64 va.1) (.int .i64 va.2) fh0
        replace h1 := set2_far (b := X1.heap.size) (.int .i64 va.1) (.int .i64 va.2) (by omega) h1
        replace fh1 := frozen_far (b := X1.heap.size) (.int .i64 va.1) (.int .i64 va.2) fh1
        obtain ⟨l0, l1⟩ := set2 (.int .i64 va.1) (.int .i64 va.2) l0 l1
        replace fl0 := frozen_far (b := X1.heap.size) (.int .i64 va.1) (.int .i64 va.2) fl0
        replace fl1 := frozen_far (b := X1.heap.size) (.int .i64 va.1) (.int .i64 va.2) fl1
        replace nl := size_far (b := X1.heap.size) (.int .i64 va.1) (.int .i64 va.2) nl
        replace nh := size_far (b := X1.heap.size) (.int .i64 va.1) (.int .i64 va.2) nh
        generalize ((X17.setCell ⟨X1.heap.size, 0, none⟩ (.int .i64 va.1)).setCell ⟨X1.heap.size, 1, none⟩ (.int .i64 va.2)) = X18 at *
        try simp only [Act.put, List.setIfInBounds_toArray, List.set_cons_zero, List.set_cons_succ]
        refine wpAnyH_ready (rs := [11]) (by kernel_rfl) (by simp) ?_
        refine AllReadyH.cons rfl (fun K hK => ?_) AllReadyH.nil
        go_simp
        replace hS := keep2_far (u := .int .i64 vb.1) (v := .int .i64 vb.2) (by omega : _ < X11.heap.size) (by omega) (by omega) hS
        refine hK.out _ _ hS (fun _ => ?_)
        clear hK K
        replace l0 := set2_far (b := X11.heap.size) (.int .i64 vb.1) (.int .i64 vb.2) (by omega) l0
        replace fl0 := frozen_far (b := X11.heap.size) (.int .i64 vb.1) (.int .i64 vb.2) fl0
        replace l1 := set2_far (b := X11.heap.size) (.int .i64 vb.1) (.int .i64 vb.2) (by omega) l1
        replace fl1 := frozen_far (b := X11.heap.size) (.int .i64 vb.1) (.int .i64 vb.2) fl1
        obtain ⟨h0, h1⟩ := set2 (.int .i64 vb.1) (.int .i64 vb.2) h0 h1
        replace fh0 := frozen_far (b := X11.heap.size) (.int .i64 vb.1) (.int .i64 vb.2) fh0
        replace fh1 := frozen_far (b := X11.heap.size) (.int .i64 vb.1) (.int .i64 vb.2) fh1
        replace nl := size_far (b := X11.heap.size) (.int .i64 vb.1) (.int .i64 vb.2) nl
        replace nh := size_far (b := X11.heap.size) (.int .i64 vb.1) (.int .i64 vb.2) nh
        generalize ((X18.setCell ⟨X11.heap.size, 0, none⟩ (.int .i64 vb.1)).setCell ⟨X11.heap.size, 1, none⟩ (.int .i64 vb.2)) = X19 at *
        try simp only [Act.put, List.setIfInBounds_toArray, List.set_cons_zero, List.set_cons_succ]
        refine wpAnyH_done (by kernel_rfl) ?_ _
        go_wp2_with fail
        go_meet
        exact ⟨_, _, rfl, rfl, nl, nh, l0, l1, h0, h1, hS⟩
      refine AllReadyH.cons rfl (fun K hK => ?_) AllReadyH.nil
      go_simp
      have hb := (Below.refl X1.heap.size X1).alloc (Nat.le_refl _) (Obj.cells #[Value.int .i64 0, Value.int .i64 0] 24)
      have bh : w.heap.size + 1 < X1.heap.size := hS.2.2.2.1
      replace hS := keep2 hb (Nat.le_succ _) hS
      have h0 : (X1.alloc (Obj.cells #[Value.int .i64 0, Value.int .i64 0] 24)).cell? ⟨X1.heap.size, 0, none⟩ = some (Value.int .i64 0) := cell_new _ _ _ 0
      have fh0 : (X1.alloc (Obj.cells #[Value.int .i64 0, Value.int .i64 0] 24)).frozen? ⟨X1.heap.size, 0, none⟩ = false := by simp [go_sem]
      have h1 : (X1.alloc (Obj.cells #[Value.int .i64 0, Value.int .i64 0] 24)).cell? ⟨X1.heap.size, 1, none⟩ = some (Value.int .i64 0) := cell_new _ _ _ 1
      have fh1 : (X1.alloc (Obj.cells #[Value.int .i64 0, Value.int .i64 0] 24)).frozen? ⟨X1.heap.size, 1, none⟩ = false := by simp [go_sem]
      have nh : X1.heap.size < (X1.alloc (Obj.cells #[Value.int .i64 0, Value.int .i64 0] 24)).heap.size := by simp
      refine hK.out _ _ hS (fun _ => ?_)
      clear hK K hb
      generalize X1.alloc (Obj.cells #[Value.int .i64 0, Value.int .i64 0] 24) = X20 at *
      try simp only [Act.put, List.setIfInBounds_toArray, List.set_cons_zero, List.set_cons_succ]
      refine wpAnyH_ready (rs := [7, 8]) (by kernel_rfl) (by simp) ?_
      refine AllReadyH.cons rfl (fun K hK => ?_) ?_
      · go_simp
        refine (d4'.out _ hS).mono ?_
        rintro e X21 ⟨rfl, hb⟩
        replace hS := keep2 hb (Nat.le_succ _) hS
        replace h0 := cell_next hb nh h0
        replace fh0 := frozen_next hb nh fh0
        replace h1 := cell_next hb nh h1
        replace fh1 := frozen_next hb nh fh1
        replace nh := Nat.lt_of_lt_of_le nh hb.size
        refine hK.out _ _ hS (fun _ => ?_)
        clear hK K hb
        try simp only [Act.put, List.setIfInBounds_toArray, List.set_cons_zero, List.set_cons_succ]
        refine wpAnyH_ready (rs := [8]) (by kernel_rfl) (by simp) ?_
        refine AllReadyH.cons rfl (fun K hK => ?_) AllReadyH.nil
        go_simp
        have hb := (Below.refl X21.heap.size X21).alloc (Nat.le_refl _) (Obj.cells #[Value.int .i64 0, Value.int .i64 0] 24)
        have bl : w.heap.size + 1 < X21.heap.size := hS.2.2.2.1
        have dhl : X1.heap.size < X21.heap.size := nh
        replace h0 := cell_next hb nh h0
        replace fh0 := frozen_next hb nh fh0
        replace h1 := cell_next hb nh h1
        replace fh1 := frozen_next hb nh fh1
        replace nh := Nat.lt_of_lt_of_le nh hb.size
        replace hS := keep2 hb (Nat.le_succ _) hS
        have l0 : (X21.alloc (Obj.cells #[Value.int .i64 0, Value.int .i64 0] 24)).cell? ⟨X21.heap.size, 0, none⟩ = some (Value.int .i64 0) := cell_new _ _ _ 0
        have fl0 : (X21.alloc (Obj.cells #[Value.int .i64 0, Value.int .i64 0] 24)).frozen? ⟨X21.heap.size, 0, none⟩ = false := by simp [go_sem]
        have l1 : (X21.alloc (Obj.cells #[Value.int .i64 0, Value.int .i64 0] 24)).cell? ⟨X21.heap.size, 1, none⟩ = some (Value.int .i64 0) := cell_new _ _ _ 1
        have fl1 : (X21.alloc (Obj.cells #[Value.int .i64 0, Value.int .i64 0] 24)).frozen? ⟨X21.heap.size, 1, none⟩ = false := by simp [go_sem]
        have nl : X21.heap.size < (X21.alloc (Obj.cells #[Value.int .i64 0, Value.int .i64 0] 24)).heap.size := by simp
        refine hK.out _ _ hS (fun _ => ?_)
        clear hK K hb
        generalize X21.alloc (Obj.cells #[Value.int .i64 0, Value.int .i64 0] 24) = X22 at *
        try simp only [Act.put, List.setIfInBounds_toArray, List.set_cons_zero, List.set_cons_succ]
        refine wpAnyH_ready (rs := [10]) (by kernel_rfl) (by simp) ?_
        refine AllReadyH.cons rfl (fun K hK => ?_) AllReadyH.nil
        go_simp
        replace hS := keep2_far (u := .int .i64 va.1) (v := .int .i64 va.2) (by omega : _ < X21.heap.size) (by omega) (by omega) hS
        refine hK.out _ _ hS (fun _ => ?_)
        clear hK K
        replace h0 := set2_far (b := X21.heap.size) (.int .i64 va.1) (.int .i64 va.2) (by omega) h0
        replace fh0 := frozen_far (b := X21.heap.size) (.int .i64 va.1) (.int .i64 va.2) fh0
        replace h1 := set2_far (b := X21.heap.size) (.int .i64 va.1) (.int .i64 va.2) (by omega) h1
        replace fh1 := frozen_far (b := X21.heap.size) (.int .i64 va.1) (.int .i64 va.2) fh1
        obtain ⟨l0, l1⟩ := set2 (.int .i64 va.1) (.int .i64 va.2) l0 l1
        replace fl0 := frozen_far (b := X21.heap.size) (.int .i64 va.1) (.int .i64 va.2) fl0
        replace fl1 := frozen_far (b := X21.heap.size) (.int .i64 va.1) (.int .i64 va.2) fl1
        replace nh := size_far (b := X21.heap.size) (.int .i64 va.1) (.int .i64 va.2) nh
        replace nl := size_far (b := X21.heap.size) (.int .i64 va.1) (.int .i64 va.2) nl
        generalize ((X22.setCell ⟨X21.heap.size, 0, none⟩ (.int .i64 va.1)).setCell ⟨X21.heap.size, 1, none⟩ (.int .i64 va.2)) = X23 at *
        try simp only [Act.put, List.setIfInBounds_toArray, List.set_cons_zero, List.set_cons_succ]
        refine wpAnyH_ready (rs := [11]) (by kernel_rfl) (by simp) ?_
        refine AllReadyH.cons rfl (fun K hK => ?_) AllReadyH.nil
        go_simp
        replace hS := keep2_far (u := .int .i64 vb.1) (v := .int .i64 vb.2) (by omega : _ < X1.heap.size) (by omega) (by omega) hS
        refine hK.out _ _ hS (fun _ => ?_)
        clear hK K
        replace l0 := set2_far (b := X1.heap.size) (.int .i64 vb.1) (.int .i64 vb.2) (by omega) l0
        replace fl0 := frozen_far (b := X1.heap.size) (.int .i64 vb.1) (.int .i64 vb.2) fl0
        replace l1 := set2_far (b := X1.heap.size) (.int .i64 vb.1) (.int .i64 vb.2) (by omega) l1
        replace fl1 := frozen_far (b := X1.heap.size) (.int .i64 vb.1) (.int .i64 vb.2) fl1
        obtain ⟨h0, h1⟩ := set2 (.int .i64 vb.1) (.int .i64 vb.2) h0 h1
        replace fh0 := frozen_far (b := X1.heap.size) (.int .i64 vb.1) (.int .i64 vb.2) fh0
        replace fh1 := frozen_far (b := X1.heap.size) (.int .i64 vb.1) (.int .i64 vb.2) fh1
        replace nh := size_far (b := X1.heap.size) (.int .i64 vb.1) (.int .i64 vb.2) nh
        replace nl := size_far (b := X1.heap.size) (.int .i64 vb.1) (.int .i64 vb.2) nl
        generalize ((X23.setCell ⟨X1.heap.size, 0, none⟩ (.int .i64 vb.1)).setCell ⟨X1.heap.size, 1, none⟩ (.int .i64 vb.2)) = X24 at *
        try simp only [Act.put, List.setIfInBounds_toArray, List.set_cons_zero, List.set_cons_succ]
        refine wpAnyH_done (by kernel_rfl) ?_ _
        go_wp2_with fail
        go_meet
        exact ⟨_, _, rfl, rfl, nl, nh, l0, l1, h0, h1, hS⟩
      refine AllReadyH.cons rfl (fun K hK => ?_) AllReadyH.nil
      go_simp
      have hb := (Below.refl X20.heap.size X20).alloc (Nat.le_refl _) (Obj.cells #[Value.int .i64 0, Value.int .i64 0] 24)
      have bl : w.heap.size + 1 < X20.heap.size := hS.2.2.2.1
      have dhl : X1.heap.size < X20.heap.size := nh
      replace h0 := cell_next hb nh h0
      replace fh0 := frozen_next hb nh fh0
      replace h1 := cell_next hb nh h1
      replace fh1 := frozen_next hb nh fh1
      replace nh := Nat.lt_of_lt_of_le nh hb.size
      replace hS := keep2 hb (Nat.le_succ _) hS
      have l0 : (X20.alloc (Obj.cells #[Value.int .i64 0, Value.int .i64 0] 24)).cell? ⟨X20.heap.size, 0, none⟩ = some (Value.int .i64 0) := cell_new _ _ _ 0
      have fl0 : (X20.alloc (Obj.cells #[Value.int .i64 0, Value.int .i64 0] 24)).frozen? ⟨X20.heap.size, 0, none⟩ = false := by simp [go_sem]
      have l1 : (X20.alloc (Obj.cells #[Value.int .i64 0, Value.int .i64 0] 24)).cell? ⟨X20.heap.size, 1, none⟩ = some (Value.int .i64 0) := cell_new _ _ _ 1
      have fl1 : (X20.alloc (Obj.cells #[Value.int .i64 0, Value.int .i64 0] 24)).frozen? ⟨X20.heap.size, 1, none⟩ = false := by simp [go_sem]
      have nl : X20.heap.size < (X20.alloc (Obj.cells #[Value.int .i64 0, Value.int .i64 0] 24)).heap.size := by simp
      refine hK.out _ _ hS (fun _ => ?_)
      clear hK K hb
      generalize X20.alloc (Obj.cells #[Value.int .i64 0, Value.int .i64 0] 24) = X25 at *
      try simp only [Act.put, List.setIfInBounds_toArray, List.set_cons_zero, List.set_cons_succ]
      refine wpAnyH_ready (rs := [7]) (by kernel_rfl) (by simp) ?_
      refine AllReadyH.cons rfl (fun K hK => ?_) AllReadyH.nil
      go_simp
      refine (d4'.out _ hS).mono ?_
      rintro e X26 ⟨rfl, hb⟩
      replace hS := keep2 hb (Nat.le_succ _) hS
      replace h0 := cell_next hb nh h0
      replace fh0 := frozen_next hb nh fh0
      replace h1 := cell_next hb nh h1
      replace fh1 := frozen_next hb nh fh1
      replace nh := Nat.lt_of_lt_of_le nh hb.size
      replace l0 := cell_next hb nl l0
      replace fl0 := frozen_next hb nl fl0
      replace l1 := cell_next hb nl l1
      replace fl1 := frozen_next hb nl fl1
      replace nl := Nat.lt_of_lt_of_le nl hb.size
      refine hK.out _ _ hS (fun _ => ?_)
      clear hK K hb
      try simp only [Act.put, List.setIfInBounds_toArray, List.set_cons_zero, List.set_cons_succ]
      refine wpAnyH_ready (rs := [10]) (by kernel_rfl) (by simp) ?_
      refine AllReadyH.cons rfl (fun K hK => ?_) AllReadyH.nil
      go_simp
      replace hS := keep2_far (u := .int .i64 va.1) (v := .int .i64 va.2) (by omega : _ < X20.heap.size) (by omega) (by omega) hS
      refine hK.out _ _ hS (fun _ => ?_)
      clear hK K
      replace h0 := set2_far (b := X20.heap.size) (.int .i64 va.1) (.int .i64 va.2) (by omega) h0
      replace fh0 := frozen_far (b := X20.heap.size) (.int .i64 va.1) (.int .i64 va.2) fh0
      replace h1 := set2_far (b := X20.heap.size) (.int .i64 va.1) (.int .i64 va.2) (by omega) h1
      replace fh1 := frozen_far (b := X20.heap.size) (.int .i64 va.1) (.int .i64 va.2) fh1
      obtain ⟨l0, l1⟩ := set2 (.int .i64 va.1) (.int .i64 va.2) l0 l1
      replace fl0 := frozen_far (b := X20.heap.size) (.int .i64 va.1) (.int .i64 va.2) fl0
      replace fl1 := frozen_far (b := X20.heap.size) (.int .i64 va.1) (.int .i64 va.2) fl1
      replace nh := size_far (b := X20.heap.size) (.int .i64 va.1) (.int .i64 va.2) nh
      replace nl := size_far (b := X20.heap.size) (.int .i64 va.1) (.int .i64 va.2) nl
      generalize ((X26.setCell ⟨X20.heap.size, 0, none⟩ (.int .i64 va.1)).setCell ⟨X20.heap.size, 1, none⟩ (.int .i64 va.2)) = X27 at *
      try simp only [Act.put, List.setIfInBounds_toArray, List.set_cons_zero, List.set_cons_succ]
      refine wpAnyH_ready (rs := [11]) (by kernel_rfl) (by simp) ?_
      refine AllReadyH.cons rfl (fun K hK => ?_) AllReadyH.nil
      go_simp
      replace hS := keep2_far (u := .int .i64 vb.1) (v := .int .i64 vb.2) (by omega : _ < X1.heap.size) (by omega) (by omega) hS
      refine hK.out _ _ hS (fun _ => ?_)
      clear hK K
      replace l0 := set2_far (b := X1.heap.size) (.int .i64 vb.1) (.int .i64 vb.2) (by omega) l0
      replace fl0 := frozen_far (b := X1.heap.size) (.int .i64 vb.1) (.int .i64 vb.2) fl0
      replace l1 := set2_far (b := X1.heap.size) (.int .i64 vb.1) (.int .i64 vb.2) (by omega) l1
      replace fl1 := frozen_far (b := X1.heap.size) (.int .i64 vb.1) (.int .i64 vb.2) fl1
      obtain ⟨h0, h1⟩ := set2 (.int .i64 vb.1) (.int .i64 vb.2) h0 h1
      replace fh0 := frozen_far (b := X1.heap.size) (.int .i64 vb.1) (.int .i64 vb.2) fh0
      replace fh1 := frozen_far (b := X1.heap.size) (.int .i64 vb.1) (.int .i64 vb.2) fh1
      replace nh := size_far (b := X1.heap.size) (.int .i64 vb.1) (.int .i64 vb.2) nh
      replace nl := size_far (b := X1.heap.size) (.int .i64 vb.1) (.int .i64 vb.2) nl
      generalize ((X27.setCell ⟨X1.heap.size, 0, none⟩ (.int .i64 vb.1)).setCell ⟨X1.heap.size, 1, none⟩ (.int .i64 vb.2)) = X28 at *
      try simp only [Act.put, List.setIfInBounds_toArray, List.set_cons_zero, List.set_cons_succ]
      refine wpAnyH_done (by kernel_rfl) ?_ _
      go_wp2_with fail
      go_meet
      exact ⟨_, _, rfl, rfl, nl, nh, l0, l1, h0, h1, hS⟩
    refine AllReadyH.cons rfl (fun K hK => ?_) ?_
    · go_simp
      have hb := (Below.refl W0.heap.size W0).alloc (Nat.le_refl _) (Obj.cells #[Value.int .i64 0, Value.int .i64 0] 24)
      have bl : w.heap.size + 1 < W0.heap.size := hS.2.2.2.1
      replace hS := keep2 hb (Nat.le_succ _) hS
      have l0 : (W0.alloc (Obj.cells #[Value.int .i64 0, Value.int .i64 0] 24)).cell? ⟨W0.heap.size, 0, none⟩ = some (Value.int .i64 0) := cell_new _ _ _ 0
      have fl0 : (W0.alloc (Obj.cells #[Value.int .i64 0, Value.int .i64 0] 24)).frozen? ⟨W0.heap.size, 0, none⟩ = false := by simp [go_sem]
      have l1 : (W0.alloc (Obj.cells #[Value.int .i64 0, Value.int .i64 0] 24)).cell? ⟨W0.heap.size, 1, none⟩ = some (Value.int .i64 0) := cell_new _ _ _ 1
      have fl1 : (W0.alloc (Obj.cells #[Value.int .i64 0, Value.int .i64 0] 24)).frozen? ⟨W0.heap.size, 1, none⟩ = false := by simp [go_sem]
      have nl : W0.heap.size < (W0.alloc (Obj.cells #[Value.int .i64 0, Value.int .i64 0] 24)).heap.size := by simp
      refine hK.out _ _ hS (fun _ => ?_)
      clear hK K hb
      generalize W0.alloc (Obj.cells #[Value.int .i64 0, Value.int .i64 0] 24) = X29 at *
      try simp only [Act.put, List.setIfInBounds_toArray, List.set_cons_zero, List.set_cons_succ]
      refine wpAnyH_ready (rs := [3, 9]) (by kernel_rfl) (by simp) ?_
      refine AllReadyH.cons rfl (fun K hK => ?_) ?_
      · go_simp
        refine (d4.out _ hS).mono ?_
        rintro e X30 ⟨rfl, hb⟩
        replace hS := keep2 hb (Nat.le_succ _) hS
        replace l0 := cell_next hb nl l0
        replace fl0 := frozen_next hb nl fl0
        replace l1 := cell_next hb nl l1
        replace fl1 := frozen_next hb nl fl1
        replace nl := Nat.lt_of_lt_of_le nl hb.size
        refine hK.out _ _ hS (fun _ => ?_)
        clear hK K hb
        try simp only [Act.put, List.setIfInBounds_toArray, List.set_cons_zero, List.set_cons_succ]
        refine wpAnyH_ready (rs := [7, 9]) (by kernel_rfl) (by simp) ?_
        refine AllReadyH.cons rfl (fun K hK => ?_) ?_
        · go_simp
          refine (d4'.out _ hS).mono ?_
          rintro e X31 ⟨rfl, hb⟩
          replace hS := keep2 hb (Nat.le_succ _) hS
          replace l0 := cell_next hb nl l0
          replace fl0 := frozen_next hb nl fl0
          replace l1 := cell_next hb nl l1
          replace fl1 := frozen_next hb nl fl1
          replace nl := Nat.lt_of_lt_of_le nl hb.size
          refine hK.out _ _ hS (fun _ => ?_)
          clear hK K hb
          try simp only [Act.put, List.setIfInBounds_toArray, List.set_cons_zero, List.set_cons_succ]
          refine wpAnyH_ready (rs := [9]) (by kernel_rfl) (by simp) ?_
          refine AllReadyH.cons rfl (fun K hK => ?_) AllReadyH.nil
          go_simp
          have hb := (Below.refl X31.heap.size X31).alloc (Nat.le_refl _) (Obj.cells #[Value.int .i64 0, Value.int .i64 0] 24)
          have bh : w.heap.size + 1 < X31.heap.size := hS.2.2.2.1
          have dlh : W0.heap.size < X31.heap.size := nl
          replace l0 := cell_next hb nl l0
          replace fl0 := frozen_next hb nl fl0
          replace l1 := cell_next hb nl l1
          replace fl1 := frozen_next hb nl fl1
          replace nl := Nat.lt_of_lt_of_le nl hb.size
          replace hS := keep2 hb (Nat.le_succ _) hS
          have h0 : (X31.alloc (Obj.cells #[Value.int .i64 0, Value.int .i64 0] 24)).cell? ⟨X31.heap.size, 0, none⟩ = some (Value.int .i64 0) := cell_new _ _ _ 0
          have fh0 : (X31.alloc (Obj.cells #[Value.int .i64 0, Value.int .i64 0] 24)).frozen? ⟨X31.heap.size, 0, none⟩ = false := by simp [go_sem]
          have h1 : (X31.alloc (Obj.cells #[Value.int .i64 0, Value.int .i64 0] 24)).cell? ⟨X31.heap.size, 1, none⟩ = some (Value.int .i64 0) := cell_new _ _ _ 1
          have fh1 : (X31.alloc (Obj.cells #[Value.int .i64 0, Value.int .i64 0] 24)).frozen? ⟨X31.heap.size, 1, none⟩ = false := by simp [go_sem]
          have nh : X31.heap.size < (X31.alloc (Obj.cells #[Value.int .i64 0, Value.int .i64 0] 24)).heap.size := by simp
          refine hK.out _ _ hS (fun _ => ?_)
          clear hK K hb
          generalize X31.alloc (Obj.cells #[Value.int .i64 0, Value.int .i64 0] 24) = X32 at *
          try simp only [Act.put, List.setIfInBounds_toArray, List.set_cons_zero, List.set_cons_succ]
          refine wpAnyH_ready (rs := [10]) (by kernel_rfl) (by simp) ?_
          refine AllReadyH.cons rfl (fun K hK => ?_) AllReadyH.nil
          go_simp
          replace hS := keep2_far (u := .int .i64 va.1) (v := .int .i64 va.2) (by omega : _ < W0.heap.size) (by omega) (by omega) hS
          refine hK.out _ _ hS (fun _ => ?_)
          clear hK K
          replace h0 := set2_far (b := W0.heap.size) (.int .i64 va.1) (.int .i64 va.2) (by omega) h0
          replace fh0 := frozen_far (b := W0.heap.size) (.int .i64 va.1) (.int .i64 va.2) fh0
          replace h1 := set2_far (b := W0.heap.size) (.int .i64 va.1) (.int .i64 va.2) (by omega) h1
          replace fh1 := frozen_far (b := W0.heap.size) (.int .i64 va.1) (.int .i64 va.2) fh1
          obtain ⟨l0, l1⟩ := set2 (.int .i64 va.1) (.int .i64 va.2) l0 l1
          replace fl0 := frozen_far (b := W0.heap.size) (.int .i64 va.1) (.int .i64 va.2) fl0
          replace fl1 := frozen_far (b := W0.heap.size) (.int .i64 va.1) (.int .i64 va.2) fl1
          replace nl := size_far (b := W0.heap.size) (.int .i64 va.1) (.int .i64 va.2) nl
          replace nh := size_far (b := W0.heap.size) (.int .i64 va.1) (.int .i64 va.2) nh
          generalize ((X32.setCell ⟨W0.heap.size, 0, none⟩ (.int .i64 va.1)).setCell ⟨W0.heap.size, 1, none⟩ (.int .i64 va.2)) = X33 at *
          try simp only [Act.put, List.setIfInBounds_toArray, List.set_cons_zero, List.set_cons_succ]
          refine wpAnyH_ready (rs := [11]) (by kernel_rfl) (by simp) ?_
          refine AllReadyH.cons rfl (fun K hK => ?_) AllReadyH.nil
          go_simp
          replace hS := keep2_far (u := .int .i64 vb.1) (v := .int .i64 vb.2) (by omega : _ < X31.heap.size) (by omega) (by omega) hS
          refine hK.out _ _ hS (fun _ => ?_)
          clear hK K
          replace l0 := set2_far (b := X31.heap.size) (.int .i64 vb.1) (.int .i64 vb.2) (by omega) l0
          replace fl0 := frozen_far (b := X31.heap.size) (.int .i64 vb.1) (.int .i64 vb.2) fl0
          replace l1 := set2_far (b := X31.heap.size) (.int .i64 vb.1) (.int .i64 vb.2) (by omega) l1
          replace fl1 := frozen_far (b := X31.heap.size) (.int .i64 vb.1) (.int .i64 vb.2) fl1
          obtain ⟨h0, h1⟩ := set2 (.int .i64 vb.1) (.int .i64 vb.2) h0 h1
          replace fh0 := frozen_far (b := X31.heap.size) (.int .i64 vb.1) (.int .i64 vb.2) fh0
          replace fh1 := frozen_far (b := X31.heap.size) (.int .i64 vb.1) (.int .i64 vb.2) fh1
          replace nl := size_far (b := X31.heap.size) (.int .i64 vb.1) (.int .i64 vb.2) nl
          replace nh := size_far (b := X31.heap.size) (.int .i64 vb.1) (.int .i64 vb.2) nh
          generalize ((X33.setCell ⟨X31.heap.size, 0, none⟩ (.int .i64 vb.1)).setCell ⟨X31.heap.size, 1, none⟩ (.int .i64 vb.2)) = X34 at *
          try simp only [Act.put, List.setIfInBounds_toArray, List.set_cons_zero, List.set_cons_succ]
          refine wpAnyH_done (by kernel_rfl) ?_ _
          go_wp2_with fail
          go_meet
          exact ⟨_, _, rfl, rfl, nl, nh, l0, l1, h0, h1, hS⟩
        refine AllReadyH.cons rfl (fun K hK => ?_) AllReadyH.nil
        go_simp
        have hb := (Below.refl X30.heap.size X30).alloc (Nat.le_refl _) (Obj.cells #[Value.int .i64 0, Value.int .i64 0] 24)
        have bh : w.heap.size + 1 < X30.heap.size := hS.2.2.2.1
        have dlh : W0.heap.size < X30.heap.size := nl
        replace l0 := cell_next hb nl l0
        replace fl0 := frozen_next hb nl fl0
        replace l1 := cell_next hb nl l1
        replace fl1 := frozen_next hb nl fl1
        replace nl := Nat.lt_of_lt_of_le nl hb.size
        replace hS := keep2 hb (Nat.le_succ _) hS
        have h0 : (X30.alloc (Obj.cells #[Value.int .i64 0, Value.int .i64 0] 24)).cell? ⟨X30.heap.size, 0, none⟩ = some (Value.int .i64 0) := cell_new _ _ _ 0
        have fh0 : (X30.alloc (Obj.cells #[Value.int .i64 0, Value.int .i64 0] 24)).frozen? ⟨X30.heap.size, 0, none⟩ = false := by simp [go_sem]
        have h1 : (X30.alloc (Obj.cells #[Value.int .i64 0, Value.int .i64 0] 24)).cell? ⟨X30.heap.size, 1, none⟩ = some (Value.int .i64 0) := cell_new _ _ _ 1
        have fh1 : (X30.alloc (Obj.cells #[Value.int .i64 0, Value.int .i64 0] 24)).frozen? ⟨X30.heap.size, 1, none⟩ = false := by simp [go_sem]
        have nh : X30.heap.size < (X30.alloc (Obj.cells #[Value.int .i64 0, Value.int .i64 0] 24)).heap.size := by simp
        refine hK.out _ _ hS (fun _ => ?_)
        clear hK K hb
        generalize X30.alloc (Obj.cells #[Value.int .i64 0, Value.int .i64 0] 24) = X35 at *
        try simp only [Act.put, List.setIfInBounds_toArray, List.set_cons_zero, List.set_cons_succ]
        refine wpAnyH_ready (rs := [7]) (by kernel_rfl) (by simp) ?_
        refine AllReadyH.cons rfl (fun K hK => ?_) AllReadyH.nil
        go_simp
        refine (d4'.out _ hS).mono ?_
        rintro e X36 ⟨rfl, hb⟩
        replace hS := keep2 hb (Nat.le_succ _) hS
        replace l0 := cell_next hb nl l0
        replace fl0 := frozen_next hb nl fl0
        replace l1 := cell_next hb nl l1
        replace fl1 := frozen_next hb nl fl1
        replace nl := Nat.lt_of_lt_of_le nl hb.size
        replace h0 := cell_next hb nh h0
        replace fh0 := frozen_next hb nh fh0
        replace h1 := cell_next hb nh h1
        replace fh1 := frozen_next hb nh fh1
        replace nh := Nat.lt_of_lt_of_le nh hb.size
        refine hK.out _ _ hS (fun _ => ?_)
        clear hK K hb
        try simp only [Act.put, List.setIfInBounds_toArray, List.set_cons_zero, List.set_cons_succ]
        refine wpAnyH_ready (rs := [10]) (by kernel_rfl) (by simp) ?_
        refine AllReadyH.cons rfl (fun K hK => ?_) AllReadyH.nil
        go_simp
        replace hS := keep2_far (u := .int .i64 va.1) (v := .int .i64 va.2) (by omega : _ < W0.heap.size) (by omega) (by omega) hS
        refine hK.out _ _ hS (fun _ => ?_)
        clear hK K
        replace h0 := set2_far (b := W0.heap.size) (.int .i64 va.1) (.int .i64 va.2) (by omega) h0
        replace fh0 := frozen_far (b := W0.heap.size) (.int .i64 va.1) (.int .i64 va.2) fh0
        replace h1 := set2_far (b := W0.heap.size) (.int .i64 va.1) (.int .i64 va.2) (by omega) h1
        replace fh1 := frozen_far (b := W0.heap.size) (.int .i64 va.1) (.int .i64 va.2) fh1
        obtain ⟨l0, l1⟩ := set2 (.int .i64 va.1) (.int .i64 va.2) l0 l1
        replace fl0 := frozen_far (b := W0.heap.size) (.int .i64 va.1) (.int .i64 va.2) fl0
        replace fl1 := frozen_far (b := W0.heap.size) (.int .i64 va.1) (.int .i64 va.2) fl1
        replace nl := size_far (b := W0.heap.size) (.int .i64 va.1) (.int .i64 va.2) nl
        replace nh := size_far (b := W0.heap.size) (.int .i64 va.1) (.int .i64 va.2) nh
        generalize ((X36.setCell ⟨W0.heap.size, 0, none⟩ (.int .i64 va.1)).setCell ⟨W0.heap.size, 1, none⟩ (.int .i64 va.2)) = X37 at *
        try simp only [Act.put, List.setIfInBounds_toArray, List.set_cons_zero, List.set_cons_succ]
        refine wpAnyH_ready (rs := [11]) (by kernel_rfl) (by simp) ?_
        refine AllReadyH.cons rfl (fun K hK => ?_) AllReadyH.nil
        go_simp
        replace hS := keep2_far (u := .int .i64 vb.1) (v := .int .i64 vb.2) (by omega : _ < X30.heap.size) (by omega) (by omega) hS
        refine hK.out _ _ hS (fun _ => ?_)
        clear hK K
        replace l0 := set2_far (b := X30.heap.size) (.int .i64 vb.1) (.int .i64 vb.2) (by omega) l0
        replace fl0 := frozen_far (b := X30.heap.size) (.int .i64 vb.1) (.int .i64 vb.2) fl0
        replace l1 := set2_far (b := X30.heap.size) (.int .i64 vb.1) (.int .i64 vb.2) (by omega) l1
        replace fl1 := frozen_far (b := X30.heap.size) (.int .i64 vb.1) (.int .i64 vb.2) fl1
        obtain ⟨h0, h1⟩ := set2 (.int .i64 vb.1) (.int .i64 vb.2) h0 h1
        replace fh0 := frozen_far (b := X30.heap.size) (.int .i64 vb.1) (.int .i64 vb.2) fh0
        replace fh1 := frozen_far (b := X30.heap.size) (.int .i64 vb.1) (.int .i64 vb.2) fh1
        replace nl := size_far (b := X30.heap.size) (.int .i64 vb.1) (.int .i64 vb.2) nl
        replace nh := size_far (b := X30.heap.size) (.int .i64 vb.1) (.int .i64 vb.2) nh
        generalize ((X37.setCell ⟨X30.heap.size, 0, none⟩ (.int .i64 vb.1)).setCell ⟨X30.heap.size, 1, none⟩ (.int .i64 vb.2)) = X38 at *
        try simp only [Act.put, List.setIfInBounds_toArray, List.set_cons_zero, List.set_cons_succ]
        refine wpAnyH_done (by kernel_rfl) ?_ _
        go_wp2_with fail
        go_meet
        exact ⟨_, _, rfl, rfl, nl, nh, l0, l1, h0, h1, hS⟩
      refine AllReadyH.cons rfl (fun K hK => ?_) AllReadyH.nil
      go_simp
      have hb := (Below.refl X29.heap.size X29).alloc (Nat.le_refl _) (Obj.cells #[Value.int .i64 0, Value.int .i64 0] 24)
      have bh : w.heap.size + 1 < X29.heap.size := hS.2.2.2.1
      have dlh : W0.heap.size < X29.heap.size := nl
      replace l0 := cell_next hb nl l0
      replace fl0 := frozen_next hb nl fl0
      replace l1 := cell_next hb nl l1
      replace fl1 := frozen_next hb nl fl1
      replace nl := Nat.lt_of_lt_of_le nl hb.size
      replace hS := keep2 hb (Nat.le_succ _) hS
      have h0 : (X29.alloc (Obj.cells #[Value.int .i64 0, Value.int .i64 0] 24)).cell? ⟨X29.heap.size, 0, none⟩ = some (Value.int .i64 0) := cell_new _ _ _ 0
      have fh0 : (X29.alloc (Obj.cells #[Value.int .i64 0, Value.int .i64 0] 24)).frozen? ⟨X29.heap.size, 0, none⟩ = false := by simp [go_sem]
      have h1 : (X29.alloc (Obj.cells #[Value.int .i64 0, Value.int .i64 0] 24)).cell? ⟨X29.heap.size, 1, none⟩ = some (Value.int .i64 0) := cell_new _ _ _ 1
      have fh1 : (X29.alloc (Obj.cells #[Value.int .i64 0, Value.int .i64 0] 24)).frozen? ⟨X29.heap.size, 1, none⟩ = false := by simp [go_sem]
      have nh : X29.heap.size < (X29.alloc (Obj.cells #[Value.int .i64 0, Value.int .i64 0] 24)).heap.size := by simp
      refine hK.out _ _ hS (fun _ => ?_)
      clear hK K hb
      generalize X29.alloc (Obj.cells #[Value.int .i64 0, Value.int .i64 0] 24) = X39 at *
      try simp only [Act.put, List.setIfInBounds_toArray, List.set_cons_zero, List.set_cons_succ]
      refine wpAnyH_ready (rs := [3]) (by kernel_rfl) (by simp) ?_
      refine AllReadyH.cons rfl (fun K hK => ?_) AllReadyH.nil
      go_simp
      refine (d4.out _ hS).mono ?_
      rintro e X40 ⟨rfl, hb⟩
      replace hS := keep2 hb (Nat.le_succ _) hS
      replace l0 := cell_next hb nl l0
      replace fl0 := frozen_next hb nl fl0
      replace l1 := cell_next hb nl l1
      replace fl1 := frozen_next hb nl fl1
      replace nl := Nat.lt_of_lt_of_le nl hb.size
      replace h0 := cell_next hb nh h0
      replace fh0 := frozen_next hb nh fh0
      replace h1 := cell_next hb nh h1
      replace fh1 := frozen_next hb nh fh1
      replace nh := Nat.lt_of_lt_of_le nh hb.size
      refine hK.out _ _ hS (fun _ => ?_)
      clear hK K hb
      try simp only [Act.put, List.setIfInBounds_toArray, List.set_cons_zero, List.set_cons_succ]
      refine wpAnyH_ready (rs := [7]) (by kernel_rfl) (by simp) ?_
      refine AllReadyH.cons rfl (fun K hK => ?_) AllReadyH.nil
      go_simp
      refine (d4'.out _ hS).mono ?_
      rintro e X41 ⟨rfl, hb⟩
      replace hS := keep2 hb (Nat.le_succ _) hS
      replace l0 := cell_next hb nl l0
      replace fl0 := frozen_next hb nl fl0
      replace l1 := cell_next hb nl l1
      replace fl1 := frozen_next hb nl fl1
      replace nl := Nat.lt_of_lt_of_le nl hb.size
      replace h0 := cell_next hb nh h0
      replace fh0 := frozen_next hb nh fh0
      replace h1 := cell_next hb nh h1
      replace fh1 := frozen_next hb nh fh1
      replace nh := Nat.lt_of_lt_of_le nh hb.size
      refine hK.out _ _ hS (fun _ => ?_)
      clear hK K hb
      try simp only [Act.put, List.setIfInBounds_toArray, List.set_cons_zero, List.set_cons_succ]
      refine wpAnyH_ready (rs := [10]) (by kernel_rfl) (by simp) ?_
      refine AllReadyH.cons rfl (fun K hK => ?_) AllReadyH.nil
      go_simp
      replace hS := keep2_far (u := .int .i64 va.1) (v := .int .i64 va.2) (by omega : _ < W0.heap.size) (by omega) (by omega) hS
      refine hK.out _ _ hS (fun _ => ?_)
      clear hK K
      replace h0 := set2_far (b := W0.heap.size) (.int .i64 va.1) (.int .i64 va.2) (by omega) h0
      replace fh0 := frozen_far (b := W0.heap.size) (.int .i64 va.1) (.int .i64 va.2) fh0
      replace h1 := set2_far (b := W0.heap.size) (.int .i64 va.1) (.int .i64 va.2) (by omega) h1
      replace fh1 := frozen_far (b := W0.heap.size) (.int .i64 va.1) (.int .i64 va.2) fh1
      obtain ⟨l0, l1⟩ := set2 (.int .i64 va.1) (.int .i64 va.2) l0 l1
      replace fl0 := frozen_far (b := W0.heap.size) (.int .i64 va.1) (.int .i64 va.2) fl0
      replace fl1 := frozen_far (b := W0.heap.size) (.int .i64 va.1) (.int .i64 va.2) fl1
      replace nl := size_far (b := W0.heap.size) (.int .i64 va.1) (.int .i64 va.2) nl
      replace nh := size_far (b := W0.heap.size) (.int .i64 va.1) (.int .i64 va.2) nh
      generalize ((X41.setCell ⟨W0.heap.size, 0, none⟩ (.int .i64 va.1)).setCell ⟨W0.heap.size, 1, none⟩ (.int .i64 va.2)) = X42 at *
      try simp only [Act.put, List.setIfInBounds_toArray, List.set_cons_zero, List.set_cons_succ]
      refine wpAnyH_ready (rs := [11]) (by kernel_rfl) (by simp) ?_
      refine AllReadyH.cons rfl (fun K hK => ?_) AllReadyH.nil
      go_simp
      replace hS := keep2_far (u := .int .i64 vb.1) (v := .int .i64 vb.2) (by omega : _ < X29.heap.size) (by omega) (by omega) hS
      refine hK.out _ _ hS (fun _ => ?_)
      clear hK K
      replace l0 := set2_far (b := X29.heap.size) (.int .i64 vb.1) (.int .i64 vb.2) (by omega) l0
      replace fl0 := frozen_far (b := X29.heap.size) (.int .i64 vb.1) (.int .i64 vb.2) fl0
      replace l1 := set2_far (b := X29.heap.size) (.int .i64 vb.1) (.int .i64 vb.2) (by omega) l1
      replace fl1 := frozen_far (b := X29.heap.size) (.int .i64 vb.1) (.int .i64 vb.2) fl1
      obtain ⟨h0, h1⟩ := set2 (.int .i64 vb.1) (.int .i64 vb.2) h0 h1
      replace fh0 := frozen_far (b := X29.heap.size) (.int .i64 vb.1) (.int .i64 vb.2) fh0
      replace fh1 := frozen_far (b := X29.heap.size) (.int .i64 vb.1) (.int .i64 vb.2) fh1
      replace nl := size_far (b := X29.heap.size) (.int .i64 vb.1) (.int .i64 vb.2) nl
      replace nh := size_far (b := X29.heap.size) (.int .i64 vb.1) (.int .i64 vb.2) nh
      generalize ((X42.setCell ⟨X29.heap.size, 0, none⟩ (.int .i64 vb.1)).setCell ⟨X29.heap.size, 1, none⟩ (.int .i64 vb.2)) = X43 at *
      try simp only [Act.put, List.setIfInBounds_toArray, List.set_cons_zero, List.set_cons_succ]
      refine wpAnyH_done (by kernel_rfl) ?_ _
      go_wp2_with fail
      go_meet
      exact ⟨_, _, rfl, rfl, nl, nh, l0, l1, h0, h1, hS⟩
    refine AllReadyH.cons rfl (fun K hK => ?_) AllReadyH.nil
    go_simp
    have hb := (Below.refl W0.heap.size W0).alloc (Nat.le_refl _) (Obj.cells #[Value.int .i64 0, Value.int .i64 0] 24)
    have bh : w.heap.size + 1 < W0.heap.size := hS.2.2.2.1
    replace hS := keep2 hb (Nat.le_succ _) hS
    have h0 : (W0.alloc (Obj.cells #[Value.int .i64 0, Value.int .i64 0] 24)).cell? ⟨W0.heap.size, 0, none⟩ = some (Value.int .i64 0) := cell_new _ _ _ 0
    have fh0 : (W0.alloc (Obj.cells #[Value.int .i64 0, Value.int .i64 0] 24)).frozen? ⟨W0.heap.size, 0, none⟩ = false := by simp [go_sem]
    have h1 : (W0.alloc (Obj.cells #[Value.int .i64 0, Value.int .i64 0] 24)).cell? ⟨W0.heap.size, 1, none⟩ = some (Value.int .i64 0) := cell_new _ _ _ 1
    have fh1 : (W0.alloc (Obj.cells #[Value.int .i64 0, Value.int .i64 0] 24)).frozen? ⟨W0.heap.size, 1, none⟩ = false := by simp [go_sem]
    have nh : W0.heap.size < (W0.alloc (Obj.cells #[Value.int .i64 0, Value.int .i64 0] 24)).heap.size := by simp
    refine hK.out _ _ hS (fun _ => ?_)
    clear hK K hb
    generalize W0.alloc (Obj.cells #[Value.int .i64 0, Value.int .i64 0] 24) = X44 at *
    try simp only [Act.put, List.setIfInBounds_toArray, List.set_cons_zero, List.set_cons_succ]
    refine wpAnyH_ready (rs := [3, 8]) (by kernel_rfl) (by simp) ?_
    refine AllReadyH.cons rfl (fun K hK => ?_) ?_
    · go_simp
      refine (d4.out _ hS).mono ?_
      rintro e X45 ⟨rfl, hb⟩
      replace hS := keep2 hb (Nat.le_succ _) hS
      replace h0 := cell_next hb nh h0
      replace fh0 := frozen_next hb nh fh0
      replace h1 := cell_next hb nh h1
      replace fh1 := frozen_next hb nh fh1
      replace nh := Nat.lt_of_lt_of_le nh hb.size
      refine hK.out _ _ hS (fun _ => ?_)
      clear hK K hb
      try simp only [Act.put, List.setIfInBounds_toArray, List.set_cons_zero, List.set_cons_succ]
      refine wpAnyH_ready (rs := [7, 8]) (by kernel_rfl) (by simp) ?_
      refine AllReadyH.cons rfl (fun K hK => ?_) ?_
      · go_simp
        refine (d4'.out _ hS).mono ?_
        rintro e X46 ⟨rfl, hb⟩
        replace hS := keep2 hb (Nat.le_succ _) hS
        replace h0 := cell_next hb nh h0
        replace fh0 := frozen_next hb nh fh0
        replace h1 := cell_next hb nh h1
        replace fh1 := frozen_next hb nh fh1
        replace nh := Nat.lt_of_lt_of_le nh hb.size
        refine hK.out _ _ hS (fun _ => ?_)
        clear hK K hb
        try simp only [Act.put, List.setIfInBounds_toArray, List.set_cons_zero, List.set_cons_succ]
        refine wpAnyH_ready (rs := [8]) (by kernel_rfl) (by simp) ?_
        refine AllReadyH.cons rfl (fun K hK => ?_) AllReadyH.nil
        go_simp
        have hb := (Below.refl X46.heap.size X46).alloc (Nat.le_refl _) (Obj.cells #[Value.int .i64 0, Value.int .i64 0] 24)
        have bl : w.heap.size + 1 < X46.heap.size := hS.2.2.2.1
        have dhl : W0.heap.size < X46.heap.size := nh
        replace h0 := cell_next hb nh h0
        replace fh0 := frozen_next hb nh fh0
        replace h1 := cell_next hb nh h1
        replace fh1 := frozen_next hb nh fh1
        replace nh := Nat.lt_of_lt_of_le nh hb.size
        replace hS := keep2 hb (Nat.le_succ _) hS
        have l0 : (X46.alloc (Obj.cells #[Value.int .i64 0, Value.int .i64 0] 24)).cell? ⟨X46.heap.size, 0, none⟩ = some (Value.int .i64 0) := cell_new _ _ _ 0
        have fl0 : (X46.alloc (Obj.cells #[Value.int .i64 0, Value.int .i64 0] 24)).frozen? ⟨X46.heap.size, 0, none⟩ = false := by simp [go_sem]
        have l1 : (X46.alloc (Obj.cells #[Value.int .i64 0, Value.int .i64 0] 24)).cell? ⟨X46.heap.size, 1, none⟩ = some (Value.int .i64 0) := cell_new _ _ _ 1
        have fl1 : (X46.alloc (Obj.cells #[Value.int .i64 0, Value.int .i64 0] 24)).frozen? ⟨X46.heap.size, 1, none⟩ = false := by simp [go_sem]
        have nl : X46.heap.size < (X46.alloc (Obj.cells #[Value.int .i64 0, Value.int .i64 0] 24)).heap.size := by simp
        refine hK.out _ _ hS (fun _ => ?_)
        clear hK K hb
        generalize X46.alloc (Obj.cells #[Value.int .i64 0, Value.int .i64 0] 24) = X47 at *
        try simp only [Act.put, List.setIfInBounds_toArray, List.set_cons_zero, List.set_cons_succ]
        refine wpAnyH_ready (rs := [10]) (by kernel_rfl) (by simp) ?_
        refine AllReadyH.cons rfl (fun K hK => ?_) AllReadyH.nil
        go_simp
        replace hS := keep2_far (u := .int .i64 va.1) (v := .int .i64 va.2) (by omega : _ < X46.heap.size) (by omega) (by omega) hS
        refine hK.out _ _ hS (fun _ => ?_)
        clear hK K
        replace h0 := set2_far (b := X46.heap.size) (.int .i64 va.1) (.int .i64 va.2) (by omega) h0
        replace fh0 := frozen_far (b := X46.heap.size) (.int .i64 va.1) (.int .i64 va.2) fh0
        replace h1 := set2_far (b := X46.heap.size) (.int .i64 va.1) (.int .i64 va.2) (by omega) h1
        replace fh1 := frozen_far (b := X46.heap.size) (.int .i64 va.1) (.int .i64 va.2) fh1
        obtain ⟨l0, l1⟩ := set2 (.int .i64 va.1) (.int .i64 va.2) l0 l1
        replace fl0 := frozen_far (b := X46.heap.size) (.int .i64 va.1) (.int .i64 va.2) fl0
        replace fl1 := frozen_far (b := X46.heap.size) (.int .i64 va.1) (.int .i64 va.2) fl1
        replace nh := size_far (b := X46.heap.size) (.int .i64 va.1) (.int .i64 va.2) nh
        replace nl := size_far (b := X46.heap.size) (.int .i64 va.1) (.int .i64 va.2) nl
        generalize ((X47.setCell ⟨X46.heap.size, 0, none⟩ (.int .i64 va.1)).setCell ⟨X46.heap.size, 1, none⟩ (.int .i64 va.2)) = X48 at *
        try simp only [Act.put, List.setIfInBounds_toArray, List.set_cons_zero, List.set_cons_succ]
        refine wpAnyH_ready (rs := [11]) (by kernel_rfl) (by simp) ?_
        refine AllReadyH.cons rfl (fun K hK => ?_) AllReadyH.nil
        go_simp
        replace hS := keep2_far (u := .int .i64 vb.1) (v := .int .i64 vb.2) (by omega : _ < W0.heap.size) (by omega) (by omega) hS
        refine hK.out _ _ hS (fun _ => ?_)
        clear hK K
        replace l0 := set2_far (b := W0.heap.size) (.int .i64 vb.1) (.int .i64 vb.2) (by omega) l0
        replace fl0 := frozen_far (b := W0.heap.size) (.int .i64 vb.1) (.int .i64 vb.2) fl0
        replace l1 := set2_far (b := W0.heap.size) (.int .i64 vb.1) (.int .i64 vb.2) (by omega) l1
        replace fl1 := frozen_far (b := W0.heap.size) (.int .i64 vb.1) (.int .i64 vb.2) fl1
        obtain ⟨h0, h1⟩ := set2 (.int .i64 vb.1) (.int .i64 vb.2) h0 h1
        replace fh0 := frozen_far (b := W0.heap.size) (.int .i64 vb.1) (.int .i64 vb.2) fh0
        replace fh1 := frozen_far (b := W0.heap.size) (.int .i64 vb.1) (.int .i64 vb.2) fh1
        replace nh := size_far (b := W0.heap.size) (.int .i64 vb.1) (.int .i64 vb.2) nh
        replace nl := size_far (b := W0.heap.size) (.int .i64 vb.1) (.int .i64 vb.2) nl
        generalize ((X48.setCell ⟨W0.heap.size, 0, none⟩ (.int .i64 vb.1)).setCell ⟨W0.heap.size, 1, none⟩ (.int .i64 vb.2)) = X49 at *
        try simp only [Act.put, List.setIfInBounds_toArray, List.set_cons_zero, List.set_cons_succ]
        refine wpAnyH_done (by kernel_rfl) ?_ _
        go_wp2_with fail
        go_meet
        exact ⟨_, _, rfl, rfl, nl, nh, l0, l1, h0, h1, hS⟩
      refine AllReadyH.cons rfl (fun K hK => ?_) AllReadyH.nil
      go_simp
      have hb := (Below.refl X45.heap.size X45).alloc (Nat.le_refl _) (Obj.cells #[Value.int .i64 0, Value.int .i64 0] 24)
      have bl : w.heap.size + 1 < X45.heap.size := hS.2.2.2.1
      have dhl : W0.heap.size < X45.heap.size := nh
      replace h0 := cell_next hb nh h0
      replace fh0 := frozen_next hb nh fh0
      replace h1 := cell_next hb nh h1
      replace fh1 := frozen_next hb nh fh1
      replace nh := Nat.lt_of_lt_of_le nh hb.size
      replace hS := keep2 hb (Nat.le_succ _) hS
      have l0 : (X45.alloc (Obj.cells #[Value.int .i64 0, Value.int .i64 0] 24)).cell? ⟨X45.heap.size, 0, none⟩ = some (Value.int .i64 0) := cell_new _ _ _ 0
      have fl0 : (X45.alloc (Obj.cells #[Value.int .i64 0, Value.int .i64 0] 24)).frozen? ⟨X45.heap.size, 0, none⟩ = false := by simp [go_sem]
      have l1 : (X45.alloc (Obj.cells #[Value.int .i64 0, Value.int .i64 0] 24)).cell? ⟨X45.heap.size, 1, none⟩ = some (Value.int .i64 0) := cell_new _ _ _ 1
      have fl1 : (X45.alloc (Obj.cells #[Value.int .i64 0, Value.int .i64 0] 24)).frozen? ⟨X45.heap.size, 1, none⟩ = false := by simp [go_sem]
      have nl : X45.heap.size < (X45.alloc (Obj.cells #[Value.int .i64 0, Value.int .i64 0] 24)).heap.size := by simp
      refine hK.out _ _ hS (fun _ => ?_)
      clear hK K hb
      generalize X45.alloc (Obj.cells #[Value.int .i64 0, Value.int .i64 0] 24) = X50 at *
      try simp only [Act.put, List.setIfInBounds_toArray, List.set_cons_zero, List.set_cons_succ]
      refine wpAnyH_ready (rs := [7]) (by kernel_rfl) (by simp) ?_
      refine AllReadyH.cons rfl (fun K hK => ?_) AllReadyH.nil
      go_simp
      refine (d4'.out _ hS).mono ?_
      rintro e X51 ⟨rfl, hb⟩
      replace hS := keep2 hb (Nat.le_succ _) hS
      replace h0 := cell_next hb nh h0
      replace fh0 := frozen_next hb nh fh0
      replace h1 := cell_next hb nh h1
      replace fh1 := frozen_next hb nh fh1
      replace nh := Nat.lt_of_lt_of_le nh hb.size
      replace l0 := cell_next hb nl l0
      replace fl0 := frozen_next hb nl fl0
      replace l1 := cell_next hb nl l1
      replace fl1 := frozen_next hb nl fl1
      replace nl := Nat.lt_of_lt_of_le nl hb.size
      refine hK.out _ _ hS (fun _ => ?_)
      clear hK K hb
      try simp only [Act.put, List.setIfInBounds_toArray, List.set_cons_zero, List.set_cons_succ]
      refine wpAnyH_ready (rs := [10]) (by kernel_rfl) (by simp) ?_
      refine AllReadyH.cons rfl (fun K hK => ?_) AllReadyH.nil
      go_simp
      replace hS := keep2_far (u := .int .i64 va.1) (v := .int .i64 va.2) (by omega : _ < X45.heap.size) (by omega) (by omega) hS
      refine hK.out _ _ hS (fun _ => ?_)
      clear hK K
      replace h0 := set2_far (b := X45.heap.size) (.int .i64 va.1) (.int .i64 va.2) (by omega) h0
      replace fh0 := frozen_far (b := X45.heap.size) (.int .i64 va.1) (.int .i64 va.2) fh0
      replace h1 := set2_far (b := X45.heap.size) (.int .i64 va.1) (.int .i64 va.2) (by omega) h1
      replace fh1 := frozen_far (b := X45.heap.size) (.int .i64 va.1) (.int .i64 va.2) fh1
      obtain ⟨l0, l1⟩ := set2 (.int .i64 va.1) (.int .i64 va.2) l0 l1
      replace fl0 := frozen_far (b := X45.heap.size) (.int .i64 va.1) (.int .i64 va.2) fl0
      replace fl1 := frozen_far (b := X45.heap.size) (.int .i64 va.1) (.int .i64 va.2) fl1
      replace nh := size_far (b := X45.heap.size) (.int .i64 va.1) (.int .i64 va.2) nh
      replace nl := size_far (b := X45.heap.size) (.int .i64 va.1) (.int .i64 va.2) nl
      generalize ((X51.setCell ⟨X45.heap.size, 0, none⟩ (.int .i64 va.1)).setCell ⟨X45.heap.size, 1, none⟩ (.int .i64 va.2)) = X52 at *
      try simp only [Act.put, List.setIfInBounds_toArray, List.set_cons_zero, List.set_cons_succ]
      refine wpAnyH_ready (rs := [11]) (by kernel_rfl) (by simp) ?_
      refine AllReadyH.cons rfl (fun K hK => ?_) AllReadyH.nil
      go_simp
      replace hS := keep2_far (u := .int .i64 vb.1) (v := .int .i64 vb.2) (by omega : _ < W0.heap.size) (by omega) (by omega) hS
      refine hK.out _ _ hS (fun _ => ?_)
      clear hK K
      replace l0 := set2_far (b := W0.heap.size) (.int .i64 vb.1) (.int .i64 vb.2) (by omega) l0
      replace fl0 := frozen_far (b := W0.heap.size) (.int .i64 vb.1) (.int .i64 vb.2) fl0
      replace l1 := set2_far (b := W0.heap.size) (.int .i64 vb.1) (.int .i64 vb.2) (by omega) l1
      replace fl1 := frozen_far (b := W0.heap.size) (.int .i64 vb.1) (.int .i64 vb.2) fl1
      obtain ⟨h0, h1⟩ := set2 (.int .i64 vb.1) (.int .i64 vb.2) h0 h1
      replace fh0 := frozen_far (b := W0.heap.size) (.int .i64 vb.1) (.int .i64 vb.2) fh0
      replace fh1 := frozen_far (b := W0.heap.size) (.int .i64 vb.1) (.int .i64 vb.2) fh1
      replace nh := size_far (b := W0.heap.size) (.int .i64 vb.1) (.int .i64 vb.2) nh
      replace nl := size_far (b := W0.heap.size) (.int .i64 vb.1) (.int .i64 vb.2) nl
      generalize ((X52.setCell ⟨W0.heap.size, 0, none⟩ (.int .i64 vb.1)).setCell ⟨W0.heap.size, 1, none⟩ (.int .i64 vb.2)) = X53 at *
      try simp only [Act.put, List.setIfInBounds_toArray, List.set_cons_zero, List.set_cons_succ]
      refine wpAnyH_done (by kernel_rfl) ?_ _
      go_wp2_with fail
      go_meet
      exact ⟨_, _, rfl, rfl, nl, nh, l0, l1, h0, h1, hS⟩
    refine AllReadyH.cons rfl (fun K hK => ?_) AllReadyH.nil
    go_simp
    have hb := (Below.refl X44.heap.size X44).alloc (Nat.le_refl _) (Obj.cells #[Value.int .i64 0, Value.int .i64 0] 24)
    have bl : w.heap.size + 1 < X44.heap.size := hS.2.2.2.1
    have dhl : W0.heap.size < X44.heap.size := nh
    replace h0 := cell_next hb nh h0
    replace fh0 := frozen_next hb nh fh0
    replace h1 := cell_next hb nh h1
    replace fh1 := frozen_next hb nh fh1
    replace nh := Nat.lt_of_lt_of_le nh hb.size
    replace hS := keep2 hb (Nat.le_succ _) hS
    have l0 : (X44.alloc (Obj.cells #[Value.int .i64 0, Value.int .i64 0] 24)).cell? ⟨X44.heap.size, 0, none⟩ = some (Value.int .i64 0) := cell_new _ _ _ 0
    have fl0 : (X44.alloc (Obj.cells #[Value.int .i64 0, Value.int .i64 0] 24)).frozen? ⟨X44.heap.size, 0, none⟩ = false := by simp [go_sem]
    have l1 : (X44.alloc (Obj.cells #[Value.int .i64 0, Value.int .i64 0] 24)).cell? ⟨X44.heap.size, 1, none⟩ = some (Value.int .i64 0) := cell_new _ _ _ 1
    have fl1 : (X44.alloc (Obj.cells #[Value.int .i64 0, Value.int .i64 0] 24)).frozen? ⟨X44.heap.size, 1, none⟩ = false := by simp [go_sem]
    have nl : X44.heap.size < (X44.alloc (Obj.cells #[Value.int .i64 0, Value.int .i64 0] 24)).heap.size := by simp
    refine hK.out _ _ hS (fun _ => ?_)
    clear hK K hb
    generalize X44.alloc (Obj.cells #[Value.int .i64 0, Value.int .i64 0] 24) = X54 at *
    try simp only [Act.put, List.setIfInBounds_toArray, List.set_cons_zero, List.set_cons_succ]
    refine wpAnyH_ready (rs := [3]) (by kernel_rfl) (by simp) ?_
    refine AllReadyH.cons rfl (fun K hK => ?_) AllReadyH.nil
    go_simp
    refine (d4.out _ hS).mono ?_
    rintro e X55 ⟨rfl, hb⟩
    replace hS := keep2 hb (Nat.le_succ _) hS
    replace h0 := cell_next hb nh h0
    replace fh0 := frozen_next hb nh fh0
    replace h1 := cell_next hb nh h1
    replace fh1 := frozen_next hb nh fh1
    replace nh := Nat.lt_of_lt_of_le nh hb.size
    replace l0 := cell_next hb nl l0
    replace fl0 := frozen_next hb nl fl0
    replace l1 := cell_next hb nl l1
    replace fl1 := frozen_next hb nl fl1
    replace nl := Nat.lt_of_lt_of_le nl hb.size
    refine hK.out _ _ hS (fun _ => ?_)
    clear hK K hb
    try simp only [Act.put, List.setIfInBounds_toArray, List.set_cons_zero, List.set_cons_succ]
    refine wpAnyH_ready (rs := [7]) (by kernel_rfl) (by simp) ?_
    refine AllReadyH.cons rfl (fun K hK => ?_) AllReadyH.nil
    go_simp
    refine (d4'.out _ hS).mono ?_
    rintro e X56 ⟨rfl, hb⟩
    replace hS := keep2 hb (Nat.le_succ _) hS
    replace h0 := cell_next hb nh h0
    replace fh0 := frozen_next hb nh fh0
    replace h1 := cell_next hb nh h1
    replace fh1 := frozen_next hb nh fh1
    replace nh := Nat.lt_of_lt_of_le nh hb.size
    replace l0 := cell_next hb nl l0
    replace fl0 := frozen_next hb nl fl0
    replace l1 := cell_next hb nl l1
    replace fl1 := frozen_next hb nl fl1
    replace nl := Nat.lt_of_lt_of_le nl hb.size
    refine hK.out _ _ hS (fun _ => ?_)
    clear hK K hb
    try simp only [Act.put, List.setIfInBounds_toArray, List.set_cons_zero, List.set_cons_succ]
    refine wpAnyH_ready (rs := [10]) (by kernel_rfl) (by simp) ?_
    refine AllReadyH.cons rfl (fun K hK => ?_) AllReadyH.nil
    go_simp
    replace hS := keep2_far (u := .int .i64 va.1) (v := .int .i64 va.2) (by omega : _ < X44.heap.size) (by omega) (by omega) hS
    refine hK.out _ _ hS (fun _ => ?_)
    clear hK K
    replace h0 := set2_far (b := X44.heap.size) (.int .i64 va.1) (.int .i64 va.2) (by omega) h0
    replace fh0 := frozen_far (b := X44.heap.size) (.int .i64 va.1) (.int .i64 va.2) fh0
    replace h1 := set2_far (b := X44.heap.size) (.int .i64 va.1) (.int .i64 va.2) (by omega) h1
    replace fh1 := frozen_far (b := X44.heap.size) (.int .i64 va.1) (.int .i64 va.2) fh1
    obtain ⟨l0, l1⟩ := set2 (.int .i64 va.1) (.int .i64 va.2) l0 l1
    replace fl0 := frozen_far (b := X44.heap.size) (.int .i64 va.1) (.int .i64 va.2) fl0
    replace fl1 := frozen_far (b := X44.heap.size) (.int .i64 va.1) (.int .i64 va.2) fl1
    replace nh := size_far (b := X44.heap.size) (.int .i64 va.1) (.int .i64 va.2) nh
    replace nl := size_far (b := X44.heap.size) (.int .i64 va.1) (.int .i64 va.2) nl
    generalize ((X56.setCell ⟨X44.heap.size, 0, none⟩ (.int .i64 va.1)).setCell ⟨X44.heap.size, 1, none⟩ (.int .i64 va.2)) = X57 at *
    try simp only [Act.put, List.setIfInBounds_toArray, List.set_cons_zero, List.set_cons_succ]
    refine wpAnyH_ready (rs := [11]) (by kernel_rfl) (by simp) ?_
    refine AllReadyH.cons rfl (fun K hK => ?_) AllReadyH.nil
    go_simp
    replace hS := keep2_far (u := .int .i64 vb.1) (v := .int .i64 vb.2) (by omega : _ < W0.heap.size) (by omega) (by omega) hS
    refine hK.out _ _ hS (fun _ => ?_)
    clear hK K
    replace l0 := set2_far (b := W0.heap.size) (.int .i64 vb.1) (.int .i64 vb.2) (by omega) l0
    replace fl0 := frozen_far (b := W0.heap.size) (.int .i64 vb.1) (.int .i64 vb.2) fl0
    replace l1 := set2_far (b := W0.heap.size) (.int .i64 vb.1) (.int .i64 vb.2) (by omega) l1
    replace fl1 := frozen_far (b := W0.heap.size) (.int .i64 vb.1) (.int .i64 vb.2) fl1
    obtain ⟨h0, h1⟩ := set2 (.int .i64 vb.1) (.int .i64 vb.2) h0 h1
    replace fh0 := frozen_far (b := W0.heap.size) (.int .i64 vb.1) (.int .i64 vb.2) fh0
    replace fh1 := frozen_far (b := W0.heap.size) (.int .i64 vb.1) (.int .i64 vb.2) fh1
    replace nh := size_far (b := W0.heap.size) (.int .i64 vb.1) (.int .i64 vb.2) nh
    replace nl := size_far (b := W0.heap.size) (.int .i64 vb.1) (.int .i64 vb.2) nl
    generalize ((X57.setCell ⟨W0.heap.size, 0, none⟩ (.int .i64 vb.1)).setCell ⟨W0.heap.size, 1, none⟩ (.int .i64 vb.2)) = X58 at *
    try simp only [Act.put, List.setIfInBounds_toArray, List.set_cons_zero, List.set_cons_succ]
    refine wpAnyH_done (by kernel_rfl) ?_ _
    go_wp2_with fail
    go_meet
    exact ⟨_, _, rfl, rfl, nl, nh, l0, l1, h0, h1, hS⟩
  case rest =>
    clear HS c4 c4'
    obtain ⟨gx, hgx, hv0⟩ := vy_vx' hcut s0
    have HV0 := Lib.hid hv0
    have Hgx := Lib.hid hgx
    clear hv0 hgx
    obtain ⟨gl, gh, hsl, hsh, nl, nh, l0, l1, h0, h1, e0, e1, hk⟩ := hcut
    subst hsl hsh
    have M1 : ∀ tys ty w, (Builtin.min_ tys ty #[.int .i64 va.1, .int .i64 vb.1]).run Try.prog w = .ok (.int .i64 s0.1) w := fun tys ty w => (vrun_min2 tys ty .i64 _ _ w).trans (by rw [← HV.out])
    have M2 : ∀ tys ty w, (Builtin.max_ tys ty #[.int .i64 va.2, .int .i64 vb.2]).run Try.prog w = .ok (.int .i64 s0.2) w := fun tys ty w => (vrun_max2 tys ty .i64 _ _ w).trans (by rw [← HV.out])
    clear nl nh e0 e1 hk
    go_wp2_with fail
    clear M1 M2 l0 l1 h0 h1
    go_loopw [8] (fun i wr => ∃ k : Nat, k ≤ n ∧ i = .int .i64 k ∧ Vx a b w ((xs.take k).foldl (vsK a b) s0) (.pointer (some ⟨gx, 0, none⟩)) wr) (fun i _ => n - (RowKit.intOf i).toNat)
    case atStart => exact ⟨0, Nat.zero_le _, rfl, HV0.out⟩
    case round =>
      clear HV0
      rw [← Hgx.out]
      clear Hgx
      obtain ⟨k, hk, rfl, hvx⟩ := hrel
      have HX := Lib.hid hvx
      obtain ⟨gx', hge, hbx, hnx, x0, x1, fx0, fx1, e0, e1, hkp⟩ := hvx
      obtain rfl : gx = gx' := by injection hge with hge; injection hge with hge; injection hge
      clear hge
      by_cases hlt : (k : Int) < (n : Int)
      · obtain ⟨p, hp⟩ : ∃ p, xs[k]? = some p := ⟨_, List.getElem?_eq_getElem (by rw [Hn.out]; omega)⟩
        obtain ⟨p0, p1⟩ := (HR.out.below hkp.1 hg) k p hp
        have hnext : Hid ((xs.take (k + 1)).foldl (vsK a b) s0 = vsK a b ((xs.take k).foldl (vsK a b) s0) p) := Lib.hid (by rw [take_snocV xs k p hp, List.foldl_append]; rfl)
        generalize (xs.take k).foldl (vsK a b) s0 = s at *
        have cI := Lib.hid (rIn_any p.1 a b)
        have hk0 : (0 : Int) ≤ (k : Int) := by omega
        clear hp hkp
        by_cases hin : a ≤ p.1 ∧ p.1 ≤ b
        · have hn2 := Lib.hid (hnext.out.trans (show vsK a b s p = (min s.1 p.2, max s.2 p.2) from if_pos hin))
          rw [show (decide (a ≤ p.1) && decide (p.1 ≤ b)) = true from by simp; omega] at cI
          obtain ⟨q, hq⟩ : ∃ q : Int × Int, (min s.1 p.2, max s.2 p.2) = q := ⟨_, rfl⟩
          have M1 : ∀ tys ty w, (Builtin.min_ tys ty #[.int .i64 s.1, .int .i64 p.2]).run Try.prog w = .ok (.int .i64 q.1) w := fun tys ty w => (vrun_min2 tys ty .i64 _ _ w).trans (by rw [← hq])
          have M2 : ∀ tys ty w, (Builtin.max_ tys ty #[.int .i64 s.2, .int .i64 p.2]).run Try.prog w = .ok (.int .i64 q.2) w := fun tys ty w => (vrun_max2 tys ty .i64 _ _ w).trans (by rw [← hq])
          rw [hq] at hn2
          clear hnext hin hq
          go_wp2_with fail
          go_quiet ((go_at_call 14; (with_reducible exact quiet_left (cI.out _))))
          go_wp2_with fail
          go_region
          all_goals
            go_wp2_with fail
            go_roundw
            case rel => exact ⟨k + 1, by omega, by go_num, by rw [hn2.out]; first | exact vx_set (vx_drew (vx_drewN HX.out _)) _ | exact vx_drew (vx_set (vx_drewN HX.out _) _)⟩
            case measure => simp [RowKit.intOf]; omega
        · have hn2 := Lib.hid (hnext.out.trans (show vsK a b s p = s from if_neg hin))
          rw [show (decide (a ≤ p.1) && decide (p.1 ≤ b)) = false from by simp; omega] at cI
          clear hnext hin
          go_wp2_with fail
          go_quiet ((go_at_call 14; (with_reducible exact quiet_left (cI.out _))))
          go_wp2_with fail
          go_roundw
          case rel => exact ⟨k + 1, by omega, by go_num, by rw [hn2.out]; exact vx_drewN HX.out _⟩
          case measure => simp [RowKit.intOf]; omega
      · obtain rfl : k = n := by omega
        have hT : (xs.take k).foldl (vsK a b) s0 = res := by rw [HD.out, List.take_of_length_le (by rw [Hn.out]; exact Nat.le_refl _)]
        rw [hT] at x0 x1
        clear hT HX
        obtain ⟨hB, nz, ⟨u0, r0⟩, ⟨u1, r1⟩, f0, f1⟩ := hkp
        obtain ⟨t0, t1⟩ := set2 (.int .i64 res.1) (.int .i64 res.2) r0 r1
        have hB2 := Lib.hid ((hB.setCell (p := ⟨w.heap.size + 1, 0, none⟩) (Nat.le_succ _) (.int .i64 res.1)).setCell (p := ⟨w.heap.size + 1, 1, none⟩) (Nat.le_succ _) (.int .i64 res.2))
        clear hB
        go_wp2_with fail
        refine bodyPost_ret (v := .agg #[.int .i64 res.1, .int .i64 res.2]) (by simp [results, Try.results112, go_sem, t0, t1]) rfl ⟨rfl, hB2.out⟩
end Go.Proofs.Ytdlmkjllcejoaaa
