/- Contracts: the value of a table at a place, in the reference. -/
import Derived.Test.YtfkkddbghogffaaC27
import Derived.Test.YtfkkddbghogffaaR1
namespace Go.Proofs.Ytfkkddbghogffaa
open Go.RowKit Go.Lib Go.Shelf
set_option linter.unusedVariables false
set_option linter.unusedSimpArgs false
attribute [local go_sem ↓] Go.wp_at_zero Go.wp_at_succ

/-- the stretch that At comes to -/
theorem seg_last {xs : List (Int × Int)} {x : Int} (ht : TabOk xs) (hc : covB xs x = true) : ∃ k p q, xs[k]? = some p ∧ xs[k + 1]? = some q ∧ p.1 ≤ x ∧ x ≤ q.1 ∧ (k + 2 = xs.length ∨ x < q.1) ∧ ∀ j r, j < k → xs[j + 1]? = some r → r.1 ≤ x := by
  obtain ⟨m, hm⟩ : ∃ m, xs.length = m + 1 := ⟨xs.length - 1, by have := ht.1; omega⟩
  have hm1 : 1 ≤ m := by have := ht.1; omega
  obtain ⟨p, hp⟩ : ∃ p, xs[0]? = some p := ⟨_, List.getElem?_eq_getElem (by omega)⟩
  obtain ⟨q, hq⟩ : ∃ q, xs[m]? = some q := ⟨_, List.getElem?_eq_getElem (by omega)⟩
  rw [covB_of x hm hp hq] at hc
  simp at hc
  have key : ∀ d k p, k + d = m → 1 ≤ d → xs[k]? = some p → p.1 ≤ x → (∀ j r, j < k → xs[j + 1]? = some r → r.1 ≤ x) → ∃ k p q, xs[k]? = some p ∧ xs[k + 1]? = some q ∧ p.1 ≤ x ∧ x ≤ q.1 ∧ (k + 2 = xs.length ∨ x < q.1) ∧ ∀ j r, j < k → xs[j + 1]? = some r → r.1 ≤ x := by
    intro d
    induction d with
    | zero => intro k p _ h; omega
    | succ d ih =>
      intro k p hk _ hp hpx hj
      obtain ⟨r, hr⟩ : ∃ r, xs[k + 1]? = some r := ⟨_, List.getElem?_eq_getElem (by omega)⟩
      by_cases hx : x < r.1
      · exact ⟨k, p, r, hp, hr, hpx, by omega, .inr hx, hj⟩
      · rcases Nat.eq_zero_or_pos d with h | h
        · subst h
          have e : r = q := by rw [show k + 1 = m from by omega, hq] at hr; injection hr with hr; exact hr.symm
          subst e
          exact ⟨k, p, r, hp, hr, hpx, hc.2, .inl (by omega), hj⟩
        · refine ih (k + 1) r (by omega) h hr (by omega) (fun j s hj' hs => ?_)
          by_cases e : j = k
          · subst e; rw [hr] at hs; injection hs with hs; subst hs; omega
          · exact hj j s (by omega) hs
  exact key m 0 p (by omega) hm1 hp hc.1 (fun j r h => by omega)

def AtPost (xs : List (Int × Int)) (x : Int) (w : World) (e : Ending) (w' : World) : Prop :=
  ∃ (k : Nat) (p q : Int × Int), xs[k]? = some p ∧ xs[k + 1]? = some q ∧ p.1 ≤ x ∧ x ≤ q.1 ∧ e = .returned (.tuple #[.int .i64 k, .int .i64 ((q.2 - p.2) * (x - p.1)), .int .i64 (q.1 - p.1)]) ∧ Below w.heap.size w w'
set_option maxRecDepth 20000 in
set_option maxHeartbeats 2000000 in
theorem rAt_any (xs : List (Int × Int)) (x : Int) (g off c : Nat) (ht : TabOk xs) (hcv : covB xs x = true) (w : World) (hg : g < w.heap.size) (hr : RRd w g off xs) :
    Calls Try.prog 127 #[.slice (some ⟨g, off, none⟩) xs.length c, .int .i64 x] w (AtPost xs x w) := by
  obtain ⟨k, p, q, hp, hq, hpx, hxq, hend, hbef⟩ := seg_last ht hcv
  obtain ⟨r1, r2, r3, r4⟩ := rowB_of (ht.2.2.1 p (List.mem_of_getElem? hp))
  obtain ⟨s1, s2, s3, s4⟩ := rowB_of (ht.2.2.1 q (List.mem_of_getElem? hq))
  have hkn : k + 1 < xs.length := (List.getElem?_eq_some_iff.1 hq).1
  have hn60 := ht.2.1
  have hpost : Hid (∀ (W : World), Below w.heap.size w W → AtPost xs x w (.returned (.tuple #[.int .i64 k, .int .i64 ((q.2 - p.2) * (x - p.1)), .int .i64 (q.1 - p.1)])) W) := Lib.hid (fun W h => ⟨k, p, q, hp, hq, hpx, hxq, rfl, h⟩)
  have hA : ((q.2 - p.2) * (x - p.1)).natAbs ≤ 2000000000 * 2000000000 := by rw [Int.natAbs_mul]; exact Nat.mul_le_mul (by omega) (by omega)
  obtain ⟨p0, p1⟩ := hr k p hp
  obtain ⟨q0, q1⟩ := hr (k + 1) q hq
  have HR := Lib.hid hr
  have HB := Lib.hid hbef
  obtain ⟨n, hn⟩ : ∃ n, xs.length = n := ⟨_, rfl⟩
  rw [hn] at hkn hn60 hend ⊢
  have Hn := Lib.hid hn
  have w1 : IntKind.i64.wrap (q.2 - p.2) = q.2 - p.2 := IntWalk.i64_in _ (by omega)
  have w2 : IntKind.i64.wrap (x - p.1) = x - p.1 := IntWalk.i64_in _ (by omega)
  have w3 : IntKind.i64.wrap (q.1 - p.1) = q.1 - p.1 := IntWalk.i64_in _ (by omega)
  have w4 : IntKind.i64.wrap ((q.2 - p.2) * (x - p.1)) = (q.2 - p.2) * (x - p.1) := IntWalk.i64_in _ (by omega)
  have w6 := IntWalk.wrap64_in ((q.2 - p.2) * (x - p.1)) (by omega)
  generalize hnum : (q.2 - p.2) * (x - p.1) = num at *
  have HNum := Lib.hid hnum
  clear hnum
  clear hn hr hbef hcv ht hp hq hA
  generalize AtPost xs x w = Q at *
  go_enter Try.func127, Try.ntmps127
  go_wp2_with fail
  go_loop [7] (fun i => ∃ j : Nat, j ≤ k ∧ i = .int .i64 j) (fun i => k - (intOf i).toNat)
  case atStart => exact ⟨0, Nat.zero_le _, rfl⟩
  case round =>
    obtain ⟨j, hj, rfl⟩ := hrel
    have hj0 : (0 : Int) ≤ j := by omega
    have wj : IntKind.i64.wrap ((j : Int) + 2) = j + 2 := IntWalk.i64_in _ (by omega)
    by_cases hlt : j < k
    · obtain ⟨r, hr⟩ : ∃ r, xs[j + 1]? = some r := ⟨_, List.getElem?_eq_getElem (by rw [Hn.out]; omega)⟩
      have hrx := HB.out j r hlt hr
      have e0 : w.cell? ⟨g, off + (j + 1) * 2, none⟩ = some (.int .i64 r.1) := (HR.out (j + 1) r hr).1
      go_wp2_with fail
      go_round
      case rel => exact ⟨j + 1, by omega, by go_num⟩
      case measure => simp [intOf]; omega
    · obtain rfl : j = k := by omega
      rcases (by omega : j + 2 = n ∨ j + 2 < n ∧ x < q.1) with he | ⟨he, hx2⟩
      all_goals
        go_wp2_with fail
        go_quiet (fail)
        go_wp2_with fail
        refine bodyPost_ret (v := .tuple #[.int .i64 j, .int .i64 num, .int .i64 (q.1 - p.1)]) (by simp [results, Try.results127, go_sem]; rw [HNum.out]; exact w6) rfl (hpost.out _ (below_drewN (Below.refl _ _) _))
end Go.Proofs.Ytfkkddbghogffaa
