/- Contracts: C28, C29, P11, C30, T4, joined. -/
import Derived.Test.YtgklpbgdimkhaaaGreatKA5B
import Derived.Test.YtgklpbgdimkhaaaGreatKA4B
import Derived.Test.YtgklpbgdimkhaaaGreatT3B
namespace Go.Proofs.YtgklpbgdimkhaaaGreat
open Go.RowKit Go.Lib Go.Shelf
set_option linter.unusedVariables false
set_option linter.unusedSimpArgs false
attribute [local go_sem ↓] Go.wp_at_zero Go.wp_at_succ

/-- the stretch that At comes to -/
theorem seg_last {xs : List (Int × Int)} {x : Int} (ht : TabOk xs) (hc : covB xs x = true) : ∃ k p q, xs[k]? = some p ∧ xs[k + 1]? = some q ∧ p.1 ≤ x ∧ x ≤ q.1 ∧ (k + 2 = xs.length ∨ x < q.1) ∧ ∀ j r, j < k → xs[j + 1]? = some r → r.1 ≤ x := by
  obtain ⟨m, hm⟩ : ∃ m, xs.length = m + 1 := ⟨xs.length - 1, by have := ht.1; omega⟩
  have hm1 : 1 ≤ m := by have := ht.1; omega
  obtain ⟨p, hp⟩ : ∃ p, xs[0]? = some p := ⟨_, List.getElem?_eq_getElem (by omega)⟩
  obtain ⟨q, hq⟩ : ∃ q, xs[m]? = some q := ⟨_, List.getElem?_eq_getElem (by omega)⟩
  rw [covB_of x hm hp hq] at hc
  simp at hc
  have key : ∀ d k p, k + d = m → 1 ≤ d → xs[k]? = some p → p.1 ≤ x → (∀ j r, j < k → xs[j + 1]? = some r → r.1 ≤ x) → ∃ k p q, xs[k]? = some p ∧ xs[k + 1]? = some q ∧ p.1 ≤ x ∧ x ≤ q.1 ∧ (k + 2 = xs.length ∨ x < q.1) ∧ ∀ j r, j < k → xs[j + 1]? = some r → r.1 ≤ x := by
    intro d
    induction d with
    | zero => intro k p _ h; omega
    | succ d ih =>
      intro k p hk _ hp hpx hj
      obtain ⟨r, hr⟩ : ∃ r, xs[k + 1]? = some r := ⟨_, List.getElem?_eq_getElem (by omega)⟩
      by_cases hx : x < r.1
      · exact ⟨k, p, r, hp, hr, hpx, by omega, .inr hx, hj⟩
      · rcases Nat.eq_zero_or_pos d with h | h
        · subst h
          have e : r = q := by rw [show k + 1 = m from by omega, hq] at hr; injection hr with hr; exact hr.symm
          subst e
          exact ⟨k, p, r, hp, hr, hpx, hc.2, .inl (by omega), hj⟩
        · refine ih (k + 1) r (by omega) h hr (by omega) (fun j s hj' hs => ?_)
          by_cases e : j = k
          · subst e; rw [hr] at hs; injection hs with hs; subst hs; omega
          · exact hj j s (by omega) hs
  exact key m 0 p (by omega) hm1 hp hc.1 (fun j r h => by omega)

def AtPost (xs : List (Int × Int)) (x : Int) (w : World) (e : Ending) (w' : World) : Prop :=
  ∃ (k : Nat) (p q : Int × Int), xs[k]? = some p ∧ xs[k + 1]? = some q ∧ p.1 ≤ x ∧ x ≤ q.1 ∧ e = .returned (.tuple #[.int .i64 k, .int .i64 ((q.2 - p.2) * (x - p.1)), .int .i64 (q.1 - p.1)]) ∧ Below w.heap.size w w'
set_option maxRecDepth 20000 in
set_option maxHeartbeats 2000000 in
theorem rAt_any (xs : List (Int × Int)) (x : Int) (g off c : Nat) (ht : TabOk xs) (hcv : covB xs x = true) (w : World) (hg : g < w.heap.size) (hr : RRd w g off xs) :
    Calls Tryz.prog 116 #[.slice (some ⟨g, off, none⟩) xs.length c, .int .i64 x] w (AtPost xs x w) := by
  obtain ⟨k, p, q, hp, hq, hpx, hxq, hend, hbef⟩ := seg_last ht hcv
  obtain ⟨r1, r2, r3, r4⟩ := rowB_of (ht.2.2.1 p (List.mem_of_getElem? hp))
  obtain ⟨s1, s2, s3, s4⟩ := rowB_of (ht.2.2.1 q (List.mem_of_getElem? hq))
  have hkn : k + 1 < xs.length := (List.getElem?_eq_some_iff.1 hq).1
  have hn60 := ht.2.1
  have hpost : Hid (∀ (W : World), Below w.heap.size w W → AtPost xs x w (.returned (.tuple #[.int .i64 k, .int .i64 ((q.2 - p.2) * (x - p.1)), .int .i64 (q.1 - p.1)])) W) := Lib.hid (fun W h => ⟨k, p, q, hp, hq, hpx, hxq, rfl, h⟩)
  have hA : ((q.2 - p.2) * (x - p.1)).natAbs ≤ 2000000000 * 2000000000 := by rw [Int.natAbs_mul]; exact Nat.mul_le_mul (by omega) (by omega)
  obtain ⟨p0, p1⟩ := hr k p hp
  obtain ⟨q0, q1⟩ := hr (k + 1) q hq
  have HR := Lib.hid hr
  have HB := Lib.hid hbef
  obtain ⟨n, hn⟩ : ∃ n, xs.length = n := ⟨_, rfl⟩
  rw [hn] at hkn hn60 hend ⊢
  have Hn := Lib.hid hn
  have w1 : IntKind.i64.wrap (q.2 - p.2) = q.2 - p.2 := IntWalk.i64_in _ (by omega)
  have w2 : IntKind.i64.wrap (x - p.1) = x - p.1 := IntWalk.i64_in _ (by omega)
  have w3 : IntKind.i64.wrap (q.1 - p.1) = q.1 - p.1 := IntWalk.i64_in _ (by omega)
  have w4 : IntKind.i64.wrap ((q.2 - p.2) * (x - p.1)) = (q.2 - p.2) * (x - p.1) := IntWalk.i64_in _ (by omega)
  have w6 := IntWalk.wrap64_in ((q.2 - p.2) * (x - p.1)) (by omega)
  generalize hnum : (q.2 - p.2) * (x - p.1) = num at *
  have HNum := Lib.hid hnum
  clear hnum
  clear hn hr hbef hcv ht hp hq hA
  generalize AtPost xs x w = Q at *
  go_enter Tryz.func116, Tryz.ntmps116
  go_wp2_with fail
  go_loop [7] (fun i => ∃ j : Nat, j ≤ k ∧ i = .int .i64 j) (fun i => k - (RowKit.intOf i).toNat)
  case atStart => exact ⟨0, Nat.zero_le _, rfl⟩
  case round =>
    obtain ⟨j, hj, rfl⟩ := hrel
    have hj0 : (0 : Int) ≤ j := by omega
    have wj : IntKind.i64.wrap ((j : Int) + 2) = j + 2 := IntWalk.i64_in _ (by omega)
    by_cases hlt : j < k
    · obtain ⟨r, hr⟩ : ∃ r, xs[j + 1]? = some r := ⟨_, List.getElem?_eq_getElem (by rw [Hn.out]; omega)⟩
      have hrx := HB.out j r hlt hr
      have e0 : w.cell? ⟨g, off + (j + 1) * 2, none⟩ = some (.int .i64 r.1) := (HR.out (j + 1) r hr).1
      go_wp2_with fail
      go_round
      case rel => exact ⟨j + 1, by omega, by go_num⟩
      case measure => simp [RowKit.intOf]; omega
    · obtain rfl : j = k := by omega
      rcases (by omega : j + 2 = n ∨ j + 2 < n ∧ x < q.1) with he | ⟨he, hx2⟩
      all_goals
        go_wp2_with fail
        go_quiet (fail)
        go_wp2_with fail
        refine bodyPost_ret (v := .tuple #[.int .i64 j, .int .i64 num, .int .i64 (q.1 - p.1)]) (by simp [results, Tryz.results116, go_sem]; rw [HNum.out]; exact w6) rfl (hpost.out _ (below_drewN (Below.refl _ _) _))

open Go.RowKit Go.Lib Go.Shelf
set_option linter.unusedVariables false
set_option linter.unusedSimpArgs false
attribute [local go_sem ↓] Go.wp_at_zero Go.wp_at_succ

theorem keepT {w W W' : World} {g o : Nat} {x : Option Value} (hg : g < w.heap.size) (hb : Below W.heap.size W W') (h : W.cell? ⟨g, o, none⟩ = x ∧ Kp w.heap.size w W) : W'.cell? ⟨g, o, none⟩ = x ∧ Kp w.heap.size w W' :=
  ⟨cell_next hb (Nat.lt_of_lt_of_le hg h.2.1.size) h.1, h.2.next h.2.1.size hb⟩
theorem keepT_set {w W : World} {g o : Nat} {x : Option Value} {u v : Value} (hg : g < w.heap.size) (h : W.cell? ⟨g, o, none⟩ = x ∧ Kp w.heap.size w W) :
    ((W.setCell ⟨w.heap.size, 0, none⟩ u).setCell ⟨w.heap.size, 1, none⟩ v).cell? ⟨g, o, none⟩ = x ∧ Kp w.heap.size w ((W.setCell ⟨w.heap.size, 0, none⟩ u).setCell ⟨w.heap.size, 1, none⟩ v) := by
  have hne : g ≠ w.heap.size := by omega
  refine ⟨?_, h.2.set (Nat.le_refl _) u v⟩
  rw [World.cell?_setCell_other _ _ _ _ (by intro e; injection e; omega), World.cell?_setCell_other _ _ _ _ (by intro e; injection e; omega)]; exact h.1
set_option maxRecDepth 20000 in
set_option maxHeartbeats 2000000 in
theorem rValue_any (xs : List (Int × Int)) (x : Int) (g off c : Nat) (ht : TabOk xs) (hcv : covB xs x = true) (w : World) (hg : g < w.heap.size) (hr : RRd w g off xs) :
    Calls Tryz.prog 91 #[.slice (some ⟨g, off, none⟩) xs.length c, .int .i64 x] w fun e w' => e = .returned (.agg #[.int .i64 (valV xs x).1, .int .i64 (valV xs x).2]) ∧ Below w.heap.size w w' := by
  have c0 := Lib.hid (fun (W : World) (h : Below w.heap.size w W) => rAt_any xs x g off c ht hcv W (Nat.lt_of_lt_of_le hg h.size) (hr.below h hg))
  have HV := Lib.hid (fun (k : Nat) (p q : Int × Int) (h1 : xs[k]? = some p) (h2 : xs[k + 1]? = some q) (h3 : p.1 ≤ x) (h4 : x ≤ q.1) => valV_is ht (x := x) ⟨k, p, q, h1, h2, h3, h4, rfl⟩)
  have HT := Lib.hid ht
  have HR := Lib.hid hr
  generalize valV xs x = r at *
  obtain ⟨n, hn⟩ : ∃ n, xs.length = n := ⟨_, rfl⟩
  have Hn := Lib.hid hn
  have hn60 := ht.2.1
  rw [hn] at c0 hn60 ⊢
  clear hn ht hr hcv
  go_enter Tryz.func91, Tryz.ntmps91
  go_wp2_with fail
  refine (c0.out _ ((Below.refl _ _).alloc (Nat.le_refl _) _)).mono ?_
  rintro e w1 ⟨k, p, q, hp, hq, hpx, hxq, rfl, hb⟩
  have hk : Kp w.heap.size w w1 := ⟨below1 hb, by have := hb.size; simp at this; omega, ⟨.int .i64 0, cell_next hb (by simp) (by simp [go_sem])⟩, ⟨.int .i64 0, cell_next hb (by simp) (by simp [go_sem])⟩, frozen_next hb (by simp) (by simp [go_sem]), frozen_next hb (by simp) (by simp [go_sem])⟩
  have hv := HV.out k p q hp hq hpx hxq
  have hkn : k < n := by rw [← Hn.out]; exact (List.getElem?_eq_some_iff.1 hp).1
  have hpq := HT.out.2.2.2 k (k + 1) _ _ (by omega) hp hq
  obtain ⟨r1, r2, r3, r4⟩ := rowB_of (HT.out.2.2.1 p (List.mem_of_getElem? hp))
  obtain ⟨s1, s2, s3, s4⟩ := rowB_of (HT.out.2.2.1 q (List.mem_of_getElem? hq))
  have hS := And.intro ((hk.1.cell (p := ⟨g, off + k * 2 + 1, none⟩) hg).trans (HR.out k p hp).2) hk
  have hA : ((q.2 - p.2) * (x - p.1)).natAbs ≤ 2000000000 * (q.1 - p.1).natAbs := by rw [Int.natAbs_mul]; exact Nat.mul_le_mul (by omega) (by omega)
  unfold segV at hv
  have hd : 0 < q.1 - p.1 := by omega
  have hd2 : q.1 - p.1 ≤ 2000000000 := by omega
  clear HV HT HR Hn c0 hb hk hp hq hpq
  generalize (q.2 - p.2) * (x - p.1) = A at *
  generalize q.1 - p.1 = d at *
  have hlo : -2000000000 ≤ A / d ∧ A / d ≤ 2000000000 ∧ -2000000000 ≤ -(-A / d) ∧ -(-A / d) ≤ 2000000000 := by
    have h1 := Int.le_ediv_of_mul_le (a := -2000000000) (b := A) hd (by omega)
    have h2 := Int.ediv_le_of_le_mul (a := A) (b := 2000000000) hd (by omega)
    have h3 := Int.le_ediv_of_mul_le (a := -2000000000) (b := -A) hd (by omega)
    have h4 := Int.ediv_le_of_le_mul (a := -A) (b := 2000000000) hd (by omega)
    omega
  have c1 := Lib.hid (rFloor_any A d ⟨by omega, by omega⟩ hd (by omega))
  have c2 := Lib.hid (rCeil_any A d ⟨by omega, by omega⟩ hd (by omega))
  generalize A / d = lo at *
  generalize -(-A / d) = hi at *
  obtain ⟨l1, l2, l3, l4⟩ := hlo
  have w4 : IntKind.i64.wrap (p.2 + lo) = p.2 + lo := IntWalk.i64_in _ (by omega)
  have w5 : IntKind.i64.wrap (p.2 + hi) = p.2 + hi := IntWalk.i64_in _ (by omega)
  have hk0 : (0 : Int) ≤ k := by omega
  have HVR := Lib.hid hv
  clear hv hA hd
  go_wp2_with fail
  refine wp_region_held_drew (S := fun w' => w'.cell? ⟨g, off + k * 2 + 1, none⟩ = some (.int .i64 p.2) ∧ Kp w.heap.size w w') (by kernel_rfl) ?_ (fun hHeld => ?_)
  focus (exact keepT hg (Below.drew (Below.refl _ _)) hS)
  refine tq 0 15 ?_ ?_ ?_; rotate_left; (focus intro w h; (try dsimp only at h); go_simp; try with_reducible rfl); try simp only [sA, sB, sC]
  refine tq 1 16 ?_ ?_ ?_; rotate_left; (focus intro w h; (try dsimp only at h); go_simp; try with_reducible rfl); try simp only [sA, sB, sC]
  refine tq 2 17 ?_ ?_ ?_; rotate_left; (focus intro w h; (try dsimp only at h); go_simp; try with_reducible rfl); try simp only [sA, sB, sC]
  refine tq 3 18 ?_ ?_ ?_; rotate_left; (focus intro w h; (try dsimp only at h); go_simp; try with_reducible rfl); try simp only [sA, sB, sC]
  refine tq 4 19 ?_ ?_ ?_; rotate_left; (focus intro w h; (try dsimp only at h); go_simp; try with_reducible rfl); try simp only [sA, sB, sC]
  refine tq 5 20 ?_ ?_ ?_; rotate_left; (focus intro w h; (try dsimp only at h); go_simp; try with_reducible rfl); try simp only [sA, sB, sC]
  refine tq 6 21 ?_ ?_ ?_; rotate_left; (focus intro w h; (try dsimp only at h); go_simp; try with_reducible rfl); try simp only [sA, sB, sC]
  refine tq 9 24 ?_ ?_ ?_; rotate_left; (focus intro w h; (try dsimp only at h); go_simp; try with_reducible rfl); try simp only [sA, sB, sC]
  refine tq 10 25 ?_ ?_ ?_; rotate_left; (focus intro w h; (try dsimp only at h); go_simp; try with_reducible rfl); try simp only [sA, sB, sC]
  refine tq 11 26 ?_ ?_ ?_; rotate_left; (focus intro w h; (try dsimp only at h); go_simp; try with_reducible rfl); try simp only [sA, sB, sC]
  refine tq 12 27 ?_ ?_ ?_; rotate_left; (focus intro w h; (try dsimp only at h); go_simp; try with_reducible rfl); try simp only [sA, sB, sC]
  refine tq 13 28 ?_ ?_ ?_; rotate_left; (focus intro w h; (try dsimp only at h); go_simp; try with_reducible rfl); try simp only [sA, sB, sC]
  refine tq 14 29 ?_ ?_ ?_; rotate_left; (focus intro w h; (try dsimp only at h); go_simp; try with_reducible rfl); try simp only [sA, sB, sC]
  refine tq 15 30 ?_ ?_ ?_; rotate_left; (focus intro w h; (try dsimp only at h); go_simp; try with_reducible rfl); try simp only [sA, sB, sC]
  refine rd1 7 (fun K hK => ?_)
  go_simp
  refine (c1.out _).mono ?_; rintro e w4 ⟨rfl, rfl⟩
  refine hK.out _ _ ?_ (fun hHeld => ?_)
  focus (assumption)
  clear hK K
  try simp only [Act.put, sA, sB, sC]
  refine tq 8 23 ?_ ?_ ?_; rotate_left; (focus intro w h; (try dsimp only at h); go_simp; try with_reducible rfl); try simp only [sA, sB, sC]
  refine rd1 16 (fun K hK => ?_)
  go_simp
  refine (c2.out _).mono ?_; rintro e w4 ⟨rfl, rfl⟩
  refine hK.out _ _ ?_ (fun hHeld => ?_)
  focus (assumption)
  clear hK K
  try simp only [Act.put, sA, sB, sC]
  refine tq 17 32 ?_ ?_ ?_; rotate_left; (focus intro w h; (try dsimp only at h); go_simp; try with_reducible rfl); try simp only [sA, sB, sC]
  refine tq 18 33 ?_ ?_ ?_; rotate_left; (focus intro w h; (try dsimp only at h); go_simp; try with_reducible rfl); try simp only [sA, sB, sC]
  refine rd1 19 (fun K hK => ?_)
  have hS2 := hS
  obtain ⟨kg, kB, kn, ⟨_, k2⟩, ⟨_, k3⟩, k4, k5⟩ := hS
  go_simp
  refine hK.out _ _ ?_ (fun hHeld => ?_)
  focus (first | exact keepT_set hg hS2 | exact keepT hg (Below.drew (Below.refl _ _)) (keepT_set hg hS2))
  clear hK K hS2
  try simp only [Act.put, sA, sB, sC]
  refine wpAnyH_done (by kernel_rfl) ?_ _
  go_wp2_with fail
  refine bodyPost_ret (v := .agg #[.int .i64 (p.2 + lo), .int .i64 (p.2 + hi)]) (by simp [results, Tryz.results91, go_sem, k2, k3]) rfl ⟨by rw [HVR.out], ?_⟩
  have hE := (kB.setCell (p := ⟨w.heap.size, 0, none⟩) (Nat.le_refl _) (.int .i64 (p.2 + lo))).setCell (p := ⟨w.heap.size, 1, none⟩) (Nat.le_refl _) (.int .i64 (p.2 + hi))
  first | exact hE | exact Below.drew hE

open Go.Lib
set_option linter.unusedVariables false
set_option linter.unusedSimpArgs false

def vsJ (a b : Int) (s p : Int × Int) : Int × Int := if a < p.1 ∧ p.1 < b then (min s.1 p.2, max s.2 p.2) else s
/-- the least range with the values at both ends -/
noncomputable def vs0 (xs : List (Int × Int)) (a b : Int) : Int × Int := (min (valV xs a).1 (valV xs b).1, max (valV xs a).2 (valV xs b).2)
noncomputable def valsV (xs : List (Int × Int)) (a b : Int) : Int × Int := xs.foldl (vsJ a b) (vs0 xs a b)
theorem rise_in {p q : Int × Int} (hw : p.1 < q.1) (hr : p.2 < q.2) (yl x : Int) : yl ≤ (segV p q x).1 ↔ -(-((yl - p.2) * (q.1 - p.1)) / (q.2 - p.2)) ≤ x - p.1 := by
  have h1 := Int.le_ediv_iff_mul_le (b := (q.2 - p.2) * (x - p.1)) (a := yl - p.2) (c := q.1 - p.1) (by omega)
  have h2 := Int.le_ediv_iff_mul_le (b := -((yl - p.2) * (q.1 - p.1))) (a := -(x - p.1)) (c := q.2 - p.2) (by omega)
  rw [Int.neg_mul, Int.mul_comm (x - p.1)] at h2
  unfold segV
  simp only
  generalize (q.2 - p.2) * (x - p.1) = Z at *
  generalize (yl - p.2) * (q.1 - p.1) = B at *
  omega
theorem rise_out {p q : Int × Int} (hw : p.1 < q.1) (hr : p.2 < q.2) (yh x : Int) : yh < (segV p q x).2 ↔ (yh - p.2) * (q.1 - p.1) / (q.2 - p.2) < x - p.1 := by
  have h1 := Int.ediv_lt_iff_lt_mul (a := -((q.2 - p.2) * (x - p.1))) (b := p.2 - yh) (c := q.1 - p.1) (by omega)
  have h2 := Int.ediv_lt_iff_lt_mul (a := (yh - p.2) * (q.1 - p.1)) (b := x - p.1) (c := q.2 - p.2) (by omega)
  rw [Int.mul_comm (x - p.1)] at h2
  have e : (p.2 - yh) * (q.1 - p.1) = -((yh - p.2) * (q.1 - p.1)) := by rw [← Int.neg_mul]; congr 1; omega
  rw [e] at h1
  unfold segV
  simp only
  generalize (q.2 - p.2) * (x - p.1) = Z at *
  generalize (yh - p.2) * (q.1 - p.1) = B at *
  omega
theorem fall_in {p q : Int × Int} (hw : p.1 < q.1) (hr : q.2 < p.2) (yh x : Int) : (segV p q x).2 ≤ yh ↔ -(-((p.2 - yh) * (q.1 - p.1)) / (p.2 - q.2)) ≤ x - p.1 := by
  have h1 := Int.le_ediv_iff_mul_le (b := -((q.2 - p.2) * (x - p.1))) (a := p.2 - yh) (c := q.1 - p.1) (by omega)
  have h2 := Int.le_ediv_iff_mul_le (b := -((p.2 - yh) * (q.1 - p.1))) (a := -(x - p.1)) (c := p.2 - q.2) (by omega)
  have e : (q.2 - p.2) * (x - p.1) = -((x - p.1) * (p.2 - q.2)) := by rw [← Int.mul_neg, Int.mul_comm]; congr 1; omega
  rw [Int.neg_mul] at h2
  unfold segV
  simp only
  rw [e] at h1 ⊢
  generalize (x - p.1) * (p.2 - q.2) = Z at *
  generalize (p.2 - yh) * (q.1 - p.1) = B at *
  omega
theorem fall_out {p q : Int × Int} (hw : p.1 < q.1) (hr : q.2 < p.2) (yl x : Int) : (segV p q x).1 < yl ↔ (p.2 - yl) * (q.1 - p.1) / (p.2 - q.2) < x - p.1 := by
  have h1 := Int.ediv_lt_iff_lt_mul (a := (q.2 - p.2) * (x - p.1)) (b := yl - p.2) (c := q.1 - p.1) (by omega)
  have h2 := Int.ediv_lt_iff_lt_mul (a := (p.2 - yl) * (q.1 - p.1)) (b := x - p.1) (c := p.2 - q.2) (by omega)
  have e : (q.2 - p.2) * (x - p.1) = -((x - p.1) * (p.2 - q.2)) := by rw [← Int.mul_neg, Int.mul_comm]; congr 1; omega
  have e2 : (yl - p.2) * (q.1 - p.1) = -((p.2 - yl) * (q.1 - p.1)) := by rw [← Int.neg_mul]; congr 1; omega
  unfold segV
  simp only
  rw [e2, e] at h1
  rw [e]
  generalize (x - p.1) * (p.2 - q.2) = Z at *
  generalize (p.2 - yl) * (q.1 - p.1) = B at *
  omega
theorem flat_val {p q : Int × Int} (hr : p.2 = q.2) (x : Int) : segV p q x = (p.2, p.2) := by
  unfold segV
  rw [hr]
  simp
/-- the first number from a to b that a test takes that goes one way; b + 1 if there is none -/
def firstIs (P : Int → Bool) (a b f : Int) : Prop := a ≤ f ∧ f ≤ b + 1 ∧ (∀ x, a ≤ x → x < f → P x = false) ∧ (f ≤ b → P f = true)
theorem firstIs_one {P : Int → Bool} {a b f g : Int} (hf : firstIs P a b f) (hg : firstIs P a b g) : f = g := by
  obtain ⟨f1, f2, f3, f4⟩ := hf
  obtain ⟨g1, g2, g3, g4⟩ := hg
  rcases Int.lt_trichotomy f g with h | h | h
  · have := g3 f f1 h
    rw [f4 (by omega)] at this
    cases this
  · exact h
  · have := f3 g g1 h
    rw [g4 (by omega)] at this
    cases this
/-- where a test stands at a bound: the first number is the bound, within a and b + 1 -/
theorem firstIs_bound {P : Int → Bool} {a b n : Int} (hab : a ≤ b + 1) (h : ∀ x, a ≤ x → x ≤ b → (P x = true ↔ n ≤ x)) : firstIs P a b (min (max a n) (b + 1)) := by
  refine ⟨by omega, by omega, fun x h1 h2 => ?_, fun h1 => (h _ (by omega) h1).2 (by omega)⟩
  rw [Bool.eq_false_iff]
  intro hx
  have := (h x h1 (by omega)).1 hx
  omega

open Go.RowKit Go.Lib Go.Shelf
set_option linter.unusedVariables false
set_option linter.unusedSimpArgs false
attribute [local go_sem ↓] Go.wp_at_zero Go.wp_at_succ

/-- what is looked for -/
def srP (yl yh : Int) (rises behind : Bool) (v : Int × Int) : Bool :=
  match rises, behind with
  | true, false => decide (yl ≤ v.1)
  | true, true => decide (yh < v.2)
  | false, false => decide (v.2 ≤ yh)
  | false, true => decide (v.1 < yl)

open Go.RowKit Go.Lib Go.Shelf
set_option linter.unusedVariables false
set_option linter.unusedSimpArgs false

/-- a range is added to a set behind all of its ranges -/
def extP (xs : List (Int × Int)) (a : Int × Int) : List (Int × Int) :=
  match xs.getLast? with
  | none => [a]
  | some p => if a.1 ≤ p.2 + 1 then xs.dropLast ++ [(p.1, a.2)] else xs ++ [a]

/-- what extend leaves -/
def ExtPost (w : World) (base : Nat) (v : Value) (ys : List (Int × Int)) (e : Ending) (w' : World) : Prop :=
  ∃ v', e = .returned v' ∧ w'.ownsRow base 24 2 v' ys.length (flat ys) ∧ w.grownBy w' v.ownBlock ∧ (v'.ownBlock = v.ownBlock ∨ ∃ g, v'.ownBlock = some g ∧ w.heap.size ≤ g)

theorem extend_any (xs : List (Int × Int)) (lo hi : Int) (v : Value) (base : Nat) (hp : ∀ p ∈ xs, -1000000000000000000 ≤ p.2 ∧ p.2 ≤ 1000000000000000000) (hn : xs.length ≤ 1000000) (w : World) (hbase : base ≤ w.heap.size)
    (hown : w.ownsRow base 24 2 v xs.length (flat xs)) :
    Calls Tryz.prog 136 #[v, .agg #[.int .i64 lo, .int .i64 hi]] w (ExtPost w base v (extP xs (lo, hi))) := by
  rcases List.eq_nil_or_concat xs with rfl | ⟨ys, p, rfl⟩
  · refine (extend_nil lo hi v base w hbase hown).mono ?_
    rintro e w' ⟨v', rfl, h1, h2, h3⟩
    exact ⟨v', rfl, h1, h2, h3⟩
  · rw [List.concat_eq_append] at *
    have hl : (ys ++ [p]).length = ys.length + 1 := by simp
    have hpp := hp p (by simp)
    rw [hl] at hown hn
    obtain ⟨g, cap, rfl, _, _⟩ := hown.form (by omega)
    by_cases hle : lo ≤ p.2 + 1
    · refine (extend_last ys p lo hi g cap base hle hpp.1 hpp.2 (by omega) w hbase hown).mono ?_
      rintro e w' ⟨rfl, h1, h2⟩
      have he : extP (ys ++ [p]) (lo, hi) = ys ++ [(p.1, hi)] := by simp [extP, hle]
      rw [he]
      exact ⟨_, rfl, by simpa using h1, h2, .inl rfl⟩
    · refine (extend_more ys p lo hi g cap base (by omega) hpp.1 hpp.2 (by omega) w hbase hown).mono ?_
      rintro e w' ⟨v', rfl, h1, h2, h3⟩
      have he : extP (ys ++ [p]) (lo, hi) = ys ++ [p] ++ [(lo, hi)] := by simp [extP, hle]
      rw [he]
      refine ⟨v', rfl, ?_, h2, h3⟩
      rw [flat_append _ [(lo, hi)], flat_one]
      simpa using h1

theorem extP_length (xs : List (Int × Int)) (a : Int × Int) : (extP xs a).length ≤ xs.length + 1 := by
  unfold extP
  split
  · simp
  · split
    · simp
      try omega
    · simp
theorem extP_bd {xs : List (Int × Int)} {a : Int × Int} (D : Int → Prop) (h : ∀ p ∈ xs, D p.2) (ha : D a.2) : ∀ p ∈ extP xs a, D p.2 := by
  unfold extP
  split
  · simpa using ha
  · split
    · intro p hp
      rcases List.mem_append.1 hp with hp | hp
      · exact h p (List.dropLast_subset _ hp)
      · simp at hp; subst hp; exact ha
    · intro p hp
      rcases List.mem_append.1 hp with hp | hp
      · exact h p hp
      · simp at hp; subst hp; exact ha
end Go.Proofs.YtgklpbgdimkhaaaGreat
