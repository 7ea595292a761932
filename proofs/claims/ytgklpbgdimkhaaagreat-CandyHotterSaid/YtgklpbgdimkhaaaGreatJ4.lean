/- Contracts of package candy: crystals, Crystals, boiled, Yield. -/
import Derived.Test.YtgklpbgdimkhaaaGreatJ3
import Derived.Test.YtgklpbgdimkhaaaGreatC32
import Derived.Test.YtgklpbgdimkhaaaGreatKA4
namespace Go.Proofs.YtgklpbgdimkhaaaGreat
open Go.RowKit Go.Lib Go.Shelf
set_option linter.unusedVariables false
set_option linter.unusedSimpArgs false
attribute [local go_sem ↓] Go.wp_at_zero Go.wp_at_succ


theorem jmax2 {P : Program} (tys : Array TypeId) (ty : TypeId) (k : IntKind) (x y : Int) (w : World) : (Builtin.max_ tys ty #[.int k x, .int k y]).run P w = .ok (.int k (max x y)) w := by
 simp [Builtin.max_, Builtin.max2]
 split <;> omega
/-- what can crystallize at a saturation -/
def cyV (a s y : Int) : Int := max 0 (s - a * y / (10000 - y))

set_option maxRecDepth 20000 in
set_option maxHeartbeats 1000000 in
theorem crystals_any (a s y : Int) (ha : 0 ≤ a ∧ a ≤ 1000000000000) (hs : 0 ≤ s ∧ s ≤ 1000000000000) (hy : 0 ≤ y ∧ y ≤ 9999) (w : World) :
  Calls Tryz.prog 50 #[.agg #[.int .i64 a, .int .i64 s], .int .i64 y] w fun e w' => e = .returned (.int .i64 (cyV a s y)) ∧ Below w.heap.size w w' := by
 have m0 : 0 ≤ a * y := Int.mul_nonneg ha.1 hy.1
 have m1 : a * y ≤ 1000000000000 * 9999 := Int.mul_le_mul ha.2 hy.2 hy.1 (by omega)
 have m2 : 0 ≤ a * y / (10000 - y) := Int.ediv_nonneg m0 (by omega)
 have m3 : a * y / (10000 - y) ≤ a * y := Int.ediv_le_self _ m0
 have y1 : IntKind.i64.wrap (a * y) = a * y := IntWalk.i64_in _ (by omega)
 have y2 : IntKind.i64.wrap (10000 - y) = 10000 - y := IntWalk.i64_in _ (by omega)
 have y3 : (a * y).tdiv (10000 - y) = a * y / (10000 - y) := Int.tdiv_eq_ediv_of_nonneg m0
 have y4 : IntKind.i64.wrap (a * y / (10000 - y)) = a * y / (10000 - y) := IntWalk.i64_in _ (by omega)
 have y5 : IntKind.i64.wrap (s - a * y / (10000 - y)) = s - a * y / (10000 - y) := IntWalk.i64_in _ (by omega)
 have y6 : (10000 - y == 0) = false := by simp; omega
 have y7 : decide (10000 - y = 0) = false := decide_eq_false (by omega)
 have y8 : ¬ (10000 - y = 0) := by omega
 have hr : Hid (cyV a s y = max 0 (s - a * y / (10000 - y))) := Lib.hid rfl
 rw [hr.out]
 clear hr m0 m1 m2 m3
 obtain ⟨M, hM⟩ : ∃ M, a * y = M := ⟨_, rfl⟩
 rw [hM] at y1 y3 y4 y5 ⊢
 obtain ⟨N, hN⟩ : ∃ N, 10000 - y = N := ⟨_, rfl⟩
 rw [hN] at y2 y3 y4 y5 y6 y7 y8 ⊢
 obtain ⟨Q, hQ⟩ : ∃ Q, M / N = Q := ⟨_, rfl⟩
 rw [hQ] at y3 y4 y5 ⊢
 obtain ⟨Z, hZ⟩ : ∃ Z, s - Q = Z := ⟨_, rfl⟩
 rw [hZ] at y5 ⊢
 have k1 := Lib.hid hM
 have y9 : IntKind.i64.wrap (a * y) = M := by rw [hM]; exact y1
 have y10 : IntKind.i64.wrap (10000 - y) = N := by rw [hN]; exact y2
 have y11 : IntKind.i64.wrap (s - Q) = Z := by rw [hZ]; exact y5
 have hmx := fun tys ty w => jmax2 (P := Tryz.prog) tys ty .i64 0 Z w
 clear hM hN hQ hZ k1 hy ha hs
 go_enter Tryz.func50, Tryz.ntmps50
 go_wp2_with fail
 have hb : Below w.heap.size w (w.alloc (Obj.cells #[.int .i64 a, .int .i64 s] 29)) := ((Below.refl _ _).alloc (Nat.le_refl _) _)
 have b0 : (w.alloc (Obj.cells #[.int .i64 a, .int .i64 s] 29)).cell? ⟨w.heap.size, 0, none⟩ = some (.int .i64 a) := by simp [go_sem]
 have b1 : (w.alloc (Obj.cells #[.int .i64 a, .int .i64 s] 29)).cell? ⟨w.heap.size, 1, none⟩ = some (.int .i64 s) := by simp [go_sem]
 have nb : w.heap.size < (w.alloc (Obj.cells #[.int .i64 a, .int .i64 s] 29)).heap.size := by simp <;> omega
 have hB := hb
 clear hb
 generalize (w.alloc (Obj.cells #[.int .i64 a, .int .i64 s] 29)) = W1 at *
 have hBW : W1.heap.size ≤ W1.heap.size := Nat.le_refl _
 refine wp_region_held_drew (S := fun w' => w'.cell? ⟨w.heap.size, 0, none⟩ = some (.int .i64 a) ∧ w'.cell? ⟨w.heap.size, 1, none⟩ = some (.int .i64 s) ∧ True) (by kernel_rfl) ?_ (fun hHeld => ?_)
 focus (exact ⟨b0, b1, trivial⟩)
 have hL : Below W1.heap.size W1 W1.drew := Below.drew (Below.refl _ _)
 replace b0 : W1.drew.cell? ⟨w.heap.size, 0, none⟩ = some (.int .i64 a) := b0
 replace b1 : W1.drew.cell? ⟨w.heap.size, 1, none⟩ = some (.int .i64 s) := b1
 replace nb : w.heap.size < W1.drew.heap.size := nb
 generalize hWd : W1.drew = wd2 at hHeld hL b0 b1 nb  ⊢
 clear hWd
 refine tq 0 5 ?_ ?_ ?_; rotate_left; (focus intro w h; (try dsimp only at h); go_simp; try with_reducible rfl); try simp only [sA, sB, sC]
 refine tq 1 6 ?_ ?_ ?_; rotate_left; (focus intro w h; (try dsimp only at h); go_simp; try with_reducible rfl); try simp only [sA, sB, sC]
 refine tq 2 7 ?_ ?_ ?_; rotate_left; (focus intro w h; (try dsimp only at h); go_simp; try with_reducible rfl); try simp only [sA, sB, sC]
 refine tq 3 8 ?_ ?_ ?_; rotate_left; (focus intro w h; (try dsimp only at h); go_simp; try with_reducible rfl); try simp only [sA, sB, sC]
 refine tq 4 9 ?_ ?_ ?_; rotate_left; (focus intro w h; (try dsimp only at h); go_simp; try with_reducible rfl); try simp only [sA, sB, sC]
 refine tq 5 10 ?_ ?_ ?_; rotate_left; (focus intro w h; (try dsimp only at h); go_simp; try with_reducible rfl); try simp only [sA, sB, sC]
 refine tq 6 11 ?_ ?_ ?_; rotate_left; (focus intro w h; (try dsimp only at h); go_simp; try with_reducible rfl); try simp only [sA, sB, sC]
 refine tq 7 12 ?_ ?_ ?_; rotate_left; (focus intro w h; (try dsimp only at h); go_simp; try with_reducible rfl); try simp only [sA, sB, sC]
 refine tq 8 13 ?_ ?_ ?_; rotate_left; (focus intro w h; (try dsimp only at h); go_simp; try with_reducible rfl); try simp only [sA, sB, sC]
 refine tq 9 14 ?_ ?_ ?_; rotate_left; (focus intro w h; (try dsimp only at h); go_simp; try with_reducible rfl); try simp only [sA, sB, sC]
 refine tq 10 15 ?_ ?_ ?_; rotate_left; (focus intro w h; (try dsimp only at h); go_simp; try with_reducible rfl); try simp only [sA, sB, sC]
 refine tq 11 4 ?_ ?_ ?_; rotate_left; (focus intro w h; (try dsimp only at h); go_simp; try with_reducible rfl); try simp only [sA, sB, sC]
 refine wpAnyH_done (by kernel_rfl) ?_ _
 replace hB := hB.trans (hL.mono hB.size)
 clear hHeld hL hBW
 go_wp2_with fail
 go_ret
 exact ⟨rfl, hB⟩

/-- the mass of sap that is boiled to a density -/
def bdV (a s b : Int) : Int := a + s - boilW a s b
theorem spB_ge {a s : Int} (h : spB a s = true) : 0 ≤ a ∧ a ≤ 1000000000000 ∧ 0 ≤ s ∧ s ≤ 1000000000000 := by simp [spB] at h; omega
theorem boilW_bd {a s b : Int} (h : spB a s = true) (hb : 1 ≤ b) : 0 ≤ boilW a s b ∧ boilW a s b ≤ a + s := by
 have := spB_ge h
 unfold boilW
 split
 ·have h1 : 0 ≤ s * 10000 / b := Int.ediv_nonneg (by omega) (by omega)
  omega
 ·omega

set_option maxRecDepth 20000 in
set_option maxHeartbeats 1000000 in
theorem boiled_any (a s b : Int) (h : spB a s = true) (hb : 1 ≤ b ∧ b ≤ 10000) (w : World) :
  Calls Tryz.prog 63 #[.agg #[.int .i64 a, .int .i64 s], .int .i64 b] w fun e w' => e = .returned (.int .i64 (bdV a s b)) ∧ Below w.heap.size w w' := by
 have C1 := Lib.hid (fun (W : World) => boil_any a s b W)
 have h1 := boilW_bd (b := b) h hb.1
 have h2 := spB_ge h
 have hr : bdV a s b = a + s - boilW a s b := rfl
 rw [hr]
 generalize boilW a s b = B at *
 generalize boilE a s b = E at *
 have y1 : IntKind.i64.wrap (a + s) = a + s := IntWalk.i64_in _ (by omega)
 have y2 : IntKind.i64.wrap (a + s - B) = a + s - B := IntWalk.i64_in _ (by omega)
 clear h1 h2 h hb hr
 go_enter Tryz.func63, Tryz.ntmps63
 go_wp2_with fail
 refine (C1.out _).mono ?_
 rintro e W1 ⟨rfl, hb⟩
 have b0 := cell_next hb (b := w.heap.size) (o := 0) (by simp <;> omega) (v := some (.int .i64 a)) (by simp [go_sem])
 have b1 := cell_next hb (b := w.heap.size) (o := 1) (by simp <;> omega) (v := some (.int .i64 s)) (by simp [go_sem])
 have nb : w.heap.size < W1.heap.size := by have := hb.size; simp at this; omega
 have hB := (below1 hb)
 clear hb
 go_wp2_with fail
 go_ret
 exact ⟨rfl, hB⟩

theorem tab_val {xs : List (Int × Int)} (ht : TabOk xs) {lo hi : Int} (hr : ∀ p ∈ xs, lo ≤ p.2 ∧ p.2 ≤ hi) {x : Int} (hc : covB xs x = true) : lo ≤ (valV xs x).1 ∧ (valV xs x).1 ≤ hi ∧ lo ≤ (valV xs x).2 ∧ (valV xs x).2 ≤ hi ∧ (valV xs x).1 ≤ (valV xs x).2 := by
 have hg := valV_gap ht hc
 obtain ⟨k, p, q, hp, hq, h1, h2, _⟩ := seg_first ht hc
 have hpq := ht.2.2.2 k (k + 1) p q (by omega) hp hq
 have r1 := hr p (List.mem_of_getElem? hp)
 have r2 := hr q (List.mem_of_getElem? hq)
 rw [seg_val ht hp hq x h1 h2] at hg ⊢
 have := seg_between hpq h1 h2
 omega
theorem vsJ_in (a b lo hi : Int) : ∀ (l : List (Int × Int)) (s : Int × Int), (∀ p ∈ l, lo ≤ p.2 ∧ p.2 ≤ hi) → lo ≤ s.1 → s.1 ≤ s.2 → s.2 ≤ hi → lo ≤ (l.foldl (vsJ a b) s).1 ∧ (l.foldl (vsJ a b) s).1 ≤ (l.foldl (vsJ a b) s).2 ∧ (l.foldl (vsJ a b) s).2 ≤ hi := by
 intro l
 induction l with
 | nil => intro s _ h1 h2 h3; exact ⟨h1, h2, h3⟩
 | cons q l ih =>
  intro s hl h1 h2 h3
  rw [List.foldl_cons]
  have hq := hl q (List.mem_cons_self ..)
  refine ih _ (fun p hp => hl p (List.mem_cons_of_mem _ hp)) ?_ ?_ ?_ <;> (unfold vsJ; split <;> first | omega | (simp only; omega))
theorem vals_in {xs : List (Int × Int)} (ht : TabOk xs) {lo hi : Int} (hr : ∀ p ∈ xs, lo ≤ p.2 ∧ p.2 ≤ hi) {a b : Int} (ha : covB xs a = true) (hb : covB xs b = true) : lo ≤ (valsV xs a b).1 ∧ (valsV xs a b).1 ≤ (valsV xs a b).2 ∧ (valsV xs a b).2 ≤ hi := by
 have h1 := tab_val ht hr ha
 have h2 := tab_val ht hr hb
 unfold valsV
 refine vsJ_in a b lo hi xs _ hr ?_ ?_ ?_
 ·show lo ≤ min (valV xs a).1 (valV xs b).1; omega
 ·show min (valV xs a).1 (valV xs b).1 ≤ max (valV xs a).2 (valV xs b).2; omega
 ·show max (valV xs a).2 (valV xs b).2 ≤ hi; omega
theorem sl_vals {ys : List (Int × Int)} (h : slB ys = true) {tl th : Int} (he : vlE ys tl th = 0) : 0 ≤ (vlR ys tl th).1 ∧ (vlR ys tl th).1 ≤ (vlR ys tl th).2 ∧ (vlR ys tl th).2 ≤ 9999 := by
 obtain ⟨ht, hr⟩ := slB_ok h
 have e : vlR ys tl th = valsV ys tl th := by unfold vlR; rw [if_pos he]
 rw [e]
 unfold vlE at he
 rw [if_pos (tabE_of ht)] at he
 split at he
 ·split at he
  ·rename_i h1 h2
   exact vals_in ht (fun p hp => by have := hr p hp; omega) h2.1 h2.2
  ·omega
 ·omega
noncomputable def ccE (R : Cr) (a s tl th : Int) : Int := if crB R then (if spB a s then vlE R.ys tl th else 2) else 2
noncomputable def ccR (R : Cr) (a s tl th : Int) : Int × Int := if ccE R a s tl th = 0 then (cyV a s (vlR R.ys tl th).2, cyV a s (vlR R.ys tl th).1) else (0, 0)

set_option maxRecDepth 20000 in
set_option maxHeartbeats 1000000 in
theorem jCrystals_any (v1 v2 v3 : Value) (R : Cr) (a s tl th : Int) (w : World) (hv : CrAt w.heap.size w v1 v2 v3 R) :
  Calls Tryz.prog 15 #[.agg (cCr v1 v2 v3 R).toArray, .agg #[.int .i64 a, .int .i64 s], .agg #[.int .i64 tl, .int .i64 th]] w fun e w' => e = .returned (.tuple #[.agg #[.int .i64 (ccR R a s tl th).1, .int .i64 (ccR R a s tl th).2], .int .i64 (ccE R a s tl th)]) ∧ Below w.heap.size w w' := by
 have C1 := Lib.hid (fun (W : World) (h : Below w.heap.size w W) => jCheck_any v1 v2 v3 R W (hv.next h))
 have C2 := Lib.hid (fun (W : World) => jvSap_any a s W)
 have C3 := Lib.hid (fun (W : World) (h : Below w.heap.size w W) => values_any v2 R.ys tl th W (hv.next h).s)
 have C4 := Lib.hid (fun (h0 : crB R = true) (h1 : spB a s = true) (h2 : vlE R.ys tl th = 0) (W : World) => crystals_any a s (vlR R.ys tl th).2 (by have := spB_ge h1; omega) (by have := spB_ge h1; omega) (by have := sl_vals (crB_ok h0).2.1 h2; omega) W)
 have C5 := Lib.hid (fun (h0 : crB R = true) (h1 : spB a s = true) (h2 : vlE R.ys tl th = 0) (W : World) => crystals_any a s (vlR R.ys tl th).1 (by have := spB_ge h1; omega) (by have := spB_ge h1; omega) (by have := sl_vals (crB_ok h0).2.1 h2; omega) W)
 obtain ⟨E, hE⟩ : ∃ E, ccE R a s tl th = E := ⟨_, rfl⟩
 obtain ⟨D, hD⟩ : ∃ D, ccR R a s tl th = D := ⟨_, rfl⟩
 have HD : Hid (D = if E = 0 then (cyV a s (vlR R.ys tl th).2, cyV a s (vlR R.ys tl th).1) else (0, 0)) := Lib.hid (by rw [← hD, ← hE]; rfl)
 have HE : Hid (E = if crB R then (if spB a s then vlE R.ys tl th else 2) else 2) := Lib.hid (by rw [← hE]; rfl)
 rw [hE, hD]
 obtain ⟨A1, c1, A2, c2, A3, c3, rfl, rfl, rfl⟩ := hv.slices
 clear hv hE hD
 obtain ⟨xs, ys, bl, bh, ps⟩ := R
 dsimp only [cCr] at *
 generalize crB ⟨xs, ys, bl, bh, ps⟩ = z1 at *
 generalize spB a s = z2 at *
 generalize cyV a s (vlR ys tl th).2 = K1 at *
 generalize cyV a s (vlR ys tl th).1 = K2 at *
 generalize vlR ys tl th = V at *
 generalize vlE ys tl th = e3 at *
 generalize xs.length = n1 at *
 generalize ys.length = n2 at *
 generalize ps.length = n3 at *
 go_enter Tryz.func15, Tryz.ntmps15
 go_wp2_with fail
 refine (C1.out _ (((((Below.refl _ _).alloc (Nat.le_refl _) _).alloc (by simp) _).alloc (by simp <;> omega) _).alloc (by simp <;> omega) _)).mono ?_
 rintro e W1 ⟨rfl, hb⟩
 have s0 := cell_next hb (b := w.heap.size) (o := 0) (by simp <;> omega) (v := some (.slice A1 n1 c1)) (by simp [go_sem])
 have s1 := cell_next hb (b := w.heap.size) (o := 1) (by simp <;> omega) (v := some (.slice A2 n2 c2)) (by simp [go_sem])
 have s2 := cell_next hb (b := w.heap.size) (o := 2) (by simp <;> omega) (v := some (.int .i64 bl)) (by simp [go_sem])
 have s3 := cell_next hb (b := w.heap.size) (o := 3) (by simp <;> omega) (v := some (.int .i64 bh)) (by simp [go_sem])
 have s4 := cell_next hb (b := w.heap.size) (o := 4) (by simp <;> omega) (v := some (.slice A3 n3 c3)) (by simp [go_sem])
 have ns : w.heap.size < W1.heap.size := by have := hb.size; simp at this; omega
 have q0 := cell_next hb (b := w.heap.size + 1) (o := 0) (by simp <;> omega) (v := some (.int .i64 a)) (by simp [go_sem])
 have q1 := cell_next hb (b := w.heap.size + 1) (o := 1) (by simp <;> omega) (v := some (.int .i64 s)) (by simp [go_sem])
 have nq : w.heap.size + 1 < W1.heap.size := by have := hb.size; simp at this; omega
 have t0 := cell_next hb (b := w.heap.size + 1 + 1) (o := 0) (by simp <;> omega) (v := some (.int .i64 tl)) (by simp [go_sem])
 have t1 := cell_next hb (b := w.heap.size + 1 + 1) (o := 1) (by simp <;> omega) (v := some (.int .i64 th)) (by simp [go_sem])
 have nt : w.heap.size + 1 + 1 < W1.heap.size := by have := hb.size; simp at this; omega
 have r0 := cell_next hb (b := w.heap.size + 1 + 1 + 1) (o := 0) (by simp <;> omega) (v := some (.int .i64 0)) (by simp [go_sem])
 have fr0 := frozen_next hb (b := w.heap.size + 1 + 1 + 1) (o := 0) (by simp <;> omega) (v := false) (by simp [go_sem])
 have r1 := cell_next hb (b := w.heap.size + 1 + 1 + 1) (o := 1) (by simp <;> omega) (v := some (.int .i64 0)) (by simp [go_sem])
 have fr1 := frozen_next hb (b := w.heap.size + 1 + 1 + 1) (o := 1) (by simp <;> omega) (v := false) (by simp [go_sem])
 have nr : w.heap.size + 1 + 1 + 1 < W1.heap.size := by have := hb.size; simp at this; omega
 have hB := (below4 hb)
 clear hb
 cases z1
 ·obtain rfl : E = 2 := HE.out.trans (by simp [*])
  obtain rfl : D = (0, 0) := HD.out.trans (by simp [*])
  clear HE HD
  go_wp2_with fail
  refine bodyPost_ret (v := .tuple #[.agg #[.int .i64 0, .int .i64 0], .int .i64 2]) (by simp [results, Tryz.results15, go_sem, r0, r1, fr0, fr1]) rfl ⟨rfl, ?_⟩
  exact ((hB.setCell (p := ⟨w.heap.size + 1 + 1 + 1, 0, none⟩) (by simp <;> omega) _).setCell (p := ⟨w.heap.size + 1 + 1 + 1, 1, none⟩) (by simp <;> omega) _)
 ·go_wp2_with fail
  refine (C2.out _).mono ?_
  rintro e W2 ⟨rfl, hb⟩
  replace s0 := cell_next hb ns s0
  replace s1 := cell_next hb ns s1
  replace s2 := cell_next hb ns s2
  replace s3 := cell_next hb ns s3
  replace s4 := cell_next hb ns s4
  replace ns := Nat.lt_of_lt_of_le ns hb.size
  replace q0 := cell_next hb nq q0
  replace q1 := cell_next hb nq q1
  replace nq := Nat.lt_of_lt_of_le nq hb.size
  replace t0 := cell_next hb nt t0
  replace t1 := cell_next hb nt t1
  replace nt := Nat.lt_of_lt_of_le nt hb.size
  replace r0 := cell_next hb nr r0
  replace fr0 := frozen_next hb nr fr0
  replace r1 := cell_next hb nr r1
  replace fr1 := frozen_next hb nr fr1
  replace nr := Nat.lt_of_lt_of_le nr hb.size
  replace hB := hB.trans (hb.mono hB.size)
  clear hb
  cases z2
  ·obtain rfl : E = 2 := HE.out.trans (by simp [*])
   obtain rfl : D = (0, 0) := HD.out.trans (by simp [*])
   clear HE HD
   go_wp2_with fail
   refine bodyPost_ret (v := .tuple #[.agg #[.int .i64 0, .int .i64 0], .int .i64 2]) (by simp [results, Tryz.results15, go_sem, r0, r1, fr0, fr1]) rfl ⟨rfl, ?_⟩
   exact ((hB.setCell (p := ⟨w.heap.size + 1 + 1 + 1, 0, none⟩) (by simp <;> omega) _).setCell (p := ⟨w.heap.size + 1 + 1 + 1, 1, none⟩) (by simp <;> omega) _)
  ·go_wp2_with fail
   refine (C3.out _ hB).mono ?_
   rintro e W3 ⟨rfl, hb⟩
   replace s0 := cell_next hb ns s0
   replace s1 := cell_next hb ns s1
   replace s2 := cell_next hb ns s2
   replace s3 := cell_next hb ns s3
   replace s4 := cell_next hb ns s4
   replace ns := Nat.lt_of_lt_of_le ns hb.size
   replace q0 := cell_next hb nq q0
   replace q1 := cell_next hb nq q1
   replace nq := Nat.lt_of_lt_of_le nq hb.size
   replace t0 := cell_next hb nt t0
   replace t1 := cell_next hb nt t1
   replace nt := Nat.lt_of_lt_of_le nt hb.size
   replace r0 := cell_next hb nr r0
   replace fr0 := frozen_next hb nr fr0
   replace r1 := cell_next hb nr r1
   replace fr1 := frozen_next hb nr fr1
   replace nr := Nat.lt_of_lt_of_le nr hb.size
   replace hB := hB.trans (hb.mono hB.size)
   clear hb
   by_cases h3 : e3 = 0
   ·subst h3
    obtain rfl : E = 0 := HE.out.trans (by simp)
    obtain rfl : D = (K1, K2) := HD.out.trans (by simp)
    clear HE HD
    replace C4 := Lib.hid (C4.out (by simp) (by simp) (by simp))
    replace C5 := Lib.hid (C5.out (by simp) (by simp) (by simp))
    go_wp2_with fail
    have oV := nr
    have hb : Below W3.heap.size W3 (W3.alloc (Obj.cells #[.int .i64 (V.1), .int .i64 (V.2)] 24)) := ((Below.refl _ _).alloc (Nat.le_refl _) _)
    replace s0 := cell_next hb ns s0
    replace s1 := cell_next hb ns s1
    replace s2 := cell_next hb ns s2
    replace s3 := cell_next hb ns s3
    replace s4 := cell_next hb ns s4
    replace ns := Nat.lt_of_lt_of_le ns hb.size
    replace q0 := cell_next hb nq q0
    replace q1 := cell_next hb nq q1
    replace nq := Nat.lt_of_lt_of_le nq hb.size
    replace t0 := cell_next hb nt t0
    replace t1 := cell_next hb nt t1
    replace nt := Nat.lt_of_lt_of_le nt hb.size
    replace r0 := cell_next hb nr r0
    replace fr0 := frozen_next hb nr fr0
    replace r1 := cell_next hb nr r1
    replace fr1 := frozen_next hb nr fr1
    replace nr := Nat.lt_of_lt_of_le nr hb.size
    have V0 : (W3.alloc (Obj.cells #[.int .i64 (V.1), .int .i64 (V.2)] 24)).cell? ⟨W3.heap.size, 0, none⟩ = some (.int .i64 (V.1)) := by simp [go_sem]
    have V1 : (W3.alloc (Obj.cells #[.int .i64 (V.1), .int .i64 (V.2)] 24)).cell? ⟨W3.heap.size, 1, none⟩ = some (.int .i64 (V.2)) := by simp [go_sem]
    have nV : W3.heap.size < (W3.alloc (Obj.cells #[.int .i64 (V.1), .int .i64 (V.2)] 24)).heap.size := by simp <;> omega
    replace hB := hB.trans (hb.mono hB.size)
    clear hb
    generalize (W3.alloc (Obj.cells #[.int .i64 (V.1), .int .i64 (V.2)] 24)) = W4 at *
    generalize W3.heap.size = q4 at *
    have hBW : w.heap.size ≤ W4.heap.size := hB.size
    refine wp_region_held_drew (S := fun w' => w'.cell? ⟨w.heap.size + 1, 0, none⟩ = some (.int .i64 a) ∧ w'.cell? ⟨w.heap.size + 1, 1, none⟩ = some (.int .i64 s) ∧ w'.cell? ⟨q4, 0, none⟩ = some (.int .i64 (V.1)) ∧ w'.cell? ⟨q4, 1, none⟩ = some (.int .i64 (V.2)) ∧ True) (by kernel_rfl) ?_ (fun hHeld => ?_)
    focus (exact ⟨q0, q1, V0, V1, trivial⟩)
    have hL : Below w.heap.size W4 W4.drew := Below.drew (Below.refl _ _)
    replace s0 : W4.drew.cell? ⟨w.heap.size, 0, none⟩ = some (.slice A1 n1 c1) := s0
    replace s1 : W4.drew.cell? ⟨w.heap.size, 1, none⟩ = some (.slice A2 n2 c2) := s1
    replace s2 : W4.drew.cell? ⟨w.heap.size, 2, none⟩ = some (.int .i64 bl) := s2
    replace s3 : W4.drew.cell? ⟨w.heap.size, 3, none⟩ = some (.int .i64 bh) := s3
    replace s4 : W4.drew.cell? ⟨w.heap.size, 4, none⟩ = some (.slice A3 n3 c3) := s4
    replace q0 : W4.drew.cell? ⟨w.heap.size + 1, 0, none⟩ = some (.int .i64 a) := q0
    replace q1 : W4.drew.cell? ⟨w.heap.size + 1, 1, none⟩ = some (.int .i64 s) := q1
    replace t0 : W4.drew.cell? ⟨w.heap.size + 1 + 1, 0, none⟩ = some (.int .i64 tl) := t0
    replace t1 : W4.drew.cell? ⟨w.heap.size + 1 + 1, 1, none⟩ = some (.int .i64 th) := t1
    replace r0 : W4.drew.cell? ⟨w.heap.size + 1 + 1 + 1, 0, none⟩ = some (.int .i64 0) := r0
    replace fr0 : W4.drew.frozen? ⟨w.heap.size + 1 + 1 + 1, 0, none⟩ = false := fr0
    replace r1 : W4.drew.cell? ⟨w.heap.size + 1 + 1 + 1, 1, none⟩ = some (.int .i64 0) := r1
    replace fr1 : W4.drew.frozen? ⟨w.heap.size + 1 + 1 + 1, 1, none⟩ = false := fr1
    replace V0 : W4.drew.cell? ⟨q4, 0, none⟩ = some (.int .i64 (V.1)) := V0
    replace V1 : W4.drew.cell? ⟨q4, 1, none⟩ = some (.int .i64 (V.2)) := V1
    replace ns : w.heap.size < W4.drew.heap.size := ns
    replace nq : w.heap.size + 1 < W4.drew.heap.size := nq
    replace nt : w.heap.size + 1 + 1 < W4.drew.heap.size := nt
    replace nr : w.heap.size + 1 + 1 + 1 < W4.drew.heap.size := nr
    replace nV : q4 < W4.drew.heap.size := nV
    generalize hWd : W4.drew = wd5 at hHeld hL s0 s1 s2 s3 s4 q0 q1 t0 t1 r0 fr0 r1 fr1 V0 V1 ns nq nt nr nV  ⊢
    clear hWd
    refine tq 0 32 ?_ ?_ ?_; rotate_left; (focus intro w h; (try dsimp only at h); go_simp; try with_reducible rfl); try simp only [sA, sB, sC]
    refine tq 1 33 ?_ ?_ ?_; rotate_left; (focus intro w h; (try dsimp only at h); go_simp; try with_reducible rfl); try simp only [sA, sB, sC]
    refine tq 2 34 ?_ ?_ ?_; rotate_left; (focus intro w h; (try dsimp only at h); go_simp; try with_reducible rfl); try simp only [sA, sB, sC]
    refine tq 4 36 ?_ ?_ ?_; rotate_left; (focus intro w h; (try dsimp only at h); go_simp; try with_reducible rfl); try simp only [sA, sB, sC]
    refine tq 5 37 ?_ ?_ ?_; rotate_left; (focus intro w h; (try dsimp only at h); go_simp; try with_reducible rfl); try simp only [sA, sB, sC]
    refine tq 6 38 ?_ ?_ ?_; rotate_left; (focus intro w h; (try dsimp only at h); go_simp; try with_reducible rfl); try simp only [sA, sB, sC]
    refine rd1 3 (fun K hK => ?_)
    go_simp
    refine (C4.out _).mono ?_
    rintro e Z5x1 ⟨rfl, hb⟩
    replace s0 := cell_next hb ns s0
    replace s1 := cell_next hb ns s1
    replace s2 := cell_next hb ns s2
    replace s3 := cell_next hb ns s3
    replace s4 := cell_next hb ns s4
    replace q0 := cell_next hb nq q0
    replace q1 := cell_next hb nq q1
    replace t0 := cell_next hb nt t0
    replace t1 := cell_next hb nt t1
    replace r0 := cell_next hb nr r0
    replace fr0 := frozen_next hb nr fr0
    replace r1 := cell_next hb nr r1
    replace fr1 := frozen_next hb nr fr1
    replace V0 := cell_next hb nV V0
    replace V1 := cell_next hb nV V1
    replace ns := Nat.lt_of_lt_of_le ns hb.size
    replace nq := Nat.lt_of_lt_of_le nq hb.size
    replace nt := Nat.lt_of_lt_of_le nt hb.size
    replace nr := Nat.lt_of_lt_of_le nr hb.size
    replace nV := Nat.lt_of_lt_of_le nV hb.size
    replace hL := hL.trans (hb.mono (Nat.le_trans hBW hL.size))
    refine hK.out _ _ ⟨q0, q1, V0, V1, trivial⟩ (fun hHeld => ?_)
    clear hK K hb
    try simp only [Act.put, sA, sB, sC]
    refine rd1 7 (fun K hK => ?_)
    go_simp
    refine (C5.out _).mono ?_
    rintro e Z5x2 ⟨rfl, hb⟩
    replace s0 := cell_next hb ns s0
    replace s1 := cell_next hb ns s1
    replace s2 := cell_next hb ns s2
    replace s3 := cell_next hb ns s3
    replace s4 := cell_next hb ns s4
    replace q0 := cell_next hb nq q0
    replace q1 := cell_next hb nq q1
    replace t0 := cell_next hb nt t0
    replace t1 := cell_next hb nt t1
    replace r0 := cell_next hb nr r0
    replace fr0 := frozen_next hb nr fr0
    replace r1 := cell_next hb nr r1
    replace fr1 := frozen_next hb nr fr1
    replace V0 := cell_next hb nV V0
    replace V1 := cell_next hb nV V1
    replace ns := Nat.lt_of_lt_of_le ns hb.size
    replace nq := Nat.lt_of_lt_of_le nq hb.size
    replace nt := Nat.lt_of_lt_of_le nt hb.size
    replace nr := Nat.lt_of_lt_of_le nr hb.size
    replace nV := Nat.lt_of_lt_of_le nV hb.size
    replace hL := hL.trans (hb.mono (Nat.le_trans hBW hL.size))
    refine hK.out _ _ ⟨q0, q1, V0, V1, trivial⟩ (fun hHeld => ?_)
    clear hK K hb
    try simp only [Act.put, sA, sB, sC]
    refine tq 8 40 ?_ ?_ ?_; rotate_left; (focus intro w h; (try dsimp only at h); go_simp; try with_reducible rfl); try simp only [sA, sB, sC]
    refine rd1 9 (fun K hK => ?_)
    go_simp
    replace s0 : ((Z5x2.setCell ⟨w.heap.size + 1 + 1 + 1, 0, none⟩ (.int .i64 K1)).setCell ⟨w.heap.size + 1 + 1 + 1, 1, none⟩ (.int .i64 K2)).cell? ⟨w.heap.size, 0, none⟩ = some (.slice A1 n1 c1) := ((so (by omega)).trans ((so (by omega)).trans s0))
    replace s1 : ((Z5x2.setCell ⟨w.heap.size + 1 + 1 + 1, 0, none⟩ (.int .i64 K1)).setCell ⟨w.heap.size + 1 + 1 + 1, 1, none⟩ (.int .i64 K2)).cell? ⟨w.heap.size, 1, none⟩ = some (.slice A2 n2 c2) := ((so (by omega)).trans ((so (by omega)).trans s1))
    replace s2 : ((Z5x2.setCell ⟨w.heap.size + 1 + 1 + 1, 0, none⟩ (.int .i64 K1)).setCell ⟨w.heap.size + 1 + 1 + 1, 1, none⟩ (.int .i64 K2)).cell? ⟨w.heap.size, 2, none⟩ = some (.int .i64 bl) := ((so (by omega)).trans ((so (by omega)).trans s2))
    replace s3 : ((Z5x2.setCell ⟨w.heap.size + 1 + 1 + 1, 0, none⟩ (.int .i64 K1)).setCell ⟨w.heap.size + 1 + 1 + 1, 1, none⟩ (.int .i64 K2)).cell? ⟨w.heap.size, 3, none⟩ = some (.int .i64 bh) := ((so (by omega)).trans ((so (by omega)).trans s3))
    replace s4 : ((Z5x2.setCell ⟨w.heap.size + 1 + 1 + 1, 0, none⟩ (.int .i64 K1)).setCell ⟨w.heap.size + 1 + 1 + 1, 1, none⟩ (.int .i64 K2)).cell? ⟨w.heap.size, 4, none⟩ = some (.slice A3 n3 c3) := ((so (by omega)).trans ((so (by omega)).trans s4))
    replace q0 : ((Z5x2.setCell ⟨w.heap.size + 1 + 1 + 1, 0, none⟩ (.int .i64 K1)).setCell ⟨w.heap.size + 1 + 1 + 1, 1, none⟩ (.int .i64 K2)).cell? ⟨w.heap.size + 1, 0, none⟩ = some (.int .i64 a) := ((so (by omega)).trans ((so (by omega)).trans q0))
    replace q1 : ((Z5x2.setCell ⟨w.heap.size + 1 + 1 + 1, 0, none⟩ (.int .i64 K1)).setCell ⟨w.heap.size + 1 + 1 + 1, 1, none⟩ (.int .i64 K2)).cell? ⟨w.heap.size + 1, 1, none⟩ = some (.int .i64 s) := ((so (by omega)).trans ((so (by omega)).trans q1))
    replace t0 : ((Z5x2.setCell ⟨w.heap.size + 1 + 1 + 1, 0, none⟩ (.int .i64 K1)).setCell ⟨w.heap.size + 1 + 1 + 1, 1, none⟩ (.int .i64 K2)).cell? ⟨w.heap.size + 1 + 1, 0, none⟩ = some (.int .i64 tl) := ((so (by omega)).trans ((so (by omega)).trans t0))
    replace t1 : ((Z5x2.setCell ⟨w.heap.size + 1 + 1 + 1, 0, none⟩ (.int .i64 K1)).setCell ⟨w.heap.size + 1 + 1 + 1, 1, none⟩ (.int .i64 K2)).cell? ⟨w.heap.size + 1 + 1, 1, none⟩ = some (.int .i64 th) := ((so (by omega)).trans ((so (by omega)).trans t1))
    replace r0 : ((Z5x2.setCell ⟨w.heap.size + 1 + 1 + 1, 0, none⟩ (.int .i64 K1)).setCell ⟨w.heap.size + 1 + 1 + 1, 1, none⟩ (.int .i64 K2)).cell? ⟨w.heap.size + 1 + 1 + 1, 0, none⟩ = some (.int .i64 K1) := by simp [go_sem, r0]
    replace fr0 : ((Z5x2.setCell ⟨w.heap.size + 1 + 1 + 1, 0, none⟩ (.int .i64 K1)).setCell ⟨w.heap.size + 1 + 1 + 1, 1, none⟩ (.int .i64 K2)).frozen? ⟨w.heap.size + 1 + 1 + 1, 0, none⟩ = false := by simp [go_sem, fr0]
    replace r1 : ((Z5x2.setCell ⟨w.heap.size + 1 + 1 + 1, 0, none⟩ (.int .i64 K1)).setCell ⟨w.heap.size + 1 + 1 + 1, 1, none⟩ (.int .i64 K2)).cell? ⟨w.heap.size + 1 + 1 + 1, 1, none⟩ = some (.int .i64 K2) := by simp [go_sem, r1]
    replace fr1 : ((Z5x2.setCell ⟨w.heap.size + 1 + 1 + 1, 0, none⟩ (.int .i64 K1)).setCell ⟨w.heap.size + 1 + 1 + 1, 1, none⟩ (.int .i64 K2)).frozen? ⟨w.heap.size + 1 + 1 + 1, 1, none⟩ = false := by simp [go_sem, fr1]
    replace V0 : ((Z5x2.setCell ⟨w.heap.size + 1 + 1 + 1, 0, none⟩ (.int .i64 K1)).setCell ⟨w.heap.size + 1 + 1 + 1, 1, none⟩ (.int .i64 K2)).cell? ⟨q4, 0, none⟩ = some (.int .i64 (V.1)) := ((so (by omega)).trans ((so (by omega)).trans V0))
    replace V1 : ((Z5x2.setCell ⟨w.heap.size + 1 + 1 + 1, 0, none⟩ (.int .i64 K1)).setCell ⟨w.heap.size + 1 + 1 + 1, 1, none⟩ (.int .i64 K2)).cell? ⟨q4, 1, none⟩ = some (.int .i64 (V.2)) := ((so (by omega)).trans ((so (by omega)).trans V1))
    replace ns : w.heap.size < ((Z5x2.setCell ⟨w.heap.size + 1 + 1 + 1, 0, none⟩ (.int .i64 K1)).setCell ⟨w.heap.size + 1 + 1 + 1, 1, none⟩ (.int .i64 K2)).heap.size := by simpa [World.setCell] using ns
    replace nq : w.heap.size + 1 < ((Z5x2.setCell ⟨w.heap.size + 1 + 1 + 1, 0, none⟩ (.int .i64 K1)).setCell ⟨w.heap.size + 1 + 1 + 1, 1, none⟩ (.int .i64 K2)).heap.size := by simpa [World.setCell] using nq
    replace nt : w.heap.size + 1 + 1 < ((Z5x2.setCell ⟨w.heap.size + 1 + 1 + 1, 0, none⟩ (.int .i64 K1)).setCell ⟨w.heap.size + 1 + 1 + 1, 1, none⟩ (.int .i64 K2)).heap.size := by simpa [World.setCell] using nt
    replace nr : w.heap.size + 1 + 1 + 1 < ((Z5x2.setCell ⟨w.heap.size + 1 + 1 + 1, 0, none⟩ (.int .i64 K1)).setCell ⟨w.heap.size + 1 + 1 + 1, 1, none⟩ (.int .i64 K2)).heap.size := by simpa [World.setCell] using nr
    replace nV : q4 < ((Z5x2.setCell ⟨w.heap.size + 1 + 1 + 1, 0, none⟩ (.int .i64 K1)).setCell ⟨w.heap.size + 1 + 1 + 1, 1, none⟩ (.int .i64 K2)).heap.size := by simpa [World.setCell] using nV
    replace hL := hL.setCell (p := ⟨w.heap.size + 1 + 1 + 1, 0, none⟩) (by show w.heap.size ≤ w.heap.size + 1 + 1 + 1; omega) (.int .i64 K1)
    replace hL := hL.setCell (p := ⟨w.heap.size + 1 + 1 + 1, 1, none⟩) (by show w.heap.size ≤ w.heap.size + 1 + 1 + 1; omega) (.int .i64 K2)
    refine hK.out _ _ ⟨q0, q1, V0, V1, trivial⟩ (fun hHeld => ?_)
    clear hK K
    try simp only [Act.put, sA, sB, sC]
    refine tq 10 7 ?_ ?_ ?_; rotate_left; (focus intro w h; (try dsimp only at h); go_simp; try with_reducible rfl); try simp only [sA, sB, sC]
    refine wpAnyH_done (by kernel_rfl) ?_ _
    replace hB := hB.trans hL
    clear hHeld hL hBW
    go_wp2_with fail
    refine bodyPost_ret (v := .tuple #[.agg #[.int .i64 K1, .int .i64 K2], .int .i64 0]) (by simp [results, Tryz.results15, go_sem, r0, r1, fr0, fr1]) rfl ⟨rfl, hB⟩
   ·have h3b : (e3 == 0) = false := by simpa using h3
    have h3c : (e3 != 0) = true := by simpa using h3
    obtain rfl : E = e3 := HE.out.trans (by simp)
    obtain rfl : D = (0, 0) := HD.out.trans (by simp [h3])
    clear HE HD
    go_wp2_with fail
    have s0 : ((W3.setCell ⟨w.heap.size + 1 + 1 + 1, 0, none⟩ (.int .i64 0)).setCell ⟨w.heap.size + 1 + 1 + 1, 1, none⟩ (.int .i64 0)).cell? ⟨w.heap.size + 1 + 1 + 1, 0, none⟩ = some (.int .i64 0) := by simp [go_sem, r0, r1, fr0, fr1]
    have s1 : ((W3.setCell ⟨w.heap.size + 1 + 1 + 1, 0, none⟩ (.int .i64 0)).setCell ⟨w.heap.size + 1 + 1 + 1, 1, none⟩ (.int .i64 0)).cell? ⟨w.heap.size + 1 + 1 + 1, 1, none⟩ = some (.int .i64 0) := by simp [go_sem, r0, r1, fr0, fr1]
    have sn : w.heap.size + 1 + 1 + 1 < ((W3.setCell ⟨w.heap.size + 1 + 1 + 1, 0, none⟩ (.int .i64 0)).setCell ⟨w.heap.size + 1 + 1 + 1, 1, none⟩ (.int .i64 0)).heap.size := by simpa [World.setCell] using nr
    have t0 := cell_next ((Below.refl ((W3.setCell ⟨w.heap.size + 1 + 1 + 1, 0, none⟩ (.int .i64 0)).setCell ⟨w.heap.size + 1 + 1 + 1, 1, none⟩ (.int .i64 0)).heap.size ((W3.setCell ⟨w.heap.size + 1 + 1 + 1, 0, none⟩ (.int .i64 0)).setCell ⟨w.heap.size + 1 + 1 + 1, 1, none⟩ (.int .i64 0))).alloc (Nat.le_refl _) (Obj.cells #[.int .i64 V.1, .int .i64 V.2] 24)) sn s0
    have t1 := cell_next ((Below.refl ((W3.setCell ⟨w.heap.size + 1 + 1 + 1, 0, none⟩ (.int .i64 0)).setCell ⟨w.heap.size + 1 + 1 + 1, 1, none⟩ (.int .i64 0)).heap.size ((W3.setCell ⟨w.heap.size + 1 + 1 + 1, 0, none⟩ (.int .i64 0)).setCell ⟨w.heap.size + 1 + 1 + 1, 1, none⟩ (.int .i64 0))).alloc (Nat.le_refl _) (Obj.cells #[.int .i64 V.1, .int .i64 V.2] 24)) sn s1
    clear s0 s1
    have hB' : Below w.heap.size w (((W3.setCell ⟨w.heap.size + 1 + 1 + 1, 0, none⟩ (.int .i64 0)).setCell ⟨w.heap.size + 1 + 1 + 1, 1, none⟩ (.int .i64 0)).alloc (Obj.cells #[.int .i64 V.1, .int .i64 V.2] 24)) := ((hB.setCell (p := ⟨w.heap.size + 1 + 1 + 1, 0, none⟩) (by simp <;> omega) _).setCell (p := ⟨w.heap.size + 1 + 1 + 1, 1, none⟩) (by simp <;> omega) _).alloc (by simpa [World.setCell] using hB.size) _
    generalize ((W3.setCell ⟨w.heap.size + 1 + 1 + 1, 0, none⟩ (.int .i64 0)).setCell ⟨w.heap.size + 1 + 1 + 1, 1, none⟩ (.int .i64 0)).alloc (Obj.cells #[.int .i64 V.1, .int .i64 V.2] 24) = Wz at *
    refine bodyPost_ret (v := .tuple #[.agg #[.int .i64 0, .int .i64 0], .int .i64 E]) (by simp [results, Tryz.results15, go_sem, t0, t1]) rfl ⟨rfl, hB'⟩

/-- a batch's state -/
structure St where
 dl : Int
 dh : Int
 hl : Int
 hh : Int
 sl : Int
 sh : Int
 tl : Int
 th : Int
 bg : Bool
 se : Int
def cSt (x : St) : List Value := [.int .i64 x.dl, .int .i64 x.dh, .int .i64 x.hl, .int .i64 x.hh, .int .i64 x.sl, .int .i64 x.sh, .int .i64 x.tl, .int .i64 x.th, .bool x.bg, .int .i64 x.se]
def yiB (a s : Int) (x : St) : Bool := spB a s && rgB 1 10000 x.dl x.dh && inB 0 1000000 x.se
def yiE (a s : Int) (x : St) : Int := if yiB a s x then (if s = 0 then 7 else 0) else 2
def yiR (a s : Int) (x : St) : Int × Int := if yiE a s x = 0 then (bdV a s x.dh + x.se, bdV a s x.dl + x.se) else (0, 0)

set_option maxRecDepth 20000 in
set_option maxHeartbeats 2000000 in
theorem yield_any (a s : Int) (x : St) (w : World) :
  Calls Tryz.prog 23 #[.agg #[.int .i64 a, .int .i64 s], .agg (cSt x).toArray] w fun e w' => e = .returned (.tuple #[.agg #[.int .i64 (yiR a s x).1, .int .i64 (yiR a s x).2], .int .i64 (yiE a s x)]) ∧ Below w.heap.size w w' := by
 have C1 := Lib.hid (fun (W : World) => jvSap_any a s W)
 obtain ⟨dl, dh, hl, hh, sl, sh, tl, th, bg, se⟩ := x
 have C2 := Lib.hid (fun (W : World) (g c : Nat) => lie1v_any 1 10000 dl dh g c W)
 have C3 := Lib.hid (fun (W : World) (g c : Nat) => jin1v_any 0 1000000 se g c W)
 have C4 := Lib.hid (fun (h0 : spB a s = true) (h1 : rgB 1 10000 dl dh = true) (W : World) => boiled_any a s dh h0 (by have := rgB_of h1; omega) W)
 have C5 := Lib.hid (fun (h0 : spB a s = true) (h1 : rgB 1 10000 dl dh = true) (W : World) => boiled_any a s dl h0 (by have := rgB_of h1; omega) W)
 have HW := Lib.hid (fun (h0 : spB a s = true) (h1 : rgB 1 10000 dl dh = true) (h2 : inB 0 1000000 se = true) => (⟨IntWalk.i64_in _ (by have := boilW_bd (b := dh) h0 (by have := rgB_of h1; omega); have := spB_ge h0; simp [inB] at h2; unfold bdV; omega), IntWalk.i64_in _ (by have := boilW_bd (b := dl) h0 (by have := rgB_of h1; omega); have := spB_ge h0; simp [inB] at h2; unfold bdV; omega)⟩ : IntKind.i64.wrap (bdV a s dh + se) = bdV a s dh + se ∧ IntKind.i64.wrap (bdV a s dl + se) = bdV a s dl + se))
 obtain ⟨E, hE⟩ : ∃ E, yiE a s ⟨dl, dh, hl, hh, sl, sh, tl, th, bg, se⟩ = E := ⟨_, rfl⟩
 obtain ⟨D, hD⟩ : ∃ D, yiR a s ⟨dl, dh, hl, hh, sl, sh, tl, th, bg, se⟩ = D := ⟨_, rfl⟩
 have HD : Hid (D = if E = 0 then (bdV a s dh + se, bdV a s dl + se) else (0, 0)) := Lib.hid (by rw [← hD, ← hE]; rfl)
 have HE : Hid (E = if (spB a s && rgB 1 10000 dl dh && inB 0 1000000 se) = true then (if s = 0 then 7 else 0) else 2) := Lib.hid (by rw [← hE]; rfl)
 rw [hE, hD]
 clear hE hD
 dsimp only [cSt] at *
 generalize spB a s = z1 at *
 generalize rgB 1 10000 dl dh = z2 at *
 generalize inB 0 1000000 se = z3 at *
 generalize bdV a s dh = K1 at *
 generalize bdV a s dl = K2 at *
 obtain ⟨Y1, hY1⟩ : ∃ Y, K1 + se = Y := ⟨_, rfl⟩
 obtain ⟨Y2, hY2⟩ : ∃ Y, K2 + se = Y := ⟨_, rfl⟩
 rw [hY1, hY2] at HD
 have HY := Lib.hid (And.intro hY1 hY2)
 clear hY1 hY2
 go_enter Tryz.func23, Tryz.ntmps23
 go_wp2_with fail
 refine (C1.out _).mono ?_
 rintro e W1 ⟨rfl, hb⟩
 have q0 := cell_next hb (b := w.heap.size) (o := 0) (by simp <;> omega) (v := some (.int .i64 a)) (by simp [go_sem])
 have q1 := cell_next hb (b := w.heap.size) (o := 1) (by simp <;> omega) (v := some (.int .i64 s)) (by simp [go_sem])
 have nq : w.heap.size < W1.heap.size := by have := hb.size; simp at this; omega
 have x0 := cell_next hb (b := w.heap.size + 1) (o := 0) (by simp <;> omega) (v := some (.int .i64 dl)) (by simp [go_sem])
 have x1 := cell_next hb (b := w.heap.size + 1) (o := 1) (by simp <;> omega) (v := some (.int .i64 dh)) (by simp [go_sem])
 have x2 := cell_next hb (b := w.heap.size + 1) (o := 2) (by simp <;> omega) (v := some (.int .i64 hl)) (by simp [go_sem])
 have x3 := cell_next hb (b := w.heap.size + 1) (o := 3) (by simp <;> omega) (v := some (.int .i64 hh)) (by simp [go_sem])
 have x4 := cell_next hb (b := w.heap.size + 1) (o := 4) (by simp <;> omega) (v := some (.int .i64 sl)) (by simp [go_sem])
 have x5 := cell_next hb (b := w.heap.size + 1) (o := 5) (by simp <;> omega) (v := some (.int .i64 sh)) (by simp [go_sem])
 have x6 := cell_next hb (b := w.heap.size + 1) (o := 6) (by simp <;> omega) (v := some (.int .i64 tl)) (by simp [go_sem])
 have x7 := cell_next hb (b := w.heap.size + 1) (o := 7) (by simp <;> omega) (v := some (.int .i64 th)) (by simp [go_sem])
 have x8 := cell_next hb (b := w.heap.size + 1) (o := 8) (by simp <;> omega) (v := some (.bool bg)) (by simp [go_sem])
 have x9 := cell_next hb (b := w.heap.size + 1) (o := 9) (by simp <;> omega) (v := some (.int .i64 se)) (by simp [go_sem])
 have nx : w.heap.size + 1 < W1.heap.size := by have := hb.size; simp at this; omega
 have r0 := cell_next hb (b := w.heap.size + 1 + 1) (o := 0) (by simp <;> omega) (v := some (.int .i64 0)) (by simp [go_sem])
 have fr0 := frozen_next hb (b := w.heap.size + 1 + 1) (o := 0) (by simp <;> omega) (v := false) (by simp [go_sem])
 have r1 := cell_next hb (b := w.heap.size + 1 + 1) (o := 1) (by simp <;> omega) (v := some (.int .i64 0)) (by simp [go_sem])
 have fr1 := frozen_next hb (b := w.heap.size + 1 + 1) (o := 1) (by simp <;> omega) (v := false) (by simp [go_sem])
 have nr : w.heap.size + 1 + 1 < W1.heap.size := by have := hb.size; simp at this; omega
 have hB := (below3 hb)
 clear hb
 cases z1
 ·obtain rfl : E = 2 := HE.out.trans (by simp [*])
  obtain rfl : D = (0, 0) := HD.out.trans (by simp [*])
  clear HE HD
  go_wp2_with fail
  refine bodyPost_ret (v := .tuple #[.agg #[.int .i64 0, .int .i64 0], .int .i64 2]) (by simp [results, Tryz.results23, go_sem, r0, r1, fr0, fr1]) rfl ⟨rfl, ?_⟩
  exact ((hB.setCell (p := ⟨w.heap.size + 1 + 1, 0, none⟩) (by simp <;> omega) _).setCell (p := ⟨w.heap.size + 1 + 1, 1, none⟩) (by simp <;> omega) _)
 ·go_wp2_with fail
  refine (C2.out _ _ _ (by simp) (by simp [go_sem]) (by simp [go_sem])).mono ?_
  rintro e W2 ⟨rfl, hb⟩
  replace q0 := cell_next (below1 hb) nq q0
  replace q1 := cell_next (below1 hb) nq q1
  replace nq := Nat.lt_of_lt_of_le nq (below1 hb).size
  replace x0 := cell_next (below1 hb) nx x0
  replace x1 := cell_next (below1 hb) nx x1
  replace x2 := cell_next (below1 hb) nx x2
  replace x3 := cell_next (below1 hb) nx x3
  replace x4 := cell_next (below1 hb) nx x4
  replace x5 := cell_next (below1 hb) nx x5
  replace x6 := cell_next (below1 hb) nx x6
  replace x7 := cell_next (below1 hb) nx x7
  replace x8 := cell_next (below1 hb) nx x8
  replace x9 := cell_next (below1 hb) nx x9
  replace nx := Nat.lt_of_lt_of_le nx (below1 hb).size
  replace r0 := cell_next (below1 hb) nr r0
  replace fr0 := frozen_next (below1 hb) nr fr0
  replace r1 := cell_next (below1 hb) nr r1
  replace fr1 := frozen_next (below1 hb) nr fr1
  replace nr := Nat.lt_of_lt_of_le nr (below1 hb).size
  replace hB := hB.trans ((below1 hb).mono hB.size)
  clear hb
  generalize W1.heap.size = q2 at *
  cases z2
  ·obtain rfl : E = 2 := HE.out.trans (by simp [*])
   obtain rfl : D = (0, 0) := HD.out.trans (by simp [*])
   clear HE HD
   go_wp2_with fail
   refine bodyPost_ret (v := .tuple #[.agg #[.int .i64 0, .int .i64 0], .int .i64 2]) (by simp [results, Tryz.results23, go_sem, r0, r1, fr0, fr1]) rfl ⟨rfl, ?_⟩
   exact ((hB.setCell (p := ⟨w.heap.size + 1 + 1, 0, none⟩) (by simp <;> omega) _).setCell (p := ⟨w.heap.size + 1 + 1, 1, none⟩) (by simp <;> omega) _)
  ·go_wp2_with fail
   refine (C3.out _ _ _ (by simp) (by simp [go_sem])).mono ?_
   rintro e W3 ⟨rfl, hb⟩
   replace q0 := cell_next (below1 hb) nq q0
   replace q1 := cell_next (below1 hb) nq q1
   replace nq := Nat.lt_of_lt_of_le nq (below1 hb).size
   replace x0 := cell_next (below1 hb) nx x0
   replace x1 := cell_next (below1 hb) nx x1
   replace x2 := cell_next (below1 hb) nx x2
   replace x3 := cell_next (below1 hb) nx x3
   replace x4 := cell_next (below1 hb) nx x4
   replace x5 := cell_next (below1 hb) nx x5
   replace x6 := cell_next (below1 hb) nx x6
   replace x7 := cell_next (below1 hb) nx x7
   replace x8 := cell_next (below1 hb) nx x8
   replace x9 := cell_next (below1 hb) nx x9
   replace nx := Nat.lt_of_lt_of_le nx (below1 hb).size
   replace r0 := cell_next (below1 hb) nr r0
   replace fr0 := frozen_next (below1 hb) nr fr0
   replace r1 := cell_next (below1 hb) nr r1
   replace fr1 := frozen_next (below1 hb) nr fr1
   replace nr := Nat.lt_of_lt_of_le nr (below1 hb).size
   replace hB := hB.trans ((below1 hb).mono hB.size)
   clear hb
   generalize W2.heap.size = q3 at *
   cases z3
   ·obtain rfl : E = 2 := HE.out.trans (by simp [*])
    obtain rfl : D = (0, 0) := HD.out.trans (by simp [*])
    clear HE HD
    go_wp2_with fail
    refine bodyPost_ret (v := .tuple #[.agg #[.int .i64 0, .int .i64 0], .int .i64 2]) (by simp [results, Tryz.results23, go_sem, r0, r1, fr0, fr1]) rfl ⟨rfl, ?_⟩
    exact ((hB.setCell (p := ⟨w.heap.size + 1 + 1, 0, none⟩) (by simp <;> omega) _).setCell (p := ⟨w.heap.size + 1 + 1, 1, none⟩) (by simp <;> omega) _)
   ·by_cases h0 : s = 0
    ·obtain rfl : E = 7 := HE.out.trans (by simp [*])
     obtain rfl : D = (0, 0) := HD.out.trans (by simp [*])
     clear HE HD
     go_wp2_with fail
     refine bodyPost_ret (v := .tuple #[.agg #[.int .i64 0, .int .i64 0], .int .i64 7]) (by simp [results, Tryz.results23, go_sem, r0, r1, fr0, fr1]) rfl ⟨rfl, ?_⟩
     exact ((hB.setCell (p := ⟨w.heap.size + 1 + 1, 0, none⟩) (by simp <;> omega) _).setCell (p := ⟨w.heap.size + 1 + 1, 1, none⟩) (by simp <;> omega) _)
    ·have h0b : (s == 0) = false := by simpa using h0
     obtain rfl : E = 0 := HE.out.trans (by simp [h0])
     obtain rfl : D = (Y1, Y2) := HD.out.trans (by simp)
     clear HE HD
     replace C4 := Lib.hid (C4.out (by simp) (by simp))
     replace C5 := Lib.hid (C5.out (by simp) (by simp))
     obtain ⟨y1, y2⟩ := HW.out (by simp) (by simp) (by simp)
     clear HW
     have y3 : IntKind.i64.wrap (K1 + se) = Y1 := y1.trans HY.out.1
     have y4 : IntKind.i64.wrap (K2 + se) = Y2 := y2.trans HY.out.2
     clear y1 y2 HY
     clear x2 x3 x4 x5 x6 x7 x8
     go_wp2_with fail
     have hBW : w.heap.size ≤ W3.heap.size := hB.size
     refine wp_region_held_drew (S := fun w' => w'.cell? ⟨w.heap.size, 0, none⟩ = some (.int .i64 a) ∧ w'.cell? ⟨w.heap.size, 1, none⟩ = some (.int .i64 s) ∧ w'.cell? ⟨w.heap.size + 1, 0, none⟩ = some (.int .i64 dl) ∧ w'.cell? ⟨w.heap.size + 1, 1, none⟩ = some (.int .i64 dh) ∧ w'.cell? ⟨w.heap.size + 1, 9, none⟩ = some (.int .i64 se) ∧ True) (by kernel_rfl) ?_ (fun hHeld => ?_)
     focus (exact ⟨q0, q1, x0, x1, x9, trivial⟩)
     have hL : Below w.heap.size W3 W3.drew := Below.drew (Below.refl _ _)
     replace q0 : W3.drew.cell? ⟨w.heap.size, 0, none⟩ = some (.int .i64 a) := q0
     replace q1 : W3.drew.cell? ⟨w.heap.size, 1, none⟩ = some (.int .i64 s) := q1
     replace x0 : W3.drew.cell? ⟨w.heap.size + 1, 0, none⟩ = some (.int .i64 dl) := x0
     replace x1 : W3.drew.cell? ⟨w.heap.size + 1, 1, none⟩ = some (.int .i64 dh) := x1
     replace x9 : W3.drew.cell? ⟨w.heap.size + 1, 9, none⟩ = some (.int .i64 se) := x9
     replace r0 : W3.drew.cell? ⟨w.heap.size + 1 + 1, 0, none⟩ = some (.int .i64 0) := r0
     replace fr0 : W3.drew.frozen? ⟨w.heap.size + 1 + 1, 0, none⟩ = false := fr0
     replace r1 : W3.drew.cell? ⟨w.heap.size + 1 + 1, 1, none⟩ = some (.int .i64 0) := r1
     replace fr1 : W3.drew.frozen? ⟨w.heap.size + 1 + 1, 1, none⟩ = false := fr1
     replace nq : w.heap.size < W3.drew.heap.size := nq
     replace nx : w.heap.size + 1 < W3.drew.heap.size := nx
     replace nr : w.heap.size + 1 + 1 < W3.drew.heap.size := nr
     generalize hWd : W3.drew = wd4 at hHeld hL q0 q1 x0 x1 x9 r0 fr0 r1 fr1 nq nx nr  ⊢
     clear hWd
     refine tq 0 28 ?_ ?_ ?_; rotate_left; (focus intro w h; (try dsimp only at h); go_simp; try with_reducible rfl); try simp only [sA, sB, sC]
     refine tq 1 29 ?_ ?_ ?_; rotate_left; (focus intro w h; (try dsimp only at h); go_simp; try with_reducible rfl); try simp only [sA, sB, sC]
     refine tq 2 30 ?_ ?_ ?_; rotate_left; (focus intro w h; (try dsimp only at h); go_simp; try with_reducible rfl); try simp only [sA, sB, sC]
     refine tq 3 31 ?_ ?_ ?_; rotate_left; (focus intro w h; (try dsimp only at h); go_simp; try with_reducible rfl); try simp only [sA, sB, sC]
     refine tq 5 33 ?_ ?_ ?_; rotate_left; (focus intro w h; (try dsimp only at h); go_simp; try with_reducible rfl); try simp only [sA, sB, sC]
     refine tq 6 34 ?_ ?_ ?_; rotate_left; (focus intro w h; (try dsimp only at h); go_simp; try with_reducible rfl); try simp only [sA, sB, sC]
     refine tq 8 36 ?_ ?_ ?_; rotate_left; (focus intro w h; (try dsimp only at h); go_simp; try with_reducible rfl); try simp only [sA, sB, sC]
     refine tq 9 37 ?_ ?_ ?_; rotate_left; (focus intro w h; (try dsimp only at h); go_simp; try with_reducible rfl); try simp only [sA, sB, sC]
     refine tq 10 38 ?_ ?_ ?_; rotate_left; (focus intro w h; (try dsimp only at h); go_simp; try with_reducible rfl); try simp only [sA, sB, sC]
     refine tq 11 39 ?_ ?_ ?_; rotate_left; (focus intro w h; (try dsimp only at h); go_simp; try with_reducible rfl); try simp only [sA, sB, sC]
     refine tq 13 41 ?_ ?_ ?_; rotate_left; (focus intro w h; (try dsimp only at h); go_simp; try with_reducible rfl); try simp only [sA, sB, sC]
     refine tq 14 42 ?_ ?_ ?_; rotate_left; (focus intro w h; (try dsimp only at h); go_simp; try with_reducible rfl); try simp only [sA, sB, sC]
     refine rd1 4 (fun K hK => ?_)
     go_simp
     refine (C4.out _).mono ?_
     rintro e Z4x1 ⟨rfl, hb⟩
     replace q0 := cell_next hb nq q0
     replace q1 := cell_next hb nq q1
     replace x0 := cell_next hb nx x0
     replace x1 := cell_next hb nx x1
     replace x9 := cell_next hb nx x9
     replace r0 := cell_next hb nr r0
     replace fr0 := frozen_next hb nr fr0
     replace r1 := cell_next hb nr r1
     replace fr1 := frozen_next hb nr fr1
     replace nq := Nat.lt_of_lt_of_le nq hb.size
     replace nx := Nat.lt_of_lt_of_le nx hb.size
     replace nr := Nat.lt_of_lt_of_le nr hb.size
     replace hL := hL.trans (hb.mono (Nat.le_trans hBW hL.size))
     refine hK.out _ _ ⟨q0, q1, x0, x1, x9, trivial⟩ (fun hHeld => ?_)
     clear hK K hb
     try simp only [Act.put, sA, sB, sC]
     refine tq 7 35 ?_ ?_ ?_; rotate_left; (focus intro w h; (try dsimp only at h); go_simp; try with_reducible rfl); try simp only [sA, sB, sC]
     refine rd1 12 (fun K hK => ?_)
     go_simp
     refine (C5.out _).mono ?_
     rintro e Z4x2 ⟨rfl, hb⟩
     replace q0 := cell_next hb nq q0
     replace q1 := cell_next hb nq q1
     replace x0 := cell_next hb nx x0
     replace x1 := cell_next hb nx x1
     replace x9 := cell_next hb nx x9
     replace r0 := cell_next hb nr r0
     replace fr0 := frozen_next hb nr fr0
     replace r1 := cell_next hb nr r1
     replace fr1 := frozen_next hb nr fr1
     replace nq := Nat.lt_of_lt_of_le nq hb.size
     replace nx := Nat.lt_of_lt_of_le nx hb.size
     replace nr := Nat.lt_of_lt_of_le nr hb.size
     replace hL := hL.trans (hb.mono (Nat.le_trans hBW hL.size))
     refine hK.out _ _ ⟨q0, q1, x0, x1, x9, trivial⟩ (fun hHeld => ?_)
     clear hK K hb
     try simp only [Act.put, sA, sB, sC]
     refine tq 15 43 ?_ ?_ ?_; rotate_left; (focus intro w h; (try dsimp only at h); go_simp; try with_reducible rfl); try simp only [sA, sB, sC]
     refine tq 16 44 ?_ ?_ ?_; rotate_left; (focus intro w h; (try dsimp only at h); go_simp; try with_reducible rfl); try simp only [sA, sB, sC]
     refine rd1 17 (fun K hK => ?_)
     go_simp
     replace q0 : ((Z4x2.setCell ⟨w.heap.size + 1 + 1, 0, none⟩ (.int .i64 Y1)).setCell ⟨w.heap.size + 1 + 1, 1, none⟩ (.int .i64 Y2)).cell? ⟨w.heap.size, 0, none⟩ = some (.int .i64 a) := ((so (by omega)).trans ((so (by omega)).trans q0))
     replace q1 : ((Z4x2.setCell ⟨w.heap.size + 1 + 1, 0, none⟩ (.int .i64 Y1)).setCell ⟨w.heap.size + 1 + 1, 1, none⟩ (.int .i64 Y2)).cell? ⟨w.heap.size, 1, none⟩ = some (.int .i64 s) := ((so (by omega)).trans ((so (by omega)).trans q1))
     replace x0 : ((Z4x2.setCell ⟨w.heap.size + 1 + 1, 0, none⟩ (.int .i64 Y1)).setCell ⟨w.heap.size + 1 + 1, 1, none⟩ (.int .i64 Y2)).cell? ⟨w.heap.size + 1, 0, none⟩ = some (.int .i64 dl) := ((so (by omega)).trans ((so (by omega)).trans x0))
     replace x1 : ((Z4x2.setCell ⟨w.heap.size + 1 + 1, 0, none⟩ (.int .i64 Y1)).setCell ⟨w.heap.size + 1 + 1, 1, none⟩ (.int .i64 Y2)).cell? ⟨w.heap.size + 1, 1, none⟩ = some (.int .i64 dh) := ((so (by omega)).trans ((so (by omega)).trans x1))
     replace x9 : ((Z4x2.setCell ⟨w.heap.size + 1 + 1, 0, none⟩ (.int .i64 Y1)).setCell ⟨w.heap.size + 1 + 1, 1, none⟩ (.int .i64 Y2)).cell? ⟨w.heap.size + 1, 9, none⟩ = some (.int .i64 se) := ((so (by omega)).trans ((so (by omega)).trans x9))
     replace r0 : ((Z4x2.setCell ⟨w.heap.size + 1 + 1, 0, none⟩ (.int .i64 Y1)).setCell ⟨w.heap.size + 1 + 1, 1, none⟩ (.int .i64 Y2)).cell? ⟨w.heap.size + 1 + 1, 0, none⟩ = some (.int .i64 Y1) := by simp [go_sem, r0]
     replace fr0 : ((Z4x2.setCell ⟨w.heap.size + 1 + 1, 0, none⟩ (.int .i64 Y1)).setCell ⟨w.heap.size + 1 + 1, 1, none⟩ (.int .i64 Y2)).frozen? ⟨w.heap.size + 1 + 1, 0, none⟩ = false := by simp [go_sem, fr0]
     replace r1 : ((Z4x2.setCell ⟨w.heap.size + 1 + 1, 0, none⟩ (.int .i64 Y1)).setCell ⟨w.heap.size + 1 + 1, 1, none⟩ (.int .i64 Y2)).cell? ⟨w.heap.size + 1 + 1, 1, none⟩ = some (.int .i64 Y2) := by simp [go_sem, r1]
     replace fr1 : ((Z4x2.setCell ⟨w.heap.size + 1 + 1, 0, none⟩ (.int .i64 Y1)).setCell ⟨w.heap.size + 1 + 1, 1, none⟩ (.int .i64 Y2)).frozen? ⟨w.heap.size + 1 + 1, 1, none⟩ = false := by simp [go_sem, fr1]
     replace nq : w.heap.size < ((Z4x2.setCell ⟨w.heap.size + 1 + 1, 0, none⟩ (.int .i64 Y1)).setCell ⟨w.heap.size + 1 + 1, 1, none⟩ (.int .i64 Y2)).heap.size := by simpa [World.setCell] using nq
     replace nx : w.heap.size + 1 < ((Z4x2.setCell ⟨w.heap.size + 1 + 1, 0, none⟩ (.int .i64 Y1)).setCell ⟨w.heap.size + 1 + 1, 1, none⟩ (.int .i64 Y2)).heap.size := by simpa [World.setCell] using nx
     replace nr : w.heap.size + 1 + 1 < ((Z4x2.setCell ⟨w.heap.size + 1 + 1, 0, none⟩ (.int .i64 Y1)).setCell ⟨w.heap.size + 1 + 1, 1, none⟩ (.int .i64 Y2)).heap.size := by simpa [World.setCell] using nr
     replace hL := hL.setCell (p := ⟨w.heap.size + 1 + 1, 0, none⟩) (by show w.heap.size ≤ w.heap.size + 1 + 1; omega) (.int .i64 Y1)
     replace hL := hL.setCell (p := ⟨w.heap.size + 1 + 1, 1, none⟩) (by show w.heap.size ≤ w.heap.size + 1 + 1; omega) (.int .i64 Y2)
     refine hK.out _ _ ⟨q0, q1, x0, x1, x9, trivial⟩ (fun hHeld => ?_)
     clear hK K
     try simp only [Act.put, sA, sB, sC]
     refine tq 18 5 ?_ ?_ ?_; rotate_left; (focus intro w h; (try dsimp only at h); go_simp; try with_reducible rfl); try simp only [sA, sB, sC]
     refine wpAnyH_done (by kernel_rfl) ?_ _
     replace hB := hB.trans hL
     clear hHeld hL hBW
     go_wp2_with fail
     refine bodyPost_ret (v := .tuple #[.agg #[.int .i64 Y1, .int .i64 Y2], .int .i64 0]) (by simp [results, Tryz.results23, go_sem, r0, r1, fr0, fr1]) rfl ⟨rfl, hB⟩
end Go.Proofs.YtgklpbgdimkhaaaGreat
