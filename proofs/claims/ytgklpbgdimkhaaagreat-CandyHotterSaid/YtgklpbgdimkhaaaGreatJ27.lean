/- The walk of CandyHotter where it is hot enough: less. -/
import Derived.Test.YtgklpbgdimkhaaaGreatJ28
import Derived.Deep.QuietTactic
import Derived.BigQuiet
import Derived.Deep.DeepCutAuto
namespace Go.Proofs.YtgklpbgdimkhaaaGreat
open Go.RowKit Go.Lib Go.Shelf
set_option linter.unusedVariables false
set_option linter.unusedSimpArgs false
attribute [local go_sem ↓] Go.wp_at_zero Go.wp_at_succ


set_option maxRecDepth 20000 in
set_option maxHeartbeats 8000000 in
theorem hotter_less (v1 v2 v3 : Value) (R : Cr) (a s x y : Int) (w : World) (hx : 0 ≤ x ∧ x ≤ 65535) (hy : 0 ≤ y ∧ y ≤ 65535) (hv : CrAt w.heap.size w v1 v2 v3 R) (hl : lgB R = false) (hc : crB R = true) (hd : dnF R.xs (max (min x y % 1500) (max x y % 1500) - R.bl) ≤ ltX R.xs) (hq : ¬ hdX R.xs < dnF R.xs (min (min x y % 1500) (max x y % 1500) - R.bl)) :
  Calls Tryz.prog 8 #[.agg (cCr v1 v2 v3 R).toArray, .agg #[.int .i64 a, .int .i64 s], .agg #[.int .u16 x, .int .u16 y]] w fun e w' => e = .returned (.bool true) ∧ Below w.heap.size w w' := by
 have C0 := Lib.hid (fun (W : World) (h : Below w.heap.size w W) => large_any v1 v2 v3 R w.heap.size W (hv.below h (Nat.le_refl _)))
 have CK := Lib.hid (fun (W : World) => known_any W)
 have CO := Lib.hid (fun (hl : R.xs.length ≤ 70 ∧ R.ys.length ≤ 70 ∧ R.ps.length ≤ 12) (W : World) (h : Below w.heap.size w W) => own_any v1 v2 v3 R W hl.1 hl.2.1 hl.2.2 (hv.next h))
 have D1 := Lib.hid (fun (u1 u2 u3 : Value) (W : World) (h : CrAt W.heap.size W u1 u2 u3 R) => jCheck_any u1 u2 u3 R W h)
 have HL := Lib.hid (fun (h : lgB R = false) => (by simp [lgB] at h; omega : R.xs.length ≤ 70 ∧ R.ys.length ≤ 70 ∧ R.ps.length ≤ 12))
 have m1 : ∀ tys ty w, (Builtin.min_ tys ty #[.int .i64 x, .int .i64 y]).run Tryz.prog w = .ok (.int .i64 (min x y)) w := fun tys ty w => jmin2 tys ty .i64 x y w
 have m2 : ∀ tys ty w, (Builtin.max_ tys ty #[.int .i64 x, .int .i64 y]).run Tryz.prog w = .ok (.int .i64 (max x y)) w := fun tys ty w => jmax2 tys ty .i64 x y w
 have m3 : ∀ tys ty w, (Builtin.min_ tys ty #[.int .i64 (min x y % 1500), .int .i64 (max x y % 1500)]).run Tryz.prog w = .ok (.int .i64 (min (min x y % 1500) (max x y % 1500))) w := fun tys ty w => jmin2 tys ty .i64 _ _ w
 have m4 : ∀ tys ty w, (Builtin.max_ tys ty #[.int .i64 (min x y % 1500), .int .i64 (max x y % 1500)]).run Tryz.prog w = .ok (.int .i64 (max (min x y % 1500) (max x y % 1500))) w := fun tys ty w => jmax2 tys ty .i64 _ _ w
 have o1 : IntKind.i64.wrap x = x := IntWalk.i64_in _ (by omega)
 have o2 : IntKind.i64.wrap y = y := IntWalk.i64_in _ (by omega)
 have t1 : (min x y).tmod 1500 = min x y % 1500 := Int.tmod_eq_emod_of_nonneg (by omega)
 have t2 : (max x y).tmod 1500 = max x y % 1500 := Int.tmod_eq_emod_of_nonneg (by omega)
 have t3 := Int.emod_nonneg (min x y) (show (1500 : Int) ≠ 0 by omega)
 have t4 := Int.emod_lt_of_pos (min x y) (show (0 : Int) < 1500 by omega)
 have t5 := Int.emod_nonneg (max x y) (show (1500 : Int) ≠ 0 by omega)
 have t6 := Int.emod_lt_of_pos (max x y) (show (0 : Int) < 1500 by omega)
 have o3 : IntKind.i64.wrap (min x y % 1500) = min x y % 1500 := IntWalk.i64_in _ (by omega)
 have o4 : IntKind.i64.wrap (max x y % 1500) = max x y % 1500 := IntWalk.i64_in _ (by omega)
 obtain ⟨L, hL⟩ : ∃ L, min (min x y % 1500) (max x y % 1500) = L := ⟨_, rfl⟩
 obtain ⟨H, hH⟩ : ∃ H, max (min x y % 1500) (max x y % 1500) = H := ⟨_, rfl⟩
 rw [hL] at m3
 rw [hH] at m4
 rw [hH] at hd
 rw [hL] at hq
 have hLH : 0 ≤ L ∧ L ≤ H ∧ H ≤ 1499 := by omega
 generalize min x y % 1500 = lo at *
 generalize max x y % 1500 = hi at *
 generalize min x y = mi at *
 generalize max x y = ma at *
 clear hL hH t3 t4 t5 t6 hx hy
 obtain ⟨he, hsl, hbb, hpp, _⟩ := crB_ok hc
 have rLL : rgB (-2000) 2000 L L = true := by simp [rgB, inB]; omega
 have rHH : rgB (-2000) 2000 H H = true := by simp [rgB, inB]; omega
 have rLH : rgB (-2000) 2000 L H = true := by simp [rgB, inB]; omega
 have a1 := rd_at hc rLL
 have a2 := rd_at hc rHH
 have a3 := rd_at hc rLH
 have mo1 := dnF_mono he.tab (show L - R.bh ≤ L - R.bl by omega)
 have mo2 := dnF_mono he.tab (show L - R.bh ≤ H - R.bh by omega)
 have mo3 := dnF_mono he.tab (show L - R.bl ≤ H - R.bl by omega)
 have mo4 := dnF_mono he.tab (show H - R.bh ≤ H - R.bl by omega)
 have ltb := lt_bd he
 have dnb := (dnF_is he.tab (L - R.bh)).1
 have hd1 : dnF R.xs (L - R.bl) ≤ ltX R.xs := by omega
 rw [if_pos hd1] at a1
 rw [if_pos hd] at a2 a3
 obtain ⟨vr1, vr2⟩ := dn_reach he hd1
 have vb := fun h => dn_before he (h := L - R.bl) h
 obtain ⟨A1, hA1⟩ : ∃ z, dnF R.xs (L - R.bh) = z := ⟨_, rfl⟩
 obtain ⟨A2, hA2⟩ : ∃ z, dnF R.xs (L - R.bl) = z := ⟨_, rfl⟩
 obtain ⟨B1, hB1⟩ : ∃ z, dnF R.xs (H - R.bh) = z := ⟨_, rfl⟩
 obtain ⟨B2, hB2⟩ : ∃ z, dnF R.xs (H - R.bl) = z := ⟨_, rfl⟩
 simp only [hA1, hA2, hB1, hB2] at a1 a2 a3 mo1 mo2 mo3 mo4 hd hd1 vr1 vr2 vb dnb hq
 have db2 := (dnF_is he.tab (L - R.bl)).1
 rw [hA2] at db2
 clear hA1 hA2 hB1 hB2
 have D2 : Hid (∀ (u1 u2 u3 : Value) (W : World), CrAt W.heap.size W u1 u2 u3 R → Calls Tryz.prog 14 #[.agg (cCr u1 u2 u3 R).toArray, .agg #[.int .i64 L, .int .i64 L]] W fun e w' => e = .returned (.tuple #[.agg #[.int .i64 A1, .int .i64 A2], .int .i64 0]) ∧ Below W.heap.size W w') := Lib.hid (fun u1 u2 u3 W h => by have := dense_any u1 u2 u3 R L L W h; rw [a1.1, a1.2 hd1] at this; exact this)
 have D3 : Hid (∀ (u1 u2 u3 : Value) (W : World), CrAt W.heap.size W u1 u2 u3 R → Calls Tryz.prog 14 #[.agg (cCr u1 u2 u3 R).toArray, .agg #[.int .i64 H, .int .i64 H]] W fun e w' => e = .returned (.tuple #[.agg #[.int .i64 B1, .int .i64 B2], .int .i64 0]) ∧ Below W.heap.size W w') := Lib.hid (fun u1 u2 u3 W h => by have := dense_any u1 u2 u3 R H H W h; rw [a2.1, a2.2 hd] at this; exact this)
 have D4 : Hid (∀ (u1 u2 u3 : Value) (W : World), CrAt W.heap.size W u1 u2 u3 R → Calls Tryz.prog 14 #[.agg (cCr u1 u2 u3 R).toArray, .agg #[.int .i64 L, .int .i64 H]] W fun e w' => e = .returned (.tuple #[.agg #[.int .i64 A1, .int .i64 B2], .int .i64 0]) ∧ Below W.heap.size W w') := Lib.hid (fun u1 u2 u3 W h => by have := dense_any u1 u2 u3 R L H W h; rw [a3.1, a3.2 hd] at this; exact this)
 rw [hc] at D1
 rw [hl] at C0 HL
 clear a1 a2 a3
 obtain ⟨m, f, l, hm, hf, hl0, ef, el, _⟩ := tab_ends he.tab
 obtain ⟨mm, ff, ll, hmm, hff, hll, _, _, _⟩ := tab_ends (slB_ok hsl).1
 have HVR := hv
 obtain ⟨A1, c1, A2, c2, A3, c3, rfl, rfl, rfl⟩ := hv.slices
 obtain ⟨ge, oe, rfl, nef, ef1, ef2⟩ := RsAt.row2 hv.e.toRs hf hl0
 obtain ⟨gs, os, rfl, nes, es1, es2⟩ := RsAt.row2 hv.s.toRs hff hll
 have ef0 := ef1 0 _ rfl
 have ef3 := ef2 1 _ rfl
 have es0 := es1 0 _ rfl
 have es3 := es2 0 _ rfl
 clear ef1 ef2 es1 es2
 obtain ⟨fx, fy⟩ := f
 obtain ⟨lx, ly⟩ := l
 obtain ⟨gx, gy⟩ := ff
 obtain ⟨hx', hy'⟩ := ll
 have u1 : ((m : Int) < (m : Int) + 1) = True := by simp <;> omega
 have u2 : ((0 : Int) < (m : Int) + 1) = True := by simp <;> omega
 have u3 : ((mm : Int) < (mm : Int) + 1) = True := by simp <;> omega
 have u4 : ((0 : Int) < (mm : Int) + 1) = True := by simp <;> omega
 simp only [Nat.zero_mul, Nat.add_zero] at ef0 ef3 es0 es3
 have PK := Lib.hid (fun q1 q2 q3 q4 q5 => hot_pack hc a s A1 A2 B1 B2 mo1 mo2 mo3 mo4 (by omega) hmm hff hll q1 q2 q3 q4 q5)
 dsimp only at PK
 obtain ⟨va, hva⟩ : ∃ z, vaR R.xs A2 = z := ⟨_, rfl⟩
 obtain ⟨vb2, hvb⟩ : ∃ z, vaR R.xs (A2 - 1) = z := ⟨_, rfl⟩
 obtain ⟨ve, hve⟩ : ∃ z, vaE R.xs (A2 - 1) = z := ⟨_, rfl⟩
 have V1 := Lib.hid (fun (W : World) (h : Below w.heap.size w W) => value_any (.slice (some ⟨ge, oe, none⟩) R.xs.length c1) R.xs A2 W (HVR.next h).e)
 have V2 := Lib.hid (fun (W : World) (h : Below w.heap.size w W) => value_any (.slice (some ⟨ge, oe, none⟩) R.xs.length c1) R.xs (A2 - 1) W (HVR.next h).e)
 rw [hva, vr1] at V1
 rw [hvb, hve] at V2
 rw [hva] at vr2
 rw [hvb, hve] at vb
 rw [ef] at vb db2 hq
 dsimp only at vb db2 hq
 have VB := Lib.hid vb
 obtain ⟨va1, va2⟩ := va
 obtain ⟨vb1, vb2⟩ := vb2
 dsimp only at *
 have o5 : IntKind.i64.wrap (L - R.bl) = L - R.bl := IntWalk.i64_in _ (by omega)
 have o6 : IntKind.i64.wrap (A2 - 1) = A2 - 1 := IntWalk.i64_in _ (by omega)
 have d1 : decide (A2 < A1) = false := decide_eq_false (by omega)
 have d2 : decide (B1 < A1) = false := decide_eq_false (by omega)
 have d3 : decide (B2 < A2) = false := decide_eq_false (by omega)
 have d4 : decide (va2 < L - R.bl) = false := decide_eq_false (by omega)
 have d5 : decide (A2 < fx) = false := decide_eq_false (by omega)
 have F1 : A1 ≤ 10000 := by omega
 have hq0 := hq
 have hm60 := (slB_ok hsl).1.2.1
 rw [hmm] at hm60
 have o8 : IntKind.i64.wrap (mm : Int) = (mm : Int) := IntWalk.i64_in _ (by omega)
 clear hq hd hd1 mo1 mo2 mo3 mo4 ltb dnb db2 he hsl hbb hpp hf hl0 hff hll ef el rLL rHH rLH hLH hva hvb hve vr1 vr2 vb
 have HV := Lib.hid HVR
 clear hv HVR
 obtain ⟨xs, ys, bl, bh, ps⟩ := R
 dsimp only [cCr] at *
 obtain ⟨n3, hn3⟩ : ∃ n, ps.length = n := ⟨_, rfl⟩
 have N1 := Lib.hid hm
 have N2 := Lib.hid hmm
 have N3 := Lib.hid hn3
 simp only [hm, hmm, hn3] at C0 CO D1 D2 D3 D4 HV HL V1 V2 PK ⊢
 have hlx := HL.out (by simp)
 have hz := Lib.hid hc
 clear hn3 hm hmm HL hl hc
 have hl := hlx
 clear hlx
 go_enter Tryz.func8, Tryz.ntmps8
 go_wp2_with fail
 refine (C0.out _ (((Below.refl _ _).alloc (Nat.le_refl _) _).alloc (by simp) _ |>.alloc (by simp <;> omega) _)).mono ?_
 rintro e W1 ⟨rfl, hb⟩
 replace ef0 := cell_next (below3 hb) nef ef0
 replace nef := Nat.lt_of_lt_of_le nef (below3 hb).size
 replace es0 := cell_next (below3 hb) nes es0
 replace es3 := cell_next (below3 hb) nes es3
 replace nes := Nat.lt_of_lt_of_le nes (below3 hb).size
 have b0 := cell_next hb (b := w.heap.size) (o := 0) (by simp <;> omega) (v := some (.slice (some ⟨ge, oe, none⟩) (m + 1) c1)) (by simp [go_sem])
 have b1 := cell_next hb (b := w.heap.size) (o := 1) (by simp <;> omega) (v := some (.slice (some ⟨gs, os, none⟩) (mm + 1) c2)) (by simp [go_sem])
 have b2 := cell_next hb (b := w.heap.size) (o := 2) (by simp <;> omega) (v := some (.int .i64 bl)) (by simp [go_sem])
 have b3 := cell_next hb (b := w.heap.size) (o := 3) (by simp <;> omega) (v := some (.int .i64 bh)) (by simp [go_sem])
 have b4 := cell_next hb (b := w.heap.size) (o := 4) (by simp <;> omega) (v := some (.slice A3 n3 c3)) (by simp [go_sem])
 have nb : w.heap.size < W1.heap.size := by have := hb.size; simp at this; omega
 have j0 := cell_next hb (b := w.heap.size + 1) (o := 0) (by simp <;> omega) (v := some (.int .i64 a)) (by simp [go_sem])
 have j1 := cell_next hb (b := w.heap.size + 1) (o := 1) (by simp <;> omega) (v := some (.int .i64 s)) (by simp [go_sem])
 have nj : w.heap.size + 1 < W1.heap.size := by have := hb.size; simp at this; omega
 have t0 := cell_next hb (b := w.heap.size + 1 + 1) (o := 0) (by simp <;> omega) (v := some (.int .u16 x)) (by simp [go_sem])
 have t1 := cell_next hb (b := w.heap.size + 1 + 1) (o := 1) (by simp <;> omega) (v := some (.int .u16 y)) (by simp [go_sem])
 have nt : w.heap.size + 1 + 1 < W1.heap.size := by have := hb.size; simp at this; omega
 have hB := (below3 hb)
 clear hb
 go_wp2_with fail
 refine (CO.out hl _ hB).mono ?_
 rintro e W2 ⟨w1, w2, w3, rfl, HC, hb⟩
 replace ef0 := cell_next hb nef ef0
 replace nef := Nat.lt_of_lt_of_le nef hb.size
 replace es0 := cell_next hb nes es0
 replace es3 := cell_next hb nes es3
 replace nes := Nat.lt_of_lt_of_le nes hb.size
 replace b0 := cell_next hb nb b0
 replace b1 := cell_next hb nb b1
 replace b2 := cell_next hb nb b2
 replace b3 := cell_next hb nb b3
 replace b4 := cell_next hb nb b4
 replace nb := Nat.lt_of_lt_of_le nb hb.size
 replace j0 := cell_next hb nj j0
 replace j1 := cell_next hb nj j1
 replace nj := Nat.lt_of_lt_of_le nj hb.size
 replace t0 := cell_next hb nt t0
 replace t1 := cell_next hb nt t1
 replace nt := Nat.lt_of_lt_of_le nt hb.size
 replace hB := hB.trans (hb.mono hB.size)
 clear hb
 go_wp2_with fail
 refine (D1.out _ _ _ _ HC).mono ?_
 rintro e W3 ⟨rfl, hb⟩
 replace ef0 := cell_next hb nef ef0
 replace nef := Nat.lt_of_lt_of_le nef hb.size
 replace es0 := cell_next hb nes es0
 replace es3 := cell_next hb nes es3
 replace nes := Nat.lt_of_lt_of_le nes hb.size
 replace b0 := cell_next hb nb b0
 replace b1 := cell_next hb nb b1
 replace b2 := cell_next hb nb b2
 replace b3 := cell_next hb nb b3
 replace b4 := cell_next hb nb b4
 replace nb := Nat.lt_of_lt_of_le nb hb.size
 replace j0 := cell_next hb nj j0
 replace j1 := cell_next hb nj j1
 replace nj := Nat.lt_of_lt_of_le nj hb.size
 replace t0 := cell_next hb nt t0
 replace t1 := cell_next hb nt t1
 replace nt := Nat.lt_of_lt_of_le nt hb.size
 replace hB := hB.trans (hb.mono hB.size)
 clear hb
 clear HC
 go_wp2_with fail
 have hBW : W3.heap.size ≤ W3.heap.size := Nat.le_refl _
 refine wp_region_held_drew (S := fun w' => w'.cell? ⟨w.heap.size + 1 + 1, 0, none⟩ = some (.int .u16 x) ∧ w'.cell? ⟨w.heap.size + 1 + 1, 1, none⟩ = some (.int .u16 y) ∧ True) (by kernel_rfl) ?_ (fun hHeld => ?_)
 focus (exact ⟨t0, t1, trivial⟩)
 have hL : Below W3.heap.size W3 W3.drew := Below.drew (Below.refl _ _)
 replace ef0 : W3.drew.cell? ⟨ge, oe, none⟩ = some (.int .i64 fx) := ef0
 replace es0 : W3.drew.cell? ⟨gs, os, none⟩ = some (.int .i64 gx) := es0
 replace es3 : W3.drew.cell? ⟨gs, os + mm * 2, none⟩ = some (.int .i64 hx') := es3
 replace b0 : W3.drew.cell? ⟨w.heap.size, 0, none⟩ = some (.slice (some ⟨ge, oe, none⟩) (m + 1) c1) := b0
 replace b1 : W3.drew.cell? ⟨w.heap.size, 1, none⟩ = some (.slice (some ⟨gs, os, none⟩) (mm + 1) c2) := b1
 replace b2 : W3.drew.cell? ⟨w.heap.size, 2, none⟩ = some (.int .i64 bl) := b2
 replace b3 : W3.drew.cell? ⟨w.heap.size, 3, none⟩ = some (.int .i64 bh) := b3
 replace b4 : W3.drew.cell? ⟨w.heap.size, 4, none⟩ = some (.slice A3 n3 c3) := b4
 replace j0 : W3.drew.cell? ⟨w.heap.size + 1, 0, none⟩ = some (.int .i64 a) := j0
 replace j1 : W3.drew.cell? ⟨w.heap.size + 1, 1, none⟩ = some (.int .i64 s) := j1
 replace t0 : W3.drew.cell? ⟨w.heap.size + 1 + 1, 0, none⟩ = some (.int .u16 x) := t0
 replace t1 : W3.drew.cell? ⟨w.heap.size + 1 + 1, 1, none⟩ = some (.int .u16 y) := t1
 replace nef : ge < W3.drew.heap.size := nef
 replace nes : gs < W3.drew.heap.size := nes
 replace nb : w.heap.size < W3.drew.heap.size := nb
 replace nj : w.heap.size + 1 < W3.drew.heap.size := nj
 replace nt : w.heap.size + 1 + 1 < W3.drew.heap.size := nt
 generalize hWd : W3.drew = wd4 at hHeld hL ef0 es0 es3 b0 b1 b2 b3 b4 j0 j1 t0 t1 nef nes nb nj nt  ⊢
 clear hWd
 refine tq 0 43 ?_ ?_ ?_; rotate_left; (focus intro w h; (try dsimp only at h); go_simp; try with_reducible rfl); try simp only [sA, sB, sC]
 refine tq 1 44 ?_ ?_ ?_; rotate_left; (focus intro w h; (try dsimp only at h); go_simp; try with_reducible rfl); try simp only [sA, sB, sC]
 refine tq 2 45 ?_ ?_ ?_; rotate_left; (focus intro w h; (try dsimp only at h); go_simp; try with_reducible rfl); try simp only [sA, sB, sC]
 refine tq 3 46 ?_ ?_ ?_; rotate_left; (focus intro w h; (try dsimp only at h); go_simp; try with_reducible rfl); try simp only [sA, sB, sC]
 refine tq 4 47 ?_ ?_ ?_; rotate_left; (focus intro w h; (try dsimp only at h); go_simp; try with_reducible rfl); try simp only [sA, sB, sC]
 refine tq 5 48 ?_ ?_ ?_; rotate_left; (focus intro w h; (try dsimp only at h); go_simp; try with_reducible rfl); try simp only [sA, sB, sC]
 refine tq 6 49 ?_ ?_ ?_; rotate_left; (focus intro w h; (try dsimp only at h); go_simp; try with_reducible rfl); try simp only [sA, sB, sC]
 refine tq 7 50 ?_ ?_ ?_; rotate_left; (focus intro w h; (try dsimp only at h); go_simp; try with_reducible rfl); try simp only [sA, sB, sC]
 refine tq 8 51 ?_ ?_ ?_; rotate_left; (focus intro w h; (try dsimp only at h); go_simp; try with_reducible rfl); try simp only [sA, sB, sC]
 refine tq 9 52 ?_ ?_ ?_; rotate_left; (focus intro w h; (try dsimp only at h); go_simp; try with_reducible rfl); try simp only [sA, sB, sC]
 refine tq 10 53 ?_ ?_ ?_; rotate_left; (focus intro w h; (try dsimp only at h); go_simp; try with_reducible rfl); try simp only [sA, sB, sC]
 refine tq 11 54 ?_ ?_ ?_; rotate_left; (focus intro w h; (try dsimp only at h); go_simp; try with_reducible rfl); try simp only [sA, sB, sC]
 refine tq 12 55 ?_ ?_ ?_; rotate_left; (focus intro w h; (try dsimp only at h); go_simp; try with_reducible rfl); try simp only [sA, sB, sC]
 refine tq 13 56 ?_ ?_ ?_; rotate_left; (focus intro w h; (try dsimp only at h); go_simp; try with_reducible rfl); try simp only [sA, sB, sC]
 refine tq 14 57 ?_ ?_ ?_; rotate_left; (focus intro w h; (try dsimp only at h); go_simp; try with_reducible rfl); try simp only [sA, sB, sC]
 refine tq 15 58 ?_ ?_ ?_; rotate_left; (focus intro w h; (try dsimp only at h); go_simp; try with_reducible rfl); try simp only [sA, sB, sC]
 refine tq 16 7 ?_ ?_ ?_; rotate_left; (focus intro w h; (try dsimp only at h); go_simp; try with_reducible rfl); try simp only [sA, sB, sC]
 refine tq 17 8 ?_ ?_ ?_; rotate_left; (focus intro w h; (try dsimp only at h); go_simp; try with_reducible rfl); try simp only [sA, sB, sC]
 refine wpAnyH_done (by kernel_rfl) ?_ _
 replace hB := hB.trans (hL.mono hB.size)
 clear hHeld hL hBW
 clear t0 t1 nt
 go_wp2_with fail
 refine (CO.out hl _ hB).mono ?_
 rintro e W5 ⟨w1, w2, w3, rfl, HC, hb⟩
 replace ef0 := cell_next hb nef ef0
 replace nef := Nat.lt_of_lt_of_le nef hb.size
 replace es0 := cell_next hb nes es0
 replace es3 := cell_next hb nes es3
 replace nes := Nat.lt_of_lt_of_le nes hb.size
 replace b0 := cell_next hb nb b0
 replace b1 := cell_next hb nb b1
 replace b2 := cell_next hb nb b2
 replace b3 := cell_next hb nb b3
 replace b4 := cell_next hb nb b4
 replace nb := Nat.lt_of_lt_of_le nb hb.size
 replace j0 := cell_next hb nj j0
 replace j1 := cell_next hb nj j1
 replace nj := Nat.lt_of_lt_of_le nj hb.size
 replace hB := hB.trans (hb.mono hB.size)
 clear hb
 go_wp2_with fail
 refine (D2.out _ _ _ _ HC).mono ?_
 rintro e W6 ⟨rfl, hb⟩
 replace ef0 := cell_next hb nef ef0
 replace nef := Nat.lt_of_lt_of_le nef hb.size
 replace es0 := cell_next hb nes es0
 replace es3 := cell_next hb nes es3
 replace nes := Nat.lt_of_lt_of_le nes hb.size
 replace b0 := cell_next hb nb b0
 replace b1 := cell_next hb nb b1
 replace b2 := cell_next hb nb b2
 replace b3 := cell_next hb nb b3
 replace b4 := cell_next hb nb b4
 replace nb := Nat.lt_of_lt_of_le nb hb.size
 replace j0 := cell_next hb nj j0
 replace j1 := cell_next hb nj j1
 replace nj := Nat.lt_of_lt_of_le nj hb.size
 replace hB := hB.trans (hb.mono hB.size)
 clear hb
 clear HC
 go_wp2_with fail
 refine (CO.out hl _ (hB.alloc hB.size _)).mono ?_
 rintro e W7 ⟨w1, w2, w3, rfl, HC, hb⟩
 replace ef0 := cell_next (below1 hb) nef ef0
 replace nef := Nat.lt_of_lt_of_le nef (below1 hb).size
 replace es0 := cell_next (below1 hb) nes es0
 replace es3 := cell_next (below1 hb) nes es3
 replace nes := Nat.lt_of_lt_of_le nes (below1 hb).size
 replace b0 := cell_next (below1 hb) nb b0
 replace b1 := cell_next (below1 hb) nb b1
 replace b2 := cell_next (below1 hb) nb b2
 replace b3 := cell_next (below1 hb) nb b3
 replace b4 := cell_next (below1 hb) nb b4
 replace nb := Nat.lt_of_lt_of_le nb (below1 hb).size
 replace j0 := cell_next (below1 hb) nj j0
 replace j1 := cell_next (below1 hb) nj j1
 replace nj := Nat.lt_of_lt_of_le nj (below1 hb).size
 have ka0 := cell_next hb (b := W6.heap.size) (o := 0) (by simp <;> omega) (v := some (.int .i64 A1)) (by simp [go_sem])
 have ka1 := cell_next hb (b := W6.heap.size) (o := 1) (by simp <;> omega) (v := some (.int .i64 A2)) (by simp [go_sem])
 have nka : W6.heap.size < W7.heap.size := by have := hb.size; simp at this; omega
 replace hB := hB.trans ((below1 hb).mono hB.size)
 clear hb
 generalize W6.heap.size = q7 at *
 go_wp2_with fail
 refine (D3.out _ _ _ _ HC).mono ?_
 rintro e W8 ⟨rfl, hb⟩
 replace ef0 := cell_next hb nef ef0
 replace nef := Nat.lt_of_lt_of_le nef hb.size
 replace es0 := cell_next hb nes es0
 replace es3 := cell_next hb nes es3
 replace nes := Nat.lt_of_lt_of_le nes hb.size
 replace b0 := cell_next hb nb b0
 replace b1 := cell_next hb nb b1
 replace b2 := cell_next hb nb b2
 replace b3 := cell_next hb nb b3
 replace b4 := cell_next hb nb b4
 replace nb := Nat.lt_of_lt_of_le nb hb.size
 replace j0 := cell_next hb nj j0
 replace j1 := cell_next hb nj j1
 replace nj := Nat.lt_of_lt_of_le nj hb.size
 replace ka0 := cell_next hb nka ka0
 replace ka1 := cell_next hb nka ka1
 replace nka := Nat.lt_of_lt_of_le nka hb.size
 replace hB := hB.trans (hb.mono hB.size)
 clear hb
 clear HC
 go_wp2_with fail
 refine (CO.out hl _ (hB.alloc hB.size _)).mono ?_
 rintro e W9 ⟨w1, w2, w3, rfl, HC, hb⟩
 replace ef0 := cell_next (below1 hb) nef ef0
 replace nef := Nat.lt_of_lt_of_le nef (below1 hb).size
 replace es0 := cell_next (below1 hb) nes es0
 replace es3 := cell_next (below1 hb) nes es3
 replace nes := Nat.lt_of_lt_of_le nes (below1 hb).size
 replace b0 := cell_next (below1 hb) nb b0
 replace b1 := cell_next (below1 hb) nb b1
 replace b2 := cell_next (below1 hb) nb b2
 replace b3 := cell_next (below1 hb) nb b3
 replace b4 := cell_next (below1 hb) nb b4
 replace nb := Nat.lt_of_lt_of_le nb (below1 hb).size
 replace j0 := cell_next (below1 hb) nj j0
 replace j1 := cell_next (below1 hb) nj j1
 replace nj := Nat.lt_of_lt_of_le nj (below1 hb).size
 replace ka0 := cell_next (below1 hb) nka ka0
 replace ka1 := cell_next (below1 hb) nka ka1
 replace nka := Nat.lt_of_lt_of_le nka (below1 hb).size
 have kb0 := cell_next hb (b := W8.heap.size) (o := 0) (by simp <;> omega) (v := some (.int .i64 B1)) (by simp [go_sem])
 have kb1 := cell_next hb (b := W8.heap.size) (o := 1) (by simp <;> omega) (v := some (.int .i64 B2)) (by simp [go_sem])
 have nkb : W8.heap.size < W9.heap.size := by have := hb.size; simp at this; omega
 replace hB := hB.trans ((below1 hb).mono hB.size)
 clear hb
 generalize W8.heap.size = q9 at *
 go_wp2_with fail
 refine (D4.out _ _ _ _ HC).mono ?_
 rintro e W10 ⟨rfl, hb⟩
 replace ef0 := cell_next hb nef ef0
 replace nef := Nat.lt_of_lt_of_le nef hb.size
 replace es0 := cell_next hb nes es0
 replace es3 := cell_next hb nes es3
 replace nes := Nat.lt_of_lt_of_le nes hb.size
 replace b0 := cell_next hb nb b0
 replace b1 := cell_next hb nb b1
 replace b2 := cell_next hb nb b2
 replace b3 := cell_next hb nb b3
 replace b4 := cell_next hb nb b4
 replace nb := Nat.lt_of_lt_of_le nb hb.size
 replace j0 := cell_next hb nj j0
 replace j1 := cell_next hb nj j1
 replace nj := Nat.lt_of_lt_of_le nj hb.size
 replace ka0 := cell_next hb nka ka0
 replace ka1 := cell_next hb nka ka1
 replace nka := Nat.lt_of_lt_of_le nka hb.size
 replace kb0 := cell_next hb nkb kb0
 replace kb1 := cell_next hb nkb kb1
 replace nkb := Nat.lt_of_lt_of_le nkb hb.size
 replace hB := hB.trans (hb.mono hB.size)
 clear hb
 clear HC
 go_upto_region 8 with fail
 have hb : Below W10.heap.size W10 (W10.alloc (Obj.cells #[.int .i64 A1, .int .i64 B2] 24)) := ((Below.refl _ _).alloc (Nat.le_refl _) _)
 replace ef0 := cell_next hb nef ef0
 replace nef := Nat.lt_of_lt_of_le nef hb.size
 replace es0 := cell_next hb nes es0
 replace es3 := cell_next hb nes es3
 replace nes := Nat.lt_of_lt_of_le nes hb.size
 replace b0 := cell_next hb nb b0
 replace b1 := cell_next hb nb b1
 replace b2 := cell_next hb nb b2
 replace b3 := cell_next hb nb b3
 replace b4 := cell_next hb nb b4
 replace nb := Nat.lt_of_lt_of_le nb hb.size
 replace j0 := cell_next hb nj j0
 replace j1 := cell_next hb nj j1
 replace nj := Nat.lt_of_lt_of_le nj hb.size
 replace ka0 := cell_next hb nka ka0
 replace ka1 := cell_next hb nka ka1
 replace nka := Nat.lt_of_lt_of_le nka hb.size
 replace kb0 := cell_next hb nkb kb0
 replace kb1 := cell_next hb nkb kb1
 replace nkb := Nat.lt_of_lt_of_le nkb hb.size
 have kc0 : (W10.alloc (Obj.cells #[.int .i64 A1, .int .i64 B2] 24)).cell? ⟨W10.heap.size, 0, none⟩ = some (.int .i64 A1) := by simp [go_sem]
 have kc1 : (W10.alloc (Obj.cells #[.int .i64 A1, .int .i64 B2] 24)).cell? ⟨W10.heap.size, 1, none⟩ = some (.int .i64 B2) := by simp [go_sem]
 have nkc : W10.heap.size < (W10.alloc (Obj.cells #[.int .i64 A1, .int .i64 B2] 24)).heap.size := by simp <;> omega
 replace hB := hB.trans (hb.mono hB.size)
 clear hb
 generalize (W10.alloc (Obj.cells #[.int .i64 A1, .int .i64 B2] 24)) = W11 at *
 generalize W10.heap.size = q11 at *
 go_wp2_with fail
 refine (V1.out _ hB).mono ?_
 rintro e W12 ⟨rfl, hb⟩
 replace ef0 := cell_next hb nef ef0
 replace nef := Nat.lt_of_lt_of_le nef hb.size
 replace es0 := cell_next hb nes es0
 replace es3 := cell_next hb nes es3
 replace nes := Nat.lt_of_lt_of_le nes hb.size
 replace b0 := cell_next hb nb b0
 replace b1 := cell_next hb nb b1
 replace b2 := cell_next hb nb b2
 replace b3 := cell_next hb nb b3
 replace b4 := cell_next hb nb b4
 replace nb := Nat.lt_of_lt_of_le nb hb.size
 replace j0 := cell_next hb nj j0
 replace j1 := cell_next hb nj j1
 replace nj := Nat.lt_of_lt_of_le nj hb.size
 replace ka0 := cell_next hb nka ka0
 replace ka1 := cell_next hb nka ka1
 replace nka := Nat.lt_of_lt_of_le nka hb.size
 replace kb0 := cell_next hb nkb kb0
 replace kb1 := cell_next hb nkb kb1
 replace nkb := Nat.lt_of_lt_of_le nkb hb.size
 replace kc0 := cell_next hb nkc kc0
 replace kc1 := cell_next hb nkc kc1
 replace nkc := Nat.lt_of_lt_of_le nkc hb.size
 replace hB := hB.trans (hb.mono hB.size)
 clear hb
 go_upto_region 16 with fail
 clear ef0 nef
 clear kc0 kc1 nkc
 have oves := nes
 have ovb := nb
 have ovj := nj
 have ovka := nka
 have ovkb := nkb
 have hb : Below W12.heap.size W12 (W12.alloc (Obj.cells #[.int .i64 va1, .int .i64 va2] 24)) := ((Below.refl _ _).alloc (Nat.le_refl _) _)
 replace es0 := cell_next hb nes es0
 replace es3 := cell_next hb nes es3
 replace nes := Nat.lt_of_lt_of_le nes hb.size
 replace b0 := cell_next hb nb b0
 replace b1 := cell_next hb nb b1
 replace b2 := cell_next hb nb b2
 replace b3 := cell_next hb nb b3
 replace b4 := cell_next hb nb b4
 replace nb := Nat.lt_of_lt_of_le nb hb.size
 replace j0 := cell_next hb nj j0
 replace j1 := cell_next hb nj j1
 replace nj := Nat.lt_of_lt_of_le nj hb.size
 replace ka0 := cell_next hb nka ka0
 replace ka1 := cell_next hb nka ka1
 replace nka := Nat.lt_of_lt_of_le nka hb.size
 replace kb0 := cell_next hb nkb kb0
 replace kb1 := cell_next hb nkb kb1
 replace nkb := Nat.lt_of_lt_of_le nkb hb.size
 have kv0 : (W12.alloc (Obj.cells #[.int .i64 va1, .int .i64 va2] 24)).cell? ⟨W12.heap.size, 0, none⟩ = some (.int .i64 va1) := by simp [go_sem]
 have fkv0 : (W12.alloc (Obj.cells #[.int .i64 va1, .int .i64 va2] 24)).frozen? ⟨W12.heap.size, 0, none⟩ = false := by simp [go_sem]
 have kv1 : (W12.alloc (Obj.cells #[.int .i64 va1, .int .i64 va2] 24)).cell? ⟨W12.heap.size, 1, none⟩ = some (.int .i64 va2) := by simp [go_sem]
 have fkv1 : (W12.alloc (Obj.cells #[.int .i64 va1, .int .i64 va2] 24)).frozen? ⟨W12.heap.size, 1, none⟩ = false := by simp [go_sem]
 have nkv : W12.heap.size < (W12.alloc (Obj.cells #[.int .i64 va1, .int .i64 va2] 24)).heap.size := by simp <;> omega
 replace hB := hB.trans (hb.mono hB.size)
 clear hb
 generalize (W12.alloc (Obj.cells #[.int .i64 va1, .int .i64 va2] 24)) = W13 at *
 generalize W12.heap.size = q13 at *
 have zves : ¬ (gs = q13) := by omega
 have yves : ¬ (q13 = gs) := by omega
 have zvb : ¬ (w.heap.size = q13) := by omega
 have yvb : ¬ (q13 = w.heap.size) := by omega
 have zvj : ¬ (w.heap.size + 1 = q13) := by omega
 have yvj : ¬ (q13 = w.heap.size + 1) := by omega
 have zvka : ¬ (q7 = q13) := by omega
 have yvka : ¬ (q13 = q7) := by omega
 have zvkb : ¬ (q9 = q13) := by omega
 have yvkb : ¬ (q13 = q9) := by omega
 have hq : decide (fx < A2) = false := decide_eq_false (by omega)
 clear VB
 go_upto_region 22 with fail
 clear kv0 fkv0 kv1 fkv1 nkv
 by_cases q1 : a < 0
 ·have e1 : decide (a < 0) = true := decide_eq_true q1
  go_wp2_with fail
  refine (CK.out _).mono ?_
  rintro e W9 ⟨rfl, hb⟩
  have hB9 := hB.trans (hb.mono hB.size)
  go_wp2_with fail
  go_ret
  exact ⟨rfl, hB9⟩
 ·have e1 : decide (a < 0) = false := decide_eq_false q1
  by_cases q2 : 1000000000000 < a
  ·have e2 : decide (1000000000000 < a) = true := decide_eq_true q2
   go_wp2_with fail
   refine (CK.out _).mono ?_
   rintro e W9 ⟨rfl, hb⟩
   have hB9 := hB.trans (hb.mono hB.size)
   go_wp2_with fail
   go_ret
   exact ⟨rfl, hB9⟩
  ·have e2 : decide (1000000000000 < a) = false := decide_eq_false q2
   by_cases q3 : s < 1
   ·have e3 : decide (s < 1) = true := decide_eq_true q3
    go_wp2_with fail
    refine (CK.out _).mono ?_
    rintro e W9 ⟨rfl, hb⟩
    have hB9 := hB.trans (hb.mono hB.size)
    go_wp2_with fail
    go_ret
    exact ⟨rfl, hB9⟩
   ·have e3 : decide (s < 1) = false := decide_eq_false q3
    by_cases q4 : 1000000000000 < s
    ·have e4 : decide (1000000000000 < s) = true := decide_eq_true q4
     go_wp2_with fail
     refine (CK.out _).mono ?_
     rintro e W9 ⟨rfl, hb⟩
     have hB9 := hB.trans (hb.mono hB.size)
     go_wp2_with fail
     go_ret
     exact ⟨rfl, hB9⟩
    ·have e4 : decide (1000000000000 < s) = false := decide_eq_false q4
     by_cases q5 : A1 < 1
     ·have e5 : decide (A1 < 1) = true := decide_eq_true q5
      go_wp2_with fail
      refine (CK.out _).mono ?_
      rintro e W9 ⟨rfl, hb⟩
      have hB9 := hB.trans (hb.mono hB.size)
      go_wp2_with fail
      go_ret
      exact ⟨rfl, hB9⟩
     ·have e5 : decide (A1 < 1) = false := decide_eq_false q5
      obtain ⟨yA1, yA2, yB1, yB2, c, dl, dh, Y1, Y2, X1, X2, IN, o7, r1, r2, r3, r4, r5, r6, r7⟩ := PK.out (by omega) (by omega) (by omega) (by omega) (by omega)
      replace Y1 := Lib.hid Y1
      replace Y2 := Lib.hid Y2
      replace X1 := Lib.hid X1
      replace X2 := Lib.hid X2
      replace IN := Lib.hid IN
      clear PK
      go_wp2_with fail
      refine (Y1.out _).mono ?_
      rintro e W14 ⟨rfl, hb⟩
      replace es0 := cell_next hb nes es0
      replace es3 := cell_next hb nes es3
      replace nes := Nat.lt_of_lt_of_le nes hb.size
      replace b0 := cell_next hb nb b0
      replace b1 := cell_next hb nb b1
      replace b2 := cell_next hb nb b2
      replace b3 := cell_next hb nb b3
      replace b4 := cell_next hb nb b4
      replace nb := Nat.lt_of_lt_of_le nb hb.size
      replace j0 := cell_next hb nj j0
      replace j1 := cell_next hb nj j1
      replace nj := Nat.lt_of_lt_of_le nj hb.size
      replace ka0 := cell_next hb nka ka0
      replace ka1 := cell_next hb nka ka1
      replace nka := Nat.lt_of_lt_of_le nka hb.size
      replace kb0 := cell_next hb nkb kb0
      replace kb1 := cell_next hb nkb kb1
      replace nkb := Nat.lt_of_lt_of_le nkb hb.size
      replace hB := hB.trans (hb.mono hB.size)
      clear hb
      go_wp2_with fail
      refine (Y2.out _).mono ?_
      rintro e W15 ⟨rfl, hb⟩
      replace es0 := cell_next (below1 hb) nes es0
      replace es3 := cell_next (below1 hb) nes es3
      replace nes := Nat.lt_of_lt_of_le nes (below1 hb).size
      replace b0 := cell_next (below1 hb) nb b0
      replace b1 := cell_next (below1 hb) nb b1
      replace b2 := cell_next (below1 hb) nb b2
      replace b3 := cell_next (below1 hb) nb b3
      replace b4 := cell_next (below1 hb) nb b4
      replace nb := Nat.lt_of_lt_of_le nb (below1 hb).size
      replace j0 := cell_next (below1 hb) nj j0
      replace j1 := cell_next (below1 hb) nj j1
      replace nj := Nat.lt_of_lt_of_le nj (below1 hb).size
      replace ka0 := cell_next (below1 hb) nka ka0
      replace ka1 := cell_next (below1 hb) nka ka1
      replace nka := Nat.lt_of_lt_of_le nka (below1 hb).size
      replace kb0 := cell_next (below1 hb) nkb kb0
      replace kb1 := cell_next (below1 hb) nkb kb1
      replace nkb := Nat.lt_of_lt_of_le nkb (below1 hb).size
      have ky0 := cell_next hb (b := W14.heap.size) (o := 0) (by simp <;> omega) (v := some (.int .i64 yA2)) (by simp [go_sem])
      have ky1 := cell_next hb (b := W14.heap.size) (o := 1) (by simp <;> omega) (v := some (.int .i64 yA1)) (by simp [go_sem])
      have nky : W14.heap.size < W15.heap.size := by have := hb.size; simp at this; omega
      replace hB := hB.trans ((below1 hb).mono hB.size)
      clear hb
      generalize W14.heap.size = q15 at *
      go_upto_region 26 with fail
      have hb : Below W15.heap.size W15 (W15.alloc (Obj.cells #[.int .i64 yB2, .int .i64 yB1] 24)) := ((Below.refl _ _).alloc (Nat.le_refl _) _)
      replace es0 := cell_next hb nes es0
      replace es3 := cell_next hb nes es3
      replace nes := Nat.lt_of_lt_of_le nes hb.size
      replace b0 := cell_next hb nb b0
      replace b1 := cell_next hb nb b1
      replace b2 := cell_next hb nb b2
      replace b3 := cell_next hb nb b3
      replace b4 := cell_next hb nb b4
      replace nb := Nat.lt_of_lt_of_le nb hb.size
      replace j0 := cell_next hb nj j0
      replace j1 := cell_next hb nj j1
      replace nj := Nat.lt_of_lt_of_le nj hb.size
      replace ka0 := cell_next hb nka ka0
      replace ka1 := cell_next hb nka ka1
      replace nka := Nat.lt_of_lt_of_le nka hb.size
      replace kb0 := cell_next hb nkb kb0
      replace kb1 := cell_next hb nkb kb1
      replace nkb := Nat.lt_of_lt_of_le nkb hb.size
      replace ky0 := cell_next hb nky ky0
      replace ky1 := cell_next hb nky ky1
      replace nky := Nat.lt_of_lt_of_le nky hb.size
      have kz0 : (W15.alloc (Obj.cells #[.int .i64 yB2, .int .i64 yB1] 24)).cell? ⟨W15.heap.size, 0, none⟩ = some (.int .i64 yB2) := by simp [go_sem]
      have kz1 : (W15.alloc (Obj.cells #[.int .i64 yB2, .int .i64 yB1] 24)).cell? ⟨W15.heap.size, 1, none⟩ = some (.int .i64 yB1) := by simp [go_sem]
      have nkz : W15.heap.size < (W15.alloc (Obj.cells #[.int .i64 yB2, .int .i64 yB1] 24)).heap.size := by simp <;> omega
      replace hB := hB.trans (hb.mono hB.size)
      clear hb
      generalize (W15.alloc (Obj.cells #[.int .i64 yB2, .int .i64 yB1] 24)) = W16 at *
      generalize W15.heap.size = q16 at *
      go_wp2_with fail
      go_wp2_with fail
      clear ka0 ka1 nka
      clear kb0 kb1 nkb
      clear ky0 ky1 nky
      clear kz0 kz1 nkz
      clear es0
      apply suffC (R := fun (g : Nat) (w1 w2 w3 : Value) (W : World) => Below w.heap.size w W ∧ W.cell? ⟨gs, os + mm * 2, none⟩ = some (.int .i64 hx') ∧ W.cell? ⟨w.heap.size, 0, none⟩ = some (.slice (some ⟨ge, oe, none⟩) (m + 1) c1) ∧ W.cell? ⟨w.heap.size, 1, none⟩ = some (.slice (some ⟨gs, os, none⟩) (mm + 1) c2) ∧ W.cell? ⟨w.heap.size, 2, none⟩ = some (.int .i64 bl) ∧ W.cell? ⟨w.heap.size, 3, none⟩ = some (.int .i64 bh) ∧ W.cell? ⟨w.heap.size, 4, none⟩ = some (.slice A3 n3 c3) ∧ W.cell? ⟨w.heap.size + 1, 0, none⟩ = some (.int .i64 a) ∧ W.cell? ⟨w.heap.size + 1, 1, none⟩ = some (.int .i64 s) ∧ gs < W.heap.size ∧ w.heap.size < W.heap.size ∧ w.heap.size + 1 < W.heap.size ∧ W.cell? ⟨g, 0, none⟩ = some (.int .i64 c) ∧ W.cell? ⟨g, 1, none⟩ = some (.int .i64 c) ∧ g < W.heap.size)
      case main =>
       intro key
       have hBW : W16.heap.size ≤ W16.heap.size := Nat.le_refl _
       refine wp_region_held_drew (S := fun w' => w'.cell? ⟨w.heap.size, 0, none⟩ = some (.slice (some ⟨ge, oe, none⟩) (m + 1) c1) ∧ w'.cell? ⟨w.heap.size, 1, none⟩ = some (.slice (some ⟨gs, os, none⟩) (mm + 1) c2) ∧ w'.cell? ⟨w.heap.size, 2, none⟩ = some (.int .i64 bl) ∧ w'.cell? ⟨w.heap.size, 3, none⟩ = some (.int .i64 bh) ∧ w'.cell? ⟨w.heap.size, 4, none⟩ = some (.slice A3 n3 c3) ∧ w'.cell? ⟨w.heap.size + 1, 0, none⟩ = some (.int .i64 a) ∧ w'.cell? ⟨w.heap.size + 1, 1, none⟩ = some (.int .i64 s) ∧ True) (by kernel_rfl) ?_ (fun hHeld => ?_)
       focus (exact ⟨b0, b1, b2, b3, b4, j0, j1, trivial⟩)
       have hL : Below W16.heap.size W16 W16.drew := Below.drew (Below.refl _ _)
       replace es3 : W16.drew.cell? ⟨gs, os + mm * 2, none⟩ = some (.int .i64 hx') := es3
       replace b0 : W16.drew.cell? ⟨w.heap.size, 0, none⟩ = some (.slice (some ⟨ge, oe, none⟩) (m + 1) c1) := b0
       replace b1 : W16.drew.cell? ⟨w.heap.size, 1, none⟩ = some (.slice (some ⟨gs, os, none⟩) (mm + 1) c2) := b1
       replace b2 : W16.drew.cell? ⟨w.heap.size, 2, none⟩ = some (.int .i64 bl) := b2
       replace b3 : W16.drew.cell? ⟨w.heap.size, 3, none⟩ = some (.int .i64 bh) := b3
       replace b4 : W16.drew.cell? ⟨w.heap.size, 4, none⟩ = some (.slice A3 n3 c3) := b4
       replace j0 : W16.drew.cell? ⟨w.heap.size + 1, 0, none⟩ = some (.int .i64 a) := j0
       replace j1 : W16.drew.cell? ⟨w.heap.size + 1, 1, none⟩ = some (.int .i64 s) := j1
       replace nes : gs < W16.drew.heap.size := nes
       replace nb : w.heap.size < W16.drew.heap.size := nb
       replace nj : w.heap.size + 1 < W16.drew.heap.size := nj
       generalize hWd : W16.drew = wd17 at hHeld hL es3 b0 b1 b2 b3 b4 j0 j1 nes nb nj  ⊢
       clear hWd
       refine tq 0 308 ?_ ?_ ?_; rotate_left; (focus intro w h; (try dsimp only at h); go_simp; try with_reducible rfl); try simp only [sA, sB, sC]
       refine tq 2 310 ?_ ?_ ?_; rotate_left; (focus intro w h; (try dsimp only at h); go_simp; try with_reducible rfl); try simp only [sA, sB, sC]
       refine tq 3 311 ?_ ?_ ?_; rotate_left; (focus intro w h; (try dsimp only at h); go_simp; try with_reducible rfl); try simp only [sA, sB, sC]
       refine tq 4 312 ?_ ?_ ?_; rotate_left; (focus intro w h; (try dsimp only at h); go_simp; try with_reducible rfl); try simp only [sA, sB, sC]
       refine tq 5 313 ?_ ?_ ?_; rotate_left; (focus intro w h; (try dsimp only at h); go_simp; try with_reducible rfl); try simp only [sA, sB, sC]
       refine wpAnyH_ready (rs := [1, 10]) (by kernel_rfl) (by simp) ?_
       refine AllReadyH.cons rfl (fun K hK => ?_) (AllReadyH.cons rfl (fun K hK => ?_) AllReadyH.nil)
       ·go_simp
        refine (CO.out hl _ (hB.trans (hL.mono hB.size))).mono ?_
        rintro e Z17x1 ⟨w1, w2, w3, rfl, HC, hb⟩
        replace es3 := cell_next hb nes es3
        replace b0 := cell_next hb nb b0
        replace b1 := cell_next hb nb b1
        replace b2 := cell_next hb nb b2
        replace b3 := cell_next hb nb b3
        replace b4 := cell_next hb nb b4
        replace j0 := cell_next hb nj j0
        replace j1 := cell_next hb nj j1
        replace nes := Nat.lt_of_lt_of_le nes hb.size
        replace nb := Nat.lt_of_lt_of_le nb hb.size
        replace nj := Nat.lt_of_lt_of_le nj hb.size
        replace hL := hL.trans (hb.mono (Nat.le_trans hBW hL.size))
        try replace HC := HC.next hb
        refine hK.out _ _ ⟨b0, b1, b2, b3, b4, j0, j1, trivial⟩ (fun hHeld => ?_)
        clear hK K hb
        try simp only [Act.put, sA, sB, sC]
        refine wpAnyH_ready (rs := [6, 10]) (by kernel_rfl) (by simp) ?_
        refine AllReadyH.cons rfl (fun K hK => ?_) (AllReadyH.cons rfl (fun K hK => ?_) AllReadyH.nil)
        ·go_simp
         refine (X1.out _ _ _ _ HC).mono ?_
         rintro e Z17x2 ⟨rfl, hb⟩
         replace es3 := cell_next hb nes es3
         replace b0 := cell_next hb nb b0
         replace b1 := cell_next hb nb b1
         replace b2 := cell_next hb nb b2
         replace b3 := cell_next hb nb b3
         replace b4 := cell_next hb nb b4
         replace j0 := cell_next hb nj j0
         replace j1 := cell_next hb nj j1
         replace nes := Nat.lt_of_lt_of_le nes hb.size
         replace nb := Nat.lt_of_lt_of_le nb hb.size
         replace nj := Nat.lt_of_lt_of_le nj hb.size
         replace hL := hL.trans (hb.mono (Nat.le_trans hBW hL.size))
         try replace HC := HC.next hb
         refine hK.out _ _ ⟨b0, b1, b2, b3, b4, j0, j1, trivial⟩ (fun hHeld => ?_)
         clear hK K hb
         try simp only [Act.put, sA, sB, sC]
         refine tq 7 307 ?_ ?_ ?_; rotate_left; (focus intro w h; (try dsimp only at h); go_simp; try with_reducible rfl); try simp only [sA, sB, sC]
         refine tq 8 315 ?_ ?_ ?_; rotate_left; (focus intro w h; (try dsimp only at h); go_simp; try with_reducible rfl); try simp only [sA, sB, sC]
         refine tq 9 316 ?_ ?_ ?_; rotate_left; (focus intro w h; (try dsimp only at h); go_simp; try with_reducible rfl); try simp only [sA, sB, sC]
         refine rd1 10 (fun K hK => ?_)
         go_simp
         have hb := (Below.refl Z17x2.heap.size Z17x2).alloc (Nat.le_refl _) (Obj.cells #[.int .i64 0, .int .i64 0] 24)
         have szZ17x3 := hL.size
         have ord3nes := nes
         have ord3nb := nb
         have ord3nj := nj
         replace es3 := cell_next hb nes es3
         replace b0 := cell_next hb nb b0
         replace b1 := cell_next hb nb b1
         replace b2 := cell_next hb nb b2
         replace b3 := cell_next hb nb b3
         replace b4 := cell_next hb nb b4
         replace j0 := cell_next hb nj j0
         replace j1 := cell_next hb nj j1
         replace nes := Nat.lt_of_lt_of_le nes hb.size
         replace nb := Nat.lt_of_lt_of_le nb hb.size
         replace nj := Nat.lt_of_lt_of_le nj hb.size
         replace hL := hL.trans (hb.mono (Nat.le_trans hBW hL.size))
         try replace HC := HC.next hb
         have ccf0 : (Z17x2.alloc (Obj.cells #[.int .i64 0, .int .i64 0] 24)).frozen? ⟨Z17x2.heap.size, 0, none⟩ = false := by simp [go_sem]
         have ccf1 : (Z17x2.alloc (Obj.cells #[.int .i64 0, .int .i64 0] 24)).frozen? ⟨Z17x2.heap.size, 1, none⟩ = false := by simp [go_sem]
         have cc0 : (Z17x2.alloc (Obj.cells #[.int .i64 0, .int .i64 0] 24)).cell? ⟨Z17x2.heap.size, 0, none⟩ = some (.int .i64 0) := cell_new _ _ _ 0
         have cc1 : (Z17x2.alloc (Obj.cells #[.int .i64 0, .int .i64 0] 24)).cell? ⟨Z17x2.heap.size, 1, none⟩ = some (.int .i64 0) := cell_new _ _ _ 1
         have ncc : Z17x2.heap.size < (Z17x2.alloc (Obj.cells #[.int .i64 0, .int .i64 0] 24)).heap.size := by simp
         refine hK.out _ _ ⟨b0, b1, b2, b3, b4, j0, j1, trivial⟩ (fun hHeld => ?_)
         clear hK K hb
         generalize Z17x2.alloc (Obj.cells #[.int .i64 0, .int .i64 0] 24) = Z17x3 at *
         try simp only [Act.put, sA, sB, sC]
         refine rd1 11 (fun K hK => ?_)
         go_simp
         replace es3 : ((Z17x3.setCell ⟨Z17x2.heap.size, 0, none⟩ (.int .i64 c)).setCell ⟨Z17x2.heap.size, 1, none⟩ (.int .i64 c)).cell? ⟨gs, os + mm * 2, none⟩ = some (.int .i64 hx') := ((so (by omega)).trans ((so (by omega)).trans es3))
         replace b0 : ((Z17x3.setCell ⟨Z17x2.heap.size, 0, none⟩ (.int .i64 c)).setCell ⟨Z17x2.heap.size, 1, none⟩ (.int .i64 c)).cell? ⟨w.heap.size, 0, none⟩ = some (.slice (some ⟨ge, oe, none⟩) (m + 1) c1) := ((so (by omega)).trans ((so (by omega)).trans b0))
         replace b1 : ((Z17x3.setCell ⟨Z17x2.heap.size, 0, none⟩ (.int .i64 c)).setCell ⟨Z17x2.heap.size, 1, none⟩ (.int .i64 c)).cell? ⟨w.heap.size, 1, none⟩ = some (.slice (some ⟨gs, os, none⟩) (mm + 1) c2) := ((so (by omega)).trans ((so (by omega)).trans b1))
         replace b2 : ((Z17x3.setCell ⟨Z17x2.heap.size, 0, none⟩ (.int .i64 c)).setCell ⟨Z17x2.heap.size, 1, none⟩ (.int .i64 c)).cell? ⟨w.heap.size, 2, none⟩ = some (.int .i64 bl) := ((so (by omega)).trans ((so (by omega)).trans b2))
         replace b3 : ((Z17x3.setCell ⟨Z17x2.heap.size, 0, none⟩ (.int .i64 c)).setCell ⟨Z17x2.heap.size, 1, none⟩ (.int .i64 c)).cell? ⟨w.heap.size, 3, none⟩ = some (.int .i64 bh) := ((so (by omega)).trans ((so (by omega)).trans b3))
         replace b4 : ((Z17x3.setCell ⟨Z17x2.heap.size, 0, none⟩ (.int .i64 c)).setCell ⟨Z17x2.heap.size, 1, none⟩ (.int .i64 c)).cell? ⟨w.heap.size, 4, none⟩ = some (.slice A3 n3 c3) := ((so (by omega)).trans ((so (by omega)).trans b4))
         replace j0 : ((Z17x3.setCell ⟨Z17x2.heap.size, 0, none⟩ (.int .i64 c)).setCell ⟨Z17x2.heap.size, 1, none⟩ (.int .i64 c)).cell? ⟨w.heap.size + 1, 0, none⟩ = some (.int .i64 a) := ((so (by omega)).trans ((so (by omega)).trans j0))
         replace j1 : ((Z17x3.setCell ⟨Z17x2.heap.size, 0, none⟩ (.int .i64 c)).setCell ⟨Z17x2.heap.size, 1, none⟩ (.int .i64 c)).cell? ⟨w.heap.size + 1, 1, none⟩ = some (.int .i64 s) := ((so (by omega)).trans ((so (by omega)).trans j1))
         replace ccf0 : ((Z17x3.setCell ⟨Z17x2.heap.size, 0, none⟩ (.int .i64 c)).setCell ⟨Z17x2.heap.size, 1, none⟩ (.int .i64 c)).frozen? ⟨Z17x2.heap.size, 0, none⟩ = false := by simp [go_sem, ccf0]
         replace ccf1 : ((Z17x3.setCell ⟨Z17x2.heap.size, 0, none⟩ (.int .i64 c)).setCell ⟨Z17x2.heap.size, 1, none⟩ (.int .i64 c)).frozen? ⟨Z17x2.heap.size, 1, none⟩ = false := by simp [go_sem, ccf1]
         replace cc0 : ((Z17x3.setCell ⟨Z17x2.heap.size, 0, none⟩ (.int .i64 c)).setCell ⟨Z17x2.heap.size, 1, none⟩ (.int .i64 c)).cell? ⟨Z17x2.heap.size, 0, none⟩ = some (.int .i64 c) := by simp [go_sem, cc0]
         replace cc1 : ((Z17x3.setCell ⟨Z17x2.heap.size, 0, none⟩ (.int .i64 c)).setCell ⟨Z17x2.heap.size, 1, none⟩ (.int .i64 c)).cell? ⟨Z17x2.heap.size, 1, none⟩ = some (.int .i64 c) := by simp [go_sem, cc1]
         replace nes : gs < ((Z17x3.setCell ⟨Z17x2.heap.size, 0, none⟩ (.int .i64 c)).setCell ⟨Z17x2.heap.size, 1, none⟩ (.int .i64 c)).heap.size := by simpa [World.setCell] using nes
         replace nb : w.heap.size < ((Z17x3.setCell ⟨Z17x2.heap.size, 0, none⟩ (.int .i64 c)).setCell ⟨Z17x2.heap.size, 1, none⟩ (.int .i64 c)).heap.size := by simpa [World.setCell] using nb
         replace nj : w.heap.size + 1 < ((Z17x3.setCell ⟨Z17x2.heap.size, 0, none⟩ (.int .i64 c)).setCell ⟨Z17x2.heap.size, 1, none⟩ (.int .i64 c)).heap.size := by simpa [World.setCell] using nj
         replace ncc : Z17x2.heap.size < ((Z17x3.setCell ⟨Z17x2.heap.size, 0, none⟩ (.int .i64 c)).setCell ⟨Z17x2.heap.size, 1, none⟩ (.int .i64 c)).heap.size := by simpa [World.setCell] using ncc
         replace hL := hL.setCell (p := ⟨Z17x2.heap.size, 0, none⟩) (by show W16.heap.size ≤ Z17x2.heap.size; omega) (.int .i64 c)
         replace hL := hL.setCell (p := ⟨Z17x2.heap.size, 1, none⟩) (by show W16.heap.size ≤ Z17x2.heap.size; omega) (.int .i64 c)
         refine hK.out _ _ ⟨b0, b1, b2, b3, b4, j0, j1, trivial⟩ (fun hHeld => ?_)
         clear hK K
         generalize ((Z17x3.setCell ⟨Z17x2.heap.size, 0, none⟩ (.int .i64 c)).setCell ⟨Z17x2.heap.size, 1, none⟩ (.int .i64 c)) = Z17x4 at *
         try simp only [Act.put, sA, sB, sC]
         refine tq 12 10 ?_ ?_ ?_; rotate_left; (focus intro w h; (try dsimp only at h); go_simp; try with_reducible rfl); try simp only [sA, sB, sC]
         refine wpAnyH_done (by kernel_rfl) ?_ _
         have hfin := And.intro (hB.trans (hL.mono hB.size)) (And.intro es3 (And.intro b0 (And.intro b1 (And.intro b2 (And.intro b3 (And.intro b4 (And.intro j0 (And.intro j1 (And.intro nes (And.intro nb (And.intro nj (And.intro cc0 (And.intro cc1 (ncc))))))))))))))
         clear es3 b0 b1 b2 b3 b4 j0 j1 nes nb nj cc0 cc1 ncc hL hHeld
         revert hfin
         generalize Z17x4 = w9
         generalize Z17x2.heap.size = g9
         intro hfin
         exact key g9 w1 w2 w3 w9 hfin
        ·go_simp
         have hb := (Below.refl Z17x1.heap.size Z17x1).alloc (Nat.le_refl _) (Obj.cells #[.int .i64 0, .int .i64 0] 24)
         have szZ17x5 := hL.size
         have ord5nes := nes
         have ord5nb := nb
         have ord5nj := nj
         replace es3 := cell_next hb nes es3
         replace b0 := cell_next hb nb b0
         replace b1 := cell_next hb nb b1
         replace b2 := cell_next hb nb b2
         replace b3 := cell_next hb nb b3
         replace b4 := cell_next hb nb b4
         replace j0 := cell_next hb nj j0
         replace j1 := cell_next hb nj j1
         replace nes := Nat.lt_of_lt_of_le nes hb.size
         replace nb := Nat.lt_of_lt_of_le nb hb.size
         replace nj := Nat.lt_of_lt_of_le nj hb.size
         replace hL := hL.trans (hb.mono (Nat.le_trans hBW hL.size))
         try replace HC := HC.next hb
         have ccf0 : (Z17x1.alloc (Obj.cells #[.int .i64 0, .int .i64 0] 24)).frozen? ⟨Z17x1.heap.size, 0, none⟩ = false := by simp [go_sem]
         have ccf1 : (Z17x1.alloc (Obj.cells #[.int .i64 0, .int .i64 0] 24)).frozen? ⟨Z17x1.heap.size, 1, none⟩ = false := by simp [go_sem]
         have cc0 : (Z17x1.alloc (Obj.cells #[.int .i64 0, .int .i64 0] 24)).cell? ⟨Z17x1.heap.size, 0, none⟩ = some (.int .i64 0) := cell_new _ _ _ 0
         have cc1 : (Z17x1.alloc (Obj.cells #[.int .i64 0, .int .i64 0] 24)).cell? ⟨Z17x1.heap.size, 1, none⟩ = some (.int .i64 0) := cell_new _ _ _ 1
         have ncc : Z17x1.heap.size < (Z17x1.alloc (Obj.cells #[.int .i64 0, .int .i64 0] 24)).heap.size := by simp
         refine hK.out _ _ ⟨b0, b1, b2, b3, b4, j0, j1, trivial⟩ (fun hHeld => ?_)
         clear hK K hb
         generalize Z17x1.alloc (Obj.cells #[.int .i64 0, .int .i64 0] 24) = Z17x5 at *
         try simp only [Act.put, sA, sB, sC]
         refine rd1 6 (fun K hK => ?_)
         go_simp
         refine (X1.out _ _ _ _ HC).mono ?_
         rintro e Z17x6 ⟨rfl, hb⟩
         replace es3 := cell_next hb nes es3
         replace b0 := cell_next hb nb b0
         replace b1 := cell_next hb nb b1
         replace b2 := cell_next hb nb b2
         replace b3 := cell_next hb nb b3
         replace b4 := cell_next hb nb b4
         replace j0 := cell_next hb nj j0
         replace j1 := cell_next hb nj j1
         replace ccf0 := frozen_next hb ncc ccf0
         replace ccf1 := frozen_next hb ncc ccf1
         replace cc0 := cell_next hb ncc cc0
         replace cc1 := cell_next hb ncc cc1
         replace nes := Nat.lt_of_lt_of_le nes hb.size
         replace nb := Nat.lt_of_lt_of_le nb hb.size
         replace nj := Nat.lt_of_lt_of_le nj hb.size
         replace ncc := Nat.lt_of_lt_of_le ncc hb.size
         replace hL := hL.trans (hb.mono (Nat.le_trans hBW hL.size))
         try replace HC := HC.next hb
         refine hK.out _ _ ⟨b0, b1, b2, b3, b4, j0, j1, trivial⟩ (fun hHeld => ?_)
         clear hK K hb
         try simp only [Act.put, sA, sB, sC]
         refine tq 7 307 ?_ ?_ ?_; rotate_left; (focus intro w h; (try dsimp only at h); go_simp; try with_reducible rfl); try simp only [sA, sB, sC]
         refine tq 8 315 ?_ ?_ ?_; rotate_left; (focus intro w h; (try dsimp only at h); go_simp; try with_reducible rfl); try simp only [sA, sB, sC]
         refine tq 9 316 ?_ ?_ ?_; rotate_left; (focus intro w h; (try dsimp only at h); go_simp; try with_reducible rfl); try simp only [sA, sB, sC]
         refine rd1 11 (fun K hK => ?_)
         go_simp
         replace es3 : ((Z17x6.setCell ⟨Z17x1.heap.size, 0, none⟩ (.int .i64 c)).setCell ⟨Z17x1.heap.size, 1, none⟩ (.int .i64 c)).cell? ⟨gs, os + mm * 2, none⟩ = some (.int .i64 hx') := ((so (by omega)).trans ((so (by omega)).trans es3))
         replace b0 : ((Z17x6.setCell ⟨Z17x1.heap.size, 0, none⟩ (.int .i64 c)).setCell ⟨Z17x1.heap.size, 1, none⟩ (.int .i64 c)).cell? ⟨w.heap.size, 0, none⟩ = some (.slice (some ⟨ge, oe, none⟩) (m + 1) c1) := ((so (by omega)).trans ((so (by omega)).trans b0))
         replace b1 : ((Z17x6.setCell ⟨Z17x1.heap.size, 0, none⟩ (.int .i64 c)).setCell ⟨Z17x1.heap.size, 1, none⟩ (.int .i64 c)).cell? ⟨w.heap.size, 1, none⟩ = some (.slice (some ⟨gs, os, none⟩) (mm + 1) c2) := ((so (by omega)).trans ((so (by omega)).trans b1))
         replace b2 : ((Z17x6.setCell ⟨Z17x1.heap.size, 0, none⟩ (.int .i64 c)).setCell ⟨Z17x1.heap.size, 1, none⟩ (.int .i64 c)).cell? ⟨w.heap.size, 2, none⟩ = some (.int .i64 bl) := ((so (by omega)).trans ((so (by omega)).trans b2))
         replace b3 : ((Z17x6.setCell ⟨Z17x1.heap.size, 0, none⟩ (.int .i64 c)).setCell ⟨Z17x1.heap.size, 1, none⟩ (.int .i64 c)).cell? ⟨w.heap.size, 3, none⟩ = some (.int .i64 bh) := ((so (by omega)).trans ((so (by omega)).trans b3))
         replace b4 : ((Z17x6.setCell ⟨Z17x1.heap.size, 0, none⟩ (.int .i64 c)).setCell ⟨Z17x1.heap.size, 1, none⟩ (.int .i64 c)).cell? ⟨w.heap.size, 4, none⟩ = some (.slice A3 n3 c3) := ((so (by omega)).trans ((so (by omega)).trans b4))
         replace j0 : ((Z17x6.setCell ⟨Z17x1.heap.size, 0, none⟩ (.int .i64 c)).setCell ⟨Z17x1.heap.size, 1, none⟩ (.int .i64 c)).cell? ⟨w.heap.size + 1, 0, none⟩ = some (.int .i64 a) := ((so (by omega)).trans ((so (by omega)).trans j0))
         replace j1 : ((Z17x6.setCell ⟨Z17x1.heap.size, 0, none⟩ (.int .i64 c)).setCell ⟨Z17x1.heap.size, 1, none⟩ (.int .i64 c)).cell? ⟨w.heap.size + 1, 1, none⟩ = some (.int .i64 s) := ((so (by omega)).trans ((so (by omega)).trans j1))
         replace ccf0 : ((Z17x6.setCell ⟨Z17x1.heap.size, 0, none⟩ (.int .i64 c)).setCell ⟨Z17x1.heap.size, 1, none⟩ (.int .i64 c)).frozen? ⟨Z17x1.heap.size, 0, none⟩ = false := by simp [go_sem, ccf0]
         replace ccf1 : ((Z17x6.setCell ⟨Z17x1.heap.size, 0, none⟩ (.int .i64 c)).setCell ⟨Z17x1.heap.size, 1, none⟩ (.int .i64 c)).frozen? ⟨Z17x1.heap.size, 1, none⟩ = false := by simp [go_sem, ccf1]
         replace cc0 : ((Z17x6.setCell ⟨Z17x1.heap.size, 0, none⟩ (.int .i64 c)).setCell ⟨Z17x1.heap.size, 1, none⟩ (.int .i64 c)).cell? ⟨Z17x1.heap.size, 0, none⟩ = some (.int .i64 c) := by simp [go_sem, cc0]
         replace cc1 : ((Z17x6.setCell ⟨Z17x1.heap.size, 0, none⟩ (.int .i64 c)).setCell ⟨Z17x1.heap.size, 1, none⟩ (.int .i64 c)).cell? ⟨Z17x1.heap.size, 1, none⟩ = some (.int .i64 c) := by simp [go_sem, cc1]
         replace nes : gs < ((Z17x6.setCell ⟨Z17x1.heap.size, 0, none⟩ (.int .i64 c)).setCell ⟨Z17x1.heap.size, 1, none⟩ (.int .i64 c)).heap.size := by simpa [World.setCell] using nes
         replace nb : w.heap.size < ((Z17x6.setCell ⟨Z17x1.heap.size, 0, none⟩ (.int .i64 c)).setCell ⟨Z17x1.heap.size, 1, none⟩ (.int .i64 c)).heap.size := by simpa [World.setCell] using nb
         replace nj : w.heap.size + 1 < ((Z17x6.setCell ⟨Z17x1.heap.size, 0, none⟩ (.int .i64 c)).setCell ⟨Z17x1.heap.size, 1, none⟩ (.int .i64 c)).heap.size := by simpa [World.setCell] using nj
         replace ncc : Z17x1.heap.size < ((Z17x6.setCell ⟨Z17x1.heap.size, 0, none⟩ (.int .i64 c)).setCell ⟨Z17x1.heap.size, 1, none⟩ (.int .i64 c)).heap.size := by simpa [World.setCell] using ncc
         replace hL := hL.setCell (p := ⟨Z17x1.heap.size, 0, none⟩) (by show W16.heap.size ≤ Z17x1.heap.size; omega) (.int .i64 c)
         replace hL := hL.setCell (p := ⟨Z17x1.heap.size, 1, none⟩) (by show W16.heap.size ≤ Z17x1.heap.size; omega) (.int .i64 c)
         refine hK.out _ _ ⟨b0, b1, b2, b3, b4, j0, j1, trivial⟩ (fun hHeld => ?_)
         clear hK K
         generalize ((Z17x6.setCell ⟨Z17x1.heap.size, 0, none⟩ (.int .i64 c)).setCell ⟨Z17x1.heap.size, 1, none⟩ (.int .i64 c)) = Z17x7 at *
         try simp only [Act.put, sA, sB, sC]
         refine tq 12 10 ?_ ?_ ?_; rotate_left; (focus intro w h; (try dsimp only at h); go_simp; try with_reducible rfl); try simp only [sA, sB, sC]
         refine wpAnyH_done (by kernel_rfl) ?_ _
         have hfin := And.intro (hB.trans (hL.mono hB.size)) (And.intro es3 (And.intro b0 (And.intro b1 (And.intro b2 (And.intro b3 (And.intro b4 (And.intro j0 (And.intro j1 (And.intro nes (And.intro nb (And.intro nj (And.intro cc0 (And.intro cc1 (ncc))))))))))))))
         clear es3 b0 b1 b2 b3 b4 j0 j1 nes nb nj cc0 cc1 ncc hL hHeld
         revert hfin
         generalize Z17x7 = w9
         generalize Z17x1.heap.size = g9
         intro hfin
         exact key g9 w1 w2 w3 w9 hfin
       ·go_simp
        have hb := (Below.refl wd17.heap.size wd17).alloc (Nat.le_refl _) (Obj.cells #[.int .i64 0, .int .i64 0] 24)
        have szZ17x8 := hL.size
        have ord8nes := nes
        have ord8nb := nb
        have ord8nj := nj
        replace es3 := cell_next hb nes es3
        replace b0 := cell_next hb nb b0
        replace b1 := cell_next hb nb b1
        replace b2 := cell_next hb nb b2
        replace b3 := cell_next hb nb b3
        replace b4 := cell_next hb nb b4
        replace j0 := cell_next hb nj j0
        replace j1 := cell_next hb nj j1
        replace nes := Nat.lt_of_lt_of_le nes hb.size
        replace nb := Nat.lt_of_lt_of_le nb hb.size
        replace nj := Nat.lt_of_lt_of_le nj hb.size
        replace hL := hL.trans (hb.mono (Nat.le_trans hBW hL.size))
        try replace HC := HC.next hb
        have ccf0 : (wd17.alloc (Obj.cells #[.int .i64 0, .int .i64 0] 24)).frozen? ⟨wd17.heap.size, 0, none⟩ = false := by simp [go_sem]
        have ccf1 : (wd17.alloc (Obj.cells #[.int .i64 0, .int .i64 0] 24)).frozen? ⟨wd17.heap.size, 1, none⟩ = false := by simp [go_sem]
        have cc0 : (wd17.alloc (Obj.cells #[.int .i64 0, .int .i64 0] 24)).cell? ⟨wd17.heap.size, 0, none⟩ = some (.int .i64 0) := cell_new _ _ _ 0
        have cc1 : (wd17.alloc (Obj.cells #[.int .i64 0, .int .i64 0] 24)).cell? ⟨wd17.heap.size, 1, none⟩ = some (.int .i64 0) := cell_new _ _ _ 1
        have ncc : wd17.heap.size < (wd17.alloc (Obj.cells #[.int .i64 0, .int .i64 0] 24)).heap.size := by simp
        refine hK.out _ _ ⟨b0, b1, b2, b3, b4, j0, j1, trivial⟩ (fun hHeld => ?_)
        clear hK K hb
        generalize wd17.alloc (Obj.cells #[.int .i64 0, .int .i64 0] 24) = Z17x8 at *
        try simp only [Act.put, sA, sB, sC]
        refine rd1 1 (fun K hK => ?_)
        go_simp
        refine (CO.out hl _ (hB.trans (hL.mono hB.size))).mono ?_
        rintro e Z17x9 ⟨w1, w2, w3, rfl, HC, hb⟩
        replace es3 := cell_next hb nes es3
        replace b0 := cell_next hb nb b0
        replace b1 := cell_next hb nb b1
        replace b2 := cell_next hb nb b2
        replace b3 := cell_next hb nb b3
        replace b4 := cell_next hb nb b4
        replace j0 := cell_next hb nj j0
        replace j1 := cell_next hb nj j1
        replace ccf0 := frozen_next hb ncc ccf0
        replace ccf1 := frozen_next hb ncc ccf1
        replace cc0 := cell_next hb ncc cc0
        replace cc1 := cell_next hb ncc cc1
        replace nes := Nat.lt_of_lt_of_le nes hb.size
        replace nb := Nat.lt_of_lt_of_le nb hb.size
        replace nj := Nat.lt_of_lt_of_le nj hb.size
        replace ncc := Nat.lt_of_lt_of_le ncc hb.size
        replace hL := hL.trans (hb.mono (Nat.le_trans hBW hL.size))
        try replace HC := HC.next hb
        refine hK.out _ _ ⟨b0, b1, b2, b3, b4, j0, j1, trivial⟩ (fun hHeld => ?_)
        clear hK K hb
        try simp only [Act.put, sA, sB, sC]
        refine rd1 6 (fun K hK => ?_)
        go_simp
        refine (X1.out _ _ _ _ HC).mono ?_
        rintro e Z17x10 ⟨rfl, hb⟩
        replace es3 := cell_next hb nes es3
        replace b0 := cell_next hb nb b0
        replace b1 := cell_next hb nb b1
        replace b2 := cell_next hb nb b2
        replace b3 := cell_next hb nb b3
        replace b4 := cell_next hb nb b4
        replace j0 := cell_next hb nj j0
        replace j1 := cell_next hb nj j1
        replace ccf0 := frozen_next hb ncc ccf0
        replace ccf1 := frozen_next hb ncc ccf1
        replace cc0 := cell_next hb ncc cc0
        replace cc1 := cell_next hb ncc cc1
        replace nes := Nat.lt_of_lt_of_le nes hb.size
        replace nb := Nat.lt_of_lt_of_le nb hb.size
        replace nj := Nat.lt_of_lt_of_le nj hb.size
        replace ncc := Nat.lt_of_lt_of_le ncc hb.size
        replace hL := hL.trans (hb.mono (Nat.le_trans hBW hL.size))
        try replace HC := HC.next hb
        refine hK.out _ _ ⟨b0, b1, b2, b3, b4, j0, j1, trivial⟩ (fun hHeld => ?_)
        clear hK K hb
        try simp only [Act.put, sA, sB, sC]
        refine tq 7 307 ?_ ?_ ?_; rotate_left; (focus intro w h; (try dsimp only at h); go_simp; try with_reducible rfl); try simp only [sA, sB, sC]
        refine tq 8 315 ?_ ?_ ?_; rotate_left; (focus intro w h; (try dsimp only at h); go_simp; try with_reducible rfl); try simp only [sA, sB, sC]
        refine tq 9 316 ?_ ?_ ?_; rotate_left; (focus intro w h; (try dsimp only at h); go_simp; try with_reducible rfl); try simp only [sA, sB, sC]
        refine rd1 11 (fun K hK => ?_)
        go_simp
        replace es3 : ((Z17x10.setCell ⟨wd17.heap.size, 0, none⟩ (.int .i64 c)).setCell ⟨wd17.heap.size, 1, none⟩ (.int .i64 c)).cell? ⟨gs, os + mm * 2, none⟩ = some (.int .i64 hx') := ((so (by omega)).trans ((so (by omega)).trans es3))
        replace b0 : ((Z17x10.setCell ⟨wd17.heap.size, 0, none⟩ (.int .i64 c)).setCell ⟨wd17.heap.size, 1, none⟩ (.int .i64 c)).cell? ⟨w.heap.size, 0, none⟩ = some (.slice (some ⟨ge, oe, none⟩) (m + 1) c1) := ((so (by omega)).trans ((so (by omega)).trans b0))
        replace b1 : ((Z17x10.setCell ⟨wd17.heap.size, 0, none⟩ (.int .i64 c)).setCell ⟨wd17.heap.size, 1, none⟩ (.int .i64 c)).cell? ⟨w.heap.size, 1, none⟩ = some (.slice (some ⟨gs, os, none⟩) (mm + 1) c2) := ((so (by omega)).trans ((so (by omega)).trans b1))
        replace b2 : ((Z17x10.setCell ⟨wd17.heap.size, 0, none⟩ (.int .i64 c)).setCell ⟨wd17.heap.size, 1, none⟩ (.int .i64 c)).cell? ⟨w.heap.size, 2, none⟩ = some (.int .i64 bl) := ((so (by omega)).trans ((so (by omega)).trans b2))
        replace b3 : ((Z17x10.setCell ⟨wd17.heap.size, 0, none⟩ (.int .i64 c)).setCell ⟨wd17.heap.size, 1, none⟩ (.int .i64 c)).cell? ⟨w.heap.size, 3, none⟩ = some (.int .i64 bh) := ((so (by omega)).trans ((so (by omega)).trans b3))
        replace b4 : ((Z17x10.setCell ⟨wd17.heap.size, 0, none⟩ (.int .i64 c)).setCell ⟨wd17.heap.size, 1, none⟩ (.int .i64 c)).cell? ⟨w.heap.size, 4, none⟩ = some (.slice A3 n3 c3) := ((so (by omega)).trans ((so (by omega)).trans b4))
        replace j0 : ((Z17x10.setCell ⟨wd17.heap.size, 0, none⟩ (.int .i64 c)).setCell ⟨wd17.heap.size, 1, none⟩ (.int .i64 c)).cell? ⟨w.heap.size + 1, 0, none⟩ = some (.int .i64 a) := ((so (by omega)).trans ((so (by omega)).trans j0))
        replace j1 : ((Z17x10.setCell ⟨wd17.heap.size, 0, none⟩ (.int .i64 c)).setCell ⟨wd17.heap.size, 1, none⟩ (.int .i64 c)).cell? ⟨w.heap.size + 1, 1, none⟩ = some (.int .i64 s) := ((so (by omega)).trans ((so (by omega)).trans j1))
        replace ccf0 : ((Z17x10.setCell ⟨wd17.heap.size, 0, none⟩ (.int .i64 c)).setCell ⟨wd17.heap.size, 1, none⟩ (.int .i64 c)).frozen? ⟨wd17.heap.size, 0, none⟩ = false := by simp [go_sem, ccf0]
        replace ccf1 : ((Z17x10.setCell ⟨wd17.heap.size, 0, none⟩ (.int .i64 c)).setCell ⟨wd17.heap.size, 1, none⟩ (.int .i64 c)).frozen? ⟨wd17.heap.size, 1, none⟩ = false := by simp [go_sem, ccf1]
        replace cc0 : ((Z17x10.setCell ⟨wd17.heap.size, 0, none⟩ (.int .i64 c)).setCell ⟨wd17.heap.size, 1, none⟩ (.int .i64 c)).cell? ⟨wd17.heap.size, 0, none⟩ = some (.int .i64 c) := by simp [go_sem, cc0]
        replace cc1 : ((Z17x10.setCell ⟨wd17.heap.size, 0, none⟩ (.int .i64 c)).setCell ⟨wd17.heap.size, 1, none⟩ (.int .i64 c)).cell? ⟨wd17.heap.size, 1, none⟩ = some (.int .i64 c) := by simp [go_sem, cc1]
        replace nes : gs < ((Z17x10.setCell ⟨wd17.heap.size, 0, none⟩ (.int .i64 c)).setCell ⟨wd17.heap.size, 1, none⟩ (.int .i64 c)).heap.size := by simpa [World.setCell] using nes
        replace nb : w.heap.size < ((Z17x10.setCell ⟨wd17.heap.size, 0, none⟩ (.int .i64 c)).setCell ⟨wd17.heap.size, 1, none⟩ (.int .i64 c)).heap.size := by simpa [World.setCell] using nb
        replace nj : w.heap.size + 1 < ((Z17x10.setCell ⟨wd17.heap.size, 0, none⟩ (.int .i64 c)).setCell ⟨wd17.heap.size, 1, none⟩ (.int .i64 c)).heap.size := by simpa [World.setCell] using nj
        replace ncc : wd17.heap.size < ((Z17x10.setCell ⟨wd17.heap.size, 0, none⟩ (.int .i64 c)).setCell ⟨wd17.heap.size, 1, none⟩ (.int .i64 c)).heap.size := by simpa [World.setCell] using ncc
        replace hL := hL.setCell (p := ⟨wd17.heap.size, 0, none⟩) (by show W16.heap.size ≤ wd17.heap.size; omega) (.int .i64 c)
        replace hL := hL.setCell (p := ⟨wd17.heap.size, 1, none⟩) (by show W16.heap.size ≤ wd17.heap.size; omega) (.int .i64 c)
        refine hK.out _ _ ⟨b0, b1, b2, b3, b4, j0, j1, trivial⟩ (fun hHeld => ?_)
        clear hK K
        generalize ((Z17x10.setCell ⟨wd17.heap.size, 0, none⟩ (.int .i64 c)).setCell ⟨wd17.heap.size, 1, none⟩ (.int .i64 c)) = Z17x11 at *
        try simp only [Act.put, sA, sB, sC]
        refine tq 12 10 ?_ ?_ ?_; rotate_left; (focus intro w h; (try dsimp only at h); go_simp; try with_reducible rfl); try simp only [sA, sB, sC]
        refine wpAnyH_done (by kernel_rfl) ?_ _
        have hfin := And.intro (hB.trans (hL.mono hB.size)) (And.intro es3 (And.intro b0 (And.intro b1 (And.intro b2 (And.intro b3 (And.intro b4 (And.intro j0 (And.intro j1 (And.intro nes (And.intro nb (And.intro nj (And.intro cc0 (And.intro cc1 (ncc))))))))))))))
        clear es3 b0 b1 b2 b3 b4 j0 j1 nes nb nj cc0 cc1 ncc hL hHeld
        revert hfin
        generalize Z17x11 = w9
        generalize wd17.heap.size = g9
        intro hfin
        exact key g9 w1 w2 w3 w9 hfin
      clear es3 b0 b1 b2 b3 b4 j0 j1 nes nb nj hB
      intro g17 w1 w2 w3 V17 ⟨hB, es3, b0, b1, b2, b3, b4, j0, j1, nes, nb, nj, cc0, cc1, ncc⟩
      go_wp2_with fail
      apply suffC (R := fun (g : Nat) (w1 w2 w3 : Value) (W : World) => Below w.heap.size w W ∧ W.cell? ⟨gs, os + mm * 2, none⟩ = some (.int .i64 hx') ∧ W.cell? ⟨w.heap.size, 0, none⟩ = some (.slice (some ⟨ge, oe, none⟩) (m + 1) c1) ∧ W.cell? ⟨w.heap.size, 1, none⟩ = some (.slice (some ⟨gs, os, none⟩) (mm + 1) c2) ∧ W.cell? ⟨w.heap.size, 2, none⟩ = some (.int .i64 bl) ∧ W.cell? ⟨w.heap.size, 3, none⟩ = some (.int .i64 bh) ∧ W.cell? ⟨w.heap.size, 4, none⟩ = some (.slice A3 n3 c3) ∧ W.cell? ⟨w.heap.size + 1, 0, none⟩ = some (.int .i64 a) ∧ W.cell? ⟨w.heap.size + 1, 1, none⟩ = some (.int .i64 s) ∧ W.cell? ⟨g17, 0, none⟩ = some (.int .i64 c) ∧ W.cell? ⟨g17, 1, none⟩ = some (.int .i64 c) ∧ gs < W.heap.size ∧ w.heap.size < W.heap.size ∧ w.heap.size + 1 < W.heap.size ∧ g17 < W.heap.size ∧ W.cell? ⟨g, 0, none⟩ = some (.int .i64 dl) ∧ W.cell? ⟨g, 1, none⟩ = some (.int .i64 dh) ∧ g < W.heap.size)
      case main =>
       intro key
       have hBW : V17.heap.size ≤ V17.heap.size := Nat.le_refl _
       refine wp_region_held_drew (S := fun w' => w'.cell? ⟨w.heap.size, 0, none⟩ = some (.slice (some ⟨ge, oe, none⟩) (m + 1) c1) ∧ w'.cell? ⟨w.heap.size, 1, none⟩ = some (.slice (some ⟨gs, os, none⟩) (mm + 1) c2) ∧ w'.cell? ⟨w.heap.size, 2, none⟩ = some (.int .i64 bl) ∧ w'.cell? ⟨w.heap.size, 3, none⟩ = some (.int .i64 bh) ∧ w'.cell? ⟨w.heap.size, 4, none⟩ = some (.slice A3 n3 c3) ∧ w'.cell? ⟨w.heap.size + 1, 0, none⟩ = some (.int .i64 a) ∧ w'.cell? ⟨w.heap.size + 1, 1, none⟩ = some (.int .i64 s) ∧ w'.cell? ⟨gs, os + mm * 2, none⟩ = some (.int .i64 hx') ∧ True) (by kernel_rfl) ?_ (fun hHeld => ?_)
       focus (exact ⟨b0, b1, b2, b3, b4, j0, j1, es3, trivial⟩)
       have hL : Below V17.heap.size V17 V17.drew := Below.drew (Below.refl _ _)
       replace es3 : V17.drew.cell? ⟨gs, os + mm * 2, none⟩ = some (.int .i64 hx') := es3
       replace b0 : V17.drew.cell? ⟨w.heap.size, 0, none⟩ = some (.slice (some ⟨ge, oe, none⟩) (m + 1) c1) := b0
       replace b1 : V17.drew.cell? ⟨w.heap.size, 1, none⟩ = some (.slice (some ⟨gs, os, none⟩) (mm + 1) c2) := b1
       replace b2 : V17.drew.cell? ⟨w.heap.size, 2, none⟩ = some (.int .i64 bl) := b2
       replace b3 : V17.drew.cell? ⟨w.heap.size, 3, none⟩ = some (.int .i64 bh) := b3
       replace b4 : V17.drew.cell? ⟨w.heap.size, 4, none⟩ = some (.slice A3 n3 c3) := b4
       replace j0 : V17.drew.cell? ⟨w.heap.size + 1, 0, none⟩ = some (.int .i64 a) := j0
       replace j1 : V17.drew.cell? ⟨w.heap.size + 1, 1, none⟩ = some (.int .i64 s) := j1
       replace cc0 : V17.drew.cell? ⟨g17, 0, none⟩ = some (.int .i64 c) := cc0
       replace cc1 : V17.drew.cell? ⟨g17, 1, none⟩ = some (.int .i64 c) := cc1
       replace nes : gs < V17.drew.heap.size := nes
       replace nb : w.heap.size < V17.drew.heap.size := nb
       replace nj : w.heap.size + 1 < V17.drew.heap.size := nj
       replace ncc : g17 < V17.drew.heap.size := ncc
       generalize hWd : V17.drew = wd18 at hHeld hL es3 b0 b1 b2 b3 b4 j0 j1 cc0 cc1 nes nb nj ncc  ⊢
       clear hWd
       refine tq 0 318 ?_ ?_ ?_; rotate_left; (focus intro w h; (try dsimp only at h); go_simp; try with_reducible rfl); try simp only [sA, sB, sC]
       refine tq 2 320 ?_ ?_ ?_; rotate_left; (focus intro w h; (try dsimp only at h); go_simp; try with_reducible rfl); try simp only [sA, sB, sC]
       refine tq 3 321 ?_ ?_ ?_; rotate_left; (focus intro w h; (try dsimp only at h); go_simp; try with_reducible rfl); try simp only [sA, sB, sC]
       refine tq 4 322 ?_ ?_ ?_; rotate_left; (focus intro w h; (try dsimp only at h); go_simp; try with_reducible rfl); try simp only [sA, sB, sC]
       refine tq 5 323 ?_ ?_ ?_; rotate_left; (focus intro w h; (try dsimp only at h); go_simp; try with_reducible rfl); try simp only [sA, sB, sC]
       refine tq 6 324 ?_ ?_ ?_; rotate_left; (focus intro w h; (try dsimp only at h); go_simp; try with_reducible rfl); try simp only [sA, sB, sC]
       refine tq 7 325 ?_ ?_ ?_; rotate_left; (focus intro w h; (try dsimp only at h); go_simp; try with_reducible rfl); try simp only [sA, sB, sC]
       refine tq 8 326 ?_ ?_ ?_; rotate_left; (focus intro w h; (try dsimp only at h); go_simp; try with_reducible rfl); try simp only [sA, sB, sC]
       refine tq 9 327 ?_ ?_ ?_; rotate_left; (focus intro w h; (try dsimp only at h); go_simp; try with_reducible rfl); try simp only [sA, sB, sC]
       refine tq 10 328 ?_ ?_ ?_; rotate_left; (focus intro w h; (try dsimp only at h); go_simp; try with_reducible rfl); try simp only [sA, sB, sC]
       refine tq 11 329 ?_ ?_ ?_; rotate_left; (focus intro w h; (try dsimp only at h); go_simp; try with_reducible rfl); try simp only [sA, sB, sC]
       refine tq 12 330 ?_ ?_ ?_; rotate_left; (focus intro w h; (try dsimp only at h); go_simp; try with_reducible rfl); try simp only [sA, sB, sC]
       refine tq 13 331 ?_ ?_ ?_; rotate_left; (focus intro w h; (try dsimp only at h); go_simp; try with_reducible rfl); try simp only [sA, sB, sC]
       refine wpAnyH_ready (rs := [1, 18]) (by kernel_rfl) (by simp) ?_
       refine AllReadyH.cons rfl (fun K hK => ?_) (AllReadyH.cons rfl (fun K hK => ?_) AllReadyH.nil)
       ·go_simp
        refine (CO.out hl _ (hB.trans (hL.mono hB.size))).mono ?_
        rintro e Z18x1 ⟨w1, w2, w3, rfl, HC, hb⟩
        replace es3 := cell_next hb nes es3
        replace b0 := cell_next hb nb b0
        replace b1 := cell_next hb nb b1
        replace b2 := cell_next hb nb b2
        replace b3 := cell_next hb nb b3
        replace b4 := cell_next hb nb b4
        replace j0 := cell_next hb nj j0
        replace j1 := cell_next hb nj j1
        replace cc0 := cell_next hb ncc cc0
        replace cc1 := cell_next hb ncc cc1
        replace nes := Nat.lt_of_lt_of_le nes hb.size
        replace nb := Nat.lt_of_lt_of_le nb hb.size
        replace nj := Nat.lt_of_lt_of_le nj hb.size
        replace ncc := Nat.lt_of_lt_of_le ncc hb.size
        replace hL := hL.trans (hb.mono (Nat.le_trans hBW hL.size))
        try replace HC := HC.next hb
        refine hK.out _ _ ⟨b0, b1, b2, b3, b4, j0, j1, es3, trivial⟩ (fun hHeld => ?_)
        clear hK K hb
        try simp only [Act.put, sA, sB, sC]
        refine wpAnyH_ready (rs := [14, 18]) (by kernel_rfl) (by simp) ?_
        refine AllReadyH.cons rfl (fun K hK => ?_) (AllReadyH.cons rfl (fun K hK => ?_) AllReadyH.nil)
        ·go_simp
         refine (X2.out _ _ _ _ HC).mono ?_
         rintro e Z18x2 ⟨rfl, hb⟩
         replace es3 := cell_next hb nes es3
         replace b0 := cell_next hb nb b0
         replace b1 := cell_next hb nb b1
         replace b2 := cell_next hb nb b2
         replace b3 := cell_next hb nb b3
         replace b4 := cell_next hb nb b4
         replace j0 := cell_next hb nj j0
         replace j1 := cell_next hb nj j1
         replace cc0 := cell_next hb ncc cc0
         replace cc1 := cell_next hb ncc cc1
         replace nes := Nat.lt_of_lt_of_le nes hb.size
         replace nb := Nat.lt_of_lt_of_le nb hb.size
         replace nj := Nat.lt_of_lt_of_le nj hb.size
         replace ncc := Nat.lt_of_lt_of_le ncc hb.size
         replace hL := hL.trans (hb.mono (Nat.le_trans hBW hL.size))
         try replace HC := HC.next hb
         refine hK.out _ _ ⟨b0, b1, b2, b3, b4, j0, j1, es3, trivial⟩ (fun hHeld => ?_)
         clear hK K hb
         try simp only [Act.put, sA, sB, sC]
         refine tq 15 317 ?_ ?_ ?_; rotate_left; (focus intro w h; (try dsimp only at h); go_simp; try with_reducible rfl); try simp only [sA, sB, sC]
         refine tq 16 333 ?_ ?_ ?_; rotate_left; (focus intro w h; (try dsimp only at h); go_simp; try with_reducible rfl); try simp only [sA, sB, sC]
         refine tq 17 334 ?_ ?_ ?_; rotate_left; (focus intro w h; (try dsimp only at h); go_simp; try with_reducible rfl); try simp only [sA, sB, sC]
         refine rd1 18 (fun K hK => ?_)
         go_simp
         have hb := (Below.refl Z18x2.heap.size Z18x2).alloc (Nat.le_refl _) (Obj.cells #[.int .i64 0, .int .i64 0] 24)
         have szZ18x3 := hL.size
         have ord3nes := nes
         have ord3nb := nb
         have ord3nj := nj
         have ord3ncc := ncc
         replace es3 := cell_next hb nes es3
         replace b0 := cell_next hb nb b0
         replace b1 := cell_next hb nb b1
         replace b2 := cell_next hb nb b2
         replace b3 := cell_next hb nb b3
         replace b4 := cell_next hb nb b4
         replace j0 := cell_next hb nj j0
         replace j1 := cell_next hb nj j1
         replace cc0 := cell_next hb ncc cc0
         replace cc1 := cell_next hb ncc cc1
         replace nes := Nat.lt_of_lt_of_le nes hb.size
         replace nb := Nat.lt_of_lt_of_le nb hb.size
         replace nj := Nat.lt_of_lt_of_le nj hb.size
         replace ncc := Nat.lt_of_lt_of_le ncc hb.size
         replace hL := hL.trans (hb.mono (Nat.le_trans hBW hL.size))
         try replace HC := HC.next hb
         have ddf0 : (Z18x2.alloc (Obj.cells #[.int .i64 0, .int .i64 0] 24)).frozen? ⟨Z18x2.heap.size, 0, none⟩ = false := by simp [go_sem]
         have ddf1 : (Z18x2.alloc (Obj.cells #[.int .i64 0, .int .i64 0] 24)).frozen? ⟨Z18x2.heap.size, 1, none⟩ = false := by simp [go_sem]
         have dd0 : (Z18x2.alloc (Obj.cells #[.int .i64 0, .int .i64 0] 24)).cell? ⟨Z18x2.heap.size, 0, none⟩ = some (.int .i64 0) := cell_new _ _ _ 0
         have dd1 : (Z18x2.alloc (Obj.cells #[.int .i64 0, .int .i64 0] 24)).cell? ⟨Z18x2.heap.size, 1, none⟩ = some (.int .i64 0) := cell_new _ _ _ 1
         have ndd : Z18x2.heap.size < (Z18x2.alloc (Obj.cells #[.int .i64 0, .int .i64 0] 24)).heap.size := by simp
         refine hK.out _ _ ⟨b0, b1, b2, b3, b4, j0, j1, es3, trivial⟩ (fun hHeld => ?_)
         clear hK K hb
         generalize Z18x2.alloc (Obj.cells #[.int .i64 0, .int .i64 0] 24) = Z18x3 at *
         try simp only [Act.put, sA, sB, sC]
         refine rd1 19 (fun K hK => ?_)
         go_simp
         replace es3 : ((Z18x3.setCell ⟨Z18x2.heap.size, 0, none⟩ (.int .i64 dl)).setCell ⟨Z18x2.heap.size, 1, none⟩ (.int .i64 dh)).cell? ⟨gs, os + mm * 2, none⟩ = some (.int .i64 hx') := ((so (by omega)).trans ((so (by omega)).trans es3))
         replace b0 : ((Z18x3.setCell ⟨Z18x2.heap.size, 0, none⟩ (.int .i64 dl)).setCell ⟨Z18x2.heap.size, 1, none⟩ (.int .i64 dh)).cell? ⟨w.heap.size, 0, none⟩ = some (.slice (some ⟨ge, oe, none⟩) (m + 1) c1) := ((so (by omega)).trans ((so (by omega)).trans b0))
         replace b1 : ((Z18x3.setCell ⟨Z18x2.heap.size, 0, none⟩ (.int .i64 dl)).setCell ⟨Z18x2.heap.size, 1, none⟩ (.int .i64 dh)).cell? ⟨w.heap.size, 1, none⟩ = some (.slice (some ⟨gs, os, none⟩) (mm + 1) c2) := ((so (by omega)).trans ((so (by omega)).trans b1))
         replace b2 : ((Z18x3.setCell ⟨Z18x2.heap.size, 0, none⟩ (.int .i64 dl)).setCell ⟨Z18x2.heap.size, 1, none⟩ (.int .i64 dh)).cell? ⟨w.heap.size, 2, none⟩ = some (.int .i64 bl) := ((so (by omega)).trans ((so (by omega)).trans b2))
         replace b3 : ((Z18x3.setCell ⟨Z18x2.heap.size, 0, none⟩ (.int .i64 dl)).setCell ⟨Z18x2.heap.size, 1, none⟩ (.int .i64 dh)).cell? ⟨w.heap.size, 3, none⟩ = some (.int .i64 bh) := ((so (by omega)).trans ((so (by omega)).trans b3))
         replace b4 : ((Z18x3.setCell ⟨Z18x2.heap.size, 0, none⟩ (.int .i64 dl)).setCell ⟨Z18x2.heap.size, 1, none⟩ (.int .i64 dh)).cell? ⟨w.heap.size, 4, none⟩ = some (.slice A3 n3 c3) := ((so (by omega)).trans ((so (by omega)).trans b4))
         replace j0 : ((Z18x3.setCell ⟨Z18x2.heap.size, 0, none⟩ (.int .i64 dl)).setCell ⟨Z18x2.heap.size, 1, none⟩ (.int .i64 dh)).cell? ⟨w.heap.size + 1, 0, none⟩ = some (.int .i64 a) := ((so (by omega)).trans ((so (by omega)).trans j0))
         replace j1 : ((Z18x3.setCell ⟨Z18x2.heap.size, 0, none⟩ (.int .i64 dl)).setCell ⟨Z18x2.heap.size, 1, none⟩ (.int .i64 dh)).cell? ⟨w.heap.size + 1, 1, none⟩ = some (.int .i64 s) := ((so (by omega)).trans ((so (by omega)).trans j1))
         replace cc0 : ((Z18x3.setCell ⟨Z18x2.heap.size, 0, none⟩ (.int .i64 dl)).setCell ⟨Z18x2.heap.size, 1, none⟩ (.int .i64 dh)).cell? ⟨g17, 0, none⟩ = some (.int .i64 c) := ((so (by omega)).trans ((so (by omega)).trans cc0))
         replace cc1 : ((Z18x3.setCell ⟨Z18x2.heap.size, 0, none⟩ (.int .i64 dl)).setCell ⟨Z18x2.heap.size, 1, none⟩ (.int .i64 dh)).cell? ⟨g17, 1, none⟩ = some (.int .i64 c) := ((so (by omega)).trans ((so (by omega)).trans cc1))
         replace ddf0 : ((Z18x3.setCell ⟨Z18x2.heap.size, 0, none⟩ (.int .i64 dl)).setCell ⟨Z18x2.heap.size, 1, none⟩ (.int .i64 dh)).frozen? ⟨Z18x2.heap.size, 0, none⟩ = false := by simp [go_sem, ddf0]
         replace ddf1 : ((Z18x3.setCell ⟨Z18x2.heap.size, 0, none⟩ (.int .i64 dl)).setCell ⟨Z18x2.heap.size, 1, none⟩ (.int .i64 dh)).frozen? ⟨Z18x2.heap.size, 1, none⟩ = false := by simp [go_sem, ddf1]
         replace dd0 : ((Z18x3.setCell ⟨Z18x2.heap.size, 0, none⟩ (.int .i64 dl)).setCell ⟨Z18x2.heap.size, 1, none⟩ (.int .i64 dh)).cell? ⟨Z18x2.heap.size, 0, none⟩ = some (.int .i64 dl) := by simp [go_sem, dd0]
         replace dd1 : ((Z18x3.setCell ⟨Z18x2.heap.size, 0, none⟩ (.int .i64 dl)).setCell ⟨Z18x2.heap.size, 1, none⟩ (.int .i64 dh)).cell? ⟨Z18x2.heap.size, 1, none⟩ = some (.int .i64 dh) := by simp [go_sem, dd1]
         replace nes : gs < ((Z18x3.setCell ⟨Z18x2.heap.size, 0, none⟩ (.int .i64 dl)).setCell ⟨Z18x2.heap.size, 1, none⟩ (.int .i64 dh)).heap.size := by simpa [World.setCell] using nes
         replace nb : w.heap.size < ((Z18x3.setCell ⟨Z18x2.heap.size, 0, none⟩ (.int .i64 dl)).setCell ⟨Z18x2.heap.size, 1, none⟩ (.int .i64 dh)).heap.size := by simpa [World.setCell] using nb
         replace nj : w.heap.size + 1 < ((Z18x3.setCell ⟨Z18x2.heap.size, 0, none⟩ (.int .i64 dl)).setCell ⟨Z18x2.heap.size, 1, none⟩ (.int .i64 dh)).heap.size := by simpa [World.setCell] using nj
         replace ncc : g17 < ((Z18x3.setCell ⟨Z18x2.heap.size, 0, none⟩ (.int .i64 dl)).setCell ⟨Z18x2.heap.size, 1, none⟩ (.int .i64 dh)).heap.size := by simpa [World.setCell] using ncc
         replace ndd : Z18x2.heap.size < ((Z18x3.setCell ⟨Z18x2.heap.size, 0, none⟩ (.int .i64 dl)).setCell ⟨Z18x2.heap.size, 1, none⟩ (.int .i64 dh)).heap.size := by simpa [World.setCell] using ndd
         replace hL := hL.setCell (p := ⟨Z18x2.heap.size, 0, none⟩) (by show V17.heap.size ≤ Z18x2.heap.size; omega) (.int .i64 dl)
         replace hL := hL.setCell (p := ⟨Z18x2.heap.size, 1, none⟩) (by show V17.heap.size ≤ Z18x2.heap.size; omega) (.int .i64 dh)
         refine hK.out _ _ ⟨b0, b1, b2, b3, b4, j0, j1, es3, trivial⟩ (fun hHeld => ?_)
         clear hK K
         generalize ((Z18x3.setCell ⟨Z18x2.heap.size, 0, none⟩ (.int .i64 dl)).setCell ⟨Z18x2.heap.size, 1, none⟩ (.int .i64 dh)) = Z18x4 at *
         try simp only [Act.put, sA, sB, sC]
         refine tq 20 12 ?_ ?_ ?_; rotate_left; (focus intro w h; (try dsimp only at h); go_simp; try with_reducible rfl); try simp only [sA, sB, sC]
         refine wpAnyH_done (by kernel_rfl) ?_ _
         have hfin := And.intro (hB.trans (hL.mono hB.size)) (And.intro es3 (And.intro b0 (And.intro b1 (And.intro b2 (And.intro b3 (And.intro b4 (And.intro j0 (And.intro j1 (And.intro cc0 (And.intro cc1 (And.intro nes (And.intro nb (And.intro nj (And.intro ncc (And.intro dd0 (And.intro dd1 (ndd)))))))))))))))))
         clear es3 b0 b1 b2 b3 b4 j0 j1 cc0 cc1 nes nb nj ncc dd0 dd1 ndd hL hHeld
         revert hfin
         generalize Z18x4 = w9
         generalize Z18x2.heap.size = g9
         intro hfin
         exact key g9 w1 w2 w3 w9 hfin
        ·go_simp
         have hb := (Below.refl Z18x1.heap.size Z18x1).alloc (Nat.le_refl _) (Obj.cells #[.int .i64 0, .int .i64 0] 24)
         have szZ18x5 := hL.size
         have ord5nes := nes
         have ord5nb := nb
         have ord5nj := nj
         have ord5ncc := ncc
         replace es3 := cell_next hb nes es3
         replace b0 := cell_next hb nb b0
         replace b1 := cell_next hb nb b1
         replace b2 := cell_next hb nb b2
         replace b3 := cell_next hb nb b3
         replace b4 := cell_next hb nb b4
         replace j0 := cell_next hb nj j0
         replace j1 := cell_next hb nj j1
         replace cc0 := cell_next hb ncc cc0
         replace cc1 := cell_next hb ncc cc1
         replace nes := Nat.lt_of_lt_of_le nes hb.size
         replace nb := Nat.lt_of_lt_of_le nb hb.size
         replace nj := Nat.lt_of_lt_of_le nj hb.size
         replace ncc := Nat.lt_of_lt_of_le ncc hb.size
         replace hL := hL.trans (hb.mono (Nat.le_trans hBW hL.size))
         try replace HC := HC.next hb
         have ddf0 : (Z18x1.alloc (Obj.cells #[.int .i64 0, .int .i64 0] 24)).frozen? ⟨Z18x1.heap.size, 0, none⟩ = false := by simp [go_sem]
         have ddf1 : (Z18x1.alloc (Obj.cells #[.int .i64 0, .int .i64 0] 24)).frozen? ⟨Z18x1.heap.size, 1, none⟩ = false := by simp [go_sem]
         have dd0 : (Z18x1.alloc (Obj.cells #[.int .i64 0, .int .i64 0] 24)).cell? ⟨Z18x1.heap.size, 0, none⟩ = some (.int .i64 0) := cell_new _ _ _ 0
         have dd1 : (Z18x1.alloc (Obj.cells #[.int .i64 0, .int .i64 0] 24)).cell? ⟨Z18x1.heap.size, 1, none⟩ = some (.int .i64 0) := cell_new _ _ _ 1
         have ndd : Z18x1.heap.size < (Z18x1.alloc (Obj.cells #[.int .i64 0, .int .i64 0] 24)).heap.size := by simp
         refine hK.out _ _ ⟨b0, b1, b2, b3, b4, j0, j1, es3, trivial⟩ (fun hHeld => ?_)
         clear hK K hb
         generalize Z18x1.alloc (Obj.cells #[.int .i64 0, .int .i64 0] 24) = Z18x5 at *
         try simp only [Act.put, sA, sB, sC]
         refine rd1 14 (fun K hK => ?_)
         go_simp
         refine (X2.out _ _ _ _ HC).mono ?_
         rintro e Z18x6 ⟨rfl, hb⟩
         replace es3 := cell_next hb nes es3
         replace b0 := cell_next hb nb b0
         replace b1 := cell_next hb nb b1
         replace b2 := cell_next hb nb b2
         replace b3 := cell_next hb nb b3
         replace b4 := cell_next hb nb b4
         replace j0 := cell_next hb nj j0
         replace j1 := cell_next hb nj j1
         replace cc0 := cell_next hb ncc cc0
         replace cc1 := cell_next hb ncc cc1
         replace ddf0 := frozen_next hb ndd ddf0
         replace ddf1 := frozen_next hb ndd ddf1
         replace dd0 := cell_next hb ndd dd0
         replace dd1 := cell_next hb ndd dd1
         replace nes := Nat.lt_of_lt_of_le nes hb.size
         replace nb := Nat.lt_of_lt_of_le nb hb.size
         replace nj := Nat.lt_of_lt_of_le nj hb.size
         replace ncc := Nat.lt_of_lt_of_le ncc hb.size
         replace ndd := Nat.lt_of_lt_of_le ndd hb.size
         replace hL := hL.trans (hb.mono (Nat.le_trans hBW hL.size))
         try replace HC := HC.next hb
         refine hK.out _ _ ⟨b0, b1, b2, b3, b4, j0, j1, es3, trivial⟩ (fun hHeld => ?_)
         clear hK K hb
         try simp only [Act.put, sA, sB, sC]
         refine tq 15 317 ?_ ?_ ?_; rotate_left; (focus intro w h; (try dsimp only at h); go_simp; try with_reducible rfl); try simp only [sA, sB, sC]
         refine tq 16 333 ?_ ?_ ?_; rotate_left; (focus intro w h; (try dsimp only at h); go_simp; try with_reducible rfl); try simp only [sA, sB, sC]
         refine tq 17 334 ?_ ?_ ?_; rotate_left; (focus intro w h; (try dsimp only at h); go_simp; try with_reducible rfl); try simp only [sA, sB, sC]
         refine rd1 19 (fun K hK => ?_)
         go_simp
         replace es3 : ((Z18x6.setCell ⟨Z18x1.heap.size, 0, none⟩ (.int .i64 dl)).setCell ⟨Z18x1.heap.size, 1, none⟩ (.int .i64 dh)).cell? ⟨gs, os + mm * 2, none⟩ = some (.int .i64 hx') := ((so (by omega)).trans ((so (by omega)).trans es3))
         replace b0 : ((Z18x6.setCell ⟨Z18x1.heap.size, 0, none⟩ (.int .i64 dl)).setCell ⟨Z18x1.heap.size, 1, none⟩ (.int .i64 dh)).cell? ⟨w.heap.size, 0, none⟩ = some (.slice (some ⟨ge, oe, none⟩) (m + 1) c1) := ((so (by omega)).trans ((so (by omega)).trans b0))
         replace b1 : ((Z18x6.setCell ⟨Z18x1.heap.size, 0, none⟩ (.int .i64 dl)).setCell ⟨Z18x1.heap.size, 1, none⟩ (.int .i64 dh)).cell? ⟨w.heap.size, 1, none⟩ = some (.slice (some ⟨gs, os, none⟩) (mm + 1) c2) := ((so (by omega)).trans ((so (by omega)).trans b1))
         replace b2 : ((Z18x6.setCell ⟨Z18x1.heap.size, 0, none⟩ (.int .i64 dl)).setCell ⟨Z18x1.heap.size, 1, none⟩ (.int .i64 dh)).cell? ⟨w.heap.size, 2, none⟩ = some (.int .i64 bl) := ((so (by omega)).trans ((so (by omega)).trans b2))
         replace b3 : ((Z18x6.setCell ⟨Z18x1.heap.size, 0, none⟩ (.int .i64 dl)).setCell ⟨Z18x1.heap.size, 1, none⟩ (.int .i64 dh)).cell? ⟨w.heap.size, 3, none⟩ = some (.int .i64 bh) := ((so (by omega)).trans ((so (by omega)).trans b3))
         replace b4 : ((Z18x6.setCell ⟨Z18x1.heap.size, 0, none⟩ (.int .i64 dl)).setCell ⟨Z18x1.heap.size, 1, none⟩ (.int .i64 dh)).cell? ⟨w.heap.size, 4, none⟩ = some (.slice A3 n3 c3) := ((so (by omega)).trans ((so (by omega)).trans b4))
         replace j0 : ((Z18x6.setCell ⟨Z18x1.heap.size, 0, none⟩ (.int .i64 dl)).setCell ⟨Z18x1.heap.size, 1, none⟩ (.int .i64 dh)).cell? ⟨w.heap.size + 1, 0, none⟩ = some (.int .i64 a) := ((so (by omega)).trans ((so (by omega)).trans j0))
         replace j1 : ((Z18x6.setCell ⟨Z18x1.heap.size, 0, none⟩ (.int .i64 dl)).setCell ⟨Z18x1.heap.size, 1, none⟩ (.int .i64 dh)).cell? ⟨w.heap.size + 1, 1, none⟩ = some (.int .i64 s) := ((so (by omega)).trans ((so (by omega)).trans j1))
         replace cc0 : ((Z18x6.setCell ⟨Z18x1.heap.size, 0, none⟩ (.int .i64 dl)).setCell ⟨Z18x1.heap.size, 1, none⟩ (.int .i64 dh)).cell? ⟨g17, 0, none⟩ = some (.int .i64 c) := ((so (by omega)).trans ((so (by omega)).trans cc0))
         replace cc1 : ((Z18x6.setCell ⟨Z18x1.heap.size, 0, none⟩ (.int .i64 dl)).setCell ⟨Z18x1.heap.size, 1, none⟩ (.int .i64 dh)).cell? ⟨g17, 1, none⟩ = some (.int .i64 c) := ((so (by omega)).trans ((so (by omega)).trans cc1))
         replace ddf0 : ((Z18x6.setCell ⟨Z18x1.heap.size, 0, none⟩ (.int .i64 dl)).setCell ⟨Z18x1.heap.size, 1, none⟩ (.int .i64 dh)).frozen? ⟨Z18x1.heap.size, 0, none⟩ = false := by simp [go_sem, ddf0]
         replace ddf1 : ((Z18x6.setCell ⟨Z18x1.heap.size, 0, none⟩ (.int .i64 dl)).setCell ⟨Z18x1.heap.size, 1, none⟩ (.int .i64 dh)).frozen? ⟨Z18x1.heap.size, 1, none⟩ = false := by simp [go_sem, ddf1]
         replace dd0 : ((Z18x6.setCell ⟨Z18x1.heap.size, 0, none⟩ (.int .i64 dl)).setCell ⟨Z18x1.heap.size, 1, none⟩ (.int .i64 dh)).cell? ⟨Z18x1.heap.size, 0, none⟩ = some (.int .i64 dl) := by simp [go_sem, dd0]
         replace dd1 : ((Z18x6.setCell ⟨Z18x1.heap.size, 0, none⟩ (.int .i64 dl)).setCell ⟨Z18x1.heap.size, 1, none⟩ (.int .i64 dh)).cell? ⟨Z18x1.heap.size, 1, none⟩ = some (.int .i64 dh) := by simp [go_sem, dd1]
         replace nes : gs < ((Z18x6.setCell ⟨Z18x1.heap.size, 0, none⟩ (.int .i64 dl)).setCell ⟨Z18x1.heap.size, 1, none⟩ (.int .i64 dh)).heap.size := by simpa [World.setCell] using nes
         replace nb : w.heap.size < ((Z18x6.setCell ⟨Z18x1.heap.size, 0, none⟩ (.int .i64 dl)).setCell ⟨Z18x1.heap.size, 1, none⟩ (.int .i64 dh)).heap.size := by simpa [World.setCell] using nb
         replace nj : w.heap.size + 1 < ((Z18x6.setCell ⟨Z18x1.heap.size, 0, none⟩ (.int .i64 dl)).setCell ⟨Z18x1.heap.size, 1, none⟩ (.int .i64 dh)).heap.size := by simpa [World.setCell] using nj
         replace ncc : g17 < ((Z18x6.setCell ⟨Z18x1.heap.size, 0, none⟩ (.int .i64 dl)).setCell ⟨Z18x1.heap.size, 1, none⟩ (.int .i64 dh)).heap.size := by simpa [World.setCell] using ncc
         replace ndd : Z18x1.heap.size < ((Z18x6.setCell ⟨Z18x1.heap.size, 0, none⟩ (.int .i64 dl)).setCell ⟨Z18x1.heap.size, 1, none⟩ (.int .i64 dh)).heap.size := by simpa [World.setCell] using ndd
         replace hL := hL.setCell (p := ⟨Z18x1.heap.size, 0, none⟩) (by show V17.heap.size ≤ Z18x1.heap.size; omega) (.int .i64 dl)
         replace hL := hL.setCell (p := ⟨Z18x1.heap.size, 1, none⟩) (by show V17.heap.size ≤ Z18x1.heap.size; omega) (.int .i64 dh)
         refine hK.out _ _ ⟨b0, b1, b2, b3, b4, j0, j1, es3, trivial⟩ (fun hHeld => ?_)
         clear hK K
         generalize ((Z18x6.setCell ⟨Z18x1.heap.size, 0, none⟩ (.int .i64 dl)).setCell ⟨Z18x1.heap.size, 1, none⟩ (.int .i64 dh)) = Z18x7 at *
         try simp only [Act.put, sA, sB, sC]
         refine tq 20 12 ?_ ?_ ?_; rotate_left; (focus intro w h; (try dsimp only at h); go_simp; try with_reducible rfl); try simp only [sA, sB, sC]
         refine wpAnyH_done (by kernel_rfl) ?_ _
         have hfin := And.intro (hB.trans (hL.mono hB.size)) (And.intro es3 (And.intro b0 (And.intro b1 (And.intro b2 (And.intro b3 (And.intro b4 (And.intro j0 (And.intro j1 (And.intro cc0 (And.intro cc1 (And.intro nes (And.intro nb (And.intro nj (And.intro ncc (And.intro dd0 (And.intro dd1 (ndd)))))))))))))))))
         clear es3 b0 b1 b2 b3 b4 j0 j1 cc0 cc1 nes nb nj ncc dd0 dd1 ndd hL hHeld
         revert hfin
         generalize Z18x7 = w9
         generalize Z18x1.heap.size = g9
         intro hfin
         exact key g9 w1 w2 w3 w9 hfin
       ·go_simp
        have hb := (Below.refl wd18.heap.size wd18).alloc (Nat.le_refl _) (Obj.cells #[.int .i64 0, .int .i64 0] 24)
        have szZ18x8 := hL.size
        have ord8nes := nes
        have ord8nb := nb
        have ord8nj := nj
        have ord8ncc := ncc
        replace es3 := cell_next hb nes es3
        replace b0 := cell_next hb nb b0
        replace b1 := cell_next hb nb b1
        replace b2 := cell_next hb nb b2
        replace b3 := cell_next hb nb b3
        replace b4 := cell_next hb nb b4
        replace j0 := cell_next hb nj j0
        replace j1 := cell_next hb nj j1
        replace cc0 := cell_next hb ncc cc0
        replace cc1 := cell_next hb ncc cc1
        replace nes := Nat.lt_of_lt_of_le nes hb.size
        replace nb := Nat.lt_of_lt_of_le nb hb.size
        replace nj := Nat.lt_of_lt_of_le nj hb.size
        replace ncc := Nat.lt_of_lt_of_le ncc hb.size
        replace hL := hL.trans (hb.mono (Nat.le_trans hBW hL.size))
        try replace HC := HC.next hb
        have ddf0 : (wd18.alloc (Obj.cells #[.int .i64 0, .int .i64 0] 24)).frozen? ⟨wd18.heap.size, 0, none⟩ = false := by simp [go_sem]
        have ddf1 : (wd18.alloc (Obj.cells #[.int .i64 0, .int .i64 0] 24)).frozen? ⟨wd18.heap.size, 1, none⟩ = false := by simp [go_sem]
        have dd0 : (wd18.alloc (Obj.cells #[.int .i64 0, .int .i64 0] 24)).cell? ⟨wd18.heap.size, 0, none⟩ = some (.int .i64 0) := cell_new _ _ _ 0
        have dd1 : (wd18.alloc (Obj.cells #[.int .i64 0, .int .i64 0] 24)).cell? ⟨wd18.heap.size, 1, none⟩ = some (.int .i64 0) := cell_new _ _ _ 1
        have ndd : wd18.heap.size < (wd18.alloc (Obj.cells #[.int .i64 0, .int .i64 0] 24)).heap.size := by simp
        refine hK.out _ _ ⟨b0, b1, b2, b3, b4, j0, j1, es3, trivial⟩ (fun hHeld => ?_)
        clear hK K hb
        generalize wd18.alloc (Obj.cells #[.int .i64 0, .int .i64 0] 24) = Z18x8 at *
        try simp only [Act.put, sA, sB, sC]
        refine rd1 1 (fun K hK => ?_)
        go_simp
        refine (CO.out hl _ (hB.trans (hL.mono hB.size))).mono ?_
        rintro e Z18x9 ⟨w1, w2, w3, rfl, HC, hb⟩
        replace es3 := cell_next hb nes es3
        replace b0 := cell_next hb nb b0
        replace b1 := cell_next hb nb b1
        replace b2 := cell_next hb nb b2
        replace b3 := cell_next hb nb b3
        replace b4 := cell_next hb nb b4
        replace j0 := cell_next hb nj j0
        replace j1 := cell_next hb nj j1
        replace cc0 := cell_next hb ncc cc0
        replace cc1 := cell_next hb ncc cc1
        replace ddf0 := frozen_next hb ndd ddf0
        replace ddf1 := frozen_next hb ndd ddf1
        replace dd0 := cell_next hb ndd dd0
        replace dd1 := cell_next hb ndd dd1
        replace nes := Nat.lt_of_lt_of_le nes hb.size
        replace nb := Nat.lt_of_lt_of_le nb hb.size
        replace nj := Nat.lt_of_lt_of_le nj hb.size
        replace ncc := Nat.lt_of_lt_of_le ncc hb.size
        replace ndd := Nat.lt_of_lt_of_le ndd hb.size
        replace hL := hL.trans (hb.mono (Nat.le_trans hBW hL.size))
        try replace HC := HC.next hb
        refine hK.out _ _ ⟨b0, b1, b2, b3, b4, j0, j1, es3, trivial⟩ (fun hHeld => ?_)
        clear hK K hb
        try simp only [Act.put, sA, sB, sC]
        refine rd1 14 (fun K hK => ?_)
        go_simp
        refine (X2.out _ _ _ _ HC).mono ?_
        rintro e Z18x10 ⟨rfl, hb⟩
        replace es3 := cell_next hb nes es3
        replace b0 := cell_next hb nb b0
        replace b1 := cell_next hb nb b1
        replace b2 := cell_next hb nb b2
        replace b3 := cell_next hb nb b3
        replace b4 := cell_next hb nb b4
        replace j0 := cell_next hb nj j0
        replace j1 := cell_next hb nj j1
        replace cc0 := cell_next hb ncc cc0
        replace cc1 := cell_next hb ncc cc1
        replace ddf0 := frozen_next hb ndd ddf0
        replace ddf1 := frozen_next hb ndd ddf1
        replace dd0 := cell_next hb ndd dd0
        replace dd1 := cell_next hb ndd dd1
        replace nes := Nat.lt_of_lt_of_le nes hb.size
        replace nb := Nat.lt_of_lt_of_le nb hb.size
        replace nj := Nat.lt_of_lt_of_le nj hb.size
        replace ncc := Nat.lt_of_lt_of_le ncc hb.size
        replace ndd := Nat.lt_of_lt_of_le ndd hb.size
        replace hL := hL.trans (hb.mono (Nat.le_trans hBW hL.size))
        try replace HC := HC.next hb
        refine hK.out _ _ ⟨b0, b1, b2, b3, b4, j0, j1, es3, trivial⟩ (fun hHeld => ?_)
        clear hK K hb
        try simp only [Act.put, sA, sB, sC]
        refine tq 15 317 ?_ ?_ ?_; rotate_left; (focus intro w h; (try dsimp only at h); go_simp; try with_reducible rfl); try simp only [sA, sB, sC]
        refine tq 16 333 ?_ ?_ ?_; rotate_left; (focus intro w h; (try dsimp only at h); go_simp; try with_reducible rfl); try simp only [sA, sB, sC]
        refine tq 17 334 ?_ ?_ ?_; rotate_left; (focus intro w h; (try dsimp only at h); go_simp; try with_reducible rfl); try simp only [sA, sB, sC]
        refine rd1 19 (fun K hK => ?_)
        go_simp
        replace es3 : ((Z18x10.setCell ⟨wd18.heap.size, 0, none⟩ (.int .i64 dl)).setCell ⟨wd18.heap.size, 1, none⟩ (.int .i64 dh)).cell? ⟨gs, os + mm * 2, none⟩ = some (.int .i64 hx') := ((so (by omega)).trans ((so (by omega)).trans es3))
        replace b0 : ((Z18x10.setCell ⟨wd18.heap.size, 0, none⟩ (.int .i64 dl)).setCell ⟨wd18.heap.size, 1, none⟩ (.int .i64 dh)).cell? ⟨w.heap.size, 0, none⟩ = some (.slice (some ⟨ge, oe, none⟩) (m + 1) c1) := ((so (by omega)).trans ((so (by omega)).trans b0))
        replace b1 : ((Z18x10.setCell ⟨wd18.heap.size, 0, none⟩ (.int .i64 dl)).setCell ⟨wd18.heap.size, 1, none⟩ (.int .i64 dh)).cell? ⟨w.heap.size, 1, none⟩ = some (.slice (some ⟨gs, os, none⟩) (mm + 1) c2) := ((so (by omega)).trans ((so (by omega)).trans b1))
        replace b2 : ((Z18x10.setCell ⟨wd18.heap.size, 0, none⟩ (.int .i64 dl)).setCell ⟨wd18.heap.size, 1, none⟩ (.int .i64 dh)).cell? ⟨w.heap.size, 2, none⟩ = some (.int .i64 bl) := ((so (by omega)).trans ((so (by omega)).trans b2))
        replace b3 : ((Z18x10.setCell ⟨wd18.heap.size, 0, none⟩ (.int .i64 dl)).setCell ⟨wd18.heap.size, 1, none⟩ (.int .i64 dh)).cell? ⟨w.heap.size, 3, none⟩ = some (.int .i64 bh) := ((so (by omega)).trans ((so (by omega)).trans b3))
        replace b4 : ((Z18x10.setCell ⟨wd18.heap.size, 0, none⟩ (.int .i64 dl)).setCell ⟨wd18.heap.size, 1, none⟩ (.int .i64 dh)).cell? ⟨w.heap.size, 4, none⟩ = some (.slice A3 n3 c3) := ((so (by omega)).trans ((so (by omega)).trans b4))
        replace j0 : ((Z18x10.setCell ⟨wd18.heap.size, 0, none⟩ (.int .i64 dl)).setCell ⟨wd18.heap.size, 1, none⟩ (.int .i64 dh)).cell? ⟨w.heap.size + 1, 0, none⟩ = some (.int .i64 a) := ((so (by omega)).trans ((so (by omega)).trans j0))
        replace j1 : ((Z18x10.setCell ⟨wd18.heap.size, 0, none⟩ (.int .i64 dl)).setCell ⟨wd18.heap.size, 1, none⟩ (.int .i64 dh)).cell? ⟨w.heap.size + 1, 1, none⟩ = some (.int .i64 s) := ((so (by omega)).trans ((so (by omega)).trans j1))
        replace cc0 : ((Z18x10.setCell ⟨wd18.heap.size, 0, none⟩ (.int .i64 dl)).setCell ⟨wd18.heap.size, 1, none⟩ (.int .i64 dh)).cell? ⟨g17, 0, none⟩ = some (.int .i64 c) := ((so (by omega)).trans ((so (by omega)).trans cc0))
        replace cc1 : ((Z18x10.setCell ⟨wd18.heap.size, 0, none⟩ (.int .i64 dl)).setCell ⟨wd18.heap.size, 1, none⟩ (.int .i64 dh)).cell? ⟨g17, 1, none⟩ = some (.int .i64 c) := ((so (by omega)).trans ((so (by omega)).trans cc1))
        replace ddf0 : ((Z18x10.setCell ⟨wd18.heap.size, 0, none⟩ (.int .i64 dl)).setCell ⟨wd18.heap.size, 1, none⟩ (.int .i64 dh)).frozen? ⟨wd18.heap.size, 0, none⟩ = false := by simp [go_sem, ddf0]
        replace ddf1 : ((Z18x10.setCell ⟨wd18.heap.size, 0, none⟩ (.int .i64 dl)).setCell ⟨wd18.heap.size, 1, none⟩ (.int .i64 dh)).frozen? ⟨wd18.heap.size, 1, none⟩ = false := by simp [go_sem, ddf1]
        replace dd0 : ((Z18x10.setCell ⟨wd18.heap.size, 0, none⟩ (.int .i64 dl)).setCell ⟨wd18.heap.size, 1, none⟩ (.int .i64 dh)).cell? ⟨wd18.heap.size, 0, none⟩ = some (.int .i64 dl) := by simp [go_sem, dd0]
        replace dd1 : ((Z18x10.setCell ⟨wd18.heap.size, 0, none⟩ (.int .i64 dl)).setCell ⟨wd18.heap.size, 1, none⟩ (.int .i64 dh)).cell? ⟨wd18.heap.size, 1, none⟩ = some (.int .i64 dh) := by simp [go_sem, dd1]
        replace nes : gs < ((Z18x10.setCell ⟨wd18.heap.size, 0, none⟩ (.int .i64 dl)).setCell ⟨wd18.heap.size, 1, none⟩ (.int .i64 dh)).heap.size := by simpa [World.setCell] using nes
        replace nb : w.heap.size < ((Z18x10.setCell ⟨wd18.heap.size, 0, none⟩ (.int .i64 dl)).setCell ⟨wd18.heap.size, 1, none⟩ (.int .i64 dh)).heap.size := by simpa [World.setCell] using nb
        replace nj : w.heap.size + 1 < ((Z18x10.setCell ⟨wd18.heap.size, 0, none⟩ (.int .i64 dl)).setCell ⟨wd18.heap.size, 1, none⟩ (.int .i64 dh)).heap.size := by simpa [World.setCell] using nj
        replace ncc : g17 < ((Z18x10.setCell ⟨wd18.heap.size, 0, none⟩ (.int .i64 dl)).setCell ⟨wd18.heap.size, 1, none⟩ (.int .i64 dh)).heap.size := by simpa [World.setCell] using ncc
        replace ndd : wd18.heap.size < ((Z18x10.setCell ⟨wd18.heap.size, 0, none⟩ (.int .i64 dl)).setCell ⟨wd18.heap.size, 1, none⟩ (.int .i64 dh)).heap.size := by simpa [World.setCell] using ndd
        replace hL := hL.setCell (p := ⟨wd18.heap.size, 0, none⟩) (by show V17.heap.size ≤ wd18.heap.size; omega) (.int .i64 dl)
        replace hL := hL.setCell (p := ⟨wd18.heap.size, 1, none⟩) (by show V17.heap.size ≤ wd18.heap.size; omega) (.int .i64 dh)
        refine hK.out _ _ ⟨b0, b1, b2, b3, b4, j0, j1, es3, trivial⟩ (fun hHeld => ?_)
        clear hK K
        generalize ((Z18x10.setCell ⟨wd18.heap.size, 0, none⟩ (.int .i64 dl)).setCell ⟨wd18.heap.size, 1, none⟩ (.int .i64 dh)) = Z18x11 at *
        try simp only [Act.put, sA, sB, sC]
        refine tq 20 12 ?_ ?_ ?_; rotate_left; (focus intro w h; (try dsimp only at h); go_simp; try with_reducible rfl); try simp only [sA, sB, sC]
        refine wpAnyH_done (by kernel_rfl) ?_ _
        have hfin := And.intro (hB.trans (hL.mono hB.size)) (And.intro es3 (And.intro b0 (And.intro b1 (And.intro b2 (And.intro b3 (And.intro b4 (And.intro j0 (And.intro j1 (And.intro cc0 (And.intro cc1 (And.intro nes (And.intro nb (And.intro nj (And.intro ncc (And.intro dd0 (And.intro dd1 (ndd)))))))))))))))))
        clear es3 b0 b1 b2 b3 b4 j0 j1 cc0 cc1 nes nb nj ncc dd0 dd1 ndd hL hHeld
        revert hfin
        generalize Z18x11 = w9
        generalize wd18.heap.size = g9
        intro hfin
        exact key g9 w1 w2 w3 w9 hfin
      clear es3 b0 b1 b2 b3 b4 j0 j1 cc0 cc1 nes nb nj ncc hB
      intro g18 w1 w2 w3 V18 ⟨hB, es3, b0, b1, b2, b3, b4, j0, j1, cc0, cc1, nes, nb, nj, ncc, dd0, dd1, ndd⟩
      go_wp2_with fail
      refine (IN.out _).mono ?_
      rintro e W19 ⟨rfl, hb⟩
      replace es3 := cell_next hb nes es3
      replace nes := Nat.lt_of_lt_of_le nes hb.size
      replace b0 := cell_next hb nb b0
      replace b1 := cell_next hb nb b1
      replace b2 := cell_next hb nb b2
      replace b3 := cell_next hb nb b3
      replace b4 := cell_next hb nb b4
      replace nb := Nat.lt_of_lt_of_le nb hb.size
      replace j0 := cell_next hb nj j0
      replace j1 := cell_next hb nj j1
      replace nj := Nat.lt_of_lt_of_le nj hb.size
      replace cc0 := cell_next hb ncc cc0
      replace cc1 := cell_next hb ncc cc1
      replace ncc := Nat.lt_of_lt_of_le ncc hb.size
      replace dd0 := cell_next hb ndd dd0
      replace dd1 := cell_next hb ndd dd1
      replace ndd := Nat.lt_of_lt_of_le ndd hb.size
      replace hB := hB.trans (hb.mono hB.size)
      clear hb
      go_wp2_with fail
      refine (CK.out _).mono ?_
      rintro e W9 ⟨rfl, hb⟩
      have hB9 := hB.trans (hb.mono hB.size)
      go_wp2_with fail
      go_ret
      exact ⟨rfl, hB9⟩
end Go.Proofs.YtgklpbgdimkhaaaGreat
