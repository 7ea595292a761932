/- The walk of CandyHotter. -/
import Derived.Test.YtgklpbgdimkhaaaGreatJ22
import Derived.Test.YtgklpbgdimkhaaaGreatJ14
import Derived.Test.YtgklpbgdimkhaaaGreatJ15
import Derived.Deep.QuietTactic
import Derived.BigQuiet
namespace Go.Proofs.YtgklpbgdimkhaaaGreat
open Go.RowKit Go.Lib Go.Shelf
set_option linter.unusedVariables false
set_option linter.unusedSimpArgs false
attribute [local go_sem ↓] Go.wp_at_zero Go.wp_at_succ


theorem RsAt.row2 {α : Type} {N : Nat} {c : α → List Value} {B : Nat} {w : World} {A : Option Addr} {n cp : Nat} {xs : List α} (h : RsAt N c B w (.slice A n cp) xs) {k l : Nat} {x y : α} (hk : xs[k]? = some x) (hl : xs[l]? = some y) :
  ∃ g off, A = some ⟨g, off, none⟩ ∧ g < B ∧ (∀ j u, (c x)[j]? = some u → w.cell? ⟨g, off + k * N + j, none⟩ = some u) ∧ ∀ j u, (c y)[j]? = some u → w.cell? ⟨g, off + l * N + j, none⟩ = some u := by
 obtain ⟨A', cp', e, h⟩ := h
 injection e with e1 e2 e3
 subst e1
 obtain ⟨g, off, h1, h2, h3⟩ := h (by have := (List.getElem?_eq_some_iff.1 hk).1; omega)
 exact ⟨g, off, h1, h2, h3 k x hk, h3 l y hl⟩

set_option maxRecDepth 20000 in
set_option maxHeartbeats 8000000 in
theorem hotter_bad (v1 v2 v3 : Value) (R : Cr) (a s x y : Int) (w : World) (hx : 0 ≤ x ∧ x ≤ 65535) (hy : 0 ≤ y ∧ y ≤ 65535) (hv : CrAt w.heap.size w v1 v2 v3 R) (hbad : lgB R = true ∨ crB R = false) :
  Calls Tryz.prog 8 #[.agg (cCr v1 v2 v3 R).toArray, .agg #[.int .i64 a, .int .i64 s], .agg #[.int .u16 x, .int .u16 y]] w fun e w' => e = .returned (.bool true) ∧ Below w.heap.size w w' := by
 have C0 := Lib.hid (fun (W : World) (h : Below w.heap.size w W) => large_any v1 v2 v3 R w.heap.size W (hv.below h (Nat.le_refl _)))
 have CK := Lib.hid (fun (W : World) => known_any W)
 have CO := Lib.hid (fun (hl : R.xs.length ≤ 70 ∧ R.ys.length ≤ 70 ∧ R.ps.length ≤ 12) (W : World) (h : Below w.heap.size w W) => own_any v1 v2 v3 R W hl.1 hl.2.1 hl.2.2 (hv.next h))
 have D1 := Lib.hid (fun (u1 u2 u3 : Value) (W : World) (h : CrAt W.heap.size W u1 u2 u3 R) => jCheck_any u1 u2 u3 R W h)
 have HL := Lib.hid (fun (h : lgB R = false) => (by simp [lgB] at h; omega : R.xs.length ≤ 70 ∧ R.ys.length ≤ 70 ∧ R.ps.length ≤ 12))
 rcases hbad with hbad | hbad
 ·rw [hbad] at C0
  clear HL CO D1
  obtain ⟨A1, c1, A2, c2, A3, c3, rfl, rfl, rfl⟩ := hv.slices
  clear hv
  obtain ⟨xs, ys, bl, bh, ps⟩ := R
  dsimp only [cCr] at *
  generalize xs.length = n1 at *
  generalize ys.length = n2 at *
  generalize ps.length = n3 at *
  go_enter Tryz.func8, Tryz.ntmps8
  go_wp2_with fail
  refine (C0.out _ (((Below.refl _ _).alloc (Nat.le_refl _) _).alloc (by simp) _ |>.alloc (by simp <;> omega) _)).mono ?_
  rintro e W1 ⟨rfl, hb⟩
  have b0 := cell_next hb (b := w.heap.size) (o := 0) (by simp <;> omega) (v := some (.slice A1 n1 c1)) (by simp [go_sem])
  have b1 := cell_next hb (b := w.heap.size) (o := 1) (by simp <;> omega) (v := some (.slice A2 n2 c2)) (by simp [go_sem])
  have b2 := cell_next hb (b := w.heap.size) (o := 2) (by simp <;> omega) (v := some (.int .i64 bl)) (by simp [go_sem])
  have b3 := cell_next hb (b := w.heap.size) (o := 3) (by simp <;> omega) (v := some (.int .i64 bh)) (by simp [go_sem])
  have b4 := cell_next hb (b := w.heap.size) (o := 4) (by simp <;> omega) (v := some (.slice A3 n3 c3)) (by simp [go_sem])
  have nb : w.heap.size < W1.heap.size := by have := hb.size; simp at this; omega
  have nj : w.heap.size + 1 < W1.heap.size := by have := hb.size; simp at this; omega
  have nt : w.heap.size + 1 + 1 < W1.heap.size := by have := hb.size; simp at this; omega
  have hB := (below3 hb)
  clear hb
  go_wp2_with fail
  refine (CK.out _).mono ?_
  rintro e W9 ⟨rfl, hb⟩
  have hB9 := hB.trans (hb.mono hB.size)
  go_wp2_with fail
  go_ret
  exact ⟨rfl, hB9⟩
 ·obtain ⟨z1, hz1⟩ : ∃ z, lgB R = z := ⟨_, rfl⟩
  rw [hz1] at C0 HL
  rw [hbad] at D1
  clear hbad hz1
  have HV := Lib.hid hv
  obtain ⟨A1, c1, A2, c2, A3, c3, rfl, rfl, rfl⟩ := hv.slices
  clear hv
  obtain ⟨xs, ys, bl, bh, ps⟩ := R
  dsimp only [cCr] at *
  obtain ⟨n1, hn1⟩ : ∃ n, xs.length = n := ⟨_, rfl⟩
  obtain ⟨n2, hn2⟩ : ∃ n, ys.length = n := ⟨_, rfl⟩
  obtain ⟨n3, hn3⟩ : ∃ n, ps.length = n := ⟨_, rfl⟩
  simp only [hn1, hn2, hn3] at C0 CO D1 HL HV ⊢
  have N1 := Lib.hid hn1
  have N2 := Lib.hid hn2
  have N3 := Lib.hid hn3
  clear hn1 hn2 hn3
  go_enter Tryz.func8, Tryz.ntmps8
  go_wp2_with fail
  refine (C0.out _ (((Below.refl _ _).alloc (Nat.le_refl _) _).alloc (by simp) _ |>.alloc (by simp <;> omega) _)).mono ?_
  rintro e W1 ⟨rfl, hb⟩
  have b0 := cell_next hb (b := w.heap.size) (o := 0) (by simp <;> omega) (v := some (.slice A1 n1 c1)) (by simp [go_sem])
  have b1 := cell_next hb (b := w.heap.size) (o := 1) (by simp <;> omega) (v := some (.slice A2 n2 c2)) (by simp [go_sem])
  have b2 := cell_next hb (b := w.heap.size) (o := 2) (by simp <;> omega) (v := some (.int .i64 bl)) (by simp [go_sem])
  have b3 := cell_next hb (b := w.heap.size) (o := 3) (by simp <;> omega) (v := some (.int .i64 bh)) (by simp [go_sem])
  have b4 := cell_next hb (b := w.heap.size) (o := 4) (by simp <;> omega) (v := some (.slice A3 n3 c3)) (by simp [go_sem])
  have nb : w.heap.size < W1.heap.size := by have := hb.size; simp at this; omega
  have nj : w.heap.size + 1 < W1.heap.size := by have := hb.size; simp at this; omega
  have nt : w.heap.size + 1 + 1 < W1.heap.size := by have := hb.size; simp at this; omega
  have hB := (below3 hb)
  clear hb
  cases z1
  ·by_cases q1 : (n1 : Int) < 1
   ·have d1 : decide ((n1 : Int) < 1) = true := decide_eq_true q1
    go_wp2_with fail
    refine (CK.out _).mono ?_
    rintro e W9 ⟨rfl, hb⟩
    have hB9 := hB.trans (hb.mono hB.size)
    go_wp2_with fail
    go_ret
    exact ⟨rfl, hB9⟩
   ·have d1 : decide ((n1 : Int) < 1) = false := decide_eq_false q1
    by_cases q2 : (n2 : Int) < 1
    ·have d2 : decide ((n2 : Int) < 1) = true := decide_eq_true q2
     go_wp2_with fail
     refine (CK.out _).mono ?_
     rintro e W9 ⟨rfl, hb⟩
     have hB9 := hB.trans (hb.mono hB.size)
     go_wp2_with fail
     go_ret
     exact ⟨rfl, hB9⟩
    ·have d2 : decide ((n2 : Int) < 1) = false := decide_eq_false q2
     have hl := HL.out (by simp)
     clear HL C0
     go_wp2_with fail
     refine (CO.out hl _ hB).mono ?_
     rintro e W2 ⟨w1, w2, w3, rfl, HC, hb⟩
     have HU := Lib.hid HC
     clear HC
     obtain ⟨B1, k1, B2, k2, B3, k3, e1, e2, e3⟩ := HU.out.slices
     dsimp only at e1 e2 e3
     rw [N1.out] at e1
     rw [N2.out] at e2
     rw [N3.out] at e3
     subst e1 e2 e3
     replace b0 := cell_next hb nb b0
     replace b1 := cell_next hb nb b1
     replace b2 := cell_next hb nb b2
     replace b3 := cell_next hb nb b3
     replace b4 := cell_next hb nb b4
     replace nb := Nat.lt_of_lt_of_le nb hb.size
     replace nj := Nat.lt_of_lt_of_le nj hb.size
     replace nt := Nat.lt_of_lt_of_le nt hb.size
     replace hB := hB.trans (hb.mono hB.size)
     clear hb
     go_wp2_with fail
     refine (D1.out _ _ _ _ HU.out).mono ?_
     rintro e W3 ⟨rfl, hb⟩
     replace b0 := cell_next hb nb b0
     replace b1 := cell_next hb nb b1
     replace b2 := cell_next hb nb b2
     replace b3 := cell_next hb nb b3
     replace b4 := cell_next hb nb b4
     replace nb := Nat.lt_of_lt_of_le nb hb.size
     replace nj := Nat.lt_of_lt_of_le nj hb.size
     replace nt := Nat.lt_of_lt_of_le nt hb.size
     replace hB := hB.trans (hb.mono hB.size)
     clear hb
     go_wp2_with fail
     refine (CK.out _).mono ?_
     rintro e W9 ⟨rfl, hb⟩
     have hB9 := hB.trans (hb.mono hB.size)
     go_wp2_with fail
     go_ret
     exact ⟨rfl, hB9⟩
  ·go_wp2_with fail
   refine (CK.out _).mono ?_
   rintro e W9 ⟨rfl, hb⟩
   have hB9 := hB.trans (hb.mono hB.size)
   go_wp2_with fail
   go_ret
   exact ⟨rfl, hB9⟩

set_option maxRecDepth 20000 in
set_option maxHeartbeats 8000000 in
theorem hotter_none (v1 v2 v3 : Value) (R : Cr) (a s x y : Int) (w : World) (hx : 0 ≤ x ∧ x ≤ 65535) (hy : 0 ≤ y ∧ y ≤ 65535) (hv : CrAt w.heap.size w v1 v2 v3 R) (hl : lgB R = false) (hc : crB R = true) (hd : ¬ dnF R.xs (max (min x y % 1500) (max x y % 1500) - R.bl) ≤ ltX R.xs) :
  Calls Tryz.prog 8 #[.agg (cCr v1 v2 v3 R).toArray, .agg #[.int .i64 a, .int .i64 s], .agg #[.int .u16 x, .int .u16 y]] w fun e w' => e = .returned (.bool true) ∧ Below w.heap.size w w' := by
 have C0 := Lib.hid (fun (W : World) (h : Below w.heap.size w W) => large_any v1 v2 v3 R w.heap.size W (hv.below h (Nat.le_refl _)))
 have CK := Lib.hid (fun (W : World) => known_any W)
 have CO := Lib.hid (fun (hl : R.xs.length ≤ 70 ∧ R.ys.length ≤ 70 ∧ R.ps.length ≤ 12) (W : World) (h : Below w.heap.size w W) => own_any v1 v2 v3 R W hl.1 hl.2.1 hl.2.2 (hv.next h))
 have D1 := Lib.hid (fun (u1 u2 u3 : Value) (W : World) (h : CrAt W.heap.size W u1 u2 u3 R) => jCheck_any u1 u2 u3 R W h)
 have HL := Lib.hid (fun (h : lgB R = false) => (by simp [lgB] at h; omega : R.xs.length ≤ 70 ∧ R.ys.length ≤ 70 ∧ R.ps.length ≤ 12))
 have m1 : ∀ tys ty w, (Builtin.min_ tys ty #[.int .i64 x, .int .i64 y]).run Tryz.prog w = .ok (.int .i64 (min x y)) w := fun tys ty w => jmin2 tys ty .i64 x y w
 have m2 : ∀ tys ty w, (Builtin.max_ tys ty #[.int .i64 x, .int .i64 y]).run Tryz.prog w = .ok (.int .i64 (max x y)) w := fun tys ty w => jmax2 tys ty .i64 x y w
 have m3 : ∀ tys ty w, (Builtin.min_ tys ty #[.int .i64 (min x y % 1500), .int .i64 (max x y % 1500)]).run Tryz.prog w = .ok (.int .i64 (min (min x y % 1500) (max x y % 1500))) w := fun tys ty w => jmin2 tys ty .i64 _ _ w
 have m4 : ∀ tys ty w, (Builtin.max_ tys ty #[.int .i64 (min x y % 1500), .int .i64 (max x y % 1500)]).run Tryz.prog w = .ok (.int .i64 (max (min x y % 1500) (max x y % 1500))) w := fun tys ty w => jmax2 tys ty .i64 _ _ w
 have o1 : IntKind.i64.wrap x = x := IntWalk.i64_in _ (by omega)
 have o2 : IntKind.i64.wrap y = y := IntWalk.i64_in _ (by omega)
 have t1 : (min x y).tmod 1500 = min x y % 1500 := Int.tmod_eq_emod_of_nonneg (by omega)
 have t2 : (max x y).tmod 1500 = max x y % 1500 := Int.tmod_eq_emod_of_nonneg (by omega)
 have t3 := Int.emod_nonneg (min x y) (show (1500 : Int) ≠ 0 by omega)
 have t4 := Int.emod_lt_of_pos (min x y) (show (0 : Int) < 1500 by omega)
 have t5 := Int.emod_nonneg (max x y) (show (1500 : Int) ≠ 0 by omega)
 have t6 := Int.emod_lt_of_pos (max x y) (show (0 : Int) < 1500 by omega)
 have o3 : IntKind.i64.wrap (min x y % 1500) = min x y % 1500 := IntWalk.i64_in _ (by omega)
 have o4 : IntKind.i64.wrap (max x y % 1500) = max x y % 1500 := IntWalk.i64_in _ (by omega)
 obtain ⟨L, hL⟩ : ∃ L, min (min x y % 1500) (max x y % 1500) = L := ⟨_, rfl⟩
 obtain ⟨H, hH⟩ : ∃ H, max (min x y % 1500) (max x y % 1500) = H := ⟨_, rfl⟩
 rw [hL] at m3
 rw [hH] at m4
 rw [hH] at hd
 have hLH : 0 ≤ L ∧ L ≤ H ∧ H ≤ 1499 := by omega
 generalize min x y % 1500 = lo at *
 generalize max x y % 1500 = hi at *
 generalize min x y = mi at *
 generalize max x y = ma at *
 clear hL hH t3 t4 t5 t6 hx hy
 obtain ⟨he, hsl, hbb, hpp, _⟩ := crB_ok hc
 have rLL : rgB (-2000) 2000 L L = true := by simp [rgB, inB]; omega
 have rHH : rgB (-2000) 2000 H H = true := by simp [rgB, inB]; omega
 have rLH : rgB (-2000) 2000 L H = true := by simp [rgB, inB]; omega
 have a1 := rd_at hc rLL
 have a2 := rd_at hc rHH
 have a3 := rd_at hc rLH
 have mo1 := dnF_mono he.tab (show L - R.bh ≤ L - R.bl by omega)
 have mo2 := dnF_mono he.tab (show L - R.bh ≤ H - R.bh by omega)
 have mo3 := dnF_mono he.tab (show L - R.bl ≤ H - R.bl by omega)
 have mo4 := dnF_mono he.tab (show H - R.bh ≤ H - R.bl by omega)
 have ltb := lt_bd he
 have dnb := (dnF_is he.tab (L - R.bh)).1
 rw [if_neg hd] at a2 a3
 have hr2 : rdR R H H = (0, 0) := by unfold rdR; rw [if_pos hc]; exact (dnE_none rHH hd).2
 have hr3 : rdR R L H = (0, 0) := by unfold rdR; rw [if_pos hc]; exact (dnE_none rLH hd).2
 obtain ⟨E, hE⟩ : ∃ E, rdE R L L = E := ⟨_, rfl⟩
 obtain ⟨Q, hQ⟩ : ∃ E, rdR R L L = E := ⟨_, rfl⟩
 have hE2 : E = 0 ∨ E = 7 := by rw [← hE, a1.1]; split <;> simp
 have D2 : Hid (∀ (u1 u2 u3 : Value) (W : World), CrAt W.heap.size W u1 u2 u3 R → Calls Tryz.prog 14 #[.agg (cCr u1 u2 u3 R).toArray, .agg #[.int .i64 L, .int .i64 L]] W fun e w' => e = .returned (.tuple #[.agg #[.int .i64 Q.1, .int .i64 Q.2], .int .i64 E]) ∧ Below W.heap.size W w') := Lib.hid (fun u1 u2 u3 W h => by have := dense_any u1 u2 u3 R L L W h; rw [hE, hQ] at this; exact this)
 have D3 : Hid (∀ (u1 u2 u3 : Value) (W : World), CrAt W.heap.size W u1 u2 u3 R → Calls Tryz.prog 14 #[.agg (cCr u1 u2 u3 R).toArray, .agg #[.int .i64 H, .int .i64 H]] W fun e w' => e = .returned (.tuple #[.agg #[.int .i64 0, .int .i64 0], .int .i64 7]) ∧ Below W.heap.size W w') := Lib.hid (fun u1 u2 u3 W h => by have := dense_any u1 u2 u3 R H H W h; rw [a2.1, hr2] at this; exact this)
 have D4 : Hid (∀ (u1 u2 u3 : Value) (W : World), CrAt W.heap.size W u1 u2 u3 R → Calls Tryz.prog 14 #[.agg (cCr u1 u2 u3 R).toArray, .agg #[.int .i64 L, .int .i64 H]] W fun e w' => e = .returned (.tuple #[.agg #[.int .i64 0, .int .i64 0], .int .i64 7]) ∧ Below W.heap.size W w') := Lib.hid (fun u1 u2 u3 W h => by have := dense_any u1 u2 u3 R L H W h; rw [a3.1, hr3] at this; exact this)
 rw [hc] at D1
 rw [hl] at C0 HL
 clear hE hQ a1 a2 a3 hr2 hr3
 obtain ⟨m, f, l, hm, hf, hl0, ef, el, _⟩ := tab_ends he.tab
 obtain ⟨mm, ff, ll, hmm, hff, hll, _, _, _⟩ := tab_ends (slB_ok hsl).1
 have HVR := hv
 obtain ⟨A1, c1, A2, c2, A3, c3, rfl, rfl, rfl⟩ := hv.slices
 obtain ⟨ge, oe, rfl, nef, ef1, ef2⟩ := RsAt.row2 hv.e.toRs hf hl0
 obtain ⟨gs, os, rfl, nes, es1, es2⟩ := RsAt.row2 hv.s.toRs hff hll
 have ef0 := ef1 0 _ rfl
 have ef3 := ef2 1 _ rfl
 have es0 := es1 0 _ rfl
 have es3 := es2 0 _ rfl
 clear ef1 ef2 es1 es2
 obtain ⟨fx, fy⟩ := f
 obtain ⟨lx, ly⟩ := l
 obtain ⟨gx, gy⟩ := ff
 obtain ⟨hx', hy'⟩ := ll
 have u1 : ((m : Int) < (m : Int) + 1) = True := by simp <;> omega
 have u2 : ((0 : Int) < (m : Int) + 1) = True := by simp <;> omega
 have u3 : ((mm : Int) < (mm : Int) + 1) = True := by simp <;> omega
 have u4 : ((0 : Int) < (mm : Int) + 1) = True := by simp <;> omega
 simp only [Nat.zero_mul, Nat.add_zero] at ef0 ef3 es0 es3
 have hlast := dn_none he hd hm hl0
 have o5 : IntKind.i64.wrap (H - R.bl) = H - R.bl := IntWalk.i64_in _ (by omega)
 have d9 : decide (ly < H - R.bl) = true := decide_eq_true hlast
 have hm60 := he.tab.2.1
 rw [hm] at hm60
 have o6 : IntKind.i64.wrap (m : Int) = (m : Int) := IntWalk.i64_in _ (by omega)
 clear hd hlast mo1 mo2 mo3 mo4 ltb dnb he hsl hbb hpp hf hl0 hff hll ef el rLL rHH rLH hLH
 have HV := Lib.hid HVR
 clear hv HVR
 obtain ⟨xs, ys, bl, bh, ps⟩ := R
 dsimp only [cCr] at *
 obtain ⟨n3, hn3⟩ : ∃ n, ps.length = n := ⟨_, rfl⟩
 have N1 := Lib.hid hm
 have N2 := Lib.hid hmm
 have N3 := Lib.hid hn3
 simp only [hm, hmm, hn3] at C0 CO D1 D2 D3 D4 HV HL ⊢
 clear hn3
 have hlx := HL.out (by simp)
 clear HL hl hc hm hmm
 have hl := hlx
 clear hlx
 go_enter Tryz.func8, Tryz.ntmps8
 go_wp2_with fail
 refine (C0.out _ (((Below.refl _ _).alloc (Nat.le_refl _) _).alloc (by simp) _ |>.alloc (by simp <;> omega) _)).mono ?_
 rintro e W1 ⟨rfl, hb⟩
 replace ef3 := cell_next (below3 hb) nef ef3
 replace nef := Nat.lt_of_lt_of_le nef (below3 hb).size
 have b0 := cell_next hb (b := w.heap.size) (o := 0) (by simp <;> omega) (v := some (.slice (some ⟨ge, oe, none⟩) (m + 1) c1)) (by simp [go_sem])
 have b1 := cell_next hb (b := w.heap.size) (o := 1) (by simp <;> omega) (v := some (.slice (some ⟨gs, os, none⟩) (mm + 1) c2)) (by simp [go_sem])
 have b2 := cell_next hb (b := w.heap.size) (o := 2) (by simp <;> omega) (v := some (.int .i64 bl)) (by simp [go_sem])
 have b3 := cell_next hb (b := w.heap.size) (o := 3) (by simp <;> omega) (v := some (.int .i64 bh)) (by simp [go_sem])
 have b4 := cell_next hb (b := w.heap.size) (o := 4) (by simp <;> omega) (v := some (.slice A3 n3 c3)) (by simp [go_sem])
 have nb : w.heap.size < W1.heap.size := by have := hb.size; simp at this; omega
 have nj : w.heap.size + 1 < W1.heap.size := by have := hb.size; simp at this; omega
 have t0 := cell_next hb (b := w.heap.size + 1 + 1) (o := 0) (by simp <;> omega) (v := some (.int .u16 x)) (by simp [go_sem])
 have t1 := cell_next hb (b := w.heap.size + 1 + 1) (o := 1) (by simp <;> omega) (v := some (.int .u16 y)) (by simp [go_sem])
 have nt : w.heap.size + 1 + 1 < W1.heap.size := by have := hb.size; simp at this; omega
 have hB := (below3 hb)
 clear hb
 go_wp2_with fail
 refine (CO.out hl _ hB).mono ?_
 rintro e W2 ⟨w1, w2, w3, rfl, HC, hb⟩
 replace ef3 := cell_next hb nef ef3
 replace nef := Nat.lt_of_lt_of_le nef hb.size
 replace b0 := cell_next hb nb b0
 replace b1 := cell_next hb nb b1
 replace b2 := cell_next hb nb b2
 replace b3 := cell_next hb nb b3
 replace b4 := cell_next hb nb b4
 replace nb := Nat.lt_of_lt_of_le nb hb.size
 replace nj := Nat.lt_of_lt_of_le nj hb.size
 replace t0 := cell_next hb nt t0
 replace t1 := cell_next hb nt t1
 replace nt := Nat.lt_of_lt_of_le nt hb.size
 replace hB := hB.trans (hb.mono hB.size)
 clear hb
 go_wp2_with fail
 refine (D1.out _ _ _ _ HC).mono ?_
 rintro e W3 ⟨rfl, hb⟩
 replace ef3 := cell_next hb nef ef3
 replace nef := Nat.lt_of_lt_of_le nef hb.size
 replace b0 := cell_next hb nb b0
 replace b1 := cell_next hb nb b1
 replace b2 := cell_next hb nb b2
 replace b3 := cell_next hb nb b3
 replace b4 := cell_next hb nb b4
 replace nb := Nat.lt_of_lt_of_le nb hb.size
 replace nj := Nat.lt_of_lt_of_le nj hb.size
 replace t0 := cell_next hb nt t0
 replace t1 := cell_next hb nt t1
 replace nt := Nat.lt_of_lt_of_le nt hb.size
 replace hB := hB.trans (hb.mono hB.size)
 clear hb
 clear HC
 go_wp2_with fail
 clear nj
 have hBW : W3.heap.size ≤ W3.heap.size := Nat.le_refl _
 refine wp_region_held_drew (S := fun w' => w'.cell? ⟨w.heap.size + 1 + 1, 0, none⟩ = some (.int .u16 x) ∧ w'.cell? ⟨w.heap.size + 1 + 1, 1, none⟩ = some (.int .u16 y) ∧ True) (by kernel_rfl) ?_ (fun hHeld => ?_)
 focus (exact ⟨t0, t1, trivial⟩)
 have hL : Below W3.heap.size W3 W3.drew := Below.drew (Below.refl _ _)
 replace ef3 : W3.drew.cell? ⟨ge, oe + m * 2 + 1, none⟩ = some (.int .i64 ly) := ef3
 replace b0 : W3.drew.cell? ⟨w.heap.size, 0, none⟩ = some (.slice (some ⟨ge, oe, none⟩) (m + 1) c1) := b0
 replace b1 : W3.drew.cell? ⟨w.heap.size, 1, none⟩ = some (.slice (some ⟨gs, os, none⟩) (mm + 1) c2) := b1
 replace b2 : W3.drew.cell? ⟨w.heap.size, 2, none⟩ = some (.int .i64 bl) := b2
 replace b3 : W3.drew.cell? ⟨w.heap.size, 3, none⟩ = some (.int .i64 bh) := b3
 replace b4 : W3.drew.cell? ⟨w.heap.size, 4, none⟩ = some (.slice A3 n3 c3) := b4
 replace t0 : W3.drew.cell? ⟨w.heap.size + 1 + 1, 0, none⟩ = some (.int .u16 x) := t0
 replace t1 : W3.drew.cell? ⟨w.heap.size + 1 + 1, 1, none⟩ = some (.int .u16 y) := t1
 replace nef : ge < W3.drew.heap.size := nef
 replace nb : w.heap.size < W3.drew.heap.size := nb
 replace nt : w.heap.size + 1 + 1 < W3.drew.heap.size := nt
 generalize hWd : W3.drew = wd4 at hHeld hL ef3 b0 b1 b2 b3 b4 t0 t1 nef nb nt  ⊢
 clear hWd
 refine tq 0 43 ?_ ?_ ?_; rotate_left; (focus intro w h; (try dsimp only at h); go_simp; try with_reducible rfl); try simp only [sA, sB, sC]
 refine tq 1 44 ?_ ?_ ?_; rotate_left; (focus intro w h; (try dsimp only at h); go_simp; try with_reducible rfl); try simp only [sA, sB, sC]
 refine tq 2 45 ?_ ?_ ?_; rotate_left; (focus intro w h; (try dsimp only at h); go_simp; try with_reducible rfl); try simp only [sA, sB, sC]
 refine tq 3 46 ?_ ?_ ?_; rotate_left; (focus intro w h; (try dsimp only at h); go_simp; try with_reducible rfl); try simp only [sA, sB, sC]
 refine tq 4 47 ?_ ?_ ?_; rotate_left; (focus intro w h; (try dsimp only at h); go_simp; try with_reducible rfl); try simp only [sA, sB, sC]
 refine tq 5 48 ?_ ?_ ?_; rotate_left; (focus intro w h; (try dsimp only at h); go_simp; try with_reducible rfl); try simp only [sA, sB, sC]
 refine tq 6 49 ?_ ?_ ?_; rotate_left; (focus intro w h; (try dsimp only at h); go_simp; try with_reducible rfl); try simp only [sA, sB, sC]
 refine tq 7 50 ?_ ?_ ?_; rotate_left; (focus intro w h; (try dsimp only at h); go_simp; try with_reducible rfl); try simp only [sA, sB, sC]
 refine tq 8 51 ?_ ?_ ?_; rotate_left; (focus intro w h; (try dsimp only at h); go_simp; try with_reducible rfl); try simp only [sA, sB, sC]
 refine tq 9 52 ?_ ?_ ?_; rotate_left; (focus intro w h; (try dsimp only at h); go_simp; try with_reducible rfl); try simp only [sA, sB, sC]
 refine tq 10 53 ?_ ?_ ?_; rotate_left; (focus intro w h; (try dsimp only at h); go_simp; try with_reducible rfl); try simp only [sA, sB, sC]
 refine tq 11 54 ?_ ?_ ?_; rotate_left; (focus intro w h; (try dsimp only at h); go_simp; try with_reducible rfl); try simp only [sA, sB, sC]
 refine tq 12 55 ?_ ?_ ?_; rotate_left; (focus intro w h; (try dsimp only at h); go_simp; try with_reducible rfl); try simp only [sA, sB, sC]
 refine tq 13 56 ?_ ?_ ?_; rotate_left; (focus intro w h; (try dsimp only at h); go_simp; try with_reducible rfl); try simp only [sA, sB, sC]
 refine tq 14 57 ?_ ?_ ?_; rotate_left; (focus intro w h; (try dsimp only at h); go_simp; try with_reducible rfl); try simp only [sA, sB, sC]
 refine tq 15 58 ?_ ?_ ?_; rotate_left; (focus intro w h; (try dsimp only at h); go_simp; try with_reducible rfl); try simp only [sA, sB, sC]
 refine tq 16 7 ?_ ?_ ?_; rotate_left; (focus intro w h; (try dsimp only at h); go_simp; try with_reducible rfl); try simp only [sA, sB, sC]
 refine tq 17 8 ?_ ?_ ?_; rotate_left; (focus intro w h; (try dsimp only at h); go_simp; try with_reducible rfl); try simp only [sA, sB, sC]
 refine wpAnyH_done (by kernel_rfl) ?_ _
 replace hB := hB.trans (hL.mono hB.size)
 clear hHeld hL hBW
 clear t0 t1 nt
 go_wp2_with fail
 refine (CO.out hl _ hB).mono ?_
 rintro e W5 ⟨w1, w2, w3, rfl, HC, hb⟩
 replace ef3 := cell_next hb nef ef3
 replace nef := Nat.lt_of_lt_of_le nef hb.size
 replace b0 := cell_next hb nb b0
 replace b1 := cell_next hb nb b1
 replace b2 := cell_next hb nb b2
 replace b3 := cell_next hb nb b3
 replace b4 := cell_next hb nb b4
 replace nb := Nat.lt_of_lt_of_le nb hb.size
 replace hB := hB.trans (hb.mono hB.size)
 clear hb
 go_wp2_with fail
 refine (D2.out _ _ _ _ HC).mono ?_
 rintro e W6 ⟨rfl, hb⟩
 replace ef3 := cell_next hb nef ef3
 replace nef := Nat.lt_of_lt_of_le nef hb.size
 replace b0 := cell_next hb nb b0
 replace b1 := cell_next hb nb b1
 replace b2 := cell_next hb nb b2
 replace b3 := cell_next hb nb b3
 replace b4 := cell_next hb nb b4
 replace nb := Nat.lt_of_lt_of_le nb hb.size
 replace hB := hB.trans (hb.mono hB.size)
 clear hb
 clear HC
 go_wp2_with fail
 refine (CO.out hl _ (hB.alloc hB.size _)).mono ?_
 rintro e W7 ⟨w1, w2, w3, rfl, HC, hb⟩
 replace ef3 := cell_next (below1 hb) nef ef3
 replace nef := Nat.lt_of_lt_of_le nef (below1 hb).size
 replace b0 := cell_next (below1 hb) nb b0
 replace b1 := cell_next (below1 hb) nb b1
 replace b2 := cell_next (below1 hb) nb b2
 replace b3 := cell_next (below1 hb) nb b3
 replace b4 := cell_next (below1 hb) nb b4
 replace nb := Nat.lt_of_lt_of_le nb (below1 hb).size
 have ka0 := cell_next hb (b := W6.heap.size) (o := 0) (by simp <;> omega) (v := some (.int .i64 (Q.1))) (by simp [go_sem])
 have ka1 := cell_next hb (b := W6.heap.size) (o := 1) (by simp <;> omega) (v := some (.int .i64 (Q.2))) (by simp [go_sem])
 have nka : W6.heap.size < W7.heap.size := by have := hb.size; simp at this; omega
 replace hB := hB.trans ((below1 hb).mono hB.size)
 clear hb
 generalize W6.heap.size = q7 at *
 go_wp2_with fail
 refine (D3.out _ _ _ _ HC).mono ?_
 rintro e W8 ⟨rfl, hb⟩
 replace ef3 := cell_next hb nef ef3
 replace nef := Nat.lt_of_lt_of_le nef hb.size
 replace b0 := cell_next hb nb b0
 replace b1 := cell_next hb nb b1
 replace b2 := cell_next hb nb b2
 replace b3 := cell_next hb nb b3
 replace b4 := cell_next hb nb b4
 replace nb := Nat.lt_of_lt_of_le nb hb.size
 replace ka0 := cell_next hb nka ka0
 replace ka1 := cell_next hb nka ka1
 replace nka := Nat.lt_of_lt_of_le nka hb.size
 replace hB := hB.trans (hb.mono hB.size)
 clear hb
 clear HC
 go_wp2_with fail
 refine (CO.out hl _ (hB.alloc hB.size _)).mono ?_
 rintro e W9 ⟨w1, w2, w3, rfl, HC, hb⟩
 replace ef3 := cell_next (below1 hb) nef ef3
 replace nef := Nat.lt_of_lt_of_le nef (below1 hb).size
 replace b0 := cell_next (below1 hb) nb b0
 replace b1 := cell_next (below1 hb) nb b1
 replace b2 := cell_next (below1 hb) nb b2
 replace b3 := cell_next (below1 hb) nb b3
 replace b4 := cell_next (below1 hb) nb b4
 replace nb := Nat.lt_of_lt_of_le nb (below1 hb).size
 replace ka0 := cell_next (below1 hb) nka ka0
 replace ka1 := cell_next (below1 hb) nka ka1
 replace nka := Nat.lt_of_lt_of_le nka (below1 hb).size
 have kb0 := cell_next hb (b := W8.heap.size) (o := 0) (by simp <;> omega) (v := some (.int .i64 0)) (by simp [go_sem])
 have kb1 := cell_next hb (b := W8.heap.size) (o := 1) (by simp <;> omega) (v := some (.int .i64 0)) (by simp [go_sem])
 have nkb : W8.heap.size < W9.heap.size := by have := hb.size; simp at this; omega
 replace hB := hB.trans ((below1 hb).mono hB.size)
 clear hb
 generalize W8.heap.size = q9 at *
 go_wp2_with fail
 refine (D4.out _ _ _ _ HC).mono ?_
 rintro e W10 ⟨rfl, hb⟩
 replace ef3 := cell_next hb nef ef3
 replace nef := Nat.lt_of_lt_of_le nef hb.size
 replace b0 := cell_next hb nb b0
 replace b1 := cell_next hb nb b1
 replace b2 := cell_next hb nb b2
 replace b3 := cell_next hb nb b3
 replace b4 := cell_next hb nb b4
 replace nb := Nat.lt_of_lt_of_le nb hb.size
 replace ka0 := cell_next hb nka ka0
 replace ka1 := cell_next hb nka ka1
 replace nka := Nat.lt_of_lt_of_le nka hb.size
 replace kb0 := cell_next hb nkb kb0
 replace kb1 := cell_next hb nkb kb1
 replace nkb := Nat.lt_of_lt_of_le nkb hb.size
 replace hB := hB.trans (hb.mono hB.size)
 clear hb
 clear HC
 rcases hE2 with rfl | rfl
 ·go_wp2_with fail
  have hb : Below W10.heap.size W10 (W10.alloc (Obj.cells #[.int .i64 0, .int .i64 0] 24)) := ((Below.refl _ _).alloc (Nat.le_refl _) _)
  replace ef3 := cell_next hb nef ef3
  replace nef := Nat.lt_of_lt_of_le nef hb.size
  replace b0 := cell_next hb nb b0
  replace b1 := cell_next hb nb b1
  replace b2 := cell_next hb nb b2
  replace b3 := cell_next hb nb b3
  replace b4 := cell_next hb nb b4
  replace nb := Nat.lt_of_lt_of_le nb hb.size
  replace ka0 := cell_next hb nka ka0
  replace ka1 := cell_next hb nka ka1
  replace nka := Nat.lt_of_lt_of_le nka hb.size
  replace kb0 := cell_next hb nkb kb0
  replace kb1 := cell_next hb nkb kb1
  replace nkb := Nat.lt_of_lt_of_le nkb hb.size
  have kc0 : (W10.alloc (Obj.cells #[.int .i64 0, .int .i64 0] 24)).cell? ⟨W10.heap.size, 0, none⟩ = some (.int .i64 0) := by simp [go_sem]
  have kc1 : (W10.alloc (Obj.cells #[.int .i64 0, .int .i64 0] 24)).cell? ⟨W10.heap.size, 1, none⟩ = some (.int .i64 0) := by simp [go_sem]
  have nkc : W10.heap.size < (W10.alloc (Obj.cells #[.int .i64 0, .int .i64 0] 24)).heap.size := by simp <;> omega
  replace hB := hB.trans (hb.mono hB.size)
  clear hb
  generalize (W10.alloc (Obj.cells #[.int .i64 0, .int .i64 0] 24)) = W11 at *
  generalize W10.heap.size = q11 at *
  have hBW : W11.heap.size ≤ W11.heap.size := Nat.le_refl _
  refine wp_region_held_drew (S := fun w' => w'.cell? ⟨w.heap.size, 0, none⟩ = some (.slice (some ⟨ge, oe, none⟩) (m + 1) c1) ∧ w'.cell? ⟨w.heap.size, 2, none⟩ = some (.int .i64 bl) ∧ w'.cell? ⟨ge, oe + m * 2 + 1, none⟩ = some (.int .i64 ly) ∧ True) (by kernel_rfl) ?_ (fun hHeld => ?_)
  focus (exact ⟨b0, b2, ef3, trivial⟩)
  have hL : Below W11.heap.size W11 W11.drew := Below.drew (Below.refl _ _)
  replace ef3 : W11.drew.cell? ⟨ge, oe + m * 2 + 1, none⟩ = some (.int .i64 ly) := ef3
  replace b0 : W11.drew.cell? ⟨w.heap.size, 0, none⟩ = some (.slice (some ⟨ge, oe, none⟩) (m + 1) c1) := b0
  replace b1 : W11.drew.cell? ⟨w.heap.size, 1, none⟩ = some (.slice (some ⟨gs, os, none⟩) (mm + 1) c2) := b1
  replace b2 : W11.drew.cell? ⟨w.heap.size, 2, none⟩ = some (.int .i64 bl) := b2
  replace b3 : W11.drew.cell? ⟨w.heap.size, 3, none⟩ = some (.int .i64 bh) := b3
  replace b4 : W11.drew.cell? ⟨w.heap.size, 4, none⟩ = some (.slice A3 n3 c3) := b4
  replace ka0 : W11.drew.cell? ⟨q7, 0, none⟩ = some (.int .i64 (Q.1)) := ka0
  replace ka1 : W11.drew.cell? ⟨q7, 1, none⟩ = some (.int .i64 (Q.2)) := ka1
  replace kb0 : W11.drew.cell? ⟨q9, 0, none⟩ = some (.int .i64 0) := kb0
  replace kb1 : W11.drew.cell? ⟨q9, 1, none⟩ = some (.int .i64 0) := kb1
  replace kc0 : W11.drew.cell? ⟨q11, 0, none⟩ = some (.int .i64 0) := kc0
  replace kc1 : W11.drew.cell? ⟨q11, 1, none⟩ = some (.int .i64 0) := kc1
  replace nef : ge < W11.drew.heap.size := nef
  replace nb : w.heap.size < W11.drew.heap.size := nb
  replace nka : q7 < W11.drew.heap.size := nka
  replace nkb : q9 < W11.drew.heap.size := nkb
  replace nkc : q11 < W11.drew.heap.size := nkc
  generalize hWd : W11.drew = wd12 at hHeld hL ef3 b0 b1 b2 b3 b4 ka0 ka1 kb0 kb1 kc0 kc1 nef nb nka nkb nkc  ⊢
  clear hWd
  refine tq 0 114 ?_ ?_ ?_; rotate_left; (focus intro w h; (try dsimp only at h); go_simp; try with_reducible rfl); try simp only [sA, sB, sC]
  refine tq 1 115 ?_ ?_ ?_; rotate_left; (focus intro w h; (try dsimp only at h); go_simp; try with_reducible rfl); try simp only [sA, sB, sC]
  refine tq 2 116 ?_ ?_ ?_; rotate_left; (focus intro w h; (try dsimp only at h); go_simp; try with_reducible rfl); try simp only [sA, sB, sC]
  refine tq 3 117 ?_ ?_ ?_; rotate_left; (focus intro w h; (try dsimp only at h); go_simp; try with_reducible rfl); try simp only [sA, sB, sC]
  refine tq 4 118 ?_ ?_ ?_; rotate_left; (focus intro w h; (try dsimp only at h); go_simp; try with_reducible rfl); try simp only [sA, sB, sC]
  refine tq 5 119 ?_ ?_ ?_; rotate_left; (focus intro w h; (try dsimp only at h); go_simp; try with_reducible rfl); try simp only [sA, sB, sC]
  refine tq 6 120 ?_ ?_ ?_; rotate_left; (focus intro w h; (try dsimp only at h); go_simp; try with_reducible rfl); try simp only [sA, sB, sC]
  refine tq 7 121 ?_ ?_ ?_; rotate_left; (focus intro w h; (try dsimp only at h); go_simp; try with_reducible rfl); try simp only [sA, sB, sC]
  refine tq 8 122 ?_ ?_ ?_; rotate_left; (focus intro w h; (try dsimp only at h); go_simp; try with_reducible rfl); try simp only [sA, sB, sC]
  refine tq 9 123 ?_ ?_ ?_; rotate_left; (focus intro w h; (try dsimp only at h); go_simp; try with_reducible rfl); try simp only [sA, sB, sC]
  refine tq 10 124 ?_ ?_ ?_; rotate_left; (focus intro w h; (try dsimp only at h); go_simp; try with_reducible rfl); try simp only [sA, sB, sC]
  refine tq 11 125 ?_ ?_ ?_; rotate_left; (focus intro w h; (try dsimp only at h); go_simp; try with_reducible rfl); try simp only [sA, sB, sC]
  refine tq 12 126 ?_ ?_ ?_; rotate_left; (focus intro w h; (try dsimp only at h); go_simp; try with_reducible rfl); try simp only [sA, sB, sC]
  refine tq 13 127 ?_ ?_ ?_; rotate_left; (focus intro w h; (try dsimp only at h); go_simp; try with_reducible rfl); try simp only [sA, sB, sC]
  refine tq 14 128 ?_ ?_ ?_; rotate_left; (focus intro w h; (try dsimp only at h); go_simp; try with_reducible rfl); try simp only [sA, sB, sC]
  refine tq 15 129 ?_ ?_ ?_; rotate_left; (focus intro w h; (try dsimp only at h); go_simp; try with_reducible rfl); try simp only [sA, sB, sC]
  refine tq 16 130 ?_ ?_ ?_; rotate_left; (focus intro w h; (try dsimp only at h); go_simp; try with_reducible rfl); try simp only [sA, sB, sC]
  refine tq 17 131 ?_ ?_ ?_; rotate_left; (focus intro w h; (try dsimp only at h); go_simp; try with_reducible rfl); try simp only [sA, sB, sC]
  refine tq 18 132 ?_ ?_ ?_; rotate_left; (focus intro w h; (try dsimp only at h); go_simp; try with_reducible rfl); try simp only [sA, sB, sC]
  refine tq 19 133 ?_ ?_ ?_; rotate_left; (focus intro w h; (try dsimp only at h); go_simp; try with_reducible rfl); try simp only [sA, sB, sC]
  refine rd1 20 (fun K hK => ?_)
  go_simp
  refine (CK.out _).mono ?_
  rintro e Z12x1 ⟨rfl, hb⟩
  replace ef3 := cell_next hb nef ef3
  replace b0 := cell_next hb nb b0
  replace b1 := cell_next hb nb b1
  replace b2 := cell_next hb nb b2
  replace b3 := cell_next hb nb b3
  replace b4 := cell_next hb nb b4
  replace ka0 := cell_next hb nka ka0
  replace ka1 := cell_next hb nka ka1
  replace kb0 := cell_next hb nkb kb0
  replace kb1 := cell_next hb nkb kb1
  replace kc0 := cell_next hb nkc kc0
  replace kc1 := cell_next hb nkc kc1
  replace nef := Nat.lt_of_lt_of_le nef hb.size
  replace nb := Nat.lt_of_lt_of_le nb hb.size
  replace nka := Nat.lt_of_lt_of_le nka hb.size
  replace nkb := Nat.lt_of_lt_of_le nkb hb.size
  replace nkc := Nat.lt_of_lt_of_le nkc hb.size
  replace hL := hL.trans (hb.mono (Nat.le_trans hBW hL.size))
  refine hK.out _ _ ⟨b0, b2, ef3, trivial⟩ (fun hHeld => ?_)
  clear hK K hb
  try simp only [Act.put, sA, sB, sC]
  refine tq 21 135 ?_ ?_ ?_; rotate_left; (focus intro w h; (try dsimp only at h); go_simp; try with_reducible rfl); try simp only [sA, sB, sC]
  refine tq 22 6 ?_ ?_ ?_; rotate_left; (focus intro w h; (try dsimp only at h); go_simp; try with_reducible rfl); try simp only [sA, sB, sC]
  refine wpAnyH_done (by kernel_rfl) ?_ _
  replace hB := hB.trans (hL.mono hB.size)
  clear hHeld hL hBW
  go_wp2_with fail
  go_ret
  exact ⟨rfl, hB⟩
 ·go_wp2_with fail
  have hb : Below W10.heap.size W10 (W10.alloc (Obj.cells #[.int .i64 0, .int .i64 0] 24)) := ((Below.refl _ _).alloc (Nat.le_refl _) _)
  replace ef3 := cell_next hb nef ef3
  replace nef := Nat.lt_of_lt_of_le nef hb.size
  replace b0 := cell_next hb nb b0
  replace b1 := cell_next hb nb b1
  replace b2 := cell_next hb nb b2
  replace b3 := cell_next hb nb b3
  replace b4 := cell_next hb nb b4
  replace nb := Nat.lt_of_lt_of_le nb hb.size
  replace ka0 := cell_next hb nka ka0
  replace ka1 := cell_next hb nka ka1
  replace nka := Nat.lt_of_lt_of_le nka hb.size
  replace kb0 := cell_next hb nkb kb0
  replace kb1 := cell_next hb nkb kb1
  replace nkb := Nat.lt_of_lt_of_le nkb hb.size
  have kc0 : (W10.alloc (Obj.cells #[.int .i64 0, .int .i64 0] 24)).cell? ⟨W10.heap.size, 0, none⟩ = some (.int .i64 0) := by simp [go_sem]
  have kc1 : (W10.alloc (Obj.cells #[.int .i64 0, .int .i64 0] 24)).cell? ⟨W10.heap.size, 1, none⟩ = some (.int .i64 0) := by simp [go_sem]
  have nkc : W10.heap.size < (W10.alloc (Obj.cells #[.int .i64 0, .int .i64 0] 24)).heap.size := by simp <;> omega
  replace hB := hB.trans (hb.mono hB.size)
  clear hb
  generalize (W10.alloc (Obj.cells #[.int .i64 0, .int .i64 0] 24)) = W11 at *
  generalize W10.heap.size = q11 at *
  have hBW : W11.heap.size ≤ W11.heap.size := Nat.le_refl _
  refine wp_region_held_drew (S := fun w' => w'.cell? ⟨w.heap.size, 0, none⟩ = some (.slice (some ⟨ge, oe, none⟩) (m + 1) c1) ∧ w'.cell? ⟨w.heap.size, 2, none⟩ = some (.int .i64 bl) ∧ w'.cell? ⟨ge, oe + m * 2 + 1, none⟩ = some (.int .i64 ly) ∧ True) (by kernel_rfl) ?_ (fun hHeld => ?_)
  focus (exact ⟨b0, b2, ef3, trivial⟩)
  have hL : Below W11.heap.size W11 W11.drew := Below.drew (Below.refl _ _)
  replace ef3 : W11.drew.cell? ⟨ge, oe + m * 2 + 1, none⟩ = some (.int .i64 ly) := ef3
  replace b0 : W11.drew.cell? ⟨w.heap.size, 0, none⟩ = some (.slice (some ⟨ge, oe, none⟩) (m + 1) c1) := b0
  replace b1 : W11.drew.cell? ⟨w.heap.size, 1, none⟩ = some (.slice (some ⟨gs, os, none⟩) (mm + 1) c2) := b1
  replace b2 : W11.drew.cell? ⟨w.heap.size, 2, none⟩ = some (.int .i64 bl) := b2
  replace b3 : W11.drew.cell? ⟨w.heap.size, 3, none⟩ = some (.int .i64 bh) := b3
  replace b4 : W11.drew.cell? ⟨w.heap.size, 4, none⟩ = some (.slice A3 n3 c3) := b4
  replace ka0 : W11.drew.cell? ⟨q7, 0, none⟩ = some (.int .i64 (Q.1)) := ka0
  replace ka1 : W11.drew.cell? ⟨q7, 1, none⟩ = some (.int .i64 (Q.2)) := ka1
  replace kb0 : W11.drew.cell? ⟨q9, 0, none⟩ = some (.int .i64 0) := kb0
  replace kb1 : W11.drew.cell? ⟨q9, 1, none⟩ = some (.int .i64 0) := kb1
  replace kc0 : W11.drew.cell? ⟨q11, 0, none⟩ = some (.int .i64 0) := kc0
  replace kc1 : W11.drew.cell? ⟨q11, 1, none⟩ = some (.int .i64 0) := kc1
  replace nef : ge < W11.drew.heap.size := nef
  replace nb : w.heap.size < W11.drew.heap.size := nb
  replace nka : q7 < W11.drew.heap.size := nka
  replace nkb : q9 < W11.drew.heap.size := nkb
  replace nkc : q11 < W11.drew.heap.size := nkc
  generalize hWd : W11.drew = wd12 at hHeld hL ef3 b0 b1 b2 b3 b4 ka0 ka1 kb0 kb1 kc0 kc1 nef nb nka nkb nkc  ⊢
  clear hWd
  refine tq 0 114 ?_ ?_ ?_; rotate_left; (focus intro w h; (try dsimp only at h); go_simp; try with_reducible rfl); try simp only [sA, sB, sC]
  refine tq 1 115 ?_ ?_ ?_; rotate_left; (focus intro w h; (try dsimp only at h); go_simp; try with_reducible rfl); try simp only [sA, sB, sC]
  refine tq 2 116 ?_ ?_ ?_; rotate_left; (focus intro w h; (try dsimp only at h); go_simp; try with_reducible rfl); try simp only [sA, sB, sC]
  refine tq 3 117 ?_ ?_ ?_; rotate_left; (focus intro w h; (try dsimp only at h); go_simp; try with_reducible rfl); try simp only [sA, sB, sC]
  refine tq 4 118 ?_ ?_ ?_; rotate_left; (focus intro w h; (try dsimp only at h); go_simp; try with_reducible rfl); try simp only [sA, sB, sC]
  refine tq 5 119 ?_ ?_ ?_; rotate_left; (focus intro w h; (try dsimp only at h); go_simp; try with_reducible rfl); try simp only [sA, sB, sC]
  refine tq 6 120 ?_ ?_ ?_; rotate_left; (focus intro w h; (try dsimp only at h); go_simp; try with_reducible rfl); try simp only [sA, sB, sC]
  refine tq 7 121 ?_ ?_ ?_; rotate_left; (focus intro w h; (try dsimp only at h); go_simp; try with_reducible rfl); try simp only [sA, sB, sC]
  refine tq 8 122 ?_ ?_ ?_; rotate_left; (focus intro w h; (try dsimp only at h); go_simp; try with_reducible rfl); try simp only [sA, sB, sC]
  refine tq 9 123 ?_ ?_ ?_; rotate_left; (focus intro w h; (try dsimp only at h); go_simp; try with_reducible rfl); try simp only [sA, sB, sC]
  refine tq 10 124 ?_ ?_ ?_; rotate_left; (focus intro w h; (try dsimp only at h); go_simp; try with_reducible rfl); try simp only [sA, sB, sC]
  refine tq 11 125 ?_ ?_ ?_; rotate_left; (focus intro w h; (try dsimp only at h); go_simp; try with_reducible rfl); try simp only [sA, sB, sC]
  refine tq 12 126 ?_ ?_ ?_; rotate_left; (focus intro w h; (try dsimp only at h); go_simp; try with_reducible rfl); try simp only [sA, sB, sC]
  refine tq 13 127 ?_ ?_ ?_; rotate_left; (focus intro w h; (try dsimp only at h); go_simp; try with_reducible rfl); try simp only [sA, sB, sC]
  refine tq 14 128 ?_ ?_ ?_; rotate_left; (focus intro w h; (try dsimp only at h); go_simp; try with_reducible rfl); try simp only [sA, sB, sC]
  refine tq 15 129 ?_ ?_ ?_; rotate_left; (focus intro w h; (try dsimp only at h); go_simp; try with_reducible rfl); try simp only [sA, sB, sC]
  refine tq 16 130 ?_ ?_ ?_; rotate_left; (focus intro w h; (try dsimp only at h); go_simp; try with_reducible rfl); try simp only [sA, sB, sC]
  refine tq 17 131 ?_ ?_ ?_; rotate_left; (focus intro w h; (try dsimp only at h); go_simp; try with_reducible rfl); try simp only [sA, sB, sC]
  refine tq 18 132 ?_ ?_ ?_; rotate_left; (focus intro w h; (try dsimp only at h); go_simp; try with_reducible rfl); try simp only [sA, sB, sC]
  refine tq 19 133 ?_ ?_ ?_; rotate_left; (focus intro w h; (try dsimp only at h); go_simp; try with_reducible rfl); try simp only [sA, sB, sC]
  refine rd1 20 (fun K hK => ?_)
  go_simp
  refine (CK.out _).mono ?_
  rintro e Z12x1 ⟨rfl, hb⟩
  replace ef3 := cell_next hb nef ef3
  replace b0 := cell_next hb nb b0
  replace b1 := cell_next hb nb b1
  replace b2 := cell_next hb nb b2
  replace b3 := cell_next hb nb b3
  replace b4 := cell_next hb nb b4
  replace ka0 := cell_next hb nka ka0
  replace ka1 := cell_next hb nka ka1
  replace kb0 := cell_next hb nkb kb0
  replace kb1 := cell_next hb nkb kb1
  replace kc0 := cell_next hb nkc kc0
  replace kc1 := cell_next hb nkc kc1
  replace nef := Nat.lt_of_lt_of_le nef hb.size
  replace nb := Nat.lt_of_lt_of_le nb hb.size
  replace nka := Nat.lt_of_lt_of_le nka hb.size
  replace nkb := Nat.lt_of_lt_of_le nkb hb.size
  replace nkc := Nat.lt_of_lt_of_le nkc hb.size
  replace hL := hL.trans (hb.mono (Nat.le_trans hBW hL.size))
  refine hK.out _ _ ⟨b0, b2, ef3, trivial⟩ (fun hHeld => ?_)
  clear hK K hb
  try simp only [Act.put, sA, sB, sC]
  refine tq 21 135 ?_ ?_ ?_; rotate_left; (focus intro w h; (try dsimp only at h); go_simp; try with_reducible rfl); try simp only [sA, sB, sC]
  refine tq 22 6 ?_ ?_ ?_; rotate_left; (focus intro w h; (try dsimp only at h); go_simp; try with_reducible rfl); try simp only [sA, sB, sC]
  refine wpAnyH_done (by kernel_rfl) ?_ _
  replace hB := hB.trans (hL.mono hB.size)
  clear hHeld hL hBW
  go_wp2_with fail
  go_ret
  exact ⟨rfl, hB⟩
end Go.Proofs.YtgklpbgdimkhaaaGreat
