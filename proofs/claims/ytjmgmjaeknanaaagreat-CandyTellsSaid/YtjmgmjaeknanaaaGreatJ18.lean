/- Contracts of the reference of chapter 11: Crystals. -/
import Derived.Test.YtjmgmjaeknanaaaGreatJ17
import Derived.Deep.QuietTactic
import Derived.BigQuiet
namespace Go.Proofs.YtjmgmjaeknanaaaGreat
open Go.RowKit Go.Lib Go.Shelf
set_option linter.unusedVariables false
set_option linter.unusedSimpArgs false
attribute [local go_sem ↓] Go.wp_at_zero Go.wp_at_succ


set_option maxRecDepth 20000 in
set_option maxHeartbeats 4000000 in
theorem rCrystals_any (v1 v2 v3 : Value) (R : Cr) (a s tl th : Int) (w : World) (hz : crB R = true) (hv : CrAt w.heap.size w v1 v2 v3 R) :
  Calls Tryz.prog 18 #[.agg (cCr v1 v2 v3 R).toArray, .agg #[.int .i64 a, .int .i64 s], .agg #[.int .i64 tl, .int .i64 th]] w fun e w' => e = .returned (.tuple #[.agg #[.int .i64 (ccR R a s tl th).1, .int .i64 (ccR R a s tl th).2], .int .i64 (ccE R a s tl th)]) ∧ Below w.heap.size w w' := by
 have hok := (crB_ok hz).2.1
 obtain ⟨hy, hrow⟩ := slB_ok hok
 obtain ⟨xs, ys, bl, bh, ps⟩ := R
 dsimp only at *
 obtain ⟨m, f, l, hm, hf, hl, eh, el, hfl⟩ := tab_ends hy
 have hm60 := hy.2.1
 obtain ⟨A1, c1, rfl⟩ := hv.e.slice
 obtain ⟨A3, c3, rfl⟩ := hv.p.slice
 have H1 := hv.s
 clear hv
 dsimp only at H1
 obtain ⟨A2, c2, rfl, h1⟩ := H1
 obtain ⟨g, off, rfl, hg, hr⟩ := h1 (by omega)
 clear h1
 have C1 := Lib.hid (rSap_any a s)
 have C2 := Lib.hid (rRange_any tl th)
 have C3 := Lib.hid (fun (ha : covB ys tl = true) (hb : covB ys th = true) (W : World) (h : Below w.heap.size w W) => rValues_at ys tl th g off c2 hy ha hb W (Nat.lt_of_lt_of_le hg h.size) (hr.below h hg))
 have CA := Lib.hid (covB_of tl hm hf hl)
 have CB := Lib.hid (covB_of th hm hf hl)
 have HV := Lib.hid (fun (ha : covB ys tl = true) (hb : covB ys th = true) => vals_in hy (lo := 0) (hi := 9999) (fun p hp => by have := hrow p hp; omega) ha hb)
 obtain ⟨E, hE⟩ : ∃ E, ccE ⟨xs, ys, bl, bh, ps⟩ a s tl th = E := ⟨_, rfl⟩
 obtain ⟨D, hD⟩ : ∃ D, ccR ⟨xs, ys, bl, bh, ps⟩ a s tl th = D := ⟨_, rfl⟩
 have HE : Hid (E = if spB a s then (if vrB tl th = true then (if covB ys tl = true ∧ covB ys th = true then 0 else 3) else 2) else 2) := Lib.hid (by rw [← hE]; simp only [ccE, hz, if_true, vlE, tabE_of hy])
 have HD : Hid (D = if E = 0 then (cyV a s (vlR ys tl th).2, cyV a s (vlR ys tl th).1) else (0, 0)) := Lib.hid (by rw [← hD, ← hE]; rfl)
 have HR : Hid (spB a s = true → vrB tl th = true → covB ys tl = true ∧ covB ys th = true → vlR ys tl th = valsV ys tl th) := Lib.hid (fun h1 h2 h3 => by unfold vlR vlE; rw [if_pos (tabE_of hy), if_pos h2, if_pos h3]; rfl)
 have HS := Lib.hid (fun (h : spB a s = true) => spB_ge h)
 have HT := Lib.hid (fun (h : vrB tl th = true) => (by simp [vrB] at h; omega : tl ≤ th))
 rw [hE, hD]
 obtain ⟨q0, -⟩ := hr 0 f hf
 obtain ⟨ql, -⟩ := hr m l hl
 simp only [Nat.zero_mul, Nat.add_zero] at q0
 rw [hm] at C3 hm60 ⊢
 have wm : IntKind.i64.wrap ((m + 1 : Nat) - 1 : Int) = m := by rw [show ((m + 1 : Nat) - 1 : Int) = m from by omega]; exact IntWalk.i64_in _ (by omega)
 have wm' : IntKind.i64.wrap ((m : Int) + 1 - 1) = m := by rw [show ((m : Int) + 1 - 1) = m from by omega]; exact IntWalk.i64_in _ (by omega)
 have hm0 : (0 : Int) ≤ m := by omega
 obtain ⟨f0, f1⟩ := f
 obtain ⟨l0, l1⟩ := l
 dsimp only [cCr] at *
 generalize valsV ys tl th = V at *
 generalize vlR ys tl th = V' at *
 generalize covB ys tl = k1 at *
 generalize covB ys th = k2 at *
 generalize xs.length = n1 at *
 generalize ps.length = n3 at *
 generalize spB a s = z1 at *
 generalize vrB tl th = z2 at *
 clear hr hf hl hm eh el hy hrow hok hz hE hD
 go_enter Tryz.func18, Tryz.ntmps18
 go_wp2_with fail
 refine (C1.out _).mono ?_
 rintro e W1 ⟨rfl, hb⟩
 have s0 := cell_next hb (b := w.heap.size) (o := 0) (by simp <;> omega) (v := some (.slice A1 n1 c1)) (by simp [go_sem])
 have s1 := cell_next hb (b := w.heap.size) (o := 1) (by simp <;> omega) (v := some (.slice (some ⟨g, off, none⟩) (m + 1) c2)) (by simp [go_sem])
 have s2 := cell_next hb (b := w.heap.size) (o := 2) (by simp <;> omega) (v := some (.int .i64 bl)) (by simp [go_sem])
 have s3 := cell_next hb (b := w.heap.size) (o := 3) (by simp <;> omega) (v := some (.int .i64 bh)) (by simp [go_sem])
 have s4 := cell_next hb (b := w.heap.size) (o := 4) (by simp <;> omega) (v := some (.slice A3 n3 c3)) (by simp [go_sem])
 have ns : w.heap.size < W1.heap.size := by have := hb.size; simp at this; omega
 have j0 := cell_next hb (b := w.heap.size + 1) (o := 0) (by simp <;> omega) (v := some (.int .i64 a)) (by simp [go_sem])
 have j1 := cell_next hb (b := w.heap.size + 1) (o := 1) (by simp <;> omega) (v := some (.int .i64 s)) (by simp [go_sem])
 have nj : w.heap.size + 1 < W1.heap.size := by have := hb.size; simp at this; omega
 have t0 := cell_next hb (b := w.heap.size + 1 + 1) (o := 0) (by simp <;> omega) (v := some (.int .i64 tl)) (by simp [go_sem])
 have t1 := cell_next hb (b := w.heap.size + 1 + 1) (o := 1) (by simp <;> omega) (v := some (.int .i64 th)) (by simp [go_sem])
 have nt : w.heap.size + 1 + 1 < W1.heap.size := by have := hb.size; simp at this; omega
 have r0 := cell_next hb (b := w.heap.size + 1 + 1 + 1) (o := 0) (by simp <;> omega) (v := some (.int .i64 0)) (by simp [go_sem])
 have fr0 := frozen_next hb (b := w.heap.size + 1 + 1 + 1) (o := 0) (by simp <;> omega) (v := false) (by simp [go_sem])
 have r1 := cell_next hb (b := w.heap.size + 1 + 1 + 1) (o := 1) (by simp <;> omega) (v := some (.int .i64 0)) (by simp [go_sem])
 have fr1 := frozen_next hb (b := w.heap.size + 1 + 1 + 1) (o := 1) (by simp <;> omega) (v := false) (by simp [go_sem])
 have nr : w.heap.size + 1 + 1 + 1 < W1.heap.size := by have := hb.size; simp at this; omega
 have hB := (below4 hb)
 clear hb
 cases z1
 ·obtain rfl : E = 2 := HE.out.trans (by simp [*])
  obtain rfl : D = (0, 0) := HD.out.trans (by simp [*])
  clear HE HD
  go_wp2_with fail
  refine bodyPost_ret (v := .tuple #[.agg #[.int .i64 0, .int .i64 0], .int .i64 2]) (by simp [results, Tryz.results18, go_sem, r0, r1, fr0, fr1]) rfl ⟨rfl, ?_⟩
  exact ((hB.setCell (p := ⟨w.heap.size + 1 + 1 + 1, 0, none⟩) (by simp <;> omega) _).setCell (p := ⟨w.heap.size + 1 + 1 + 1, 1, none⟩) (by simp <;> omega) _)
 ·go_wp2_with fail
  refine (C2.out _).mono ?_
  rintro e W2 ⟨rfl, hb⟩
  replace s0 := cell_next hb ns s0
  replace s1 := cell_next hb ns s1
  replace s2 := cell_next hb ns s2
  replace s3 := cell_next hb ns s3
  replace s4 := cell_next hb ns s4
  replace ns := Nat.lt_of_lt_of_le ns hb.size
  replace j0 := cell_next hb nj j0
  replace j1 := cell_next hb nj j1
  replace nj := Nat.lt_of_lt_of_le nj hb.size
  replace t0 := cell_next hb nt t0
  replace t1 := cell_next hb nt t1
  replace nt := Nat.lt_of_lt_of_le nt hb.size
  replace r0 := cell_next hb nr r0
  replace fr0 := frozen_next hb nr fr0
  replace r1 := cell_next hb nr r1
  replace fr1 := frozen_next hb nr fr1
  replace nr := Nat.lt_of_lt_of_le nr hb.size
  replace hB := hB.trans (hb.mono hB.size)
  clear hb
  cases z2
  ·obtain rfl : E = 2 := HE.out.trans (by simp [*])
   obtain rfl : D = (0, 0) := HD.out.trans (by simp [*])
   clear HE HD
   go_wp2_with fail
   refine bodyPost_ret (v := .tuple #[.agg #[.int .i64 0, .int .i64 0], .int .i64 2]) (by simp [results, Tryz.results18, go_sem, r0, r1, fr0, fr1]) rfl ⟨rfl, ?_⟩
   exact ((hB.setCell (p := ⟨w.heap.size + 1 + 1 + 1, 0, none⟩) (by simp <;> omega) _).setCell (p := ⟨w.heap.size + 1 + 1 + 1, 1, none⟩) (by simp <;> omega) _)
  ·have ht := HT.out (by simp)
   obtain ⟨ha0, ha1, hs0, hs1⟩ := HS.out (by simp)
   clear HS HT
   have p0 := cell_next hB hg q0
   have pl := cell_next hB hg ql
   have hgw := Nat.lt_of_lt_of_le hg hB.size
   by_cases hd : tl < f0
   ·have d1 : decide (tl < f0) = true := decide_eq_true hd
    obtain rfl : k1 = false := CA.out.trans (by simp; omega)
    go_wp2_with fail
    go_quiet (fail)
    have hb : Below W2.heap.size W2 (W2.drewN nq) := below_drewN (Below.refl _ _) _
    generalize W2.drewN nq = W3 at *
    replace s0 := cell_next hb ns s0
    replace s1 := cell_next hb ns s1
    replace s2 := cell_next hb ns s2
    replace s3 := cell_next hb ns s3
    replace s4 := cell_next hb ns s4
    replace ns := Nat.lt_of_lt_of_le ns hb.size
    replace j0 := cell_next hb nj j0
    replace j1 := cell_next hb nj j1
    replace nj := Nat.lt_of_lt_of_le nj hb.size
    replace t0 := cell_next hb nt t0
    replace t1 := cell_next hb nt t1
    replace nt := Nat.lt_of_lt_of_le nt hb.size
    replace r0 := cell_next hb nr r0
    replace fr0 := frozen_next hb nr fr0
    replace r1 := cell_next hb nr r1
    replace fr1 := frozen_next hb nr fr1
    replace nr := Nat.lt_of_lt_of_le nr hb.size
    replace hB := hB.trans (hb.mono hB.size)
    clear hb
    obtain rfl : E = 3 := HE.out.trans (by simp [*])
    obtain rfl : D = (0, 0) := HD.out.trans (by simp [*])
    clear HE HD
    go_wp2_with fail
    refine bodyPost_ret (v := .tuple #[.agg #[.int .i64 0, .int .i64 0], .int .i64 3]) (by simp [results, Tryz.results18, go_sem, r0, r1, fr0, fr1]) rfl ⟨rfl, ?_⟩
    exact ((hB.setCell (p := ⟨w.heap.size + 1 + 1 + 1, 0, none⟩) (by simp <;> omega) _).setCell (p := ⟨w.heap.size + 1 + 1 + 1, 1, none⟩) (by simp <;> omega) _)
   ·have d1 : decide (tl < f0) = false := decide_eq_false hd
    by_cases hd2 : l0 < th
    ·have d2 : decide (l0 < th) = true := decide_eq_true hd2
     obtain rfl : k2 = false := CB.out.trans (by simp; omega)
     go_wp2_with fail
     go_quiet (fail)
     have hb : Below W2.heap.size W2 (W2.drewN nq) := below_drewN (Below.refl _ _) _
     generalize W2.drewN nq = W3 at *
     replace s0 := cell_next hb ns s0
     replace s1 := cell_next hb ns s1
     replace s2 := cell_next hb ns s2
     replace s3 := cell_next hb ns s3
     replace s4 := cell_next hb ns s4
     replace ns := Nat.lt_of_lt_of_le ns hb.size
     replace j0 := cell_next hb nj j0
     replace j1 := cell_next hb nj j1
     replace nj := Nat.lt_of_lt_of_le nj hb.size
     replace t0 := cell_next hb nt t0
     replace t1 := cell_next hb nt t1
     replace nt := Nat.lt_of_lt_of_le nt hb.size
     replace r0 := cell_next hb nr r0
     replace fr0 := frozen_next hb nr fr0
     replace r1 := cell_next hb nr r1
     replace fr1 := frozen_next hb nr fr1
     replace nr := Nat.lt_of_lt_of_le nr hb.size
     replace hB := hB.trans (hb.mono hB.size)
     clear hb
     obtain rfl : E = 3 := HE.out.trans (by simp [*])
     obtain rfl : D = (0, 0) := HD.out.trans (by simp [*])
     clear HE HD
     go_wp2_with fail
     refine bodyPost_ret (v := .tuple #[.agg #[.int .i64 0, .int .i64 0], .int .i64 3]) (by simp [results, Tryz.results18, go_sem, r0, r1, fr0, fr1]) rfl ⟨rfl, ?_⟩
     exact ((hB.setCell (p := ⟨w.heap.size + 1 + 1 + 1, 0, none⟩) (by simp <;> omega) _).setCell (p := ⟨w.heap.size + 1 + 1 + 1, 1, none⟩) (by simp <;> omega) _)
    ·have d2 : decide (l0 < th) = false := decide_eq_false hd2
     obtain rfl : k1 = true := CA.out.trans (by simp; omega)
     obtain rfl : k2 = true := CB.out.trans (by simp; omega)
     go_wp2_with fail
     go_quiet (fail)
     have hb : Below W2.heap.size W2 (W2.drewN nq) := below_drewN (Below.refl _ _) _
     generalize W2.drewN nq = W3 at *
     replace s0 := cell_next hb ns s0
     replace s1 := cell_next hb ns s1
     replace s2 := cell_next hb ns s2
     replace s3 := cell_next hb ns s3
     replace s4 := cell_next hb ns s4
     replace ns := Nat.lt_of_lt_of_le ns hb.size
     replace j0 := cell_next hb nj j0
     replace j1 := cell_next hb nj j1
     replace nj := Nat.lt_of_lt_of_le nj hb.size
     replace t0 := cell_next hb nt t0
     replace t1 := cell_next hb nt t1
     replace nt := Nat.lt_of_lt_of_le nt hb.size
     replace r0 := cell_next hb nr r0
     replace fr0 := frozen_next hb nr fr0
     replace r1 := cell_next hb nr r1
     replace fr1 := frozen_next hb nr fr1
     replace nr := Nat.lt_of_lt_of_le nr hb.size
     replace hB := hB.trans (hb.mono hB.size)
     clear hb
     obtain ⟨u0, u1, u2⟩ := HV.out (by simp) (by simp)
     obtain rfl := HR.out (by simp) (by simp) (by simp)
     obtain rfl : E = 0 := HE.out.trans (by simp)
     clear HE HR HV CA CB p0 pl wm wm' hm0 d1 d2 q0 ql
     replace C3 := Lib.hid (C3.out (by simp) (by simp))
     obtain ⟨y, z⟩ := V'
     dsimp only at *
     go_wp2_with fail
     refine (C3.out _ hB).mono ?_
     rintro e W4 ⟨rfl, hb⟩
     replace s0 := cell_next hb ns s0
     replace s1 := cell_next hb ns s1
     replace s2 := cell_next hb ns s2
     replace s3 := cell_next hb ns s3
     replace s4 := cell_next hb ns s4
     replace ns := Nat.lt_of_lt_of_le ns hb.size
     replace j0 := cell_next hb nj j0
     replace j1 := cell_next hb nj j1
     replace nj := Nat.lt_of_lt_of_le nj hb.size
     replace t0 := cell_next hb nt t0
     replace t1 := cell_next hb nt t1
     replace nt := Nat.lt_of_lt_of_le nt hb.size
     replace r0 := cell_next hb nr r0
     replace fr0 := frozen_next hb nr fr0
     replace r1 := cell_next hb nr r1
     replace fr1 := frozen_next hb nr fr1
     replace nr := Nat.lt_of_lt_of_le nr hb.size
     replace hB := hB.trans (hb.mono hB.size)
     clear hb
     have bbh : 0 ≤ z ∧ z ≤ 9999 := by omega
     have m0h : 0 ≤ a * z := Int.mul_nonneg ha0 bbh.1
     have m1h : a * z ≤ 1000000000000 * 9999 := Int.mul_le_mul ha1 bbh.2 bbh.1 (by omega)
     have m2h : 0 ≤ a * z / (10000 - z) := Int.ediv_nonneg m0h (by omega)
     have m3h : a * z / (10000 - z) ≤ a * z := Int.ediv_le_self _ m0h
     have w1h : IntKind.i64.wrap (a * z) = a * z := IntWalk.i64_in _ (by omega)
     have w2h : IntKind.i64.wrap (10000 - z) = 10000 - z := IntWalk.i64_in _ (by omega)
     have w3h : (a * z).tdiv (10000 - z) = a * z / (10000 - z) := Int.tdiv_eq_ediv_of_nonneg m0h
     have w4h : IntKind.i64.wrap (a * z / (10000 - z)) = a * z / (10000 - z) := IntWalk.i64_in _ (by omega)
     have w5h : IntKind.i64.wrap (s - a * z / (10000 - z)) = s - a * z / (10000 - z) := IntWalk.i64_in _ (by omega)
     have w6h : (10000 - z == 0) = false := by simp; omega
     have w7h : decide (10000 - z = 0) = false := decide_eq_false (by omega)
     have w8h : ¬ (10000 - z = 0) := by omega
     clear bbh m0h m1h m2h m3h
     obtain ⟨Mh, hMh⟩ : ∃ M, a * z = M := ⟨_, rfl⟩
     rw [hMh] at w1h w3h w4h w5h
     obtain ⟨Nh, hNh⟩ : ∃ N, 10000 - z = N := ⟨_, rfl⟩
     rw [hNh] at w2h w3h w4h w5h w6h w7h w8h
     obtain ⟨Qh, hQh⟩ : ∃ Q, Mh / Nh = Q := ⟨_, rfl⟩
     rw [hQh] at w3h w4h w5h
     obtain ⟨Zh, hZh⟩ : ∃ Z, s - Qh = Z := ⟨_, rfl⟩
     rw [hZh] at w5h
     have w9h : IntKind.i64.wrap (a * z) = Mh := by rw [hMh]; exact w1h
     have w10h : IntKind.i64.wrap (10000 - z) = Nh := by rw [hNh]; exact w2h
     have w11h : IntKind.i64.wrap (s - Qh) = Zh := by rw [hZh]; exact w5h
     have hmxh := fun tys ty w => jmax2 (P := Tryz.prog) tys ty .i64 0 Zh w
     have eh : cyV a s z = max 0 Zh := by simp only [cyV, hMh, hNh, hQh, hZh]
     clear hMh hNh hQh hZh
     have bbl : 0 ≤ y ∧ y ≤ 9999 := by omega
     have m0l : 0 ≤ a * y := Int.mul_nonneg ha0 bbl.1
     have m1l : a * y ≤ 1000000000000 * 9999 := Int.mul_le_mul ha1 bbl.2 bbl.1 (by omega)
     have m2l : 0 ≤ a * y / (10000 - y) := Int.ediv_nonneg m0l (by omega)
     have m3l : a * y / (10000 - y) ≤ a * y := Int.ediv_le_self _ m0l
     have w1l : IntKind.i64.wrap (a * y) = a * y := IntWalk.i64_in _ (by omega)
     have w2l : IntKind.i64.wrap (10000 - y) = 10000 - y := IntWalk.i64_in _ (by omega)
     have w3l : (a * y).tdiv (10000 - y) = a * y / (10000 - y) := Int.tdiv_eq_ediv_of_nonneg m0l
     have w4l : IntKind.i64.wrap (a * y / (10000 - y)) = a * y / (10000 - y) := IntWalk.i64_in _ (by omega)
     have w5l : IntKind.i64.wrap (s - a * y / (10000 - y)) = s - a * y / (10000 - y) := IntWalk.i64_in _ (by omega)
     have w6l : (10000 - y == 0) = false := by simp; omega
     have w7l : decide (10000 - y = 0) = false := decide_eq_false (by omega)
     have w8l : ¬ (10000 - y = 0) := by omega
     clear bbl m0l m1l m2l m3l
     obtain ⟨Ml, hMl⟩ : ∃ M, a * y = M := ⟨_, rfl⟩
     rw [hMl] at w1l w3l w4l w5l
     obtain ⟨Nl, hNl⟩ : ∃ N, 10000 - y = N := ⟨_, rfl⟩
     rw [hNl] at w2l w3l w4l w5l w6l w7l w8l
     obtain ⟨Ql, hQl⟩ : ∃ Q, Ml / Nl = Q := ⟨_, rfl⟩
     rw [hQl] at w3l w4l w5l
     obtain ⟨Zl, hZl⟩ : ∃ Z, s - Ql = Z := ⟨_, rfl⟩
     rw [hZl] at w5l
     have w9l : IntKind.i64.wrap (a * y) = Ml := by rw [hMl]; exact w1l
     have w10l : IntKind.i64.wrap (10000 - y) = Nl := by rw [hNl]; exact w2l
     have w11l : IntKind.i64.wrap (s - Ql) = Zl := by rw [hZl]; exact w5l
     have hmxl := fun tys ty w => jmax2 (P := Tryz.prog) tys ty .i64 0 Zl w
     have el : cyV a s y = max 0 Zl := by simp only [cyV, hMl, hNl, hQl, hZl]
     clear hMl hNl hQl hZl
     obtain rfl : D = (max 0 Zh, max 0 Zl) := HD.out.trans (by simp only [if_true, eh, el])
     clear eh el HD
     clear ha0 ha1 hs0 hs1 u0 u1 u2 ht hd hd2
     go_wp2_with fail
     have hb : Below W4.heap.size W4 (W4.alloc (Obj.cells #[.int .i64 y, .int .i64 z] 24)) := ((Below.refl _ _).alloc (Nat.le_refl _) _)
     replace s0 := cell_next hb ns s0
     replace s1 := cell_next hb ns s1
     replace s2 := cell_next hb ns s2
     replace s3 := cell_next hb ns s3
     replace s4 := cell_next hb ns s4
     replace ns := Nat.lt_of_lt_of_le ns hb.size
     replace j0 := cell_next hb nj j0
     replace j1 := cell_next hb nj j1
     replace nj := Nat.lt_of_lt_of_le nj hb.size
     replace t0 := cell_next hb nt t0
     replace t1 := cell_next hb nt t1
     replace nt := Nat.lt_of_lt_of_le nt hb.size
     replace r0 := cell_next hb nr r0
     replace fr0 := frozen_next hb nr fr0
     replace r1 := cell_next hb nr r1
     replace fr1 := frozen_next hb nr fr1
     replace nr := Nat.lt_of_lt_of_le nr hb.size
     have v0 : (W4.alloc (Obj.cells #[.int .i64 y, .int .i64 z] 24)).cell? ⟨W4.heap.size, 0, none⟩ = some (.int .i64 y) := by simp [go_sem]
     have v1 : (W4.alloc (Obj.cells #[.int .i64 y, .int .i64 z] 24)).cell? ⟨W4.heap.size, 1, none⟩ = some (.int .i64 z) := by simp [go_sem]
     have nv : W4.heap.size < (W4.alloc (Obj.cells #[.int .i64 y, .int .i64 z] 24)).heap.size := by simp <;> omega
     replace hB := hB.trans (hb.mono hB.size)
     clear hb
     generalize (W4.alloc (Obj.cells #[.int .i64 y, .int .i64 z] 24)) = W5 at *
     generalize W4.heap.size = q5 at *
     go_wp2_with fail
     go_quiet (fail)
     have hb : Below W5.heap.size W5 (W5.drewN nq) := below_drewN (Below.refl _ _) _
     generalize W5.drewN nq = W6 at *
     replace s0 := cell_next hb ns s0
     replace s1 := cell_next hb ns s1
     replace s2 := cell_next hb ns s2
     replace s3 := cell_next hb ns s3
     replace s4 := cell_next hb ns s4
     replace ns := Nat.lt_of_lt_of_le ns hb.size
     replace j0 := cell_next hb nj j0
     replace j1 := cell_next hb nj j1
     replace nj := Nat.lt_of_lt_of_le nj hb.size
     replace t0 := cell_next hb nt t0
     replace t1 := cell_next hb nt t1
     replace nt := Nat.lt_of_lt_of_le nt hb.size
     replace r0 := cell_next hb nr r0
     replace fr0 := frozen_next hb nr fr0
     replace r1 := cell_next hb nr r1
     replace fr1 := frozen_next hb nr fr1
     replace nr := Nat.lt_of_lt_of_le nr hb.size
     replace v0 := cell_next hb nv v0
     replace v1 := cell_next hb nv v1
     replace nv := Nat.lt_of_lt_of_le nv hb.size
     replace hB := hB.trans (hb.mono hB.size)
     clear hb
     go_wp2_with fail
     go_quiet (fail)
     have hb : Below W6.heap.size W6 (W6.drewN nq) := below_drewN (Below.refl _ _) _
     generalize W6.drewN nq = W7 at *
     replace s0 := cell_next hb ns s0
     replace s1 := cell_next hb ns s1
     replace s2 := cell_next hb ns s2
     replace s3 := cell_next hb ns s3
     replace s4 := cell_next hb ns s4
     replace ns := Nat.lt_of_lt_of_le ns hb.size
     replace j0 := cell_next hb nj j0
     replace j1 := cell_next hb nj j1
     replace nj := Nat.lt_of_lt_of_le nj hb.size
     replace t0 := cell_next hb nt t0
     replace t1 := cell_next hb nt t1
     replace nt := Nat.lt_of_lt_of_le nt hb.size
     replace r0 := cell_next hb nr r0
     replace fr0 := frozen_next hb nr fr0
     replace r1 := cell_next hb nr r1
     replace fr1 := frozen_next hb nr fr1
     replace nr := Nat.lt_of_lt_of_le nr hb.size
     replace v0 := cell_next hb nv v0
     replace v1 := cell_next hb nv v1
     replace nv := Nat.lt_of_lt_of_le nv hb.size
     replace hB := hB.trans (hb.mono hB.size)
     clear hb
     go_wp2_with fail
     refine bodyPost_ret (v := .tuple #[.agg #[.int .i64 (max 0 Zh), .int .i64 (max 0 Zl)], .int .i64 0]) (by simp [results, Tryz.results18, go_sem, r0, r1, fr0, fr1]) rfl ⟨rfl, ?_⟩
     exact ((hB.setCell (p := ⟨w.heap.size + 1 + 1 + 1, 0, none⟩) (by simp <;> omega) _).setCell (p := ⟨w.heap.size + 1 + 1 + 1, 1, none⟩) (by simp <;> omega) _)
end Go.Proofs.YtjmgmjaeknanaaaGreat
