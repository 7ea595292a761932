/- Contracts of the reference of chapter 11: density, Dense, Crystals. -/
import Derived.Test.YtgklpbgdimkhaaaGreatJ16B
import Derived.Test.YtgklpbgdimkhaaaGreatC33B
import Derived.Deep.QuietTactic
import Derived.BigQuiet
namespace Go.Proofs.YtgklpbgdimkhaaaGreat
open Go.RowKit Go.Lib Go.Shelf
set_option linter.unusedVariables false
set_option linter.unusedSimpArgs false
attribute [local go_sem ↓] Go.wp_at_zero Go.wp_at_succ


set_option maxRecDepth 20000 in
set_option maxHeartbeats 2000000 in
theorem rDensity_any (v1 v2 v3 : Value) (R : Cr) (h : Int) (w : World) (he : ElOk R.xs) (hv : CrAt w.heap.size w v1 v2 v3 R) :
  Calls Tryz.prog 54 #[.agg (cCr v1 v2 v3 R).toArray, .int .i64 h] w fun e w' => e = .returned (.tuple #[.int .i64 (if dnF R.xs h ≤ ltX R.xs then dnF R.xs h else 0), .bool (decide (dnF R.xs h ≤ ltX R.xs))]) ∧ Below w.heap.size w w' := by
 obtain ⟨xs, ys, bl, bh, ps⟩ := R
 dsimp only at he
 have ht := he.tab
 obtain ⟨m, f, l, hm, hf, hl, eh, el, hfl⟩ := tab_ends ht
 obtain ⟨a1, a2, a3, a4⟩ := dnF_is ht h
 have rf := he.row f (List.mem_of_getElem? hf)
 have rl := he.row l (List.mem_of_getElem? hl)
 have hm60 := ht.2.1
 obtain ⟨A2, c2, rfl⟩ := hv.s.slice
 obtain ⟨A3, c3, rfl⟩ := hv.p.slice
 have H1 := hv.e
 clear hv
 dsimp only at H1
 obtain ⟨A1, c1, rfl, h1⟩ := H1
 obtain ⟨g, off, rfl, hg, hr⟩ := h1 (by omega)
 clear h1
 have CV := Lib.hid (fun (x : Int) (hx1 : f.1 ≤ x) (hx2 : x ≤ l.1) (W : World) (h : Below w.heap.size w W) => rValue_any xs x g off c1 ht (by rw [covB_of x hm hf hl]; simp [hx1, hx2]) W (Nat.lt_of_lt_of_le hg h.size) (hr.below h hg))
 obtain ⟨q0, -⟩ := hr 0 f hf
 obtain ⟨ql, -⟩ := hr m l hl
 simp only [Nat.zero_mul, Nat.add_zero] at q0
 dsimp only [cCr]
 rw [eh] at a1 a3
 rw [el] at a2 a4 ⊢
 generalize dnF xs h = D at *
 rw [hm] at CV hm60 ⊢
 have A3' := Lib.hid a3
 have A4' := Lib.hid a4
 have wm : IntKind.i64.wrap ((m + 1 : Nat) - 1 : Int) = m := by rw [show ((m + 1 : Nat) - 1 : Int) = m from by omega]; exact IntWalk.i64_in _ (by omega)
 have wm' : IntKind.i64.wrap ((m : Int) + 1 - 1) = m := by rw [show ((m : Int) + 1 - 1) = m from by omega]; exact IntWalk.i64_in _ (by omega)
 have hm0 : (0 : Int) ≤ m := by omega
 obtain ⟨f0, f1⟩ := f
 obtain ⟨l0, l1⟩ := l
 dsimp only at *
 generalize ys.length = n2 at *
 generalize ps.length = n3 at *
 clear hr hf hl hm eh el he ht a3 a4
 go_enter Tryz.func54, Tryz.ntmps54
 go_wp2_with fail
 go_loopw [6] (fun i wr => ∃ x : Int, i = .int .i64 x ∧ f0 ≤ x ∧ x ≤ D ∧ Below w.heap.size w wr ∧ w.heap.size < wr.heap.size ∧ wr.cell? ⟨w.heap.size, 0, none⟩ = some (.slice (some ⟨g, off, none⟩) (m + 1) c1)) (fun i _ => (l0 + 1 - RowKit.intOf i).toNat)
 case atStart => exact ⟨f0, rfl, Int.le_refl _, a1, (Below.refl _ _).alloc (Nat.le_refl _) _, by simp, by simp [go_sem]⟩
 case round =>
  obtain ⟨x, rfl, hx1, hx2, hB, nb, b0⟩ := hrel
  have p0 := cell_next hB hg q0
  have pl := cell_next hB hg ql
  have hgw := Nat.lt_of_lt_of_le hg hB.size
  by_cases hlt : x ≤ l0
  ·have cV := Lib.hid (CV.out x hx1 hlt)
   have wx : IntKind.i64.wrap (x + 1) = x + 1 := IntWalk.i64_in _ (by omega)
   by_cases hd : x = D
   ·subst hd
    have hT : decide (h ≤ (valV xs x).1) = true := A4'.out hlt
    have d1 : decide (x ≤ l0) = true := decide_eq_true hlt
    clear CV A3' A4'
    generalize valV xs x = V at *
    go_wp2_with fail
    refine (cV.out _ hB).mono ?_
    rintro e W1 ⟨rfl, hb⟩
    replace hB := hB.trans (hb.mono hB.size)
    clear hb
    go_wp2_with fail
    go_ret2
    exact ⟨by simp [hlt], hB.alloc hB.size _⟩
   ·have hT : decide (h ≤ (valV xs x).1) = false := A3'.out x hx1 (by omega)
    clear CV
    generalize valV xs x = V at *
    go_wp2_with fail
    refine (cV.out _ hB).mono ?_
    rintro e W1 ⟨rfl, hb⟩
    replace b0 := cell_next hb nb b0
    replace nb := Nat.lt_of_lt_of_le nb hb.size
    replace hB := hB.trans (hb.mono hB.size)
    clear hb
    have hb := (Below.refl W1.heap.size W1).alloc (Nat.le_refl _) (Obj.cells #[.int .i64 V.1, .int .i64 V.2] 24)
    go_wp2_with fail
    go_roundw
    case rel => exact ⟨x + 1, by go_num, by omega, by omega, hB.trans (hb.mono hB.size), Nat.lt_of_lt_of_le nb hb.size, cell_next hb nb b0⟩
    case measure => simp [RowKit.intOf]; omega
  ·have hD : D = l0 + 1 := by omega
   have d1 : decide (x ≤ l0) = false := decide_eq_false hlt
   go_wp2_with fail
   go_ret2
   exact ⟨by simp [hD, show ¬ (l0 + 1 ≤ l0) from by omega], hB⟩

set_option maxRecDepth 20000 in
set_option maxHeartbeats 2000000 in
theorem rDense_any (v1 v2 v3 : Value) (R : Cr) (tl th : Int) (w : World) (he : ElOk R.xs) (hb1 : 0 ≤ R.bl ∧ R.bl ≤ 2000) (hb2 : 0 ≤ R.bh ∧ R.bh ≤ 2000) (hbb : R.bl ≤ R.bh) (hv : CrAt w.heap.size w v1 v2 v3 R) :
  Calls Tryz.prog 17 #[.agg (cCr v1 v2 v3 R).toArray, .agg #[.int .i64 tl, .int .i64 th]] w fun e w' => e = .returned (.tuple #[.agg #[.int .i64 (dnR R.xs R.bl R.bh tl th).1, .int .i64 (dnR R.xs R.bl R.bh tl th).2], .int .i64 (dnE R.xs R.bl R.bh tl th)]) ∧ Below w.heap.size w w' := by
 have C1 := Lib.hid (rSpread_any (-2000) 2000 tl th)
 have C2 := Lib.hid (fun (h : Int) (W : World) (hB : Below w.heap.size w W) => rDensity_any v1 v2 v3 R h W he (hv.next hB))
 have hM := dnF_mono he.tab (h := tl - R.bh) (k := th - R.bl)
 have HW := Lib.hid (fun (h : rgB (-2000) 2000 tl th = true) => rgB_of h)
 have e1 : dnE R.xs R.bl R.bh tl th = if rgB (-2000) 2000 tl th then (if dnF R.xs (th - R.bl) ≤ ltX R.xs then 0 else 7) else 2 := rfl
 have e2 : dnR R.xs R.bl R.bh tl th = if dnE R.xs R.bl R.bh tl th = 0 then (dnF R.xs (tl - R.bh), dnF R.xs (th - R.bl)) else (0, 0) := rfl
 rw [e1] at e2
 have E1 := Lib.hid e1
 have E2 := Lib.hid e2
 clear e1 e2
 obtain ⟨A1, c1, A2, c2, A3, c3, rfl, rfl, rfl⟩ := hv.slices
 clear hv he
 obtain ⟨xs, ys, bl, bh, ps⟩ := R
 dsimp only [cCr] at *
 have K1 := Lib.hid (C2.out (th - bl))
 have K2 := Lib.hid (C2.out (tl - bh))
 clear C2
 generalize dnE xs bl bh tl th = E at *
 generalize dnR xs bl bh tl th = D at *
 generalize dnF xs (th - bl) = dh at *
 generalize dnF xs (tl - bh) = dl at *
 generalize rgB (-2000) 2000 tl th = z1 at *
 generalize ltX xs = lx at *
 generalize xs.length = n1 at *
 generalize ys.length = n2 at *
 generalize ps.length = n3 at *
 go_enter Tryz.func17, Tryz.ntmps17
 go_wp2_with fail
 refine (C1.out _).mono ?_
 rintro e W1 ⟨rfl, hb⟩
 have s0 := cell_next hb (b := w.heap.size) (o := 0) (by simp <;> omega) (v := some (.slice A1 n1 c1)) (by simp [go_sem])
 have s1 := cell_next hb (b := w.heap.size) (o := 1) (by simp <;> omega) (v := some (.slice A2 n2 c2)) (by simp [go_sem])
 have s2 := cell_next hb (b := w.heap.size) (o := 2) (by simp <;> omega) (v := some (.int .i64 bl)) (by simp [go_sem])
 have s3 := cell_next hb (b := w.heap.size) (o := 3) (by simp <;> omega) (v := some (.int .i64 bh)) (by simp [go_sem])
 have s4 := cell_next hb (b := w.heap.size) (o := 4) (by simp <;> omega) (v := some (.slice A3 n3 c3)) (by simp [go_sem])
 have ns : w.heap.size < W1.heap.size := by have := hb.size; simp at this; omega
 have t0 := cell_next hb (b := w.heap.size + 1) (o := 0) (by simp <;> omega) (v := some (.int .i64 tl)) (by simp [go_sem])
 have t1 := cell_next hb (b := w.heap.size + 1) (o := 1) (by simp <;> omega) (v := some (.int .i64 th)) (by simp [go_sem])
 have nt : w.heap.size + 1 < W1.heap.size := by have := hb.size; simp at this; omega
 have r0 := cell_next hb (b := w.heap.size + 1 + 1) (o := 0) (by simp <;> omega) (v := some (.int .i64 0)) (by simp [go_sem])
 have fr0 := frozen_next hb (b := w.heap.size + 1 + 1) (o := 0) (by simp <;> omega) (v := false) (by simp [go_sem])
 have r1 := cell_next hb (b := w.heap.size + 1 + 1) (o := 1) (by simp <;> omega) (v := some (.int .i64 0)) (by simp [go_sem])
 have fr1 := frozen_next hb (b := w.heap.size + 1 + 1) (o := 1) (by simp <;> omega) (v := false) (by simp [go_sem])
 have nr : w.heap.size + 1 + 1 < W1.heap.size := by have := hb.size; simp at this; omega
 have hB := (below3 hb)
 clear hb
 cases z1
 ·obtain rfl : E = 2 := E1.out.trans (by simp [*])
  obtain rfl : D = (0, 0) := E2.out.trans (by simp [*])
  go_wp2_with fail
  refine bodyPost_ret (v := .tuple #[.agg #[.int .i64 0, .int .i64 0], .int .i64 2]) (by simp [results, Tryz.results17, go_sem, r0, r1, fr0, fr1]) rfl ⟨rfl, ?_⟩
  exact ((hB.setCell (p := ⟨w.heap.size + 1 + 1, 0, none⟩) (by simp <;> omega) _).setCell (p := ⟨w.heap.size + 1 + 1, 1, none⟩) (by simp <;> omega) _)
 ·obtain ⟨w1, w2, w3⟩ := HW.out (by simp)
  have y1 : IntKind.i64.wrap (th - bl) = th - bl := IntWalk.i64_in _ (by omega)
  have y2 : IntKind.i64.wrap (tl - bh) = tl - bh := IntWalk.i64_in _ (by omega)
  have hM' := hM (by omega)
  clear hM HW
  by_cases hd : dh ≤ lx
  ·have d1 : decide (dh ≤ lx) = true := decide_eq_true hd
   have hd2 : dl ≤ lx := by omega
   have d2 : decide (dl ≤ lx) = true := decide_eq_true hd2
   rw [if_pos hd, d1] at K1
   rw [if_pos hd2, d2] at K2
   go_wp2_with fail
   refine (K1.out _ hB).mono ?_
   rintro e W2 ⟨rfl, hb⟩
   replace s0 := cell_next hb ns s0
   replace s1 := cell_next hb ns s1
   replace s2 := cell_next hb ns s2
   replace s3 := cell_next hb ns s3
   replace s4 := cell_next hb ns s4
   replace ns := Nat.lt_of_lt_of_le ns hb.size
   replace t0 := cell_next hb nt t0
   replace t1 := cell_next hb nt t1
   replace nt := Nat.lt_of_lt_of_le nt hb.size
   replace r0 := cell_next hb nr r0
   replace fr0 := frozen_next hb nr fr0
   replace r1 := cell_next hb nr r1
   replace fr1 := frozen_next hb nr fr1
   replace nr := Nat.lt_of_lt_of_le nr hb.size
   replace hB := hB.trans (hb.mono hB.size)
   clear hb
   go_wp2_with fail
   refine (K2.out _ hB).mono ?_
   rintro e W3 ⟨rfl, hb⟩
   replace s0 := cell_next hb ns s0
   replace s1 := cell_next hb ns s1
   replace s2 := cell_next hb ns s2
   replace s3 := cell_next hb ns s3
   replace s4 := cell_next hb ns s4
   replace ns := Nat.lt_of_lt_of_le ns hb.size
   replace t0 := cell_next hb nt t0
   replace t1 := cell_next hb nt t1
   replace nt := Nat.lt_of_lt_of_le nt hb.size
   replace r0 := cell_next hb nr r0
   replace fr0 := frozen_next hb nr fr0
   replace r1 := cell_next hb nr r1
   replace fr1 := frozen_next hb nr fr1
   replace nr := Nat.lt_of_lt_of_le nr hb.size
   replace hB := hB.trans (hb.mono hB.size)
   clear hb
   obtain rfl : E = 0 := E1.out.trans (by simp [*])
   obtain rfl : D = (dl, dh) := E2.out.trans (by simp [*])
   go_wp2_with fail
   refine bodyPost_ret (v := .tuple #[.agg #[.int .i64 dl, .int .i64 dh], .int .i64 0]) (by simp [results, Tryz.results17, go_sem, r0, r1, fr0, fr1]) rfl ⟨rfl, ?_⟩
   exact ((hB.setCell (p := ⟨w.heap.size + 1 + 1, 0, none⟩) (by simp <;> omega) _).setCell (p := ⟨w.heap.size + 1 + 1, 1, none⟩) (by simp <;> omega) _)
  ·have d1 : decide (dh ≤ lx) = false := decide_eq_false hd
   rw [if_neg hd, d1] at K1
   clear K2
   go_wp2_with fail
   refine (K1.out _ hB).mono ?_
   rintro e W2 ⟨rfl, hb⟩
   replace s0 := cell_next hb ns s0
   replace s1 := cell_next hb ns s1
   replace s2 := cell_next hb ns s2
   replace s3 := cell_next hb ns s3
   replace s4 := cell_next hb ns s4
   replace ns := Nat.lt_of_lt_of_le ns hb.size
   replace t0 := cell_next hb nt t0
   replace t1 := cell_next hb nt t1
   replace nt := Nat.lt_of_lt_of_le nt hb.size
   replace r0 := cell_next hb nr r0
   replace fr0 := frozen_next hb nr fr0
   replace r1 := cell_next hb nr r1
   replace fr1 := frozen_next hb nr fr1
   replace nr := Nat.lt_of_lt_of_le nr hb.size
   replace hB := hB.trans (hb.mono hB.size)
   clear hb
   obtain rfl : E = 7 := E1.out.trans (by simp [*])
   obtain rfl : D = (0, 0) := E2.out.trans (by simp [*])
   go_wp2_with fail
   refine bodyPost_ret (v := .tuple #[.agg #[.int .i64 0, .int .i64 0], .int .i64 7]) (by simp [results, Tryz.results17, go_sem, r0, r1, fr0, fr1]) rfl ⟨rfl, ?_⟩
   exact ((hB.setCell (p := ⟨w.heap.size + 1 + 1, 0, none⟩) (by simp <;> omega) _).setCell (p := ⟨w.heap.size + 1 + 1, 1, none⟩) (by simp <;> omega) _)
end Go.Proofs.YtgklpbgdimkhaaaGreat
