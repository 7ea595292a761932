/- The walk of CandyTells. -/
import Derived.Test.YtjmgmjaeknanaaaGreatJ18
import Derived.Test.YtjmgmjaeknanaaaGreatJ14
import Derived.Deep.QuietTactic
import Derived.BigQuiet
namespace Go.Proofs.YtjmgmjaeknanaaaGreat
open Go.RowKit Go.Lib Go.Shelf
set_option linter.unusedVariables false
set_option linter.unusedSimpArgs false
attribute [local go_sem ↓] Go.wp_at_zero Go.wp_at_succ


theorem RsAt.row {α : Type} {N : Nat} {c : α → List Value} {B : Nat} {w : World} {A : Option Addr} {n cp : Nat} {xs : List α} (h : RsAt N c B w (.slice A n cp) xs) {k : Nat} {x : α} (hk : xs[k]? = some x) :
  ∃ g off, A = some ⟨g, off, none⟩ ∧ g < B ∧ ∀ j u, (c x)[j]? = some u → w.cell? ⟨g, off + k * N + j, none⟩ = some u := by
 obtain ⟨A', cp', e, h⟩ := h
 injection e with e1 e2 e3
 subst e1
 obtain ⟨g, off, h1, h2, h3⟩ := h (by have := (List.getElem?_eq_some_iff.1 hk).1; omega)
 exact ⟨g, off, h1, h2, h3 k x hk⟩

theorem rDense_eq (v1 v2 v3 : Value) (R : Cr) (tl th : Int) (w : World) (hc : crB R = true) (hv : CrAt w.heap.size w v1 v2 v3 R) :
  Calls Tryz.prog 17 #[.agg (cCr v1 v2 v3 R).toArray, .agg #[.int .i64 tl, .int .i64 th]] w fun e w' => e = .returned (.tuple #[.agg #[.int .i64 (rdR R tl th).1, .int .i64 (rdR R tl th).2], .int .i64 (rdE R tl th)]) ∧ Below w.heap.size w w' := by
 obtain ⟨h1, _, h2, _, _⟩ := crB_ok hc
 have e1 : rdR R tl th = dnR R.xs R.bl R.bh tl th := by simp [rdR, hc]
 have e2 : rdE R tl th = dnE R.xs R.bl R.bh tl th := by simp [rdE, hc]
 rw [e1, e2]
 exact rDense_any v1 v2 v3 R tl th w h1 (by omega) (by omega) (by omega) hv

set_option maxRecDepth 20000 in
set_option maxHeartbeats 8000000 in
theorem tells_any (v1 v2 v3 : Value) (R : Cr) (tl th a s : Int) (w : World) (hv : CrAt w.heap.size w v1 v2 v3 R) :
  Calls Tryz.prog 3 #[.agg (cCr v1 v2 v3 R).toArray, .agg #[.int .i64 tl, .int .i64 th], .agg #[.int .i64 a, .int .i64 s]] w fun e w' => e = .returned (.bool true) ∧ Below w.heap.size w w' := by
 have hz := Lib.hid (show ∀ z, crB R = z → z = crB R from fun z h => h.symm)
 have C0 := Lib.hid (fun (W : World) (h : Below w.heap.size w W) => large_any v1 v2 v3 R w.heap.size W (hv.below h (Nat.le_refl _)))
 have CK := Lib.hid (fun (W : World) => known_any W)
 have CO := Lib.hid (fun (hl : R.xs.length ≤ 70 ∧ R.ys.length ≤ 70 ∧ R.ps.length ≤ 12) (W : World) (h : Below w.heap.size w W) => own_any v1 v2 v3 R W hl.1 hl.2.1 hl.2.2 (hv.next h))
 have D1 := Lib.hid (fun (u1 u2 u3 : Value) (W : World) (h : CrAt W.heap.size W u1 u2 u3 R) => jCheck_any u1 u2 u3 R W h)
 obtain ⟨E0, hE0⟩ : ∃ E : Int, (if crB R then (0 : Int) else 2) = E := ⟨_, rfl⟩
 rw [hE0] at D1
 have P0 := Lib.hid (fun (h : crB R = false) => (by rw [← hE0, h]; rfl : E0 = 2))
 have P1 := Lib.hid (fun (h : crB R = true) => (by rw [← hE0, h]; rfl : E0 = 0))
 clear hE0
 have D2 := Lib.hid (fun (u1 u2 u3 : Value) (W : World) (h : CrAt W.heap.size W u1 u2 u3 R) => dense_any u1 u2 u3 R tl th W h)
 have D3 := Lib.hid (fun (u1 u2 u3 : Value) (W : World) (h : CrAt W.heap.size W u1 u2 u3 R) => jCrystals_any u1 u2 u3 R a s tl th W h)
 have F1 := Lib.hid (fun (hl : R.xs.length ≤ 70 ∧ R.ys.length ≤ 70 ∧ R.ps.length ≤ 12) (W : World) (h : Below w.heap.size w W) => rRules_any v1 v2 v3 R W (by omega) (by omega) (hv.next h))
 have F2 := Lib.hid (fun (hc : crB R = true) (W : World) (h : Below w.heap.size w W) => rDense_eq v1 v2 v3 R tl th W hc (hv.next h))
 have F3 := Lib.hid (fun (hc : crB R = true) (W : World) (h : Below w.heap.size w W) => rCrystals_any v1 v2 v3 R a s tl th W hc (hv.next h))
 have HZ := Lib.hid (fun (hc : crB R = false) => (by simp [rdE, rdR, ccE, ccR, hc] : rdE R tl th = 2 ∧ rdR R tl th = (0, 0) ∧ ccE R a s tl th = 2 ∧ ccR R a s tl th = (0, 0)))
 have HL := Lib.hid (fun (h : lgB R = false) => (by simp [lgB] at h; omega : R.xs.length ≤ 70 ∧ R.ys.length ≤ 70 ∧ R.ps.length ≤ 12))
 have HV := Lib.hid hv
 obtain ⟨A1, c1, A2, c2, A3, c3, rfl, rfl, rfl⟩ := hv.slices
 clear hv hz
 obtain ⟨xs, ys, bl, bh, ps⟩ := R
 dsimp only [cCr] at *
 generalize lgB ⟨xs, ys, bl, bh, ps⟩ = z1 at *
 generalize crB ⟨xs, ys, bl, bh, ps⟩ = z2 at *
 generalize rdE ⟨xs, ys, bl, bh, ps⟩ tl th = E1 at *
 generalize rdR ⟨xs, ys, bl, bh, ps⟩ tl th = R1 at *
 generalize ccE ⟨xs, ys, bl, bh, ps⟩ a s tl th = E2 at *
 generalize ccR ⟨xs, ys, bl, bh, ps⟩ a s tl th = R2 at *
 obtain ⟨n1, hn1⟩ : ∃ n, xs.length = n := ⟨_, rfl⟩
 obtain ⟨n2, hn2⟩ : ∃ n, ys.length = n := ⟨_, rfl⟩
 obtain ⟨n3, hn3⟩ : ∃ n, ps.length = n := ⟨_, rfl⟩
 simp only [hn1, hn2, hn3] at C0 CO D1 D2 D3 F1 F2 F3 HL HV ⊢
 have N1 := Lib.hid hn1
 have N2 := Lib.hid hn2
 have N3 := Lib.hid hn3
 clear hn1 hn2 hn3
 go_enter Tryz.func3, Tryz.ntmps3
 go_wp2_with fail
 refine (C0.out _ (((Below.refl _ _).alloc (Nat.le_refl _) _).alloc (by simp) _ |>.alloc (by simp <;> omega) _)).mono ?_
 rintro e W1 ⟨rfl, hb⟩
 have b0 := cell_next hb (b := w.heap.size) (o := 0) (by simp <;> omega) (v := some (.slice A1 n1 c1)) (by simp [go_sem])
 have b1 := cell_next hb (b := w.heap.size) (o := 1) (by simp <;> omega) (v := some (.slice A2 n2 c2)) (by simp [go_sem])
 have b2 := cell_next hb (b := w.heap.size) (o := 2) (by simp <;> omega) (v := some (.int .i64 bl)) (by simp [go_sem])
 have b3 := cell_next hb (b := w.heap.size) (o := 3) (by simp <;> omega) (v := some (.int .i64 bh)) (by simp [go_sem])
 have b4 := cell_next hb (b := w.heap.size) (o := 4) (by simp <;> omega) (v := some (.slice A3 n3 c3)) (by simp [go_sem])
 have nb : w.heap.size < W1.heap.size := by have := hb.size; simp at this; omega
 have t0 := cell_next hb (b := w.heap.size + 1) (o := 0) (by simp <;> omega) (v := some (.int .i64 tl)) (by simp [go_sem])
 have t1 := cell_next hb (b := w.heap.size + 1) (o := 1) (by simp <;> omega) (v := some (.int .i64 th)) (by simp [go_sem])
 have nt : w.heap.size + 1 < W1.heap.size := by have := hb.size; simp at this; omega
 have j0 := cell_next hb (b := w.heap.size + 1 + 1) (o := 0) (by simp <;> omega) (v := some (.int .i64 a)) (by simp [go_sem])
 have j1 := cell_next hb (b := w.heap.size + 1 + 1) (o := 1) (by simp <;> omega) (v := some (.int .i64 s)) (by simp [go_sem])
 have nj : w.heap.size + 1 + 1 < W1.heap.size := by have := hb.size; simp at this; omega
 have hB := (below3 hb)
 clear hb
 cases z1
 ·have hl := HL.out (by simp)
  clear HL C0
  go_wp2_with fail
  refine (CO.out hl _ hB).mono ?_
  rintro e W2 ⟨u1, u2, u3, rfl, HC, hb⟩
  have HU := Lib.hid HC
  clear HC
  obtain ⟨B1, k1, B2, k2, B3, k3, e1, e2, e3⟩ := HU.out.slices
  dsimp only at e1 e2 e3
  rw [N1.out] at e1
  rw [N2.out] at e2
  rw [N3.out] at e3
  subst e1 e2 e3
  replace b0 := cell_next hb nb b0
  replace b1 := cell_next hb nb b1
  replace b2 := cell_next hb nb b2
  replace b3 := cell_next hb nb b3
  replace b4 := cell_next hb nb b4
  replace nb := Nat.lt_of_lt_of_le nb hb.size
  replace t0 := cell_next hb nt t0
  replace t1 := cell_next hb nt t1
  replace nt := Nat.lt_of_lt_of_le nt hb.size
  replace j0 := cell_next hb nj j0
  replace j1 := cell_next hb nj j1
  replace nj := Nat.lt_of_lt_of_le nj hb.size
  replace hB := hB.trans (hb.mono hB.size)
  clear hb
  go_wp2_with fail
  refine (D1.out _ _ _ _ (HU.out.next ((Below.refl _ _).alloc (Nat.le_refl _) _))).mono ?_
  rintro e W3 ⟨rfl, hb⟩
  replace HU := Lib.hid (HU.out.next (below1 hb))
  replace b0 := cell_next (below1 hb) nb b0
  replace b1 := cell_next (below1 hb) nb b1
  replace b2 := cell_next (below1 hb) nb b2
  replace b3 := cell_next (below1 hb) nb b3
  replace b4 := cell_next (below1 hb) nb b4
  replace nb := Nat.lt_of_lt_of_le nb (below1 hb).size
  replace t0 := cell_next (below1 hb) nt t0
  replace t1 := cell_next (below1 hb) nt t1
  replace nt := Nat.lt_of_lt_of_le nt (below1 hb).size
  replace j0 := cell_next (below1 hb) nj j0
  replace j1 := cell_next (below1 hb) nj j1
  replace nj := Nat.lt_of_lt_of_le nj (below1 hb).size
  have i0 := cell_next hb (b := W2.heap.size) (o := 0) (by simp <;> omega) (v := some (.slice B1 n1 k1)) (by simp [go_sem])
  have i1 := cell_next hb (b := W2.heap.size) (o := 1) (by simp <;> omega) (v := some (.slice B2 n2 k2)) (by simp [go_sem])
  have i2 := cell_next hb (b := W2.heap.size) (o := 2) (by simp <;> omega) (v := some (.int .i64 bl)) (by simp [go_sem])
  have i3 := cell_next hb (b := W2.heap.size) (o := 3) (by simp <;> omega) (v := some (.int .i64 bh)) (by simp [go_sem])
  have i4 := cell_next hb (b := W2.heap.size) (o := 4) (by simp <;> omega) (v := some (.slice B3 n3 k3)) (by simp [go_sem])
  have ni : W2.heap.size < W3.heap.size := by have := hb.size; simp at this; omega
  replace hB := hB.trans ((below1 hb).mono hB.size)
  clear hb
  generalize W2.heap.size = q3 at *
  go_wp2_with fail
  refine (D2.out _ _ _ _ HU.out).mono ?_
  rintro e W4 ⟨rfl, hb⟩
  replace HU := Lib.hid (HU.out.next hb)
  replace b0 := cell_next hb nb b0
  replace b1 := cell_next hb nb b1
  replace b2 := cell_next hb nb b2
  replace b3 := cell_next hb nb b3
  replace b4 := cell_next hb nb b4
  replace nb := Nat.lt_of_lt_of_le nb hb.size
  replace t0 := cell_next hb nt t0
  replace t1 := cell_next hb nt t1
  replace nt := Nat.lt_of_lt_of_le nt hb.size
  replace j0 := cell_next hb nj j0
  replace j1 := cell_next hb nj j1
  replace nj := Nat.lt_of_lt_of_le nj hb.size
  replace i0 := cell_next hb ni i0
  replace i1 := cell_next hb ni i1
  replace i2 := cell_next hb ni i2
  replace i3 := cell_next hb ni i3
  replace i4 := cell_next hb ni i4
  replace ni := Nat.lt_of_lt_of_le ni hb.size
  replace hB := hB.trans (hb.mono hB.size)
  clear hb
  go_wp2_with fail
  refine (D3.out _ _ _ _ (HU.out.next ((Below.refl _ _).alloc (Nat.le_refl _) _))).mono ?_
  rintro e W5 ⟨rfl, hb⟩
  replace HU := Lib.hid (HU.out.next (below1 hb))
  replace b0 := cell_next (below1 hb) nb b0
  replace b1 := cell_next (below1 hb) nb b1
  replace b2 := cell_next (below1 hb) nb b2
  replace b3 := cell_next (below1 hb) nb b3
  replace b4 := cell_next (below1 hb) nb b4
  replace nb := Nat.lt_of_lt_of_le nb (below1 hb).size
  replace t0 := cell_next (below1 hb) nt t0
  replace t1 := cell_next (below1 hb) nt t1
  replace nt := Nat.lt_of_lt_of_le nt (below1 hb).size
  replace j0 := cell_next (below1 hb) nj j0
  replace j1 := cell_next (below1 hb) nj j1
  replace nj := Nat.lt_of_lt_of_le nj (below1 hb).size
  replace i0 := cell_next (below1 hb) ni i0
  replace i1 := cell_next (below1 hb) ni i1
  replace i2 := cell_next (below1 hb) ni i2
  replace i3 := cell_next (below1 hb) ni i3
  replace i4 := cell_next (below1 hb) ni i4
  replace ni := Nat.lt_of_lt_of_le ni (below1 hb).size
  have d0 := cell_next hb (b := W4.heap.size) (o := 0) (by simp <;> omega) (v := some (.int .i64 (R1.1))) (by simp [go_sem])
  have d1 := cell_next hb (b := W4.heap.size) (o := 1) (by simp <;> omega) (v := some (.int .i64 (R1.2))) (by simp [go_sem])
  have nd : W4.heap.size < W5.heap.size := by have := hb.size; simp at this; omega
  replace hB := hB.trans ((below1 hb).mono hB.size)
  clear hb
  generalize W4.heap.size = q5 at *
  go_wp2_with fail
  replace HU := Lib.hid (HU.out.next (show Below W5.heap.size W5 (W5.alloc (Obj.cells #[.int .i64 (R2.1), .int .i64 (R2.2)] 24)) from ((Below.refl _ _).alloc (Nat.le_refl _) _)))
  have hb : Below W5.heap.size W5 (W5.alloc (Obj.cells #[.int .i64 (R2.1), .int .i64 (R2.2)] 24)) := ((Below.refl _ _).alloc (Nat.le_refl _) _)
  replace b0 := cell_next hb nb b0
  replace b1 := cell_next hb nb b1
  replace b2 := cell_next hb nb b2
  replace b3 := cell_next hb nb b3
  replace b4 := cell_next hb nb b4
  replace nb := Nat.lt_of_lt_of_le nb hb.size
  replace t0 := cell_next hb nt t0
  replace t1 := cell_next hb nt t1
  replace nt := Nat.lt_of_lt_of_le nt hb.size
  replace j0 := cell_next hb nj j0
  replace j1 := cell_next hb nj j1
  replace nj := Nat.lt_of_lt_of_le nj hb.size
  replace i0 := cell_next hb ni i0
  replace i1 := cell_next hb ni i1
  replace i2 := cell_next hb ni i2
  replace i3 := cell_next hb ni i3
  replace i4 := cell_next hb ni i4
  replace ni := Nat.lt_of_lt_of_le ni hb.size
  replace d0 := cell_next hb nd d0
  replace d1 := cell_next hb nd d1
  replace nd := Nat.lt_of_lt_of_le nd hb.size
  have l0 : (W5.alloc (Obj.cells #[.int .i64 (R2.1), .int .i64 (R2.2)] 24)).cell? ⟨W5.heap.size, 0, none⟩ = some (.int .i64 (R2.1)) := by simp [go_sem]
  have l1 : (W5.alloc (Obj.cells #[.int .i64 (R2.1), .int .i64 (R2.2)] 24)).cell? ⟨W5.heap.size, 1, none⟩ = some (.int .i64 (R2.2)) := by simp [go_sem]
  have nl : W5.heap.size < (W5.alloc (Obj.cells #[.int .i64 (R2.1), .int .i64 (R2.2)] 24)).heap.size := by simp <;> omega
  replace hB := hB.trans (hb.mono hB.size)
  clear hb
  generalize (W5.alloc (Obj.cells #[.int .i64 (R2.1), .int .i64 (R2.2)] 24)) = W6 at *
  generalize W5.heap.size = q6 at *
  clear CO D1 D2 D3
  go_loopw [13] (fun i wr => ∃ k : Nat, k ≤ n1 ∧ i = .int .i64 k ∧ Below W6.heap.size W6 wr) (fun i _ => n1 - (RowKit.intOf i).toNat)
  case atStart => exact ⟨0, Nat.zero_le _, rfl, Below.refl _ _⟩
  case round =>
   obtain ⟨k, hk, rfl, hb⟩ := hrel
   by_cases hlt : (k : Int) < (n1 : Int)
   ·obtain ⟨p, hp⟩ : ∃ p, xs[k]? = some p := ⟨_, List.getElem?_eq_getElem (by rw [N1.out]; omega)⟩
    obtain ⟨g1, o1, rfl, h1, q1⟩ := (HV.out.next (hB.trans (hb.mono hB.size))).e.toRs.row hp
    obtain ⟨g2, o2, rfl, h2, q2⟩ := (HU.out.next hb).e.toRs.row hp
    have zb := cell_next hb nb b0
    have zi := cell_next hb ni i0
    clear hp
    have x0 := q1 0 _ rfl
    have y0 := q2 0 _ rfl
    have x1 := q1 1 _ rfl
    have y1 := q2 1 _ rfl
    simp only [Nat.add_zero] at x0 y0
    clear q1 q2 HU HV
    go_wp2_with fail
    go_quiet (fail)
    go_wp2_with fail
    go_roundw
    case rel => exact ⟨k + 1, by omega, by go_num, below_drewN hb _⟩
    case measure => simp [RowKit.intOf]; omega
   ·obtain rfl : n1 = k := by omega
    clear hlt hk
    obtain ⟨V13, hW⟩ : ∃ W, W = wr := ⟨_, rfl⟩
    subst hW
    replace HU := Lib.hid (HU.out.next hb)
    replace b0 := cell_next hb nb b0
    replace b1 := cell_next hb nb b1
    replace b2 := cell_next hb nb b2
    replace b3 := cell_next hb nb b3
    replace b4 := cell_next hb nb b4
    replace nb := Nat.lt_of_lt_of_le nb hb.size
    replace t0 := cell_next hb nt t0
    replace t1 := cell_next hb nt t1
    replace nt := Nat.lt_of_lt_of_le nt hb.size
    replace j0 := cell_next hb nj j0
    replace j1 := cell_next hb nj j1
    replace nj := Nat.lt_of_lt_of_le nj hb.size
    replace i0 := cell_next hb ni i0
    replace i1 := cell_next hb ni i1
    replace i2 := cell_next hb ni i2
    replace i3 := cell_next hb ni i3
    replace i4 := cell_next hb ni i4
    replace ni := Nat.lt_of_lt_of_le ni hb.size
    replace d0 := cell_next hb nd d0
    replace d1 := cell_next hb nd d1
    replace nd := Nat.lt_of_lt_of_le nd hb.size
    replace l0 := cell_next hb nl l0
    replace l1 := cell_next hb nl l1
    replace nl := Nat.lt_of_lt_of_le nl hb.size
    replace hB := hB.trans (hb.mono hB.size)
    clear hb
    go_wp2_with fail
    go_loopw [14] (fun i wr => ∃ k : Nat, k ≤ n3 ∧ i = .int .i64 k ∧ Below V13.heap.size V13 wr) (fun i _ => n3 - (RowKit.intOf i).toNat)
    case atStart => exact ⟨0, Nat.zero_le _, rfl, Below.refl _ _⟩
    case round =>
     obtain ⟨k, hk, rfl, hb⟩ := hrel
     by_cases hlt : (k : Int) < (n3 : Int)
     ·obtain ⟨p, hp⟩ : ∃ p, ps[k]? = some p := ⟨_, List.getElem?_eq_getElem (by rw [N3.out]; omega)⟩
      obtain ⟨g1, o1, rfl, h1, q1⟩ := (HV.out.next (hB.trans (hb.mono hB.size))).p.row hp
      obtain ⟨g2, o2, rfl, h2, q2⟩ := (HU.out.next hb).p.row hp
      have zb := cell_next hb nb b4
      have zi := cell_next hb ni i4
      clear hp
      have x0 := q1 0 _ rfl
      have y0 := q2 0 _ rfl
      have x1 := q1 1 _ rfl
      have y1 := q2 1 _ rfl
      have x2 := q1 2 _ rfl
      have y2 := q2 2 _ rfl
      have x3 := q1 3 _ rfl
      have y3 := q2 3 _ rfl
      have x4 := q1 4 _ rfl
      have y4 := q2 4 _ rfl
      have x5 := q1 5 _ rfl
      have y5 := q2 5 _ rfl
      have x6 := q1 6 _ rfl
      have y6 := q2 6 _ rfl
      have x7 := q1 7 _ rfl
      have y7 := q2 7 _ rfl
      simp only [Nat.add_zero] at x0 y0
      clear q1 q2 HU HV
      go_wp2_with fail
      go_quiet (fail)
      go_wp2_with fail
      go_roundw
      case rel => exact ⟨k + 1, by omega, by go_num, below_drewN hb _⟩
      case measure => simp [RowKit.intOf]; omega
     ·obtain rfl : n3 = k := by omega
      clear hlt hk
      obtain ⟨V14, hW⟩ : ∃ W, W = wr := ⟨_, rfl⟩
      subst hW
      replace HU := Lib.hid (HU.out.next hb)
      replace b0 := cell_next hb nb b0
      replace b1 := cell_next hb nb b1
      replace b2 := cell_next hb nb b2
      replace b3 := cell_next hb nb b3
      replace b4 := cell_next hb nb b4
      replace nb := Nat.lt_of_lt_of_le nb hb.size
      replace t0 := cell_next hb nt t0
      replace t1 := cell_next hb nt t1
      replace nt := Nat.lt_of_lt_of_le nt hb.size
      replace j0 := cell_next hb nj j0
      replace j1 := cell_next hb nj j1
      replace nj := Nat.lt_of_lt_of_le nj hb.size
      replace i0 := cell_next hb ni i0
      replace i1 := cell_next hb ni i1
      replace i2 := cell_next hb ni i2
      replace i3 := cell_next hb ni i3
      replace i4 := cell_next hb ni i4
      replace ni := Nat.lt_of_lt_of_le ni hb.size
      replace d0 := cell_next hb nd d0
      replace d1 := cell_next hb nd d1
      replace nd := Nat.lt_of_lt_of_le nd hb.size
      replace l0 := cell_next hb nl l0
      replace l1 := cell_next hb nl l1
      replace nl := Nat.lt_of_lt_of_le nl hb.size
      replace hB := hB.trans (hb.mono hB.size)
      clear hb
      clear HU HV
      go_wp2_with fail
      refine (F1.out hl _ hB).mono ?_
      rintro e W7 ⟨rfl, hb⟩
      replace b0 := cell_next hb nb b0
      replace b1 := cell_next hb nb b1
      replace b2 := cell_next hb nb b2
      replace b3 := cell_next hb nb b3
      replace b4 := cell_next hb nb b4
      replace nb := Nat.lt_of_lt_of_le nb hb.size
      replace t0 := cell_next hb nt t0
      replace t1 := cell_next hb nt t1
      replace nt := Nat.lt_of_lt_of_le nt hb.size
      replace j0 := cell_next hb nj j0
      replace j1 := cell_next hb nj j1
      replace nj := Nat.lt_of_lt_of_le nj hb.size
      replace i0 := cell_next hb ni i0
      replace i1 := cell_next hb ni i1
      replace i2 := cell_next hb ni i2
      replace i3 := cell_next hb ni i3
      replace i4 := cell_next hb ni i4
      replace ni := Nat.lt_of_lt_of_le ni hb.size
      replace d0 := cell_next hb nd d0
      replace d1 := cell_next hb nd d1
      replace nd := Nat.lt_of_lt_of_le nd hb.size
      replace l0 := cell_next hb nl l0
      replace l1 := cell_next hb nl l1
      replace nl := Nat.lt_of_lt_of_le nl hb.size
      replace hB := hB.trans (hb.mono hB.size)
      clear hb
      cases z2
      ·obtain ⟨rfl, rfl, rfl, rfl⟩ := HZ.out (by simp)
       obtain rfl := P0.out (by simp)
       go_wp2_with fail
       refine (CK.out _).mono ?_
       rintro e W8 ⟨rfl, hb⟩
       replace b0 := cell_next hb nb b0
       replace b1 := cell_next hb nb b1
       replace b2 := cell_next hb nb b2
       replace b3 := cell_next hb nb b3
       replace b4 := cell_next hb nb b4
       replace nb := Nat.lt_of_lt_of_le nb hb.size
       replace t0 := cell_next hb nt t0
       replace t1 := cell_next hb nt t1
       replace nt := Nat.lt_of_lt_of_le nt hb.size
       replace j0 := cell_next hb nj j0
       replace j1 := cell_next hb nj j1
       replace nj := Nat.lt_of_lt_of_le nj hb.size
       replace i0 := cell_next hb ni i0
       replace i1 := cell_next hb ni i1
       replace i2 := cell_next hb ni i2
       replace i3 := cell_next hb ni i3
       replace i4 := cell_next hb ni i4
       replace ni := Nat.lt_of_lt_of_le ni hb.size
       replace d0 := cell_next hb nd d0
       replace d1 := cell_next hb nd d1
       replace nd := Nat.lt_of_lt_of_le nd hb.size
       replace l0 := cell_next hb nl l0
       replace l1 := cell_next hb nl l1
       replace nl := Nat.lt_of_lt_of_le nl hb.size
       replace hB := hB.trans (hb.mono hB.size)
       clear hb
       go_wp2_with fail
       go_ret
       exact ⟨rfl, hB⟩
      ·obtain rfl := P1.out (by simp)
       replace F2 := Lib.hid (F2.out (by simp))
       replace F3 := Lib.hid (F3.out (by simp))
       clear HZ F1 hl N1 N2 N3
       go_wp2_with fail
       refine (F2.out _ hB).mono ?_
       rintro e W8 ⟨rfl, hb⟩
       replace b0 := cell_next hb nb b0
       replace b1 := cell_next hb nb b1
       replace b2 := cell_next hb nb b2
       replace b3 := cell_next hb nb b3
       replace b4 := cell_next hb nb b4
       replace nb := Nat.lt_of_lt_of_le nb hb.size
       replace t0 := cell_next hb nt t0
       replace t1 := cell_next hb nt t1
       replace nt := Nat.lt_of_lt_of_le nt hb.size
       replace j0 := cell_next hb nj j0
       replace j1 := cell_next hb nj j1
       replace nj := Nat.lt_of_lt_of_le nj hb.size
       replace i0 := cell_next hb ni i0
       replace i1 := cell_next hb ni i1
       replace i2 := cell_next hb ni i2
       replace i3 := cell_next hb ni i3
       replace i4 := cell_next hb ni i4
       replace ni := Nat.lt_of_lt_of_le ni hb.size
       replace d0 := cell_next hb nd d0
       replace d1 := cell_next hb nd d1
       replace nd := Nat.lt_of_lt_of_le nd hb.size
       replace l0 := cell_next hb nl l0
       replace l1 := cell_next hb nl l1
       replace nl := Nat.lt_of_lt_of_le nl hb.size
       replace hB := hB.trans (hb.mono hB.size)
       clear hb
       go_wp2_with fail
       refine (F3.out _ (hB.alloc hB.size _)).mono ?_
       rintro e W9 ⟨rfl, hb⟩
       replace b0 := cell_next (below1 hb) nb b0
       replace b1 := cell_next (below1 hb) nb b1
       replace b2 := cell_next (below1 hb) nb b2
       replace b3 := cell_next (below1 hb) nb b3
       replace b4 := cell_next (below1 hb) nb b4
       replace nb := Nat.lt_of_lt_of_le nb (below1 hb).size
       replace t0 := cell_next (below1 hb) nt t0
       replace t1 := cell_next (below1 hb) nt t1
       replace nt := Nat.lt_of_lt_of_le nt (below1 hb).size
       replace j0 := cell_next (below1 hb) nj j0
       replace j1 := cell_next (below1 hb) nj j1
       replace nj := Nat.lt_of_lt_of_le nj (below1 hb).size
       replace i0 := cell_next (below1 hb) ni i0
       replace i1 := cell_next (below1 hb) ni i1
       replace i2 := cell_next (below1 hb) ni i2
       replace i3 := cell_next (below1 hb) ni i3
       replace i4 := cell_next (below1 hb) ni i4
       replace ni := Nat.lt_of_lt_of_le ni (below1 hb).size
       replace d0 := cell_next (below1 hb) nd d0
       replace d1 := cell_next (below1 hb) nd d1
       replace nd := Nat.lt_of_lt_of_le nd (below1 hb).size
       replace l0 := cell_next (below1 hb) nl l0
       replace l1 := cell_next (below1 hb) nl l1
       replace nl := Nat.lt_of_lt_of_le nl (below1 hb).size
       have m0 := cell_next hb (b := W8.heap.size) (o := 0) (by simp <;> omega) (v := some (.int .i64 (R1.1))) (by simp [go_sem])
       have m1 := cell_next hb (b := W8.heap.size) (o := 1) (by simp <;> omega) (v := some (.int .i64 (R1.2))) (by simp [go_sem])
       have nm : W8.heap.size < W9.heap.size := by have := hb.size; simp at this; omega
       replace hB := hB.trans ((below1 hb).mono hB.size)
       clear hb
       generalize W8.heap.size = q9 at *
       go_wp2_with fail
       refine (CK.out _).mono ?_
       rintro e W10 ⟨rfl, hb⟩
       replace b0 := cell_next (below1 hb) nb b0
       replace b1 := cell_next (below1 hb) nb b1
       replace b2 := cell_next (below1 hb) nb b2
       replace b3 := cell_next (below1 hb) nb b3
       replace b4 := cell_next (below1 hb) nb b4
       replace nb := Nat.lt_of_lt_of_le nb (below1 hb).size
       replace t0 := cell_next (below1 hb) nt t0
       replace t1 := cell_next (below1 hb) nt t1
       replace nt := Nat.lt_of_lt_of_le nt (below1 hb).size
       replace j0 := cell_next (below1 hb) nj j0
       replace j1 := cell_next (below1 hb) nj j1
       replace nj := Nat.lt_of_lt_of_le nj (below1 hb).size
       replace i0 := cell_next (below1 hb) ni i0
       replace i1 := cell_next (below1 hb) ni i1
       replace i2 := cell_next (below1 hb) ni i2
       replace i3 := cell_next (below1 hb) ni i3
       replace i4 := cell_next (below1 hb) ni i4
       replace ni := Nat.lt_of_lt_of_le ni (below1 hb).size
       replace d0 := cell_next (below1 hb) nd d0
       replace d1 := cell_next (below1 hb) nd d1
       replace nd := Nat.lt_of_lt_of_le nd (below1 hb).size
       replace l0 := cell_next (below1 hb) nl l0
       replace l1 := cell_next (below1 hb) nl l1
       replace nl := Nat.lt_of_lt_of_le nl (below1 hb).size
       replace m0 := cell_next (below1 hb) nm m0
       replace m1 := cell_next (below1 hb) nm m1
       replace nm := Nat.lt_of_lt_of_le nm (below1 hb).size
       have f0 := cell_next hb (b := W9.heap.size) (o := 0) (by simp <;> omega) (v := some (.int .i64 (R2.1))) (by simp [go_sem])
       have f1 := cell_next hb (b := W9.heap.size) (o := 1) (by simp <;> omega) (v := some (.int .i64 (R2.2))) (by simp [go_sem])
       have nf : W9.heap.size < W10.heap.size := by have := hb.size; simp at this; omega
       replace hB := hB.trans ((below1 hb).mono hB.size)
       clear hb
       generalize W9.heap.size = q10 at *
       go_wp2_with fail
       go_ret
       exact ⟨rfl, hB⟩
 ·go_wp2_with fail
  refine (CK.out _).mono ?_
  rintro e W2 ⟨rfl, hb⟩
  replace b0 := cell_next hb nb b0
  replace b1 := cell_next hb nb b1
  replace b2 := cell_next hb nb b2
  replace b3 := cell_next hb nb b3
  replace b4 := cell_next hb nb b4
  replace nb := Nat.lt_of_lt_of_le nb hb.size
  replace t0 := cell_next hb nt t0
  replace t1 := cell_next hb nt t1
  replace nt := Nat.lt_of_lt_of_le nt hb.size
  replace j0 := cell_next hb nj j0
  replace j1 := cell_next hb nj j1
  replace nj := Nat.lt_of_lt_of_le nj hb.size
  replace hB := hB.trans (hb.mono hB.size)
  clear hb
  go_wp2_with fail
  go_ret
  exact ⟨rfl, hB⟩
end Go.Proofs.YtjmgmjaeknanaaaGreat
