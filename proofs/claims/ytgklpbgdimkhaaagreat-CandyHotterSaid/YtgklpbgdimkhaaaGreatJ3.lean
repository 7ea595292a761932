/- Contracts of package candy: Check, least, boiling, Dense. -/
import Derived.Test.YtgklpbgdimkhaaaGreatJ2
import Derived.Test.YtgklpbgdimkhaaaGreatKA8
namespace Go.Proofs.YtgklpbgdimkhaaaGreat
open Go.RowKit Go.Lib Go.Shelf
set_option linter.unusedVariables false
set_option linter.unusedSimpArgs false
attribute [local go_sem ↓] Go.wp_at_zero Go.wp_at_succ


/-- candy's rules -/
structure Cr where
 xs : List (Int × Int)
 ys : List (Int × Int)
 bl : Int
 bh : Int
 ps : List Pd
def crB (R : Cr) : Bool := elB R.xs && slB R.ys && rgB 0 2000 R.bl R.bh && inB 1 8 R.ps.length && !(R.ps.any fun x => !pdB x)
/-- the rules in memory: their three slices -/
structure CrAt (B : Nat) (w : World) (v1 v2 v3 : Value) (R : Cr) : Prop where
 e : SetAt B w v1 R.xs
 s : SetAt B w v2 R.ys
 p : RsAt 8 cPd B w v3 R.ps
theorem CrAt.below {B B' : Nat} {w w' : World} {v1 v2 v3 : Value} {R : Cr} (h : CrAt B w v1 v2 v3 R) (hb : Below B' w w') (hB : B ≤ B') : CrAt B w' v1 v2 v3 R := ⟨h.e.below hb hB, h.s.below hb hB, h.p.below hb hB⟩
theorem CrAt.mono {B B' : Nat} {w : World} {v1 v2 v3 : Value} {R : Cr} (h : CrAt B w v1 v2 v3 R) (hB : B ≤ B') : CrAt B' w v1 v2 v3 R := ⟨h.e.mono hB, h.s.mono hB, h.p.mono hB⟩
theorem CrAt.next {w w' : World} {v1 v2 v3 : Value} {R : Cr} (h : CrAt w.heap.size w v1 v2 v3 R) (hb : Below w.heap.size w w') : CrAt w'.heap.size w' v1 v2 v3 R := (h.below hb (Nat.le_refl _)).mono hb.size
def cCr (v1 v2 v3 : Value) (R : Cr) : List Value := [v1, v2, .int .i64 R.bl, .int .i64 R.bh, v3]
theorem CrAt.slices {B : Nat} {w : World} {v1 v2 v3 : Value} {R : Cr} (h : CrAt B w v1 v2 v3 R) : ∃ A1 c1 A2 c2 A3 c3, v1 = .slice A1 R.xs.length c1 ∧ v2 = .slice A2 R.ys.length c2 ∧ v3 = .slice A3 R.ps.length c3 := by
 obtain ⟨A1, c1, h1⟩ := h.e.slice
 obtain ⟨A2, c2, h2⟩ := h.s.slice
 obtain ⟨A3, c3, h3⟩ := h.p.slice
 exact ⟨A1, c1, A2, c2, A3, c3, h1, h2, h3⟩

set_option maxRecDepth 20000 in
set_option maxHeartbeats 1000000 in
theorem jCheck_any (v1 v2 v3 : Value) (R : Cr) (w : World) (hv : CrAt w.heap.size w v1 v2 v3 R) : Calls Tryz.prog 13 #[.agg (cCr v1 v2 v3 R).toArray] w fun e w' => e = .returned (.int .i64 (if crB R then 0 else 2)) ∧ Below w.heap.size w w' := by
 have C1 := Lib.hid (fun (W : World) (h : Below w.heap.size w W) => vElev_any v1 R.xs W (hv.next h).e)
 have C2 := Lib.hid (fun (W : World) (h : Below w.heap.size w W) => vSol_any v2 R.ys W (hv.next h).s)
 have C3 := Lib.hid (fun (W : World) (g c : Nat) => lie1v_any 0 2000 R.bl R.bh g c W)
 have C4 := Lib.hid (fun (W : World) (g c : Nat) => jin1v_any 1 8 (R.ps.length : Int) g c W)
 have C5 := Lib.hid (fun (hz : inB 1 8 (R.ps.length : Int) = true) (W : World) (h : Below w.heap.size w W) => jpany_any v3 R.ps W (by simp [inB] at hz; omega) (hv.next h).p (fun x W' h' => wProduct_any x W'))
 have hr : Hid (crB R = (elB R.xs && slB R.ys && rgB 0 2000 R.bl R.bh && inB 1 8 R.ps.length && !(R.ps.any fun x => !pdB x))) := Lib.hid rfl
 rw [hr.out]
 clear hr
 obtain ⟨A1, c1, A2, c2, A3, c3, rfl, rfl, rfl⟩ := hv.slices
 clear hv
 obtain ⟨xs, ys, bl, bh, ps⟩ := R
 dsimp only [cCr] at *
 generalize elB xs = z1 at *
 generalize slB ys = z2 at *
 generalize rgB 0 2000 bl bh = z3 at *
 generalize ps.any (fun x => !pdB x) = z5 at *
 obtain ⟨n, hn⟩ : ∃ n, ps.length = n := ⟨_, rfl⟩
 rw [hn] at C4 C5 ⊢
 obtain ⟨n1, hn1⟩ : ∃ n, xs.length = n := ⟨_, rfl⟩
 rw [hn1] at C1 ⊢
 obtain ⟨n2, hn2⟩ : ∃ n, ys.length = n := ⟨_, rfl⟩
 rw [hn2] at C2 ⊢
 generalize inB 1 8 (n : Int) = z4 at *
 clear hn hn1 hn2
 go_enter Tryz.func13, Tryz.ntmps13
 go_wp2_with fail
 refine (C1.out _ ((Below.refl _ _).alloc (Nat.le_refl _) _)).mono ?_
 rintro e W1 ⟨rfl, hb⟩
 have b0 := cell_next hb (b := w.heap.size) (o := 0) (by simp <;> omega) (v := some (.slice A1 n1 c1)) (by simp [go_sem])
 have b1 := cell_next hb (b := w.heap.size) (o := 1) (by simp <;> omega) (v := some (.slice A2 n2 c2)) (by simp [go_sem])
 have b2 := cell_next hb (b := w.heap.size) (o := 2) (by simp <;> omega) (v := some (.int .i64 bl)) (by simp [go_sem])
 have b3 := cell_next hb (b := w.heap.size) (o := 3) (by simp <;> omega) (v := some (.int .i64 bh)) (by simp [go_sem])
 have b4 := cell_next hb (b := w.heap.size) (o := 4) (by simp <;> omega) (v := some (.slice A3 n c3)) (by simp [go_sem])
 have nb : w.heap.size < W1.heap.size := by have := hb.size; simp at this; omega
 have hB := (below1 hb)
 clear hb
 cases z1
 ·go_wp2_with fail
  go_ret
  exact ⟨by simp, hB⟩
 ·go_wp2_with fail
  refine (C2.out _ hB).mono ?_
  rintro e W2 ⟨rfl, hb⟩
  replace b0 := cell_next hb nb b0
  replace b1 := cell_next hb nb b1
  replace b2 := cell_next hb nb b2
  replace b3 := cell_next hb nb b3
  replace b4 := cell_next hb nb b4
  replace nb := Nat.lt_of_lt_of_le nb hb.size
  replace hB := hB.trans (hb.mono hB.size)
  clear hb
  cases z2
  ·go_wp2_with fail
   go_ret
   exact ⟨by simp, hB⟩
  ·go_wp2_with fail
   refine (C3.out _ _ _ (by simp) (by simp [go_sem]) (by simp [go_sem])).mono ?_
   rintro e W3 ⟨rfl, hb⟩
   replace b0 := cell_next (below1 hb) nb b0
   replace b1 := cell_next (below1 hb) nb b1
   replace b2 := cell_next (below1 hb) nb b2
   replace b3 := cell_next (below1 hb) nb b3
   replace b4 := cell_next (below1 hb) nb b4
   replace nb := Nat.lt_of_lt_of_le nb (below1 hb).size
   replace hB := hB.trans ((below1 hb).mono hB.size)
   clear hb
   generalize W2.heap.size = q3 at *
   cases z3
   ·go_wp2_with fail
    go_ret
    exact ⟨by simp, hB⟩
   ·go_wp2_with fail
    refine (C4.out _ _ _ (by simp) (by simp [go_sem])).mono ?_
    rintro e W4 ⟨rfl, hb⟩
    replace b0 := cell_next (below1 hb) nb b0
    replace b1 := cell_next (below1 hb) nb b1
    replace b2 := cell_next (below1 hb) nb b2
    replace b3 := cell_next (below1 hb) nb b3
    replace b4 := cell_next (below1 hb) nb b4
    replace nb := Nat.lt_of_lt_of_le nb (below1 hb).size
    replace hB := hB.trans ((below1 hb).mono hB.size)
    clear hb
    generalize W3.heap.size = q4 at *
    cases z4
    ·go_wp2_with fail
     go_ret
     exact ⟨by simp, hB⟩
    ·go_wp2_with fail
     refine (C5.out (by simp) _ hB).mono ?_
     rintro e W5 ⟨rfl, hb⟩
     replace b0 := cell_next hb nb b0
     replace b1 := cell_next hb nb b1
     replace b2 := cell_next hb nb b2
     replace b3 := cell_next hb nb b3
     replace b4 := cell_next hb nb b4
     replace nb := Nat.lt_of_lt_of_le nb hb.size
     replace hB := hB.trans (hb.mono hB.size)
     clear hb
     cases z5
     ·go_wp2_with fail
      go_ret
      exact ⟨by simp, hB⟩
     ·go_wp2_with fail
      go_ret
      exact ⟨by simp, hB⟩

theorem crB_ok {R : Cr} (h : crB R = true) : ElOk R.xs ∧ slB R.ys = true ∧ (0 ≤ R.bl ∧ R.bl ≤ R.bh ∧ R.bh ≤ 2000) ∧ (1 ≤ R.ps.length ∧ R.ps.length ≤ 8) ∧ ∀ p ∈ R.ps, pdB p = true := by
 simp only [crB, Bool.and_eq_true, Bool.not_eq_true', List.any_eq_false] at h
 obtain ⟨⟨⟨⟨h1, h2⟩, h3⟩, h4⟩, h5⟩ := h
 refine ⟨elB_ok h1, h2, ?_, ?_, fun p hp => by have := h5 p hp; simpa using this⟩
 ·have := rgB_of h3; omega
 ·simp [inB] at h4; omega

set_option maxRecDepth 20000 in
set_option maxHeartbeats 1000000 in
theorem least_any (b : Nat) (xs : List (Int × Int)) (v1 : Value) (h : Int) (w : World) (he : ElOk xs) (hh : -4000 ≤ h ∧ h ≤ 2000) (hb : b < w.heap.size) (h0 : w.cell? ⟨b, 10, none⟩ = some v1) (hv : SetAt w.heap.size w v1 xs) :
  Calls Tryz.prog 88 #[.pointer (some ⟨b, 0, none⟩), .int .i64 h] w fun e w' => e = .returned (.tuple #[.int .i64 (if dnF xs h ≤ ltX xs then dnF xs h else 0), .bool (decide (dnF xs h ≤ ltX xs))]) ∧ Below w.heap.size w w' := by
 have C1 := Lib.hid (fun (W : World) (hw : Below w.heap.size w W) => where_any v1 xs h 2000 W ((hv.below hw (Nat.le_refl _)).mono hw.size))
 have hf := wh_first he h hh.2
 have ht : tabE xs = 0 := tabE_of he.tab
 have hy : vrB h 2000 = true := by simp [vrB]; omega
 have e1 : whE xs h 2000 = 0 := by unfold whE; rw [if_pos ht, if_pos hy]
 have e2 : whR xs h 2000 = whV xs h 2000 := by unfold whR; rw [if_pos e1]
 rw [e1, e2] at C1
 obtain ⟨A1, c1, rfl⟩ := hv.slice
 generalize whV xs h 2000 = L at *
 clear hv ht hy e1 e2 he hh
 rcases L with _ | ⟨⟨r1, r2⟩, L⟩
 ·rw [if_neg (by omega), decide_eq_false (by omega)]
  clear hf
  go_enter Tryz.func88, Tryz.ntmps88
  go_wp2_with fail
  refine (C1.out _ (Below.refl _ _)).mono ?_
  rintro e w1 ⟨u, rfl, ho, hB⟩
  obtain ⟨A, c, rfl, _⟩ := (own_row [] 0 rfl u w1 ho)
  clear ho
  go_wp2_with fail
  go_ret2
  exact ⟨rfl, hB⟩
 ·dsimp only at hf
  rw [if_pos (by omega), decide_eq_true (by omega), hf.1]
  clear hf
  go_enter Tryz.func88, Tryz.ntmps88
  go_wp2_with fail
  refine (C1.out _ (Below.refl _ _)).mono ?_
  rintro e w1 ⟨u, rfl, ho, hB⟩
  obtain ⟨A, c, rfl, hr⟩ := (own_row ((r1, r2) :: L) _ rfl u w1 ho)
  obtain ⟨g, off, rfl, hg, hc⟩ := hr.2 (by simp)
  have q0 : w1.cell? ⟨g, off, none⟩ = some (.int .i64 r1) := by simpa using (hc 0 (r1, r2) rfl).1
  have hln : ((((r1, r2) :: L).length : Int) == 0) = false := by simp <;> omega
  have hlp : (0 : Int) < (((r1, r2) :: L).length : Int) := by simp <;> omega
  generalize ((r1, r2) :: L).length = n at *
  clear ho hr hc
  go_wp2_with fail
  go_ret2
  exact ⟨rfl, hB⟩

theorem dnE_ok {xs : List (Int × Int)} {bl bh tl th : Int} (h : rgB (-2000) 2000 tl th = true) (hd : dnF xs (th - bl) ≤ ltX xs) : dnE xs bl bh tl th = 0 ∧ dnR xs bl bh tl th = (dnF xs (tl - bh), dnF xs (th - bl)) := by
 have e : dnE xs bl bh tl th = 0 := by unfold dnE; rw [if_pos h, if_pos hd]
 exact ⟨e, by unfold dnR; rw [if_pos e]⟩
theorem dnE_none {xs : List (Int × Int)} {bl bh tl th : Int} (h : rgB (-2000) 2000 tl th = true) (hd : ¬ dnF xs (th - bl) ≤ ltX xs) : dnE xs bl bh tl th = 7 ∧ dnR xs bl bh tl th = (0, 0) := by
 have e : dnE xs bl bh tl th = 7 := by unfold dnE; rw [if_pos h, if_neg hd]
 exact ⟨e, by unfold dnR; rw [e]; rfl⟩
theorem dnE_bad {xs : List (Int × Int)} {bl bh tl th : Int} (h : rgB (-2000) 2000 tl th = false) : dnE xs bl bh tl th = 2 ∧ dnR xs bl bh tl th = (0, 0) := by
 have e : dnE xs bl bh tl th = 2 := by unfold dnE; rw [h]; rfl
 exact ⟨e, by unfold dnR; rw [e]; rfl⟩
set_option maxRecDepth 20000 in
set_option maxHeartbeats 2000000 in
theorem boiling_any (b : Nat) (xs : List (Int × Int)) (v1 : Value) (bl bh tl th : Int) (w : World) (he : ElOk xs) (hb0 : 0 ≤ bl ∧ bl ≤ bh ∧ bh ≤ 2000) (np : b < w.heap.size) (p10 : w.cell? ⟨b, 10, none⟩ = some v1) (p12 : w.cell? ⟨b, 12, none⟩ = some (.int .i64 bl)) (p13 : w.cell? ⟨b, 13, none⟩ = some (.int .i64 bh)) (hv : SetAt w.heap.size w v1 xs) :
  Calls Tryz.prog 47 #[.pointer (some ⟨b, 0, none⟩), .agg #[.int .i64 tl, .int .i64 th]] w fun e w' => e = .returned (.tuple #[.agg #[.int .i64 (dnR xs bl bh tl th).1, .int .i64 (dnR xs bl bh tl th).2], .int .i64 (dnE xs bl bh tl th)]) ∧ Below w.heap.size w w' := by
 have C1 := Lib.hid (fun (W : World) (g c : Nat) => lie1v_any (-2000) 2000 tl th g c W)
 have C2 := Lib.hid (fun (hz : rgB (-2000) 2000 tl th = true) (W : World) (h : Below w.heap.size w W) => least_any b xs v1 (th - bl) W he (by have := rgB_of hz; omega) (Nat.lt_of_lt_of_le np h.size) (cell_next h np p10) ((hv.below h (Nat.le_refl _)).mono h.size))
 have C3 := Lib.hid (fun (hz : rgB (-2000) 2000 tl th = true) (W : World) (h : Below w.heap.size w W) => least_any b xs v1 (tl - bh) W he (by have := rgB_of hz; omega) (Nat.lt_of_lt_of_le np h.size) (cell_next h np p10) ((hv.below h (Nat.le_refl _)).mono h.size))
 have HM := Lib.hid (fun (hz : rgB (-2000) 2000 tl th = true) => dnF_mono he.tab (show tl - bh ≤ th - bl by have := rgB_of hz; omega))
 have HW := Lib.hid (fun (hz : rgB (-2000) 2000 tl th = true) => (⟨IntWalk.i64_in _ (by have := rgB_of hz; omega), IntWalk.i64_in _ (by have := rgB_of hz; omega)⟩ : IntKind.i64.wrap (th - bl) = th - bl ∧ IntKind.i64.wrap (tl - bh) = tl - bh))
 have D1 := Lib.hid (@dnE_ok xs bl bh tl th)
 have D2 := Lib.hid (@dnE_none xs bl bh tl th)
 have D3 := Lib.hid (@dnE_bad xs bl bh tl th)
 clear hv
 obtain ⟨d1, hd1⟩ : ∃ d, dnF xs (th - bl) = d := ⟨_, rfl⟩
 obtain ⟨d2, hd2⟩ : ∃ d, dnF xs (tl - bh) = d := ⟨_, rfl⟩
 rw [hd1] at C2 HM D1 D2
 rw [hd2] at C3 HM D1
 obtain ⟨E, hE⟩ : ∃ E, dnE xs bl bh tl th = E := ⟨_, rfl⟩
 obtain ⟨R, hR⟩ : ∃ R, dnR xs bl bh tl th = R := ⟨_, rfl⟩
 rw [hE, hR] at D1 D2 D3 ⊢
 generalize rgB (-2000) 2000 tl th = z1 at *
 generalize ltX xs = lt at *
 clear hd1 hd2 hE hR he
 go_enter Tryz.func47, Tryz.ntmps47
 go_wp2_with fail
 refine (C1.out _ _ _ (by simp) (by simp [go_sem]) (by simp [go_sem])).mono ?_
 rintro e W1 ⟨rfl, hb⟩
 replace p10 := cell_next (below3 hb) np p10
 replace p12 := cell_next (below3 hb) np p12
 replace p13 := cell_next (below3 hb) np p13
 replace np := Nat.lt_of_lt_of_le np (below3 hb).size
 have t0 := cell_next hb (b := w.heap.size) (o := 0) (by simp <;> omega) (v := some (.int .i64 tl)) (by simp [go_sem])
 have t1 := cell_next hb (b := w.heap.size) (o := 1) (by simp <;> omega) (v := some (.int .i64 th)) (by simp [go_sem])
 have nt : w.heap.size < W1.heap.size := by have := hb.size; simp at this; omega
 have r0 := cell_next hb (b := w.heap.size + 1) (o := 0) (by simp <;> omega) (v := some (.int .i64 0)) (by simp [go_sem])
 have fr0 := frozen_next hb (b := w.heap.size + 1) (o := 0) (by simp <;> omega) (v := false) (by simp [go_sem])
 have r1 := cell_next hb (b := w.heap.size + 1) (o := 1) (by simp <;> omega) (v := some (.int .i64 0)) (by simp [go_sem])
 have fr1 := frozen_next hb (b := w.heap.size + 1) (o := 1) (by simp <;> omega) (v := false) (by simp [go_sem])
 have nr : w.heap.size + 1 < W1.heap.size := by have := hb.size; simp at this; omega
 have hB := (below3 hb)
 clear hb
 cases z1
 ·obtain ⟨rfl, rfl⟩ := D3.out rfl
  clear D1 D2 D3 C2 C3 HM HW
  go_wp2_with fail
  refine bodyPost_ret (v := .tuple #[.agg #[.int .i64 0, .int .i64 0], .int .i64 2]) (by simp [results, Tryz.results47, go_sem, r0, r1, fr0, fr1]) rfl ⟨rfl, ?_⟩
  exact ((hB.setCell (p := ⟨w.heap.size + 1, 0, none⟩) (by simp <;> omega) _).setCell (p := ⟨w.heap.size + 1, 1, none⟩) (by simp <;> omega) _)
 ·obtain ⟨y1, y2⟩ := HW.out rfl
  have hm := HM.out rfl
  replace C2 := Lib.hid (C2.out rfl)
  replace C3 := Lib.hid (C3.out rfl)
  replace D1 := Lib.hid (D1.out rfl)
  replace D2 := Lib.hid (D2.out rfl)
  clear D3 HM HW
  go_wp2_with fail
  have hBW : W1.heap.size ≤ W1.heap.size := Nat.le_refl _
  refine wp_region_held_drew (S := fun w' => w'.cell? ⟨b, 12, none⟩ = some (.int .i64 bl) ∧ w'.cell? ⟨w.heap.size, 1, none⟩ = some (.int .i64 th) ∧ True) (by kernel_rfl) ?_ (fun hHeld => ?_)
  focus (exact ⟨p12, t1, trivial⟩)
  have hL : Below W1.heap.size W1 W1.drew := Below.drew (Below.refl _ _)
  replace p10 : W1.drew.cell? ⟨b, 10, none⟩ = some (v1) := p10
  replace p12 : W1.drew.cell? ⟨b, 12, none⟩ = some (.int .i64 bl) := p12
  replace p13 : W1.drew.cell? ⟨b, 13, none⟩ = some (.int .i64 bh) := p13
  replace t0 : W1.drew.cell? ⟨w.heap.size, 0, none⟩ = some (.int .i64 tl) := t0
  replace t1 : W1.drew.cell? ⟨w.heap.size, 1, none⟩ = some (.int .i64 th) := t1
  replace r0 : W1.drew.cell? ⟨w.heap.size + 1, 0, none⟩ = some (.int .i64 0) := r0
  replace fr0 : W1.drew.frozen? ⟨w.heap.size + 1, 0, none⟩ = false := fr0
  replace r1 : W1.drew.cell? ⟨w.heap.size + 1, 1, none⟩ = some (.int .i64 0) := r1
  replace fr1 : W1.drew.frozen? ⟨w.heap.size + 1, 1, none⟩ = false := fr1
  replace np : b < W1.drew.heap.size := np
  replace nt : w.heap.size < W1.drew.heap.size := nt
  replace nr : w.heap.size + 1 < W1.drew.heap.size := nr
  generalize hWd : W1.drew = wd2 at hHeld hL p10 p12 p13 t0 t1 r0 fr0 r1 fr1 np nt nr  ⊢
  clear hWd
  refine tq 0 16 ?_ ?_ ?_; rotate_left; (focus intro w h; (try dsimp only at h); go_simp; try with_reducible rfl); try simp only [sA, sB, sC]
  refine tq 1 17 ?_ ?_ ?_; rotate_left; (focus intro w h; (try dsimp only at h); go_simp; try with_reducible rfl); try simp only [sA, sB, sC]
  refine tq 2 18 ?_ ?_ ?_; rotate_left; (focus intro w h; (try dsimp only at h); go_simp; try with_reducible rfl); try simp only [sA, sB, sC]
  refine tq 3 19 ?_ ?_ ?_; rotate_left; (focus intro w h; (try dsimp only at h); go_simp; try with_reducible rfl); try simp only [sA, sB, sC]
  refine tq 4 20 ?_ ?_ ?_; rotate_left; (focus intro w h; (try dsimp only at h); go_simp; try with_reducible rfl); try simp only [sA, sB, sC]
  refine tq 5 21 ?_ ?_ ?_; rotate_left; (focus intro w h; (try dsimp only at h); go_simp; try with_reducible rfl); try simp only [sA, sB, sC]
  refine tq 6 22 ?_ ?_ ?_; rotate_left; (focus intro w h; (try dsimp only at h); go_simp; try with_reducible rfl); try simp only [sA, sB, sC]
  refine tq 7 23 ?_ ?_ ?_; rotate_left; (focus intro w h; (try dsimp only at h); go_simp; try with_reducible rfl); try simp only [sA, sB, sC]
  refine tq 8 24 ?_ ?_ ?_; rotate_left; (focus intro w h; (try dsimp only at h); go_simp; try with_reducible rfl); try simp only [sA, sB, sC]
  refine tq 9 25 ?_ ?_ ?_; rotate_left; (focus intro w h; (try dsimp only at h); go_simp; try with_reducible rfl); try simp only [sA, sB, sC]
  refine rd1 10 (fun K hK => ?_)
  go_simp
  refine (C2.out _ (hB.trans (hL.mono hB.size))).mono ?_
  rintro e Z2x1 ⟨rfl, hb⟩
  replace p10 := cell_next hb np p10
  replace p12 := cell_next hb np p12
  replace p13 := cell_next hb np p13
  replace t0 := cell_next hb nt t0
  replace t1 := cell_next hb nt t1
  replace r0 := cell_next hb nr r0
  replace fr0 := frozen_next hb nr fr0
  replace r1 := cell_next hb nr r1
  replace fr1 := frozen_next hb nr fr1
  replace np := Nat.lt_of_lt_of_le np hb.size
  replace nt := Nat.lt_of_lt_of_le nt hb.size
  replace nr := Nat.lt_of_lt_of_le nr hb.size
  replace hL := hL.trans (hb.mono (Nat.le_trans hBW hL.size))
  refine hK.out _ _ ⟨p12, t1, trivial⟩ (fun hHeld => ?_)
  clear hK K hb
  try simp only [Act.put, sA, sB, sC]
  refine tq 11 15 ?_ ?_ ?_; rotate_left; (focus intro w h; (try dsimp only at h); go_simp; try with_reducible rfl); try simp only [sA, sB, sC]
  refine tq 12 27 ?_ ?_ ?_; rotate_left; (focus intro w h; (try dsimp only at h); go_simp; try with_reducible rfl); try simp only [sA, sB, sC]
  refine tq 13 28 ?_ ?_ ?_; rotate_left; (focus intro w h; (try dsimp only at h); go_simp; try with_reducible rfl); try simp only [sA, sB, sC]
  refine tq 14 6 ?_ ?_ ?_; rotate_left; (focus intro w h; (try dsimp only at h); go_simp; try with_reducible rfl); try simp only [sA, sB, sC]
  refine tq 15 7 ?_ ?_ ?_; rotate_left; (focus intro w h; (try dsimp only at h); go_simp; try with_reducible rfl); try simp only [sA, sB, sC]
  refine wpAnyH_done (by kernel_rfl) ?_ _
  replace hB := hB.trans (hL.mono hB.size)
  clear hHeld hL hBW
  by_cases hle : d1 ≤ lt
  ·obtain ⟨rfl, rfl⟩ := D1.out (by omega)
   have e1 : decide (d1 ≤ lt) = true := decide_eq_true hle
   have e2 : d2 ≤ lt := by omega
   have e3 : decide (d2 ≤ lt) = true := decide_eq_true e2
   rw [if_pos e2] at C3
   rw [if_pos hle]
   clear D1 D2
   go_wp2_with fail
   have hBW : Z2x1.heap.size ≤ Z2x1.heap.size := Nat.le_refl _
   refine wp_region_held_drew (S := fun w' => w'.cell? ⟨b, 13, none⟩ = some (.int .i64 bh) ∧ w'.cell? ⟨w.heap.size, 0, none⟩ = some (.int .i64 tl) ∧ True) (by kernel_rfl) ?_ (fun hHeld => ?_)
   focus (exact ⟨p13, t0, trivial⟩)
   have hL : Below Z2x1.heap.size Z2x1 Z2x1.drew := Below.drew (Below.refl _ _)
   replace p10 : Z2x1.drew.cell? ⟨b, 10, none⟩ = some (v1) := p10
   replace p12 : Z2x1.drew.cell? ⟨b, 12, none⟩ = some (.int .i64 bl) := p12
   replace p13 : Z2x1.drew.cell? ⟨b, 13, none⟩ = some (.int .i64 bh) := p13
   replace t0 : Z2x1.drew.cell? ⟨w.heap.size, 0, none⟩ = some (.int .i64 tl) := t0
   replace t1 : Z2x1.drew.cell? ⟨w.heap.size, 1, none⟩ = some (.int .i64 th) := t1
   replace r0 : Z2x1.drew.cell? ⟨w.heap.size + 1, 0, none⟩ = some (.int .i64 0) := r0
   replace fr0 : Z2x1.drew.frozen? ⟨w.heap.size + 1, 0, none⟩ = false := fr0
   replace r1 : Z2x1.drew.cell? ⟨w.heap.size + 1, 1, none⟩ = some (.int .i64 0) := r1
   replace fr1 : Z2x1.drew.frozen? ⟨w.heap.size + 1, 1, none⟩ = false := fr1
   replace np : b < Z2x1.drew.heap.size := np
   replace nt : w.heap.size < Z2x1.drew.heap.size := nt
   replace nr : w.heap.size + 1 < Z2x1.drew.heap.size := nr
   generalize hWd : Z2x1.drew = wd3 at hHeld hL p10 p12 p13 t0 t1 r0 fr0 r1 fr1 np nt nr  ⊢
   clear hWd
   refine tq 0 33 ?_ ?_ ?_; rotate_left; (focus intro w h; (try dsimp only at h); go_simp; try with_reducible rfl); try simp only [sA, sB, sC]
   refine tq 1 34 ?_ ?_ ?_; rotate_left; (focus intro w h; (try dsimp only at h); go_simp; try with_reducible rfl); try simp only [sA, sB, sC]
   refine tq 2 35 ?_ ?_ ?_; rotate_left; (focus intro w h; (try dsimp only at h); go_simp; try with_reducible rfl); try simp only [sA, sB, sC]
   refine tq 3 36 ?_ ?_ ?_; rotate_left; (focus intro w h; (try dsimp only at h); go_simp; try with_reducible rfl); try simp only [sA, sB, sC]
   refine tq 4 37 ?_ ?_ ?_; rotate_left; (focus intro w h; (try dsimp only at h); go_simp; try with_reducible rfl); try simp only [sA, sB, sC]
   refine tq 5 38 ?_ ?_ ?_; rotate_left; (focus intro w h; (try dsimp only at h); go_simp; try with_reducible rfl); try simp only [sA, sB, sC]
   refine tq 6 39 ?_ ?_ ?_; rotate_left; (focus intro w h; (try dsimp only at h); go_simp; try with_reducible rfl); try simp only [sA, sB, sC]
   refine tq 7 40 ?_ ?_ ?_; rotate_left; (focus intro w h; (try dsimp only at h); go_simp; try with_reducible rfl); try simp only [sA, sB, sC]
   refine tq 8 41 ?_ ?_ ?_; rotate_left; (focus intro w h; (try dsimp only at h); go_simp; try with_reducible rfl); try simp only [sA, sB, sC]
   refine tq 9 42 ?_ ?_ ?_; rotate_left; (focus intro w h; (try dsimp only at h); go_simp; try with_reducible rfl); try simp only [sA, sB, sC]
   refine rd1 10 (fun K hK => ?_)
   go_simp
   refine (C3.out _ (hB.trans (hL.mono hB.size))).mono ?_
   rintro e Z3x1 ⟨rfl, hb⟩
   replace p10 := cell_next hb np p10
   replace p12 := cell_next hb np p12
   replace p13 := cell_next hb np p13
   replace t0 := cell_next hb nt t0
   replace t1 := cell_next hb nt t1
   replace r0 := cell_next hb nr r0
   replace fr0 := frozen_next hb nr fr0
   replace r1 := cell_next hb nr r1
   replace fr1 := frozen_next hb nr fr1
   replace np := Nat.lt_of_lt_of_le np hb.size
   replace nt := Nat.lt_of_lt_of_le nt hb.size
   replace nr := Nat.lt_of_lt_of_le nr hb.size
   replace hL := hL.trans (hb.mono (Nat.le_trans hBW hL.size))
   refine hK.out _ _ ⟨p13, t0, trivial⟩ (fun hHeld => ?_)
   clear hK K hb
   try simp only [Act.put, sA, sB, sC]
   refine tq 11 32 ?_ ?_ ?_; rotate_left; (focus intro w h; (try dsimp only at h); go_simp; try with_reducible rfl); try simp only [sA, sB, sC]
   refine tq 12 44 ?_ ?_ ?_; rotate_left; (focus intro w h; (try dsimp only at h); go_simp; try with_reducible rfl); try simp only [sA, sB, sC]
   refine tq 13 45 ?_ ?_ ?_; rotate_left; (focus intro w h; (try dsimp only at h); go_simp; try with_reducible rfl); try simp only [sA, sB, sC]
   refine tq 14 8 ?_ ?_ ?_; rotate_left; (focus intro w h; (try dsimp only at h); go_simp; try with_reducible rfl); try simp only [sA, sB, sC]
   refine tq 15 9 ?_ ?_ ?_; rotate_left; (focus intro w h; (try dsimp only at h); go_simp; try with_reducible rfl); try simp only [sA, sB, sC]
   refine wpAnyH_done (by kernel_rfl) ?_ _
   replace hB := hB.trans (hL.mono hB.size)
   clear hHeld hL hBW
   go_wp2_with fail
   refine bodyPost_ret (v := .tuple #[.agg #[.int .i64 d2, .int .i64 d1], .int .i64 0]) (by simp [results, Tryz.results47, go_sem, r0, r1, fr0, fr1]) rfl ⟨rfl, ?_⟩
   exact ((hB.setCell (p := ⟨w.heap.size + 1, 0, none⟩) (by simp <;> omega) _).setCell (p := ⟨w.heap.size + 1, 1, none⟩) (by simp <;> omega) _)
  ·obtain ⟨rfl, rfl⟩ := D2.out (by omega)
   rw [decide_eq_false hle]
   clear D1 D2 C3
   go_wp2_with fail
   refine bodyPost_ret (v := .tuple #[.agg #[.int .i64 0, .int .i64 0], .int .i64 7]) (by simp [results, Tryz.results47, go_sem, r0, r1, fr0, fr1]) rfl ⟨rfl, ?_⟩
   exact ((hB.setCell (p := ⟨w.heap.size + 1, 0, none⟩) (by simp <;> omega) _).setCell (p := ⟨w.heap.size + 1, 1, none⟩) (by simp <;> omega) _)

/-- Dense by rules that may be none -/
noncomputable def rdE (R : Cr) (tl th : Int) : Int := if crB R then dnE R.xs R.bl R.bh tl th else 2
noncomputable def rdR (R : Cr) (tl th : Int) : Int × Int := if crB R then dnR R.xs R.bl R.bh tl th else (0, 0)

set_option maxRecDepth 20000 in
set_option maxHeartbeats 1000000 in
theorem dense_any (v1 v2 v3 : Value) (R : Cr) (tl th : Int) (w : World) (hv : CrAt w.heap.size w v1 v2 v3 R) :
  Calls Tryz.prog 14 #[.agg (cCr v1 v2 v3 R).toArray, .agg #[.int .i64 tl, .int .i64 th]] w fun e w' => e = .returned (.tuple #[.agg #[.int .i64 (rdR R tl th).1, .int .i64 (rdR R tl th).2], .int .i64 (rdE R tl th)]) ∧ Below w.heap.size w w' := by
 have C1 := Lib.hid (fun (W : World) (h : Below w.heap.size w W) => jCheck_any v1 v2 v3 R W (hv.next h))
 have C2 := Lib.hid (fun (hz : crB R = true) (b : Nat) (W : World) (h : Below w.heap.size w W) (np : b < W.heap.size) h10 h12 h13 => boiling_any b R.xs v1 R.bl R.bh tl th W (crB_ok hz).1 (crB_ok hz).2.2.1 np h10 h12 h13 (hv.next h).e)
 have e1 : rdE R tl th = if crB R then dnE R.xs R.bl R.bh tl th else 2 := rfl
 have e2 : rdR R tl th = if crB R then dnR R.xs R.bl R.bh tl th else (0, 0) := rfl
 rw [e1, e2]
 clear e1 e2
 obtain ⟨A1, c1, A2, c2, A3, c3, rfl, rfl, rfl⟩ := hv.slices
 clear hv
 obtain ⟨xs, ys, bl, bh, ps⟩ := R
 dsimp only [cCr] at *
 generalize crB ⟨xs, ys, bl, bh, ps⟩ = z1 at *
 generalize dnE xs bl bh tl th = E at *
 generalize dnR xs bl bh tl th = D at *
 generalize xs.length = n1 at *
 generalize ys.length = n2 at *
 generalize ps.length = n3 at *
 go_enter Tryz.func14, Tryz.ntmps14
 go_wp2_with fail
 refine (C1.out _ ((((Below.refl _ _).alloc (Nat.le_refl _) _).alloc (by simp) _).alloc (by simp <;> omega) _)).mono ?_
 rintro e W1 ⟨rfl, hb⟩
 have s0 := cell_next hb (b := w.heap.size) (o := 0) (by simp <;> omega) (v := some (.slice A1 n1 c1)) (by simp [go_sem])
 have s1 := cell_next hb (b := w.heap.size) (o := 1) (by simp <;> omega) (v := some (.slice A2 n2 c2)) (by simp [go_sem])
 have s2 := cell_next hb (b := w.heap.size) (o := 2) (by simp <;> omega) (v := some (.int .i64 bl)) (by simp [go_sem])
 have s3 := cell_next hb (b := w.heap.size) (o := 3) (by simp <;> omega) (v := some (.int .i64 bh)) (by simp [go_sem])
 have s4 := cell_next hb (b := w.heap.size) (o := 4) (by simp <;> omega) (v := some (.slice A3 n3 c3)) (by simp [go_sem])
 have ns : w.heap.size < W1.heap.size := by have := hb.size; simp at this; omega
 have t0 := cell_next hb (b := w.heap.size + 1) (o := 0) (by simp <;> omega) (v := some (.int .i64 tl)) (by simp [go_sem])
 have t1 := cell_next hb (b := w.heap.size + 1) (o := 1) (by simp <;> omega) (v := some (.int .i64 th)) (by simp [go_sem])
 have nt : w.heap.size + 1 < W1.heap.size := by have := hb.size; simp at this; omega
 have r0 := cell_next hb (b := w.heap.size + 1 + 1) (o := 0) (by simp <;> omega) (v := some (.int .i64 0)) (by simp [go_sem])
 have fr0 := frozen_next hb (b := w.heap.size + 1 + 1) (o := 0) (by simp <;> omega) (v := false) (by simp [go_sem])
 have r1 := cell_next hb (b := w.heap.size + 1 + 1) (o := 1) (by simp <;> omega) (v := some (.int .i64 0)) (by simp [go_sem])
 have fr1 := frozen_next hb (b := w.heap.size + 1 + 1) (o := 1) (by simp <;> omega) (v := false) (by simp [go_sem])
 have nr : w.heap.size + 1 + 1 < W1.heap.size := by have := hb.size; simp at this; omega
 have hB := (below3 hb)
 clear hb
 cases z1
 ·go_wp2_with fail
  refine bodyPost_ret (v := .tuple #[.agg #[.int .i64 0, .int .i64 0], .int .i64 2]) (by simp [results, Tryz.results14, go_sem, r0, r1, fr0, fr1]) rfl ⟨rfl, ?_⟩
  exact ((hB.setCell (p := ⟨w.heap.size + 1 + 1, 0, none⟩) (by simp <;> omega) _).setCell (p := ⟨w.heap.size + 1 + 1, 1, none⟩) (by simp <;> omega) _)
 ·go_wp2_with fail
  refine (C2.out (by simp) _ _ (hB.alloc hB.size _) (by simp) (by simp [go_sem]) (by simp [go_sem]) (by simp [go_sem])).mono ?_
  rintro e W2 ⟨rfl, hb⟩
  replace s0 := cell_next (below1 hb) ns s0
  replace s1 := cell_next (below1 hb) ns s1
  replace s2 := cell_next (below1 hb) ns s2
  replace s3 := cell_next (below1 hb) ns s3
  replace s4 := cell_next (below1 hb) ns s4
  replace ns := Nat.lt_of_lt_of_le ns (below1 hb).size
  replace t0 := cell_next (below1 hb) nt t0
  replace t1 := cell_next (below1 hb) nt t1
  replace nt := Nat.lt_of_lt_of_le nt (below1 hb).size
  replace r0 := cell_next (below1 hb) nr r0
  replace fr0 := frozen_next (below1 hb) nr fr0
  replace r1 := cell_next (below1 hb) nr r1
  replace fr1 := frozen_next (below1 hb) nr fr1
  replace nr := Nat.lt_of_lt_of_le nr (below1 hb).size
  replace hB := hB.trans ((below1 hb).mono hB.size)
  clear hb
  generalize W1.heap.size = q2 at *
  go_wp2_with fail
  refine bodyPost_ret (v := .tuple #[.agg #[.int .i64 D.1, .int .i64 D.2], .int .i64 E]) (by simp [results, Tryz.results14, go_sem, r0, r1, fr0, fr1]) rfl ⟨rfl, ?_⟩
  exact ((hB.setCell (p := ⟨w.heap.size + 1 + 1, 0, none⟩) (by simp <;> omega) _).setCell (p := ⟨w.heap.size + 1 + 1, 1, none⟩) (by simp <;> omega) _)
end Go.Proofs.YtgklpbgdimkhaaaGreat
