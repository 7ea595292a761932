/- Contracts of package candy: valid products, solubilities, elevations; Check. -/
import Derived.Test.YtgklpbgdimkhaaaGreatKA9
import Derived.Test.YtgklpbgdimkhaaaGreatJ0
import Derived.Test.YtgklpbgdimkhaaaGreatKA4
namespace Go.Proofs.YtgklpbgdimkhaaaGreat
open Go.RowKit Go.Lib Go.Shelf
set_option linter.unusedVariables false
set_option linter.unusedSimpArgs false
attribute [local go_sem ↓] Go.wp_at_zero Go.wp_at_succ


/-- a product -/
structure Pd where
 dl : Int
 dh : Int
 sl : Int
 sh : Int
 tl : Int
 th : Int
 se : Int
 wo : Int
def cPd (p : Pd) : List Value := [.int .i64 p.dl, .int .i64 p.dh, .int .i64 p.sl, .int .i64 p.sh, .int .i64 p.tl, .int .i64 p.th, .int .i64 p.se, .int .i64 p.wo]
def pdB (p : Pd) : Bool := rgB 1 10000 p.dl p.dh && rgB (-2000) 2000 p.sl p.sh && rgB 0 1000 p.tl p.th && inB 0 1000000 p.se && inB 0 100000 p.wo

set_option maxRecDepth 20000 in
set_option maxHeartbeats 1000000 in
theorem vProduct_any (p : Pd) (w : World) : Calls Tryz.prog 41 #[.agg (cPd p).toArray] w fun e w' => e = .returned (.bool (pdB p)) ∧ Below w.heap.size w w' := by
 obtain ⟨dl, dh, sl, sh, tl, th, se, wo⟩ := p
 have C1 := Lib.hid (fun (W : World) (g c : Nat) => lie1v_any 1 10000 dl dh g c W)
 have C2 := Lib.hid (fun (W : World) (g c : Nat) => lie1v_any (-2000) 2000 sl sh g c W)
 have C3 := Lib.hid (fun (W : World) (g c : Nat) => lie1v_any 0 1000 tl th g c W)
 have C4 := Lib.hid (fun (W : World) (g c : Nat) => jin1v_any 0 1000000 se g c W)
 have C5 := Lib.hid (fun (W : World) (g c : Nat) => jin1v_any 0 100000 wo g c W)
 have hr : Hid (pdB ⟨dl, dh, sl, sh, tl, th, se, wo⟩ = (rgB 1 10000 dl dh && rgB (-2000) 2000 sl sh && rgB 0 1000 tl th && inB 0 1000000 se && inB 0 100000 wo)) := Lib.hid rfl
 rw [hr.out]
 dsimp only [cPd]
 clear hr
 generalize rgB 1 10000 dl dh = z1 at *
 generalize rgB (-2000) 2000 sl sh = z2 at *
 generalize rgB 0 1000 tl th = z3 at *
 generalize inB 0 1000000 se = z4 at *
 generalize inB 0 100000 wo = z5 at *
 go_enter Tryz.func41, Tryz.ntmps41
 go_wp2_with fail
 refine (C1.out _ _ _ (by simp) (by simp [go_sem]) (by simp [go_sem])).mono ?_
 rintro e W1 ⟨rfl, hb⟩
 have b0 := cell_next hb (b := w.heap.size) (o := 0) (by simp <;> omega) (v := some (.int .i64 dl)) (by simp [go_sem])
 have b1 := cell_next hb (b := w.heap.size) (o := 1) (by simp <;> omega) (v := some (.int .i64 dh)) (by simp [go_sem])
 have b2 := cell_next hb (b := w.heap.size) (o := 2) (by simp <;> omega) (v := some (.int .i64 sl)) (by simp [go_sem])
 have b3 := cell_next hb (b := w.heap.size) (o := 3) (by simp <;> omega) (v := some (.int .i64 sh)) (by simp [go_sem])
 have b4 := cell_next hb (b := w.heap.size) (o := 4) (by simp <;> omega) (v := some (.int .i64 tl)) (by simp [go_sem])
 have b5 := cell_next hb (b := w.heap.size) (o := 5) (by simp <;> omega) (v := some (.int .i64 th)) (by simp [go_sem])
 have b6 := cell_next hb (b := w.heap.size) (o := 6) (by simp <;> omega) (v := some (.int .i64 se)) (by simp [go_sem])
 have b7 := cell_next hb (b := w.heap.size) (o := 7) (by simp <;> omega) (v := some (.int .i64 wo)) (by simp [go_sem])
 have nb : w.heap.size < W1.heap.size := by have := hb.size; simp at this; omega
 have hB := (below2 hb)
 clear hb
 cases z1
 ·go_wp2_with fail
  go_ret
  exact ⟨by simp, hB⟩
 ·go_wp2_with fail
  refine (C2.out _ _ _ (by simp) (by simp [go_sem]) (by simp [go_sem])).mono ?_
  rintro e W2 ⟨rfl, hb⟩
  replace b0 := cell_next (below1 hb) nb b0
  replace b1 := cell_next (below1 hb) nb b1
  replace b2 := cell_next (below1 hb) nb b2
  replace b3 := cell_next (below1 hb) nb b3
  replace b4 := cell_next (below1 hb) nb b4
  replace b5 := cell_next (below1 hb) nb b5
  replace b6 := cell_next (below1 hb) nb b6
  replace b7 := cell_next (below1 hb) nb b7
  replace nb := Nat.lt_of_lt_of_le nb (below1 hb).size
  replace hB := hB.trans ((below1 hb).mono hB.size)
  clear hb
  generalize W1.heap.size = q2 at *
  cases z2
  ·go_wp2_with fail
   go_ret
   exact ⟨by simp, hB⟩
  ·go_wp2_with fail
   refine (C3.out _ _ _ (by simp) (by simp [go_sem]) (by simp [go_sem])).mono ?_
   rintro e W3 ⟨rfl, hb⟩
   replace b0 := cell_next (below1 hb) nb b0
   replace b1 := cell_next (below1 hb) nb b1
   replace b2 := cell_next (below1 hb) nb b2
   replace b3 := cell_next (below1 hb) nb b3
   replace b4 := cell_next (below1 hb) nb b4
   replace b5 := cell_next (below1 hb) nb b5
   replace b6 := cell_next (below1 hb) nb b6
   replace b7 := cell_next (below1 hb) nb b7
   replace nb := Nat.lt_of_lt_of_le nb (below1 hb).size
   replace hB := hB.trans ((below1 hb).mono hB.size)
   clear hb
   generalize W2.heap.size = q3 at *
   cases z3
   ·go_wp2_with fail
    go_ret
    exact ⟨by simp, hB⟩
   ·go_wp2_with fail
    refine (C4.out _ _ _ (by simp) (by simp [go_sem])).mono ?_
    rintro e W4 ⟨rfl, hb⟩
    replace b0 := cell_next (below1 hb) nb b0
    replace b1 := cell_next (below1 hb) nb b1
    replace b2 := cell_next (below1 hb) nb b2
    replace b3 := cell_next (below1 hb) nb b3
    replace b4 := cell_next (below1 hb) nb b4
    replace b5 := cell_next (below1 hb) nb b5
    replace b6 := cell_next (below1 hb) nb b6
    replace b7 := cell_next (below1 hb) nb b7
    replace nb := Nat.lt_of_lt_of_le nb (below1 hb).size
    replace hB := hB.trans ((below1 hb).mono hB.size)
    clear hb
    generalize W3.heap.size = q4 at *
    cases z4
    ·go_wp2_with fail
     go_ret
     exact ⟨by simp, hB⟩
    ·go_wp2_with fail
     refine (C5.out _ _ _ (by simp) (by simp [go_sem])).mono ?_
     rintro e W5 ⟨rfl, hb⟩
     replace b0 := cell_next (below1 hb) nb b0
     replace b1 := cell_next (below1 hb) nb b1
     replace b2 := cell_next (below1 hb) nb b2
     replace b3 := cell_next (below1 hb) nb b3
     replace b4 := cell_next (below1 hb) nb b4
     replace b5 := cell_next (below1 hb) nb b5
     replace b6 := cell_next (below1 hb) nb b6
     replace b7 := cell_next (below1 hb) nb b7
     replace nb := Nat.lt_of_lt_of_le nb (below1 hb).size
     replace hB := hB.trans ((below1 hb).mono hB.size)
     clear hb
     generalize W4.heap.size = q5 at *
     go_wp2_with fail
     go_ret
     exact ⟨by simp, hB⟩

set_option maxHeartbeats 400000 in
theorem wProduct_any (p : Pd) (w : World) : Calls Tryz.prog 40 #[.agg (cPd p).toArray] w fun e w' => e = .returned (.bool (!pdB p)) ∧ Below w.heap.size w w' := by
 have C1 := Lib.hid (fun (W : World) => vProduct_any p W)
 generalize pdB p = z at *
 obtain ⟨dl, dh, sl, sh, tl, th, se, wo⟩ := p
 dsimp only [cPd] at C1 ⊢
 go_enter Tryz.func40, Tryz.ntmps40
 go_wp2_with fail
 refine (C1.out _).mono ?_
 rintro e w1 ⟨rfl, hb⟩
 have hB := below1 hb
 clear hb
 go_wp2_with fail
 go_ret
 exact ⟨rfl, hB⟩
theorem jpenters : ∀ args w, (callFunc 40 args).run Tryz.prog w = .ok (.enter 40 args) w := enters_of Tryz.func40 (by kernel_rfl) rfl

set_option maxRecDepth 20000 in
set_option maxHeartbeats 1000000 in
theorem jpindex_any  (v : Value) (xs : List (Pd)) (w : World) (hl : xs.length ≤ 1000000000000) (hv : RsAt 8 cPd w.heap.size w v xs)
  (HC : ∀ (x : Pd) (W : World), Below w.heap.size w W → Calls Tryz.prog 40 #[.agg (cPd x).toArray] W fun e w' => e = .returned (.bool ((fun x => !pdB x) x)) ∧ Below W.heap.size W w') :
  Calls Tryz.prog 87 #[v, .func (Fn.func 40) #[] #[]] w fun e w' => e = .returned (.int .i64 (ixF ((fun x => !pdB x)) xs)) ∧ Below w.heap.size w w' := by
 have HE := jpenters
 obtain ⟨A, c, rfl, hr⟩ := hv
 obtain ⟨p, hpp⟩ : ∃ p : Pd → Bool, ((fun x => !pdB x)) = p := ⟨_, rfl⟩
 rw [hpp]
 replace HC := Lib.hid (fun x W h => by have := HC x W h; rw [show ((fun x => !pdB x)) x = p x from congrFun hpp x] at this; exact this)
 clear hpp
 have HF := Lib.hid (fun (k : Nat) (x : Pd) (h : xs[k]? = some x) (ha : (xs.take k).any p = false) (hb : p x = true) => ixF_at p xs k x h ha hb)
 have HZ := Lib.hid (fun (h : xs.any p = false) => ixF_no p xs h)
 have HS := Lib.hid (fun (k : Nat) (x : Pd) (h : xs[k]? = some x) (ha : (xs.take k).any p = false) (hb : p x = false) => any_next p xs k x h ha hb)
 obtain ⟨r, hrr⟩ : ∃ r, ixF p xs = r := ⟨_, rfl⟩
 rw [hrr] at HF HZ ⊢
 clear hrr
 obtain ⟨n, hn⟩ : ∃ n, xs.length = n := ⟨_, rfl⟩
 rw [hn] at hr hl ⊢
 have Hn := Lib.hid hn
 have HR := Lib.hid hr
 clear hr hn
 go_enter Tryz.func87, Tryz.ntmps87
 go_wp2_with fail
 go_loopw [8] (fun i wr => ∃ k : Nat, k ≤ n ∧ i = .int .i64 k ∧ Hid ((xs.take k).any p = false) ∧ Below w.heap.size w wr) (fun i _ => n - (RowKit.intOf i).toNat)
 case atStart => exact ⟨0, Nat.zero_le _, rfl, Lib.hid rfl, Below.refl _ _⟩
 case round =>
  obtain ⟨k, hk, rfl, ho, hbr⟩ := hrel
  by_cases hlt : (k : Int) < (n : Int)
  ·obtain ⟨x, hp⟩ : ∃ x, xs[k]? = some x := ⟨_, List.getElem?_eq_getElem (by rw [Hn.out]; omega)⟩
   obtain ⟨g, off, rfl, hg, hc0⟩ := HR.out (by omega)
   have hc := fun (k : Nat) (x : Pd) (h : xs[k]? = some x) (j : Nat) (u : Value) (hj : (cPd x)[j]? = some u) => cell_next hbr hg (hc0 k x h j u hj)
   have HFk := Lib.hid (HF.out k x hp ho.out)
   have HSk := Lib.hid (HS.out k x hp ho.out)
   have c1 := HC.out x wr hbr
   obtain ⟨x0, x1, x2, x3, x4, x5, x6, x7⟩ := x
   dsimp only [cPd] at c1
   replace c1 := Lib.hid c1
   have q0 : wr.cell? ⟨g, off + k * 8, none⟩ = some (.int .i64 x0) := hc k ⟨x0, x1, x2, x3, x4, x5, x6, x7⟩ hp 0 _ rfl
   have q1 : wr.cell? ⟨g, off + k * 8 + 1, none⟩ = some (.int .i64 x1) := hc k ⟨x0, x1, x2, x3, x4, x5, x6, x7⟩ hp 1 _ rfl
   have q2 : wr.cell? ⟨g, off + k * 8 + 2, none⟩ = some (.int .i64 x2) := hc k ⟨x0, x1, x2, x3, x4, x5, x6, x7⟩ hp 2 _ rfl
   have q3 : wr.cell? ⟨g, off + k * 8 + 3, none⟩ = some (.int .i64 x3) := hc k ⟨x0, x1, x2, x3, x4, x5, x6, x7⟩ hp 3 _ rfl
   have q4 : wr.cell? ⟨g, off + k * 8 + 4, none⟩ = some (.int .i64 x4) := hc k ⟨x0, x1, x2, x3, x4, x5, x6, x7⟩ hp 4 _ rfl
   have q5 : wr.cell? ⟨g, off + k * 8 + 5, none⟩ = some (.int .i64 x5) := hc k ⟨x0, x1, x2, x3, x4, x5, x6, x7⟩ hp 5 _ rfl
   have q6 : wr.cell? ⟨g, off + k * 8 + 6, none⟩ = some (.int .i64 x6) := hc k ⟨x0, x1, x2, x3, x4, x5, x6, x7⟩ hp 6 _ rfl
   have q7 : wr.cell? ⟨g, off + k * 8 + 7, none⟩ = some (.int .i64 x7) := hc k ⟨x0, x1, x2, x3, x4, x5, x6, x7⟩ hp 7 _ rfl
   clear hc hc0 hp
   generalize p ⟨x0, x1, x2, x3, x4, x5, x6, x7⟩ = b' at *
   cases b'
   ·have E := Lib.hid (HSk.out rfl)
    clear HFk HSk
    go_wp2_with fail
    refine c1.out.mono ?_
    rintro e w1 ⟨rfl, hb⟩
    have hB := hbr.trans (hb.mono hbr.size)
    clear hb q0 q1 q2 q3 q4 q5 q6 q7 c1
    go_wp2_with fail
    go_roundw
    case rel => exact ⟨k + 1, by omega, by go_num, E, hB⟩
    case measure => simp [RowKit.intOf]; omega
   ·have E := Lib.hid (HFk.out rfl)
    clear HFk HSk
    go_wp2_with fail
    refine c1.out.mono ?_
    rintro e w1 ⟨rfl, hb⟩
    have hB := hbr.trans (hb.mono hbr.size)
    clear hb
    go_wp2_with fail
    go_ret
    exact ⟨by first | (rw [E.out]; rfl) | rw [E.out], hB⟩
  ·obtain rfl : k = n := by omega
   have E := Lib.hid (HZ.out (by have h := ho.out; rwa [List.take_of_length_le (by rw [Hn.out]; exact Nat.le_refl _)] at h))
   go_wp2_with fail
   go_ret
   exact ⟨by first | (rw [E.out]; rfl) | rw [E.out], hbr⟩

set_option maxRecDepth 20000 in
set_option maxHeartbeats 1000000 in
theorem jpany_any  (v : Value) (xs : List (Pd)) (w : World) (hl : xs.length ≤ 1000000000000) (hv : RsAt 8 cPd w.heap.size w v xs)
  (HC : ∀ (x : Pd) (W : World), Below w.heap.size w W → Calls Tryz.prog 40 #[.agg (cPd x).toArray] W fun e w' => e = .returned (.bool ((fun x => !pdB x) x)) ∧ Below W.heap.size W w') :
  Calls Tryz.prog 46 #[v, .func (Fn.func 40) #[] #[]] w fun e w' => e = .returned (.bool (xs.any ((fun x => !pdB x)))) ∧ Below w.heap.size w w' := by
 have c1 := Lib.hid (jpindex_any  v xs w hl hv HC)
 have hix := ixF_any ((fun x => !pdB x)) xs
 clear hv HC
 generalize ixF ((fun x => !pdB x)) xs = i at *
 generalize xs.any ((fun x => !pdB x)) = r at *
 go_enter Tryz.func46, Tryz.ntmps46
 go_wp2_with fail
 refine c1.out.mono ?_
 rintro e w1 ⟨rfl, hb⟩
 cases r
 ·have hi' : i = -1 := by simpa using hix
  subst hi'
  go_wp2_with fail
  go_ret
  exact ⟨by simp, hb⟩
 ·have hi' : 0 ≤ i := by simpa using hix
  clear hix
  go_wp2_with fail
  go_ret
  exact ⟨by simp [*], hb⟩

set_option maxRecDepth 20000 in
set_option maxHeartbeats 1000000 in
theorem wSol_any (p : Int × Int) (w : World) : Calls Tryz.prog 81 #[.agg (cR p).toArray] w fun e w' => e = .returned (.bool (!slP p)) ∧ Below w.heap.size w w' := by
 obtain ⟨x, y⟩ := p
 have C1 := Lib.hid (fun (W : World) (g c : Nat) => jin1v_any (-2000) 2000 x g c W)
 have C2 := Lib.hid (fun (W : World) (g c : Nat) => jin1v_any 0 9999 y g c W)
 have hr : Hid ((!slP (x, y)) = (!(inB (-2000) 2000 x) || !(inB 0 9999 y))) := Lib.hid (by simp [slP])
 rw [hr.out]
 dsimp only [cR]
 clear hr
 generalize inB (-2000) 2000 x = z1 at *
 generalize inB 0 9999 y = z2 at *
 go_enter Tryz.func81, Tryz.ntmps81
 go_wp2_with fail
 refine (C1.out _ _ _ (by simp) (by simp [go_sem])).mono ?_
 rintro e W1 ⟨rfl, hb⟩
 have b0 := cell_next hb (b := w.heap.size) (o := 0) (by simp <;> omega) (v := some (.int .i64 x)) (by simp [go_sem])
 have b1 := cell_next hb (b := w.heap.size) (o := 1) (by simp <;> omega) (v := some (.int .i64 y)) (by simp [go_sem])
 have nb : w.heap.size < W1.heap.size := by have := hb.size; simp at this; omega
 have hB := (below2 hb)
 clear hb
 cases z1
 ·go_wp2_with fail
  go_ret
  exact ⟨by simp, hB⟩
 ·go_wp2_with fail
  refine (C2.out _ _ _ (by simp) (by simp [go_sem])).mono ?_
  rintro e W2 ⟨rfl, hb⟩
  replace b0 := cell_next (below1 hb) nb b0
  replace b1 := cell_next (below1 hb) nb b1
  replace nb := Nat.lt_of_lt_of_le nb (below1 hb).size
  replace hB := hB.trans ((below1 hb).mono hB.size)
  clear hb
  generalize W1.heap.size = q2 at *
  go_wp2_with fail
  go_ret
  exact ⟨by simp, hB⟩
theorem jsenters : ∀ args w, (callFunc 81 args).run Tryz.prog w = .ok (.enter 81 args) w := enters_of Tryz.func81 (by kernel_rfl) rfl

set_option maxRecDepth 20000 in
set_option maxHeartbeats 1000000 in
theorem jsindex_any  (v : Value) (xs : List (Int × Int)) (w : World) (hl : xs.length ≤ 1000000000000) (hv : RsAt 2 cR w.heap.size w v xs)
  (HC : ∀ (x : Int × Int) (W : World), Below w.heap.size w W → Calls Tryz.prog 81 #[.agg (cR x).toArray] W fun e w' => e = .returned (.bool ((fun x => !slP x) x)) ∧ Below W.heap.size W w') :
  Calls Tryz.prog 110 #[v, .func (Fn.func 81) #[] #[]] w fun e w' => e = .returned (.int .i64 (ixF ((fun x => !slP x)) xs)) ∧ Below w.heap.size w w' := by
 have HE := jsenters
 obtain ⟨A, c, rfl, hr⟩ := hv
 obtain ⟨p, hpp⟩ : ∃ p : Int × Int → Bool, ((fun x => !slP x)) = p := ⟨_, rfl⟩
 rw [hpp]
 replace HC := Lib.hid (fun x W h => by have := HC x W h; rw [show ((fun x => !slP x)) x = p x from congrFun hpp x] at this; exact this)
 clear hpp
 have HF := Lib.hid (fun (k : Nat) (x : Int × Int) (h : xs[k]? = some x) (ha : (xs.take k).any p = false) (hb : p x = true) => ixF_at p xs k x h ha hb)
 have HZ := Lib.hid (fun (h : xs.any p = false) => ixF_no p xs h)
 have HS := Lib.hid (fun (k : Nat) (x : Int × Int) (h : xs[k]? = some x) (ha : (xs.take k).any p = false) (hb : p x = false) => any_next p xs k x h ha hb)
 obtain ⟨r, hrr⟩ : ∃ r, ixF p xs = r := ⟨_, rfl⟩
 rw [hrr] at HF HZ ⊢
 clear hrr
 obtain ⟨n, hn⟩ : ∃ n, xs.length = n := ⟨_, rfl⟩
 rw [hn] at hr hl ⊢
 have Hn := Lib.hid hn
 have HR := Lib.hid hr
 clear hr hn
 go_enter Tryz.func110, Tryz.ntmps110
 go_wp2_with fail
 go_loopw [8] (fun i wr => ∃ k : Nat, k ≤ n ∧ i = .int .i64 k ∧ Hid ((xs.take k).any p = false) ∧ Below w.heap.size w wr) (fun i _ => n - (RowKit.intOf i).toNat)
 case atStart => exact ⟨0, Nat.zero_le _, rfl, Lib.hid rfl, Below.refl _ _⟩
 case round =>
  obtain ⟨k, hk, rfl, ho, hbr⟩ := hrel
  by_cases hlt : (k : Int) < (n : Int)
  ·obtain ⟨x, hp⟩ : ∃ x, xs[k]? = some x := ⟨_, List.getElem?_eq_getElem (by rw [Hn.out]; omega)⟩
   obtain ⟨g, off, rfl, hg, hc0⟩ := HR.out (by omega)
   have hc := fun (k : Nat) (x : Int × Int) (h : xs[k]? = some x) (j : Nat) (u : Value) (hj : (cR x)[j]? = some u) => cell_next hbr hg (hc0 k x h j u hj)
   have HFk := Lib.hid (HF.out k x hp ho.out)
   have HSk := Lib.hid (HS.out k x hp ho.out)
   have c1 := HC.out x wr hbr
   obtain ⟨x0, x1⟩ := x
   dsimp only [cR] at c1
   replace c1 := Lib.hid c1
   have q0 : wr.cell? ⟨g, off + k * 2, none⟩ = some (.int .i64 x0) := hc k ⟨x0, x1⟩ hp 0 _ rfl
   have q1 : wr.cell? ⟨g, off + k * 2 + 1, none⟩ = some (.int .i64 x1) := hc k ⟨x0, x1⟩ hp 1 _ rfl
   clear hc hc0 hp
   generalize p ⟨x0, x1⟩ = b' at *
   cases b'
   ·have E := Lib.hid (HSk.out rfl)
    clear HFk HSk
    go_wp2_with fail
    refine c1.out.mono ?_
    rintro e w1 ⟨rfl, hb⟩
    have hB := hbr.trans (hb.mono hbr.size)
    clear hb q0 q1 c1
    go_wp2_with fail
    go_roundw
    case rel => exact ⟨k + 1, by omega, by go_num, E, hB⟩
    case measure => simp [RowKit.intOf]; omega
   ·have E := Lib.hid (HFk.out rfl)
    clear HFk HSk
    go_wp2_with fail
    refine c1.out.mono ?_
    rintro e w1 ⟨rfl, hb⟩
    have hB := hbr.trans (hb.mono hbr.size)
    clear hb
    go_wp2_with fail
    go_ret
    exact ⟨by first | (rw [E.out]; rfl) | rw [E.out], hB⟩
  ·obtain rfl : k = n := by omega
   have E := Lib.hid (HZ.out (by have h := ho.out; rwa [List.take_of_length_le (by rw [Hn.out]; exact Nat.le_refl _)] at h))
   go_wp2_with fail
   go_ret
   exact ⟨by first | (rw [E.out]; rfl) | rw [E.out], hbr⟩

set_option maxRecDepth 20000 in
set_option maxHeartbeats 1000000 in
theorem jsany_any  (v : Value) (xs : List (Int × Int)) (w : World) (hl : xs.length ≤ 1000000000000) (hv : RsAt 2 cR w.heap.size w v xs)
  (HC : ∀ (x : Int × Int) (W : World), Below w.heap.size w W → Calls Tryz.prog 81 #[.agg (cR x).toArray] W fun e w' => e = .returned (.bool ((fun x => !slP x) x)) ∧ Below W.heap.size W w') :
  Calls Tryz.prog 82 #[v, .func (Fn.func 81) #[] #[]] w fun e w' => e = .returned (.bool (xs.any ((fun x => !slP x)))) ∧ Below w.heap.size w w' := by
 have c1 := Lib.hid (jsindex_any  v xs w hl hv HC)
 have hix := ixF_any ((fun x => !slP x)) xs
 clear hv HC
 generalize ixF ((fun x => !slP x)) xs = i at *
 generalize xs.any ((fun x => !slP x)) = r at *
 go_enter Tryz.func82, Tryz.ntmps82
 go_wp2_with fail
 refine c1.out.mono ?_
 rintro e w1 ⟨rfl, hb⟩
 cases r
 ·have hi' : i = -1 := by simpa using hix
  subst hi'
  go_wp2_with fail
  go_ret
  exact ⟨by simp, hb⟩
 ·have hi' : 0 ≤ i := by simpa using hix
  clear hix
  go_wp2_with fail
  go_ret
  exact ⟨by simp [*], hb⟩

theorem SetAt.toRs {B : Nat} {w : World} {v : Value} {xs : List (Int × Int)} (h : SetAt B w v xs) : RsAt 2 cR B w v xs := by
 obtain ⟨A, c, rfl, h⟩ := h
 refine ⟨A, c, rfl, fun hn => ?_⟩
 obtain ⟨g, off, rfl, hg, hr⟩ := h hn
 refine ⟨g, off, rfl, hg, fun k x hx j u hj => ?_⟩
 have := hr k x hx
 rcases j with _ | _ | j
 ·simp [cR] at hj; subst hj; simpa using this.1
 ·simp [cR] at hj; subst hj; simpa using this.2
 ·simp [cR] at hj
theorem SetAt.slice {B : Nat} {w : World} {v : Value} {xs : List (Int × Int)} (h : SetAt B w v xs) : ∃ A c, v = .slice A xs.length c := by obtain ⟨A, c, rfl, _⟩ := h; exact ⟨A, c, rfl⟩
theorem RsAt.slice {α : Type} {N : Nat} {c : α → List Value} {B : Nat} {w : World} {v : Value} {xs : List α} (h : RsAt N c B w v xs) : ∃ A c, v = .slice A xs.length c := by obtain ⟨A, c, rfl, _⟩ := h; exact ⟨A, c, rfl⟩

set_option maxRecDepth 20000 in
set_option maxHeartbeats 1000000 in
theorem vSol_any (v : Value) (xs : List (Int × Int)) (w : World) (hv : SetAt w.heap.size w v xs) : Calls Tryz.prog 43 #[v] w fun e w' => e = .returned (.bool (slB xs)) ∧ Below w.heap.size w w' := by
 have C1 := Lib.hid (fun (W : World) (h : Below w.heap.size w W) => checkTable_any v xs W ((hv.below h (Nat.le_refl _)).mono h.size))
 have hr : slB xs = (decide (tabE xs = 0) && !(xs.any fun x => !slP x)) := by simp [slB, List.all_eq_not_any_not]
 have C2 := Lib.hid (fun (W : World) (h : Below w.heap.size w W) (hl : xs.length ≤ 60) => jsany_any v xs W (by omega) ((hv.toRs.below h (Nat.le_refl _)).mono h.size) (fun x W' h' => wSol_any x W'))
 have HL := Lib.hid (fun (h : tabE xs = 0) => (tabOk_of h).2.1)
 rw [hr]
 obtain ⟨A, c, rfl⟩ := hv.slice
 clear hr hv
 generalize hn : xs.length = n at *
 generalize xs.any (fun x => !slP x) = z2 at *
 generalize tabE xs = E at *
 by_cases hE : E = 0
 ·subst hE
  have hl := HL.out rfl
  replace C2 := Lib.hid (fun (W : World) (h : Below w.heap.size w W) => C2.out W h hl)
  clear HL hl hn
  go_enter Tryz.func43, Tryz.ntmps43
  go_wp2_with fail
  refine (C1.out _ (Below.refl _ _)).mono ?_
  rintro e W1 ⟨rfl, hb⟩
  have hB := hb
  clear hb
  go_wp2_with fail
  refine (C2.out _ hB).mono ?_
  rintro e W2 ⟨rfl, hb⟩
  replace hB := hB.trans (hb.mono hB.size)
  clear hb
  go_wp2_with fail
  go_ret
  exact ⟨by simp, hB⟩
 ·have hE0 : (E == 0) = false := by simpa using hE
  have hE1 : decide (E = 0) = false := by simpa using hE
  clear C2 HL hn hE
  go_enter Tryz.func43, Tryz.ntmps43
  go_wp2_with fail
  refine (C1.out _ (Below.refl _ _)).mono ?_
  rintro e W1 ⟨rfl, hb⟩
  have hB := hb
  clear hb
  go_wp2_with fail
  go_ret
  exact ⟨by simp [hE1], hB⟩

set_option maxRecDepth 20000 in
set_option maxHeartbeats 1000000 in
theorem vElev_any (v : Value) (xs : List (Int × Int)) (w : World) (hv : SetAt w.heap.size w v xs) : Calls Tryz.prog 42 #[v] w fun e w' => e = .returned (.bool (elB xs)) ∧ Below w.heap.size w w' := by
 have C0 := Lib.hid (fun (W : World) (h : Below w.heap.size w W) => checkTable_any v xs W ((hv.below h (Nat.le_refl _)).mono h.size))
 have HL := Lib.hid (fun (h : tabE xs = 0) => (tabOk_of h).2.1)
 obtain ⟨A, c, rfl, hr⟩ := hv
 by_cases hE : tabE xs = 0
 ·have hl := HL.out hE
  have HZ := Lib.hid (fun (z : Bool) (h : elRows xs xs.length = z) => (by simp [elB, hE, h] : elB xs = z))
  rw [hE] at C0
  obtain ⟨r, hrr⟩ : ∃ r, elB xs = r := ⟨_, rfl⟩
  rw [hrr] at HZ ⊢
  obtain ⟨n, hn⟩ : ∃ n, xs.length = n := ⟨_, rfl⟩
  rw [hn] at hr hl C0 HZ ⊢
  have Hn := Lib.hid hn
  have HR := Lib.hid hr
  clear hr hn HL hE hrr
  go_enter Tryz.func42, Tryz.ntmps42
  go_wp2_with fail
  refine (C0.out _ (Below.refl _ _)).mono ?_
  rintro e w1 ⟨rfl, hb0⟩
  clear C0
  go_wp2_with fail
  go_loopw [10] (fun i wr => ∃ k : Nat, k ≤ n ∧ i = .int .i64 k ∧ Hid (elRows xs k = true) ∧ Below w.heap.size w wr) (fun i _ => n - (RowKit.intOf i).toNat)
  case atStart => exact ⟨0, Nat.zero_le _, rfl, Lib.hid rfl, hb0⟩
  case round =>
   obtain ⟨k, hk, rfl, ho, hbr⟩ := hrel
   by_cases hlt : (k : Int) < (n : Int)
   ·obtain ⟨⟨x, y⟩, hp⟩ : ∃ p, xs[k]? = some p := ⟨_, List.getElem?_eq_getElem (by rw [Hn.out]; omega)⟩
    obtain ⟨g, off, rfl, hg, hc⟩ := HR.out (by omega)
    obtain ⟨q0, q1⟩ := hc k _ hp
    replace q0 := cell_next hbr hg q0
    replace q1 := cell_next hbr hg q1
    have C1 := Lib.hid (fun (W : World) (g c : Nat) => jin1v_any 0 10000 x g c W)
    have C2 := Lib.hid (fun (W : World) (g c : Nat) => jin1v_any 0 2000 y g c W)
    have hno : Hid (elRow xs k = false → r = false) := Lib.hid (fun h => HZ.out false (elRows_no xs n k (by omega) h))
    have hyes : Hid (elRow xs k = true → elRows xs (k + 1) = true) := Lib.hid (fun h => by unfold elRows; rw [ho.out, h]; rfl)
    have hrow : Hid (elRow xs k = (inB 0 10000 x && inB 0 2000 y && elUp xs k y)) := Lib.hid (elRow_of hp)
    clear HZ
    generalize inB 0 10000 x = z1 at *
    generalize inB 0 2000 y = z2 at *
    go_wp2_with fail
    have hb5 : Below w.heap.size w (wr.alloc (Obj.cells #[.int .i64 x, .int .i64 y] 39)) := hbr.alloc hbr.size _
    have r0 : (wr.alloc (Obj.cells #[.int .i64 x, .int .i64 y] 39)).cell? ⟨wr.heap.size, 0, none⟩ = some (.int .i64 x) := by simp [go_sem]
    have r1 : (wr.alloc (Obj.cells #[.int .i64 x, .int .i64 y] 39)).cell? ⟨wr.heap.size, 1, none⟩ = some (.int .i64 y) := by simp [go_sem]
    have nr : wr.heap.size < (wr.alloc (Obj.cells #[.int .i64 x, .int .i64 y] 39)).heap.size := by simp
    have ng : g < (wr.alloc (Obj.cells #[.int .i64 x, .int .i64 y] 39)).heap.size := by have := hb5.size; omega
    have nw : wr.heap.size ≤ (wr.alloc (Obj.cells #[.int .i64 x, .int .i64 y] 39)).heap.size := by simp
    generalize wr.alloc (Obj.cells #[.int .i64 x, .int .i64 y] 39) = W5 at *
    generalize wr.heap.size = b4 at *
    have hBW := hb5.size
    clear q0 q1 hbr hp nw
    cases z1
    ·have E : r = false := hno.out (by rw [hrow.out]; rfl)
     subst E
     refine wp_region_held_drew (S := fun w' => w'.cell? ⟨b4, 0, none⟩ = some (.int .i64 x) ∧ w'.cell? ⟨b4, 1, none⟩ = some (.int .i64 y) ∧ True) (by kernel_rfl) ?_ (fun hHeld => ?_)
     focus (exact ⟨r0, r1, trivial⟩)
     have hL : Below w.heap.size W5 W5.drew := Below.drew (Below.refl _ _)
     replace r0 : W5.drew.cell? ⟨b4, 0, none⟩ = some (.int .i64 x) := r0
     replace r1 : W5.drew.cell? ⟨b4, 1, none⟩ = some (.int .i64 y) := r1
     replace nr : b4 < W5.drew.heap.size := nr
     generalize hWd : W5.drew = wd at hHeld hL r0 r1 nr  ⊢
     clear hWd
     refine tq 0 15 ?_ ?_ ?_; rotate_left; (focus intro w h; (try dsimp only at h); go_simp; try with_reducible rfl); try simp only [sA, sB, sC]
     refine tq 1 16 ?_ ?_ ?_; rotate_left; (focus intro w h; (try dsimp only at h); go_simp; try with_reducible rfl); try simp only [sA, sB, sC]
     refine rd1 2 (fun K hK => ?_)
     go_simp
     have hb := (Below.refl wd.heap.size wd).alloc (Nat.le_refl _) (Obj.cells #[.int .i64 x] 3)
     have szZ1 := hL.size
     have ord1nr := nr
     replace r0 := cell_next hb nr r0
     replace r1 := cell_next hb nr r1
     replace nr := Nat.lt_of_lt_of_le nr hb.size
     replace hL := hL.trans (hb.mono (Nat.le_trans hBW hL.size))
     have K0 : (wd.alloc (Obj.cells #[.int .i64 x] 3)).cell? ⟨wd.heap.size, 0, none⟩ = some (.int .i64 x) := cell_new _ _ _ 0
     have nK : wd.heap.size < (wd.alloc (Obj.cells #[.int .i64 x] 3)).heap.size := by simp
     refine hK.out _ _ ⟨r0, r1, trivial⟩ (fun hHeld => ?_)
     clear hK K hb
     generalize wd.alloc (Obj.cells #[.int .i64 x] 3) = Z1 at *
     try simp only [Act.put, sA, sB, sC]
     refine rd1 3 (fun K hK => ?_)
     go_simp
     refine (C1.out _ _ _ nK K0).mono ?_
     rintro e Z2 ⟨rfl, hb⟩
     replace r0 := cell_next hb nr r0
     replace r1 := cell_next hb nr r1
     replace K0 := cell_next hb nK K0
     replace nr := Nat.lt_of_lt_of_le nr hb.size
     replace nK := Nat.lt_of_lt_of_le nK hb.size
     replace hL := hL.trans (hb.mono (Nat.le_trans hBW hL.size))
     refine hK.out _ _ ⟨r0, r1, trivial⟩ (fun hHeld => ?_)
     clear hK K hb
     try simp only [Act.put, sA, sB, sC]
     refine tq 4 19 ?_ ?_ ?_; rotate_left; (focus intro w h; (try dsimp only at h); go_simp; try with_reducible rfl); try simp only [sA, sB, sC]
     refine tq 5 20 ?_ ?_ ?_; rotate_left; (focus intro w h; (try dsimp only at h); go_simp; try with_reducible rfl); try simp only [sA, sB, sC]
     refine take_slot (i := 6) (d := 21) (v := undef) rfl rfl (by kernel_rfl) (by kernel_rfl) (by kernel_rfl) (fun _ _ _ h => h) (Or.inr ⟨by rfl, rfl⟩) (by assumption) ?_
     try simp only [sA, sB, sC]
     refine take_slot (i := 7) (d := 22) (v := undef) rfl rfl (by kernel_rfl) (by kernel_rfl) (by kernel_rfl) (fun _ _ _ h => h) (Or.inr ⟨by rfl, rfl⟩) (by assumption) ?_
     try simp only [sA, sB, sC]
     refine take_slot (i := 8) (d := 23) (v := undef) rfl rfl (by kernel_rfl) (by kernel_rfl) (by kernel_rfl) (fun _ _ _ h => h) (Or.inr ⟨by rfl, rfl⟩) (by assumption) ?_
     try simp only [sA, sB, sC]
     refine take_slot (i := 9) (d := 24) (v := undef) rfl rfl (by kernel_rfl) (by kernel_rfl) (by kernel_rfl) (fun _ _ _ h => h) (Or.inr ⟨by rfl, rfl⟩) (by assumption) ?_
     try simp only [sA, sB, sC]
     refine take_slot (i := 10) (d := 25) (v := undef) rfl rfl (by kernel_rfl) (by kernel_rfl) (by kernel_rfl) (fun _ _ _ h => h) (Or.inr ⟨by rfl, rfl⟩) (by assumption) ?_
     try simp only [sA, sB, sC]
     refine tq 11 26 ?_ ?_ ?_; rotate_left; (focus intro w h; (try dsimp only at h); go_simp; try with_reducible rfl); try simp only [sA, sB, sC]
     refine tq 12 27 ?_ ?_ ?_; rotate_left; (focus intro w h; (try dsimp only at h); go_simp; try with_reducible rfl); try simp only [sA, sB, sC]
     refine take_slot (i := 13) (d := 28) (v := undef) rfl rfl (by kernel_rfl) (by kernel_rfl) (by kernel_rfl) (fun _ _ _ h => h) (Or.inr ⟨by rfl, rfl⟩) (by assumption) ?_
     try simp only [sA, sB, sC]
     refine take_slot (i := 14) (d := 29) (v := undef) rfl rfl (by kernel_rfl) (by kernel_rfl) (by kernel_rfl) (fun _ _ _ h => h) (Or.inr ⟨by rfl, rfl⟩) (by assumption) ?_
     try simp only [sA, sB, sC]
     refine take_slot (i := 15) (d := 30) (v := undef) rfl rfl (by kernel_rfl) (by kernel_rfl) (by kernel_rfl) (fun _ _ _ h => h) (Or.inr ⟨by rfl, rfl⟩) (by assumption) ?_
     try simp only [sA, sB, sC]
     refine take_slot (i := 16) (d := 31) (v := undef) rfl rfl (by kernel_rfl) (by kernel_rfl) (by kernel_rfl) (fun _ _ _ h => h) (Or.inr ⟨by rfl, rfl⟩) (by assumption) ?_
     try simp only [sA, sB, sC]
     refine take_slot (i := 17) (d := 32) (v := undef) rfl rfl (by kernel_rfl) (by kernel_rfl) (by kernel_rfl) (fun _ _ _ h => h) (Or.inr ⟨by rfl, rfl⟩) (by assumption) ?_
     try simp only [sA, sB, sC]
     refine take_slot (i := 18) (d := 33) (v := undef) rfl rfl (by kernel_rfl) (by kernel_rfl) (by kernel_rfl) (fun _ _ _ h => h) (Or.inr ⟨by rfl, rfl⟩) (by assumption) ?_
     try simp only [sA, sB, sC]
     refine take_slot (i := 19) (d := 34) (v := undef) rfl rfl (by kernel_rfl) (by kernel_rfl) (by kernel_rfl) (fun _ _ _ h => h) (Or.inr ⟨by rfl, rfl⟩) (by assumption) ?_
     try simp only [sA, sB, sC]
     refine take_slot (i := 20) (d := 35) (v := undef) rfl rfl (by kernel_rfl) (by kernel_rfl) (by kernel_rfl) (fun _ _ _ h => h) (Or.inr ⟨by rfl, rfl⟩) (by assumption) ?_
     try simp only [sA, sB, sC]
     refine take_slot (i := 21) (d := 36) (v := undef) rfl rfl (by kernel_rfl) (by kernel_rfl) (by kernel_rfl) (fun _ _ _ h => h) (Or.inr ⟨by rfl, rfl⟩) (by assumption) ?_
     try simp only [sA, sB, sC]
     refine take_slot (i := 22) (d := 37) (v := undef) rfl rfl (by kernel_rfl) (by kernel_rfl) (by kernel_rfl) (fun _ _ _ h => h) (Or.inr ⟨by rfl, rfl⟩) (by assumption) ?_
     try simp only [sA, sB, sC]
     refine take_slot (i := 23) (d := 38) (v := undef) rfl rfl (by kernel_rfl) (by kernel_rfl) (by kernel_rfl) (fun _ _ _ h => h) (Or.inr ⟨by rfl, rfl⟩) (by assumption) ?_
     try simp only [sA, sB, sC]
     refine take_slot (i := 24) (d := 39) (v := undef) rfl rfl (by kernel_rfl) (by kernel_rfl) (by kernel_rfl) (fun _ _ _ h => h) (Or.inr ⟨by rfl, rfl⟩) (by assumption) ?_
     try simp only [sA, sB, sC]
     refine take_slot (i := 25) (d := 40) (v := undef) rfl rfl (by kernel_rfl) (by kernel_rfl) (by kernel_rfl) (fun _ _ _ h => h) (Or.inr ⟨by rfl, rfl⟩) (by assumption) ?_
     try simp only [sA, sB, sC]
     refine tq 26 41 ?_ ?_ ?_; rotate_left; (focus intro w h; (try dsimp only at h); go_simp; try with_reducible rfl); try simp only [sA, sB, sC]
     refine wpAnyH_done (by kernel_rfl) ?_ _
     have hB := hb5.trans hL
     clear hHeld hL
     go_wp2_with fail
     go_ret
     exact ⟨rfl, hB⟩
    ·cases z2
     ·have E : r = false := hno.out (by rw [hrow.out]; rfl)
      subst E
      refine wp_region_held_drew (S := fun w' => w'.cell? ⟨b4, 0, none⟩ = some (.int .i64 x) ∧ w'.cell? ⟨b4, 1, none⟩ = some (.int .i64 y) ∧ True) (by kernel_rfl) ?_ (fun hHeld => ?_)
      focus (exact ⟨r0, r1, trivial⟩)
      have hL : Below w.heap.size W5 W5.drew := Below.drew (Below.refl _ _)
      replace r0 : W5.drew.cell? ⟨b4, 0, none⟩ = some (.int .i64 x) := r0
      replace r1 : W5.drew.cell? ⟨b4, 1, none⟩ = some (.int .i64 y) := r1
      replace nr : b4 < W5.drew.heap.size := nr
      generalize hWd : W5.drew = wd at hHeld hL r0 r1 nr  ⊢
      clear hWd
      refine tq 0 15 ?_ ?_ ?_; rotate_left; (focus intro w h; (try dsimp only at h); go_simp; try with_reducible rfl); try simp only [sA, sB, sC]
      refine tq 1 16 ?_ ?_ ?_; rotate_left; (focus intro w h; (try dsimp only at h); go_simp; try with_reducible rfl); try simp only [sA, sB, sC]
      refine rd1 2 (fun K hK => ?_)
      go_simp
      have hb := (Below.refl wd.heap.size wd).alloc (Nat.le_refl _) (Obj.cells #[.int .i64 x] 3)
      have szZ1 := hL.size
      have ord1nr := nr
      replace r0 := cell_next hb nr r0
      replace r1 := cell_next hb nr r1
      replace nr := Nat.lt_of_lt_of_le nr hb.size
      replace hL := hL.trans (hb.mono (Nat.le_trans hBW hL.size))
      have K0 : (wd.alloc (Obj.cells #[.int .i64 x] 3)).cell? ⟨wd.heap.size, 0, none⟩ = some (.int .i64 x) := cell_new _ _ _ 0
      have nK : wd.heap.size < (wd.alloc (Obj.cells #[.int .i64 x] 3)).heap.size := by simp
      refine hK.out _ _ ⟨r0, r1, trivial⟩ (fun hHeld => ?_)
      clear hK K hb
      generalize wd.alloc (Obj.cells #[.int .i64 x] 3) = Z1 at *
      try simp only [Act.put, sA, sB, sC]
      refine rd1 3 (fun K hK => ?_)
      go_simp
      refine (C1.out _ _ _ nK K0).mono ?_
      rintro e Z2 ⟨rfl, hb⟩
      replace r0 := cell_next hb nr r0
      replace r1 := cell_next hb nr r1
      replace K0 := cell_next hb nK K0
      replace nr := Nat.lt_of_lt_of_le nr hb.size
      replace nK := Nat.lt_of_lt_of_le nK hb.size
      replace hL := hL.trans (hb.mono (Nat.le_trans hBW hL.size))
      refine hK.out _ _ ⟨r0, r1, trivial⟩ (fun hHeld => ?_)
      clear hK K hb
      try simp only [Act.put, sA, sB, sC]
      refine tq 4 19 ?_ ?_ ?_; rotate_left; (focus intro w h; (try dsimp only at h); go_simp; try with_reducible rfl); try simp only [sA, sB, sC]
      refine tq 5 20 ?_ ?_ ?_; rotate_left; (focus intro w h; (try dsimp only at h); go_simp; try with_reducible rfl); try simp only [sA, sB, sC]
      refine tq 6 21 ?_ ?_ ?_; rotate_left; (focus intro w h; (try dsimp only at h); go_simp; try with_reducible rfl); try simp only [sA, sB, sC]
      refine tq 7 22 ?_ ?_ ?_; rotate_left; (focus intro w h; (try dsimp only at h); go_simp; try with_reducible rfl); try simp only [sA, sB, sC]
      refine rd1 8 (fun K hK => ?_)
      go_simp
      have hb := (Below.refl Z2.heap.size Z2).alloc (Nat.le_refl _) (Obj.cells #[.int .i64 y] 3)
      have szZ3 := hL.size
      have ord3nr := nr
      have ord3nK := nK
      replace r0 := cell_next hb nr r0
      replace r1 := cell_next hb nr r1
      replace K0 := cell_next hb nK K0
      replace nr := Nat.lt_of_lt_of_le nr hb.size
      replace nK := Nat.lt_of_lt_of_le nK hb.size
      replace hL := hL.trans (hb.mono (Nat.le_trans hBW hL.size))
      have L0 : (Z2.alloc (Obj.cells #[.int .i64 y] 3)).cell? ⟨Z2.heap.size, 0, none⟩ = some (.int .i64 y) := cell_new _ _ _ 0
      have nL : Z2.heap.size < (Z2.alloc (Obj.cells #[.int .i64 y] 3)).heap.size := by simp
      refine hK.out _ _ ⟨r0, r1, trivial⟩ (fun hHeld => ?_)
      clear hK K hb
      generalize Z2.alloc (Obj.cells #[.int .i64 y] 3) = Z3 at *
      try simp only [Act.put, sA, sB, sC]
      refine rd1 9 (fun K hK => ?_)
      go_simp
      refine (C2.out _ _ _ nL L0).mono ?_
      rintro e Z4 ⟨rfl, hb⟩
      replace r0 := cell_next hb nr r0
      replace r1 := cell_next hb nr r1
      replace K0 := cell_next hb nK K0
      replace L0 := cell_next hb nL L0
      replace nr := Nat.lt_of_lt_of_le nr hb.size
      replace nK := Nat.lt_of_lt_of_le nK hb.size
      replace nL := Nat.lt_of_lt_of_le nL hb.size
      replace hL := hL.trans (hb.mono (Nat.le_trans hBW hL.size))
      refine hK.out _ _ ⟨r0, r1, trivial⟩ (fun hHeld => ?_)
      clear hK K hb
      try simp only [Act.put, sA, sB, sC]
      refine tq 10 25 ?_ ?_ ?_; rotate_left; (focus intro w h; (try dsimp only at h); go_simp; try with_reducible rfl); try simp only [sA, sB, sC]
      refine tq 11 26 ?_ ?_ ?_; rotate_left; (focus intro w h; (try dsimp only at h); go_simp; try with_reducible rfl); try simp only [sA, sB, sC]
      refine tq 12 27 ?_ ?_ ?_; rotate_left; (focus intro w h; (try dsimp only at h); go_simp; try with_reducible rfl); try simp only [sA, sB, sC]
      refine take_slot (i := 13) (d := 28) (v := undef) rfl rfl (by kernel_rfl) (by kernel_rfl) (by kernel_rfl) (fun _ _ _ h => h) (Or.inr ⟨by rfl, rfl⟩) (by assumption) ?_
      try simp only [sA, sB, sC]
      refine take_slot (i := 14) (d := 29) (v := undef) rfl rfl (by kernel_rfl) (by kernel_rfl) (by kernel_rfl) (fun _ _ _ h => h) (Or.inr ⟨by rfl, rfl⟩) (by assumption) ?_
      try simp only [sA, sB, sC]
      refine take_slot (i := 15) (d := 30) (v := undef) rfl rfl (by kernel_rfl) (by kernel_rfl) (by kernel_rfl) (fun _ _ _ h => h) (Or.inr ⟨by rfl, rfl⟩) (by assumption) ?_
      try simp only [sA, sB, sC]
      refine take_slot (i := 16) (d := 31) (v := undef) rfl rfl (by kernel_rfl) (by kernel_rfl) (by kernel_rfl) (fun _ _ _ h => h) (Or.inr ⟨by rfl, rfl⟩) (by assumption) ?_
      try simp only [sA, sB, sC]
      refine take_slot (i := 17) (d := 32) (v := undef) rfl rfl (by kernel_rfl) (by kernel_rfl) (by kernel_rfl) (fun _ _ _ h => h) (Or.inr ⟨by rfl, rfl⟩) (by assumption) ?_
      try simp only [sA, sB, sC]
      refine take_slot (i := 18) (d := 33) (v := undef) rfl rfl (by kernel_rfl) (by kernel_rfl) (by kernel_rfl) (fun _ _ _ h => h) (Or.inr ⟨by rfl, rfl⟩) (by assumption) ?_
      try simp only [sA, sB, sC]
      refine take_slot (i := 19) (d := 34) (v := undef) rfl rfl (by kernel_rfl) (by kernel_rfl) (by kernel_rfl) (fun _ _ _ h => h) (Or.inr ⟨by rfl, rfl⟩) (by assumption) ?_
      try simp only [sA, sB, sC]
      refine take_slot (i := 20) (d := 35) (v := undef) rfl rfl (by kernel_rfl) (by kernel_rfl) (by kernel_rfl) (fun _ _ _ h => h) (Or.inr ⟨by rfl, rfl⟩) (by assumption) ?_
      try simp only [sA, sB, sC]
      refine take_slot (i := 21) (d := 36) (v := undef) rfl rfl (by kernel_rfl) (by kernel_rfl) (by kernel_rfl) (fun _ _ _ h => h) (Or.inr ⟨by rfl, rfl⟩) (by assumption) ?_
      try simp only [sA, sB, sC]
      refine take_slot (i := 22) (d := 37) (v := undef) rfl rfl (by kernel_rfl) (by kernel_rfl) (by kernel_rfl) (fun _ _ _ h => h) (Or.inr ⟨by rfl, rfl⟩) (by assumption) ?_
      try simp only [sA, sB, sC]
      refine take_slot (i := 23) (d := 38) (v := undef) rfl rfl (by kernel_rfl) (by kernel_rfl) (by kernel_rfl) (fun _ _ _ h => h) (Or.inr ⟨by rfl, rfl⟩) (by assumption) ?_
      try simp only [sA, sB, sC]
      refine take_slot (i := 24) (d := 39) (v := undef) rfl rfl (by kernel_rfl) (by kernel_rfl) (by kernel_rfl) (fun _ _ _ h => h) (Or.inr ⟨by rfl, rfl⟩) (by assumption) ?_
      try simp only [sA, sB, sC]
      refine take_slot (i := 25) (d := 40) (v := undef) rfl rfl (by kernel_rfl) (by kernel_rfl) (by kernel_rfl) (fun _ _ _ h => h) (Or.inr ⟨by rfl, rfl⟩) (by assumption) ?_
      try simp only [sA, sB, sC]
      refine tq 26 41 ?_ ?_ ?_; rotate_left; (focus intro w h; (try dsimp only at h); go_simp; try with_reducible rfl); try simp only [sA, sB, sC]
      refine wpAnyH_done (by kernel_rfl) ?_ _
      have hB := hb5.trans hL
      clear hHeld hL
      go_wp2_with fail
      go_ret
      exact ⟨rfl, hB⟩
     ·rcases k with _ | j
      ·have HY := Lib.hid (hyes.out (by rw [hrow.out]; rfl))
       have hkk : 0 + 1 ≤ n := by omega
       refine wp_region_held_drew (S := fun w' => w'.cell? ⟨b4, 0, none⟩ = some (.int .i64 x) ∧ w'.cell? ⟨b4, 1, none⟩ = some (.int .i64 y) ∧ True) (by kernel_rfl) ?_ (fun hHeld => ?_)
       focus (exact ⟨r0, r1, trivial⟩)
       have hL : Below w.heap.size W5 W5.drew := Below.drew (Below.refl _ _)
       replace r0 : W5.drew.cell? ⟨b4, 0, none⟩ = some (.int .i64 x) := r0
       replace r1 : W5.drew.cell? ⟨b4, 1, none⟩ = some (.int .i64 y) := r1
       replace nr : b4 < W5.drew.heap.size := nr
       generalize hWd : W5.drew = wd at hHeld hL r0 r1 nr  ⊢
       clear hWd
       refine tq 0 15 ?_ ?_ ?_; rotate_left; (focus intro w h; (try dsimp only at h); go_simp; try with_reducible rfl); try simp only [sA, sB, sC]
       refine tq 1 16 ?_ ?_ ?_; rotate_left; (focus intro w h; (try dsimp only at h); go_simp; try with_reducible rfl); try simp only [sA, sB, sC]
       refine rd1 2 (fun K hK => ?_)
       go_simp
       have hb := (Below.refl wd.heap.size wd).alloc (Nat.le_refl _) (Obj.cells #[.int .i64 x] 3)
       have szZ1 := hL.size
       have ord1nr := nr
       replace r0 := cell_next hb nr r0
       replace r1 := cell_next hb nr r1
       replace nr := Nat.lt_of_lt_of_le nr hb.size
       replace hL := hL.trans (hb.mono (Nat.le_trans hBW hL.size))
       have K0 : (wd.alloc (Obj.cells #[.int .i64 x] 3)).cell? ⟨wd.heap.size, 0, none⟩ = some (.int .i64 x) := cell_new _ _ _ 0
       have nK : wd.heap.size < (wd.alloc (Obj.cells #[.int .i64 x] 3)).heap.size := by simp
       refine hK.out _ _ ⟨r0, r1, trivial⟩ (fun hHeld => ?_)
       clear hK K hb
       generalize wd.alloc (Obj.cells #[.int .i64 x] 3) = Z1 at *
       try simp only [Act.put, sA, sB, sC]
       refine rd1 3 (fun K hK => ?_)
       go_simp
       refine (C1.out _ _ _ nK K0).mono ?_
       rintro e Z2 ⟨rfl, hb⟩
       replace r0 := cell_next hb nr r0
       replace r1 := cell_next hb nr r1
       replace K0 := cell_next hb nK K0
       replace nr := Nat.lt_of_lt_of_le nr hb.size
       replace nK := Nat.lt_of_lt_of_le nK hb.size
       replace hL := hL.trans (hb.mono (Nat.le_trans hBW hL.size))
       refine hK.out _ _ ⟨r0, r1, trivial⟩ (fun hHeld => ?_)
       clear hK K hb
       try simp only [Act.put, sA, sB, sC]
       refine tq 4 19 ?_ ?_ ?_; rotate_left; (focus intro w h; (try dsimp only at h); go_simp; try with_reducible rfl); try simp only [sA, sB, sC]
       refine tq 5 20 ?_ ?_ ?_; rotate_left; (focus intro w h; (try dsimp only at h); go_simp; try with_reducible rfl); try simp only [sA, sB, sC]
       refine tq 6 21 ?_ ?_ ?_; rotate_left; (focus intro w h; (try dsimp only at h); go_simp; try with_reducible rfl); try simp only [sA, sB, sC]
       refine tq 7 22 ?_ ?_ ?_; rotate_left; (focus intro w h; (try dsimp only at h); go_simp; try with_reducible rfl); try simp only [sA, sB, sC]
       refine rd1 8 (fun K hK => ?_)
       go_simp
       have hb := (Below.refl Z2.heap.size Z2).alloc (Nat.le_refl _) (Obj.cells #[.int .i64 y] 3)
       have szZ3 := hL.size
       have ord3nr := nr
       have ord3nK := nK
       replace r0 := cell_next hb nr r0
       replace r1 := cell_next hb nr r1
       replace K0 := cell_next hb nK K0
       replace nr := Nat.lt_of_lt_of_le nr hb.size
       replace nK := Nat.lt_of_lt_of_le nK hb.size
       replace hL := hL.trans (hb.mono (Nat.le_trans hBW hL.size))
       have L0 : (Z2.alloc (Obj.cells #[.int .i64 y] 3)).cell? ⟨Z2.heap.size, 0, none⟩ = some (.int .i64 y) := cell_new _ _ _ 0
       have nL : Z2.heap.size < (Z2.alloc (Obj.cells #[.int .i64 y] 3)).heap.size := by simp
       refine hK.out _ _ ⟨r0, r1, trivial⟩ (fun hHeld => ?_)
       clear hK K hb
       generalize Z2.alloc (Obj.cells #[.int .i64 y] 3) = Z3 at *
       try simp only [Act.put, sA, sB, sC]
       refine rd1 9 (fun K hK => ?_)
       go_simp
       refine (C2.out _ _ _ nL L0).mono ?_
       rintro e Z4 ⟨rfl, hb⟩
       replace r0 := cell_next hb nr r0
       replace r1 := cell_next hb nr r1
       replace K0 := cell_next hb nK K0
       replace L0 := cell_next hb nL L0
       replace nr := Nat.lt_of_lt_of_le nr hb.size
       replace nK := Nat.lt_of_lt_of_le nK hb.size
       replace nL := Nat.lt_of_lt_of_le nL hb.size
       replace hL := hL.trans (hb.mono (Nat.le_trans hBW hL.size))
       refine hK.out _ _ ⟨r0, r1, trivial⟩ (fun hHeld => ?_)
       clear hK K hb
       try simp only [Act.put, sA, sB, sC]
       refine tq 10 25 ?_ ?_ ?_; rotate_left; (focus intro w h; (try dsimp only at h); go_simp; try with_reducible rfl); try simp only [sA, sB, sC]
       refine tq 11 26 ?_ ?_ ?_; rotate_left; (focus intro w h; (try dsimp only at h); go_simp; try with_reducible rfl); try simp only [sA, sB, sC]
       refine tq 12 27 ?_ ?_ ?_; rotate_left; (focus intro w h; (try dsimp only at h); go_simp; try with_reducible rfl); try simp only [sA, sB, sC]
       refine tq 13 28 ?_ ?_ ?_; rotate_left; (focus intro w h; (try dsimp only at h); go_simp; try with_reducible rfl); try simp only [sA, sB, sC]
       refine tq 14 29 ?_ ?_ ?_; rotate_left; (focus intro w h; (try dsimp only at h); go_simp; try with_reducible rfl); try simp only [sA, sB, sC]
       refine tq 15 30 ?_ ?_ ?_; rotate_left; (focus intro w h; (try dsimp only at h); go_simp; try with_reducible rfl); try simp only [sA, sB, sC]
       refine take_slot (i := 16) (d := 31) (v := undef) rfl rfl (by kernel_rfl) (by kernel_rfl) (by kernel_rfl) (fun _ _ _ h => h) (Or.inr ⟨by rfl, rfl⟩) (by assumption) ?_
       try simp only [sA, sB, sC]
       refine take_slot (i := 17) (d := 32) (v := undef) rfl rfl (by kernel_rfl) (by kernel_rfl) (by kernel_rfl) (fun _ _ _ h => h) (Or.inr ⟨by rfl, rfl⟩) (by assumption) ?_
       try simp only [sA, sB, sC]
       refine take_slot (i := 18) (d := 33) (v := undef) rfl rfl (by kernel_rfl) (by kernel_rfl) (by kernel_rfl) (fun _ _ _ h => h) (Or.inr ⟨by rfl, rfl⟩) (by assumption) ?_
       try simp only [sA, sB, sC]
       refine take_slot (i := 19) (d := 34) (v := undef) rfl rfl (by kernel_rfl) (by kernel_rfl) (by kernel_rfl) (fun _ _ _ h => h) (Or.inr ⟨by rfl, rfl⟩) (by assumption) ?_
       try simp only [sA, sB, sC]
       refine take_slot (i := 20) (d := 35) (v := undef) rfl rfl (by kernel_rfl) (by kernel_rfl) (by kernel_rfl) (fun _ _ _ h => h) (Or.inr ⟨by rfl, rfl⟩) (by assumption) ?_
       try simp only [sA, sB, sC]
       refine take_slot (i := 21) (d := 36) (v := undef) rfl rfl (by kernel_rfl) (by kernel_rfl) (by kernel_rfl) (fun _ _ _ h => h) (Or.inr ⟨by rfl, rfl⟩) (by assumption) ?_
       try simp only [sA, sB, sC]
       refine take_slot (i := 22) (d := 37) (v := undef) rfl rfl (by kernel_rfl) (by kernel_rfl) (by kernel_rfl) (fun _ _ _ h => h) (Or.inr ⟨by rfl, rfl⟩) (by assumption) ?_
       try simp only [sA, sB, sC]
       refine take_slot (i := 23) (d := 38) (v := undef) rfl rfl (by kernel_rfl) (by kernel_rfl) (by kernel_rfl) (fun _ _ _ h => h) (Or.inr ⟨by rfl, rfl⟩) (by assumption) ?_
       try simp only [sA, sB, sC]
       refine take_slot (i := 24) (d := 39) (v := undef) rfl rfl (by kernel_rfl) (by kernel_rfl) (by kernel_rfl) (fun _ _ _ h => h) (Or.inr ⟨by rfl, rfl⟩) (by assumption) ?_
       try simp only [sA, sB, sC]
       refine tq 25 40 ?_ ?_ ?_; rotate_left; (focus intro w h; (try dsimp only at h); go_simp; try with_reducible rfl); try simp only [sA, sB, sC]
       refine tq 26 41 ?_ ?_ ?_; rotate_left; (focus intro w h; (try dsimp only at h); go_simp; try with_reducible rfl); try simp only [sA, sB, sC]
       refine wpAnyH_done (by kernel_rfl) ?_ _
       have hB := hb5.trans hL
       clear hHeld hL
       go_wp2_with fail
       go_roundw
       case rel => exact ⟨_, hkk, by go_num, HY, hB⟩
       case measure => simp [RowKit.intOf]; omega
      ·obtain ⟨⟨x', y'⟩, hp'⟩ : ∃ p, xs[j]? = some p := ⟨_, List.getElem?_eq_getElem (by rw [Hn.out]; omega)⟩
       have p1 : W5.cell? ⟨g, off + j * 2 + 1, none⟩ = some (.int .i64 y') := cell_next hb5 hg (hc j _ hp').2
       obtain ⟨d, hd⟩ : ∃ d, decide (y ≤ y') = d := ⟨_, rfl⟩
       have hup : Hid (elUp xs (j + 1) y = !d) := Lib.hid (by rw [elUp_succ hp', ← hd]; by_cases h : y ≤ y' <;> simp [h] <;> omega)
       have y1 : IntKind.i64.wrap ((j : Int) + 1 - 1) = (j : Int) := by rw [show (j : Int) + 1 - 1 = j from by omega]; exact IntWalk.i64_in _ (by omega)
       have y2 : IntKind.i64.wrap (((j + 1 : Nat) : Int) - 1) = (j : Int) := y1
       have y5 : IntKind.i64.wrap (j : Int) = (j : Int) := IntWalk.i64_in _ (by omega)
       have y3 : decide ((0 : Int) < (j : Int) + 1) = true := decide_eq_true (by omega)
       have y4 : (j : Int) < (n : Int) := by omega
       have hkk : j + 1 + 1 ≤ n := by omega
       clear hc hp'
       refine wp_region_held_drew (S := fun w' => w'.cell? ⟨b4, 0, none⟩ = some (.int .i64 x) ∧ w'.cell? ⟨b4, 1, none⟩ = some (.int .i64 y) ∧ w'.cell? ⟨g, off + j * 2 + 1, none⟩ = some (.int .i64 y') ∧ True) (by kernel_rfl) ?_ (fun hHeld => ?_)
       focus (exact ⟨r0, r1, p1, trivial⟩)
       have hL : Below w.heap.size W5 W5.drew := Below.drew (Below.refl _ _)
       replace r0 : W5.drew.cell? ⟨b4, 0, none⟩ = some (.int .i64 x) := r0
       replace r1 : W5.drew.cell? ⟨b4, 1, none⟩ = some (.int .i64 y) := r1
       replace p1 : W5.drew.cell? ⟨g, off + j * 2 + 1, none⟩ = some (.int .i64 y') := p1
       replace nr : b4 < W5.drew.heap.size := nr
       replace ng : g < W5.drew.heap.size := ng
       generalize hWd : W5.drew = wd at hHeld hL r0 r1 p1 nr ng  ⊢
       clear hWd
       refine tq 0 15 ?_ ?_ ?_; rotate_left; (focus intro w h; (try dsimp only at h); go_simp; try with_reducible rfl); try simp only [sA, sB, sC]
       refine tq 1 16 ?_ ?_ ?_; rotate_left; (focus intro w h; (try dsimp only at h); go_simp; try with_reducible rfl); try simp only [sA, sB, sC]
       refine rd1 2 (fun K hK => ?_)
       go_simp
       have hb := (Below.refl wd.heap.size wd).alloc (Nat.le_refl _) (Obj.cells #[.int .i64 x] 3)
       have szZ1 := hL.size
       have ord1nr := nr
       have ord1ng := ng
       replace r0 := cell_next hb nr r0
       replace r1 := cell_next hb nr r1
       replace p1 := cell_next hb ng p1
       replace nr := Nat.lt_of_lt_of_le nr hb.size
       replace ng := Nat.lt_of_lt_of_le ng hb.size
       replace hL := hL.trans (hb.mono (Nat.le_trans hBW hL.size))
       have K0 : (wd.alloc (Obj.cells #[.int .i64 x] 3)).cell? ⟨wd.heap.size, 0, none⟩ = some (.int .i64 x) := cell_new _ _ _ 0
       have nK : wd.heap.size < (wd.alloc (Obj.cells #[.int .i64 x] 3)).heap.size := by simp
       refine hK.out _ _ ⟨r0, r1, p1, trivial⟩ (fun hHeld => ?_)
       clear hK K hb
       generalize wd.alloc (Obj.cells #[.int .i64 x] 3) = Z1 at *
       try simp only [Act.put, sA, sB, sC]
       refine rd1 3 (fun K hK => ?_)
       go_simp
       refine (C1.out _ _ _ nK K0).mono ?_
       rintro e Z2 ⟨rfl, hb⟩
       replace r0 := cell_next hb nr r0
       replace r1 := cell_next hb nr r1
       replace p1 := cell_next hb ng p1
       replace K0 := cell_next hb nK K0
       replace nr := Nat.lt_of_lt_of_le nr hb.size
       replace ng := Nat.lt_of_lt_of_le ng hb.size
       replace nK := Nat.lt_of_lt_of_le nK hb.size
       replace hL := hL.trans (hb.mono (Nat.le_trans hBW hL.size))
       refine hK.out _ _ ⟨r0, r1, p1, trivial⟩ (fun hHeld => ?_)
       clear hK K hb
       try simp only [Act.put, sA, sB, sC]
       refine tq 4 19 ?_ ?_ ?_; rotate_left; (focus intro w h; (try dsimp only at h); go_simp; try with_reducible rfl); try simp only [sA, sB, sC]
       refine tq 5 20 ?_ ?_ ?_; rotate_left; (focus intro w h; (try dsimp only at h); go_simp; try with_reducible rfl); try simp only [sA, sB, sC]
       refine tq 6 21 ?_ ?_ ?_; rotate_left; (focus intro w h; (try dsimp only at h); go_simp; try with_reducible rfl); try simp only [sA, sB, sC]
       refine tq 7 22 ?_ ?_ ?_; rotate_left; (focus intro w h; (try dsimp only at h); go_simp; try with_reducible rfl); try simp only [sA, sB, sC]
       refine rd1 8 (fun K hK => ?_)
       go_simp
       have hb := (Below.refl Z2.heap.size Z2).alloc (Nat.le_refl _) (Obj.cells #[.int .i64 y] 3)
       have szZ3 := hL.size
       have ord3nr := nr
       have ord3ng := ng
       have ord3nK := nK
       replace r0 := cell_next hb nr r0
       replace r1 := cell_next hb nr r1
       replace p1 := cell_next hb ng p1
       replace K0 := cell_next hb nK K0
       replace nr := Nat.lt_of_lt_of_le nr hb.size
       replace ng := Nat.lt_of_lt_of_le ng hb.size
       replace nK := Nat.lt_of_lt_of_le nK hb.size
       replace hL := hL.trans (hb.mono (Nat.le_trans hBW hL.size))
       have L0 : (Z2.alloc (Obj.cells #[.int .i64 y] 3)).cell? ⟨Z2.heap.size, 0, none⟩ = some (.int .i64 y) := cell_new _ _ _ 0
       have nL : Z2.heap.size < (Z2.alloc (Obj.cells #[.int .i64 y] 3)).heap.size := by simp
       refine hK.out _ _ ⟨r0, r1, p1, trivial⟩ (fun hHeld => ?_)
       clear hK K hb
       generalize Z2.alloc (Obj.cells #[.int .i64 y] 3) = Z3 at *
       try simp only [Act.put, sA, sB, sC]
       refine rd1 9 (fun K hK => ?_)
       go_simp
       refine (C2.out _ _ _ nL L0).mono ?_
       rintro e Z4 ⟨rfl, hb⟩
       replace r0 := cell_next hb nr r0
       replace r1 := cell_next hb nr r1
       replace p1 := cell_next hb ng p1
       replace K0 := cell_next hb nK K0
       replace L0 := cell_next hb nL L0
       replace nr := Nat.lt_of_lt_of_le nr hb.size
       replace ng := Nat.lt_of_lt_of_le ng hb.size
       replace nK := Nat.lt_of_lt_of_le nK hb.size
       replace nL := Nat.lt_of_lt_of_le nL hb.size
       replace hL := hL.trans (hb.mono (Nat.le_trans hBW hL.size))
       refine hK.out _ _ ⟨r0, r1, p1, trivial⟩ (fun hHeld => ?_)
       clear hK K hb
       try simp only [Act.put, sA, sB, sC]
       refine tq 10 25 ?_ ?_ ?_; rotate_left; (focus intro w h; (try dsimp only at h); go_simp; try with_reducible rfl); try simp only [sA, sB, sC]
       refine tq 11 26 ?_ ?_ ?_; rotate_left; (focus intro w h; (try dsimp only at h); go_simp; try with_reducible rfl); try simp only [sA, sB, sC]
       refine tq 12 27 ?_ ?_ ?_; rotate_left; (focus intro w h; (try dsimp only at h); go_simp; try with_reducible rfl); try simp only [sA, sB, sC]
       refine tq 13 28 ?_ ?_ ?_; rotate_left; (focus intro w h; (try dsimp only at h); go_simp; try with_reducible rfl); try simp only [sA, sB, sC]
       refine tq 14 29 ?_ ?_ ?_; rotate_left; (focus intro w h; (try dsimp only at h); go_simp; try with_reducible rfl); try simp only [sA, sB, sC]
       refine tq 15 30 ?_ ?_ ?_; rotate_left; (focus intro w h; (try dsimp only at h); go_simp; try with_reducible rfl); try simp only [sA, sB, sC]
       refine tq 16 31 ?_ ?_ ?_; rotate_left; (focus intro w h; (try dsimp only at h); go_simp; try with_reducible rfl); try simp only [sA, sB, sC]
       refine tq 17 32 ?_ ?_ ?_; rotate_left; (focus intro w h; (try dsimp only at h); go_simp; try with_reducible rfl); try simp only [sA, sB, sC]
       refine tq 18 33 ?_ ?_ ?_; rotate_left; (focus intro w h; (try dsimp only at h); go_simp; try with_reducible rfl); try simp only [sA, sB, sC]
       refine tq 19 34 ?_ ?_ ?_; rotate_left; (focus intro w h; (try dsimp only at h); go_simp; try with_reducible rfl); try simp only [sA, sB, sC]
       refine tq 20 35 ?_ ?_ ?_; rotate_left; (focus intro w h; (try dsimp only at h); go_simp; try with_reducible rfl); try simp only [sA, sB, sC]
       refine tq 21 36 ?_ ?_ ?_; rotate_left; (focus intro w h; (try dsimp only at h); go_simp; try with_reducible rfl); try simp only [sA, sB, sC]
       refine tq 22 37 ?_ ?_ ?_; rotate_left; (focus intro w h; (try dsimp only at h); go_simp; try with_reducible rfl); try simp only [sA, sB, sC]
       refine tq 23 38 ?_ ?_ ?_; rotate_left; (focus intro w h; (try dsimp only at h); go_simp; try with_reducible rfl); try simp only [sA, sB, sC]
       refine tq 24 39 ?_ ?_ ?_; rotate_left; (focus intro w h; (try dsimp only at h); go_simp; try with_reducible rfl); try simp only [sA, sB, sC]
       refine tq 25 40 ?_ ?_ ?_; rotate_left; (focus intro w h; (try dsimp only at h); go_simp; try with_reducible rfl); try simp only [sA, sB, sC]
       refine tq 26 41 ?_ ?_ ?_; rotate_left; (focus intro w h; (try dsimp only at h); go_simp; try with_reducible rfl); try simp only [sA, sB, sC]
       refine wpAnyH_done (by kernel_rfl) ?_ _
       have hB := hb5.trans hL
       clear hHeld hL
       cases d
       ·have HY := Lib.hid (hyes.out (by rw [hrow.out, hup.out]; rfl))
        go_wp2_with fail
        go_roundw
        case rel => exact ⟨_, hkk, by go_num, HY, hB⟩
        case measure => simp [RowKit.intOf]; omega
       ·have E : r = false := hno.out (by rw [hrow.out, hup.out]; rfl)
        subst E
        go_wp2_with fail
        go_ret
        exact ⟨rfl, hB⟩
   ·obtain rfl : k = n := by omega
    have E := HZ.out true ho.out
    subst E
    go_wp2_with fail
    go_ret
    exact ⟨rfl, hbr⟩
 ·have hE0 : (tabE xs == 0) = false := by simpa using hE
  have hz : elB xs = false := by simp [elB, hE]
  rw [hz]
  generalize tabE xs = E at *
  generalize xs.length = n at *
  clear hr HL hz
  go_enter Tryz.func42, Tryz.ntmps42
  go_wp2_with fail
  refine (C0.out _ (Below.refl _ _)).mono ?_
  rintro e w1 ⟨rfl, hb⟩
  go_wp2_with fail
  go_ret
  exact ⟨rfl, hb⟩
end Go.Proofs.YtgklpbgdimkhaaaGreat
