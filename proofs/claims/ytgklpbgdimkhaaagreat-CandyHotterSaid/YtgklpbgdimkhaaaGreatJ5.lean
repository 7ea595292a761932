/- Contracts of package candy: a batch in memory; greatest, cool, stir, seed, cook. -/
import Derived.Test.YtgklpbgdimkhaaaGreatJ4
import Derived.RangeFuncNested
import Derived.Maps.Own
import Derived.Maps.OwnOps
import Derived.Maps.OwnSet
import Derived.Maps.Views
namespace Go.Proofs.YtgklpbgdimkhaaaGreat
open Go.RowKit Go.Lib Go.Shelf
set_option linter.unusedVariables false
set_option linter.unusedSimpArgs false
attribute [local go_sem ↓] Go.wp_at_zero Go.wp_at_succ

attribute [local go_sem] Oper.semAt_some
/-- all blocks but those of U lie as they lay -/
def Kept (U : Nat → Prop) (W W' : World) : Prop := W.heap.size ≤ W'.heap.size ∧ ∀ k o, W.heap[k]? = some o → ¬ U k → W'.heap[k]? = some o
theorem Kept.refl (U : Nat → Prop) (W : World) : Kept U W W := ⟨Nat.le_refl _, fun _ _ h _ => h⟩
theorem Kept.trans {U : Nat → Prop} {A B C : World} (h : Kept U A B) (k : Kept U B C) : Kept U A C := ⟨Nat.le_trans h.1 k.1, fun i o ho hu => k.2 i o (h.2 i o ho hu) hu⟩
theorem Kept.mono {U V : Nat → Prop} {W W' : World} (h : Kept U W W') (hv : ∀ k, U k → V k) : Kept V W W' := ⟨h.1, fun k o ho hu => h.2 k o ho fun hc => hu (hv k hc)⟩
theorem Kept.put {U : Nat → Prop} (W : World) {l : Nat} (o' : Obj) (hl : U l) : Kept U W (W.putObj l o') := ⟨by simp, fun k o ho hu => (World.putObj_heap_other (fun e => hu (by rw [e]; exact hl))).trans ho⟩
theorem Kept.heap {U : Nat → Prop} {W W' : World} (h : Kept U W W') {k : Nat} (hk : k < W.heap.size) (hu : ¬ U k) : W'.heap[k]? = W.heap[k]? := by
 rw [Array.getElem?_eq_getElem hk]
 exact h.2 k _ (Array.getElem?_eq_getElem hk) hu
theorem Kept.cell {U : Nat → Prop} {W W' : World} (h : Kept U W W') {p : Addr} (hk : p.block < W.heap.size) (hu : ¬ U p.block) : W'.cell? p = W.cell? p := World.cell?_of_block (w := W) (h.heap hk hu)
theorem Kept.frozen {U : Nat → Prop} {W W' : World} (h : Kept U W W') {p : Addr} (hk : p.block < W.heap.size) (hu : ¬ U p.block) : W'.frozen? p = W.frozen? p := World.frozen?_of_block (w := W) (h.heap hk hu)
theorem Kept.of_below {B : Nat} {U : Nat → Prop} {W W' : World} (h : Below B W W') (hU : ∀ k, ¬ U k → k < B) : Kept U W W' := ⟨h.size, fun k o ho hu => (h.block k (hU k hu)).trans ho⟩
theorem Kept.set {U : Nat → Prop} (W : World) {p : Addr} (hp : U p.block) (v : Value) : Kept U W (W.setCell p v) := ⟨by simp [World.setCell], fun k o ho hu => (Below.heap_setCell _ _ _ _ (fun e => hu (by rw [e]; exact hp))).trans ho⟩
theorem Kept.of_below' {W W' : World} (h : Below W.heap.size W W') (U : Nat → Prop) : Kept U W W' := ⟨h.size, fun k o ho _ => (h.block k (Array.getElem?_eq_some_iff.1 ho).1).trans ho⟩
theorem Kept.of_grown {W W' : World} {row : Option Nat} (h : W.grownBy W' row) : Kept (fun i => row = some i) W W' := ⟨h.size, fun k o ho hu => (h.block k (Array.getElem?_eq_some_iff.1 ho).1 (fun e => hu e.symm)).trans ho⟩
theorem ownsRow_kept {U : Nat → Prop} {w w' : World} {base e size n : Nat} {v : Value} {xs : List Value} (h : w.ownsRow base e size v n xs) (hk : Kept U w w') (hne : ∀ g, v.ownBlock = some g → ¬ U g) : w'.ownsRow base e size v n xs := by
 refine ⟨h.1, ?_⟩
 rcases h.2 with h0 | ⟨g, cap, cur, rfl, hb, hg, rest⟩
 ·exact .inl h0
 ·exact .inr ⟨g, cap, cur, rfl, hb, hk.2 _ _ hg (hne g rfl), rest⟩

theorem grown_trans {w W W' : World} {r : Option Nat} (h : w.grownBy W r) (h' : W.grownBy W' r) : w.grownBy W' r :=
 ⟨h'.os.trans h.os, h'.tape.trans h.tape, h'.output.trans h.output, Nat.le_trans h.size h'.size, fun k hk hr => (h'.block k (Nat.lt_of_lt_of_le hk h.size) hr).trans (h.block k hk hr)⟩
theorem grown_kept {b : Nat} {W W' : World} (hL : Below b W W') (hQ : Kept (fun i => i = b) W W') : W.grownBy W' (some b) :=
 ⟨hL.os, hL.tape, hL.output, hL.size, fun k hk hr => hQ.heap hk (fun e => hr (by rw [e]))⟩
/-- an act -/
structure Ac where
 k : Int
 lo : Int
 hi : Int
 m : Int
def cAc (a : Ac) : List Value := [.int .i64 a.k, .int .i64 a.lo, .int .i64 a.hi, .int .i64 a.m]
/-- the batch at block b -/
structure BtAt (b : Nat) (w : World) (x : St) (v1 v2 v3 : Value) (R : Cr) : Prop where
 n : b < w.heap.size
 c : ∀ j u, (cSt x ++ cCr v1 v2 v3 R)[j]? = some u → w.cell? ⟨b, j, none⟩ = some u
 f : ∀ j, j < 15 → w.frozen? ⟨b, j, none⟩ = false
theorem bt_cells {b : Nat} {w : World} {u0 u1 u2 u3 u4 u5 u6 u7 u8 u9 u10 u11 u12 u13 u14 : Value} (h0 : w.cell? ⟨b, 0, none⟩ = some u0) (h1 : w.cell? ⟨b, 1, none⟩ = some u1) (h2 : w.cell? ⟨b, 2, none⟩ = some u2) (h3 : w.cell? ⟨b, 3, none⟩ = some u3) (h4 : w.cell? ⟨b, 4, none⟩ = some u4) (h5 : w.cell? ⟨b, 5, none⟩ = some u5) (h6 : w.cell? ⟨b, 6, none⟩ = some u6) (h7 : w.cell? ⟨b, 7, none⟩ = some u7) (h8 : w.cell? ⟨b, 8, none⟩ = some u8) (h9 : w.cell? ⟨b, 9, none⟩ = some u9) (h10 : w.cell? ⟨b, 10, none⟩ = some u10) (h11 : w.cell? ⟨b, 11, none⟩ = some u11) (h12 : w.cell? ⟨b, 12, none⟩ = some u12) (h13 : w.cell? ⟨b, 13, none⟩ = some u13) (h14 : w.cell? ⟨b, 14, none⟩ = some u14) : ∀ j u, ([u0, u1, u2, u3, u4, u5, u6, u7, u8, u9, u10, u11, u12, u13, u14] : List Value)[j]? = some u → w.cell? ⟨b, j, none⟩ = some u := by
 intro j u hj
 rcases j with _ | j
 ·simp at hj; subst hj; exact h0
 rcases j with _ | j
 ·simp at hj; subst hj; exact h1
 rcases j with _ | j
 ·simp at hj; subst hj; exact h2
 rcases j with _ | j
 ·simp at hj; subst hj; exact h3
 rcases j with _ | j
 ·simp at hj; subst hj; exact h4
 rcases j with _ | j
 ·simp at hj; subst hj; exact h5
 rcases j with _ | j
 ·simp at hj; subst hj; exact h6
 rcases j with _ | j
 ·simp at hj; subst hj; exact h7
 rcases j with _ | j
 ·simp at hj; subst hj; exact h8
 rcases j with _ | j
 ·simp at hj; subst hj; exact h9
 rcases j with _ | j
 ·simp at hj; subst hj; exact h10
 rcases j with _ | j
 ·simp at hj; subst hj; exact h11
 rcases j with _ | j
 ·simp at hj; subst hj; exact h12
 rcases j with _ | j
 ·simp at hj; subst hj; exact h13
 rcases j with _ | j
 ·simp at hj; subst hj; exact h14
 ·simp at hj
theorem bt_froz {b : Nat} {w : World} (h0 : w.frozen? ⟨b, 0, none⟩ = false) (h1 : w.frozen? ⟨b, 1, none⟩ = false) (h2 : w.frozen? ⟨b, 2, none⟩ = false) (h3 : w.frozen? ⟨b, 3, none⟩ = false) (h4 : w.frozen? ⟨b, 4, none⟩ = false) (h5 : w.frozen? ⟨b, 5, none⟩ = false) (h6 : w.frozen? ⟨b, 6, none⟩ = false) (h7 : w.frozen? ⟨b, 7, none⟩ = false) (h8 : w.frozen? ⟨b, 8, none⟩ = false) (h9 : w.frozen? ⟨b, 9, none⟩ = false) (h10 : w.frozen? ⟨b, 10, none⟩ = false) (h11 : w.frozen? ⟨b, 11, none⟩ = false) (h12 : w.frozen? ⟨b, 12, none⟩ = false) (h13 : w.frozen? ⟨b, 13, none⟩ = false) (h14 : w.frozen? ⟨b, 14, none⟩ = false) : ∀ j, j < 15 → w.frozen? ⟨b, j, none⟩ = false := by
 intro j hj
 rcases j with _ | j
 ·exact h0
 rcases j with _ | j
 ·exact h1
 rcases j with _ | j
 ·exact h2
 rcases j with _ | j
 ·exact h3
 rcases j with _ | j
 ·exact h4
 rcases j with _ | j
 ·exact h5
 rcases j with _ | j
 ·exact h6
 rcases j with _ | j
 ·exact h7
 rcases j with _ | j
 ·exact h8
 rcases j with _ | j
 ·exact h9
 rcases j with _ | j
 ·exact h10
 rcases j with _ | j
 ·exact h11
 rcases j with _ | j
 ·exact h12
 rcases j with _ | j
 ·exact h13
 rcases j with _ | j
 ·exact h14
 ·omega
def coE (x : St) (lo hi : Int) : Int := if rgB (-2000) 2000 lo hi = true ∧ lo ≤ x.hl ∧ hi ≤ x.hh then 0 else 3
def coS (x : St) (lo hi : Int) : St := if coE x lo hi = 0 then { x with hl := lo, hh := hi } else x
def siE (x : St) (lo hi : Int) : Int := if rgB 0 1000 lo hi = true then (if 1000 < x.th + hi then 10 else 0) else 3
def siS (x : St) (lo hi : Int) : St := if siE x lo hi = 0 then { x with sl := if x.bg then x.sl else x.hl, sh := if x.bg then x.sh else x.hh, bg := true, tl := x.tl + lo, th := x.th + hi } else x
def seE (x : St) (m : Int) : Int := if inB 0 1000000 m = true then (if 1000000 < x.se + m then 10 else 0) else 3
def seS (x : St) (m : Int) : St := if seE x m = 0 then { x with se := x.se + m } else x
noncomputable def ckE (R : Cr) (x : St) (lo hi : Int) : Int := if x.bg then 9 else dnE R.xs R.bl R.bh lo hi
noncomputable def ckS (R : Cr) (x : St) (lo hi : Int) : St := if ckE R x lo hi = 0 then { x with dl := max x.dl (dnR R.xs R.bl R.bh lo hi).1, dh := max x.dh (dnR R.xs R.bl R.bh lo hi).2, hl := lo, hh := hi } else x
/-- what a batch's state keeps to -/
structure StOk (x : St) : Prop where
 t : 0 ≤ x.tl ∧ x.tl ≤ x.th ∧ x.th ≤ 1000
 s : 0 ≤ x.se ∧ x.se ≤ 1000000

set_option maxRecDepth 20000 in
set_option maxHeartbeats 4000000 in
theorem seed_any (b : Nat) (x : St) (v1 v2 v3 : Value) (R : Cr) (a : Ac) (B : Nat) (w : World) (hx : StOk x) (h : BtAt b w x v1 v2 v3 R) (hv : CrAt B w v1 v2 v3 R) :
  Calls Tryz.prog 122 #[.pointer (some ⟨b, 0, none⟩), .agg (cAc a).toArray] w fun e w' => e = .returned (.int .i64 (seE x a.m)) ∧ BtAt b w' (seS x a.m) v1 v2 v3 R ∧ w.grownBy w' (some b) := by
 obtain ⟨k, lo, hi, m⟩ := a
 have C1 := Lib.hid (fun (W : World) (g c : Nat) => jin1v_any 0 1000000 m g c W)
 obtain ⟨E, hE⟩ : ∃ E, seE x m = E := ⟨_, rfl⟩
 obtain ⟨S, hS⟩ : ∃ S, seS x m = S := ⟨_, rfl⟩
 have HS : Hid (S = if E = 0 then { x with se := x.se + m } else x) := Lib.hid (by rw [← hS, ← hE]; rfl)
 have HE : Hid (E = if inB 0 1000000 m = true then (if 1000000 < x.se + m then 10 else 0) else 3) := Lib.hid (by rw [← hE]; rfl)
 dsimp only
 rw [hE, hS]
 clear hE hS
 obtain ⟨ht, hs⟩ := hx
 have HI := Lib.hid (fun (h : inB 0 1000000 m = true) => (by simpa [inB] using h : 0 ≤ m ∧ m ≤ 1000000))
 obtain ⟨np, hpc, hpf⟩ := h
 obtain ⟨A1, c1, A2, c2, A3, c3, rfl, rfl, rfl⟩ := hv.slices
 clear hv
 have nb := np
 obtain ⟨dl, dh, hl, hh, sl, sh, tl, th, bg, se⟩ := x
 obtain ⟨xs, ys, bl, bh, ps⟩ := R
 dsimp only at *
 have p0 : w.cell? ⟨b, 0, none⟩ = some (.int .i64 dl) := hpc 0 _ rfl
 have p1 : w.cell? ⟨b, 1, none⟩ = some (.int .i64 dh) := hpc 1 _ rfl
 have p2 : w.cell? ⟨b, 2, none⟩ = some (.int .i64 hl) := hpc 2 _ rfl
 have p3 : w.cell? ⟨b, 3, none⟩ = some (.int .i64 hh) := hpc 3 _ rfl
 have p4 : w.cell? ⟨b, 4, none⟩ = some (.int .i64 sl) := hpc 4 _ rfl
 have p5 : w.cell? ⟨b, 5, none⟩ = some (.int .i64 sh) := hpc 5 _ rfl
 have p6 : w.cell? ⟨b, 6, none⟩ = some (.int .i64 tl) := hpc 6 _ rfl
 have p7 : w.cell? ⟨b, 7, none⟩ = some (.int .i64 th) := hpc 7 _ rfl
 have p8 : w.cell? ⟨b, 8, none⟩ = some (.bool bg) := hpc 8 _ rfl
 have p9 : w.cell? ⟨b, 9, none⟩ = some (.int .i64 se) := hpc 9 _ rfl
 have p10 : w.cell? ⟨b, 10, none⟩ = some (.slice A1 xs.length c1) := hpc 10 _ rfl
 have p11 : w.cell? ⟨b, 11, none⟩ = some (.slice A2 ys.length c2) := hpc 11 _ rfl
 have p12 : w.cell? ⟨b, 12, none⟩ = some (.int .i64 bl) := hpc 12 _ rfl
 have p13 : w.cell? ⟨b, 13, none⟩ = some (.int .i64 bh) := hpc 13 _ rfl
 have p14 : w.cell? ⟨b, 14, none⟩ = some (.slice A3 ps.length c3) := hpc 14 _ rfl
 have fp0 := hpf 0 (by omega)
 have fp1 := hpf 1 (by omega)
 have fp2 := hpf 2 (by omega)
 have fp3 := hpf 3 (by omega)
 have fp4 := hpf 4 (by omega)
 have fp5 := hpf 5 (by omega)
 have fp6 := hpf 6 (by omega)
 have fp7 := hpf 7 (by omega)
 have fp8 := hpf 8 (by omega)
 have fp9 := hpf 9 (by omega)
 have fp10 := hpf 10 (by omega)
 have fp11 := hpf 11 (by omega)
 have fp12 := hpf 12 (by omega)
 have fp13 := hpf 13 (by omega)
 have fp14 := hpf 14 (by omega)
 clear hpc hpf
 generalize xs.length = n1 at *
 generalize ys.length = n2 at *
 generalize ps.length = n3 at *
 dsimp only [cAc]
 generalize inB 0 1000000 m = z1 at *
 go_enter Tryz.func122, Tryz.ntmps122
 go_wp2_with fail
 refine (C1.out _ _ _ (by simp) (by simp [go_sem])).mono ?_
 rintro e W1 ⟨rfl, hb⟩
 replace p0 := cell_next (below2 hb) np p0
 replace fp0 := frozen_next (below2 hb) np fp0
 replace p1 := cell_next (below2 hb) np p1
 replace fp1 := frozen_next (below2 hb) np fp1
 replace p2 := cell_next (below2 hb) np p2
 replace fp2 := frozen_next (below2 hb) np fp2
 replace p3 := cell_next (below2 hb) np p3
 replace fp3 := frozen_next (below2 hb) np fp3
 replace p4 := cell_next (below2 hb) np p4
 replace fp4 := frozen_next (below2 hb) np fp4
 replace p5 := cell_next (below2 hb) np p5
 replace fp5 := frozen_next (below2 hb) np fp5
 replace p6 := cell_next (below2 hb) np p6
 replace fp6 := frozen_next (below2 hb) np fp6
 replace p7 := cell_next (below2 hb) np p7
 replace fp7 := frozen_next (below2 hb) np fp7
 replace p8 := cell_next (below2 hb) np p8
 replace fp8 := frozen_next (below2 hb) np fp8
 replace p9 := cell_next (below2 hb) np p9
 replace fp9 := frozen_next (below2 hb) np fp9
 replace p10 := cell_next (below2 hb) np p10
 replace fp10 := frozen_next (below2 hb) np fp10
 replace p11 := cell_next (below2 hb) np p11
 replace fp11 := frozen_next (below2 hb) np fp11
 replace p12 := cell_next (below2 hb) np p12
 replace fp12 := frozen_next (below2 hb) np fp12
 replace p13 := cell_next (below2 hb) np p13
 replace fp13 := frozen_next (below2 hb) np fp13
 replace p14 := cell_next (below2 hb) np p14
 replace fp14 := frozen_next (below2 hb) np fp14
 replace np := Nat.lt_of_lt_of_le np (below2 hb).size
 have t0 := cell_next hb (b := w.heap.size) (o := 0) (by simp <;> omega) (v := some (.int .i64 k)) (by simp [go_sem])
 have t1 := cell_next hb (b := w.heap.size) (o := 1) (by simp <;> omega) (v := some (.int .i64 lo)) (by simp [go_sem])
 have t2 := cell_next hb (b := w.heap.size) (o := 2) (by simp <;> omega) (v := some (.int .i64 hi)) (by simp [go_sem])
 have t3 := cell_next hb (b := w.heap.size) (o := 3) (by simp <;> omega) (v := some (.int .i64 m)) (by simp [go_sem])
 have nt : w.heap.size < W1.heap.size := by have := hb.size; simp at this; omega
 have hB := (below2 hb)
 clear hb
 cases z1
 ·clear HI
  obtain rfl : E = 3 := HE.out.trans (by simp [*])
  obtain rfl : S = ⟨dl, dh, hl, hh, sl, sh, tl, th, bg, se⟩ := HS.out.trans (by simp)
  clear HE HS
  have hG : w.grownBy W1 (some b) := only_of_below' hB
  go_wp2_with fail
  go_ret
  exact ⟨rfl, ⟨np, bt_cells p0 p1 p2 p3 p4 p5 p6 p7 p8 p9 p10 p11 p12 p13 p14, bt_froz fp0 fp1 fp2 fp3 fp4 fp5 fp6 fp7 fp8 fp9 fp10 fp11 fp12 fp13 fp14⟩, hG⟩
 ·have hm := HI.out (by simp)
  clear HI
  have y1 : IntKind.i64.wrap (se + m) = se + m := IntWalk.i64_in _ (by omega)
  by_cases hd : 1000000 < se + m
  ·have d1 : decide (1000000 < se + m) = true := decide_eq_true hd
   obtain rfl : E = 10 := HE.out.trans (by simp [*])
   obtain rfl : S = ⟨dl, dh, hl, hh, sl, sh, tl, th, bg, se⟩ := HS.out.trans (by simp)
   clear HE HS
   go_wp2_with fail
   have hBW : W1.heap.size ≤ W1.heap.size := Nat.le_refl _
   refine wp_region_held_drew (S := fun w' => w'.cell? ⟨b, 9, none⟩ = some (.int .i64 se) ∧ w'.cell? ⟨w.heap.size, 3, none⟩ = some (.int .i64 m) ∧ True) (by kernel_rfl) ?_ (fun hHeld => ?_)
   focus (exact ⟨p9, t3, trivial⟩)
   have hL : Below W1.heap.size W1 W1.drew := Below.drew (Below.refl _ _)
   replace p0 : W1.drew.cell? ⟨b, 0, none⟩ = some (.int .i64 dl) := p0
   replace fp0 : W1.drew.frozen? ⟨b, 0, none⟩ = false := fp0
   replace p1 : W1.drew.cell? ⟨b, 1, none⟩ = some (.int .i64 dh) := p1
   replace fp1 : W1.drew.frozen? ⟨b, 1, none⟩ = false := fp1
   replace p2 : W1.drew.cell? ⟨b, 2, none⟩ = some (.int .i64 hl) := p2
   replace fp2 : W1.drew.frozen? ⟨b, 2, none⟩ = false := fp2
   replace p3 : W1.drew.cell? ⟨b, 3, none⟩ = some (.int .i64 hh) := p3
   replace fp3 : W1.drew.frozen? ⟨b, 3, none⟩ = false := fp3
   replace p4 : W1.drew.cell? ⟨b, 4, none⟩ = some (.int .i64 sl) := p4
   replace fp4 : W1.drew.frozen? ⟨b, 4, none⟩ = false := fp4
   replace p5 : W1.drew.cell? ⟨b, 5, none⟩ = some (.int .i64 sh) := p5
   replace fp5 : W1.drew.frozen? ⟨b, 5, none⟩ = false := fp5
   replace p6 : W1.drew.cell? ⟨b, 6, none⟩ = some (.int .i64 tl) := p6
   replace fp6 : W1.drew.frozen? ⟨b, 6, none⟩ = false := fp6
   replace p7 : W1.drew.cell? ⟨b, 7, none⟩ = some (.int .i64 th) := p7
   replace fp7 : W1.drew.frozen? ⟨b, 7, none⟩ = false := fp7
   replace p8 : W1.drew.cell? ⟨b, 8, none⟩ = some (.bool bg) := p8
   replace fp8 : W1.drew.frozen? ⟨b, 8, none⟩ = false := fp8
   replace p9 : W1.drew.cell? ⟨b, 9, none⟩ = some (.int .i64 se) := p9
   replace fp9 : W1.drew.frozen? ⟨b, 9, none⟩ = false := fp9
   replace p10 : W1.drew.cell? ⟨b, 10, none⟩ = some (.slice A1 n1 c1) := p10
   replace fp10 : W1.drew.frozen? ⟨b, 10, none⟩ = false := fp10
   replace p11 : W1.drew.cell? ⟨b, 11, none⟩ = some (.slice A2 n2 c2) := p11
   replace fp11 : W1.drew.frozen? ⟨b, 11, none⟩ = false := fp11
   replace p12 : W1.drew.cell? ⟨b, 12, none⟩ = some (.int .i64 bl) := p12
   replace fp12 : W1.drew.frozen? ⟨b, 12, none⟩ = false := fp12
   replace p13 : W1.drew.cell? ⟨b, 13, none⟩ = some (.int .i64 bh) := p13
   replace fp13 : W1.drew.frozen? ⟨b, 13, none⟩ = false := fp13
   replace p14 : W1.drew.cell? ⟨b, 14, none⟩ = some (.slice A3 n3 c3) := p14
   replace fp14 : W1.drew.frozen? ⟨b, 14, none⟩ = false := fp14
   replace t0 : W1.drew.cell? ⟨w.heap.size, 0, none⟩ = some (.int .i64 k) := t0
   replace t1 : W1.drew.cell? ⟨w.heap.size, 1, none⟩ = some (.int .i64 lo) := t1
   replace t2 : W1.drew.cell? ⟨w.heap.size, 2, none⟩ = some (.int .i64 hi) := t2
   replace t3 : W1.drew.cell? ⟨w.heap.size, 3, none⟩ = some (.int .i64 m) := t3
   replace np : b < W1.drew.heap.size := np
   replace nt : w.heap.size < W1.drew.heap.size := nt
   generalize hWd : W1.drew = wd2 at hHeld hL p0 fp0 p1 fp1 p2 fp2 p3 fp3 p4 fp4 p5 fp5 p6 fp6 p7 fp7 p8 fp8 p9 fp9 p10 fp10 p11 fp11 p12 fp12 p13 fp13 p14 fp14 t0 t1 t2 t3 np nt  ⊢
   clear hWd
   refine tq 0 10 ?_ ?_ ?_; rotate_left; (focus intro w h; (try dsimp only at h); go_simp; try with_reducible rfl); try simp only [sA, sB, sC]
   refine tq 1 11 ?_ ?_ ?_; rotate_left; (focus intro w h; (try dsimp only at h); go_simp; try with_reducible rfl); try simp only [sA, sB, sC]
   refine tq 2 12 ?_ ?_ ?_; rotate_left; (focus intro w h; (try dsimp only at h); go_simp; try with_reducible rfl); try simp only [sA, sB, sC]
   refine tq 3 13 ?_ ?_ ?_; rotate_left; (focus intro w h; (try dsimp only at h); go_simp; try with_reducible rfl); try simp only [sA, sB, sC]
   refine tq 4 14 ?_ ?_ ?_; rotate_left; (focus intro w h; (try dsimp only at h); go_simp; try with_reducible rfl); try simp only [sA, sB, sC]
   refine tq 5 15 ?_ ?_ ?_; rotate_left; (focus intro w h; (try dsimp only at h); go_simp; try with_reducible rfl); try simp only [sA, sB, sC]
   refine tq 6 16 ?_ ?_ ?_; rotate_left; (focus intro w h; (try dsimp only at h); go_simp; try with_reducible rfl); try simp only [sA, sB, sC]
   refine tq 7 17 ?_ ?_ ?_; rotate_left; (focus intro w h; (try dsimp only at h); go_simp; try with_reducible rfl); try simp only [sA, sB, sC]
   refine tq 8 18 ?_ ?_ ?_; rotate_left; (focus intro w h; (try dsimp only at h); go_simp; try with_reducible rfl); try simp only [sA, sB, sC]
   refine wpAnyH_done (by kernel_rfl) ?_ _
   replace hB := hB.trans (hL.mono hB.size)
   clear hHeld hL hBW
   have hG : w.grownBy wd2 (some b) := only_of_below' hB
   go_wp2_with fail
   go_ret
   exact ⟨rfl, ⟨np, bt_cells p0 p1 p2 p3 p4 p5 p6 p7 p8 p9 p10 p11 p12 p13 p14, bt_froz fp0 fp1 fp2 fp3 fp4 fp5 fp6 fp7 fp8 fp9 fp10 fp11 fp12 fp13 fp14⟩, hG⟩
  ·have d1 : decide (1000000 < se + m) = false := decide_eq_false hd
   obtain rfl : E = 0 := HE.out.trans (by simp [*])
   obtain rfl : S = ⟨dl, dh, hl, hh, sl, sh, tl, th, bg, se + m⟩ := HS.out.trans (by simp)
   clear HE HS
   go_wp2_with fail
   have hBW : W1.heap.size ≤ W1.heap.size := Nat.le_refl _
   refine wp_region_held_drew (S := fun w' => w'.cell? ⟨b, 9, none⟩ = some (.int .i64 se) ∧ w'.cell? ⟨w.heap.size, 3, none⟩ = some (.int .i64 m) ∧ True) (by kernel_rfl) ?_ (fun hHeld => ?_)
   focus (exact ⟨p9, t3, trivial⟩)
   have hL : Below W1.heap.size W1 W1.drew := Below.drew (Below.refl _ _)
   replace p0 : W1.drew.cell? ⟨b, 0, none⟩ = some (.int .i64 dl) := p0
   replace fp0 : W1.drew.frozen? ⟨b, 0, none⟩ = false := fp0
   replace p1 : W1.drew.cell? ⟨b, 1, none⟩ = some (.int .i64 dh) := p1
   replace fp1 : W1.drew.frozen? ⟨b, 1, none⟩ = false := fp1
   replace p2 : W1.drew.cell? ⟨b, 2, none⟩ = some (.int .i64 hl) := p2
   replace fp2 : W1.drew.frozen? ⟨b, 2, none⟩ = false := fp2
   replace p3 : W1.drew.cell? ⟨b, 3, none⟩ = some (.int .i64 hh) := p3
   replace fp3 : W1.drew.frozen? ⟨b, 3, none⟩ = false := fp3
   replace p4 : W1.drew.cell? ⟨b, 4, none⟩ = some (.int .i64 sl) := p4
   replace fp4 : W1.drew.frozen? ⟨b, 4, none⟩ = false := fp4
   replace p5 : W1.drew.cell? ⟨b, 5, none⟩ = some (.int .i64 sh) := p5
   replace fp5 : W1.drew.frozen? ⟨b, 5, none⟩ = false := fp5
   replace p6 : W1.drew.cell? ⟨b, 6, none⟩ = some (.int .i64 tl) := p6
   replace fp6 : W1.drew.frozen? ⟨b, 6, none⟩ = false := fp6
   replace p7 : W1.drew.cell? ⟨b, 7, none⟩ = some (.int .i64 th) := p7
   replace fp7 : W1.drew.frozen? ⟨b, 7, none⟩ = false := fp7
   replace p8 : W1.drew.cell? ⟨b, 8, none⟩ = some (.bool bg) := p8
   replace fp8 : W1.drew.frozen? ⟨b, 8, none⟩ = false := fp8
   replace p9 : W1.drew.cell? ⟨b, 9, none⟩ = some (.int .i64 se) := p9
   replace fp9 : W1.drew.frozen? ⟨b, 9, none⟩ = false := fp9
   replace p10 : W1.drew.cell? ⟨b, 10, none⟩ = some (.slice A1 n1 c1) := p10
   replace fp10 : W1.drew.frozen? ⟨b, 10, none⟩ = false := fp10
   replace p11 : W1.drew.cell? ⟨b, 11, none⟩ = some (.slice A2 n2 c2) := p11
   replace fp11 : W1.drew.frozen? ⟨b, 11, none⟩ = false := fp11
   replace p12 : W1.drew.cell? ⟨b, 12, none⟩ = some (.int .i64 bl) := p12
   replace fp12 : W1.drew.frozen? ⟨b, 12, none⟩ = false := fp12
   replace p13 : W1.drew.cell? ⟨b, 13, none⟩ = some (.int .i64 bh) := p13
   replace fp13 : W1.drew.frozen? ⟨b, 13, none⟩ = false := fp13
   replace p14 : W1.drew.cell? ⟨b, 14, none⟩ = some (.slice A3 n3 c3) := p14
   replace fp14 : W1.drew.frozen? ⟨b, 14, none⟩ = false := fp14
   replace t0 : W1.drew.cell? ⟨w.heap.size, 0, none⟩ = some (.int .i64 k) := t0
   replace t1 : W1.drew.cell? ⟨w.heap.size, 1, none⟩ = some (.int .i64 lo) := t1
   replace t2 : W1.drew.cell? ⟨w.heap.size, 2, none⟩ = some (.int .i64 hi) := t2
   replace t3 : W1.drew.cell? ⟨w.heap.size, 3, none⟩ = some (.int .i64 m) := t3
   replace np : b < W1.drew.heap.size := np
   replace nt : w.heap.size < W1.drew.heap.size := nt
   generalize hWd : W1.drew = wd2 at hHeld hL p0 fp0 p1 fp1 p2 fp2 p3 fp3 p4 fp4 p5 fp5 p6 fp6 p7 fp7 p8 fp8 p9 fp9 p10 fp10 p11 fp11 p12 fp12 p13 fp13 p14 fp14 t0 t1 t2 t3 np nt  ⊢
   clear hWd
   refine tq 0 10 ?_ ?_ ?_; rotate_left; (focus intro w h; (try dsimp only at h); go_simp; try with_reducible rfl); try simp only [sA, sB, sC]
   refine tq 1 11 ?_ ?_ ?_; rotate_left; (focus intro w h; (try dsimp only at h); go_simp; try with_reducible rfl); try simp only [sA, sB, sC]
   refine tq 2 12 ?_ ?_ ?_; rotate_left; (focus intro w h; (try dsimp only at h); go_simp; try with_reducible rfl); try simp only [sA, sB, sC]
   refine tq 3 13 ?_ ?_ ?_; rotate_left; (focus intro w h; (try dsimp only at h); go_simp; try with_reducible rfl); try simp only [sA, sB, sC]
   refine tq 4 14 ?_ ?_ ?_; rotate_left; (focus intro w h; (try dsimp only at h); go_simp; try with_reducible rfl); try simp only [sA, sB, sC]
   refine tq 5 15 ?_ ?_ ?_; rotate_left; (focus intro w h; (try dsimp only at h); go_simp; try with_reducible rfl); try simp only [sA, sB, sC]
   refine tq 6 16 ?_ ?_ ?_; rotate_left; (focus intro w h; (try dsimp only at h); go_simp; try with_reducible rfl); try simp only [sA, sB, sC]
   refine tq 7 17 ?_ ?_ ?_; rotate_left; (focus intro w h; (try dsimp only at h); go_simp; try with_reducible rfl); try simp only [sA, sB, sC]
   refine tq 8 18 ?_ ?_ ?_; rotate_left; (focus intro w h; (try dsimp only at h); go_simp; try with_reducible rfl); try simp only [sA, sB, sC]
   refine wpAnyH_done (by kernel_rfl) ?_ _
   replace hB := hB.trans (hL.mono hB.size)
   clear hHeld hL hBW
   have hG : w.grownBy wd2 (some b) := only_of_below' hB
   go_wp2_with fail
   have hBW : b ≤ wd2.heap.size := Nat.le_of_lt np
   refine wp_region_held_drew (S := fun w' => w'.cell? ⟨w.heap.size, 3, none⟩ = some (.int .i64 m) ∧ True) (by kernel_rfl) ?_ (fun hHeld => ?_)
   focus (exact ⟨t3, trivial⟩)
   have hL : Below b wd2 wd2.drew := Below.drew (Below.refl _ _)
   have hQ : Hid (Kept (fun i => i = b) wd2 wd2.drew) := Lib.hid (Kept.refl _ _)
   replace p0 : wd2.drew.cell? ⟨b, 0, none⟩ = some (.int .i64 dl) := p0
   replace fp0 : wd2.drew.frozen? ⟨b, 0, none⟩ = false := fp0
   replace p1 : wd2.drew.cell? ⟨b, 1, none⟩ = some (.int .i64 dh) := p1
   replace fp1 : wd2.drew.frozen? ⟨b, 1, none⟩ = false := fp1
   replace p2 : wd2.drew.cell? ⟨b, 2, none⟩ = some (.int .i64 hl) := p2
   replace fp2 : wd2.drew.frozen? ⟨b, 2, none⟩ = false := fp2
   replace p3 : wd2.drew.cell? ⟨b, 3, none⟩ = some (.int .i64 hh) := p3
   replace fp3 : wd2.drew.frozen? ⟨b, 3, none⟩ = false := fp3
   replace p4 : wd2.drew.cell? ⟨b, 4, none⟩ = some (.int .i64 sl) := p4
   replace fp4 : wd2.drew.frozen? ⟨b, 4, none⟩ = false := fp4
   replace p5 : wd2.drew.cell? ⟨b, 5, none⟩ = some (.int .i64 sh) := p5
   replace fp5 : wd2.drew.frozen? ⟨b, 5, none⟩ = false := fp5
   replace p6 : wd2.drew.cell? ⟨b, 6, none⟩ = some (.int .i64 tl) := p6
   replace fp6 : wd2.drew.frozen? ⟨b, 6, none⟩ = false := fp6
   replace p7 : wd2.drew.cell? ⟨b, 7, none⟩ = some (.int .i64 th) := p7
   replace fp7 : wd2.drew.frozen? ⟨b, 7, none⟩ = false := fp7
   replace p8 : wd2.drew.cell? ⟨b, 8, none⟩ = some (.bool bg) := p8
   replace fp8 : wd2.drew.frozen? ⟨b, 8, none⟩ = false := fp8
   replace p9 : wd2.drew.cell? ⟨b, 9, none⟩ = some (.int .i64 se) := p9
   replace fp9 : wd2.drew.frozen? ⟨b, 9, none⟩ = false := fp9
   replace p10 : wd2.drew.cell? ⟨b, 10, none⟩ = some (.slice A1 n1 c1) := p10
   replace fp10 : wd2.drew.frozen? ⟨b, 10, none⟩ = false := fp10
   replace p11 : wd2.drew.cell? ⟨b, 11, none⟩ = some (.slice A2 n2 c2) := p11
   replace fp11 : wd2.drew.frozen? ⟨b, 11, none⟩ = false := fp11
   replace p12 : wd2.drew.cell? ⟨b, 12, none⟩ = some (.int .i64 bl) := p12
   replace fp12 : wd2.drew.frozen? ⟨b, 12, none⟩ = false := fp12
   replace p13 : wd2.drew.cell? ⟨b, 13, none⟩ = some (.int .i64 bh) := p13
   replace fp13 : wd2.drew.frozen? ⟨b, 13, none⟩ = false := fp13
   replace p14 : wd2.drew.cell? ⟨b, 14, none⟩ = some (.slice A3 n3 c3) := p14
   replace fp14 : wd2.drew.frozen? ⟨b, 14, none⟩ = false := fp14
   replace t0 : wd2.drew.cell? ⟨w.heap.size, 0, none⟩ = some (.int .i64 k) := t0
   replace t1 : wd2.drew.cell? ⟨w.heap.size, 1, none⟩ = some (.int .i64 lo) := t1
   replace t2 : wd2.drew.cell? ⟨w.heap.size, 2, none⟩ = some (.int .i64 hi) := t2
   replace t3 : wd2.drew.cell? ⟨w.heap.size, 3, none⟩ = some (.int .i64 m) := t3
   replace np : b < wd2.drew.heap.size := np
   replace nt : w.heap.size < wd2.drew.heap.size := nt
   generalize hWd : wd2.drew = wd3 at hHeld hL hQ p0 fp0 p1 fp1 p2 fp2 p3 fp3 p4 fp4 p5 fp5 p6 fp6 p7 fp7 p8 fp8 p9 fp9 p10 fp10 p11 fp11 p12 fp12 p13 fp13 p14 fp14 t0 t1 t2 t3 np nt  ⊢
   clear hWd
   refine tq 0 19 ?_ ?_ ?_; rotate_left; (focus intro w h; (try dsimp only at h); go_simp; try with_reducible rfl); try simp only [sA, sB, sC]
   refine tq 1 20 ?_ ?_ ?_; rotate_left; (focus intro w h; (try dsimp only at h); go_simp; try with_reducible rfl); try simp only [sA, sB, sC]
   refine tq 2 21 ?_ ?_ ?_; rotate_left; (focus intro w h; (try dsimp only at h); go_simp; try with_reducible rfl); try simp only [sA, sB, sC]
   refine tq 3 22 ?_ ?_ ?_; rotate_left; (focus intro w h; (try dsimp only at h); go_simp; try with_reducible rfl); try simp only [sA, sB, sC]
   refine tq 5 24 ?_ ?_ ?_; rotate_left; (focus intro w h; (try dsimp only at h); go_simp; try with_reducible rfl); try simp only [sA, sB, sC]
   refine tq 6 25 ?_ ?_ ?_; rotate_left; (focus intro w h; (try dsimp only at h); go_simp; try with_reducible rfl); try simp only [sA, sB, sC]
   refine rd1 4 (fun K hK => ?_)
   go_simp
   refine hK.out _ _ ⟨t3, trivial⟩ (fun hHeld => ?_)
   clear hK K
   try simp only [Act.put, sA, sB, sC]
   refine tq 7 26 ?_ ?_ ?_; rotate_left; (focus intro w h; (try dsimp only at h); go_simp; try with_reducible rfl); try simp only [sA, sB, sC]
   refine tq 8 27 ?_ ?_ ?_; rotate_left; (focus intro w h; (try dsimp only at h); go_simp; try with_reducible rfl); try simp only [sA, sB, sC]
   refine tq 9 28 ?_ ?_ ?_; rotate_left; (focus intro w h; (try dsimp only at h); go_simp; try with_reducible rfl); try simp only [sA, sB, sC]
   refine tq 10 29 ?_ ?_ ?_; rotate_left; (focus intro w h; (try dsimp only at h); go_simp; try with_reducible rfl); try simp only [sA, sB, sC]
   refine rd1 11 (fun K hK => ?_)
   go_simp
   have FAR : ∀ {b2 o2 : Nat} {v2 : Option Value}, ¬ (b2 = b ∧ (o2 = 9)) → wd3.cell? ⟨b2, o2, none⟩ = v2 → (wd3.setCell ⟨b, 9, none⟩ (.int .i64 (se + m))).cell? ⟨b2, o2, none⟩ = v2 := fun h1 h2 => (so (by omega)).trans (h2)
   have FRZ : ∀ {b2 o2 : Nat} {v2 : Bool}, wd3.frozen? ⟨b2, o2, none⟩ = v2 → (wd3.setCell ⟨b, 9, none⟩ (.int .i64 (se + m))).frozen? ⟨b2, o2, none⟩ = v2 := fun h2 => by simp [go_sem, h2]
   have NSZ : ∀ {b2 : Nat}, b2 < wd3.heap.size → b2 < (wd3.setCell ⟨b, 9, none⟩ (.int .i64 (se + m))).heap.size := fun h2 => by simpa [World.setCell] using h2
   have HIT : ∀ W9, W9 = (wd3.setCell ⟨b, 9, none⟩ (.int .i64 (se + m))) → W9.cell? ⟨b, 9, none⟩ = some (.int .i64 (se + m)) := by
    intro W9 h9
    subst h9
    simp [go_sem, p9]
   clear p9
   have p9 := HIT _ rfl
   replace p0 := FAR (by omega) p0
   replace fp0 := FRZ fp0
   replace p1 := FAR (by omega) p1
   replace fp1 := FRZ fp1
   replace p2 := FAR (by omega) p2
   replace fp2 := FRZ fp2
   replace p3 := FAR (by omega) p3
   replace fp3 := FRZ fp3
   replace p4 := FAR (by omega) p4
   replace fp4 := FRZ fp4
   replace p5 := FAR (by omega) p5
   replace fp5 := FRZ fp5
   replace p6 := FAR (by omega) p6
   replace fp6 := FRZ fp6
   replace p7 := FAR (by omega) p7
   replace fp7 := FRZ fp7
   replace p8 := FAR (by omega) p8
   replace fp8 := FRZ fp8
   replace fp9 := FRZ fp9
   replace p10 := FAR (by omega) p10
   replace fp10 := FRZ fp10
   replace p11 := FAR (by omega) p11
   replace fp11 := FRZ fp11
   replace p12 := FAR (by omega) p12
   replace fp12 := FRZ fp12
   replace p13 := FAR (by omega) p13
   replace fp13 := FRZ fp13
   replace p14 := FAR (by omega) p14
   replace fp14 := FRZ fp14
   replace t0 := FAR (by omega) t0
   replace t1 := FAR (by omega) t1
   replace t2 := FAR (by omega) t2
   replace t3 := FAR (by omega) t3
   replace np := NSZ np
   replace nt := NSZ nt
   clear FAR NSZ FRZ HIT
   replace hL := hL.setCell (p := ⟨b, 9, none⟩) (by show b ≤ b; omega) (.int .i64 (se + m))
   replace hQ := Lib.hid (hQ.out.trans (Kept.set (U := (fun i => i = b)) _ (p := ⟨b, 9, none⟩) (rfl) (.int .i64 (se + m))))
   refine hK.out _ _ ⟨t3, trivial⟩ (fun hHeld => ?_)
   clear hK K
   try simp only [Act.put, sA, sB, sC]
   refine wpAnyH_done (by kernel_rfl) ?_ _
   replace hG := grown_trans hG (grown_kept hL hQ.out)
   clear hHeld hL hBW hQ
   go_wp2_with fail
   go_ret
   exact ⟨rfl, ⟨np, bt_cells p0 p1 p2 p3 p4 p5 p6 p7 p8 p9 p10 p11 p12 p13 p14, bt_froz fp0 fp1 fp2 fp3 fp4 fp5 fp6 fp7 fp8 fp9 fp10 fp11 fp12 fp13 fp14⟩, hG⟩

set_option maxRecDepth 20000 in
set_option maxHeartbeats 4000000 in
theorem cool_any (b : Nat) (x : St) (v1 v2 v3 : Value) (R : Cr) (a : Ac) (B : Nat) (w : World) (hx : StOk x) (h : BtAt b w x v1 v2 v3 R) (hv : CrAt B w v1 v2 v3 R) :
  Calls Tryz.prog 120 #[.pointer (some ⟨b, 0, none⟩), .agg (cAc a).toArray] w fun e w' => e = .returned (.int .i64 (coE x a.lo a.hi)) ∧ BtAt b w' (coS x a.lo a.hi) v1 v2 v3 R ∧ w.grownBy w' (some b) := by
 obtain ⟨k, lo, hi, m⟩ := a
 have C1 := Lib.hid (fun (W : World) (g c : Nat) => lie1v_any (-2000) 2000 lo hi g c W)
 obtain ⟨E, hE⟩ : ∃ E, coE x lo hi = E := ⟨_, rfl⟩
 obtain ⟨S, hS⟩ : ∃ S, coS x lo hi = S := ⟨_, rfl⟩
 have HS : Hid (S = if E = 0 then { x with hl := lo, hh := hi } else x) := Lib.hid (by rw [← hS, ← hE]; rfl)
 have HE : Hid (E = if rgB (-2000) 2000 lo hi = true ∧ lo ≤ x.hl ∧ hi ≤ x.hh then 0 else 3) := Lib.hid (by rw [← hE]; rfl)
 dsimp only
 rw [hE, hS]
 clear hE hS
 obtain ⟨ht, hs⟩ := hx
 
 obtain ⟨np, hpc, hpf⟩ := h
 obtain ⟨A1, c1, A2, c2, A3, c3, rfl, rfl, rfl⟩ := hv.slices
 clear hv
 have nb := np
 obtain ⟨dl, dh, hl, hh, sl, sh, tl, th, bg, se⟩ := x
 obtain ⟨xs, ys, bl, bh, ps⟩ := R
 dsimp only at *
 have p0 : w.cell? ⟨b, 0, none⟩ = some (.int .i64 dl) := hpc 0 _ rfl
 have p1 : w.cell? ⟨b, 1, none⟩ = some (.int .i64 dh) := hpc 1 _ rfl
 have p2 : w.cell? ⟨b, 2, none⟩ = some (.int .i64 hl) := hpc 2 _ rfl
 have p3 : w.cell? ⟨b, 3, none⟩ = some (.int .i64 hh) := hpc 3 _ rfl
 have p4 : w.cell? ⟨b, 4, none⟩ = some (.int .i64 sl) := hpc 4 _ rfl
 have p5 : w.cell? ⟨b, 5, none⟩ = some (.int .i64 sh) := hpc 5 _ rfl
 have p6 : w.cell? ⟨b, 6, none⟩ = some (.int .i64 tl) := hpc 6 _ rfl
 have p7 : w.cell? ⟨b, 7, none⟩ = some (.int .i64 th) := hpc 7 _ rfl
 have p8 : w.cell? ⟨b, 8, none⟩ = some (.bool bg) := hpc 8 _ rfl
 have p9 : w.cell? ⟨b, 9, none⟩ = some (.int .i64 se) := hpc 9 _ rfl
 have p10 : w.cell? ⟨b, 10, none⟩ = some (.slice A1 xs.length c1) := hpc 10 _ rfl
 have p11 : w.cell? ⟨b, 11, none⟩ = some (.slice A2 ys.length c2) := hpc 11 _ rfl
 have p12 : w.cell? ⟨b, 12, none⟩ = some (.int .i64 bl) := hpc 12 _ rfl
 have p13 : w.cell? ⟨b, 13, none⟩ = some (.int .i64 bh) := hpc 13 _ rfl
 have p14 : w.cell? ⟨b, 14, none⟩ = some (.slice A3 ps.length c3) := hpc 14 _ rfl
 have fp0 := hpf 0 (by omega)
 have fp1 := hpf 1 (by omega)
 have fp2 := hpf 2 (by omega)
 have fp3 := hpf 3 (by omega)
 have fp4 := hpf 4 (by omega)
 have fp5 := hpf 5 (by omega)
 have fp6 := hpf 6 (by omega)
 have fp7 := hpf 7 (by omega)
 have fp8 := hpf 8 (by omega)
 have fp9 := hpf 9 (by omega)
 have fp10 := hpf 10 (by omega)
 have fp11 := hpf 11 (by omega)
 have fp12 := hpf 12 (by omega)
 have fp13 := hpf 13 (by omega)
 have fp14 := hpf 14 (by omega)
 clear hpc hpf
 generalize xs.length = n1 at *
 generalize ys.length = n2 at *
 generalize ps.length = n3 at *
 dsimp only [cAc]
 generalize rgB (-2000) 2000 lo hi = z1 at *
 have d1 : decide (hl < lo) = !decide (lo ≤ hl) := by by_cases h : lo ≤ hl <;> simp [h] <;> omega
 have d2 : decide (hh < hi) = !decide (hi ≤ hh) := by by_cases h : hi ≤ hh <;> simp [h] <;> omega
 have HE2 : Hid (E = if (z1 && decide (lo ≤ hl) && decide (hi ≤ hh)) = true then 0 else 3) := Lib.hid (HE.out.trans (by simp [and_assoc]))
 clear HE
 generalize decide (lo ≤ hl) = z2 at *
 generalize decide (hi ≤ hh) = z3 at *
 go_enter Tryz.func120, Tryz.ntmps120
 go_wp2_with fail
 have hb : Below w.heap.size w (w.alloc (Obj.cells #[.int .i64 k, .int .i64 lo, .int .i64 hi, .int .i64 m] 50)) := ((Below.refl _ _).alloc (Nat.le_refl _) _)
 replace p0 := cell_next hb np p0
 replace fp0 := frozen_next hb np fp0
 replace p1 := cell_next hb np p1
 replace fp1 := frozen_next hb np fp1
 replace p2 := cell_next hb np p2
 replace fp2 := frozen_next hb np fp2
 replace p3 := cell_next hb np p3
 replace fp3 := frozen_next hb np fp3
 replace p4 := cell_next hb np p4
 replace fp4 := frozen_next hb np fp4
 replace p5 := cell_next hb np p5
 replace fp5 := frozen_next hb np fp5
 replace p6 := cell_next hb np p6
 replace fp6 := frozen_next hb np fp6
 replace p7 := cell_next hb np p7
 replace fp7 := frozen_next hb np fp7
 replace p8 := cell_next hb np p8
 replace fp8 := frozen_next hb np fp8
 replace p9 := cell_next hb np p9
 replace fp9 := frozen_next hb np fp9
 replace p10 := cell_next hb np p10
 replace fp10 := frozen_next hb np fp10
 replace p11 := cell_next hb np p11
 replace fp11 := frozen_next hb np fp11
 replace p12 := cell_next hb np p12
 replace fp12 := frozen_next hb np fp12
 replace p13 := cell_next hb np p13
 replace fp13 := frozen_next hb np fp13
 replace p14 := cell_next hb np p14
 replace fp14 := frozen_next hb np fp14
 replace np := Nat.lt_of_lt_of_le np hb.size
 have t0 : (w.alloc (Obj.cells #[.int .i64 k, .int .i64 lo, .int .i64 hi, .int .i64 m] 50)).cell? ⟨w.heap.size, 0, none⟩ = some (.int .i64 k) := by simp [go_sem]
 have t1 : (w.alloc (Obj.cells #[.int .i64 k, .int .i64 lo, .int .i64 hi, .int .i64 m] 50)).cell? ⟨w.heap.size, 1, none⟩ = some (.int .i64 lo) := by simp [go_sem]
 have t2 : (w.alloc (Obj.cells #[.int .i64 k, .int .i64 lo, .int .i64 hi, .int .i64 m] 50)).cell? ⟨w.heap.size, 2, none⟩ = some (.int .i64 hi) := by simp [go_sem]
 have t3 : (w.alloc (Obj.cells #[.int .i64 k, .int .i64 lo, .int .i64 hi, .int .i64 m] 50)).cell? ⟨w.heap.size, 3, none⟩ = some (.int .i64 m) := by simp [go_sem]
 have nt : w.heap.size < (w.alloc (Obj.cells #[.int .i64 k, .int .i64 lo, .int .i64 hi, .int .i64 m] 50)).heap.size := by simp <;> omega
 have hB := hb
 clear hb
 generalize (w.alloc (Obj.cells #[.int .i64 k, .int .i64 lo, .int .i64 hi, .int .i64 m] 50)) = W1 at *
 cases z1
 ·obtain rfl : E = 3 := HE2.out.trans (by simp)
  obtain rfl : S = ⟨dl, dh, hl, hh, sl, sh, tl, th, bg, se⟩ := HS.out.trans (by simp)
  clear HE2 HS
  have hBW : W1.heap.size ≤ W1.heap.size := Nat.le_refl _
  refine wp_region_held_drew (S := fun w' => w'.cell? ⟨w.heap.size, 1, none⟩ = some (.int .i64 lo) ∧ w'.cell? ⟨w.heap.size, 2, none⟩ = some (.int .i64 hi) ∧ w'.cell? ⟨b, 2, none⟩ = some (.int .i64 hl) ∧ w'.cell? ⟨b, 3, none⟩ = some (.int .i64 hh) ∧ True) (by kernel_rfl) ?_ (fun hHeld => ?_)
  focus (exact ⟨t1, t2, p2, p3, trivial⟩)
  have hL : Below W1.heap.size W1 W1.drew := Below.drew (Below.refl _ _)
  replace p0 : W1.drew.cell? ⟨b, 0, none⟩ = some (.int .i64 dl) := p0
  replace fp0 : W1.drew.frozen? ⟨b, 0, none⟩ = false := fp0
  replace p1 : W1.drew.cell? ⟨b, 1, none⟩ = some (.int .i64 dh) := p1
  replace fp1 : W1.drew.frozen? ⟨b, 1, none⟩ = false := fp1
  replace p2 : W1.drew.cell? ⟨b, 2, none⟩ = some (.int .i64 hl) := p2
  replace fp2 : W1.drew.frozen? ⟨b, 2, none⟩ = false := fp2
  replace p3 : W1.drew.cell? ⟨b, 3, none⟩ = some (.int .i64 hh) := p3
  replace fp3 : W1.drew.frozen? ⟨b, 3, none⟩ = false := fp3
  replace p4 : W1.drew.cell? ⟨b, 4, none⟩ = some (.int .i64 sl) := p4
  replace fp4 : W1.drew.frozen? ⟨b, 4, none⟩ = false := fp4
  replace p5 : W1.drew.cell? ⟨b, 5, none⟩ = some (.int .i64 sh) := p5
  replace fp5 : W1.drew.frozen? ⟨b, 5, none⟩ = false := fp5
  replace p6 : W1.drew.cell? ⟨b, 6, none⟩ = some (.int .i64 tl) := p6
  replace fp6 : W1.drew.frozen? ⟨b, 6, none⟩ = false := fp6
  replace p7 : W1.drew.cell? ⟨b, 7, none⟩ = some (.int .i64 th) := p7
  replace fp7 : W1.drew.frozen? ⟨b, 7, none⟩ = false := fp7
  replace p8 : W1.drew.cell? ⟨b, 8, none⟩ = some (.bool bg) := p8
  replace fp8 : W1.drew.frozen? ⟨b, 8, none⟩ = false := fp8
  replace p9 : W1.drew.cell? ⟨b, 9, none⟩ = some (.int .i64 se) := p9
  replace fp9 : W1.drew.frozen? ⟨b, 9, none⟩ = false := fp9
  replace p10 : W1.drew.cell? ⟨b, 10, none⟩ = some (.slice A1 n1 c1) := p10
  replace fp10 : W1.drew.frozen? ⟨b, 10, none⟩ = false := fp10
  replace p11 : W1.drew.cell? ⟨b, 11, none⟩ = some (.slice A2 n2 c2) := p11
  replace fp11 : W1.drew.frozen? ⟨b, 11, none⟩ = false := fp11
  replace p12 : W1.drew.cell? ⟨b, 12, none⟩ = some (.int .i64 bl) := p12
  replace fp12 : W1.drew.frozen? ⟨b, 12, none⟩ = false := fp12
  replace p13 : W1.drew.cell? ⟨b, 13, none⟩ = some (.int .i64 bh) := p13
  replace fp13 : W1.drew.frozen? ⟨b, 13, none⟩ = false := fp13
  replace p14 : W1.drew.cell? ⟨b, 14, none⟩ = some (.slice A3 n3 c3) := p14
  replace fp14 : W1.drew.frozen? ⟨b, 14, none⟩ = false := fp14
  replace t0 : W1.drew.cell? ⟨w.heap.size, 0, none⟩ = some (.int .i64 k) := t0
  replace t1 : W1.drew.cell? ⟨w.heap.size, 1, none⟩ = some (.int .i64 lo) := t1
  replace t2 : W1.drew.cell? ⟨w.heap.size, 2, none⟩ = some (.int .i64 hi) := t2
  replace t3 : W1.drew.cell? ⟨w.heap.size, 3, none⟩ = some (.int .i64 m) := t3
  replace np : b < W1.drew.heap.size := np
  replace nt : w.heap.size < W1.drew.heap.size := nt
  generalize hWd : W1.drew = wd2 at hHeld hL p0 fp0 p1 fp1 p2 fp2 p3 fp3 p4 fp4 p5 fp5 p6 fp6 p7 fp7 p8 fp8 p9 fp9 p10 fp10 p11 fp11 p12 fp12 p13 fp13 p14 fp14 t0 t1 t2 t3 np nt  ⊢
  clear hWd
  refine tq 0 5 ?_ ?_ ?_; rotate_left; (focus intro w h; (try dsimp only at h); go_simp; try with_reducible rfl); try simp only [sA, sB, sC]
  refine tq 1 6 ?_ ?_ ?_; rotate_left; (focus intro w h; (try dsimp only at h); go_simp; try with_reducible rfl); try simp only [sA, sB, sC]
  refine rd1 2 (fun K hK => ?_)
  go_simp
  have hb := (Below.refl wd2.heap.size wd2).alloc (Nat.le_refl _) (Obj.cells #[.int .i64 lo, .int .i64 hi] 24)
  have szZ2x1 := hL.size
  have ord1np := np
  have ord1nt := nt
  replace p0 := cell_next hb np p0
  replace fp0 := frozen_next hb np fp0
  replace p1 := cell_next hb np p1
  replace fp1 := frozen_next hb np fp1
  replace p2 := cell_next hb np p2
  replace fp2 := frozen_next hb np fp2
  replace p3 := cell_next hb np p3
  replace fp3 := frozen_next hb np fp3
  replace p4 := cell_next hb np p4
  replace fp4 := frozen_next hb np fp4
  replace p5 := cell_next hb np p5
  replace fp5 := frozen_next hb np fp5
  replace p6 := cell_next hb np p6
  replace fp6 := frozen_next hb np fp6
  replace p7 := cell_next hb np p7
  replace fp7 := frozen_next hb np fp7
  replace p8 := cell_next hb np p8
  replace fp8 := frozen_next hb np fp8
  replace p9 := cell_next hb np p9
  replace fp9 := frozen_next hb np fp9
  replace p10 := cell_next hb np p10
  replace fp10 := frozen_next hb np fp10
  replace p11 := cell_next hb np p11
  replace fp11 := frozen_next hb np fp11
  replace p12 := cell_next hb np p12
  replace fp12 := frozen_next hb np fp12
  replace p13 := cell_next hb np p13
  replace fp13 := frozen_next hb np fp13
  replace p14 := cell_next hb np p14
  replace fp14 := frozen_next hb np fp14
  replace t0 := cell_next hb nt t0
  replace t1 := cell_next hb nt t1
  replace t2 := cell_next hb nt t2
  replace t3 := cell_next hb nt t3
  replace np := Nat.lt_of_lt_of_le np hb.size
  replace nt := Nat.lt_of_lt_of_le nt hb.size
  replace hL := hL.trans (hb.mono (Nat.le_trans hBW hL.size))
  have K0 : (wd2.alloc (Obj.cells #[.int .i64 lo, .int .i64 hi] 24)).cell? ⟨wd2.heap.size, 0, none⟩ = some (.int .i64 lo) := cell_new _ _ _ 0
  have K1 : (wd2.alloc (Obj.cells #[.int .i64 lo, .int .i64 hi] 24)).cell? ⟨wd2.heap.size, 1, none⟩ = some (.int .i64 hi) := cell_new _ _ _ 1
  have nK : wd2.heap.size < (wd2.alloc (Obj.cells #[.int .i64 lo, .int .i64 hi] 24)).heap.size := by simp
  refine hK.out _ _ ⟨t1, t2, p2, p3, trivial⟩ (fun hHeld => ?_)
  clear hK K hb
  generalize wd2.alloc (Obj.cells #[.int .i64 lo, .int .i64 hi] 24) = Z2x1 at *
  try simp only [Act.put, sA, sB, sC]
  refine rd1 3 (fun K hK => ?_)
  go_simp
  refine (C1.out _ _ _ nK K0 K1).mono ?_
  rintro e Z2x2 ⟨rfl, hb⟩
  replace p0 := cell_next hb np p0
  replace fp0 := frozen_next hb np fp0
  replace p1 := cell_next hb np p1
  replace fp1 := frozen_next hb np fp1
  replace p2 := cell_next hb np p2
  replace fp2 := frozen_next hb np fp2
  replace p3 := cell_next hb np p3
  replace fp3 := frozen_next hb np fp3
  replace p4 := cell_next hb np p4
  replace fp4 := frozen_next hb np fp4
  replace p5 := cell_next hb np p5
  replace fp5 := frozen_next hb np fp5
  replace p6 := cell_next hb np p6
  replace fp6 := frozen_next hb np fp6
  replace p7 := cell_next hb np p7
  replace fp7 := frozen_next hb np fp7
  replace p8 := cell_next hb np p8
  replace fp8 := frozen_next hb np fp8
  replace p9 := cell_next hb np p9
  replace fp9 := frozen_next hb np fp9
  replace p10 := cell_next hb np p10
  replace fp10 := frozen_next hb np fp10
  replace p11 := cell_next hb np p11
  replace fp11 := frozen_next hb np fp11
  replace p12 := cell_next hb np p12
  replace fp12 := frozen_next hb np fp12
  replace p13 := cell_next hb np p13
  replace fp13 := frozen_next hb np fp13
  replace p14 := cell_next hb np p14
  replace fp14 := frozen_next hb np fp14
  replace t0 := cell_next hb nt t0
  replace t1 := cell_next hb nt t1
  replace t2 := cell_next hb nt t2
  replace t3 := cell_next hb nt t3
  replace K0 := cell_next hb nK K0
  replace K1 := cell_next hb nK K1
  replace np := Nat.lt_of_lt_of_le np hb.size
  replace nt := Nat.lt_of_lt_of_le nt hb.size
  replace nK := Nat.lt_of_lt_of_le nK hb.size
  replace hL := hL.trans (hb.mono (Nat.le_trans hBW hL.size))
  refine hK.out _ _ ⟨t1, t2, p2, p3, trivial⟩ (fun hHeld => ?_)
  clear hK K hb
  try simp only [Act.put, sA, sB, sC]
  refine tq 4 9 ?_ ?_ ?_; rotate_left; (focus intro w h; (try dsimp only at h); go_simp; try with_reducible rfl); try simp only [sA, sB, sC]
  refine tq 5 10 ?_ ?_ ?_; rotate_left; (focus intro w h; (try dsimp only at h); go_simp; try with_reducible rfl); try simp only [sA, sB, sC]
  refine take_slot (i := 6) (d := 11) (v := undef) rfl rfl (by kernel_rfl) (by kernel_rfl) (by kernel_rfl) (fun _ _ _ h => h) (Or.inr ⟨by rfl, rfl⟩) (by assumption) ?_
  try simp only [sA, sB, sC]
  refine take_slot (i := 7) (d := 12) (v := undef) rfl rfl (by kernel_rfl) (by kernel_rfl) (by kernel_rfl) (fun _ _ _ h => h) (Or.inr ⟨by rfl, rfl⟩) (by assumption) ?_
  try simp only [sA, sB, sC]
  refine take_slot (i := 8) (d := 13) (v := undef) rfl rfl (by kernel_rfl) (by kernel_rfl) (by kernel_rfl) (fun _ _ _ h => h) (Or.inr ⟨by rfl, rfl⟩) (by assumption) ?_
  try simp only [sA, sB, sC]
  refine take_slot (i := 9) (d := 14) (v := undef) rfl rfl (by kernel_rfl) (by kernel_rfl) (by kernel_rfl) (fun _ _ _ h => h) (Or.inr ⟨by rfl, rfl⟩) (by assumption) ?_
  try simp only [sA, sB, sC]
  refine take_slot (i := 10) (d := 15) (v := undef) rfl rfl (by kernel_rfl) (by kernel_rfl) (by kernel_rfl) (fun _ _ _ h => h) (Or.inr ⟨by rfl, rfl⟩) (by assumption) ?_
  try simp only [sA, sB, sC]
  refine take_slot (i := 11) (d := 16) (v := undef) rfl rfl (by kernel_rfl) (by kernel_rfl) (by kernel_rfl) (fun _ _ _ h => h) (Or.inr ⟨by rfl, rfl⟩) (by assumption) ?_
  try simp only [sA, sB, sC]
  refine take_slot (i := 12) (d := 17) (v := undef) rfl rfl (by kernel_rfl) (by kernel_rfl) (by kernel_rfl) (fun _ _ _ h => h) (Or.inr ⟨by rfl, rfl⟩) (by assumption) ?_
  try simp only [sA, sB, sC]
  refine take_slot (i := 13) (d := 18) (v := undef) rfl rfl (by kernel_rfl) (by kernel_rfl) (by kernel_rfl) (fun _ _ _ h => h) (Or.inr ⟨by rfl, rfl⟩) (by assumption) ?_
  try simp only [sA, sB, sC]
  refine take_slot (i := 14) (d := 19) (v := undef) rfl rfl (by kernel_rfl) (by kernel_rfl) (by kernel_rfl) (fun _ _ _ h => h) (Or.inr ⟨by rfl, rfl⟩) (by assumption) ?_
  try simp only [sA, sB, sC]
  refine take_slot (i := 15) (d := 20) (v := undef) rfl rfl (by kernel_rfl) (by kernel_rfl) (by kernel_rfl) (fun _ _ _ h => h) (Or.inr ⟨by rfl, rfl⟩) (by assumption) ?_
  try simp only [sA, sB, sC]
  refine tq 16 21 ?_ ?_ ?_; rotate_left; (focus intro w h; (try dsimp only at h); go_simp; try with_reducible rfl); try simp only [sA, sB, sC]
  refine tq 17 22 ?_ ?_ ?_; rotate_left; (focus intro w h; (try dsimp only at h); go_simp; try with_reducible rfl); try simp only [sA, sB, sC]
  refine take_slot (i := 18) (d := 23) (v := undef) rfl rfl (by kernel_rfl) (by kernel_rfl) (by kernel_rfl) (fun _ _ _ h => h) (Or.inr ⟨by rfl, rfl⟩) (by assumption) ?_
  try simp only [sA, sB, sC]
  refine take_slot (i := 19) (d := 24) (v := undef) rfl rfl (by kernel_rfl) (by kernel_rfl) (by kernel_rfl) (fun _ _ _ h => h) (Or.inr ⟨by rfl, rfl⟩) (by assumption) ?_
  try simp only [sA, sB, sC]
  refine take_slot (i := 20) (d := 25) (v := undef) rfl rfl (by kernel_rfl) (by kernel_rfl) (by kernel_rfl) (fun _ _ _ h => h) (Or.inr ⟨by rfl, rfl⟩) (by assumption) ?_
  try simp only [sA, sB, sC]
  refine take_slot (i := 21) (d := 26) (v := undef) rfl rfl (by kernel_rfl) (by kernel_rfl) (by kernel_rfl) (fun _ _ _ h => h) (Or.inr ⟨by rfl, rfl⟩) (by assumption) ?_
  try simp only [sA, sB, sC]
  refine take_slot (i := 22) (d := 27) (v := undef) rfl rfl (by kernel_rfl) (by kernel_rfl) (by kernel_rfl) (fun _ _ _ h => h) (Or.inr ⟨by rfl, rfl⟩) (by assumption) ?_
  try simp only [sA, sB, sC]
  refine take_slot (i := 23) (d := 28) (v := undef) rfl rfl (by kernel_rfl) (by kernel_rfl) (by kernel_rfl) (fun _ _ _ h => h) (Or.inr ⟨by rfl, rfl⟩) (by assumption) ?_
  try simp only [sA, sB, sC]
  refine take_slot (i := 24) (d := 29) (v := undef) rfl rfl (by kernel_rfl) (by kernel_rfl) (by kernel_rfl) (fun _ _ _ h => h) (Or.inr ⟨by rfl, rfl⟩) (by assumption) ?_
  try simp only [sA, sB, sC]
  refine take_slot (i := 25) (d := 30) (v := undef) rfl rfl (by kernel_rfl) (by kernel_rfl) (by kernel_rfl) (fun _ _ _ h => h) (Or.inr ⟨by rfl, rfl⟩) (by assumption) ?_
  try simp only [sA, sB, sC]
  refine take_slot (i := 26) (d := 31) (v := undef) rfl rfl (by kernel_rfl) (by kernel_rfl) (by kernel_rfl) (fun _ _ _ h => h) (Or.inr ⟨by rfl, rfl⟩) (by assumption) ?_
  try simp only [sA, sB, sC]
  refine take_slot (i := 27) (d := 32) (v := undef) rfl rfl (by kernel_rfl) (by kernel_rfl) (by kernel_rfl) (fun _ _ _ h => h) (Or.inr ⟨by rfl, rfl⟩) (by assumption) ?_
  try simp only [sA, sB, sC]
  refine tq 28 33 ?_ ?_ ?_; rotate_left; (focus intro w h; (try dsimp only at h); go_simp; try with_reducible rfl); try simp only [sA, sB, sC]
  refine wpAnyH_done (by kernel_rfl) ?_ _
  replace hB := hB.trans (hL.mono hB.size)
  clear hHeld hL hBW
  have hG : w.grownBy Z2x2 (some b) := only_of_below' hB
  go_wp2_with fail
  go_ret
  exact ⟨rfl, ⟨np, bt_cells p0 p1 p2 p3 p4 p5 p6 p7 p8 p9 p10 p11 p12 p13 p14, bt_froz fp0 fp1 fp2 fp3 fp4 fp5 fp6 fp7 fp8 fp9 fp10 fp11 fp12 fp13 fp14⟩, hG⟩
 ·cases z2
  ·obtain rfl : E = 3 := HE2.out.trans (by simp)
   obtain rfl : S = ⟨dl, dh, hl, hh, sl, sh, tl, th, bg, se⟩ := HS.out.trans (by simp)
   clear HE2 HS
   have hBW : W1.heap.size ≤ W1.heap.size := Nat.le_refl _
   refine wp_region_held_drew (S := fun w' => w'.cell? ⟨w.heap.size, 1, none⟩ = some (.int .i64 lo) ∧ w'.cell? ⟨w.heap.size, 2, none⟩ = some (.int .i64 hi) ∧ w'.cell? ⟨b, 2, none⟩ = some (.int .i64 hl) ∧ w'.cell? ⟨b, 3, none⟩ = some (.int .i64 hh) ∧ True) (by kernel_rfl) ?_ (fun hHeld => ?_)
   focus (exact ⟨t1, t2, p2, p3, trivial⟩)
   have hL : Below W1.heap.size W1 W1.drew := Below.drew (Below.refl _ _)
   replace p0 : W1.drew.cell? ⟨b, 0, none⟩ = some (.int .i64 dl) := p0
   replace fp0 : W1.drew.frozen? ⟨b, 0, none⟩ = false := fp0
   replace p1 : W1.drew.cell? ⟨b, 1, none⟩ = some (.int .i64 dh) := p1
   replace fp1 : W1.drew.frozen? ⟨b, 1, none⟩ = false := fp1
   replace p2 : W1.drew.cell? ⟨b, 2, none⟩ = some (.int .i64 hl) := p2
   replace fp2 : W1.drew.frozen? ⟨b, 2, none⟩ = false := fp2
   replace p3 : W1.drew.cell? ⟨b, 3, none⟩ = some (.int .i64 hh) := p3
   replace fp3 : W1.drew.frozen? ⟨b, 3, none⟩ = false := fp3
   replace p4 : W1.drew.cell? ⟨b, 4, none⟩ = some (.int .i64 sl) := p4
   replace fp4 : W1.drew.frozen? ⟨b, 4, none⟩ = false := fp4
   replace p5 : W1.drew.cell? ⟨b, 5, none⟩ = some (.int .i64 sh) := p5
   replace fp5 : W1.drew.frozen? ⟨b, 5, none⟩ = false := fp5
   replace p6 : W1.drew.cell? ⟨b, 6, none⟩ = some (.int .i64 tl) := p6
   replace fp6 : W1.drew.frozen? ⟨b, 6, none⟩ = false := fp6
   replace p7 : W1.drew.cell? ⟨b, 7, none⟩ = some (.int .i64 th) := p7
   replace fp7 : W1.drew.frozen? ⟨b, 7, none⟩ = false := fp7
   replace p8 : W1.drew.cell? ⟨b, 8, none⟩ = some (.bool bg) := p8
   replace fp8 : W1.drew.frozen? ⟨b, 8, none⟩ = false := fp8
   replace p9 : W1.drew.cell? ⟨b, 9, none⟩ = some (.int .i64 se) := p9
   replace fp9 : W1.drew.frozen? ⟨b, 9, none⟩ = false := fp9
   replace p10 : W1.drew.cell? ⟨b, 10, none⟩ = some (.slice A1 n1 c1) := p10
   replace fp10 : W1.drew.frozen? ⟨b, 10, none⟩ = false := fp10
   replace p11 : W1.drew.cell? ⟨b, 11, none⟩ = some (.slice A2 n2 c2) := p11
   replace fp11 : W1.drew.frozen? ⟨b, 11, none⟩ = false := fp11
   replace p12 : W1.drew.cell? ⟨b, 12, none⟩ = some (.int .i64 bl) := p12
   replace fp12 : W1.drew.frozen? ⟨b, 12, none⟩ = false := fp12
   replace p13 : W1.drew.cell? ⟨b, 13, none⟩ = some (.int .i64 bh) := p13
   replace fp13 : W1.drew.frozen? ⟨b, 13, none⟩ = false := fp13
   replace p14 : W1.drew.cell? ⟨b, 14, none⟩ = some (.slice A3 n3 c3) := p14
   replace fp14 : W1.drew.frozen? ⟨b, 14, none⟩ = false := fp14
   replace t0 : W1.drew.cell? ⟨w.heap.size, 0, none⟩ = some (.int .i64 k) := t0
   replace t1 : W1.drew.cell? ⟨w.heap.size, 1, none⟩ = some (.int .i64 lo) := t1
   replace t2 : W1.drew.cell? ⟨w.heap.size, 2, none⟩ = some (.int .i64 hi) := t2
   replace t3 : W1.drew.cell? ⟨w.heap.size, 3, none⟩ = some (.int .i64 m) := t3
   replace np : b < W1.drew.heap.size := np
   replace nt : w.heap.size < W1.drew.heap.size := nt
   generalize hWd : W1.drew = wd2 at hHeld hL p0 fp0 p1 fp1 p2 fp2 p3 fp3 p4 fp4 p5 fp5 p6 fp6 p7 fp7 p8 fp8 p9 fp9 p10 fp10 p11 fp11 p12 fp12 p13 fp13 p14 fp14 t0 t1 t2 t3 np nt  ⊢
   clear hWd
   refine tq 0 5 ?_ ?_ ?_; rotate_left; (focus intro w h; (try dsimp only at h); go_simp; try with_reducible rfl); try simp only [sA, sB, sC]
   refine tq 1 6 ?_ ?_ ?_; rotate_left; (focus intro w h; (try dsimp only at h); go_simp; try with_reducible rfl); try simp only [sA, sB, sC]
   refine rd1 2 (fun K hK => ?_)
   go_simp
   have hb := (Below.refl wd2.heap.size wd2).alloc (Nat.le_refl _) (Obj.cells #[.int .i64 lo, .int .i64 hi] 24)
   have szZ2x1 := hL.size
   have ord1np := np
   have ord1nt := nt
   replace p0 := cell_next hb np p0
   replace fp0 := frozen_next hb np fp0
   replace p1 := cell_next hb np p1
   replace fp1 := frozen_next hb np fp1
   replace p2 := cell_next hb np p2
   replace fp2 := frozen_next hb np fp2
   replace p3 := cell_next hb np p3
   replace fp3 := frozen_next hb np fp3
   replace p4 := cell_next hb np p4
   replace fp4 := frozen_next hb np fp4
   replace p5 := cell_next hb np p5
   replace fp5 := frozen_next hb np fp5
   replace p6 := cell_next hb np p6
   replace fp6 := frozen_next hb np fp6
   replace p7 := cell_next hb np p7
   replace fp7 := frozen_next hb np fp7
   replace p8 := cell_next hb np p8
   replace fp8 := frozen_next hb np fp8
   replace p9 := cell_next hb np p9
   replace fp9 := frozen_next hb np fp9
   replace p10 := cell_next hb np p10
   replace fp10 := frozen_next hb np fp10
   replace p11 := cell_next hb np p11
   replace fp11 := frozen_next hb np fp11
   replace p12 := cell_next hb np p12
   replace fp12 := frozen_next hb np fp12
   replace p13 := cell_next hb np p13
   replace fp13 := frozen_next hb np fp13
   replace p14 := cell_next hb np p14
   replace fp14 := frozen_next hb np fp14
   replace t0 := cell_next hb nt t0
   replace t1 := cell_next hb nt t1
   replace t2 := cell_next hb nt t2
   replace t3 := cell_next hb nt t3
   replace np := Nat.lt_of_lt_of_le np hb.size
   replace nt := Nat.lt_of_lt_of_le nt hb.size
   replace hL := hL.trans (hb.mono (Nat.le_trans hBW hL.size))
   have K0 : (wd2.alloc (Obj.cells #[.int .i64 lo, .int .i64 hi] 24)).cell? ⟨wd2.heap.size, 0, none⟩ = some (.int .i64 lo) := cell_new _ _ _ 0
   have K1 : (wd2.alloc (Obj.cells #[.int .i64 lo, .int .i64 hi] 24)).cell? ⟨wd2.heap.size, 1, none⟩ = some (.int .i64 hi) := cell_new _ _ _ 1
   have nK : wd2.heap.size < (wd2.alloc (Obj.cells #[.int .i64 lo, .int .i64 hi] 24)).heap.size := by simp
   refine hK.out _ _ ⟨t1, t2, p2, p3, trivial⟩ (fun hHeld => ?_)
   clear hK K hb
   generalize wd2.alloc (Obj.cells #[.int .i64 lo, .int .i64 hi] 24) = Z2x1 at *
   try simp only [Act.put, sA, sB, sC]
   refine rd1 3 (fun K hK => ?_)
   go_simp
   refine (C1.out _ _ _ nK K0 K1).mono ?_
   rintro e Z2x2 ⟨rfl, hb⟩
   replace p0 := cell_next hb np p0
   replace fp0 := frozen_next hb np fp0
   replace p1 := cell_next hb np p1
   replace fp1 := frozen_next hb np fp1
   replace p2 := cell_next hb np p2
   replace fp2 := frozen_next hb np fp2
   replace p3 := cell_next hb np p3
   replace fp3 := frozen_next hb np fp3
   replace p4 := cell_next hb np p4
   replace fp4 := frozen_next hb np fp4
   replace p5 := cell_next hb np p5
   replace fp5 := frozen_next hb np fp5
   replace p6 := cell_next hb np p6
   replace fp6 := frozen_next hb np fp6
   replace p7 := cell_next hb np p7
   replace fp7 := frozen_next hb np fp7
   replace p8 := cell_next hb np p8
   replace fp8 := frozen_next hb np fp8
   replace p9 := cell_next hb np p9
   replace fp9 := frozen_next hb np fp9
   replace p10 := cell_next hb np p10
   replace fp10 := frozen_next hb np fp10
   replace p11 := cell_next hb np p11
   replace fp11 := frozen_next hb np fp11
   replace p12 := cell_next hb np p12
   replace fp12 := frozen_next hb np fp12
   replace p13 := cell_next hb np p13
   replace fp13 := frozen_next hb np fp13
   replace p14 := cell_next hb np p14
   replace fp14 := frozen_next hb np fp14
   replace t0 := cell_next hb nt t0
   replace t1 := cell_next hb nt t1
   replace t2 := cell_next hb nt t2
   replace t3 := cell_next hb nt t3
   replace K0 := cell_next hb nK K0
   replace K1 := cell_next hb nK K1
   replace np := Nat.lt_of_lt_of_le np hb.size
   replace nt := Nat.lt_of_lt_of_le nt hb.size
   replace nK := Nat.lt_of_lt_of_le nK hb.size
   replace hL := hL.trans (hb.mono (Nat.le_trans hBW hL.size))
   refine hK.out _ _ ⟨t1, t2, p2, p3, trivial⟩ (fun hHeld => ?_)
   clear hK K hb
   try simp only [Act.put, sA, sB, sC]
   refine tq 4 9 ?_ ?_ ?_; rotate_left; (focus intro w h; (try dsimp only at h); go_simp; try with_reducible rfl); try simp only [sA, sB, sC]
   refine tq 5 10 ?_ ?_ ?_; rotate_left; (focus intro w h; (try dsimp only at h); go_simp; try with_reducible rfl); try simp only [sA, sB, sC]
   refine tq 6 11 ?_ ?_ ?_; rotate_left; (focus intro w h; (try dsimp only at h); go_simp; try with_reducible rfl); try simp only [sA, sB, sC]
   refine tq 7 12 ?_ ?_ ?_; rotate_left; (focus intro w h; (try dsimp only at h); go_simp; try with_reducible rfl); try simp only [sA, sB, sC]
   refine tq 8 13 ?_ ?_ ?_; rotate_left; (focus intro w h; (try dsimp only at h); go_simp; try with_reducible rfl); try simp only [sA, sB, sC]
   refine tq 9 14 ?_ ?_ ?_; rotate_left; (focus intro w h; (try dsimp only at h); go_simp; try with_reducible rfl); try simp only [sA, sB, sC]
   refine tq 10 15 ?_ ?_ ?_; rotate_left; (focus intro w h; (try dsimp only at h); go_simp; try with_reducible rfl); try simp only [sA, sB, sC]
   refine tq 11 16 ?_ ?_ ?_; rotate_left; (focus intro w h; (try dsimp only at h); go_simp; try with_reducible rfl); try simp only [sA, sB, sC]
   refine tq 12 17 ?_ ?_ ?_; rotate_left; (focus intro w h; (try dsimp only at h); go_simp; try with_reducible rfl); try simp only [sA, sB, sC]
   refine tq 13 18 ?_ ?_ ?_; rotate_left; (focus intro w h; (try dsimp only at h); go_simp; try with_reducible rfl); try simp only [sA, sB, sC]
   refine tq 14 19 ?_ ?_ ?_; rotate_left; (focus intro w h; (try dsimp only at h); go_simp; try with_reducible rfl); try simp only [sA, sB, sC]
   refine tq 15 20 ?_ ?_ ?_; rotate_left; (focus intro w h; (try dsimp only at h); go_simp; try with_reducible rfl); try simp only [sA, sB, sC]
   refine tq 16 21 ?_ ?_ ?_; rotate_left; (focus intro w h; (try dsimp only at h); go_simp; try with_reducible rfl); try simp only [sA, sB, sC]
   refine tq 17 22 ?_ ?_ ?_; rotate_left; (focus intro w h; (try dsimp only at h); go_simp; try with_reducible rfl); try simp only [sA, sB, sC]
   refine take_slot (i := 18) (d := 23) (v := undef) rfl rfl (by kernel_rfl) (by kernel_rfl) (by kernel_rfl) (fun _ _ _ h => h) (Or.inr ⟨by rfl, rfl⟩) (by assumption) ?_
   try simp only [sA, sB, sC]
   refine take_slot (i := 19) (d := 24) (v := undef) rfl rfl (by kernel_rfl) (by kernel_rfl) (by kernel_rfl) (fun _ _ _ h => h) (Or.inr ⟨by rfl, rfl⟩) (by assumption) ?_
   try simp only [sA, sB, sC]
   refine take_slot (i := 20) (d := 25) (v := undef) rfl rfl (by kernel_rfl) (by kernel_rfl) (by kernel_rfl) (fun _ _ _ h => h) (Or.inr ⟨by rfl, rfl⟩) (by assumption) ?_
   try simp only [sA, sB, sC]
   refine take_slot (i := 21) (d := 26) (v := undef) rfl rfl (by kernel_rfl) (by kernel_rfl) (by kernel_rfl) (fun _ _ _ h => h) (Or.inr ⟨by rfl, rfl⟩) (by assumption) ?_
   try simp only [sA, sB, sC]
   refine take_slot (i := 22) (d := 27) (v := undef) rfl rfl (by kernel_rfl) (by kernel_rfl) (by kernel_rfl) (fun _ _ _ h => h) (Or.inr ⟨by rfl, rfl⟩) (by assumption) ?_
   try simp only [sA, sB, sC]
   refine take_slot (i := 23) (d := 28) (v := undef) rfl rfl (by kernel_rfl) (by kernel_rfl) (by kernel_rfl) (fun _ _ _ h => h) (Or.inr ⟨by rfl, rfl⟩) (by assumption) ?_
   try simp only [sA, sB, sC]
   refine take_slot (i := 24) (d := 29) (v := undef) rfl rfl (by kernel_rfl) (by kernel_rfl) (by kernel_rfl) (fun _ _ _ h => h) (Or.inr ⟨by rfl, rfl⟩) (by assumption) ?_
   try simp only [sA, sB, sC]
   refine take_slot (i := 25) (d := 30) (v := undef) rfl rfl (by kernel_rfl) (by kernel_rfl) (by kernel_rfl) (fun _ _ _ h => h) (Or.inr ⟨by rfl, rfl⟩) (by assumption) ?_
   try simp only [sA, sB, sC]
   refine take_slot (i := 26) (d := 31) (v := undef) rfl rfl (by kernel_rfl) (by kernel_rfl) (by kernel_rfl) (fun _ _ _ h => h) (Or.inr ⟨by rfl, rfl⟩) (by assumption) ?_
   try simp only [sA, sB, sC]
   refine take_slot (i := 27) (d := 32) (v := undef) rfl rfl (by kernel_rfl) (by kernel_rfl) (by kernel_rfl) (fun _ _ _ h => h) (Or.inr ⟨by rfl, rfl⟩) (by assumption) ?_
   try simp only [sA, sB, sC]
   refine tq 28 33 ?_ ?_ ?_; rotate_left; (focus intro w h; (try dsimp only at h); go_simp; try with_reducible rfl); try simp only [sA, sB, sC]
   refine wpAnyH_done (by kernel_rfl) ?_ _
   replace hB := hB.trans (hL.mono hB.size)
   clear hHeld hL hBW
   have hG : w.grownBy Z2x2 (some b) := only_of_below' hB
   go_wp2_with fail
   go_ret
   exact ⟨rfl, ⟨np, bt_cells p0 p1 p2 p3 p4 p5 p6 p7 p8 p9 p10 p11 p12 p13 p14, bt_froz fp0 fp1 fp2 fp3 fp4 fp5 fp6 fp7 fp8 fp9 fp10 fp11 fp12 fp13 fp14⟩, hG⟩
  ·cases z3
   ·obtain rfl : E = 3 := HE2.out.trans (by simp)
    obtain rfl : S = ⟨dl, dh, hl, hh, sl, sh, tl, th, bg, se⟩ := HS.out.trans (by simp)
    clear HE2 HS
    have hBW : W1.heap.size ≤ W1.heap.size := Nat.le_refl _
    refine wp_region_held_drew (S := fun w' => w'.cell? ⟨w.heap.size, 1, none⟩ = some (.int .i64 lo) ∧ w'.cell? ⟨w.heap.size, 2, none⟩ = some (.int .i64 hi) ∧ w'.cell? ⟨b, 2, none⟩ = some (.int .i64 hl) ∧ w'.cell? ⟨b, 3, none⟩ = some (.int .i64 hh) ∧ True) (by kernel_rfl) ?_ (fun hHeld => ?_)
    focus (exact ⟨t1, t2, p2, p3, trivial⟩)
    have hL : Below W1.heap.size W1 W1.drew := Below.drew (Below.refl _ _)
    replace p0 : W1.drew.cell? ⟨b, 0, none⟩ = some (.int .i64 dl) := p0
    replace fp0 : W1.drew.frozen? ⟨b, 0, none⟩ = false := fp0
    replace p1 : W1.drew.cell? ⟨b, 1, none⟩ = some (.int .i64 dh) := p1
    replace fp1 : W1.drew.frozen? ⟨b, 1, none⟩ = false := fp1
    replace p2 : W1.drew.cell? ⟨b, 2, none⟩ = some (.int .i64 hl) := p2
    replace fp2 : W1.drew.frozen? ⟨b, 2, none⟩ = false := fp2
    replace p3 : W1.drew.cell? ⟨b, 3, none⟩ = some (.int .i64 hh) := p3
    replace fp3 : W1.drew.frozen? ⟨b, 3, none⟩ = false := fp3
    replace p4 : W1.drew.cell? ⟨b, 4, none⟩ = some (.int .i64 sl) := p4
    replace fp4 : W1.drew.frozen? ⟨b, 4, none⟩ = false := fp4
    replace p5 : W1.drew.cell? ⟨b, 5, none⟩ = some (.int .i64 sh) := p5
    replace fp5 : W1.drew.frozen? ⟨b, 5, none⟩ = false := fp5
    replace p6 : W1.drew.cell? ⟨b, 6, none⟩ = some (.int .i64 tl) := p6
    replace fp6 : W1.drew.frozen? ⟨b, 6, none⟩ = false := fp6
    replace p7 : W1.drew.cell? ⟨b, 7, none⟩ = some (.int .i64 th) := p7
    replace fp7 : W1.drew.frozen? ⟨b, 7, none⟩ = false := fp7
    replace p8 : W1.drew.cell? ⟨b, 8, none⟩ = some (.bool bg) := p8
    replace fp8 : W1.drew.frozen? ⟨b, 8, none⟩ = false := fp8
    replace p9 : W1.drew.cell? ⟨b, 9, none⟩ = some (.int .i64 se) := p9
    replace fp9 : W1.drew.frozen? ⟨b, 9, none⟩ = false := fp9
    replace p10 : W1.drew.cell? ⟨b, 10, none⟩ = some (.slice A1 n1 c1) := p10
    replace fp10 : W1.drew.frozen? ⟨b, 10, none⟩ = false := fp10
    replace p11 : W1.drew.cell? ⟨b, 11, none⟩ = some (.slice A2 n2 c2) := p11
    replace fp11 : W1.drew.frozen? ⟨b, 11, none⟩ = false := fp11
    replace p12 : W1.drew.cell? ⟨b, 12, none⟩ = some (.int .i64 bl) := p12
    replace fp12 : W1.drew.frozen? ⟨b, 12, none⟩ = false := fp12
    replace p13 : W1.drew.cell? ⟨b, 13, none⟩ = some (.int .i64 bh) := p13
    replace fp13 : W1.drew.frozen? ⟨b, 13, none⟩ = false := fp13
    replace p14 : W1.drew.cell? ⟨b, 14, none⟩ = some (.slice A3 n3 c3) := p14
    replace fp14 : W1.drew.frozen? ⟨b, 14, none⟩ = false := fp14
    replace t0 : W1.drew.cell? ⟨w.heap.size, 0, none⟩ = some (.int .i64 k) := t0
    replace t1 : W1.drew.cell? ⟨w.heap.size, 1, none⟩ = some (.int .i64 lo) := t1
    replace t2 : W1.drew.cell? ⟨w.heap.size, 2, none⟩ = some (.int .i64 hi) := t2
    replace t3 : W1.drew.cell? ⟨w.heap.size, 3, none⟩ = some (.int .i64 m) := t3
    replace np : b < W1.drew.heap.size := np
    replace nt : w.heap.size < W1.drew.heap.size := nt
    generalize hWd : W1.drew = wd2 at hHeld hL p0 fp0 p1 fp1 p2 fp2 p3 fp3 p4 fp4 p5 fp5 p6 fp6 p7 fp7 p8 fp8 p9 fp9 p10 fp10 p11 fp11 p12 fp12 p13 fp13 p14 fp14 t0 t1 t2 t3 np nt  ⊢
    clear hWd
    refine tq 0 5 ?_ ?_ ?_; rotate_left; (focus intro w h; (try dsimp only at h); go_simp; try with_reducible rfl); try simp only [sA, sB, sC]
    refine tq 1 6 ?_ ?_ ?_; rotate_left; (focus intro w h; (try dsimp only at h); go_simp; try with_reducible rfl); try simp only [sA, sB, sC]
    refine rd1 2 (fun K hK => ?_)
    go_simp
    have hb := (Below.refl wd2.heap.size wd2).alloc (Nat.le_refl _) (Obj.cells #[.int .i64 lo, .int .i64 hi] 24)
    have szZ2x1 := hL.size
    have ord1np := np
    have ord1nt := nt
    replace p0 := cell_next hb np p0
    replace fp0 := frozen_next hb np fp0
    replace p1 := cell_next hb np p1
    replace fp1 := frozen_next hb np fp1
    replace p2 := cell_next hb np p2
    replace fp2 := frozen_next hb np fp2
    replace p3 := cell_next hb np p3
    replace fp3 := frozen_next hb np fp3
    replace p4 := cell_next hb np p4
    replace fp4 := frozen_next hb np fp4
    replace p5 := cell_next hb np p5
    replace fp5 := frozen_next hb np fp5
    replace p6 := cell_next hb np p6
    replace fp6 := frozen_next hb np fp6
    replace p7 := cell_next hb np p7
    replace fp7 := frozen_next hb np fp7
    replace p8 := cell_next hb np p8
    replace fp8 := frozen_next hb np fp8
    replace p9 := cell_next hb np p9
    replace fp9 := frozen_next hb np fp9
    replace p10 := cell_next hb np p10
    replace fp10 := frozen_next hb np fp10
    replace p11 := cell_next hb np p11
    replace fp11 := frozen_next hb np fp11
    replace p12 := cell_next hb np p12
    replace fp12 := frozen_next hb np fp12
    replace p13 := cell_next hb np p13
    replace fp13 := frozen_next hb np fp13
    replace p14 := cell_next hb np p14
    replace fp14 := frozen_next hb np fp14
    replace t0 := cell_next hb nt t0
    replace t1 := cell_next hb nt t1
    replace t2 := cell_next hb nt t2
    replace t3 := cell_next hb nt t3
    replace np := Nat.lt_of_lt_of_le np hb.size
    replace nt := Nat.lt_of_lt_of_le nt hb.size
    replace hL := hL.trans (hb.mono (Nat.le_trans hBW hL.size))
    have K0 : (wd2.alloc (Obj.cells #[.int .i64 lo, .int .i64 hi] 24)).cell? ⟨wd2.heap.size, 0, none⟩ = some (.int .i64 lo) := cell_new _ _ _ 0
    have K1 : (wd2.alloc (Obj.cells #[.int .i64 lo, .int .i64 hi] 24)).cell? ⟨wd2.heap.size, 1, none⟩ = some (.int .i64 hi) := cell_new _ _ _ 1
    have nK : wd2.heap.size < (wd2.alloc (Obj.cells #[.int .i64 lo, .int .i64 hi] 24)).heap.size := by simp
    refine hK.out _ _ ⟨t1, t2, p2, p3, trivial⟩ (fun hHeld => ?_)
    clear hK K hb
    generalize wd2.alloc (Obj.cells #[.int .i64 lo, .int .i64 hi] 24) = Z2x1 at *
    try simp only [Act.put, sA, sB, sC]
    refine rd1 3 (fun K hK => ?_)
    go_simp
    refine (C1.out _ _ _ nK K0 K1).mono ?_
    rintro e Z2x2 ⟨rfl, hb⟩
    replace p0 := cell_next hb np p0
    replace fp0 := frozen_next hb np fp0
    replace p1 := cell_next hb np p1
    replace fp1 := frozen_next hb np fp1
    replace p2 := cell_next hb np p2
    replace fp2 := frozen_next hb np fp2
    replace p3 := cell_next hb np p3
    replace fp3 := frozen_next hb np fp3
    replace p4 := cell_next hb np p4
    replace fp4 := frozen_next hb np fp4
    replace p5 := cell_next hb np p5
    replace fp5 := frozen_next hb np fp5
    replace p6 := cell_next hb np p6
    replace fp6 := frozen_next hb np fp6
    replace p7 := cell_next hb np p7
    replace fp7 := frozen_next hb np fp7
    replace p8 := cell_next hb np p8
    replace fp8 := frozen_next hb np fp8
    replace p9 := cell_next hb np p9
    replace fp9 := frozen_next hb np fp9
    replace p10 := cell_next hb np p10
    replace fp10 := frozen_next hb np fp10
    replace p11 := cell_next hb np p11
    replace fp11 := frozen_next hb np fp11
    replace p12 := cell_next hb np p12
    replace fp12 := frozen_next hb np fp12
    replace p13 := cell_next hb np p13
    replace fp13 := frozen_next hb np fp13
    replace p14 := cell_next hb np p14
    replace fp14 := frozen_next hb np fp14
    replace t0 := cell_next hb nt t0
    replace t1 := cell_next hb nt t1
    replace t2 := cell_next hb nt t2
    replace t3 := cell_next hb nt t3
    replace K0 := cell_next hb nK K0
    replace K1 := cell_next hb nK K1
    replace np := Nat.lt_of_lt_of_le np hb.size
    replace nt := Nat.lt_of_lt_of_le nt hb.size
    replace nK := Nat.lt_of_lt_of_le nK hb.size
    replace hL := hL.trans (hb.mono (Nat.le_trans hBW hL.size))
    refine hK.out _ _ ⟨t1, t2, p2, p3, trivial⟩ (fun hHeld => ?_)
    clear hK K hb
    try simp only [Act.put, sA, sB, sC]
    refine tq 4 9 ?_ ?_ ?_; rotate_left; (focus intro w h; (try dsimp only at h); go_simp; try with_reducible rfl); try simp only [sA, sB, sC]
    refine tq 5 10 ?_ ?_ ?_; rotate_left; (focus intro w h; (try dsimp only at h); go_simp; try with_reducible rfl); try simp only [sA, sB, sC]
    refine tq 6 11 ?_ ?_ ?_; rotate_left; (focus intro w h; (try dsimp only at h); go_simp; try with_reducible rfl); try simp only [sA, sB, sC]
    refine tq 7 12 ?_ ?_ ?_; rotate_left; (focus intro w h; (try dsimp only at h); go_simp; try with_reducible rfl); try simp only [sA, sB, sC]
    refine tq 8 13 ?_ ?_ ?_; rotate_left; (focus intro w h; (try dsimp only at h); go_simp; try with_reducible rfl); try simp only [sA, sB, sC]
    refine tq 9 14 ?_ ?_ ?_; rotate_left; (focus intro w h; (try dsimp only at h); go_simp; try with_reducible rfl); try simp only [sA, sB, sC]
    refine tq 10 15 ?_ ?_ ?_; rotate_left; (focus intro w h; (try dsimp only at h); go_simp; try with_reducible rfl); try simp only [sA, sB, sC]
    refine tq 11 16 ?_ ?_ ?_; rotate_left; (focus intro w h; (try dsimp only at h); go_simp; try with_reducible rfl); try simp only [sA, sB, sC]
    refine tq 12 17 ?_ ?_ ?_; rotate_left; (focus intro w h; (try dsimp only at h); go_simp; try with_reducible rfl); try simp only [sA, sB, sC]
    refine tq 13 18 ?_ ?_ ?_; rotate_left; (focus intro w h; (try dsimp only at h); go_simp; try with_reducible rfl); try simp only [sA, sB, sC]
    refine tq 14 19 ?_ ?_ ?_; rotate_left; (focus intro w h; (try dsimp only at h); go_simp; try with_reducible rfl); try simp only [sA, sB, sC]
    refine tq 15 20 ?_ ?_ ?_; rotate_left; (focus intro w h; (try dsimp only at h); go_simp; try with_reducible rfl); try simp only [sA, sB, sC]
    refine tq 16 21 ?_ ?_ ?_; rotate_left; (focus intro w h; (try dsimp only at h); go_simp; try with_reducible rfl); try simp only [sA, sB, sC]
    refine tq 17 22 ?_ ?_ ?_; rotate_left; (focus intro w h; (try dsimp only at h); go_simp; try with_reducible rfl); try simp only [sA, sB, sC]
    refine tq 18 23 ?_ ?_ ?_; rotate_left; (focus intro w h; (try dsimp only at h); go_simp; try with_reducible rfl); try simp only [sA, sB, sC]
    refine tq 19 24 ?_ ?_ ?_; rotate_left; (focus intro w h; (try dsimp only at h); go_simp; try with_reducible rfl); try simp only [sA, sB, sC]
    refine tq 20 25 ?_ ?_ ?_; rotate_left; (focus intro w h; (try dsimp only at h); go_simp; try with_reducible rfl); try simp only [sA, sB, sC]
    refine tq 21 26 ?_ ?_ ?_; rotate_left; (focus intro w h; (try dsimp only at h); go_simp; try with_reducible rfl); try simp only [sA, sB, sC]
    refine tq 22 27 ?_ ?_ ?_; rotate_left; (focus intro w h; (try dsimp only at h); go_simp; try with_reducible rfl); try simp only [sA, sB, sC]
    refine tq 23 28 ?_ ?_ ?_; rotate_left; (focus intro w h; (try dsimp only at h); go_simp; try with_reducible rfl); try simp only [sA, sB, sC]
    refine tq 24 29 ?_ ?_ ?_; rotate_left; (focus intro w h; (try dsimp only at h); go_simp; try with_reducible rfl); try simp only [sA, sB, sC]
    refine tq 25 30 ?_ ?_ ?_; rotate_left; (focus intro w h; (try dsimp only at h); go_simp; try with_reducible rfl); try simp only [sA, sB, sC]
    refine tq 26 31 ?_ ?_ ?_; rotate_left; (focus intro w h; (try dsimp only at h); go_simp; try with_reducible rfl); try simp only [sA, sB, sC]
    refine tq 27 32 ?_ ?_ ?_; rotate_left; (focus intro w h; (try dsimp only at h); go_simp; try with_reducible rfl); try simp only [sA, sB, sC]
    refine tq 28 33 ?_ ?_ ?_; rotate_left; (focus intro w h; (try dsimp only at h); go_simp; try with_reducible rfl); try simp only [sA, sB, sC]
    refine wpAnyH_done (by kernel_rfl) ?_ _
    replace hB := hB.trans (hL.mono hB.size)
    clear hHeld hL hBW
    have hG : w.grownBy Z2x2 (some b) := only_of_below' hB
    go_wp2_with fail
    go_ret
    exact ⟨rfl, ⟨np, bt_cells p0 p1 p2 p3 p4 p5 p6 p7 p8 p9 p10 p11 p12 p13 p14, bt_froz fp0 fp1 fp2 fp3 fp4 fp5 fp6 fp7 fp8 fp9 fp10 fp11 fp12 fp13 fp14⟩, hG⟩
   ·obtain rfl : E = 0 := HE2.out.trans (by simp)
    obtain rfl : S = ⟨dl, dh, lo, hi, sl, sh, tl, th, bg, se⟩ := HS.out.trans (by simp)
    clear HE2 HS
    have hBW : W1.heap.size ≤ W1.heap.size := Nat.le_refl _
    refine wp_region_held_drew (S := fun w' => w'.cell? ⟨w.heap.size, 1, none⟩ = some (.int .i64 lo) ∧ w'.cell? ⟨w.heap.size, 2, none⟩ = some (.int .i64 hi) ∧ w'.cell? ⟨b, 2, none⟩ = some (.int .i64 hl) ∧ w'.cell? ⟨b, 3, none⟩ = some (.int .i64 hh) ∧ True) (by kernel_rfl) ?_ (fun hHeld => ?_)
    focus (exact ⟨t1, t2, p2, p3, trivial⟩)
    have hL : Below W1.heap.size W1 W1.drew := Below.drew (Below.refl _ _)
    replace p0 : W1.drew.cell? ⟨b, 0, none⟩ = some (.int .i64 dl) := p0
    replace fp0 : W1.drew.frozen? ⟨b, 0, none⟩ = false := fp0
    replace p1 : W1.drew.cell? ⟨b, 1, none⟩ = some (.int .i64 dh) := p1
    replace fp1 : W1.drew.frozen? ⟨b, 1, none⟩ = false := fp1
    replace p2 : W1.drew.cell? ⟨b, 2, none⟩ = some (.int .i64 hl) := p2
    replace fp2 : W1.drew.frozen? ⟨b, 2, none⟩ = false := fp2
    replace p3 : W1.drew.cell? ⟨b, 3, none⟩ = some (.int .i64 hh) := p3
    replace fp3 : W1.drew.frozen? ⟨b, 3, none⟩ = false := fp3
    replace p4 : W1.drew.cell? ⟨b, 4, none⟩ = some (.int .i64 sl) := p4
    replace fp4 : W1.drew.frozen? ⟨b, 4, none⟩ = false := fp4
    replace p5 : W1.drew.cell? ⟨b, 5, none⟩ = some (.int .i64 sh) := p5
    replace fp5 : W1.drew.frozen? ⟨b, 5, none⟩ = false := fp5
    replace p6 : W1.drew.cell? ⟨b, 6, none⟩ = some (.int .i64 tl) := p6
    replace fp6 : W1.drew.frozen? ⟨b, 6, none⟩ = false := fp6
    replace p7 : W1.drew.cell? ⟨b, 7, none⟩ = some (.int .i64 th) := p7
    replace fp7 : W1.drew.frozen? ⟨b, 7, none⟩ = false := fp7
    replace p8 : W1.drew.cell? ⟨b, 8, none⟩ = some (.bool bg) := p8
    replace fp8 : W1.drew.frozen? ⟨b, 8, none⟩ = false := fp8
    replace p9 : W1.drew.cell? ⟨b, 9, none⟩ = some (.int .i64 se) := p9
    replace fp9 : W1.drew.frozen? ⟨b, 9, none⟩ = false := fp9
    replace p10 : W1.drew.cell? ⟨b, 10, none⟩ = some (.slice A1 n1 c1) := p10
    replace fp10 : W1.drew.frozen? ⟨b, 10, none⟩ = false := fp10
    replace p11 : W1.drew.cell? ⟨b, 11, none⟩ = some (.slice A2 n2 c2) := p11
    replace fp11 : W1.drew.frozen? ⟨b, 11, none⟩ = false := fp11
    replace p12 : W1.drew.cell? ⟨b, 12, none⟩ = some (.int .i64 bl) := p12
    replace fp12 : W1.drew.frozen? ⟨b, 12, none⟩ = false := fp12
    replace p13 : W1.drew.cell? ⟨b, 13, none⟩ = some (.int .i64 bh) := p13
    replace fp13 : W1.drew.frozen? ⟨b, 13, none⟩ = false := fp13
    replace p14 : W1.drew.cell? ⟨b, 14, none⟩ = some (.slice A3 n3 c3) := p14
    replace fp14 : W1.drew.frozen? ⟨b, 14, none⟩ = false := fp14
    replace t0 : W1.drew.cell? ⟨w.heap.size, 0, none⟩ = some (.int .i64 k) := t0
    replace t1 : W1.drew.cell? ⟨w.heap.size, 1, none⟩ = some (.int .i64 lo) := t1
    replace t2 : W1.drew.cell? ⟨w.heap.size, 2, none⟩ = some (.int .i64 hi) := t2
    replace t3 : W1.drew.cell? ⟨w.heap.size, 3, none⟩ = some (.int .i64 m) := t3
    replace np : b < W1.drew.heap.size := np
    replace nt : w.heap.size < W1.drew.heap.size := nt
    generalize hWd : W1.drew = wd2 at hHeld hL p0 fp0 p1 fp1 p2 fp2 p3 fp3 p4 fp4 p5 fp5 p6 fp6 p7 fp7 p8 fp8 p9 fp9 p10 fp10 p11 fp11 p12 fp12 p13 fp13 p14 fp14 t0 t1 t2 t3 np nt  ⊢
    clear hWd
    refine tq 0 5 ?_ ?_ ?_; rotate_left; (focus intro w h; (try dsimp only at h); go_simp; try with_reducible rfl); try simp only [sA, sB, sC]
    refine tq 1 6 ?_ ?_ ?_; rotate_left; (focus intro w h; (try dsimp only at h); go_simp; try with_reducible rfl); try simp only [sA, sB, sC]
    refine rd1 2 (fun K hK => ?_)
    go_simp
    have hb := (Below.refl wd2.heap.size wd2).alloc (Nat.le_refl _) (Obj.cells #[.int .i64 lo, .int .i64 hi] 24)
    have szZ2x1 := hL.size
    have ord1np := np
    have ord1nt := nt
    replace p0 := cell_next hb np p0
    replace fp0 := frozen_next hb np fp0
    replace p1 := cell_next hb np p1
    replace fp1 := frozen_next hb np fp1
    replace p2 := cell_next hb np p2
    replace fp2 := frozen_next hb np fp2
    replace p3 := cell_next hb np p3
    replace fp3 := frozen_next hb np fp3
    replace p4 := cell_next hb np p4
    replace fp4 := frozen_next hb np fp4
    replace p5 := cell_next hb np p5
    replace fp5 := frozen_next hb np fp5
    replace p6 := cell_next hb np p6
    replace fp6 := frozen_next hb np fp6
    replace p7 := cell_next hb np p7
    replace fp7 := frozen_next hb np fp7
    replace p8 := cell_next hb np p8
    replace fp8 := frozen_next hb np fp8
    replace p9 := cell_next hb np p9
    replace fp9 := frozen_next hb np fp9
    replace p10 := cell_next hb np p10
    replace fp10 := frozen_next hb np fp10
    replace p11 := cell_next hb np p11
    replace fp11 := frozen_next hb np fp11
    replace p12 := cell_next hb np p12
    replace fp12 := frozen_next hb np fp12
    replace p13 := cell_next hb np p13
    replace fp13 := frozen_next hb np fp13
    replace p14 := cell_next hb np p14
    replace fp14 := frozen_next hb np fp14
    replace t0 := cell_next hb nt t0
    replace t1 := cell_next hb nt t1
    replace t2 := cell_next hb nt t2
    replace t3 := cell_next hb nt t3
    replace np := Nat.lt_of_lt_of_le np hb.size
    replace nt := Nat.lt_of_lt_of_le nt hb.size
    replace hL := hL.trans (hb.mono (Nat.le_trans hBW hL.size))
    have K0 : (wd2.alloc (Obj.cells #[.int .i64 lo, .int .i64 hi] 24)).cell? ⟨wd2.heap.size, 0, none⟩ = some (.int .i64 lo) := cell_new _ _ _ 0
    have K1 : (wd2.alloc (Obj.cells #[.int .i64 lo, .int .i64 hi] 24)).cell? ⟨wd2.heap.size, 1, none⟩ = some (.int .i64 hi) := cell_new _ _ _ 1
    have nK : wd2.heap.size < (wd2.alloc (Obj.cells #[.int .i64 lo, .int .i64 hi] 24)).heap.size := by simp
    refine hK.out _ _ ⟨t1, t2, p2, p3, trivial⟩ (fun hHeld => ?_)
    clear hK K hb
    generalize wd2.alloc (Obj.cells #[.int .i64 lo, .int .i64 hi] 24) = Z2x1 at *
    try simp only [Act.put, sA, sB, sC]
    refine rd1 3 (fun K hK => ?_)
    go_simp
    refine (C1.out _ _ _ nK K0 K1).mono ?_
    rintro e Z2x2 ⟨rfl, hb⟩
    replace p0 := cell_next hb np p0
    replace fp0 := frozen_next hb np fp0
    replace p1 := cell_next hb np p1
    replace fp1 := frozen_next hb np fp1
    replace p2 := cell_next hb np p2
    replace fp2 := frozen_next hb np fp2
    replace p3 := cell_next hb np p3
    replace fp3 := frozen_next hb np fp3
    replace p4 := cell_next hb np p4
    replace fp4 := frozen_next hb np fp4
    replace p5 := cell_next hb np p5
    replace fp5 := frozen_next hb np fp5
    replace p6 := cell_next hb np p6
    replace fp6 := frozen_next hb np fp6
    replace p7 := cell_next hb np p7
    replace fp7 := frozen_next hb np fp7
    replace p8 := cell_next hb np p8
    replace fp8 := frozen_next hb np fp8
    replace p9 := cell_next hb np p9
    replace fp9 := frozen_next hb np fp9
    replace p10 := cell_next hb np p10
    replace fp10 := frozen_next hb np fp10
    replace p11 := cell_next hb np p11
    replace fp11 := frozen_next hb np fp11
    replace p12 := cell_next hb np p12
    replace fp12 := frozen_next hb np fp12
    replace p13 := cell_next hb np p13
    replace fp13 := frozen_next hb np fp13
    replace p14 := cell_next hb np p14
    replace fp14 := frozen_next hb np fp14
    replace t0 := cell_next hb nt t0
    replace t1 := cell_next hb nt t1
    replace t2 := cell_next hb nt t2
    replace t3 := cell_next hb nt t3
    replace K0 := cell_next hb nK K0
    replace K1 := cell_next hb nK K1
    replace np := Nat.lt_of_lt_of_le np hb.size
    replace nt := Nat.lt_of_lt_of_le nt hb.size
    replace nK := Nat.lt_of_lt_of_le nK hb.size
    replace hL := hL.trans (hb.mono (Nat.le_trans hBW hL.size))
    refine hK.out _ _ ⟨t1, t2, p2, p3, trivial⟩ (fun hHeld => ?_)
    clear hK K hb
    try simp only [Act.put, sA, sB, sC]
    refine tq 4 9 ?_ ?_ ?_; rotate_left; (focus intro w h; (try dsimp only at h); go_simp; try with_reducible rfl); try simp only [sA, sB, sC]
    refine tq 5 10 ?_ ?_ ?_; rotate_left; (focus intro w h; (try dsimp only at h); go_simp; try with_reducible rfl); try simp only [sA, sB, sC]
    refine tq 6 11 ?_ ?_ ?_; rotate_left; (focus intro w h; (try dsimp only at h); go_simp; try with_reducible rfl); try simp only [sA, sB, sC]
    refine tq 7 12 ?_ ?_ ?_; rotate_left; (focus intro w h; (try dsimp only at h); go_simp; try with_reducible rfl); try simp only [sA, sB, sC]
    refine tq 8 13 ?_ ?_ ?_; rotate_left; (focus intro w h; (try dsimp only at h); go_simp; try with_reducible rfl); try simp only [sA, sB, sC]
    refine tq 9 14 ?_ ?_ ?_; rotate_left; (focus intro w h; (try dsimp only at h); go_simp; try with_reducible rfl); try simp only [sA, sB, sC]
    refine tq 10 15 ?_ ?_ ?_; rotate_left; (focus intro w h; (try dsimp only at h); go_simp; try with_reducible rfl); try simp only [sA, sB, sC]
    refine tq 11 16 ?_ ?_ ?_; rotate_left; (focus intro w h; (try dsimp only at h); go_simp; try with_reducible rfl); try simp only [sA, sB, sC]
    refine tq 12 17 ?_ ?_ ?_; rotate_left; (focus intro w h; (try dsimp only at h); go_simp; try with_reducible rfl); try simp only [sA, sB, sC]
    refine tq 13 18 ?_ ?_ ?_; rotate_left; (focus intro w h; (try dsimp only at h); go_simp; try with_reducible rfl); try simp only [sA, sB, sC]
    refine tq 14 19 ?_ ?_ ?_; rotate_left; (focus intro w h; (try dsimp only at h); go_simp; try with_reducible rfl); try simp only [sA, sB, sC]
    refine tq 15 20 ?_ ?_ ?_; rotate_left; (focus intro w h; (try dsimp only at h); go_simp; try with_reducible rfl); try simp only [sA, sB, sC]
    refine tq 16 21 ?_ ?_ ?_; rotate_left; (focus intro w h; (try dsimp only at h); go_simp; try with_reducible rfl); try simp only [sA, sB, sC]
    refine tq 17 22 ?_ ?_ ?_; rotate_left; (focus intro w h; (try dsimp only at h); go_simp; try with_reducible rfl); try simp only [sA, sB, sC]
    refine tq 18 23 ?_ ?_ ?_; rotate_left; (focus intro w h; (try dsimp only at h); go_simp; try with_reducible rfl); try simp only [sA, sB, sC]
    refine tq 19 24 ?_ ?_ ?_; rotate_left; (focus intro w h; (try dsimp only at h); go_simp; try with_reducible rfl); try simp only [sA, sB, sC]
    refine tq 20 25 ?_ ?_ ?_; rotate_left; (focus intro w h; (try dsimp only at h); go_simp; try with_reducible rfl); try simp only [sA, sB, sC]
    refine tq 21 26 ?_ ?_ ?_; rotate_left; (focus intro w h; (try dsimp only at h); go_simp; try with_reducible rfl); try simp only [sA, sB, sC]
    refine tq 22 27 ?_ ?_ ?_; rotate_left; (focus intro w h; (try dsimp only at h); go_simp; try with_reducible rfl); try simp only [sA, sB, sC]
    refine tq 23 28 ?_ ?_ ?_; rotate_left; (focus intro w h; (try dsimp only at h); go_simp; try with_reducible rfl); try simp only [sA, sB, sC]
    refine tq 24 29 ?_ ?_ ?_; rotate_left; (focus intro w h; (try dsimp only at h); go_simp; try with_reducible rfl); try simp only [sA, sB, sC]
    refine tq 25 30 ?_ ?_ ?_; rotate_left; (focus intro w h; (try dsimp only at h); go_simp; try with_reducible rfl); try simp only [sA, sB, sC]
    refine tq 26 31 ?_ ?_ ?_; rotate_left; (focus intro w h; (try dsimp only at h); go_simp; try with_reducible rfl); try simp only [sA, sB, sC]
    refine tq 27 32 ?_ ?_ ?_; rotate_left; (focus intro w h; (try dsimp only at h); go_simp; try with_reducible rfl); try simp only [sA, sB, sC]
    refine tq 28 33 ?_ ?_ ?_; rotate_left; (focus intro w h; (try dsimp only at h); go_simp; try with_reducible rfl); try simp only [sA, sB, sC]
    refine wpAnyH_done (by kernel_rfl) ?_ _
    replace hB := hB.trans (hL.mono hB.size)
    clear hHeld hL hBW
    have hG : w.grownBy Z2x2 (some b) := only_of_below' hB
    go_wp2_with fail
    replace p0 : ((Z2x2.setCell ⟨b, 2, none⟩ (.int .i64 lo)).setCell ⟨b, 3, none⟩ (.int .i64 hi)).cell? ⟨b, 0, none⟩ = some (.int .i64 dl) := ((so (by omega)).trans ((so (by omega)).trans p0))
    replace fp0 : ((Z2x2.setCell ⟨b, 2, none⟩ (.int .i64 lo)).setCell ⟨b, 3, none⟩ (.int .i64 hi)).frozen? ⟨b, 0, none⟩ = false := by simp [go_sem, fp0]
    replace p1 : ((Z2x2.setCell ⟨b, 2, none⟩ (.int .i64 lo)).setCell ⟨b, 3, none⟩ (.int .i64 hi)).cell? ⟨b, 1, none⟩ = some (.int .i64 dh) := ((so (by omega)).trans ((so (by omega)).trans p1))
    replace fp1 : ((Z2x2.setCell ⟨b, 2, none⟩ (.int .i64 lo)).setCell ⟨b, 3, none⟩ (.int .i64 hi)).frozen? ⟨b, 1, none⟩ = false := by simp [go_sem, fp1]
    replace p2 : ((Z2x2.setCell ⟨b, 2, none⟩ (.int .i64 lo)).setCell ⟨b, 3, none⟩ (.int .i64 hi)).cell? ⟨b, 2, none⟩ = some (.int .i64 lo) := by simp [go_sem, p2]
    replace fp2 : ((Z2x2.setCell ⟨b, 2, none⟩ (.int .i64 lo)).setCell ⟨b, 3, none⟩ (.int .i64 hi)).frozen? ⟨b, 2, none⟩ = false := by simp [go_sem, fp2]
    replace p3 : ((Z2x2.setCell ⟨b, 2, none⟩ (.int .i64 lo)).setCell ⟨b, 3, none⟩ (.int .i64 hi)).cell? ⟨b, 3, none⟩ = some (.int .i64 hi) := by simp [go_sem, p3]
    replace fp3 : ((Z2x2.setCell ⟨b, 2, none⟩ (.int .i64 lo)).setCell ⟨b, 3, none⟩ (.int .i64 hi)).frozen? ⟨b, 3, none⟩ = false := by simp [go_sem, fp3]
    replace p4 : ((Z2x2.setCell ⟨b, 2, none⟩ (.int .i64 lo)).setCell ⟨b, 3, none⟩ (.int .i64 hi)).cell? ⟨b, 4, none⟩ = some (.int .i64 sl) := ((so (by omega)).trans ((so (by omega)).trans p4))
    replace fp4 : ((Z2x2.setCell ⟨b, 2, none⟩ (.int .i64 lo)).setCell ⟨b, 3, none⟩ (.int .i64 hi)).frozen? ⟨b, 4, none⟩ = false := by simp [go_sem, fp4]
    replace p5 : ((Z2x2.setCell ⟨b, 2, none⟩ (.int .i64 lo)).setCell ⟨b, 3, none⟩ (.int .i64 hi)).cell? ⟨b, 5, none⟩ = some (.int .i64 sh) := ((so (by omega)).trans ((so (by omega)).trans p5))
    replace fp5 : ((Z2x2.setCell ⟨b, 2, none⟩ (.int .i64 lo)).setCell ⟨b, 3, none⟩ (.int .i64 hi)).frozen? ⟨b, 5, none⟩ = false := by simp [go_sem, fp5]
    replace p6 : ((Z2x2.setCell ⟨b, 2, none⟩ (.int .i64 lo)).setCell ⟨b, 3, none⟩ (.int .i64 hi)).cell? ⟨b, 6, none⟩ = some (.int .i64 tl) := ((so (by omega)).trans ((so (by omega)).trans p6))
    replace fp6 : ((Z2x2.setCell ⟨b, 2, none⟩ (.int .i64 lo)).setCell ⟨b, 3, none⟩ (.int .i64 hi)).frozen? ⟨b, 6, none⟩ = false := by simp [go_sem, fp6]
    replace p7 : ((Z2x2.setCell ⟨b, 2, none⟩ (.int .i64 lo)).setCell ⟨b, 3, none⟩ (.int .i64 hi)).cell? ⟨b, 7, none⟩ = some (.int .i64 th) := ((so (by omega)).trans ((so (by omega)).trans p7))
    replace fp7 : ((Z2x2.setCell ⟨b, 2, none⟩ (.int .i64 lo)).setCell ⟨b, 3, none⟩ (.int .i64 hi)).frozen? ⟨b, 7, none⟩ = false := by simp [go_sem, fp7]
    replace p8 : ((Z2x2.setCell ⟨b, 2, none⟩ (.int .i64 lo)).setCell ⟨b, 3, none⟩ (.int .i64 hi)).cell? ⟨b, 8, none⟩ = some (.bool bg) := ((so (by omega)).trans ((so (by omega)).trans p8))
    replace fp8 : ((Z2x2.setCell ⟨b, 2, none⟩ (.int .i64 lo)).setCell ⟨b, 3, none⟩ (.int .i64 hi)).frozen? ⟨b, 8, none⟩ = false := by simp [go_sem, fp8]
    replace p9 : ((Z2x2.setCell ⟨b, 2, none⟩ (.int .i64 lo)).setCell ⟨b, 3, none⟩ (.int .i64 hi)).cell? ⟨b, 9, none⟩ = some (.int .i64 se) := ((so (by omega)).trans ((so (by omega)).trans p9))
    replace fp9 : ((Z2x2.setCell ⟨b, 2, none⟩ (.int .i64 lo)).setCell ⟨b, 3, none⟩ (.int .i64 hi)).frozen? ⟨b, 9, none⟩ = false := by simp [go_sem, fp9]
    replace p10 : ((Z2x2.setCell ⟨b, 2, none⟩ (.int .i64 lo)).setCell ⟨b, 3, none⟩ (.int .i64 hi)).cell? ⟨b, 10, none⟩ = some (.slice A1 n1 c1) := ((so (by omega)).trans ((so (by omega)).trans p10))
    replace fp10 : ((Z2x2.setCell ⟨b, 2, none⟩ (.int .i64 lo)).setCell ⟨b, 3, none⟩ (.int .i64 hi)).frozen? ⟨b, 10, none⟩ = false := by simp [go_sem, fp10]
    replace p11 : ((Z2x2.setCell ⟨b, 2, none⟩ (.int .i64 lo)).setCell ⟨b, 3, none⟩ (.int .i64 hi)).cell? ⟨b, 11, none⟩ = some (.slice A2 n2 c2) := ((so (by omega)).trans ((so (by omega)).trans p11))
    replace fp11 : ((Z2x2.setCell ⟨b, 2, none⟩ (.int .i64 lo)).setCell ⟨b, 3, none⟩ (.int .i64 hi)).frozen? ⟨b, 11, none⟩ = false := by simp [go_sem, fp11]
    replace p12 : ((Z2x2.setCell ⟨b, 2, none⟩ (.int .i64 lo)).setCell ⟨b, 3, none⟩ (.int .i64 hi)).cell? ⟨b, 12, none⟩ = some (.int .i64 bl) := ((so (by omega)).trans ((so (by omega)).trans p12))
    replace fp12 : ((Z2x2.setCell ⟨b, 2, none⟩ (.int .i64 lo)).setCell ⟨b, 3, none⟩ (.int .i64 hi)).frozen? ⟨b, 12, none⟩ = false := by simp [go_sem, fp12]
    replace p13 : ((Z2x2.setCell ⟨b, 2, none⟩ (.int .i64 lo)).setCell ⟨b, 3, none⟩ (.int .i64 hi)).cell? ⟨b, 13, none⟩ = some (.int .i64 bh) := ((so (by omega)).trans ((so (by omega)).trans p13))
    replace fp13 : ((Z2x2.setCell ⟨b, 2, none⟩ (.int .i64 lo)).setCell ⟨b, 3, none⟩ (.int .i64 hi)).frozen? ⟨b, 13, none⟩ = false := by simp [go_sem, fp13]
    replace p14 : ((Z2x2.setCell ⟨b, 2, none⟩ (.int .i64 lo)).setCell ⟨b, 3, none⟩ (.int .i64 hi)).cell? ⟨b, 14, none⟩ = some (.slice A3 n3 c3) := ((so (by omega)).trans ((so (by omega)).trans p14))
    replace fp14 : ((Z2x2.setCell ⟨b, 2, none⟩ (.int .i64 lo)).setCell ⟨b, 3, none⟩ (.int .i64 hi)).frozen? ⟨b, 14, none⟩ = false := by simp [go_sem, fp14]
    replace np : b < ((Z2x2.setCell ⟨b, 2, none⟩ (.int .i64 lo)).setCell ⟨b, 3, none⟩ (.int .i64 hi)).heap.size := by simpa [World.setCell] using np
    replace t0 : ((Z2x2.setCell ⟨b, 2, none⟩ (.int .i64 lo)).setCell ⟨b, 3, none⟩ (.int .i64 hi)).cell? ⟨w.heap.size, 0, none⟩ = some (.int .i64 k) := ((so (by omega)).trans ((so (by omega)).trans t0))
    replace t1 : ((Z2x2.setCell ⟨b, 2, none⟩ (.int .i64 lo)).setCell ⟨b, 3, none⟩ (.int .i64 hi)).cell? ⟨w.heap.size, 1, none⟩ = some (.int .i64 lo) := ((so (by omega)).trans ((so (by omega)).trans t1))
    replace t2 : ((Z2x2.setCell ⟨b, 2, none⟩ (.int .i64 lo)).setCell ⟨b, 3, none⟩ (.int .i64 hi)).cell? ⟨w.heap.size, 2, none⟩ = some (.int .i64 hi) := ((so (by omega)).trans ((so (by omega)).trans t2))
    replace t3 : ((Z2x2.setCell ⟨b, 2, none⟩ (.int .i64 lo)).setCell ⟨b, 3, none⟩ (.int .i64 hi)).cell? ⟨w.heap.size, 3, none⟩ = some (.int .i64 m) := ((so (by omega)).trans ((so (by omega)).trans t3))
    replace nt : w.heap.size < ((Z2x2.setCell ⟨b, 2, none⟩ (.int .i64 lo)).setCell ⟨b, 3, none⟩ (.int .i64 hi)).heap.size := by simpa [World.setCell] using nt
    replace hG : w.grownBy ((Z2x2.setCell ⟨b, 2, none⟩ (.int .i64 lo)).setCell ⟨b, 3, none⟩ (.int .i64 hi)) (some b) := (only_setCell' (only_setCell' hG rfl _) rfl _)
    generalize ((Z2x2.setCell ⟨b, 2, none⟩ (.int .i64 lo)).setCell ⟨b, 3, none⟩ (.int .i64 hi)) = W3 at *
    go_wp2_with fail
    go_ret
    exact ⟨rfl, ⟨np, bt_cells p0 p1 p2 p3 p4 p5 p6 p7 p8 p9 p10 p11 p12 p13 p14, bt_froz fp0 fp1 fp2 fp3 fp4 fp5 fp6 fp7 fp8 fp9 fp10 fp11 fp12 fp13 fp14⟩, hG⟩

set_option maxRecDepth 20000 in
set_option maxHeartbeats 4000000 in
theorem stir_any (b : Nat) (x : St) (v1 v2 v3 : Value) (R : Cr) (a : Ac) (B : Nat) (w : World) (hx : StOk x) (h : BtAt b w x v1 v2 v3 R) (hv : CrAt B w v1 v2 v3 R) :
  Calls Tryz.prog 121 #[.pointer (some ⟨b, 0, none⟩), .agg (cAc a).toArray] w fun e w' => e = .returned (.int .i64 (siE x a.lo a.hi)) ∧ BtAt b w' (siS x a.lo a.hi) v1 v2 v3 R ∧ w.grownBy w' (some b) := by
 obtain ⟨k, lo, hi, m⟩ := a
 have C1 := Lib.hid (fun (W : World) (g c : Nat) => lie1v_any 0 1000 lo hi g c W)
 have HI := Lib.hid (fun (h : rgB 0 1000 lo hi = true) => rgB_of h)
 obtain ⟨E, hE⟩ : ∃ E, siE x lo hi = E := ⟨_, rfl⟩
 obtain ⟨S, hS⟩ : ∃ S, siS x lo hi = S := ⟨_, rfl⟩
 have HS : Hid (S = if E = 0 then { x with sl := if x.bg then x.sl else x.hl, sh := if x.bg then x.sh else x.hh, bg := true, tl := x.tl + lo, th := x.th + hi } else x) := Lib.hid (by rw [← hS, ← hE]; rfl)
 have HE : Hid (E = if rgB 0 1000 lo hi = true then (if 1000 < x.th + hi then 10 else 0) else 3) := Lib.hid (by rw [← hE]; rfl)
 dsimp only
 rw [hE, hS]
 clear hE hS
 obtain ⟨ht, hs⟩ := hx
 
 obtain ⟨np, hpc, hpf⟩ := h
 obtain ⟨A1, c1, A2, c2, A3, c3, rfl, rfl, rfl⟩ := hv.slices
 clear hv
 have nb := np
 obtain ⟨dl, dh, hl, hh, sl, sh, tl, th, bg, se⟩ := x
 obtain ⟨xs, ys, bl, bh, ps⟩ := R
 dsimp only at *
 have p0 : w.cell? ⟨b, 0, none⟩ = some (.int .i64 dl) := hpc 0 _ rfl
 have p1 : w.cell? ⟨b, 1, none⟩ = some (.int .i64 dh) := hpc 1 _ rfl
 have p2 : w.cell? ⟨b, 2, none⟩ = some (.int .i64 hl) := hpc 2 _ rfl
 have p3 : w.cell? ⟨b, 3, none⟩ = some (.int .i64 hh) := hpc 3 _ rfl
 have p4 : w.cell? ⟨b, 4, none⟩ = some (.int .i64 sl) := hpc 4 _ rfl
 have p5 : w.cell? ⟨b, 5, none⟩ = some (.int .i64 sh) := hpc 5 _ rfl
 have p6 : w.cell? ⟨b, 6, none⟩ = some (.int .i64 tl) := hpc 6 _ rfl
 have p7 : w.cell? ⟨b, 7, none⟩ = some (.int .i64 th) := hpc 7 _ rfl
 have p8 : w.cell? ⟨b, 8, none⟩ = some (.bool bg) := hpc 8 _ rfl
 have p9 : w.cell? ⟨b, 9, none⟩ = some (.int .i64 se) := hpc 9 _ rfl
 have p10 : w.cell? ⟨b, 10, none⟩ = some (.slice A1 xs.length c1) := hpc 10 _ rfl
 have p11 : w.cell? ⟨b, 11, none⟩ = some (.slice A2 ys.length c2) := hpc 11 _ rfl
 have p12 : w.cell? ⟨b, 12, none⟩ = some (.int .i64 bl) := hpc 12 _ rfl
 have p13 : w.cell? ⟨b, 13, none⟩ = some (.int .i64 bh) := hpc 13 _ rfl
 have p14 : w.cell? ⟨b, 14, none⟩ = some (.slice A3 ps.length c3) := hpc 14 _ rfl
 have fp0 := hpf 0 (by omega)
 have fp1 := hpf 1 (by omega)
 have fp2 := hpf 2 (by omega)
 have fp3 := hpf 3 (by omega)
 have fp4 := hpf 4 (by omega)
 have fp5 := hpf 5 (by omega)
 have fp6 := hpf 6 (by omega)
 have fp7 := hpf 7 (by omega)
 have fp8 := hpf 8 (by omega)
 have fp9 := hpf 9 (by omega)
 have fp10 := hpf 10 (by omega)
 have fp11 := hpf 11 (by omega)
 have fp12 := hpf 12 (by omega)
 have fp13 := hpf 13 (by omega)
 have fp14 := hpf 14 (by omega)
 clear hpc hpf
 generalize xs.length = n1 at *
 generalize ys.length = n2 at *
 generalize ps.length = n3 at *
 dsimp only [cAc]
 generalize rgB 0 1000 lo hi = z1 at *
 go_enter Tryz.func121, Tryz.ntmps121
 go_wp2_with fail
 refine (C1.out _ _ _ (by simp) (by simp [go_sem]) (by simp [go_sem])).mono ?_
 rintro e W1 ⟨rfl, hb⟩
 replace p0 := cell_next (below2 hb) np p0
 replace fp0 := frozen_next (below2 hb) np fp0
 replace p1 := cell_next (below2 hb) np p1
 replace fp1 := frozen_next (below2 hb) np fp1
 replace p2 := cell_next (below2 hb) np p2
 replace fp2 := frozen_next (below2 hb) np fp2
 replace p3 := cell_next (below2 hb) np p3
 replace fp3 := frozen_next (below2 hb) np fp3
 replace p4 := cell_next (below2 hb) np p4
 replace fp4 := frozen_next (below2 hb) np fp4
 replace p5 := cell_next (below2 hb) np p5
 replace fp5 := frozen_next (below2 hb) np fp5
 replace p6 := cell_next (below2 hb) np p6
 replace fp6 := frozen_next (below2 hb) np fp6
 replace p7 := cell_next (below2 hb) np p7
 replace fp7 := frozen_next (below2 hb) np fp7
 replace p8 := cell_next (below2 hb) np p8
 replace fp8 := frozen_next (below2 hb) np fp8
 replace p9 := cell_next (below2 hb) np p9
 replace fp9 := frozen_next (below2 hb) np fp9
 replace p10 := cell_next (below2 hb) np p10
 replace fp10 := frozen_next (below2 hb) np fp10
 replace p11 := cell_next (below2 hb) np p11
 replace fp11 := frozen_next (below2 hb) np fp11
 replace p12 := cell_next (below2 hb) np p12
 replace fp12 := frozen_next (below2 hb) np fp12
 replace p13 := cell_next (below2 hb) np p13
 replace fp13 := frozen_next (below2 hb) np fp13
 replace p14 := cell_next (below2 hb) np p14
 replace fp14 := frozen_next (below2 hb) np fp14
 replace np := Nat.lt_of_lt_of_le np (below2 hb).size
 have t0 := cell_next hb (b := w.heap.size) (o := 0) (by simp <;> omega) (v := some (.int .i64 k)) (by simp [go_sem])
 have t1 := cell_next hb (b := w.heap.size) (o := 1) (by simp <;> omega) (v := some (.int .i64 lo)) (by simp [go_sem])
 have t2 := cell_next hb (b := w.heap.size) (o := 2) (by simp <;> omega) (v := some (.int .i64 hi)) (by simp [go_sem])
 have t3 := cell_next hb (b := w.heap.size) (o := 3) (by simp <;> omega) (v := some (.int .i64 m)) (by simp [go_sem])
 have nt : w.heap.size < W1.heap.size := by have := hb.size; simp at this; omega
 have hB := (below2 hb)
 clear hb
 cases z1
 ·clear HI
  obtain rfl : E = 3 := HE.out.trans (by simp [*])
  obtain rfl : S = ⟨dl, dh, hl, hh, sl, sh, tl, th, bg, se⟩ := HS.out.trans (by simp)
  clear HE HS
  have hG : w.grownBy W1 (some b) := only_of_below' hB
  go_wp2_with fail
  go_ret
  exact ⟨rfl, ⟨np, bt_cells p0 p1 p2 p3 p4 p5 p6 p7 p8 p9 p10 p11 p12 p13 p14, bt_froz fp0 fp1 fp2 fp3 fp4 fp5 fp6 fp7 fp8 fp9 fp10 fp11 fp12 fp13 fp14⟩, hG⟩
 ·have hm := HI.out (by simp)
  clear HI
  obtain ⟨TL, hTL⟩ : ∃ T, tl + lo = T := ⟨_, rfl⟩
  obtain ⟨TH, hTH⟩ : ∃ T, th + hi = T := ⟨_, rfl⟩
  have y1 : IntKind.i64.wrap (th + hi) = TH := by rw [← hTH]; exact IntWalk.i64_in _ (by omega)
  have y2 : IntKind.i64.wrap (tl + lo) = TL := by rw [← hTL]; exact IntWalk.i64_in _ (by omega)
  rw [hTL, hTH] at HS
  rw [hTH] at HE
  have HTT := Lib.hid (And.intro hTL hTH)
  clear hTL hTH
  by_cases hd : 1000 < TH
  ·have d1 : decide (1000 < TH) = true := decide_eq_true hd
   obtain rfl : E = 10 := HE.out.trans (by simp [*])
   obtain rfl : S = ⟨dl, dh, hl, hh, sl, sh, tl, th, bg, se⟩ := HS.out.trans (by simp)
   clear HE HS
   go_wp2_with fail
   have hBW : W1.heap.size ≤ W1.heap.size := Nat.le_refl _
   refine wp_region_held_drew (S := fun w' => w'.cell? ⟨b, 7, none⟩ = some (.int .i64 th) ∧ w'.cell? ⟨w.heap.size, 2, none⟩ = some (.int .i64 hi) ∧ True) (by kernel_rfl) ?_ (fun hHeld => ?_)
   focus (exact ⟨p7, t2, trivial⟩)
   have hL : Below W1.heap.size W1 W1.drew := Below.drew (Below.refl _ _)
   replace p0 : W1.drew.cell? ⟨b, 0, none⟩ = some (.int .i64 dl) := p0
   replace fp0 : W1.drew.frozen? ⟨b, 0, none⟩ = false := fp0
   replace p1 : W1.drew.cell? ⟨b, 1, none⟩ = some (.int .i64 dh) := p1
   replace fp1 : W1.drew.frozen? ⟨b, 1, none⟩ = false := fp1
   replace p2 : W1.drew.cell? ⟨b, 2, none⟩ = some (.int .i64 hl) := p2
   replace fp2 : W1.drew.frozen? ⟨b, 2, none⟩ = false := fp2
   replace p3 : W1.drew.cell? ⟨b, 3, none⟩ = some (.int .i64 hh) := p3
   replace fp3 : W1.drew.frozen? ⟨b, 3, none⟩ = false := fp3
   replace p4 : W1.drew.cell? ⟨b, 4, none⟩ = some (.int .i64 sl) := p4
   replace fp4 : W1.drew.frozen? ⟨b, 4, none⟩ = false := fp4
   replace p5 : W1.drew.cell? ⟨b, 5, none⟩ = some (.int .i64 sh) := p5
   replace fp5 : W1.drew.frozen? ⟨b, 5, none⟩ = false := fp5
   replace p6 : W1.drew.cell? ⟨b, 6, none⟩ = some (.int .i64 tl) := p6
   replace fp6 : W1.drew.frozen? ⟨b, 6, none⟩ = false := fp6
   replace p7 : W1.drew.cell? ⟨b, 7, none⟩ = some (.int .i64 th) := p7
   replace fp7 : W1.drew.frozen? ⟨b, 7, none⟩ = false := fp7
   replace p8 : W1.drew.cell? ⟨b, 8, none⟩ = some (.bool bg) := p8
   replace fp8 : W1.drew.frozen? ⟨b, 8, none⟩ = false := fp8
   replace p9 : W1.drew.cell? ⟨b, 9, none⟩ = some (.int .i64 se) := p9
   replace fp9 : W1.drew.frozen? ⟨b, 9, none⟩ = false := fp9
   replace p10 : W1.drew.cell? ⟨b, 10, none⟩ = some (.slice A1 n1 c1) := p10
   replace fp10 : W1.drew.frozen? ⟨b, 10, none⟩ = false := fp10
   replace p11 : W1.drew.cell? ⟨b, 11, none⟩ = some (.slice A2 n2 c2) := p11
   replace fp11 : W1.drew.frozen? ⟨b, 11, none⟩ = false := fp11
   replace p12 : W1.drew.cell? ⟨b, 12, none⟩ = some (.int .i64 bl) := p12
   replace fp12 : W1.drew.frozen? ⟨b, 12, none⟩ = false := fp12
   replace p13 : W1.drew.cell? ⟨b, 13, none⟩ = some (.int .i64 bh) := p13
   replace fp13 : W1.drew.frozen? ⟨b, 13, none⟩ = false := fp13
   replace p14 : W1.drew.cell? ⟨b, 14, none⟩ = some (.slice A3 n3 c3) := p14
   replace fp14 : W1.drew.frozen? ⟨b, 14, none⟩ = false := fp14
   replace t0 : W1.drew.cell? ⟨w.heap.size, 0, none⟩ = some (.int .i64 k) := t0
   replace t1 : W1.drew.cell? ⟨w.heap.size, 1, none⟩ = some (.int .i64 lo) := t1
   replace t2 : W1.drew.cell? ⟨w.heap.size, 2, none⟩ = some (.int .i64 hi) := t2
   replace t3 : W1.drew.cell? ⟨w.heap.size, 3, none⟩ = some (.int .i64 m) := t3
   replace np : b < W1.drew.heap.size := np
   replace nt : w.heap.size < W1.drew.heap.size := nt
   generalize hWd : W1.drew = wd2 at hHeld hL p0 fp0 p1 fp1 p2 fp2 p3 fp3 p4 fp4 p5 fp5 p6 fp6 p7 fp7 p8 fp8 p9 fp9 p10 fp10 p11 fp11 p12 fp12 p13 fp13 p14 fp14 t0 t1 t2 t3 np nt  ⊢
   clear hWd
   refine tq 0 10 ?_ ?_ ?_; rotate_left; (focus intro w h; (try dsimp only at h); go_simp; try with_reducible rfl); try simp only [sA, sB, sC]
   refine tq 1 11 ?_ ?_ ?_; rotate_left; (focus intro w h; (try dsimp only at h); go_simp; try with_reducible rfl); try simp only [sA, sB, sC]
   refine tq 2 12 ?_ ?_ ?_; rotate_left; (focus intro w h; (try dsimp only at h); go_simp; try with_reducible rfl); try simp only [sA, sB, sC]
   refine tq 3 13 ?_ ?_ ?_; rotate_left; (focus intro w h; (try dsimp only at h); go_simp; try with_reducible rfl); try simp only [sA, sB, sC]
   refine tq 4 14 ?_ ?_ ?_; rotate_left; (focus intro w h; (try dsimp only at h); go_simp; try with_reducible rfl); try simp only [sA, sB, sC]
   refine tq 5 15 ?_ ?_ ?_; rotate_left; (focus intro w h; (try dsimp only at h); go_simp; try with_reducible rfl); try simp only [sA, sB, sC]
   refine tq 6 16 ?_ ?_ ?_; rotate_left; (focus intro w h; (try dsimp only at h); go_simp; try with_reducible rfl); try simp only [sA, sB, sC]
   refine tq 7 17 ?_ ?_ ?_; rotate_left; (focus intro w h; (try dsimp only at h); go_simp; try with_reducible rfl); try simp only [sA, sB, sC]
   refine tq 8 18 ?_ ?_ ?_; rotate_left; (focus intro w h; (try dsimp only at h); go_simp; try with_reducible rfl); try simp only [sA, sB, sC]
   refine tq 9 19 ?_ ?_ ?_; rotate_left; (focus intro w h; (try dsimp only at h); go_simp; try with_reducible rfl); try simp only [sA, sB, sC]
   refine tq 10 20 ?_ ?_ ?_; rotate_left; (focus intro w h; (try dsimp only at h); go_simp; try with_reducible rfl); try simp only [sA, sB, sC]
   refine wpAnyH_done (by kernel_rfl) ?_ _
   replace hB := hB.trans (hL.mono hB.size)
   clear hHeld hL hBW
   have hG : w.grownBy wd2 (some b) := only_of_below' hB
   go_wp2_with fail
   go_ret
   exact ⟨rfl, ⟨np, bt_cells p0 p1 p2 p3 p4 p5 p6 p7 p8 p9 p10 p11 p12 p13 p14, bt_froz fp0 fp1 fp2 fp3 fp4 fp5 fp6 fp7 fp8 fp9 fp10 fp11 fp12 fp13 fp14⟩, hG⟩
  ·have d1 : decide (1000 < TH) = false := decide_eq_false hd
   obtain rfl : E = 0 := HE.out.trans (by simp [*])
   clear HE
   go_wp2_with fail
   have hBW : W1.heap.size ≤ W1.heap.size := Nat.le_refl _
   refine wp_region_held_drew (S := fun w' => w'.cell? ⟨b, 7, none⟩ = some (.int .i64 th) ∧ w'.cell? ⟨w.heap.size, 2, none⟩ = some (.int .i64 hi) ∧ True) (by kernel_rfl) ?_ (fun hHeld => ?_)
   focus (exact ⟨p7, t2, trivial⟩)
   have hL : Below W1.heap.size W1 W1.drew := Below.drew (Below.refl _ _)
   replace p0 : W1.drew.cell? ⟨b, 0, none⟩ = some (.int .i64 dl) := p0
   replace fp0 : W1.drew.frozen? ⟨b, 0, none⟩ = false := fp0
   replace p1 : W1.drew.cell? ⟨b, 1, none⟩ = some (.int .i64 dh) := p1
   replace fp1 : W1.drew.frozen? ⟨b, 1, none⟩ = false := fp1
   replace p2 : W1.drew.cell? ⟨b, 2, none⟩ = some (.int .i64 hl) := p2
   replace fp2 : W1.drew.frozen? ⟨b, 2, none⟩ = false := fp2
   replace p3 : W1.drew.cell? ⟨b, 3, none⟩ = some (.int .i64 hh) := p3
   replace fp3 : W1.drew.frozen? ⟨b, 3, none⟩ = false := fp3
   replace p4 : W1.drew.cell? ⟨b, 4, none⟩ = some (.int .i64 sl) := p4
   replace fp4 : W1.drew.frozen? ⟨b, 4, none⟩ = false := fp4
   replace p5 : W1.drew.cell? ⟨b, 5, none⟩ = some (.int .i64 sh) := p5
   replace fp5 : W1.drew.frozen? ⟨b, 5, none⟩ = false := fp5
   replace p6 : W1.drew.cell? ⟨b, 6, none⟩ = some (.int .i64 tl) := p6
   replace fp6 : W1.drew.frozen? ⟨b, 6, none⟩ = false := fp6
   replace p7 : W1.drew.cell? ⟨b, 7, none⟩ = some (.int .i64 th) := p7
   replace fp7 : W1.drew.frozen? ⟨b, 7, none⟩ = false := fp7
   replace p8 : W1.drew.cell? ⟨b, 8, none⟩ = some (.bool bg) := p8
   replace fp8 : W1.drew.frozen? ⟨b, 8, none⟩ = false := fp8
   replace p9 : W1.drew.cell? ⟨b, 9, none⟩ = some (.int .i64 se) := p9
   replace fp9 : W1.drew.frozen? ⟨b, 9, none⟩ = false := fp9
   replace p10 : W1.drew.cell? ⟨b, 10, none⟩ = some (.slice A1 n1 c1) := p10
   replace fp10 : W1.drew.frozen? ⟨b, 10, none⟩ = false := fp10
   replace p11 : W1.drew.cell? ⟨b, 11, none⟩ = some (.slice A2 n2 c2) := p11
   replace fp11 : W1.drew.frozen? ⟨b, 11, none⟩ = false := fp11
   replace p12 : W1.drew.cell? ⟨b, 12, none⟩ = some (.int .i64 bl) := p12
   replace fp12 : W1.drew.frozen? ⟨b, 12, none⟩ = false := fp12
   replace p13 : W1.drew.cell? ⟨b, 13, none⟩ = some (.int .i64 bh) := p13
   replace fp13 : W1.drew.frozen? ⟨b, 13, none⟩ = false := fp13
   replace p14 : W1.drew.cell? ⟨b, 14, none⟩ = some (.slice A3 n3 c3) := p14
   replace fp14 : W1.drew.frozen? ⟨b, 14, none⟩ = false := fp14
   replace t0 : W1.drew.cell? ⟨w.heap.size, 0, none⟩ = some (.int .i64 k) := t0
   replace t1 : W1.drew.cell? ⟨w.heap.size, 1, none⟩ = some (.int .i64 lo) := t1
   replace t2 : W1.drew.cell? ⟨w.heap.size, 2, none⟩ = some (.int .i64 hi) := t2
   replace t3 : W1.drew.cell? ⟨w.heap.size, 3, none⟩ = some (.int .i64 m) := t3
   replace np : b < W1.drew.heap.size := np
   replace nt : w.heap.size < W1.drew.heap.size := nt
   generalize hWd : W1.drew = wd2 at hHeld hL p0 fp0 p1 fp1 p2 fp2 p3 fp3 p4 fp4 p5 fp5 p6 fp6 p7 fp7 p8 fp8 p9 fp9 p10 fp10 p11 fp11 p12 fp12 p13 fp13 p14 fp14 t0 t1 t2 t3 np nt  ⊢
   clear hWd
   refine tq 0 10 ?_ ?_ ?_; rotate_left; (focus intro w h; (try dsimp only at h); go_simp; try with_reducible rfl); try simp only [sA, sB, sC]
   refine tq 1 11 ?_ ?_ ?_; rotate_left; (focus intro w h; (try dsimp only at h); go_simp; try with_reducible rfl); try simp only [sA, sB, sC]
   refine tq 2 12 ?_ ?_ ?_; rotate_left; (focus intro w h; (try dsimp only at h); go_simp; try with_reducible rfl); try simp only [sA, sB, sC]
   refine tq 3 13 ?_ ?_ ?_; rotate_left; (focus intro w h; (try dsimp only at h); go_simp; try with_reducible rfl); try simp only [sA, sB, sC]
   refine tq 4 14 ?_ ?_ ?_; rotate_left; (focus intro w h; (try dsimp only at h); go_simp; try with_reducible rfl); try simp only [sA, sB, sC]
   refine tq 5 15 ?_ ?_ ?_; rotate_left; (focus intro w h; (try dsimp only at h); go_simp; try with_reducible rfl); try simp only [sA, sB, sC]
   refine tq 6 16 ?_ ?_ ?_; rotate_left; (focus intro w h; (try dsimp only at h); go_simp; try with_reducible rfl); try simp only [sA, sB, sC]
   refine tq 7 17 ?_ ?_ ?_; rotate_left; (focus intro w h; (try dsimp only at h); go_simp; try with_reducible rfl); try simp only [sA, sB, sC]
   refine tq 8 18 ?_ ?_ ?_; rotate_left; (focus intro w h; (try dsimp only at h); go_simp; try with_reducible rfl); try simp only [sA, sB, sC]
   refine tq 9 19 ?_ ?_ ?_; rotate_left; (focus intro w h; (try dsimp only at h); go_simp; try with_reducible rfl); try simp only [sA, sB, sC]
   refine tq 10 20 ?_ ?_ ?_; rotate_left; (focus intro w h; (try dsimp only at h); go_simp; try with_reducible rfl); try simp only [sA, sB, sC]
   refine wpAnyH_done (by kernel_rfl) ?_ _
   replace hB := hB.trans (hL.mono hB.size)
   clear hHeld hL hBW
   have hG : w.grownBy wd2 (some b) := only_of_below' hB
   cases bg
   ·obtain rfl : S = ⟨dl, dh, hl, hh, hl, hh, TL, TH, true, se⟩ := HS.out.trans (by simp)
    clear HS
    go_wp2_with fail
    replace p0 : (((wd2.setCell ⟨b, 8, none⟩ (.bool true)).setCell ⟨b, 4, none⟩ (.int .i64 hl)).setCell ⟨b, 5, none⟩ (.int .i64 hh)).cell? ⟨b, 0, none⟩ = some (.int .i64 dl) := ((so (by omega)).trans ((so (by omega)).trans ((so (by omega)).trans p0)))
    replace fp0 : (((wd2.setCell ⟨b, 8, none⟩ (.bool true)).setCell ⟨b, 4, none⟩ (.int .i64 hl)).setCell ⟨b, 5, none⟩ (.int .i64 hh)).frozen? ⟨b, 0, none⟩ = false := by simp [go_sem, fp0]
    replace p1 : (((wd2.setCell ⟨b, 8, none⟩ (.bool true)).setCell ⟨b, 4, none⟩ (.int .i64 hl)).setCell ⟨b, 5, none⟩ (.int .i64 hh)).cell? ⟨b, 1, none⟩ = some (.int .i64 dh) := ((so (by omega)).trans ((so (by omega)).trans ((so (by omega)).trans p1)))
    replace fp1 : (((wd2.setCell ⟨b, 8, none⟩ (.bool true)).setCell ⟨b, 4, none⟩ (.int .i64 hl)).setCell ⟨b, 5, none⟩ (.int .i64 hh)).frozen? ⟨b, 1, none⟩ = false := by simp [go_sem, fp1]
    replace p2 : (((wd2.setCell ⟨b, 8, none⟩ (.bool true)).setCell ⟨b, 4, none⟩ (.int .i64 hl)).setCell ⟨b, 5, none⟩ (.int .i64 hh)).cell? ⟨b, 2, none⟩ = some (.int .i64 hl) := ((so (by omega)).trans ((so (by omega)).trans ((so (by omega)).trans p2)))
    replace fp2 : (((wd2.setCell ⟨b, 8, none⟩ (.bool true)).setCell ⟨b, 4, none⟩ (.int .i64 hl)).setCell ⟨b, 5, none⟩ (.int .i64 hh)).frozen? ⟨b, 2, none⟩ = false := by simp [go_sem, fp2]
    replace p3 : (((wd2.setCell ⟨b, 8, none⟩ (.bool true)).setCell ⟨b, 4, none⟩ (.int .i64 hl)).setCell ⟨b, 5, none⟩ (.int .i64 hh)).cell? ⟨b, 3, none⟩ = some (.int .i64 hh) := ((so (by omega)).trans ((so (by omega)).trans ((so (by omega)).trans p3)))
    replace fp3 : (((wd2.setCell ⟨b, 8, none⟩ (.bool true)).setCell ⟨b, 4, none⟩ (.int .i64 hl)).setCell ⟨b, 5, none⟩ (.int .i64 hh)).frozen? ⟨b, 3, none⟩ = false := by simp [go_sem, fp3]
    replace p4 : (((wd2.setCell ⟨b, 8, none⟩ (.bool true)).setCell ⟨b, 4, none⟩ (.int .i64 hl)).setCell ⟨b, 5, none⟩ (.int .i64 hh)).cell? ⟨b, 4, none⟩ = some (.int .i64 hl) := by simp [go_sem, p4]
    replace fp4 : (((wd2.setCell ⟨b, 8, none⟩ (.bool true)).setCell ⟨b, 4, none⟩ (.int .i64 hl)).setCell ⟨b, 5, none⟩ (.int .i64 hh)).frozen? ⟨b, 4, none⟩ = false := by simp [go_sem, fp4]
    replace p5 : (((wd2.setCell ⟨b, 8, none⟩ (.bool true)).setCell ⟨b, 4, none⟩ (.int .i64 hl)).setCell ⟨b, 5, none⟩ (.int .i64 hh)).cell? ⟨b, 5, none⟩ = some (.int .i64 hh) := by simp [go_sem, p5]
    replace fp5 : (((wd2.setCell ⟨b, 8, none⟩ (.bool true)).setCell ⟨b, 4, none⟩ (.int .i64 hl)).setCell ⟨b, 5, none⟩ (.int .i64 hh)).frozen? ⟨b, 5, none⟩ = false := by simp [go_sem, fp5]
    replace p6 : (((wd2.setCell ⟨b, 8, none⟩ (.bool true)).setCell ⟨b, 4, none⟩ (.int .i64 hl)).setCell ⟨b, 5, none⟩ (.int .i64 hh)).cell? ⟨b, 6, none⟩ = some (.int .i64 tl) := ((so (by omega)).trans ((so (by omega)).trans ((so (by omega)).trans p6)))
    replace fp6 : (((wd2.setCell ⟨b, 8, none⟩ (.bool true)).setCell ⟨b, 4, none⟩ (.int .i64 hl)).setCell ⟨b, 5, none⟩ (.int .i64 hh)).frozen? ⟨b, 6, none⟩ = false := by simp [go_sem, fp6]
    replace p7 : (((wd2.setCell ⟨b, 8, none⟩ (.bool true)).setCell ⟨b, 4, none⟩ (.int .i64 hl)).setCell ⟨b, 5, none⟩ (.int .i64 hh)).cell? ⟨b, 7, none⟩ = some (.int .i64 th) := ((so (by omega)).trans ((so (by omega)).trans ((so (by omega)).trans p7)))
    replace fp7 : (((wd2.setCell ⟨b, 8, none⟩ (.bool true)).setCell ⟨b, 4, none⟩ (.int .i64 hl)).setCell ⟨b, 5, none⟩ (.int .i64 hh)).frozen? ⟨b, 7, none⟩ = false := by simp [go_sem, fp7]
    replace p8 : (((wd2.setCell ⟨b, 8, none⟩ (.bool true)).setCell ⟨b, 4, none⟩ (.int .i64 hl)).setCell ⟨b, 5, none⟩ (.int .i64 hh)).cell? ⟨b, 8, none⟩ = some (.bool true) := by simp [go_sem, p8]
    replace fp8 : (((wd2.setCell ⟨b, 8, none⟩ (.bool true)).setCell ⟨b, 4, none⟩ (.int .i64 hl)).setCell ⟨b, 5, none⟩ (.int .i64 hh)).frozen? ⟨b, 8, none⟩ = false := by simp [go_sem, fp8]
    replace p9 : (((wd2.setCell ⟨b, 8, none⟩ (.bool true)).setCell ⟨b, 4, none⟩ (.int .i64 hl)).setCell ⟨b, 5, none⟩ (.int .i64 hh)).cell? ⟨b, 9, none⟩ = some (.int .i64 se) := ((so (by omega)).trans ((so (by omega)).trans ((so (by omega)).trans p9)))
    replace fp9 : (((wd2.setCell ⟨b, 8, none⟩ (.bool true)).setCell ⟨b, 4, none⟩ (.int .i64 hl)).setCell ⟨b, 5, none⟩ (.int .i64 hh)).frozen? ⟨b, 9, none⟩ = false := by simp [go_sem, fp9]
    replace p10 : (((wd2.setCell ⟨b, 8, none⟩ (.bool true)).setCell ⟨b, 4, none⟩ (.int .i64 hl)).setCell ⟨b, 5, none⟩ (.int .i64 hh)).cell? ⟨b, 10, none⟩ = some (.slice A1 n1 c1) := ((so (by omega)).trans ((so (by omega)).trans ((so (by omega)).trans p10)))
    replace fp10 : (((wd2.setCell ⟨b, 8, none⟩ (.bool true)).setCell ⟨b, 4, none⟩ (.int .i64 hl)).setCell ⟨b, 5, none⟩ (.int .i64 hh)).frozen? ⟨b, 10, none⟩ = false := by simp [go_sem, fp10]
    replace p11 : (((wd2.setCell ⟨b, 8, none⟩ (.bool true)).setCell ⟨b, 4, none⟩ (.int .i64 hl)).setCell ⟨b, 5, none⟩ (.int .i64 hh)).cell? ⟨b, 11, none⟩ = some (.slice A2 n2 c2) := ((so (by omega)).trans ((so (by omega)).trans ((so (by omega)).trans p11)))
    replace fp11 : (((wd2.setCell ⟨b, 8, none⟩ (.bool true)).setCell ⟨b, 4, none⟩ (.int .i64 hl)).setCell ⟨b, 5, none⟩ (.int .i64 hh)).frozen? ⟨b, 11, none⟩ = false := by simp [go_sem, fp11]
    replace p12 : (((wd2.setCell ⟨b, 8, none⟩ (.bool true)).setCell ⟨b, 4, none⟩ (.int .i64 hl)).setCell ⟨b, 5, none⟩ (.int .i64 hh)).cell? ⟨b, 12, none⟩ = some (.int .i64 bl) := ((so (by omega)).trans ((so (by omega)).trans ((so (by omega)).trans p12)))
    replace fp12 : (((wd2.setCell ⟨b, 8, none⟩ (.bool true)).setCell ⟨b, 4, none⟩ (.int .i64 hl)).setCell ⟨b, 5, none⟩ (.int .i64 hh)).frozen? ⟨b, 12, none⟩ = false := by simp [go_sem, fp12]
    replace p13 : (((wd2.setCell ⟨b, 8, none⟩ (.bool true)).setCell ⟨b, 4, none⟩ (.int .i64 hl)).setCell ⟨b, 5, none⟩ (.int .i64 hh)).cell? ⟨b, 13, none⟩ = some (.int .i64 bh) := ((so (by omega)).trans ((so (by omega)).trans ((so (by omega)).trans p13)))
    replace fp13 : (((wd2.setCell ⟨b, 8, none⟩ (.bool true)).setCell ⟨b, 4, none⟩ (.int .i64 hl)).setCell ⟨b, 5, none⟩ (.int .i64 hh)).frozen? ⟨b, 13, none⟩ = false := by simp [go_sem, fp13]
    replace p14 : (((wd2.setCell ⟨b, 8, none⟩ (.bool true)).setCell ⟨b, 4, none⟩ (.int .i64 hl)).setCell ⟨b, 5, none⟩ (.int .i64 hh)).cell? ⟨b, 14, none⟩ = some (.slice A3 n3 c3) := ((so (by omega)).trans ((so (by omega)).trans ((so (by omega)).trans p14)))
    replace fp14 : (((wd2.setCell ⟨b, 8, none⟩ (.bool true)).setCell ⟨b, 4, none⟩ (.int .i64 hl)).setCell ⟨b, 5, none⟩ (.int .i64 hh)).frozen? ⟨b, 14, none⟩ = false := by simp [go_sem, fp14]
    replace np : b < (((wd2.setCell ⟨b, 8, none⟩ (.bool true)).setCell ⟨b, 4, none⟩ (.int .i64 hl)).setCell ⟨b, 5, none⟩ (.int .i64 hh)).heap.size := by simpa [World.setCell] using np
    replace t0 : (((wd2.setCell ⟨b, 8, none⟩ (.bool true)).setCell ⟨b, 4, none⟩ (.int .i64 hl)).setCell ⟨b, 5, none⟩ (.int .i64 hh)).cell? ⟨w.heap.size, 0, none⟩ = some (.int .i64 k) := ((so (by omega)).trans ((so (by omega)).trans ((so (by omega)).trans t0)))
    replace t1 : (((wd2.setCell ⟨b, 8, none⟩ (.bool true)).setCell ⟨b, 4, none⟩ (.int .i64 hl)).setCell ⟨b, 5, none⟩ (.int .i64 hh)).cell? ⟨w.heap.size, 1, none⟩ = some (.int .i64 lo) := ((so (by omega)).trans ((so (by omega)).trans ((so (by omega)).trans t1)))
    replace t2 : (((wd2.setCell ⟨b, 8, none⟩ (.bool true)).setCell ⟨b, 4, none⟩ (.int .i64 hl)).setCell ⟨b, 5, none⟩ (.int .i64 hh)).cell? ⟨w.heap.size, 2, none⟩ = some (.int .i64 hi) := ((so (by omega)).trans ((so (by omega)).trans ((so (by omega)).trans t2)))
    replace t3 : (((wd2.setCell ⟨b, 8, none⟩ (.bool true)).setCell ⟨b, 4, none⟩ (.int .i64 hl)).setCell ⟨b, 5, none⟩ (.int .i64 hh)).cell? ⟨w.heap.size, 3, none⟩ = some (.int .i64 m) := ((so (by omega)).trans ((so (by omega)).trans ((so (by omega)).trans t3)))
    replace nt : w.heap.size < (((wd2.setCell ⟨b, 8, none⟩ (.bool true)).setCell ⟨b, 4, none⟩ (.int .i64 hl)).setCell ⟨b, 5, none⟩ (.int .i64 hh)).heap.size := by simpa [World.setCell] using nt
    replace hG : w.grownBy (((wd2.setCell ⟨b, 8, none⟩ (.bool true)).setCell ⟨b, 4, none⟩ (.int .i64 hl)).setCell ⟨b, 5, none⟩ (.int .i64 hh)) (some b) := (only_setCell' (only_setCell' (only_setCell' hG rfl _) rfl _) rfl _)
    generalize (((wd2.setCell ⟨b, 8, none⟩ (.bool true)).setCell ⟨b, 4, none⟩ (.int .i64 hl)).setCell ⟨b, 5, none⟩ (.int .i64 hh)) = W3 at *
    have hBW : b ≤ W3.heap.size := Nat.le_of_lt np
    refine wp_region_held_drew (S := fun w' => w'.cell? ⟨w.heap.size, 1, none⟩ = some (.int .i64 lo) ∧ True) (by kernel_rfl) ?_ (fun hHeld => ?_)
    focus (exact ⟨t1, trivial⟩)
    have hL : Below b W3 W3.drew := Below.drew (Below.refl _ _)
    have hQ : Hid (Kept (fun i => i = b) W3 W3.drew) := Lib.hid (Kept.refl _ _)
    replace p0 : W3.drew.cell? ⟨b, 0, none⟩ = some (.int .i64 dl) := p0
    replace fp0 : W3.drew.frozen? ⟨b, 0, none⟩ = false := fp0
    replace p1 : W3.drew.cell? ⟨b, 1, none⟩ = some (.int .i64 dh) := p1
    replace fp1 : W3.drew.frozen? ⟨b, 1, none⟩ = false := fp1
    replace p2 : W3.drew.cell? ⟨b, 2, none⟩ = some (.int .i64 hl) := p2
    replace fp2 : W3.drew.frozen? ⟨b, 2, none⟩ = false := fp2
    replace p3 : W3.drew.cell? ⟨b, 3, none⟩ = some (.int .i64 hh) := p3
    replace fp3 : W3.drew.frozen? ⟨b, 3, none⟩ = false := fp3
    replace p4 : W3.drew.cell? ⟨b, 4, none⟩ = some (.int .i64 hl) := p4
    replace fp4 : W3.drew.frozen? ⟨b, 4, none⟩ = false := fp4
    replace p5 : W3.drew.cell? ⟨b, 5, none⟩ = some (.int .i64 hh) := p5
    replace fp5 : W3.drew.frozen? ⟨b, 5, none⟩ = false := fp5
    replace p6 : W3.drew.cell? ⟨b, 6, none⟩ = some (.int .i64 tl) := p6
    replace fp6 : W3.drew.frozen? ⟨b, 6, none⟩ = false := fp6
    replace p7 : W3.drew.cell? ⟨b, 7, none⟩ = some (.int .i64 th) := p7
    replace fp7 : W3.drew.frozen? ⟨b, 7, none⟩ = false := fp7
    replace p8 : W3.drew.cell? ⟨b, 8, none⟩ = some (.bool true) := p8
    replace fp8 : W3.drew.frozen? ⟨b, 8, none⟩ = false := fp8
    replace p9 : W3.drew.cell? ⟨b, 9, none⟩ = some (.int .i64 se) := p9
    replace fp9 : W3.drew.frozen? ⟨b, 9, none⟩ = false := fp9
    replace p10 : W3.drew.cell? ⟨b, 10, none⟩ = some (.slice A1 n1 c1) := p10
    replace fp10 : W3.drew.frozen? ⟨b, 10, none⟩ = false := fp10
    replace p11 : W3.drew.cell? ⟨b, 11, none⟩ = some (.slice A2 n2 c2) := p11
    replace fp11 : W3.drew.frozen? ⟨b, 11, none⟩ = false := fp11
    replace p12 : W3.drew.cell? ⟨b, 12, none⟩ = some (.int .i64 bl) := p12
    replace fp12 : W3.drew.frozen? ⟨b, 12, none⟩ = false := fp12
    replace p13 : W3.drew.cell? ⟨b, 13, none⟩ = some (.int .i64 bh) := p13
    replace fp13 : W3.drew.frozen? ⟨b, 13, none⟩ = false := fp13
    replace p14 : W3.drew.cell? ⟨b, 14, none⟩ = some (.slice A3 n3 c3) := p14
    replace fp14 : W3.drew.frozen? ⟨b, 14, none⟩ = false := fp14
    replace t0 : W3.drew.cell? ⟨w.heap.size, 0, none⟩ = some (.int .i64 k) := t0
    replace t1 : W3.drew.cell? ⟨w.heap.size, 1, none⟩ = some (.int .i64 lo) := t1
    replace t2 : W3.drew.cell? ⟨w.heap.size, 2, none⟩ = some (.int .i64 hi) := t2
    replace t3 : W3.drew.cell? ⟨w.heap.size, 3, none⟩ = some (.int .i64 m) := t3
    replace np : b < W3.drew.heap.size := np
    replace nt : w.heap.size < W3.drew.heap.size := nt
    generalize hWd : W3.drew = wd4 at hHeld hL hQ p0 fp0 p1 fp1 p2 fp2 p3 fp3 p4 fp4 p5 fp5 p6 fp6 p7 fp7 p8 fp8 p9 fp9 p10 fp10 p11 fp11 p12 fp12 p13 fp13 p14 fp14 t0 t1 t2 t3 np nt  ⊢
    clear hWd
    refine tq 0 40 ?_ ?_ ?_; rotate_left; (focus intro w h; (try dsimp only at h); go_simp; try with_reducible rfl); try simp only [sA, sB, sC]
    refine tq 1 41 ?_ ?_ ?_; rotate_left; (focus intro w h; (try dsimp only at h); go_simp; try with_reducible rfl); try simp only [sA, sB, sC]
    refine tq 2 42 ?_ ?_ ?_; rotate_left; (focus intro w h; (try dsimp only at h); go_simp; try with_reducible rfl); try simp only [sA, sB, sC]
    refine tq 3 43 ?_ ?_ ?_; rotate_left; (focus intro w h; (try dsimp only at h); go_simp; try with_reducible rfl); try simp only [sA, sB, sC]
    refine tq 4 44 ?_ ?_ ?_; rotate_left; (focus intro w h; (try dsimp only at h); go_simp; try with_reducible rfl); try simp only [sA, sB, sC]
    refine tq 6 46 ?_ ?_ ?_; rotate_left; (focus intro w h; (try dsimp only at h); go_simp; try with_reducible rfl); try simp only [sA, sB, sC]
    refine tq 7 47 ?_ ?_ ?_; rotate_left; (focus intro w h; (try dsimp only at h); go_simp; try with_reducible rfl); try simp only [sA, sB, sC]
    refine tq 8 48 ?_ ?_ ?_; rotate_left; (focus intro w h; (try dsimp only at h); go_simp; try with_reducible rfl); try simp only [sA, sB, sC]
    refine rd1 5 (fun K hK => ?_)
    go_simp
    refine hK.out _ _ ⟨t1, trivial⟩ (fun hHeld => ?_)
    clear hK K
    try simp only [Act.put, sA, sB, sC]
    refine tq 9 49 ?_ ?_ ?_; rotate_left; (focus intro w h; (try dsimp only at h); go_simp; try with_reducible rfl); try simp only [sA, sB, sC]
    refine tq 10 50 ?_ ?_ ?_; rotate_left; (focus intro w h; (try dsimp only at h); go_simp; try with_reducible rfl); try simp only [sA, sB, sC]
    refine tq 11 51 ?_ ?_ ?_; rotate_left; (focus intro w h; (try dsimp only at h); go_simp; try with_reducible rfl); try simp only [sA, sB, sC]
    refine tq 12 52 ?_ ?_ ?_; rotate_left; (focus intro w h; (try dsimp only at h); go_simp; try with_reducible rfl); try simp only [sA, sB, sC]
    refine tq 13 53 ?_ ?_ ?_; rotate_left; (focus intro w h; (try dsimp only at h); go_simp; try with_reducible rfl); try simp only [sA, sB, sC]
    refine rd1 14 (fun K hK => ?_)
    go_simp
    have FAR : ∀ {b2 o2 : Nat} {v2 : Option Value}, ¬ (b2 = b ∧ (o2 = 6)) → wd4.cell? ⟨b2, o2, none⟩ = v2 → (wd4.setCell ⟨b, 6, none⟩ (.int .i64 TL)).cell? ⟨b2, o2, none⟩ = v2 := fun h1 h2 => (so (by omega)).trans (h2)
    have FRZ : ∀ {b2 o2 : Nat} {v2 : Bool}, wd4.frozen? ⟨b2, o2, none⟩ = v2 → (wd4.setCell ⟨b, 6, none⟩ (.int .i64 TL)).frozen? ⟨b2, o2, none⟩ = v2 := fun h2 => by simp [go_sem, h2]
    have NSZ : ∀ {b2 : Nat}, b2 < wd4.heap.size → b2 < (wd4.setCell ⟨b, 6, none⟩ (.int .i64 TL)).heap.size := fun h2 => by simpa [World.setCell] using h2
    have HIT : ∀ W9, W9 = (wd4.setCell ⟨b, 6, none⟩ (.int .i64 TL)) → W9.cell? ⟨b, 6, none⟩ = some (.int .i64 TL) := by
     intro W9 h9
     subst h9
     simp [go_sem, p6]
    clear p6
    have p6 := HIT _ rfl
    replace p0 := FAR (by omega) p0
    replace fp0 := FRZ fp0
    replace p1 := FAR (by omega) p1
    replace fp1 := FRZ fp1
    replace p2 := FAR (by omega) p2
    replace fp2 := FRZ fp2
    replace p3 := FAR (by omega) p3
    replace fp3 := FRZ fp3
    replace p4 := FAR (by omega) p4
    replace fp4 := FRZ fp4
    replace p5 := FAR (by omega) p5
    replace fp5 := FRZ fp5
    replace fp6 := FRZ fp6
    replace p7 := FAR (by omega) p7
    replace fp7 := FRZ fp7
    replace p8 := FAR (by omega) p8
    replace fp8 := FRZ fp8
    replace p9 := FAR (by omega) p9
    replace fp9 := FRZ fp9
    replace p10 := FAR (by omega) p10
    replace fp10 := FRZ fp10
    replace p11 := FAR (by omega) p11
    replace fp11 := FRZ fp11
    replace p12 := FAR (by omega) p12
    replace fp12 := FRZ fp12
    replace p13 := FAR (by omega) p13
    replace fp13 := FRZ fp13
    replace p14 := FAR (by omega) p14
    replace fp14 := FRZ fp14
    replace t0 := FAR (by omega) t0
    replace t1 := FAR (by omega) t1
    replace t2 := FAR (by omega) t2
    replace t3 := FAR (by omega) t3
    replace np := NSZ np
    replace nt := NSZ nt
    clear FAR NSZ FRZ HIT
    replace hL := hL.setCell (p := ⟨b, 6, none⟩) (by show b ≤ b; omega) (.int .i64 TL)
    replace hQ := Lib.hid (hQ.out.trans (Kept.set (U := (fun i => i = b)) _ (p := ⟨b, 6, none⟩) (rfl) (.int .i64 TL)))
    refine hK.out _ _ ⟨t1, trivial⟩ (fun hHeld => ?_)
    clear hK K
    try simp only [Act.put, sA, sB, sC]
    refine wpAnyH_done (by kernel_rfl) ?_ _
    replace hG := grown_trans hG (grown_kept hL hQ.out)
    clear hHeld hL hBW hQ
    go_wp2_with fail
    have hBW : b ≤ (wd4.setCell ⟨b, 6, none⟩ (.int .i64 TL)).heap.size := Nat.le_of_lt np
    refine wp_region_held_drew (S := fun w' => w'.cell? ⟨w.heap.size, 2, none⟩ = some (.int .i64 hi) ∧ True) (by kernel_rfl) ?_ (fun hHeld => ?_)
    focus (exact ⟨t2, trivial⟩)
    have hL : Below b (wd4.setCell ⟨b, 6, none⟩ (.int .i64 TL)) (wd4.setCell ⟨b, 6, none⟩ (.int .i64 TL)).drew := Below.drew (Below.refl _ _)
    have hQ : Hid (Kept (fun i => i = b) (wd4.setCell ⟨b, 6, none⟩ (.int .i64 TL)) (wd4.setCell ⟨b, 6, none⟩ (.int .i64 TL)).drew) := Lib.hid (Kept.refl _ _)
    replace p0 : (wd4.setCell ⟨b, 6, none⟩ (.int .i64 TL)).drew.cell? ⟨b, 0, none⟩ = some (.int .i64 dl) := p0
    replace fp0 : (wd4.setCell ⟨b, 6, none⟩ (.int .i64 TL)).drew.frozen? ⟨b, 0, none⟩ = false := fp0
    replace p1 : (wd4.setCell ⟨b, 6, none⟩ (.int .i64 TL)).drew.cell? ⟨b, 1, none⟩ = some (.int .i64 dh) := p1
    replace fp1 : (wd4.setCell ⟨b, 6, none⟩ (.int .i64 TL)).drew.frozen? ⟨b, 1, none⟩ = false := fp1
    replace p2 : (wd4.setCell ⟨b, 6, none⟩ (.int .i64 TL)).drew.cell? ⟨b, 2, none⟩ = some (.int .i64 hl) := p2
    replace fp2 : (wd4.setCell ⟨b, 6, none⟩ (.int .i64 TL)).drew.frozen? ⟨b, 2, none⟩ = false := fp2
    replace p3 : (wd4.setCell ⟨b, 6, none⟩ (.int .i64 TL)).drew.cell? ⟨b, 3, none⟩ = some (.int .i64 hh) := p3
    replace fp3 : (wd4.setCell ⟨b, 6, none⟩ (.int .i64 TL)).drew.frozen? ⟨b, 3, none⟩ = false := fp3
    replace p4 : (wd4.setCell ⟨b, 6, none⟩ (.int .i64 TL)).drew.cell? ⟨b, 4, none⟩ = some (.int .i64 hl) := p4
    replace fp4 : (wd4.setCell ⟨b, 6, none⟩ (.int .i64 TL)).drew.frozen? ⟨b, 4, none⟩ = false := fp4
    replace p5 : (wd4.setCell ⟨b, 6, none⟩ (.int .i64 TL)).drew.cell? ⟨b, 5, none⟩ = some (.int .i64 hh) := p5
    replace fp5 : (wd4.setCell ⟨b, 6, none⟩ (.int .i64 TL)).drew.frozen? ⟨b, 5, none⟩ = false := fp5
    replace p6 : (wd4.setCell ⟨b, 6, none⟩ (.int .i64 TL)).drew.cell? ⟨b, 6, none⟩ = some (.int .i64 TL) := p6
    replace fp6 : (wd4.setCell ⟨b, 6, none⟩ (.int .i64 TL)).drew.frozen? ⟨b, 6, none⟩ = false := fp6
    replace p7 : (wd4.setCell ⟨b, 6, none⟩ (.int .i64 TL)).drew.cell? ⟨b, 7, none⟩ = some (.int .i64 th) := p7
    replace fp7 : (wd4.setCell ⟨b, 6, none⟩ (.int .i64 TL)).drew.frozen? ⟨b, 7, none⟩ = false := fp7
    replace p8 : (wd4.setCell ⟨b, 6, none⟩ (.int .i64 TL)).drew.cell? ⟨b, 8, none⟩ = some (.bool true) := p8
    replace fp8 : (wd4.setCell ⟨b, 6, none⟩ (.int .i64 TL)).drew.frozen? ⟨b, 8, none⟩ = false := fp8
    replace p9 : (wd4.setCell ⟨b, 6, none⟩ (.int .i64 TL)).drew.cell? ⟨b, 9, none⟩ = some (.int .i64 se) := p9
    replace fp9 : (wd4.setCell ⟨b, 6, none⟩ (.int .i64 TL)).drew.frozen? ⟨b, 9, none⟩ = false := fp9
    replace p10 : (wd4.setCell ⟨b, 6, none⟩ (.int .i64 TL)).drew.cell? ⟨b, 10, none⟩ = some (.slice A1 n1 c1) := p10
    replace fp10 : (wd4.setCell ⟨b, 6, none⟩ (.int .i64 TL)).drew.frozen? ⟨b, 10, none⟩ = false := fp10
    replace p11 : (wd4.setCell ⟨b, 6, none⟩ (.int .i64 TL)).drew.cell? ⟨b, 11, none⟩ = some (.slice A2 n2 c2) := p11
    replace fp11 : (wd4.setCell ⟨b, 6, none⟩ (.int .i64 TL)).drew.frozen? ⟨b, 11, none⟩ = false := fp11
    replace p12 : (wd4.setCell ⟨b, 6, none⟩ (.int .i64 TL)).drew.cell? ⟨b, 12, none⟩ = some (.int .i64 bl) := p12
    replace fp12 : (wd4.setCell ⟨b, 6, none⟩ (.int .i64 TL)).drew.frozen? ⟨b, 12, none⟩ = false := fp12
    replace p13 : (wd4.setCell ⟨b, 6, none⟩ (.int .i64 TL)).drew.cell? ⟨b, 13, none⟩ = some (.int .i64 bh) := p13
    replace fp13 : (wd4.setCell ⟨b, 6, none⟩ (.int .i64 TL)).drew.frozen? ⟨b, 13, none⟩ = false := fp13
    replace p14 : (wd4.setCell ⟨b, 6, none⟩ (.int .i64 TL)).drew.cell? ⟨b, 14, none⟩ = some (.slice A3 n3 c3) := p14
    replace fp14 : (wd4.setCell ⟨b, 6, none⟩ (.int .i64 TL)).drew.frozen? ⟨b, 14, none⟩ = false := fp14
    replace t0 : (wd4.setCell ⟨b, 6, none⟩ (.int .i64 TL)).drew.cell? ⟨w.heap.size, 0, none⟩ = some (.int .i64 k) := t0
    replace t1 : (wd4.setCell ⟨b, 6, none⟩ (.int .i64 TL)).drew.cell? ⟨w.heap.size, 1, none⟩ = some (.int .i64 lo) := t1
    replace t2 : (wd4.setCell ⟨b, 6, none⟩ (.int .i64 TL)).drew.cell? ⟨w.heap.size, 2, none⟩ = some (.int .i64 hi) := t2
    replace t3 : (wd4.setCell ⟨b, 6, none⟩ (.int .i64 TL)).drew.cell? ⟨w.heap.size, 3, none⟩ = some (.int .i64 m) := t3
    replace np : b < (wd4.setCell ⟨b, 6, none⟩ (.int .i64 TL)).drew.heap.size := np
    replace nt : w.heap.size < (wd4.setCell ⟨b, 6, none⟩ (.int .i64 TL)).drew.heap.size := nt
    generalize hWd : (wd4.setCell ⟨b, 6, none⟩ (.int .i64 TL)).drew = wd5 at hHeld hL hQ p0 fp0 p1 fp1 p2 fp2 p3 fp3 p4 fp4 p5 fp5 p6 fp6 p7 fp7 p8 fp8 p9 fp9 p10 fp10 p11 fp11 p12 fp12 p13 fp13 p14 fp14 t0 t1 t2 t3 np nt  ⊢
    clear hWd
    refine tq 0 54 ?_ ?_ ?_; rotate_left; (focus intro w h; (try dsimp only at h); go_simp; try with_reducible rfl); try simp only [sA, sB, sC]
    refine tq 1 55 ?_ ?_ ?_; rotate_left; (focus intro w h; (try dsimp only at h); go_simp; try with_reducible rfl); try simp only [sA, sB, sC]
    refine tq 2 56 ?_ ?_ ?_; rotate_left; (focus intro w h; (try dsimp only at h); go_simp; try with_reducible rfl); try simp only [sA, sB, sC]
    refine tq 3 57 ?_ ?_ ?_; rotate_left; (focus intro w h; (try dsimp only at h); go_simp; try with_reducible rfl); try simp only [sA, sB, sC]
    refine tq 4 58 ?_ ?_ ?_; rotate_left; (focus intro w h; (try dsimp only at h); go_simp; try with_reducible rfl); try simp only [sA, sB, sC]
    refine tq 6 60 ?_ ?_ ?_; rotate_left; (focus intro w h; (try dsimp only at h); go_simp; try with_reducible rfl); try simp only [sA, sB, sC]
    refine tq 7 61 ?_ ?_ ?_; rotate_left; (focus intro w h; (try dsimp only at h); go_simp; try with_reducible rfl); try simp only [sA, sB, sC]
    refine tq 8 62 ?_ ?_ ?_; rotate_left; (focus intro w h; (try dsimp only at h); go_simp; try with_reducible rfl); try simp only [sA, sB, sC]
    refine rd1 5 (fun K hK => ?_)
    go_simp
    refine hK.out _ _ ⟨t2, trivial⟩ (fun hHeld => ?_)
    clear hK K
    try simp only [Act.put, sA, sB, sC]
    refine tq 9 63 ?_ ?_ ?_; rotate_left; (focus intro w h; (try dsimp only at h); go_simp; try with_reducible rfl); try simp only [sA, sB, sC]
    refine tq 10 64 ?_ ?_ ?_; rotate_left; (focus intro w h; (try dsimp only at h); go_simp; try with_reducible rfl); try simp only [sA, sB, sC]
    refine tq 11 65 ?_ ?_ ?_; rotate_left; (focus intro w h; (try dsimp only at h); go_simp; try with_reducible rfl); try simp only [sA, sB, sC]
    refine tq 12 66 ?_ ?_ ?_; rotate_left; (focus intro w h; (try dsimp only at h); go_simp; try with_reducible rfl); try simp only [sA, sB, sC]
    refine tq 13 67 ?_ ?_ ?_; rotate_left; (focus intro w h; (try dsimp only at h); go_simp; try with_reducible rfl); try simp only [sA, sB, sC]
    refine rd1 14 (fun K hK => ?_)
    go_simp
    have FAR : ∀ {b2 o2 : Nat} {v2 : Option Value}, ¬ (b2 = b ∧ (o2 = 7)) → wd5.cell? ⟨b2, o2, none⟩ = v2 → (wd5.setCell ⟨b, 7, none⟩ (.int .i64 TH)).cell? ⟨b2, o2, none⟩ = v2 := fun h1 h2 => (so (by omega)).trans (h2)
    have FRZ : ∀ {b2 o2 : Nat} {v2 : Bool}, wd5.frozen? ⟨b2, o2, none⟩ = v2 → (wd5.setCell ⟨b, 7, none⟩ (.int .i64 TH)).frozen? ⟨b2, o2, none⟩ = v2 := fun h2 => by simp [go_sem, h2]
    have NSZ : ∀ {b2 : Nat}, b2 < wd5.heap.size → b2 < (wd5.setCell ⟨b, 7, none⟩ (.int .i64 TH)).heap.size := fun h2 => by simpa [World.setCell] using h2
    have HIT : ∀ W9, W9 = (wd5.setCell ⟨b, 7, none⟩ (.int .i64 TH)) → W9.cell? ⟨b, 7, none⟩ = some (.int .i64 TH) := by
     intro W9 h9
     subst h9
     simp [go_sem, p7]
    clear p7
    have p7 := HIT _ rfl
    replace p0 := FAR (by omega) p0
    replace fp0 := FRZ fp0
    replace p1 := FAR (by omega) p1
    replace fp1 := FRZ fp1
    replace p2 := FAR (by omega) p2
    replace fp2 := FRZ fp2
    replace p3 := FAR (by omega) p3
    replace fp3 := FRZ fp3
    replace p4 := FAR (by omega) p4
    replace fp4 := FRZ fp4
    replace p5 := FAR (by omega) p5
    replace fp5 := FRZ fp5
    replace p6 := FAR (by omega) p6
    replace fp6 := FRZ fp6
    replace fp7 := FRZ fp7
    replace p8 := FAR (by omega) p8
    replace fp8 := FRZ fp8
    replace p9 := FAR (by omega) p9
    replace fp9 := FRZ fp9
    replace p10 := FAR (by omega) p10
    replace fp10 := FRZ fp10
    replace p11 := FAR (by omega) p11
    replace fp11 := FRZ fp11
    replace p12 := FAR (by omega) p12
    replace fp12 := FRZ fp12
    replace p13 := FAR (by omega) p13
    replace fp13 := FRZ fp13
    replace p14 := FAR (by omega) p14
    replace fp14 := FRZ fp14
    replace t0 := FAR (by omega) t0
    replace t1 := FAR (by omega) t1
    replace t2 := FAR (by omega) t2
    replace t3 := FAR (by omega) t3
    replace np := NSZ np
    replace nt := NSZ nt
    clear FAR NSZ FRZ HIT
    replace hL := hL.setCell (p := ⟨b, 7, none⟩) (by show b ≤ b; omega) (.int .i64 TH)
    replace hQ := Lib.hid (hQ.out.trans (Kept.set (U := (fun i => i = b)) _ (p := ⟨b, 7, none⟩) (rfl) (.int .i64 TH)))
    refine hK.out _ _ ⟨t2, trivial⟩ (fun hHeld => ?_)
    clear hK K
    try simp only [Act.put, sA, sB, sC]
    refine wpAnyH_done (by kernel_rfl) ?_ _
    replace hG := grown_trans hG (grown_kept hL hQ.out)
    clear hHeld hL hBW hQ
    go_wp2_with fail
    go_ret
    exact ⟨rfl, ⟨np, bt_cells p0 p1 p2 p3 p4 p5 p6 p7 p8 p9 p10 p11 p12 p13 p14, bt_froz fp0 fp1 fp2 fp3 fp4 fp5 fp6 fp7 fp8 fp9 fp10 fp11 fp12 fp13 fp14⟩, hG⟩
   ·obtain rfl : S = ⟨dl, dh, hl, hh, sl, sh, TL, TH, true, se⟩ := HS.out.trans (by simp)
    clear HS
    go_wp2_with fail
    have hBW : b ≤ wd2.heap.size := Nat.le_of_lt np
    refine wp_region_held_drew (S := fun w' => w'.cell? ⟨w.heap.size, 1, none⟩ = some (.int .i64 lo) ∧ True) (by kernel_rfl) ?_ (fun hHeld => ?_)
    focus (exact ⟨t1, trivial⟩)
    have hL : Below b wd2 wd2.drew := Below.drew (Below.refl _ _)
    have hQ : Hid (Kept (fun i => i = b) wd2 wd2.drew) := Lib.hid (Kept.refl _ _)
    replace p0 : wd2.drew.cell? ⟨b, 0, none⟩ = some (.int .i64 dl) := p0
    replace fp0 : wd2.drew.frozen? ⟨b, 0, none⟩ = false := fp0
    replace p1 : wd2.drew.cell? ⟨b, 1, none⟩ = some (.int .i64 dh) := p1
    replace fp1 : wd2.drew.frozen? ⟨b, 1, none⟩ = false := fp1
    replace p2 : wd2.drew.cell? ⟨b, 2, none⟩ = some (.int .i64 hl) := p2
    replace fp2 : wd2.drew.frozen? ⟨b, 2, none⟩ = false := fp2
    replace p3 : wd2.drew.cell? ⟨b, 3, none⟩ = some (.int .i64 hh) := p3
    replace fp3 : wd2.drew.frozen? ⟨b, 3, none⟩ = false := fp3
    replace p4 : wd2.drew.cell? ⟨b, 4, none⟩ = some (.int .i64 sl) := p4
    replace fp4 : wd2.drew.frozen? ⟨b, 4, none⟩ = false := fp4
    replace p5 : wd2.drew.cell? ⟨b, 5, none⟩ = some (.int .i64 sh) := p5
    replace fp5 : wd2.drew.frozen? ⟨b, 5, none⟩ = false := fp5
    replace p6 : wd2.drew.cell? ⟨b, 6, none⟩ = some (.int .i64 tl) := p6
    replace fp6 : wd2.drew.frozen? ⟨b, 6, none⟩ = false := fp6
    replace p7 : wd2.drew.cell? ⟨b, 7, none⟩ = some (.int .i64 th) := p7
    replace fp7 : wd2.drew.frozen? ⟨b, 7, none⟩ = false := fp7
    replace p8 : wd2.drew.cell? ⟨b, 8, none⟩ = some (.bool true) := p8
    replace fp8 : wd2.drew.frozen? ⟨b, 8, none⟩ = false := fp8
    replace p9 : wd2.drew.cell? ⟨b, 9, none⟩ = some (.int .i64 se) := p9
    replace fp9 : wd2.drew.frozen? ⟨b, 9, none⟩ = false := fp9
    replace p10 : wd2.drew.cell? ⟨b, 10, none⟩ = some (.slice A1 n1 c1) := p10
    replace fp10 : wd2.drew.frozen? ⟨b, 10, none⟩ = false := fp10
    replace p11 : wd2.drew.cell? ⟨b, 11, none⟩ = some (.slice A2 n2 c2) := p11
    replace fp11 : wd2.drew.frozen? ⟨b, 11, none⟩ = false := fp11
    replace p12 : wd2.drew.cell? ⟨b, 12, none⟩ = some (.int .i64 bl) := p12
    replace fp12 : wd2.drew.frozen? ⟨b, 12, none⟩ = false := fp12
    replace p13 : wd2.drew.cell? ⟨b, 13, none⟩ = some (.int .i64 bh) := p13
    replace fp13 : wd2.drew.frozen? ⟨b, 13, none⟩ = false := fp13
    replace p14 : wd2.drew.cell? ⟨b, 14, none⟩ = some (.slice A3 n3 c3) := p14
    replace fp14 : wd2.drew.frozen? ⟨b, 14, none⟩ = false := fp14
    replace t0 : wd2.drew.cell? ⟨w.heap.size, 0, none⟩ = some (.int .i64 k) := t0
    replace t1 : wd2.drew.cell? ⟨w.heap.size, 1, none⟩ = some (.int .i64 lo) := t1
    replace t2 : wd2.drew.cell? ⟨w.heap.size, 2, none⟩ = some (.int .i64 hi) := t2
    replace t3 : wd2.drew.cell? ⟨w.heap.size, 3, none⟩ = some (.int .i64 m) := t3
    replace np : b < wd2.drew.heap.size := np
    replace nt : w.heap.size < wd2.drew.heap.size := nt
    generalize hWd : wd2.drew = wd3 at hHeld hL hQ p0 fp0 p1 fp1 p2 fp2 p3 fp3 p4 fp4 p5 fp5 p6 fp6 p7 fp7 p8 fp8 p9 fp9 p10 fp10 p11 fp11 p12 fp12 p13 fp13 p14 fp14 t0 t1 t2 t3 np nt  ⊢
    clear hWd
    refine tq 0 40 ?_ ?_ ?_; rotate_left; (focus intro w h; (try dsimp only at h); go_simp; try with_reducible rfl); try simp only [sA, sB, sC]
    refine tq 1 41 ?_ ?_ ?_; rotate_left; (focus intro w h; (try dsimp only at h); go_simp; try with_reducible rfl); try simp only [sA, sB, sC]
    refine tq 2 42 ?_ ?_ ?_; rotate_left; (focus intro w h; (try dsimp only at h); go_simp; try with_reducible rfl); try simp only [sA, sB, sC]
    refine tq 3 43 ?_ ?_ ?_; rotate_left; (focus intro w h; (try dsimp only at h); go_simp; try with_reducible rfl); try simp only [sA, sB, sC]
    refine tq 4 44 ?_ ?_ ?_; rotate_left; (focus intro w h; (try dsimp only at h); go_simp; try with_reducible rfl); try simp only [sA, sB, sC]
    refine tq 6 46 ?_ ?_ ?_; rotate_left; (focus intro w h; (try dsimp only at h); go_simp; try with_reducible rfl); try simp only [sA, sB, sC]
    refine tq 7 47 ?_ ?_ ?_; rotate_left; (focus intro w h; (try dsimp only at h); go_simp; try with_reducible rfl); try simp only [sA, sB, sC]
    refine tq 8 48 ?_ ?_ ?_; rotate_left; (focus intro w h; (try dsimp only at h); go_simp; try with_reducible rfl); try simp only [sA, sB, sC]
    refine rd1 5 (fun K hK => ?_)
    go_simp
    refine hK.out _ _ ⟨t1, trivial⟩ (fun hHeld => ?_)
    clear hK K
    try simp only [Act.put, sA, sB, sC]
    refine tq 9 49 ?_ ?_ ?_; rotate_left; (focus intro w h; (try dsimp only at h); go_simp; try with_reducible rfl); try simp only [sA, sB, sC]
    refine tq 10 50 ?_ ?_ ?_; rotate_left; (focus intro w h; (try dsimp only at h); go_simp; try with_reducible rfl); try simp only [sA, sB, sC]
    refine tq 11 51 ?_ ?_ ?_; rotate_left; (focus intro w h; (try dsimp only at h); go_simp; try with_reducible rfl); try simp only [sA, sB, sC]
    refine tq 12 52 ?_ ?_ ?_; rotate_left; (focus intro w h; (try dsimp only at h); go_simp; try with_reducible rfl); try simp only [sA, sB, sC]
    refine tq 13 53 ?_ ?_ ?_; rotate_left; (focus intro w h; (try dsimp only at h); go_simp; try with_reducible rfl); try simp only [sA, sB, sC]
    refine rd1 14 (fun K hK => ?_)
    go_simp
    have FAR : ∀ {b2 o2 : Nat} {v2 : Option Value}, ¬ (b2 = b ∧ (o2 = 6)) → wd3.cell? ⟨b2, o2, none⟩ = v2 → (wd3.setCell ⟨b, 6, none⟩ (.int .i64 TL)).cell? ⟨b2, o2, none⟩ = v2 := fun h1 h2 => (so (by omega)).trans (h2)
    have FRZ : ∀ {b2 o2 : Nat} {v2 : Bool}, wd3.frozen? ⟨b2, o2, none⟩ = v2 → (wd3.setCell ⟨b, 6, none⟩ (.int .i64 TL)).frozen? ⟨b2, o2, none⟩ = v2 := fun h2 => by simp [go_sem, h2]
    have NSZ : ∀ {b2 : Nat}, b2 < wd3.heap.size → b2 < (wd3.setCell ⟨b, 6, none⟩ (.int .i64 TL)).heap.size := fun h2 => by simpa [World.setCell] using h2
    have HIT : ∀ W9, W9 = (wd3.setCell ⟨b, 6, none⟩ (.int .i64 TL)) → W9.cell? ⟨b, 6, none⟩ = some (.int .i64 TL) := by
     intro W9 h9
     subst h9
     simp [go_sem, p6]
    clear p6
    have p6 := HIT _ rfl
    replace p0 := FAR (by omega) p0
    replace fp0 := FRZ fp0
    replace p1 := FAR (by omega) p1
    replace fp1 := FRZ fp1
    replace p2 := FAR (by omega) p2
    replace fp2 := FRZ fp2
    replace p3 := FAR (by omega) p3
    replace fp3 := FRZ fp3
    replace p4 := FAR (by omega) p4
    replace fp4 := FRZ fp4
    replace p5 := FAR (by omega) p5
    replace fp5 := FRZ fp5
    replace fp6 := FRZ fp6
    replace p7 := FAR (by omega) p7
    replace fp7 := FRZ fp7
    replace p8 := FAR (by omega) p8
    replace fp8 := FRZ fp8
    replace p9 := FAR (by omega) p9
    replace fp9 := FRZ fp9
    replace p10 := FAR (by omega) p10
    replace fp10 := FRZ fp10
    replace p11 := FAR (by omega) p11
    replace fp11 := FRZ fp11
    replace p12 := FAR (by omega) p12
    replace fp12 := FRZ fp12
    replace p13 := FAR (by omega) p13
    replace fp13 := FRZ fp13
    replace p14 := FAR (by omega) p14
    replace fp14 := FRZ fp14
    replace t0 := FAR (by omega) t0
    replace t1 := FAR (by omega) t1
    replace t2 := FAR (by omega) t2
    replace t3 := FAR (by omega) t3
    replace np := NSZ np
    replace nt := NSZ nt
    clear FAR NSZ FRZ HIT
    replace hL := hL.setCell (p := ⟨b, 6, none⟩) (by show b ≤ b; omega) (.int .i64 TL)
    replace hQ := Lib.hid (hQ.out.trans (Kept.set (U := (fun i => i = b)) _ (p := ⟨b, 6, none⟩) (rfl) (.int .i64 TL)))
    refine hK.out _ _ ⟨t1, trivial⟩ (fun hHeld => ?_)
    clear hK K
    try simp only [Act.put, sA, sB, sC]
    refine wpAnyH_done (by kernel_rfl) ?_ _
    replace hG := grown_trans hG (grown_kept hL hQ.out)
    clear hHeld hL hBW hQ
    go_wp2_with fail
    have hBW : b ≤ (wd3.setCell ⟨b, 6, none⟩ (.int .i64 TL)).heap.size := Nat.le_of_lt np
    refine wp_region_held_drew (S := fun w' => w'.cell? ⟨w.heap.size, 2, none⟩ = some (.int .i64 hi) ∧ True) (by kernel_rfl) ?_ (fun hHeld => ?_)
    focus (exact ⟨t2, trivial⟩)
    have hL : Below b (wd3.setCell ⟨b, 6, none⟩ (.int .i64 TL)) (wd3.setCell ⟨b, 6, none⟩ (.int .i64 TL)).drew := Below.drew (Below.refl _ _)
    have hQ : Hid (Kept (fun i => i = b) (wd3.setCell ⟨b, 6, none⟩ (.int .i64 TL)) (wd3.setCell ⟨b, 6, none⟩ (.int .i64 TL)).drew) := Lib.hid (Kept.refl _ _)
    replace p0 : (wd3.setCell ⟨b, 6, none⟩ (.int .i64 TL)).drew.cell? ⟨b, 0, none⟩ = some (.int .i64 dl) := p0
    replace fp0 : (wd3.setCell ⟨b, 6, none⟩ (.int .i64 TL)).drew.frozen? ⟨b, 0, none⟩ = false := fp0
    replace p1 : (wd3.setCell ⟨b, 6, none⟩ (.int .i64 TL)).drew.cell? ⟨b, 1, none⟩ = some (.int .i64 dh) := p1
    replace fp1 : (wd3.setCell ⟨b, 6, none⟩ (.int .i64 TL)).drew.frozen? ⟨b, 1, none⟩ = false := fp1
    replace p2 : (wd3.setCell ⟨b, 6, none⟩ (.int .i64 TL)).drew.cell? ⟨b, 2, none⟩ = some (.int .i64 hl) := p2
    replace fp2 : (wd3.setCell ⟨b, 6, none⟩ (.int .i64 TL)).drew.frozen? ⟨b, 2, none⟩ = false := fp2
    replace p3 : (wd3.setCell ⟨b, 6, none⟩ (.int .i64 TL)).drew.cell? ⟨b, 3, none⟩ = some (.int .i64 hh) := p3
    replace fp3 : (wd3.setCell ⟨b, 6, none⟩ (.int .i64 TL)).drew.frozen? ⟨b, 3, none⟩ = false := fp3
    replace p4 : (wd3.setCell ⟨b, 6, none⟩ (.int .i64 TL)).drew.cell? ⟨b, 4, none⟩ = some (.int .i64 sl) := p4
    replace fp4 : (wd3.setCell ⟨b, 6, none⟩ (.int .i64 TL)).drew.frozen? ⟨b, 4, none⟩ = false := fp4
    replace p5 : (wd3.setCell ⟨b, 6, none⟩ (.int .i64 TL)).drew.cell? ⟨b, 5, none⟩ = some (.int .i64 sh) := p5
    replace fp5 : (wd3.setCell ⟨b, 6, none⟩ (.int .i64 TL)).drew.frozen? ⟨b, 5, none⟩ = false := fp5
    replace p6 : (wd3.setCell ⟨b, 6, none⟩ (.int .i64 TL)).drew.cell? ⟨b, 6, none⟩ = some (.int .i64 TL) := p6
    replace fp6 : (wd3.setCell ⟨b, 6, none⟩ (.int .i64 TL)).drew.frozen? ⟨b, 6, none⟩ = false := fp6
    replace p7 : (wd3.setCell ⟨b, 6, none⟩ (.int .i64 TL)).drew.cell? ⟨b, 7, none⟩ = some (.int .i64 th) := p7
    replace fp7 : (wd3.setCell ⟨b, 6, none⟩ (.int .i64 TL)).drew.frozen? ⟨b, 7, none⟩ = false := fp7
    replace p8 : (wd3.setCell ⟨b, 6, none⟩ (.int .i64 TL)).drew.cell? ⟨b, 8, none⟩ = some (.bool true) := p8
    replace fp8 : (wd3.setCell ⟨b, 6, none⟩ (.int .i64 TL)).drew.frozen? ⟨b, 8, none⟩ = false := fp8
    replace p9 : (wd3.setCell ⟨b, 6, none⟩ (.int .i64 TL)).drew.cell? ⟨b, 9, none⟩ = some (.int .i64 se) := p9
    replace fp9 : (wd3.setCell ⟨b, 6, none⟩ (.int .i64 TL)).drew.frozen? ⟨b, 9, none⟩ = false := fp9
    replace p10 : (wd3.setCell ⟨b, 6, none⟩ (.int .i64 TL)).drew.cell? ⟨b, 10, none⟩ = some (.slice A1 n1 c1) := p10
    replace fp10 : (wd3.setCell ⟨b, 6, none⟩ (.int .i64 TL)).drew.frozen? ⟨b, 10, none⟩ = false := fp10
    replace p11 : (wd3.setCell ⟨b, 6, none⟩ (.int .i64 TL)).drew.cell? ⟨b, 11, none⟩ = some (.slice A2 n2 c2) := p11
    replace fp11 : (wd3.setCell ⟨b, 6, none⟩ (.int .i64 TL)).drew.frozen? ⟨b, 11, none⟩ = false := fp11
    replace p12 : (wd3.setCell ⟨b, 6, none⟩ (.int .i64 TL)).drew.cell? ⟨b, 12, none⟩ = some (.int .i64 bl) := p12
    replace fp12 : (wd3.setCell ⟨b, 6, none⟩ (.int .i64 TL)).drew.frozen? ⟨b, 12, none⟩ = false := fp12
    replace p13 : (wd3.setCell ⟨b, 6, none⟩ (.int .i64 TL)).drew.cell? ⟨b, 13, none⟩ = some (.int .i64 bh) := p13
    replace fp13 : (wd3.setCell ⟨b, 6, none⟩ (.int .i64 TL)).drew.frozen? ⟨b, 13, none⟩ = false := fp13
    replace p14 : (wd3.setCell ⟨b, 6, none⟩ (.int .i64 TL)).drew.cell? ⟨b, 14, none⟩ = some (.slice A3 n3 c3) := p14
    replace fp14 : (wd3.setCell ⟨b, 6, none⟩ (.int .i64 TL)).drew.frozen? ⟨b, 14, none⟩ = false := fp14
    replace t0 : (wd3.setCell ⟨b, 6, none⟩ (.int .i64 TL)).drew.cell? ⟨w.heap.size, 0, none⟩ = some (.int .i64 k) := t0
    replace t1 : (wd3.setCell ⟨b, 6, none⟩ (.int .i64 TL)).drew.cell? ⟨w.heap.size, 1, none⟩ = some (.int .i64 lo) := t1
    replace t2 : (wd3.setCell ⟨b, 6, none⟩ (.int .i64 TL)).drew.cell? ⟨w.heap.size, 2, none⟩ = some (.int .i64 hi) := t2
    replace t3 : (wd3.setCell ⟨b, 6, none⟩ (.int .i64 TL)).drew.cell? ⟨w.heap.size, 3, none⟩ = some (.int .i64 m) := t3
    replace np : b < (wd3.setCell ⟨b, 6, none⟩ (.int .i64 TL)).drew.heap.size := np
    replace nt : w.heap.size < (wd3.setCell ⟨b, 6, none⟩ (.int .i64 TL)).drew.heap.size := nt
    generalize hWd : (wd3.setCell ⟨b, 6, none⟩ (.int .i64 TL)).drew = wd4 at hHeld hL hQ p0 fp0 p1 fp1 p2 fp2 p3 fp3 p4 fp4 p5 fp5 p6 fp6 p7 fp7 p8 fp8 p9 fp9 p10 fp10 p11 fp11 p12 fp12 p13 fp13 p14 fp14 t0 t1 t2 t3 np nt  ⊢
    clear hWd
    refine tq 0 54 ?_ ?_ ?_; rotate_left; (focus intro w h; (try dsimp only at h); go_simp; try with_reducible rfl); try simp only [sA, sB, sC]
    refine tq 1 55 ?_ ?_ ?_; rotate_left; (focus intro w h; (try dsimp only at h); go_simp; try with_reducible rfl); try simp only [sA, sB, sC]
    refine tq 2 56 ?_ ?_ ?_; rotate_left; (focus intro w h; (try dsimp only at h); go_simp; try with_reducible rfl); try simp only [sA, sB, sC]
    refine tq 3 57 ?_ ?_ ?_; rotate_left; (focus intro w h; (try dsimp only at h); go_simp; try with_reducible rfl); try simp only [sA, sB, sC]
    refine tq 4 58 ?_ ?_ ?_; rotate_left; (focus intro w h; (try dsimp only at h); go_simp; try with_reducible rfl); try simp only [sA, sB, sC]
    refine tq 6 60 ?_ ?_ ?_; rotate_left; (focus intro w h; (try dsimp only at h); go_simp; try with_reducible rfl); try simp only [sA, sB, sC]
    refine tq 7 61 ?_ ?_ ?_; rotate_left; (focus intro w h; (try dsimp only at h); go_simp; try with_reducible rfl); try simp only [sA, sB, sC]
    refine tq 8 62 ?_ ?_ ?_; rotate_left; (focus intro w h; (try dsimp only at h); go_simp; try with_reducible rfl); try simp only [sA, sB, sC]
    refine rd1 5 (fun K hK => ?_)
    go_simp
    refine hK.out _ _ ⟨t2, trivial⟩ (fun hHeld => ?_)
    clear hK K
    try simp only [Act.put, sA, sB, sC]
    refine tq 9 63 ?_ ?_ ?_; rotate_left; (focus intro w h; (try dsimp only at h); go_simp; try with_reducible rfl); try simp only [sA, sB, sC]
    refine tq 10 64 ?_ ?_ ?_; rotate_left; (focus intro w h; (try dsimp only at h); go_simp; try with_reducible rfl); try simp only [sA, sB, sC]
    refine tq 11 65 ?_ ?_ ?_; rotate_left; (focus intro w h; (try dsimp only at h); go_simp; try with_reducible rfl); try simp only [sA, sB, sC]
    refine tq 12 66 ?_ ?_ ?_; rotate_left; (focus intro w h; (try dsimp only at h); go_simp; try with_reducible rfl); try simp only [sA, sB, sC]
    refine tq 13 67 ?_ ?_ ?_; rotate_left; (focus intro w h; (try dsimp only at h); go_simp; try with_reducible rfl); try simp only [sA, sB, sC]
    refine rd1 14 (fun K hK => ?_)
    go_simp
    have FAR : ∀ {b2 o2 : Nat} {v2 : Option Value}, ¬ (b2 = b ∧ (o2 = 7)) → wd4.cell? ⟨b2, o2, none⟩ = v2 → (wd4.setCell ⟨b, 7, none⟩ (.int .i64 TH)).cell? ⟨b2, o2, none⟩ = v2 := fun h1 h2 => (so (by omega)).trans (h2)
    have FRZ : ∀ {b2 o2 : Nat} {v2 : Bool}, wd4.frozen? ⟨b2, o2, none⟩ = v2 → (wd4.setCell ⟨b, 7, none⟩ (.int .i64 TH)).frozen? ⟨b2, o2, none⟩ = v2 := fun h2 => by simp [go_sem, h2]
    have NSZ : ∀ {b2 : Nat}, b2 < wd4.heap.size → b2 < (wd4.setCell ⟨b, 7, none⟩ (.int .i64 TH)).heap.size := fun h2 => by simpa [World.setCell] using h2
    have HIT : ∀ W9, W9 = (wd4.setCell ⟨b, 7, none⟩ (.int .i64 TH)) → W9.cell? ⟨b, 7, none⟩ = some (.int .i64 TH) := by
     intro W9 h9
     subst h9
     simp [go_sem, p7]
    clear p7
    have p7 := HIT _ rfl
    replace p0 := FAR (by omega) p0
    replace fp0 := FRZ fp0
    replace p1 := FAR (by omega) p1
    replace fp1 := FRZ fp1
    replace p2 := FAR (by omega) p2
    replace fp2 := FRZ fp2
    replace p3 := FAR (by omega) p3
    replace fp3 := FRZ fp3
    replace p4 := FAR (by omega) p4
    replace fp4 := FRZ fp4
    replace p5 := FAR (by omega) p5
    replace fp5 := FRZ fp5
    replace p6 := FAR (by omega) p6
    replace fp6 := FRZ fp6
    replace fp7 := FRZ fp7
    replace p8 := FAR (by omega) p8
    replace fp8 := FRZ fp8
    replace p9 := FAR (by omega) p9
    replace fp9 := FRZ fp9
    replace p10 := FAR (by omega) p10
    replace fp10 := FRZ fp10
    replace p11 := FAR (by omega) p11
    replace fp11 := FRZ fp11
    replace p12 := FAR (by omega) p12
    replace fp12 := FRZ fp12
    replace p13 := FAR (by omega) p13
    replace fp13 := FRZ fp13
    replace p14 := FAR (by omega) p14
    replace fp14 := FRZ fp14
    replace t0 := FAR (by omega) t0
    replace t1 := FAR (by omega) t1
    replace t2 := FAR (by omega) t2
    replace t3 := FAR (by omega) t3
    replace np := NSZ np
    replace nt := NSZ nt
    clear FAR NSZ FRZ HIT
    replace hL := hL.setCell (p := ⟨b, 7, none⟩) (by show b ≤ b; omega) (.int .i64 TH)
    replace hQ := Lib.hid (hQ.out.trans (Kept.set (U := (fun i => i = b)) _ (p := ⟨b, 7, none⟩) (rfl) (.int .i64 TH)))
    refine hK.out _ _ ⟨t2, trivial⟩ (fun hHeld => ?_)
    clear hK K
    try simp only [Act.put, sA, sB, sC]
    refine wpAnyH_done (by kernel_rfl) ?_ _
    replace hG := grown_trans hG (grown_kept hL hQ.out)
    clear hHeld hL hBW hQ
    go_wp2_with fail
    go_ret
    exact ⟨rfl, ⟨np, bt_cells p0 p1 p2 p3 p4 p5 p6 p7 p8 p9 p10 p11 p12 p13 p14, bt_froz fp0 fp1 fp2 fp3 fp4 fp5 fp6 fp7 fp8 fp9 fp10 fp11 fp12 fp13 fp14⟩, hG⟩

set_option maxRecDepth 20000 in
set_option maxHeartbeats 1000000 in
theorem greatest_any (a1 a2 x y : Int) (g c : Nat) (w : World) (hg : g < w.heap.size) (h0 : w.cell? ⟨g, 0, none⟩ = some (.int .i64 x)) (h1 : w.cell? ⟨g, 1, none⟩ = some (.int .i64 y)) :
  Calls Tryz.prog 137 #[.agg #[.int .i64 a1, .int .i64 a2], .slice (some ⟨g, 0, none⟩) 1 c] w fun e w' => e = .returned (.agg #[.int .i64 (max a1 x), .int .i64 (max a2 y)]) ∧ Below w.heap.size w w' := by
 have m1 := fun tys ty w => jmax2 (P := Tryz.prog) tys ty .i64 a1 x w
 have m2 := fun tys ty w => jmax2 (P := Tryz.prog) tys ty .i64 a2 y w
 obtain ⟨M1, hM1⟩ : ∃ M, max a1 x = M := ⟨_, rfl⟩
 obtain ⟨M2, hM2⟩ : ∃ M, max a2 y = M := ⟨_, rfl⟩
 rw [hM1] at m1 ⊢
 rw [hM2] at m2 ⊢
 clear hM1 hM2
 go_enter Tryz.func137, Tryz.ntmps137
 go_wp2_with fail
 go_loopw [9] (fun i wr => ∃ k : Nat, k ≤ 1 ∧ i = .int .i64 k ∧ Below w.heap.size w wr ∧ w.heap.size + 1 < wr.heap.size ∧ wr.frozen? ⟨w.heap.size, 0, none⟩ = false ∧ wr.frozen? ⟨w.heap.size, 1, none⟩ = false ∧ wr.frozen? ⟨w.heap.size + 1, 0, none⟩ = false ∧ wr.frozen? ⟨w.heap.size + 1, 1, none⟩ = false ∧ wr.cell? ⟨w.heap.size + 1, 0, none⟩ = some (.int .i64 0) ∧ wr.cell? ⟨w.heap.size + 1, 1, none⟩ = some (.int .i64 0) ∧
  (k = 0 → wr.cell? ⟨w.heap.size, 0, none⟩ = some (.int .i64 a1) ∧ wr.cell? ⟨w.heap.size, 1, none⟩ = some (.int .i64 a2)) ∧ (k = 1 → wr.cell? ⟨w.heap.size, 0, none⟩ = some (.int .i64 M1) ∧ wr.cell? ⟨w.heap.size, 1, none⟩ = some (.int .i64 M2))) (fun i _ => 1 - (RowKit.intOf i).toNat)
 case atStart =>
  refine ⟨0, Nat.zero_le _, rfl, ((Below.refl _ _).alloc (Nat.le_refl _) _).alloc (by simp) _, by simp, ?_, ?_, ?_, ?_, ?_, ?_, fun _ => ⟨?_, ?_⟩, fun h => absurd h (by omega)⟩ <;> simp [go_sem]
 case round =>
  obtain ⟨k, hk, rfl, hbr, hn, f0, f1, r0, r1, s0, s1, hz, ho⟩ := hrel
  obtain rfl | rfl : k = 0 ∨ k = 1 := by omega
  ·obtain ⟨q0, q1⟩ := hz rfl
   have g0 := cell_next hbr hg h0
   have g1 := cell_next hbr hg h1
   have hal := fun o => (Below.refl wr.heap.size wr).alloc (Nat.le_refl _) o
   have q0' := fun o => cell_next (hal o) (show w.heap.size < wr.heap.size by omega) q0
   have q1' := fun o => cell_next (hal o) (show w.heap.size < wr.heap.size by omega) q1
   have f0' := fun o => frozen_next (hal o) (show w.heap.size < wr.heap.size by omega) f0
   have f1' := fun o => frozen_next (hal o) (show w.heap.size < wr.heap.size by omega) f1
   have r0' := fun o => frozen_next (hal o) hn r0
   have r1' := fun o => frozen_next (hal o) hn r1
   have s0' := fun o => cell_next (hal o) hn s0
   have s1' := fun o => cell_next (hal o) hn s1
   clear ho hz
   go_wp2_with fail
   go_roundw
   case rel =>
    have hB := ((hbr.alloc hbr.size (Obj.cells #[.int .i64 x, .int .i64 y] 24)).setCell (p := ⟨w.heap.size, 0, none⟩) (by simp) (.int .i64 M1)).setCell (p := ⟨w.heap.size, 1, none⟩) (by simp) (.int .i64 M2)
    have ne0 : w.heap.size ≠ wr.heap.size := by omega
    have ne1 : w.heap.size + 1 ≠ wr.heap.size := by omega
    refine ⟨1, by omega, by go_num, ?_, ?_, ?_, ?_, ?_, ?_, ?_, ?_, fun h => absurd h (by omega), fun _ => ⟨?_, ?_⟩⟩
    ·exact hB
    ·simp [World.setCell]; omega
    all_goals simp [go_sem, q0', q1', f0', f1', r0', r1', s0', s1']
   case measure => simp [RowKit.intOf]
  ·obtain ⟨q0, q1⟩ := ho rfl
   clear ho hz
   go_wp2_with fail
   refine bodyPost_ret (v := .agg #[.int .i64 M1, .int .i64 M2]) (by simp [results, Tryz.results137, go_sem, r0, r1, s0, s1]) rfl ⟨rfl, ?_⟩
   exact (hbr.setCell (p := ⟨w.heap.size + 1, 0, none⟩) (by simp <;> omega) _).setCell (p := ⟨w.heap.size + 1, 1, none⟩) (by simp <;> omega) _

set_option maxRecDepth 20000 in
set_option maxHeartbeats 4000000 in
theorem cook_any (b : Nat) (x : St) (v1 v2 v3 : Value) (R : Cr) (a : Ac) (B : Nat) (w : World) (hx : StOk x) (h : BtAt b w x v1 v2 v3 R) (hv : CrAt B w v1 v2 v3 R) (hr : crB R = true) (hBw : B ≤ w.heap.size) :
  Calls Tryz.prog 119 #[.pointer (some ⟨b, 0, none⟩), .agg (cAc a).toArray] w fun e w' => e = .returned (.int .i64 (ckE R x a.lo a.hi)) ∧ BtAt b w' (ckS R x a.lo a.hi) v1 v2 v3 R ∧ w.grownBy w' (some b) := by
 obtain ⟨k, lo, hi, m⟩ := a
 have np := h.n
 have p10 := h.c 10 v1 rfl
 have p12 := h.c 12 _ rfl
 have p13 := h.c 13 _ rfl
 have C1 := Lib.hid (fun (W : World) (hB : Below w.heap.size w W) => boiling_any b R.xs v1 R.bl R.bh lo hi W (crB_ok hr).1 (crB_ok hr).2.2.1 (Nat.lt_of_lt_of_le np hB.size) (cell_next hB np p10) (cell_next hB np p12) (cell_next hB np p13) ((hv.e.below hB hBw).mono (Nat.le_trans hBw hB.size)))
 clear p10 p12 p13 np
 obtain ⟨E, hE⟩ : ∃ E, ckE R x lo hi = E := ⟨_, rfl⟩
 obtain ⟨S, hS⟩ : ∃ S, ckS R x lo hi = S := ⟨_, rfl⟩
 obtain ⟨D, hD⟩ : ∃ D, dnR R.xs R.bl R.bh lo hi = D := ⟨_, rfl⟩
 obtain ⟨e1, he1⟩ : ∃ e, dnE R.xs R.bl R.bh lo hi = e := ⟨_, rfl⟩
 have HS : Hid (S = if E = 0 then { x with dl := max x.dl D.1, dh := max x.dh D.2, hl := lo, hh := hi } else x) := Lib.hid (by rw [← hS, ← hE, ← hD]; rfl)
 have HE : Hid (E = if x.bg then 9 else e1) := Lib.hid (by rw [← hE, ← he1]; rfl)
 dsimp only
 rw [hE, hS]
 rw [hD, he1] at C1
 obtain ⟨D1, D2⟩ := D
 dsimp only at C1 HS
 clear hE hS hD he1 hx hr
 obtain ⟨np, hpc, hpf⟩ := h
 obtain ⟨A1, c1, A2, c2, A3, c3, rfl, rfl, rfl⟩ := hv.slices
 clear hv
 have nb := np
 obtain ⟨dl, dh, hl, hh, sl, sh, tl, th, bg, se⟩ := x
 obtain ⟨xs, ys, bl, bh, ps⟩ := R
 dsimp only at *
 have p0 : w.cell? ⟨b, 0, none⟩ = some (.int .i64 dl) := hpc 0 _ rfl
 have p1 : w.cell? ⟨b, 1, none⟩ = some (.int .i64 dh) := hpc 1 _ rfl
 have p2 : w.cell? ⟨b, 2, none⟩ = some (.int .i64 hl) := hpc 2 _ rfl
 have p3 : w.cell? ⟨b, 3, none⟩ = some (.int .i64 hh) := hpc 3 _ rfl
 have p4 : w.cell? ⟨b, 4, none⟩ = some (.int .i64 sl) := hpc 4 _ rfl
 have p5 : w.cell? ⟨b, 5, none⟩ = some (.int .i64 sh) := hpc 5 _ rfl
 have p6 : w.cell? ⟨b, 6, none⟩ = some (.int .i64 tl) := hpc 6 _ rfl
 have p7 : w.cell? ⟨b, 7, none⟩ = some (.int .i64 th) := hpc 7 _ rfl
 have p8 : w.cell? ⟨b, 8, none⟩ = some (.bool bg) := hpc 8 _ rfl
 have p9 : w.cell? ⟨b, 9, none⟩ = some (.int .i64 se) := hpc 9 _ rfl
 have p10 : w.cell? ⟨b, 10, none⟩ = some (.slice A1 xs.length c1) := hpc 10 _ rfl
 have p11 : w.cell? ⟨b, 11, none⟩ = some (.slice A2 ys.length c2) := hpc 11 _ rfl
 have p12 : w.cell? ⟨b, 12, none⟩ = some (.int .i64 bl) := hpc 12 _ rfl
 have p13 : w.cell? ⟨b, 13, none⟩ = some (.int .i64 bh) := hpc 13 _ rfl
 have p14 : w.cell? ⟨b, 14, none⟩ = some (.slice A3 ps.length c3) := hpc 14 _ rfl
 have fp0 := hpf 0 (by omega)
 have fp1 := hpf 1 (by omega)
 have fp2 := hpf 2 (by omega)
 have fp3 := hpf 3 (by omega)
 have fp4 := hpf 4 (by omega)
 have fp5 := hpf 5 (by omega)
 have fp6 := hpf 6 (by omega)
 have fp7 := hpf 7 (by omega)
 have fp8 := hpf 8 (by omega)
 have fp9 := hpf 9 (by omega)
 have fp10 := hpf 10 (by omega)
 have fp11 := hpf 11 (by omega)
 have fp12 := hpf 12 (by omega)
 have fp13 := hpf 13 (by omega)
 have fp14 := hpf 14 (by omega)
 clear hpc hpf
 generalize xs.length = n1 at *
 generalize ys.length = n2 at *
 generalize ps.length = n3 at *
 dsimp only [cAc]
 have C2 := Lib.hid (fun (W : World) (g c : Nat) => greatest_any dl dh D1 D2 g c W)
 obtain ⟨M1, hM1⟩ : ∃ M, max dl D1 = M := ⟨_, rfl⟩
 obtain ⟨M2, hM2⟩ : ∃ M, max dh D2 = M := ⟨_, rfl⟩
 rw [hM1, hM2] at C2 HS
 clear hM1 hM2
 cases bg
 ·go_enter Tryz.func119, Tryz.ntmps119
  go_wp2_with fail
  refine (C1.out _ ((Below.refl _ _).alloc (Nat.le_refl _) _)).mono ?_
  rintro e W1 ⟨rfl, hb⟩
  replace p0 := cell_next (below1 hb) np p0
  replace fp0 := frozen_next (below1 hb) np fp0
  replace p1 := cell_next (below1 hb) np p1
  replace fp1 := frozen_next (below1 hb) np fp1
  replace p2 := cell_next (below1 hb) np p2
  replace fp2 := frozen_next (below1 hb) np fp2
  replace p3 := cell_next (below1 hb) np p3
  replace fp3 := frozen_next (below1 hb) np fp3
  replace p4 := cell_next (below1 hb) np p4
  replace fp4 := frozen_next (below1 hb) np fp4
  replace p5 := cell_next (below1 hb) np p5
  replace fp5 := frozen_next (below1 hb) np fp5
  replace p6 := cell_next (below1 hb) np p6
  replace fp6 := frozen_next (below1 hb) np fp6
  replace p7 := cell_next (below1 hb) np p7
  replace fp7 := frozen_next (below1 hb) np fp7
  replace p8 := cell_next (below1 hb) np p8
  replace fp8 := frozen_next (below1 hb) np fp8
  replace p9 := cell_next (below1 hb) np p9
  replace fp9 := frozen_next (below1 hb) np fp9
  replace p10 := cell_next (below1 hb) np p10
  replace fp10 := frozen_next (below1 hb) np fp10
  replace p11 := cell_next (below1 hb) np p11
  replace fp11 := frozen_next (below1 hb) np fp11
  replace p12 := cell_next (below1 hb) np p12
  replace fp12 := frozen_next (below1 hb) np fp12
  replace p13 := cell_next (below1 hb) np p13
  replace fp13 := frozen_next (below1 hb) np fp13
  replace p14 := cell_next (below1 hb) np p14
  replace fp14 := frozen_next (below1 hb) np fp14
  replace np := Nat.lt_of_lt_of_le np (below1 hb).size
  have t0 := cell_next hb (b := w.heap.size) (o := 0) (by simp <;> omega) (v := some (.int .i64 k)) (by simp [go_sem])
  have t1 := cell_next hb (b := w.heap.size) (o := 1) (by simp <;> omega) (v := some (.int .i64 lo)) (by simp [go_sem])
  have t2 := cell_next hb (b := w.heap.size) (o := 2) (by simp <;> omega) (v := some (.int .i64 hi)) (by simp [go_sem])
  have t3 := cell_next hb (b := w.heap.size) (o := 3) (by simp <;> omega) (v := some (.int .i64 m)) (by simp [go_sem])
  have nt : w.heap.size < W1.heap.size := by have := hb.size; simp at this; omega
  have hB := (below1 hb)
  clear hb
  by_cases hE0 : e1 = 0
  ·subst hE0
   obtain rfl : E = 0 := HE.out.trans (by simp)
   obtain rfl : S = ⟨M1, M2, lo, hi, sl, sh, tl, th, false, se⟩ := HS.out.trans (by simp)
   clear HE HS
   go_wp2_with fail
   have od := nt
   have hb : Below W1.heap.size W1 (W1.alloc (Obj.cells #[.int .i64 D1, .int .i64 D2] 24)) := ((Below.refl _ _).alloc (Nat.le_refl _) _)
   replace p0 := cell_next hb np p0
   replace fp0 := frozen_next hb np fp0
   replace p1 := cell_next hb np p1
   replace fp1 := frozen_next hb np fp1
   replace p2 := cell_next hb np p2
   replace fp2 := frozen_next hb np fp2
   replace p3 := cell_next hb np p3
   replace fp3 := frozen_next hb np fp3
   replace p4 := cell_next hb np p4
   replace fp4 := frozen_next hb np fp4
   replace p5 := cell_next hb np p5
   replace fp5 := frozen_next hb np fp5
   replace p6 := cell_next hb np p6
   replace fp6 := frozen_next hb np fp6
   replace p7 := cell_next hb np p7
   replace fp7 := frozen_next hb np fp7
   replace p8 := cell_next hb np p8
   replace fp8 := frozen_next hb np fp8
   replace p9 := cell_next hb np p9
   replace fp9 := frozen_next hb np fp9
   replace p10 := cell_next hb np p10
   replace fp10 := frozen_next hb np fp10
   replace p11 := cell_next hb np p11
   replace fp11 := frozen_next hb np fp11
   replace p12 := cell_next hb np p12
   replace fp12 := frozen_next hb np fp12
   replace p13 := cell_next hb np p13
   replace fp13 := frozen_next hb np fp13
   replace p14 := cell_next hb np p14
   replace fp14 := frozen_next hb np fp14
   replace np := Nat.lt_of_lt_of_le np hb.size
   replace t0 := cell_next hb nt t0
   replace t1 := cell_next hb nt t1
   replace t2 := cell_next hb nt t2
   replace t3 := cell_next hb nt t3
   replace nt := Nat.lt_of_lt_of_le nt hb.size
   have d0 : (W1.alloc (Obj.cells #[.int .i64 D1, .int .i64 D2] 24)).cell? ⟨W1.heap.size, 0, none⟩ = some (.int .i64 D1) := by simp [go_sem]
   have d1 : (W1.alloc (Obj.cells #[.int .i64 D1, .int .i64 D2] 24)).cell? ⟨W1.heap.size, 1, none⟩ = some (.int .i64 D2) := by simp [go_sem]
   have nd : W1.heap.size < (W1.alloc (Obj.cells #[.int .i64 D1, .int .i64 D2] 24)).heap.size := by simp <;> omega
   replace hB := hB.trans (hb.mono hB.size)
   clear hb
   generalize (W1.alloc (Obj.cells #[.int .i64 D1, .int .i64 D2] 24)) = W2 at *
   generalize W1.heap.size = q2 at *
   have hG : w.grownBy W2 (some b) := only_of_below' hB
   have hBW : b ≤ W2.heap.size := Nat.le_of_lt np
   refine wp_region_held_drew (S := fun w' => w'.cell? ⟨w.heap.size, 1, none⟩ = some (.int .i64 lo) ∧ w'.cell? ⟨w.heap.size, 2, none⟩ = some (.int .i64 hi) ∧ w'.cell? ⟨q2, 0, none⟩ = some (.int .i64 D1) ∧ w'.cell? ⟨q2, 1, none⟩ = some (.int .i64 D2) ∧ True) (by kernel_rfl) ?_ (fun hHeld => ?_)
   focus (exact ⟨t1, t2, d0, d1, trivial⟩)
   have hL : Below b W2 W2.drew := Below.drew (Below.refl _ _)
   have hQ : Hid (Kept (fun i => i = b) W2 W2.drew) := Lib.hid (Kept.refl _ _)
   replace p0 : W2.drew.cell? ⟨b, 0, none⟩ = some (.int .i64 dl) := p0
   replace fp0 : W2.drew.frozen? ⟨b, 0, none⟩ = false := fp0
   replace p1 : W2.drew.cell? ⟨b, 1, none⟩ = some (.int .i64 dh) := p1
   replace fp1 : W2.drew.frozen? ⟨b, 1, none⟩ = false := fp1
   replace p2 : W2.drew.cell? ⟨b, 2, none⟩ = some (.int .i64 hl) := p2
   replace fp2 : W2.drew.frozen? ⟨b, 2, none⟩ = false := fp2
   replace p3 : W2.drew.cell? ⟨b, 3, none⟩ = some (.int .i64 hh) := p3
   replace fp3 : W2.drew.frozen? ⟨b, 3, none⟩ = false := fp3
   replace p4 : W2.drew.cell? ⟨b, 4, none⟩ = some (.int .i64 sl) := p4
   replace fp4 : W2.drew.frozen? ⟨b, 4, none⟩ = false := fp4
   replace p5 : W2.drew.cell? ⟨b, 5, none⟩ = some (.int .i64 sh) := p5
   replace fp5 : W2.drew.frozen? ⟨b, 5, none⟩ = false := fp5
   replace p6 : W2.drew.cell? ⟨b, 6, none⟩ = some (.int .i64 tl) := p6
   replace fp6 : W2.drew.frozen? ⟨b, 6, none⟩ = false := fp6
   replace p7 : W2.drew.cell? ⟨b, 7, none⟩ = some (.int .i64 th) := p7
   replace fp7 : W2.drew.frozen? ⟨b, 7, none⟩ = false := fp7
   replace p8 : W2.drew.cell? ⟨b, 8, none⟩ = some (.bool false) := p8
   replace fp8 : W2.drew.frozen? ⟨b, 8, none⟩ = false := fp8
   replace p9 : W2.drew.cell? ⟨b, 9, none⟩ = some (.int .i64 se) := p9
   replace fp9 : W2.drew.frozen? ⟨b, 9, none⟩ = false := fp9
   replace p10 : W2.drew.cell? ⟨b, 10, none⟩ = some (.slice A1 n1 c1) := p10
   replace fp10 : W2.drew.frozen? ⟨b, 10, none⟩ = false := fp10
   replace p11 : W2.drew.cell? ⟨b, 11, none⟩ = some (.slice A2 n2 c2) := p11
   replace fp11 : W2.drew.frozen? ⟨b, 11, none⟩ = false := fp11
   replace p12 : W2.drew.cell? ⟨b, 12, none⟩ = some (.int .i64 bl) := p12
   replace fp12 : W2.drew.frozen? ⟨b, 12, none⟩ = false := fp12
   replace p13 : W2.drew.cell? ⟨b, 13, none⟩ = some (.int .i64 bh) := p13
   replace fp13 : W2.drew.frozen? ⟨b, 13, none⟩ = false := fp13
   replace p14 : W2.drew.cell? ⟨b, 14, none⟩ = some (.slice A3 n3 c3) := p14
   replace fp14 : W2.drew.frozen? ⟨b, 14, none⟩ = false := fp14
   replace t0 : W2.drew.cell? ⟨w.heap.size, 0, none⟩ = some (.int .i64 k) := t0
   replace t1 : W2.drew.cell? ⟨w.heap.size, 1, none⟩ = some (.int .i64 lo) := t1
   replace t2 : W2.drew.cell? ⟨w.heap.size, 2, none⟩ = some (.int .i64 hi) := t2
   replace t3 : W2.drew.cell? ⟨w.heap.size, 3, none⟩ = some (.int .i64 m) := t3
   replace d0 : W2.drew.cell? ⟨q2, 0, none⟩ = some (.int .i64 D1) := d0
   replace d1 : W2.drew.cell? ⟨q2, 1, none⟩ = some (.int .i64 D2) := d1
   replace np : b < W2.drew.heap.size := np
   replace nt : w.heap.size < W2.drew.heap.size := nt
   replace nd : q2 < W2.drew.heap.size := nd
   generalize hWd : W2.drew = wd3 at hHeld hL hQ p0 fp0 p1 fp1 p2 fp2 p3 fp3 p4 fp4 p5 fp5 p6 fp6 p7 fp7 p8 fp8 p9 fp9 p10 fp10 p11 fp11 p12 fp12 p13 fp13 p14 fp14 t0 t1 t2 t3 d0 d1 np nt nd  ⊢
   clear hWd
   refine tq 0 22 ?_ ?_ ?_; rotate_left; (focus intro w h; (try dsimp only at h); go_simp; try with_reducible rfl); try simp only [sA, sB, sC]
   refine tq 1 23 ?_ ?_ ?_; rotate_left; (focus intro w h; (try dsimp only at h); go_simp; try with_reducible rfl); try simp only [sA, sB, sC]
   refine tq 2 24 ?_ ?_ ?_; rotate_left; (focus intro w h; (try dsimp only at h); go_simp; try with_reducible rfl); try simp only [sA, sB, sC]
   refine tq 3 25 ?_ ?_ ?_; rotate_left; (focus intro w h; (try dsimp only at h); go_simp; try with_reducible rfl); try simp only [sA, sB, sC]
   refine tq 4 26 ?_ ?_ ?_; rotate_left; (focus intro w h; (try dsimp only at h); go_simp; try with_reducible rfl); try simp only [sA, sB, sC]
   refine tq 5 27 ?_ ?_ ?_; rotate_left; (focus intro w h; (try dsimp only at h); go_simp; try with_reducible rfl); try simp only [sA, sB, sC]
   refine tq 7 29 ?_ ?_ ?_; rotate_left; (focus intro w h; (try dsimp only at h); go_simp; try with_reducible rfl); try simp only [sA, sB, sC]
   refine tq 10 32 ?_ ?_ ?_; rotate_left; (focus intro w h; (try dsimp only at h); go_simp; try with_reducible rfl); try simp only [sA, sB, sC]
   refine tq 11 33 ?_ ?_ ?_; rotate_left; (focus intro w h; (try dsimp only at h); go_simp; try with_reducible rfl); try simp only [sA, sB, sC]
   refine wpAnyH_ready (rs := [6, 8]) (by kernel_rfl) (by simp) ?_
   refine AllReadyH.cons rfl (fun K hK => ?_) (AllReadyH.cons rfl (fun K hK => ?_) AllReadyH.nil)
   ·go_simp
    refine hK.out _ _ ⟨t1, t2, d0, d1, trivial⟩ (fun hHeld => ?_)
    clear hK K
    try simp only [Act.put, sA, sB, sC]
    refine rd1 8 (fun K hK => ?_)
    go_simp
    have hb := (Below.refl wd3.heap.size wd3).alloc (Nat.le_refl _) (Obj.cells #[.int .i64 D1, .int .i64 D2] 24)
    have szZ3x2 := hL.size
    have ord2np := np
    have ord2nt := nt
    have ord2nd := nd
    replace p0 := cell_next hb np p0
    replace fp0 := frozen_next hb np fp0
    replace p1 := cell_next hb np p1
    replace fp1 := frozen_next hb np fp1
    replace p2 := cell_next hb np p2
    replace fp2 := frozen_next hb np fp2
    replace p3 := cell_next hb np p3
    replace fp3 := frozen_next hb np fp3
    replace p4 := cell_next hb np p4
    replace fp4 := frozen_next hb np fp4
    replace p5 := cell_next hb np p5
    replace fp5 := frozen_next hb np fp5
    replace p6 := cell_next hb np p6
    replace fp6 := frozen_next hb np fp6
    replace p7 := cell_next hb np p7
    replace fp7 := frozen_next hb np fp7
    replace p8 := cell_next hb np p8
    replace fp8 := frozen_next hb np fp8
    replace p9 := cell_next hb np p9
    replace fp9 := frozen_next hb np fp9
    replace p10 := cell_next hb np p10
    replace fp10 := frozen_next hb np fp10
    replace p11 := cell_next hb np p11
    replace fp11 := frozen_next hb np fp11
    replace p12 := cell_next hb np p12
    replace fp12 := frozen_next hb np fp12
    replace p13 := cell_next hb np p13
    replace fp13 := frozen_next hb np fp13
    replace p14 := cell_next hb np p14
    replace fp14 := frozen_next hb np fp14
    replace t0 := cell_next hb nt t0
    replace t1 := cell_next hb nt t1
    replace t2 := cell_next hb nt t2
    replace t3 := cell_next hb nt t3
    replace d0 := cell_next hb nd d0
    replace d1 := cell_next hb nd d1
    replace np := Nat.lt_of_lt_of_le np hb.size
    replace nt := Nat.lt_of_lt_of_le nt hb.size
    replace nd := Nat.lt_of_lt_of_le nd hb.size
    replace hL := hL.trans (hb.mono (Nat.le_trans hBW hL.size))
    replace hQ := Lib.hid (hQ.out.trans (Kept.of_below' hb _))
    have K0 : (wd3.alloc (Obj.cells #[.int .i64 D1, .int .i64 D2] 24)).cell? ⟨wd3.heap.size, 0, none⟩ = some (.int .i64 D1) := cell_new _ _ _ 0
    have K1 : (wd3.alloc (Obj.cells #[.int .i64 D1, .int .i64 D2] 24)).cell? ⟨wd3.heap.size, 1, none⟩ = some (.int .i64 D2) := cell_new _ _ _ 1
    have nK : wd3.heap.size < (wd3.alloc (Obj.cells #[.int .i64 D1, .int .i64 D2] 24)).heap.size := by simp
    refine hK.out _ _ ⟨t1, t2, d0, d1, trivial⟩ (fun hHeld => ?_)
    clear hK K hb
    generalize wd3.alloc (Obj.cells #[.int .i64 D1, .int .i64 D2] 24) = Z3x2 at *
    try simp only [Act.put, sA, sB, sC]
    refine rd1 9 (fun K hK => ?_)
    go_simp
    refine (C2.out _ _ _ nK K0 K1).mono ?_
    rintro e Z3x3 ⟨rfl, hb⟩
    replace p0 := cell_next hb np p0
    replace fp0 := frozen_next hb np fp0
    replace p1 := cell_next hb np p1
    replace fp1 := frozen_next hb np fp1
    replace p2 := cell_next hb np p2
    replace fp2 := frozen_next hb np fp2
    replace p3 := cell_next hb np p3
    replace fp3 := frozen_next hb np fp3
    replace p4 := cell_next hb np p4
    replace fp4 := frozen_next hb np fp4
    replace p5 := cell_next hb np p5
    replace fp5 := frozen_next hb np fp5
    replace p6 := cell_next hb np p6
    replace fp6 := frozen_next hb np fp6
    replace p7 := cell_next hb np p7
    replace fp7 := frozen_next hb np fp7
    replace p8 := cell_next hb np p8
    replace fp8 := frozen_next hb np fp8
    replace p9 := cell_next hb np p9
    replace fp9 := frozen_next hb np fp9
    replace p10 := cell_next hb np p10
    replace fp10 := frozen_next hb np fp10
    replace p11 := cell_next hb np p11
    replace fp11 := frozen_next hb np fp11
    replace p12 := cell_next hb np p12
    replace fp12 := frozen_next hb np fp12
    replace p13 := cell_next hb np p13
    replace fp13 := frozen_next hb np fp13
    replace p14 := cell_next hb np p14
    replace fp14 := frozen_next hb np fp14
    replace t0 := cell_next hb nt t0
    replace t1 := cell_next hb nt t1
    replace t2 := cell_next hb nt t2
    replace t3 := cell_next hb nt t3
    replace d0 := cell_next hb nd d0
    replace d1 := cell_next hb nd d1
    replace K0 := cell_next hb nK K0
    replace K1 := cell_next hb nK K1
    replace np := Nat.lt_of_lt_of_le np hb.size
    replace nt := Nat.lt_of_lt_of_le nt hb.size
    replace nd := Nat.lt_of_lt_of_le nd hb.size
    replace nK := Nat.lt_of_lt_of_le nK hb.size
    replace hL := hL.trans (hb.mono (Nat.le_trans hBW hL.size))
    replace hQ := Lib.hid (hQ.out.trans (Kept.of_below' hb _))
    refine hK.out _ _ ⟨t1, t2, d0, d1, trivial⟩ (fun hHeld => ?_)
    clear hK K hb
    try simp only [Act.put, sA, sB, sC]
    refine tq 12 34 ?_ ?_ ?_; rotate_left; (focus intro w h; (try dsimp only at h); go_simp; try with_reducible rfl); try simp only [sA, sB, sC]
    refine tq 13 35 ?_ ?_ ?_; rotate_left; (focus intro w h; (try dsimp only at h); go_simp; try with_reducible rfl); try simp only [sA, sB, sC]
    refine tq 14 36 ?_ ?_ ?_; rotate_left; (focus intro w h; (try dsimp only at h); go_simp; try with_reducible rfl); try simp only [sA, sB, sC]
    refine rd1 15 (fun K hK => ?_)
    go_simp
    have FAR : ∀ {b2 o2 : Nat} {v2 : Option Value}, ¬ (b2 = b ∧ (o2 = 0 ∨ o2 = 1)) → Z3x3.cell? ⟨b2, o2, none⟩ = v2 → ((Z3x3.setCell ⟨b, 0, none⟩ (.int .i64 M1)).setCell ⟨b, 1, none⟩ (.int .i64 M2)).cell? ⟨b2, o2, none⟩ = v2 := fun h1 h2 => (so (by omega)).trans ((so (by omega)).trans (h2))
    have FRZ : ∀ {b2 o2 : Nat} {v2 : Bool}, Z3x3.frozen? ⟨b2, o2, none⟩ = v2 → ((Z3x3.setCell ⟨b, 0, none⟩ (.int .i64 M1)).setCell ⟨b, 1, none⟩ (.int .i64 M2)).frozen? ⟨b2, o2, none⟩ = v2 := fun h2 => by simp [go_sem, h2]
    have NSZ : ∀ {b2 : Nat}, b2 < Z3x3.heap.size → b2 < ((Z3x3.setCell ⟨b, 0, none⟩ (.int .i64 M1)).setCell ⟨b, 1, none⟩ (.int .i64 M2)).heap.size := fun h2 => by simpa [World.setCell] using h2
    have HIT : ∀ W9, W9 = ((Z3x3.setCell ⟨b, 0, none⟩ (.int .i64 M1)).setCell ⟨b, 1, none⟩ (.int .i64 M2)) → W9.cell? ⟨b, 0, none⟩ = some (.int .i64 M1) ∧ W9.cell? ⟨b, 1, none⟩ = some (.int .i64 M2) := by
     intro W9 h9
     subst h9
     exact ⟨by simp [go_sem, p0], by simp [go_sem, p1]⟩
    clear p0 p1
    obtain ⟨p0, p1⟩ := HIT _ rfl
    replace fp0 := FRZ fp0
    replace fp1 := FRZ fp1
    replace p2 := FAR (by omega) p2
    replace fp2 := FRZ fp2
    replace p3 := FAR (by omega) p3
    replace fp3 := FRZ fp3
    replace p4 := FAR (by omega) p4
    replace fp4 := FRZ fp4
    replace p5 := FAR (by omega) p5
    replace fp5 := FRZ fp5
    replace p6 := FAR (by omega) p6
    replace fp6 := FRZ fp6
    replace p7 := FAR (by omega) p7
    replace fp7 := FRZ fp7
    replace p8 := FAR (by omega) p8
    replace fp8 := FRZ fp8
    replace p9 := FAR (by omega) p9
    replace fp9 := FRZ fp9
    replace p10 := FAR (by omega) p10
    replace fp10 := FRZ fp10
    replace p11 := FAR (by omega) p11
    replace fp11 := FRZ fp11
    replace p12 := FAR (by omega) p12
    replace fp12 := FRZ fp12
    replace p13 := FAR (by omega) p13
    replace fp13 := FRZ fp13
    replace p14 := FAR (by omega) p14
    replace fp14 := FRZ fp14
    replace t0 := FAR (by omega) t0
    replace t1 := FAR (by omega) t1
    replace t2 := FAR (by omega) t2
    replace t3 := FAR (by omega) t3
    replace d0 := FAR (by omega) d0
    replace d1 := FAR (by omega) d1
    replace K0 := FAR (by omega) K0
    replace K1 := FAR (by omega) K1
    replace np := NSZ np
    replace nt := NSZ nt
    replace nd := NSZ nd
    replace nK := NSZ nK
    clear FAR NSZ FRZ HIT
    replace hL := hL.setCell (p := ⟨b, 0, none⟩) (by show b ≤ b; omega) (.int .i64 M1)
    replace hL := hL.setCell (p := ⟨b, 1, none⟩) (by show b ≤ b; omega) (.int .i64 M2)
    replace hQ := Lib.hid (hQ.out.trans (Kept.set (U := (fun i => i = b)) _ (p := ⟨b, 0, none⟩) (rfl) (.int .i64 M1)))
    replace hQ := Lib.hid (hQ.out.trans (Kept.set (U := (fun i => i = b)) _ (p := ⟨b, 1, none⟩) (rfl) (.int .i64 M2)))
    refine hK.out _ _ ⟨t1, t2, d0, d1, trivial⟩ (fun hHeld => ?_)
    clear hK K
    try simp only [Act.put, sA, sB, sC]
    refine tq 16 37 ?_ ?_ ?_; rotate_left; (focus intro w h; (try dsimp only at h); go_simp; try with_reducible rfl); try simp only [sA, sB, sC]
    refine tq 17 38 ?_ ?_ ?_; rotate_left; (focus intro w h; (try dsimp only at h); go_simp; try with_reducible rfl); try simp only [sA, sB, sC]
    refine tq 18 39 ?_ ?_ ?_; rotate_left; (focus intro w h; (try dsimp only at h); go_simp; try with_reducible rfl); try simp only [sA, sB, sC]
    refine rd1 19 (fun K hK => ?_)
    go_simp
    have FAR : ∀ {b2 o2 : Nat} {v2 : Option Value}, ¬ (b2 = b ∧ (o2 = 2 ∨ o2 = 3)) → ((Z3x3.setCell ⟨b, 0, none⟩ (.int .i64 M1)).setCell ⟨b, 1, none⟩ (.int .i64 M2)).cell? ⟨b2, o2, none⟩ = v2 → ((((Z3x3.setCell ⟨b, 0, none⟩ (.int .i64 M1)).setCell ⟨b, 1, none⟩ (.int .i64 M2)).setCell ⟨b, 2, none⟩ (.int .i64 lo)).setCell ⟨b, 3, none⟩ (.int .i64 hi)).cell? ⟨b2, o2, none⟩ = v2 := fun h1 h2 => (so (by omega)).trans ((so (by omega)).trans (h2))
    have FRZ : ∀ {b2 o2 : Nat} {v2 : Bool}, ((Z3x3.setCell ⟨b, 0, none⟩ (.int .i64 M1)).setCell ⟨b, 1, none⟩ (.int .i64 M2)).frozen? ⟨b2, o2, none⟩ = v2 → ((((Z3x3.setCell ⟨b, 0, none⟩ (.int .i64 M1)).setCell ⟨b, 1, none⟩ (.int .i64 M2)).setCell ⟨b, 2, none⟩ (.int .i64 lo)).setCell ⟨b, 3, none⟩ (.int .i64 hi)).frozen? ⟨b2, o2, none⟩ = v2 := fun h2 => by simp [go_sem, h2]
    have NSZ : ∀ {b2 : Nat}, b2 < ((Z3x3.setCell ⟨b, 0, none⟩ (.int .i64 M1)).setCell ⟨b, 1, none⟩ (.int .i64 M2)).heap.size → b2 < ((((Z3x3.setCell ⟨b, 0, none⟩ (.int .i64 M1)).setCell ⟨b, 1, none⟩ (.int .i64 M2)).setCell ⟨b, 2, none⟩ (.int .i64 lo)).setCell ⟨b, 3, none⟩ (.int .i64 hi)).heap.size := fun h2 => by simpa [World.setCell] using h2
    have HIT : ∀ W9, W9 = ((((Z3x3.setCell ⟨b, 0, none⟩ (.int .i64 M1)).setCell ⟨b, 1, none⟩ (.int .i64 M2)).setCell ⟨b, 2, none⟩ (.int .i64 lo)).setCell ⟨b, 3, none⟩ (.int .i64 hi)) → W9.cell? ⟨b, 2, none⟩ = some (.int .i64 lo) ∧ W9.cell? ⟨b, 3, none⟩ = some (.int .i64 hi) := by
     intro W9 h9
     subst h9
     exact ⟨by simp [go_sem, p2], by simp [go_sem, p3]⟩
    clear p2 p3
    obtain ⟨p2, p3⟩ := HIT _ rfl
    replace p0 := FAR (by omega) p0
    replace fp0 := FRZ fp0
    replace p1 := FAR (by omega) p1
    replace fp1 := FRZ fp1
    replace fp2 := FRZ fp2
    replace fp3 := FRZ fp3
    replace p4 := FAR (by omega) p4
    replace fp4 := FRZ fp4
    replace p5 := FAR (by omega) p5
    replace fp5 := FRZ fp5
    replace p6 := FAR (by omega) p6
    replace fp6 := FRZ fp6
    replace p7 := FAR (by omega) p7
    replace fp7 := FRZ fp7
    replace p8 := FAR (by omega) p8
    replace fp8 := FRZ fp8
    replace p9 := FAR (by omega) p9
    replace fp9 := FRZ fp9
    replace p10 := FAR (by omega) p10
    replace fp10 := FRZ fp10
    replace p11 := FAR (by omega) p11
    replace fp11 := FRZ fp11
    replace p12 := FAR (by omega) p12
    replace fp12 := FRZ fp12
    replace p13 := FAR (by omega) p13
    replace fp13 := FRZ fp13
    replace p14 := FAR (by omega) p14
    replace fp14 := FRZ fp14
    replace t0 := FAR (by omega) t0
    replace t1 := FAR (by omega) t1
    replace t2 := FAR (by omega) t2
    replace t3 := FAR (by omega) t3
    replace d0 := FAR (by omega) d0
    replace d1 := FAR (by omega) d1
    replace K0 := FAR (by omega) K0
    replace K1 := FAR (by omega) K1
    replace np := NSZ np
    replace nt := NSZ nt
    replace nd := NSZ nd
    replace nK := NSZ nK
    clear FAR NSZ FRZ HIT
    replace hL := hL.setCell (p := ⟨b, 2, none⟩) (by show b ≤ b; omega) (.int .i64 lo)
    replace hL := hL.setCell (p := ⟨b, 3, none⟩) (by show b ≤ b; omega) (.int .i64 hi)
    replace hQ := Lib.hid (hQ.out.trans (Kept.set (U := (fun i => i = b)) _ (p := ⟨b, 2, none⟩) (rfl) (.int .i64 lo)))
    replace hQ := Lib.hid (hQ.out.trans (Kept.set (U := (fun i => i = b)) _ (p := ⟨b, 3, none⟩) (rfl) (.int .i64 hi)))
    refine hK.out _ _ ⟨t1, t2, d0, d1, trivial⟩ (fun hHeld => ?_)
    clear hK K
    try simp only [Act.put, sA, sB, sC]
    refine wpAnyH_done (by kernel_rfl) ?_ _
    replace hG := grown_trans hG (grown_kept hL hQ.out)
    clear hHeld hL hBW hQ
    go_wp2_with fail
    go_ret
    exact ⟨rfl, ⟨np, bt_cells p0 p1 p2 p3 p4 p5 p6 p7 p8 p9 p10 p11 p12 p13 p14, bt_froz fp0 fp1 fp2 fp3 fp4 fp5 fp6 fp7 fp8 fp9 fp10 fp11 fp12 fp13 fp14⟩, hG⟩
   ·go_simp
    have hb := (Below.refl wd3.heap.size wd3).alloc (Nat.le_refl _) (Obj.cells #[.int .i64 D1, .int .i64 D2] 24)
    have szZ3x6 := hL.size
    have ord6np := np
    have ord6nt := nt
    have ord6nd := nd
    replace p0 := cell_next hb np p0
    replace fp0 := frozen_next hb np fp0
    replace p1 := cell_next hb np p1
    replace fp1 := frozen_next hb np fp1
    replace p2 := cell_next hb np p2
    replace fp2 := frozen_next hb np fp2
    replace p3 := cell_next hb np p3
    replace fp3 := frozen_next hb np fp3
    replace p4 := cell_next hb np p4
    replace fp4 := frozen_next hb np fp4
    replace p5 := cell_next hb np p5
    replace fp5 := frozen_next hb np fp5
    replace p6 := cell_next hb np p6
    replace fp6 := frozen_next hb np fp6
    replace p7 := cell_next hb np p7
    replace fp7 := frozen_next hb np fp7
    replace p8 := cell_next hb np p8
    replace fp8 := frozen_next hb np fp8
    replace p9 := cell_next hb np p9
    replace fp9 := frozen_next hb np fp9
    replace p10 := cell_next hb np p10
    replace fp10 := frozen_next hb np fp10
    replace p11 := cell_next hb np p11
    replace fp11 := frozen_next hb np fp11
    replace p12 := cell_next hb np p12
    replace fp12 := frozen_next hb np fp12
    replace p13 := cell_next hb np p13
    replace fp13 := frozen_next hb np fp13
    replace p14 := cell_next hb np p14
    replace fp14 := frozen_next hb np fp14
    replace t0 := cell_next hb nt t0
    replace t1 := cell_next hb nt t1
    replace t2 := cell_next hb nt t2
    replace t3 := cell_next hb nt t3
    replace d0 := cell_next hb nd d0
    replace d1 := cell_next hb nd d1
    replace np := Nat.lt_of_lt_of_le np hb.size
    replace nt := Nat.lt_of_lt_of_le nt hb.size
    replace nd := Nat.lt_of_lt_of_le nd hb.size
    replace hL := hL.trans (hb.mono (Nat.le_trans hBW hL.size))
    replace hQ := Lib.hid (hQ.out.trans (Kept.of_below' hb _))
    have K0 : (wd3.alloc (Obj.cells #[.int .i64 D1, .int .i64 D2] 24)).cell? ⟨wd3.heap.size, 0, none⟩ = some (.int .i64 D1) := cell_new _ _ _ 0
    have K1 : (wd3.alloc (Obj.cells #[.int .i64 D1, .int .i64 D2] 24)).cell? ⟨wd3.heap.size, 1, none⟩ = some (.int .i64 D2) := cell_new _ _ _ 1
    have nK : wd3.heap.size < (wd3.alloc (Obj.cells #[.int .i64 D1, .int .i64 D2] 24)).heap.size := by simp
    refine hK.out _ _ ⟨t1, t2, d0, d1, trivial⟩ (fun hHeld => ?_)
    clear hK K hb
    generalize wd3.alloc (Obj.cells #[.int .i64 D1, .int .i64 D2] 24) = Z3x6 at *
    try simp only [Act.put, sA, sB, sC]
    refine rd1 6 (fun K hK => ?_)
    go_simp
    refine hK.out _ _ ⟨t1, t2, d0, d1, trivial⟩ (fun hHeld => ?_)
    clear hK K
    try simp only [Act.put, sA, sB, sC]
    refine rd1 9 (fun K hK => ?_)
    go_simp
    refine (C2.out _ _ _ nK K0 K1).mono ?_
    rintro e Z3x8 ⟨rfl, hb⟩
    replace p0 := cell_next hb np p0
    replace fp0 := frozen_next hb np fp0
    replace p1 := cell_next hb np p1
    replace fp1 := frozen_next hb np fp1
    replace p2 := cell_next hb np p2
    replace fp2 := frozen_next hb np fp2
    replace p3 := cell_next hb np p3
    replace fp3 := frozen_next hb np fp3
    replace p4 := cell_next hb np p4
    replace fp4 := frozen_next hb np fp4
    replace p5 := cell_next hb np p5
    replace fp5 := frozen_next hb np fp5
    replace p6 := cell_next hb np p6
    replace fp6 := frozen_next hb np fp6
    replace p7 := cell_next hb np p7
    replace fp7 := frozen_next hb np fp7
    replace p8 := cell_next hb np p8
    replace fp8 := frozen_next hb np fp8
    replace p9 := cell_next hb np p9
    replace fp9 := frozen_next hb np fp9
    replace p10 := cell_next hb np p10
    replace fp10 := frozen_next hb np fp10
    replace p11 := cell_next hb np p11
    replace fp11 := frozen_next hb np fp11
    replace p12 := cell_next hb np p12
    replace fp12 := frozen_next hb np fp12
    replace p13 := cell_next hb np p13
    replace fp13 := frozen_next hb np fp13
    replace p14 := cell_next hb np p14
    replace fp14 := frozen_next hb np fp14
    replace t0 := cell_next hb nt t0
    replace t1 := cell_next hb nt t1
    replace t2 := cell_next hb nt t2
    replace t3 := cell_next hb nt t3
    replace d0 := cell_next hb nd d0
    replace d1 := cell_next hb nd d1
    replace K0 := cell_next hb nK K0
    replace K1 := cell_next hb nK K1
    replace np := Nat.lt_of_lt_of_le np hb.size
    replace nt := Nat.lt_of_lt_of_le nt hb.size
    replace nd := Nat.lt_of_lt_of_le nd hb.size
    replace nK := Nat.lt_of_lt_of_le nK hb.size
    replace hL := hL.trans (hb.mono (Nat.le_trans hBW hL.size))
    replace hQ := Lib.hid (hQ.out.trans (Kept.of_below' hb _))
    refine hK.out _ _ ⟨t1, t2, d0, d1, trivial⟩ (fun hHeld => ?_)
    clear hK K hb
    try simp only [Act.put, sA, sB, sC]
    refine tq 12 34 ?_ ?_ ?_; rotate_left; (focus intro w h; (try dsimp only at h); go_simp; try with_reducible rfl); try simp only [sA, sB, sC]
    refine tq 13 35 ?_ ?_ ?_; rotate_left; (focus intro w h; (try dsimp only at h); go_simp; try with_reducible rfl); try simp only [sA, sB, sC]
    refine tq 14 36 ?_ ?_ ?_; rotate_left; (focus intro w h; (try dsimp only at h); go_simp; try with_reducible rfl); try simp only [sA, sB, sC]
    refine rd1 15 (fun K hK => ?_)
    go_simp
    have FAR : ∀ {b2 o2 : Nat} {v2 : Option Value}, ¬ (b2 = b ∧ (o2 = 0 ∨ o2 = 1)) → Z3x8.cell? ⟨b2, o2, none⟩ = v2 → ((Z3x8.setCell ⟨b, 0, none⟩ (.int .i64 M1)).setCell ⟨b, 1, none⟩ (.int .i64 M2)).cell? ⟨b2, o2, none⟩ = v2 := fun h1 h2 => (so (by omega)).trans ((so (by omega)).trans (h2))
    have FRZ : ∀ {b2 o2 : Nat} {v2 : Bool}, Z3x8.frozen? ⟨b2, o2, none⟩ = v2 → ((Z3x8.setCell ⟨b, 0, none⟩ (.int .i64 M1)).setCell ⟨b, 1, none⟩ (.int .i64 M2)).frozen? ⟨b2, o2, none⟩ = v2 := fun h2 => by simp [go_sem, h2]
    have NSZ : ∀ {b2 : Nat}, b2 < Z3x8.heap.size → b2 < ((Z3x8.setCell ⟨b, 0, none⟩ (.int .i64 M1)).setCell ⟨b, 1, none⟩ (.int .i64 M2)).heap.size := fun h2 => by simpa [World.setCell] using h2
    have HIT : ∀ W9, W9 = ((Z3x8.setCell ⟨b, 0, none⟩ (.int .i64 M1)).setCell ⟨b, 1, none⟩ (.int .i64 M2)) → W9.cell? ⟨b, 0, none⟩ = some (.int .i64 M1) ∧ W9.cell? ⟨b, 1, none⟩ = some (.int .i64 M2) := by
     intro W9 h9
     subst h9
     exact ⟨by simp [go_sem, p0], by simp [go_sem, p1]⟩
    clear p0 p1
    obtain ⟨p0, p1⟩ := HIT _ rfl
    replace fp0 := FRZ fp0
    replace fp1 := FRZ fp1
    replace p2 := FAR (by omega) p2
    replace fp2 := FRZ fp2
    replace p3 := FAR (by omega) p3
    replace fp3 := FRZ fp3
    replace p4 := FAR (by omega) p4
    replace fp4 := FRZ fp4
    replace p5 := FAR (by omega) p5
    replace fp5 := FRZ fp5
    replace p6 := FAR (by omega) p6
    replace fp6 := FRZ fp6
    replace p7 := FAR (by omega) p7
    replace fp7 := FRZ fp7
    replace p8 := FAR (by omega) p8
    replace fp8 := FRZ fp8
    replace p9 := FAR (by omega) p9
    replace fp9 := FRZ fp9
    replace p10 := FAR (by omega) p10
    replace fp10 := FRZ fp10
    replace p11 := FAR (by omega) p11
    replace fp11 := FRZ fp11
    replace p12 := FAR (by omega) p12
    replace fp12 := FRZ fp12
    replace p13 := FAR (by omega) p13
    replace fp13 := FRZ fp13
    replace p14 := FAR (by omega) p14
    replace fp14 := FRZ fp14
    replace t0 := FAR (by omega) t0
    replace t1 := FAR (by omega) t1
    replace t2 := FAR (by omega) t2
    replace t3 := FAR (by omega) t3
    replace d0 := FAR (by omega) d0
    replace d1 := FAR (by omega) d1
    replace K0 := FAR (by omega) K0
    replace K1 := FAR (by omega) K1
    replace np := NSZ np
    replace nt := NSZ nt
    replace nd := NSZ nd
    replace nK := NSZ nK
    clear FAR NSZ FRZ HIT
    replace hL := hL.setCell (p := ⟨b, 0, none⟩) (by show b ≤ b; omega) (.int .i64 M1)
    replace hL := hL.setCell (p := ⟨b, 1, none⟩) (by show b ≤ b; omega) (.int .i64 M2)
    replace hQ := Lib.hid (hQ.out.trans (Kept.set (U := (fun i => i = b)) _ (p := ⟨b, 0, none⟩) (rfl) (.int .i64 M1)))
    replace hQ := Lib.hid (hQ.out.trans (Kept.set (U := (fun i => i = b)) _ (p := ⟨b, 1, none⟩) (rfl) (.int .i64 M2)))
    refine hK.out _ _ ⟨t1, t2, d0, d1, trivial⟩ (fun hHeld => ?_)
    clear hK K
    try simp only [Act.put, sA, sB, sC]
    refine tq 16 37 ?_ ?_ ?_; rotate_left; (focus intro w h; (try dsimp only at h); go_simp; try with_reducible rfl); try simp only [sA, sB, sC]
    refine tq 17 38 ?_ ?_ ?_; rotate_left; (focus intro w h; (try dsimp only at h); go_simp; try with_reducible rfl); try simp only [sA, sB, sC]
    refine tq 18 39 ?_ ?_ ?_; rotate_left; (focus intro w h; (try dsimp only at h); go_simp; try with_reducible rfl); try simp only [sA, sB, sC]
    refine rd1 19 (fun K hK => ?_)
    go_simp
    have FAR : ∀ {b2 o2 : Nat} {v2 : Option Value}, ¬ (b2 = b ∧ (o2 = 2 ∨ o2 = 3)) → ((Z3x8.setCell ⟨b, 0, none⟩ (.int .i64 M1)).setCell ⟨b, 1, none⟩ (.int .i64 M2)).cell? ⟨b2, o2, none⟩ = v2 → ((((Z3x8.setCell ⟨b, 0, none⟩ (.int .i64 M1)).setCell ⟨b, 1, none⟩ (.int .i64 M2)).setCell ⟨b, 2, none⟩ (.int .i64 lo)).setCell ⟨b, 3, none⟩ (.int .i64 hi)).cell? ⟨b2, o2, none⟩ = v2 := fun h1 h2 => (so (by omega)).trans ((so (by omega)).trans (h2))
    have FRZ : ∀ {b2 o2 : Nat} {v2 : Bool}, ((Z3x8.setCell ⟨b, 0, none⟩ (.int .i64 M1)).setCell ⟨b, 1, none⟩ (.int .i64 M2)).frozen? ⟨b2, o2, none⟩ = v2 → ((((Z3x8.setCell ⟨b, 0, none⟩ (.int .i64 M1)).setCell ⟨b, 1, none⟩ (.int .i64 M2)).setCell ⟨b, 2, none⟩ (.int .i64 lo)).setCell ⟨b, 3, none⟩ (.int .i64 hi)).frozen? ⟨b2, o2, none⟩ = v2 := fun h2 => by simp [go_sem, h2]
    have NSZ : ∀ {b2 : Nat}, b2 < ((Z3x8.setCell ⟨b, 0, none⟩ (.int .i64 M1)).setCell ⟨b, 1, none⟩ (.int .i64 M2)).heap.size → b2 < ((((Z3x8.setCell ⟨b, 0, none⟩ (.int .i64 M1)).setCell ⟨b, 1, none⟩ (.int .i64 M2)).setCell ⟨b, 2, none⟩ (.int .i64 lo)).setCell ⟨b, 3, none⟩ (.int .i64 hi)).heap.size := fun h2 => by simpa [World.setCell] using h2
    have HIT : ∀ W9, W9 = ((((Z3x8.setCell ⟨b, 0, none⟩ (.int .i64 M1)).setCell ⟨b, 1, none⟩ (.int .i64 M2)).setCell ⟨b, 2, none⟩ (.int .i64 lo)).setCell ⟨b, 3, none⟩ (.int .i64 hi)) → W9.cell? ⟨b, 2, none⟩ = some (.int .i64 lo) ∧ W9.cell? ⟨b, 3, none⟩ = some (.int .i64 hi) := by
     intro W9 h9
     subst h9
     exact ⟨by simp [go_sem, p2], by simp [go_sem, p3]⟩
    clear p2 p3
    obtain ⟨p2, p3⟩ := HIT _ rfl
    replace p0 := FAR (by omega) p0
    replace fp0 := FRZ fp0
    replace p1 := FAR (by omega) p1
    replace fp1 := FRZ fp1
    replace fp2 := FRZ fp2
    replace fp3 := FRZ fp3
    replace p4 := FAR (by omega) p4
    replace fp4 := FRZ fp4
    replace p5 := FAR (by omega) p5
    replace fp5 := FRZ fp5
    replace p6 := FAR (by omega) p6
    replace fp6 := FRZ fp6
    replace p7 := FAR (by omega) p7
    replace fp7 := FRZ fp7
    replace p8 := FAR (by omega) p8
    replace fp8 := FRZ fp8
    replace p9 := FAR (by omega) p9
    replace fp9 := FRZ fp9
    replace p10 := FAR (by omega) p10
    replace fp10 := FRZ fp10
    replace p11 := FAR (by omega) p11
    replace fp11 := FRZ fp11
    replace p12 := FAR (by omega) p12
    replace fp12 := FRZ fp12
    replace p13 := FAR (by omega) p13
    replace fp13 := FRZ fp13
    replace p14 := FAR (by omega) p14
    replace fp14 := FRZ fp14
    replace t0 := FAR (by omega) t0
    replace t1 := FAR (by omega) t1
    replace t2 := FAR (by omega) t2
    replace t3 := FAR (by omega) t3
    replace d0 := FAR (by omega) d0
    replace d1 := FAR (by omega) d1
    replace K0 := FAR (by omega) K0
    replace K1 := FAR (by omega) K1
    replace np := NSZ np
    replace nt := NSZ nt
    replace nd := NSZ nd
    replace nK := NSZ nK
    clear FAR NSZ FRZ HIT
    replace hL := hL.setCell (p := ⟨b, 2, none⟩) (by show b ≤ b; omega) (.int .i64 lo)
    replace hL := hL.setCell (p := ⟨b, 3, none⟩) (by show b ≤ b; omega) (.int .i64 hi)
    replace hQ := Lib.hid (hQ.out.trans (Kept.set (U := (fun i => i = b)) _ (p := ⟨b, 2, none⟩) (rfl) (.int .i64 lo)))
    replace hQ := Lib.hid (hQ.out.trans (Kept.set (U := (fun i => i = b)) _ (p := ⟨b, 3, none⟩) (rfl) (.int .i64 hi)))
    refine hK.out _ _ ⟨t1, t2, d0, d1, trivial⟩ (fun hHeld => ?_)
    clear hK K
    try simp only [Act.put, sA, sB, sC]
    refine wpAnyH_done (by kernel_rfl) ?_ _
    replace hG := grown_trans hG (grown_kept hL hQ.out)
    clear hHeld hL hBW hQ
    go_wp2_with fail
    go_ret
    exact ⟨rfl, ⟨np, bt_cells p0 p1 p2 p3 p4 p5 p6 p7 p8 p9 p10 p11 p12 p13 p14, bt_froz fp0 fp1 fp2 fp3 fp4 fp5 fp6 fp7 fp8 fp9 fp10 fp11 fp12 fp13 fp14⟩, hG⟩
  ·have hEb : (e1 == 0) = false := by simpa using hE0
   have hEc : (e1 != 0) = true := by simpa using hE0
   obtain rfl : E = e1 := HE.out.trans (by simp)
   obtain rfl : S = ⟨dl, dh, hl, hh, sl, sh, tl, th, false, se⟩ := HS.out.trans (by simp [hE0])
   clear HE HS C2
   go_wp2_with fail
   have hb : Below W1.heap.size W1 (W1.alloc (Obj.cells #[.int .i64 D1, .int .i64 D2] 24)) := ((Below.refl _ _).alloc (Nat.le_refl _) _)
   replace p0 := cell_next hb np p0
   replace fp0 := frozen_next hb np fp0
   replace p1 := cell_next hb np p1
   replace fp1 := frozen_next hb np fp1
   replace p2 := cell_next hb np p2
   replace fp2 := frozen_next hb np fp2
   replace p3 := cell_next hb np p3
   replace fp3 := frozen_next hb np fp3
   replace p4 := cell_next hb np p4
   replace fp4 := frozen_next hb np fp4
   replace p5 := cell_next hb np p5
   replace fp5 := frozen_next hb np fp5
   replace p6 := cell_next hb np p6
   replace fp6 := frozen_next hb np fp6
   replace p7 := cell_next hb np p7
   replace fp7 := frozen_next hb np fp7
   replace p8 := cell_next hb np p8
   replace fp8 := frozen_next hb np fp8
   replace p9 := cell_next hb np p9
   replace fp9 := frozen_next hb np fp9
   replace p10 := cell_next hb np p10
   replace fp10 := frozen_next hb np fp10
   replace p11 := cell_next hb np p11
   replace fp11 := frozen_next hb np fp11
   replace p12 := cell_next hb np p12
   replace fp12 := frozen_next hb np fp12
   replace p13 := cell_next hb np p13
   replace fp13 := frozen_next hb np fp13
   replace p14 := cell_next hb np p14
   replace fp14 := frozen_next hb np fp14
   replace np := Nat.lt_of_lt_of_le np hb.size
   replace t0 := cell_next hb nt t0
   replace t1 := cell_next hb nt t1
   replace t2 := cell_next hb nt t2
   replace t3 := cell_next hb nt t3
   replace nt := Nat.lt_of_lt_of_le nt hb.size
   have d0 : (W1.alloc (Obj.cells #[.int .i64 D1, .int .i64 D2] 24)).cell? ⟨W1.heap.size, 0, none⟩ = some (.int .i64 D1) := by simp [go_sem]
   have d1 : (W1.alloc (Obj.cells #[.int .i64 D1, .int .i64 D2] 24)).cell? ⟨W1.heap.size, 1, none⟩ = some (.int .i64 D2) := by simp [go_sem]
   have nd : W1.heap.size < (W1.alloc (Obj.cells #[.int .i64 D1, .int .i64 D2] 24)).heap.size := by simp <;> omega
   replace hB := hB.trans (hb.mono hB.size)
   clear hb
   generalize (W1.alloc (Obj.cells #[.int .i64 D1, .int .i64 D2] 24)) = W2 at *
   generalize W1.heap.size = q2 at *
   have hG : w.grownBy W2 (some b) := only_of_below' hB
   go_wp2_with fail
   go_ret
   exact ⟨rfl, ⟨np, bt_cells p0 p1 p2 p3 p4 p5 p6 p7 p8 p9 p10 p11 p12 p13 p14, bt_froz fp0 fp1 fp2 fp3 fp4 fp5 fp6 fp7 fp8 fp9 fp10 fp11 fp12 fp13 fp14⟩, hG⟩
 ·obtain rfl : E = 9 := HE.out.trans (by simp)
  obtain rfl : S = ⟨dl, dh, hl, hh, sl, sh, tl, th, true, se⟩ := HS.out.trans (by simp)
  clear HE HS C1 C2
  go_enter Tryz.func119, Tryz.ntmps119
  go_wp2_with fail
  have hb : Below w.heap.size w (w.alloc (Obj.cells #[.int .i64 k, .int .i64 lo, .int .i64 hi, .int .i64 m] 50)) := ((Below.refl _ _).alloc (Nat.le_refl _) _)
  replace p0 := cell_next hb np p0
  replace fp0 := frozen_next hb np fp0
  replace p1 := cell_next hb np p1
  replace fp1 := frozen_next hb np fp1
  replace p2 := cell_next hb np p2
  replace fp2 := frozen_next hb np fp2
  replace p3 := cell_next hb np p3
  replace fp3 := frozen_next hb np fp3
  replace p4 := cell_next hb np p4
  replace fp4 := frozen_next hb np fp4
  replace p5 := cell_next hb np p5
  replace fp5 := frozen_next hb np fp5
  replace p6 := cell_next hb np p6
  replace fp6 := frozen_next hb np fp6
  replace p7 := cell_next hb np p7
  replace fp7 := frozen_next hb np fp7
  replace p8 := cell_next hb np p8
  replace fp8 := frozen_next hb np fp8
  replace p9 := cell_next hb np p9
  replace fp9 := frozen_next hb np fp9
  replace p10 := cell_next hb np p10
  replace fp10 := frozen_next hb np fp10
  replace p11 := cell_next hb np p11
  replace fp11 := frozen_next hb np fp11
  replace p12 := cell_next hb np p12
  replace fp12 := frozen_next hb np fp12
  replace p13 := cell_next hb np p13
  replace fp13 := frozen_next hb np fp13
  replace p14 := cell_next hb np p14
  replace fp14 := frozen_next hb np fp14
  replace np := Nat.lt_of_lt_of_le np hb.size
  have t0 : (w.alloc (Obj.cells #[.int .i64 k, .int .i64 lo, .int .i64 hi, .int .i64 m] 50)).cell? ⟨w.heap.size, 0, none⟩ = some (.int .i64 k) := by simp [go_sem]
  have t1 : (w.alloc (Obj.cells #[.int .i64 k, .int .i64 lo, .int .i64 hi, .int .i64 m] 50)).cell? ⟨w.heap.size, 1, none⟩ = some (.int .i64 lo) := by simp [go_sem]
  have t2 : (w.alloc (Obj.cells #[.int .i64 k, .int .i64 lo, .int .i64 hi, .int .i64 m] 50)).cell? ⟨w.heap.size, 2, none⟩ = some (.int .i64 hi) := by simp [go_sem]
  have t3 : (w.alloc (Obj.cells #[.int .i64 k, .int .i64 lo, .int .i64 hi, .int .i64 m] 50)).cell? ⟨w.heap.size, 3, none⟩ = some (.int .i64 m) := by simp [go_sem]
  have nt : w.heap.size < (w.alloc (Obj.cells #[.int .i64 k, .int .i64 lo, .int .i64 hi, .int .i64 m] 50)).heap.size := by simp <;> omega
  have hB := hb
  clear hb
  generalize (w.alloc (Obj.cells #[.int .i64 k, .int .i64 lo, .int .i64 hi, .int .i64 m] 50)) = W1 at *
  have hG : w.grownBy W1 (some b) := only_of_below' hB
  go_wp2_with fail
  go_ret
  exact ⟨rfl, ⟨np, bt_cells p0 p1 p2 p3 p4 p5 p6 p7 p8 p9 p10 p11 p12 p13 p14, bt_froz fp0 fp1 fp2 fp3 fp4 fp5 fp6 fp7 fp8 fp9 fp10 fp11 fp12 fp13 fp14⟩, hG⟩
end Go.Proofs.YtgklpbgdimkhaaaGreat
