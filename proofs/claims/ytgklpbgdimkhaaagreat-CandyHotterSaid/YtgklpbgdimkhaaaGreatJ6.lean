/- Contracts of package candy: the map of what acts do, carryOut, newBatch. -/
import Derived.Test.YtgklpbgdimkhaaaGreatJ5
import Derived.Test.YtgklpbgdimkhaaaGreatKA5
namespace Go.Proofs.YtgklpbgdimkhaaaGreat
open Go.RowKit Go.Lib Go.Shelf Go.Maps
set_option linter.unusedVariables false
set_option linter.unusedSimpArgs false
attribute [local go_sem ↓] Go.wp_at_zero Go.wp_at_succ


open Classical in
/-- how a function in a map reads: by its number -/
noncomputable def fnR (v : Value) : Option (DataW Unit × List MemPlace) :=
 if h : ∃ n : Nat, v = .func (Fn.func n) #[] #[] then some (.lit (.int .i64 (h.choose : Int)), []) else if v = .nilFunc then some (.lit (.int .i64 (-1)), []) else none
theorem fnR_func (n : Nat) : fnR (.func (Fn.func n) #[] #[]) = some (.lit (.int .i64 (n : Int)), []) := by
 have h : ∃ m : Nat, (.func (Fn.func n) #[] #[] : Value) = .func (Fn.func m) #[] #[] := ⟨n, rfl⟩
 have e : n = h.choose := by
  have := h.choose_spec
  injection this with this
  injection this
 unfold fnR
 rw [dif_pos h, ← e]
theorem fnR_nil : fnR .nilFunc = some (.lit (.int .i64 (-1)), []) := by
 have h : ¬ ∃ m : Nat, (.nilFunc : Value) = .func (Fn.func m) #[] #[] := fun ⟨m, h⟩ => by cases h
 unfold fnR
 rw [dif_neg h, if_pos rfl]
theorem fnR_inv {u : Value} {n : Nat} {ps : List MemPlace} (h : fnR u = some (.lit (.int .i64 (n : Int)), ps)) : u = .func (Fn.func n) #[] #[] := by
 unfold fnR at h
 split at h
 ·rename_i hx
  have e := hx.choose_spec
  simp only [Option.some.injEq, Prod.mk.injEq, DataW.lit.injEq, Lit.int.injEq, true_and] at h
  have : hx.choose = n := by omega
  rw [this] at e
  exact e
 ·split at h
  ·simp only [Option.some.injEq, Prod.mk.injEq, DataW.lit.injEq, Lit.int.injEq, true_and] at h
   omega
  ·cases h
theorem actKey : Keyed Tryz.prog 48 := int_keyed Tryz.underlying48
theorem zeroFn (w : World) : (zeroValue 148).run Tryz.prog w = .ok .nilFunc w := by kernel_rfl
theorem wpList_ins_own {H : Type} {P : Program} (w : World) {ops : Array Oper} {rest : List Oper} {o : Oper} {a : Act} {Q : Exit → Act → World → Prop}
  (hg : o.guard = none) (m x v : Operand) (t : TypeId) (hop : o.op = Op.insert t m x v)
  (k e : TypeId) (K : Keyed P k) (ht : P.underlying t = some (.map k e)) (R : Value → Option (DataW H × List MemPlace)) (b n : Nat) (D : DataW H)
  (hm : a.eval m = .map (some b)) (hown : w.ownsMap P k R b n D) (hn : n < maxLen) (key val : Value) (kl : Lit) (hx : a.eval x = key) (hv : a.eval v = val) (hkey : keyOf P k key = some kl)
  (d : DataW H) (ps : List MemPlace) (hval : R val = some (d, ps))
  (hK : ∀ w', w'.ownsMap P k R b (n + 1) (D.put kl d) → w.grownBy w' (some b) → wpList P ops Q rest (a.put o.dst undef) w') :
  wpList P ops Q (o :: rest) a w := by
 refine wpList_plain hg fun K' hK' => ?_
 obtain ⟨w', hrun, r1, r2⟩ := hown.update K ht hn hkey hval
 unfold Oper.wp
 simp [execOp, hop, hm, hx, hv, hrun, Result.andThen]
 exact hK' _ _ (hK w' r1 r2)
/-- what the map of acts reads as -/
def wkD : DataW Unit := ((((DataW.map []).put (.int .i64 1) (.lit (.int .i64 (119 : Nat)))).put (.int .i64 2) (.lit (.int .i64 (120 : Nat)))).put (.int .i64 3) (.lit (.int .i64 (121 : Nat)))).put (.int .i64 4) (.lit (.int .i64 (122 : Nat)))
def WkAt (w : World) (b : Nat) : Prop := w.ownsMap Tryz.prog 48 fnR b 4 wkD
theorem wf_act {n : Int} (h : -9223372036854775808 ≤ n ∧ n ≤ 9223372036854775807) : (Lit.int .i64 n).wf = true := by
 have e1 : IntKind.i64.min = -9223372036854775808 := by decide +kernel
 have e2 : IntKind.i64.max = 9223372036854775807 := by decide +kernel
 simp [Lit.wf]
 omega

set_option maxRecDepth 20000 in
set_option maxHeartbeats 1000000 in
theorem works_any (w : World) : Calls Tryz.prog 93 #[] w fun e w' => e = .returned (.map (some w.heap.size)) ∧ WkAt w' w.heap.size ∧ Below w.heap.size w w' := by
 have hmm := @run_makeMap Tryz.prog
 have HM := Lib.hid (World.ownsMap_made w Tryz.prog 48 fnR)
 have hB : Below w.heap.size w (w.alloc (.map #[] 0)) := (Below.refl _ _).alloc (Nat.le_refl _) _
 have hn : w.heap.size < (w.alloc (.map #[] 0)).heap.size := by simp
 go_enter Tryz.func93, Tryz.ntmps93
 go_wp2_with (refine wpList_ins_own _ rfl (.tmp 1) (.const (.int .i64 1)) (.func 119) 150 rfl 48 148 actKey Tryz.underlying150 fnR w.heap.size 0 _ rfl HM.out (by decide) (.int .i64 1) (.func (Fn.func 119) #[] #[]) (.int .i64 1) rfl rfl (keyOf_int_mk Tryz.underlying48 (wf_act (by omega))) _ [] (fnR_func 119) ?_)
 intro w1 hown hgrow
 replace hB := hB.grown hgrow (Nat.le_of_lt hn) (fun g h => by injection h with h; omega)
 replace hn := Nat.lt_of_lt_of_le hn hgrow.size
 replace HM := Lib.hid hown
 clear hown hgrow
 go_wp2_with (refine wpList_ins_own _ rfl (.tmp 1) (.const (.int .i64 2)) (.func 120) 150 rfl 48 148 actKey Tryz.underlying150 fnR w.heap.size 1 _ rfl HM.out (by decide) (.int .i64 2) (.func (Fn.func 120) #[] #[]) (.int .i64 2) rfl rfl (keyOf_int_mk Tryz.underlying48 (wf_act (by omega))) _ [] (fnR_func 120) ?_)
 intro w2 hown hgrow
 replace hB := hB.grown hgrow (Nat.le_of_lt hn) (fun g h => by injection h with h; omega)
 replace hn := Nat.lt_of_lt_of_le hn hgrow.size
 replace HM := Lib.hid hown
 clear hown hgrow
 go_wp2_with (refine wpList_ins_own _ rfl (.tmp 1) (.const (.int .i64 3)) (.func 121) 150 rfl 48 148 actKey Tryz.underlying150 fnR w.heap.size 2 _ rfl HM.out (by decide) (.int .i64 3) (.func (Fn.func 121) #[] #[]) (.int .i64 3) rfl rfl (keyOf_int_mk Tryz.underlying48 (wf_act (by omega))) _ [] (fnR_func 121) ?_)
 intro w3 hown hgrow
 replace hB := hB.grown hgrow (Nat.le_of_lt hn) (fun g h => by injection h with h; omega)
 replace hn := Nat.lt_of_lt_of_le hn hgrow.size
 replace HM := Lib.hid hown
 clear hown hgrow
 go_wp2_with (refine wpList_ins_own _ rfl (.tmp 1) (.const (.int .i64 4)) (.func 122) 150 rfl 48 148 actKey Tryz.underlying150 fnR w.heap.size 3 _ rfl HM.out (by decide) (.int .i64 4) (.func (Fn.func 122) #[] #[]) (.int .i64 4) rfl rfl (keyOf_int_mk Tryz.underlying48 (wf_act (by omega))) _ [] (fnR_func 122) ?_)
 intro w4 hown hgrow
 replace hB := hB.grown hgrow (Nat.le_of_lt hn) (fun g h => by injection h with h; omega)
 replace hn := Nat.lt_of_lt_of_le hn hgrow.size
 replace HM := Lib.hid hown
 clear hown hgrow
 go_wp2_with fail
 go_ret
 exact ⟨rfl, HM.out, hB⟩

theorem look_act {w : World} {b : Nat} (h : WkAt w b) (k : Int) (hk : -9223372036854775808 ≤ k ∧ k ≤ 9223372036854775807) : ∃ u, (Instr.lookup 150 (.map (some b)) (.int .i64 k) true).run Tryz.prog w = .ok (.tuple #[u, .bool (decide (1 ≤ k) && decide (k ≤ 4))]) w ∧
  (k = 1 → u = .func (Fn.func 119) #[] #[]) ∧ (k = 2 → u = .func (Fn.func 120) #[] #[]) ∧ (k = 3 → u = .func (Fn.func 121) #[] #[]) ∧ (k = 4 → u = .func (Fn.func 122) #[] #[]) := by
 obtain ⟨u, ps, hrun, hu⟩ := World.ownsMap.look_ok h actKey Tryz.underlying150 (zeroFn w) fnR_nil (keyOf_int_mk Tryz.underlying48 (wf_act hk))
 have e : wkD = .map [(.int .i64 1, .lit (.int .i64 (119 : Nat))), (.int .i64 2, .lit (.int .i64 (120 : Nat))), (.int .i64 3, .lit (.int .i64 (121 : Nat))), (.int .i64 4, .lit (.int .i64 (122 : Nat)))] := by rfl
 have hh : Maps.has wkD (.int .i64 k) = (decide (1 ≤ k) && decide (k ≤ 4)) := by
  rw [e]
  have hi : ∀ n : Int, Lit.sameKey (.int .i64 n) (.int .i64 k) = decide (n = k) := fun n => by simp [Lit.sameKey]
  simp only [Maps.has, List.any_cons, List.any_nil, hi]
  rw [Bool.eq_iff_iff]
  simp
  omega
 rw [hh] at hrun
 refine ⟨u, hrun, fun h1 => ?_, fun h1 => ?_, fun h1 => ?_, fun h1 => ?_⟩ <;> subst h1 <;> exact fnR_inv hu
theorem enters_w0 : ∀ args w, (callFunc 119 args).run Tryz.prog w = .ok (.enter 119 args) w := enters_of Tryz.func119 (by kernel_rfl) rfl
theorem enters_w1 : ∀ args w, (callFunc 120 args).run Tryz.prog w = .ok (.enter 120 args) w := enters_of Tryz.func120 (by kernel_rfl) rfl
theorem enters_w2 : ∀ args w, (callFunc 121 args).run Tryz.prog w = .ok (.enter 121 args) w := enters_of Tryz.func121 (by kernel_rfl) rfl
theorem enters_w3 : ∀ args w, (callFunc 122 args).run Tryz.prog w = .ok (.enter 122 args) w := enters_of Tryz.func122 (by kernel_rfl) rfl

noncomputable def acE (R : Cr) (x : St) (a : Ac) : Int := if a.k = 1 then (if a.m = 0 then ckE R x a.lo a.hi else 2) else if a.k = 2 then (if a.m = 0 then coE x a.lo a.hi else 2) else if a.k = 3 then (if a.m = 0 then siE x a.lo a.hi else 2) else if a.k = 4 then (if a.lo = 0 ∧ a.hi = 0 then seE x a.m else 2) else 2
noncomputable def acS (R : Cr) (x : St) (a : Ac) : St := if a.k = 1 then (if a.m = 0 then ckS R x a.lo a.hi else x) else if a.k = 2 then (if a.m = 0 then coS x a.lo a.hi else x) else if a.k = 3 then (if a.m = 0 then siS x a.lo a.hi else x) else if a.k = 4 then (if a.lo = 0 ∧ a.hi = 0 then seS x a.m else x) else x
theorem BtAt.next {b : Nat} {w w' : World} {x : St} {v1 v2 v3 : Value} {R : Cr} (h : BtAt b w x v1 v2 v3 R) (hb : Below w.heap.size w w') : BtAt b w' x v1 v2 v3 R :=
 ⟨Nat.lt_of_lt_of_le h.n hb.size, fun j u hj => cell_next hb h.n (h.c j u hj), fun j hj => frozen_next hb h.n (h.f j hj)⟩

set_option maxRecDepth 20000 in
set_option maxHeartbeats 4000000 in
theorem carry_any (b : Nat) (x : St) (v1 v2 v3 : Value) (R : Cr) (a : Ac) (B : Nat) (w : World) (hx : StOk x) (h : BtAt b w x v1 v2 v3 R) (hv : CrAt B w v1 v2 v3 R) (hr : crB R = true) (hBw : B ≤ w.heap.size) (hkw : -9223372036854775808 ≤ a.k ∧ a.k ≤ 9223372036854775807) :
  Calls Tryz.prog 59 #[.pointer (some ⟨b, 0, none⟩), .agg (cAc a).toArray] w fun e w' => e = .returned (.int .i64 (acE R x a)) ∧ BtAt b w' (acS R x a) v1 v2 v3 R ∧ w.grownBy w' (some b) := by
 obtain ⟨k, lo, hi, m⟩ := a
 have CW := Lib.hid (fun (W : World) => works_any W)
 obtain ⟨E, hE⟩ : ∃ E, acE R x ⟨k, lo, hi, m⟩ = E := ⟨_, rfl⟩
 obtain ⟨S, hS⟩ : ∃ S, acS R x ⟨k, lo, hi, m⟩ = S := ⟨_, rfl⟩
 have HE : Hid (E = if k = 1 then (if m = 0 then ckE R x lo hi else 2) else if k = 2 then (if m = 0 then coE x lo hi else 2) else if k = 3 then (if m = 0 then siE x lo hi else 2) else if k = 4 then (if lo = 0 ∧ hi = 0 then seE x m else 2) else 2) := Lib.hid (by rw [← hE]; rfl)
 have HS : Hid (S = if k = 1 then (if m = 0 then ckS R x lo hi else x) else if k = 2 then (if m = 0 then coS x lo hi else x) else if k = 3 then (if m = 0 then siS x lo hi else x) else if k = 4 then (if lo = 0 ∧ hi = 0 then seS x m else x) else x) := Lib.hid (by rw [← hS]; rfl)
 rw [hE, hS]
 dsimp only [cAc] at *
 clear hE hS
 have HB : Hid (∀ W, Below w.heap.size w W → BtAt b W x v1 v2 v3 R) := Lib.hid (fun W hW => h.next hW)
 have HV : Hid (∀ W, Below w.heap.size w W → CrAt B W v1 v2 v3 R) := Lib.hid (fun W hW => hv.below hW hBw)
 clear h hv
 by_cases hk0 : k = 1
 ·have hk := hk0
  clear hk0
  subst hk
  have HX := enters_w0
  have hC : Hid (∀ W, Below w.heap.size w W → _) := Lib.hid (fun W hW => cook_any b x v1 v2 v3 R ⟨1, lo, hi, m⟩ B W hx (HB.out W hW) (HV.out W hW) hr (Nat.le_trans hBw hW.size))
  dsimp only [cAc] at hC
  by_cases hm0 : m = 0
  ·subst hm0
   obtain rfl : E = ckE R x lo hi := HE.out.trans (by simp [*])
   obtain rfl : S = ckS R x lo hi := HS.out.trans (by simp [*])
   clear HE HS
   generalize ckE R x lo hi = E at *
   generalize ckS R x lo hi = S at *
   go_enter Tryz.func59, Tryz.ntmps59
   go_wp2_with fail
   have hb : Below w.heap.size w (w.alloc (Obj.cells #[.int .i64 1, .int .i64 lo, .int .i64 hi, .int .i64 0] 50)) := ((Below.refl _ _).alloc (Nat.le_refl _) _)
   have t0 : (w.alloc (Obj.cells #[.int .i64 1, .int .i64 lo, .int .i64 hi, .int .i64 0] 50)).cell? ⟨w.heap.size, 0, none⟩ = some (.int .i64 1) := by simp [go_sem]
   have t1 : (w.alloc (Obj.cells #[.int .i64 1, .int .i64 lo, .int .i64 hi, .int .i64 0] 50)).cell? ⟨w.heap.size, 1, none⟩ = some (.int .i64 lo) := by simp [go_sem]
   have t2 : (w.alloc (Obj.cells #[.int .i64 1, .int .i64 lo, .int .i64 hi, .int .i64 0] 50)).cell? ⟨w.heap.size, 2, none⟩ = some (.int .i64 hi) := by simp [go_sem]
   have t3 : (w.alloc (Obj.cells #[.int .i64 1, .int .i64 lo, .int .i64 hi, .int .i64 0] 50)).cell? ⟨w.heap.size, 3, none⟩ = some (.int .i64 0) := by simp [go_sem]
   have nt : w.heap.size < (w.alloc (Obj.cells #[.int .i64 1, .int .i64 lo, .int .i64 hi, .int .i64 0] 50)).heap.size := by simp <;> omega
   have hB := hb
   clear hb
   generalize (w.alloc (Obj.cells #[.int .i64 1, .int .i64 lo, .int .i64 hi, .int .i64 0] 50)) = W1 at *
   have hBW : W1.heap.size ≤ W1.heap.size := Nat.le_refl _
   refine wp_region_held_drew (S := fun w' => w'.cell? ⟨w.heap.size, 0, none⟩ = some (.int .i64 1) ∧ True) (by kernel_rfl) ?_ (fun hHeld => ?_)
   focus (exact ⟨t0, trivial⟩)
   have hL : Below W1.heap.size W1 W1.drew := Below.drew (Below.refl _ _)
   replace t0 : W1.drew.cell? ⟨w.heap.size, 0, none⟩ = some (.int .i64 1) := t0
   replace t1 : W1.drew.cell? ⟨w.heap.size, 1, none⟩ = some (.int .i64 lo) := t1
   replace t2 : W1.drew.cell? ⟨w.heap.size, 2, none⟩ = some (.int .i64 hi) := t2
   replace t3 : W1.drew.cell? ⟨w.heap.size, 3, none⟩ = some (.int .i64 0) := t3
   replace nt : w.heap.size < W1.drew.heap.size := nt
   generalize hWd : W1.drew = wd2 at hHeld hL t0 t1 t2 t3 nt  ⊢
   clear hWd
   refine tq 1 10 ?_ ?_ ?_; rotate_left; (focus intro w h; (try dsimp only at h); go_simp; try with_reducible rfl); try simp only [sA, sB, sC]
   refine tq 2 11 ?_ ?_ ?_; rotate_left; (focus intro w h; (try dsimp only at h); go_simp; try with_reducible rfl); try simp only [sA, sB, sC]
   refine rd1 0 (fun K hK => ?_)
   go_simp
   refine (CW.out _).mono ?_
   rintro e Z2x1 ⟨rfl, hm, hb⟩
   replace t0 := cell_next hb nt t0
   replace t1 := cell_next hb nt t1
   replace t2 := cell_next hb nt t2
   replace t3 := cell_next hb nt t3
   replace nt := Nat.lt_of_lt_of_le nt hb.size
   replace hL := hL.trans (hb.mono (Nat.le_trans hBW hL.size))
   refine hK.out _ _ ⟨t0, trivial⟩ (fun hHeld => ?_)
   clear hK K hb
   try simp only [Act.put, sA, sB, sC]
   refine rd1 3 (fun K hK => ?_)
   obtain ⟨u, hrun, hu1, hu2, hu3, hu4⟩ := look_act hm _ hkw
   obtain rfl := hu1 rfl
   clear hu1 hu2 hu3 hu4
   have ekn : (decide ((1 : Int) ≤ 1) && decide ((1 : Int) ≤ 4)) = true := by decide
   rw [ekn] at hrun
   clear ekn
   go_simp
   refine hK.out _ _ ⟨t0, trivial⟩ (fun hHeld => ?_)
   clear hK K hrun hm
   try simp only [Act.put, sA, sB, sC]
   refine tq 4 8 ?_ ?_ ?_; rotate_left; (focus intro w h; (try dsimp only at h); go_simp; try with_reducible rfl); try simp only [sA, sB, sC]
   refine tq 5 13 ?_ ?_ ?_; rotate_left; (focus intro w h; (try dsimp only at h); go_simp; try with_reducible rfl); try simp only [sA, sB, sC]
   refine tq 6 14 ?_ ?_ ?_; rotate_left; (focus intro w h; (try dsimp only at h); go_simp; try with_reducible rfl); try simp only [sA, sB, sC]
   refine tq 7 5 ?_ ?_ ?_; rotate_left; (focus intro w h; (try dsimp only at h); go_simp; try with_reducible rfl); try simp only [sA, sB, sC]
   refine tq 8 6 ?_ ?_ ?_; rotate_left; (focus intro w h; (try dsimp only at h); go_simp; try with_reducible rfl); try simp only [sA, sB, sC]
   refine wpAnyH_done (by kernel_rfl) ?_ _
   replace hB := hB.trans (hL.mono hB.size)
   clear hHeld hL hBW
   go_wp2_with fail
   refine (hC.out _ hB).mono ?_
   rintro e Wz ⟨rfl, hbt, hgr⟩
   go_wp2_with fail
   go_ret
   exact ⟨rfl, hbt, grown_trans (only_of_below' hB) hgr⟩
  ·have hm1 : (m == 0) = false := by simpa using hm0
   have hm2 : (m != 0) = true := by simpa using hm0
   clear hC HX
   go_enter Tryz.func59, Tryz.ntmps59
   go_wp2_with fail
   have hb : Below w.heap.size w (w.alloc (Obj.cells #[.int .i64 1, .int .i64 lo, .int .i64 hi, .int .i64 m] 50)) := ((Below.refl _ _).alloc (Nat.le_refl _) _)
   have t0 : (w.alloc (Obj.cells #[.int .i64 1, .int .i64 lo, .int .i64 hi, .int .i64 m] 50)).cell? ⟨w.heap.size, 0, none⟩ = some (.int .i64 1) := by simp [go_sem]
   have t1 : (w.alloc (Obj.cells #[.int .i64 1, .int .i64 lo, .int .i64 hi, .int .i64 m] 50)).cell? ⟨w.heap.size, 1, none⟩ = some (.int .i64 lo) := by simp [go_sem]
   have t2 : (w.alloc (Obj.cells #[.int .i64 1, .int .i64 lo, .int .i64 hi, .int .i64 m] 50)).cell? ⟨w.heap.size, 2, none⟩ = some (.int .i64 hi) := by simp [go_sem]
   have t3 : (w.alloc (Obj.cells #[.int .i64 1, .int .i64 lo, .int .i64 hi, .int .i64 m] 50)).cell? ⟨w.heap.size, 3, none⟩ = some (.int .i64 m) := by simp [go_sem]
   have nt : w.heap.size < (w.alloc (Obj.cells #[.int .i64 1, .int .i64 lo, .int .i64 hi, .int .i64 m] 50)).heap.size := by simp <;> omega
   have hB := hb
   clear hb
   generalize (w.alloc (Obj.cells #[.int .i64 1, .int .i64 lo, .int .i64 hi, .int .i64 m] 50)) = W1 at *
   have hBW : W1.heap.size ≤ W1.heap.size := Nat.le_refl _
   refine wp_region_held_drew (S := fun w' => w'.cell? ⟨w.heap.size, 0, none⟩ = some (.int .i64 1) ∧ True) (by kernel_rfl) ?_ (fun hHeld => ?_)
   focus (exact ⟨t0, trivial⟩)
   have hL : Below W1.heap.size W1 W1.drew := Below.drew (Below.refl _ _)
   replace t0 : W1.drew.cell? ⟨w.heap.size, 0, none⟩ = some (.int .i64 1) := t0
   replace t1 : W1.drew.cell? ⟨w.heap.size, 1, none⟩ = some (.int .i64 lo) := t1
   replace t2 : W1.drew.cell? ⟨w.heap.size, 2, none⟩ = some (.int .i64 hi) := t2
   replace t3 : W1.drew.cell? ⟨w.heap.size, 3, none⟩ = some (.int .i64 m) := t3
   replace nt : w.heap.size < W1.drew.heap.size := nt
   generalize hWd : W1.drew = wd2 at hHeld hL t0 t1 t2 t3 nt  ⊢
   clear hWd
   refine tq 1 10 ?_ ?_ ?_; rotate_left; (focus intro w h; (try dsimp only at h); go_simp; try with_reducible rfl); try simp only [sA, sB, sC]
   refine tq 2 11 ?_ ?_ ?_; rotate_left; (focus intro w h; (try dsimp only at h); go_simp; try with_reducible rfl); try simp only [sA, sB, sC]
   refine rd1 0 (fun K hK => ?_)
   go_simp
   refine (CW.out _).mono ?_
   rintro e Z2x1 ⟨rfl, hm, hb⟩
   replace t0 := cell_next hb nt t0
   replace t1 := cell_next hb nt t1
   replace t2 := cell_next hb nt t2
   replace t3 := cell_next hb nt t3
   replace nt := Nat.lt_of_lt_of_le nt hb.size
   replace hL := hL.trans (hb.mono (Nat.le_trans hBW hL.size))
   refine hK.out _ _ ⟨t0, trivial⟩ (fun hHeld => ?_)
   clear hK K hb
   try simp only [Act.put, sA, sB, sC]
   refine rd1 3 (fun K hK => ?_)
   obtain ⟨u, hrun, hu1, hu2, hu3, hu4⟩ := look_act hm _ hkw
   obtain rfl := hu1 rfl
   clear hu1 hu2 hu3 hu4
   have ekn : (decide ((1 : Int) ≤ 1) && decide ((1 : Int) ≤ 4)) = true := by decide
   rw [ekn] at hrun
   clear ekn
   go_simp
   refine hK.out _ _ ⟨t0, trivial⟩ (fun hHeld => ?_)
   clear hK K hrun hm
   try simp only [Act.put, sA, sB, sC]
   refine tq 4 8 ?_ ?_ ?_; rotate_left; (focus intro w h; (try dsimp only at h); go_simp; try with_reducible rfl); try simp only [sA, sB, sC]
   refine tq 5 13 ?_ ?_ ?_; rotate_left; (focus intro w h; (try dsimp only at h); go_simp; try with_reducible rfl); try simp only [sA, sB, sC]
   refine tq 6 14 ?_ ?_ ?_; rotate_left; (focus intro w h; (try dsimp only at h); go_simp; try with_reducible rfl); try simp only [sA, sB, sC]
   refine tq 7 5 ?_ ?_ ?_; rotate_left; (focus intro w h; (try dsimp only at h); go_simp; try with_reducible rfl); try simp only [sA, sB, sC]
   refine tq 8 6 ?_ ?_ ?_; rotate_left; (focus intro w h; (try dsimp only at h); go_simp; try with_reducible rfl); try simp only [sA, sB, sC]
   refine wpAnyH_done (by kernel_rfl) ?_ _
   replace hB := hB.trans (hL.mono hB.size)
   clear hHeld hL hBW
   obtain rfl : E = 2 := HE.out.trans (by simp [*])
   obtain rfl : S = x := HS.out.trans (by simp [*])
   clear HE HS
   go_wp2_with fail
   go_ret
   exact ⟨rfl, HB.out _ hB, only_of_below' hB⟩
 by_cases hk1 : k = 2
 ·have hk := hk1
  clear hk1
  subst hk
  have HX := enters_w1
  have hC : Hid (∀ W, Below w.heap.size w W → _) := Lib.hid (fun W hW => cool_any b x v1 v2 v3 R ⟨2, lo, hi, m⟩ B W hx (HB.out W hW) (HV.out W hW))
  dsimp only [cAc] at hC
  by_cases hm0 : m = 0
  ·subst hm0
   obtain rfl : E = coE x lo hi := HE.out.trans (by simp [*])
   obtain rfl : S = coS x lo hi := HS.out.trans (by simp [*])
   clear HE HS
   generalize coE x lo hi = E at *
   generalize coS x lo hi = S at *
   go_enter Tryz.func59, Tryz.ntmps59
   go_wp2_with fail
   have hb : Below w.heap.size w (w.alloc (Obj.cells #[.int .i64 2, .int .i64 lo, .int .i64 hi, .int .i64 0] 50)) := ((Below.refl _ _).alloc (Nat.le_refl _) _)
   have t0 : (w.alloc (Obj.cells #[.int .i64 2, .int .i64 lo, .int .i64 hi, .int .i64 0] 50)).cell? ⟨w.heap.size, 0, none⟩ = some (.int .i64 2) := by simp [go_sem]
   have t1 : (w.alloc (Obj.cells #[.int .i64 2, .int .i64 lo, .int .i64 hi, .int .i64 0] 50)).cell? ⟨w.heap.size, 1, none⟩ = some (.int .i64 lo) := by simp [go_sem]
   have t2 : (w.alloc (Obj.cells #[.int .i64 2, .int .i64 lo, .int .i64 hi, .int .i64 0] 50)).cell? ⟨w.heap.size, 2, none⟩ = some (.int .i64 hi) := by simp [go_sem]
   have t3 : (w.alloc (Obj.cells #[.int .i64 2, .int .i64 lo, .int .i64 hi, .int .i64 0] 50)).cell? ⟨w.heap.size, 3, none⟩ = some (.int .i64 0) := by simp [go_sem]
   have nt : w.heap.size < (w.alloc (Obj.cells #[.int .i64 2, .int .i64 lo, .int .i64 hi, .int .i64 0] 50)).heap.size := by simp <;> omega
   have hB := hb
   clear hb
   generalize (w.alloc (Obj.cells #[.int .i64 2, .int .i64 lo, .int .i64 hi, .int .i64 0] 50)) = W1 at *
   have hBW : W1.heap.size ≤ W1.heap.size := Nat.le_refl _
   refine wp_region_held_drew (S := fun w' => w'.cell? ⟨w.heap.size, 0, none⟩ = some (.int .i64 2) ∧ True) (by kernel_rfl) ?_ (fun hHeld => ?_)
   focus (exact ⟨t0, trivial⟩)
   have hL : Below W1.heap.size W1 W1.drew := Below.drew (Below.refl _ _)
   replace t0 : W1.drew.cell? ⟨w.heap.size, 0, none⟩ = some (.int .i64 2) := t0
   replace t1 : W1.drew.cell? ⟨w.heap.size, 1, none⟩ = some (.int .i64 lo) := t1
   replace t2 : W1.drew.cell? ⟨w.heap.size, 2, none⟩ = some (.int .i64 hi) := t2
   replace t3 : W1.drew.cell? ⟨w.heap.size, 3, none⟩ = some (.int .i64 0) := t3
   replace nt : w.heap.size < W1.drew.heap.size := nt
   generalize hWd : W1.drew = wd2 at hHeld hL t0 t1 t2 t3 nt  ⊢
   clear hWd
   refine tq 1 10 ?_ ?_ ?_; rotate_left; (focus intro w h; (try dsimp only at h); go_simp; try with_reducible rfl); try simp only [sA, sB, sC]
   refine tq 2 11 ?_ ?_ ?_; rotate_left; (focus intro w h; (try dsimp only at h); go_simp; try with_reducible rfl); try simp only [sA, sB, sC]
   refine rd1 0 (fun K hK => ?_)
   go_simp
   refine (CW.out _).mono ?_
   rintro e Z2x1 ⟨rfl, hm, hb⟩
   replace t0 := cell_next hb nt t0
   replace t1 := cell_next hb nt t1
   replace t2 := cell_next hb nt t2
   replace t3 := cell_next hb nt t3
   replace nt := Nat.lt_of_lt_of_le nt hb.size
   replace hL := hL.trans (hb.mono (Nat.le_trans hBW hL.size))
   refine hK.out _ _ ⟨t0, trivial⟩ (fun hHeld => ?_)
   clear hK K hb
   try simp only [Act.put, sA, sB, sC]
   refine rd1 3 (fun K hK => ?_)
   obtain ⟨u, hrun, hu1, hu2, hu3, hu4⟩ := look_act hm _ hkw
   obtain rfl := hu2 rfl
   clear hu1 hu2 hu3 hu4
   have ekn : (decide ((1 : Int) ≤ 2) && decide ((2 : Int) ≤ 4)) = true := by decide
   rw [ekn] at hrun
   clear ekn
   go_simp
   refine hK.out _ _ ⟨t0, trivial⟩ (fun hHeld => ?_)
   clear hK K hrun hm
   try simp only [Act.put, sA, sB, sC]
   refine tq 4 8 ?_ ?_ ?_; rotate_left; (focus intro w h; (try dsimp only at h); go_simp; try with_reducible rfl); try simp only [sA, sB, sC]
   refine tq 5 13 ?_ ?_ ?_; rotate_left; (focus intro w h; (try dsimp only at h); go_simp; try with_reducible rfl); try simp only [sA, sB, sC]
   refine tq 6 14 ?_ ?_ ?_; rotate_left; (focus intro w h; (try dsimp only at h); go_simp; try with_reducible rfl); try simp only [sA, sB, sC]
   refine tq 7 5 ?_ ?_ ?_; rotate_left; (focus intro w h; (try dsimp only at h); go_simp; try with_reducible rfl); try simp only [sA, sB, sC]
   refine tq 8 6 ?_ ?_ ?_; rotate_left; (focus intro w h; (try dsimp only at h); go_simp; try with_reducible rfl); try simp only [sA, sB, sC]
   refine wpAnyH_done (by kernel_rfl) ?_ _
   replace hB := hB.trans (hL.mono hB.size)
   clear hHeld hL hBW
   go_wp2_with fail
   refine (hC.out _ hB).mono ?_
   rintro e Wz ⟨rfl, hbt, hgr⟩
   go_wp2_with fail
   go_ret
   exact ⟨rfl, hbt, grown_trans (only_of_below' hB) hgr⟩
  ·have hm1 : (m == 0) = false := by simpa using hm0
   have hm2 : (m != 0) = true := by simpa using hm0
   clear hC HX
   go_enter Tryz.func59, Tryz.ntmps59
   go_wp2_with fail
   have hb : Below w.heap.size w (w.alloc (Obj.cells #[.int .i64 2, .int .i64 lo, .int .i64 hi, .int .i64 m] 50)) := ((Below.refl _ _).alloc (Nat.le_refl _) _)
   have t0 : (w.alloc (Obj.cells #[.int .i64 2, .int .i64 lo, .int .i64 hi, .int .i64 m] 50)).cell? ⟨w.heap.size, 0, none⟩ = some (.int .i64 2) := by simp [go_sem]
   have t1 : (w.alloc (Obj.cells #[.int .i64 2, .int .i64 lo, .int .i64 hi, .int .i64 m] 50)).cell? ⟨w.heap.size, 1, none⟩ = some (.int .i64 lo) := by simp [go_sem]
   have t2 : (w.alloc (Obj.cells #[.int .i64 2, .int .i64 lo, .int .i64 hi, .int .i64 m] 50)).cell? ⟨w.heap.size, 2, none⟩ = some (.int .i64 hi) := by simp [go_sem]
   have t3 : (w.alloc (Obj.cells #[.int .i64 2, .int .i64 lo, .int .i64 hi, .int .i64 m] 50)).cell? ⟨w.heap.size, 3, none⟩ = some (.int .i64 m) := by simp [go_sem]
   have nt : w.heap.size < (w.alloc (Obj.cells #[.int .i64 2, .int .i64 lo, .int .i64 hi, .int .i64 m] 50)).heap.size := by simp <;> omega
   have hB := hb
   clear hb
   generalize (w.alloc (Obj.cells #[.int .i64 2, .int .i64 lo, .int .i64 hi, .int .i64 m] 50)) = W1 at *
   have hBW : W1.heap.size ≤ W1.heap.size := Nat.le_refl _
   refine wp_region_held_drew (S := fun w' => w'.cell? ⟨w.heap.size, 0, none⟩ = some (.int .i64 2) ∧ True) (by kernel_rfl) ?_ (fun hHeld => ?_)
   focus (exact ⟨t0, trivial⟩)
   have hL : Below W1.heap.size W1 W1.drew := Below.drew (Below.refl _ _)
   replace t0 : W1.drew.cell? ⟨w.heap.size, 0, none⟩ = some (.int .i64 2) := t0
   replace t1 : W1.drew.cell? ⟨w.heap.size, 1, none⟩ = some (.int .i64 lo) := t1
   replace t2 : W1.drew.cell? ⟨w.heap.size, 2, none⟩ = some (.int .i64 hi) := t2
   replace t3 : W1.drew.cell? ⟨w.heap.size, 3, none⟩ = some (.int .i64 m) := t3
   replace nt : w.heap.size < W1.drew.heap.size := nt
   generalize hWd : W1.drew = wd2 at hHeld hL t0 t1 t2 t3 nt  ⊢
   clear hWd
   refine tq 1 10 ?_ ?_ ?_; rotate_left; (focus intro w h; (try dsimp only at h); go_simp; try with_reducible rfl); try simp only [sA, sB, sC]
   refine tq 2 11 ?_ ?_ ?_; rotate_left; (focus intro w h; (try dsimp only at h); go_simp; try with_reducible rfl); try simp only [sA, sB, sC]
   refine rd1 0 (fun K hK => ?_)
   go_simp
   refine (CW.out _).mono ?_
   rintro e Z2x1 ⟨rfl, hm, hb⟩
   replace t0 := cell_next hb nt t0
   replace t1 := cell_next hb nt t1
   replace t2 := cell_next hb nt t2
   replace t3 := cell_next hb nt t3
   replace nt := Nat.lt_of_lt_of_le nt hb.size
   replace hL := hL.trans (hb.mono (Nat.le_trans hBW hL.size))
   refine hK.out _ _ ⟨t0, trivial⟩ (fun hHeld => ?_)
   clear hK K hb
   try simp only [Act.put, sA, sB, sC]
   refine rd1 3 (fun K hK => ?_)
   obtain ⟨u, hrun, hu1, hu2, hu3, hu4⟩ := look_act hm _ hkw
   obtain rfl := hu2 rfl
   clear hu1 hu2 hu3 hu4
   have ekn : (decide ((1 : Int) ≤ 2) && decide ((2 : Int) ≤ 4)) = true := by decide
   rw [ekn] at hrun
   clear ekn
   go_simp
   refine hK.out _ _ ⟨t0, trivial⟩ (fun hHeld => ?_)
   clear hK K hrun hm
   try simp only [Act.put, sA, sB, sC]
   refine tq 4 8 ?_ ?_ ?_; rotate_left; (focus intro w h; (try dsimp only at h); go_simp; try with_reducible rfl); try simp only [sA, sB, sC]
   refine tq 5 13 ?_ ?_ ?_; rotate_left; (focus intro w h; (try dsimp only at h); go_simp; try with_reducible rfl); try simp only [sA, sB, sC]
   refine tq 6 14 ?_ ?_ ?_; rotate_left; (focus intro w h; (try dsimp only at h); go_simp; try with_reducible rfl); try simp only [sA, sB, sC]
   refine tq 7 5 ?_ ?_ ?_; rotate_left; (focus intro w h; (try dsimp only at h); go_simp; try with_reducible rfl); try simp only [sA, sB, sC]
   refine tq 8 6 ?_ ?_ ?_; rotate_left; (focus intro w h; (try dsimp only at h); go_simp; try with_reducible rfl); try simp only [sA, sB, sC]
   refine wpAnyH_done (by kernel_rfl) ?_ _
   replace hB := hB.trans (hL.mono hB.size)
   clear hHeld hL hBW
   obtain rfl : E = 2 := HE.out.trans (by simp [*])
   obtain rfl : S = x := HS.out.trans (by simp [*])
   clear HE HS
   go_wp2_with fail
   go_ret
   exact ⟨rfl, HB.out _ hB, only_of_below' hB⟩
 by_cases hk2 : k = 3
 ·have hk := hk2
  clear hk2
  subst hk
  have HX := enters_w2
  have hC : Hid (∀ W, Below w.heap.size w W → _) := Lib.hid (fun W hW => stir_any b x v1 v2 v3 R ⟨3, lo, hi, m⟩ B W hx (HB.out W hW) (HV.out W hW))
  dsimp only [cAc] at hC
  by_cases hm0 : m = 0
  ·subst hm0
   obtain rfl : E = siE x lo hi := HE.out.trans (by simp [*])
   obtain rfl : S = siS x lo hi := HS.out.trans (by simp [*])
   clear HE HS
   generalize siE x lo hi = E at *
   generalize siS x lo hi = S at *
   go_enter Tryz.func59, Tryz.ntmps59
   go_wp2_with fail
   have hb : Below w.heap.size w (w.alloc (Obj.cells #[.int .i64 3, .int .i64 lo, .int .i64 hi, .int .i64 0] 50)) := ((Below.refl _ _).alloc (Nat.le_refl _) _)
   have t0 : (w.alloc (Obj.cells #[.int .i64 3, .int .i64 lo, .int .i64 hi, .int .i64 0] 50)).cell? ⟨w.heap.size, 0, none⟩ = some (.int .i64 3) := by simp [go_sem]
   have t1 : (w.alloc (Obj.cells #[.int .i64 3, .int .i64 lo, .int .i64 hi, .int .i64 0] 50)).cell? ⟨w.heap.size, 1, none⟩ = some (.int .i64 lo) := by simp [go_sem]
   have t2 : (w.alloc (Obj.cells #[.int .i64 3, .int .i64 lo, .int .i64 hi, .int .i64 0] 50)).cell? ⟨w.heap.size, 2, none⟩ = some (.int .i64 hi) := by simp [go_sem]
   have t3 : (w.alloc (Obj.cells #[.int .i64 3, .int .i64 lo, .int .i64 hi, .int .i64 0] 50)).cell? ⟨w.heap.size, 3, none⟩ = some (.int .i64 0) := by simp [go_sem]
   have nt : w.heap.size < (w.alloc (Obj.cells #[.int .i64 3, .int .i64 lo, .int .i64 hi, .int .i64 0] 50)).heap.size := by simp <;> omega
   have hB := hb
   clear hb
   generalize (w.alloc (Obj.cells #[.int .i64 3, .int .i64 lo, .int .i64 hi, .int .i64 0] 50)) = W1 at *
   have hBW : W1.heap.size ≤ W1.heap.size := Nat.le_refl _
   refine wp_region_held_drew (S := fun w' => w'.cell? ⟨w.heap.size, 0, none⟩ = some (.int .i64 3) ∧ True) (by kernel_rfl) ?_ (fun hHeld => ?_)
   focus (exact ⟨t0, trivial⟩)
   have hL : Below W1.heap.size W1 W1.drew := Below.drew (Below.refl _ _)
   replace t0 : W1.drew.cell? ⟨w.heap.size, 0, none⟩ = some (.int .i64 3) := t0
   replace t1 : W1.drew.cell? ⟨w.heap.size, 1, none⟩ = some (.int .i64 lo) := t1
   replace t2 : W1.drew.cell? ⟨w.heap.size, 2, none⟩ = some (.int .i64 hi) := t2
   replace t3 : W1.drew.cell? ⟨w.heap.size, 3, none⟩ = some (.int .i64 0) := t3
   replace nt : w.heap.size < W1.drew.heap.size := nt
   generalize hWd : W1.drew = wd2 at hHeld hL t0 t1 t2 t3 nt  ⊢
   clear hWd
   refine tq 1 10 ?_ ?_ ?_; rotate_left; (focus intro w h; (try dsimp only at h); go_simp; try with_reducible rfl); try simp only [sA, sB, sC]
   refine tq 2 11 ?_ ?_ ?_; rotate_left; (focus intro w h; (try dsimp only at h); go_simp; try with_reducible rfl); try simp only [sA, sB, sC]
   refine rd1 0 (fun K hK => ?_)
   go_simp
   refine (CW.out _).mono ?_
   rintro e Z2x1 ⟨rfl, hm, hb⟩
   replace t0 := cell_next hb nt t0
   replace t1 := cell_next hb nt t1
   replace t2 := cell_next hb nt t2
   replace t3 := cell_next hb nt t3
   replace nt := Nat.lt_of_lt_of_le nt hb.size
   replace hL := hL.trans (hb.mono (Nat.le_trans hBW hL.size))
   refine hK.out _ _ ⟨t0, trivial⟩ (fun hHeld => ?_)
   clear hK K hb
   try simp only [Act.put, sA, sB, sC]
   refine rd1 3 (fun K hK => ?_)
   obtain ⟨u, hrun, hu1, hu2, hu3, hu4⟩ := look_act hm _ hkw
   obtain rfl := hu3 rfl
   clear hu1 hu2 hu3 hu4
   have ekn : (decide ((1 : Int) ≤ 3) && decide ((3 : Int) ≤ 4)) = true := by decide
   rw [ekn] at hrun
   clear ekn
   go_simp
   refine hK.out _ _ ⟨t0, trivial⟩ (fun hHeld => ?_)
   clear hK K hrun hm
   try simp only [Act.put, sA, sB, sC]
   refine tq 4 8 ?_ ?_ ?_; rotate_left; (focus intro w h; (try dsimp only at h); go_simp; try with_reducible rfl); try simp only [sA, sB, sC]
   refine tq 5 13 ?_ ?_ ?_; rotate_left; (focus intro w h; (try dsimp only at h); go_simp; try with_reducible rfl); try simp only [sA, sB, sC]
   refine tq 6 14 ?_ ?_ ?_; rotate_left; (focus intro w h; (try dsimp only at h); go_simp; try with_reducible rfl); try simp only [sA, sB, sC]
   refine tq 7 5 ?_ ?_ ?_; rotate_left; (focus intro w h; (try dsimp only at h); go_simp; try with_reducible rfl); try simp only [sA, sB, sC]
   refine tq 8 6 ?_ ?_ ?_; rotate_left; (focus intro w h; (try dsimp only at h); go_simp; try with_reducible rfl); try simp only [sA, sB, sC]
   refine wpAnyH_done (by kernel_rfl) ?_ _
   replace hB := hB.trans (hL.mono hB.size)
   clear hHeld hL hBW
   go_wp2_with fail
   refine (hC.out _ hB).mono ?_
   rintro e Wz ⟨rfl, hbt, hgr⟩
   go_wp2_with fail
   go_ret
   exact ⟨rfl, hbt, grown_trans (only_of_below' hB) hgr⟩
  ·have hm1 : (m == 0) = false := by simpa using hm0
   have hm2 : (m != 0) = true := by simpa using hm0
   clear hC HX
   go_enter Tryz.func59, Tryz.ntmps59
   go_wp2_with fail
   have hb : Below w.heap.size w (w.alloc (Obj.cells #[.int .i64 3, .int .i64 lo, .int .i64 hi, .int .i64 m] 50)) := ((Below.refl _ _).alloc (Nat.le_refl _) _)
   have t0 : (w.alloc (Obj.cells #[.int .i64 3, .int .i64 lo, .int .i64 hi, .int .i64 m] 50)).cell? ⟨w.heap.size, 0, none⟩ = some (.int .i64 3) := by simp [go_sem]
   have t1 : (w.alloc (Obj.cells #[.int .i64 3, .int .i64 lo, .int .i64 hi, .int .i64 m] 50)).cell? ⟨w.heap.size, 1, none⟩ = some (.int .i64 lo) := by simp [go_sem]
   have t2 : (w.alloc (Obj.cells #[.int .i64 3, .int .i64 lo, .int .i64 hi, .int .i64 m] 50)).cell? ⟨w.heap.size, 2, none⟩ = some (.int .i64 hi) := by simp [go_sem]
   have t3 : (w.alloc (Obj.cells #[.int .i64 3, .int .i64 lo, .int .i64 hi, .int .i64 m] 50)).cell? ⟨w.heap.size, 3, none⟩ = some (.int .i64 m) := by simp [go_sem]
   have nt : w.heap.size < (w.alloc (Obj.cells #[.int .i64 3, .int .i64 lo, .int .i64 hi, .int .i64 m] 50)).heap.size := by simp <;> omega
   have hB := hb
   clear hb
   generalize (w.alloc (Obj.cells #[.int .i64 3, .int .i64 lo, .int .i64 hi, .int .i64 m] 50)) = W1 at *
   have hBW : W1.heap.size ≤ W1.heap.size := Nat.le_refl _
   refine wp_region_held_drew (S := fun w' => w'.cell? ⟨w.heap.size, 0, none⟩ = some (.int .i64 3) ∧ True) (by kernel_rfl) ?_ (fun hHeld => ?_)
   focus (exact ⟨t0, trivial⟩)
   have hL : Below W1.heap.size W1 W1.drew := Below.drew (Below.refl _ _)
   replace t0 : W1.drew.cell? ⟨w.heap.size, 0, none⟩ = some (.int .i64 3) := t0
   replace t1 : W1.drew.cell? ⟨w.heap.size, 1, none⟩ = some (.int .i64 lo) := t1
   replace t2 : W1.drew.cell? ⟨w.heap.size, 2, none⟩ = some (.int .i64 hi) := t2
   replace t3 : W1.drew.cell? ⟨w.heap.size, 3, none⟩ = some (.int .i64 m) := t3
   replace nt : w.heap.size < W1.drew.heap.size := nt
   generalize hWd : W1.drew = wd2 at hHeld hL t0 t1 t2 t3 nt  ⊢
   clear hWd
   refine tq 1 10 ?_ ?_ ?_; rotate_left; (focus intro w h; (try dsimp only at h); go_simp; try with_reducible rfl); try simp only [sA, sB, sC]
   refine tq 2 11 ?_ ?_ ?_; rotate_left; (focus intro w h; (try dsimp only at h); go_simp; try with_reducible rfl); try simp only [sA, sB, sC]
   refine rd1 0 (fun K hK => ?_)
   go_simp
   refine (CW.out _).mono ?_
   rintro e Z2x1 ⟨rfl, hm, hb⟩
   replace t0 := cell_next hb nt t0
   replace t1 := cell_next hb nt t1
   replace t2 := cell_next hb nt t2
   replace t3 := cell_next hb nt t3
   replace nt := Nat.lt_of_lt_of_le nt hb.size
   replace hL := hL.trans (hb.mono (Nat.le_trans hBW hL.size))
   refine hK.out _ _ ⟨t0, trivial⟩ (fun hHeld => ?_)
   clear hK K hb
   try simp only [Act.put, sA, sB, sC]
   refine rd1 3 (fun K hK => ?_)
   obtain ⟨u, hrun, hu1, hu2, hu3, hu4⟩ := look_act hm _ hkw
   obtain rfl := hu3 rfl
   clear hu1 hu2 hu3 hu4
   have ekn : (decide ((1 : Int) ≤ 3) && decide ((3 : Int) ≤ 4)) = true := by decide
   rw [ekn] at hrun
   clear ekn
   go_simp
   refine hK.out _ _ ⟨t0, trivial⟩ (fun hHeld => ?_)
   clear hK K hrun hm
   try simp only [Act.put, sA, sB, sC]
   refine tq 4 8 ?_ ?_ ?_; rotate_left; (focus intro w h; (try dsimp only at h); go_simp; try with_reducible rfl); try simp only [sA, sB, sC]
   refine tq 5 13 ?_ ?_ ?_; rotate_left; (focus intro w h; (try dsimp only at h); go_simp; try with_reducible rfl); try simp only [sA, sB, sC]
   refine tq 6 14 ?_ ?_ ?_; rotate_left; (focus intro w h; (try dsimp only at h); go_simp; try with_reducible rfl); try simp only [sA, sB, sC]
   refine tq 7 5 ?_ ?_ ?_; rotate_left; (focus intro w h; (try dsimp only at h); go_simp; try with_reducible rfl); try simp only [sA, sB, sC]
   refine tq 8 6 ?_ ?_ ?_; rotate_left; (focus intro w h; (try dsimp only at h); go_simp; try with_reducible rfl); try simp only [sA, sB, sC]
   refine wpAnyH_done (by kernel_rfl) ?_ _
   replace hB := hB.trans (hL.mono hB.size)
   clear hHeld hL hBW
   obtain rfl : E = 2 := HE.out.trans (by simp [*])
   obtain rfl : S = x := HS.out.trans (by simp [*])
   clear HE HS
   go_wp2_with fail
   go_ret
   exact ⟨rfl, HB.out _ hB, only_of_below' hB⟩
 by_cases hk3 : k = 4
 ·have hk := hk3
  clear hk3
  subst hk
  have HX := enters_w3
  have hC : Hid (∀ W, Below w.heap.size w W → _) := Lib.hid (fun W hW => seed_any b x v1 v2 v3 R ⟨4, lo, hi, m⟩ B W hx (HB.out W hW) (HV.out W hW))
  dsimp only [cAc] at hC
  by_cases hm0 : lo = 0 ∧ hi = 0
  ·obtain ⟨rfl, rfl⟩ := hm0
   obtain rfl : E = seE x m := HE.out.trans (by simp [*])
   obtain rfl : S = seS x m := HS.out.trans (by simp [*])
   clear HE HS
   generalize seE x m = E at *
   generalize seS x m = S at *
   go_enter Tryz.func59, Tryz.ntmps59
   go_wp2_with fail
   have hb : Below w.heap.size w (w.alloc (Obj.cells #[.int .i64 4, .int .i64 0, .int .i64 0, .int .i64 m] 50)) := ((Below.refl _ _).alloc (Nat.le_refl _) _)
   have t0 : (w.alloc (Obj.cells #[.int .i64 4, .int .i64 0, .int .i64 0, .int .i64 m] 50)).cell? ⟨w.heap.size, 0, none⟩ = some (.int .i64 4) := by simp [go_sem]
   have t1 : (w.alloc (Obj.cells #[.int .i64 4, .int .i64 0, .int .i64 0, .int .i64 m] 50)).cell? ⟨w.heap.size, 1, none⟩ = some (.int .i64 0) := by simp [go_sem]
   have t2 : (w.alloc (Obj.cells #[.int .i64 4, .int .i64 0, .int .i64 0, .int .i64 m] 50)).cell? ⟨w.heap.size, 2, none⟩ = some (.int .i64 0) := by simp [go_sem]
   have t3 : (w.alloc (Obj.cells #[.int .i64 4, .int .i64 0, .int .i64 0, .int .i64 m] 50)).cell? ⟨w.heap.size, 3, none⟩ = some (.int .i64 m) := by simp [go_sem]
   have nt : w.heap.size < (w.alloc (Obj.cells #[.int .i64 4, .int .i64 0, .int .i64 0, .int .i64 m] 50)).heap.size := by simp <;> omega
   have hB := hb
   clear hb
   generalize (w.alloc (Obj.cells #[.int .i64 4, .int .i64 0, .int .i64 0, .int .i64 m] 50)) = W1 at *
   have hBW : W1.heap.size ≤ W1.heap.size := Nat.le_refl _
   refine wp_region_held_drew (S := fun w' => w'.cell? ⟨w.heap.size, 0, none⟩ = some (.int .i64 4) ∧ True) (by kernel_rfl) ?_ (fun hHeld => ?_)
   focus (exact ⟨t0, trivial⟩)
   have hL : Below W1.heap.size W1 W1.drew := Below.drew (Below.refl _ _)
   replace t0 : W1.drew.cell? ⟨w.heap.size, 0, none⟩ = some (.int .i64 4) := t0
   replace t1 : W1.drew.cell? ⟨w.heap.size, 1, none⟩ = some (.int .i64 0) := t1
   replace t2 : W1.drew.cell? ⟨w.heap.size, 2, none⟩ = some (.int .i64 0) := t2
   replace t3 : W1.drew.cell? ⟨w.heap.size, 3, none⟩ = some (.int .i64 m) := t3
   replace nt : w.heap.size < W1.drew.heap.size := nt
   generalize hWd : W1.drew = wd2 at hHeld hL t0 t1 t2 t3 nt  ⊢
   clear hWd
   refine tq 1 10 ?_ ?_ ?_; rotate_left; (focus intro w h; (try dsimp only at h); go_simp; try with_reducible rfl); try simp only [sA, sB, sC]
   refine tq 2 11 ?_ ?_ ?_; rotate_left; (focus intro w h; (try dsimp only at h); go_simp; try with_reducible rfl); try simp only [sA, sB, sC]
   refine rd1 0 (fun K hK => ?_)
   go_simp
   refine (CW.out _).mono ?_
   rintro e Z2x1 ⟨rfl, hm, hb⟩
   replace t0 := cell_next hb nt t0
   replace t1 := cell_next hb nt t1
   replace t2 := cell_next hb nt t2
   replace t3 := cell_next hb nt t3
   replace nt := Nat.lt_of_lt_of_le nt hb.size
   replace hL := hL.trans (hb.mono (Nat.le_trans hBW hL.size))
   refine hK.out _ _ ⟨t0, trivial⟩ (fun hHeld => ?_)
   clear hK K hb
   try simp only [Act.put, sA, sB, sC]
   refine rd1 3 (fun K hK => ?_)
   obtain ⟨u, hrun, hu1, hu2, hu3, hu4⟩ := look_act hm _ hkw
   obtain rfl := hu4 rfl
   clear hu1 hu2 hu3 hu4
   have ekn : (decide ((1 : Int) ≤ 4) && decide ((4 : Int) ≤ 4)) = true := by decide
   rw [ekn] at hrun
   clear ekn
   go_simp
   refine hK.out _ _ ⟨t0, trivial⟩ (fun hHeld => ?_)
   clear hK K hrun hm
   try simp only [Act.put, sA, sB, sC]
   refine tq 4 8 ?_ ?_ ?_; rotate_left; (focus intro w h; (try dsimp only at h); go_simp; try with_reducible rfl); try simp only [sA, sB, sC]
   refine tq 5 13 ?_ ?_ ?_; rotate_left; (focus intro w h; (try dsimp only at h); go_simp; try with_reducible rfl); try simp only [sA, sB, sC]
   refine tq 6 14 ?_ ?_ ?_; rotate_left; (focus intro w h; (try dsimp only at h); go_simp; try with_reducible rfl); try simp only [sA, sB, sC]
   refine tq 7 5 ?_ ?_ ?_; rotate_left; (focus intro w h; (try dsimp only at h); go_simp; try with_reducible rfl); try simp only [sA, sB, sC]
   refine tq 8 6 ?_ ?_ ?_; rotate_left; (focus intro w h; (try dsimp only at h); go_simp; try with_reducible rfl); try simp only [sA, sB, sC]
   refine wpAnyH_done (by kernel_rfl) ?_ _
   replace hB := hB.trans (hL.mono hB.size)
   clear hHeld hL hBW
   go_wp2_with fail
   refine (hC.out _ hB).mono ?_
   rintro e Wz ⟨rfl, hbt, hgr⟩
   go_wp2_with fail
   go_ret
   exact ⟨rfl, hbt, grown_trans (only_of_below' hB) hgr⟩
  ·by_cases hl0 : lo = 0
   ·subst hl0
    have hm1 : (hi == 0) = false := by simpa using hm0
    clear hC HX
    go_enter Tryz.func59, Tryz.ntmps59
    go_wp2_with fail
    have hb : Below w.heap.size w (w.alloc (Obj.cells #[.int .i64 4, .int .i64 0, .int .i64 hi, .int .i64 m] 50)) := ((Below.refl _ _).alloc (Nat.le_refl _) _)
    have t0 : (w.alloc (Obj.cells #[.int .i64 4, .int .i64 0, .int .i64 hi, .int .i64 m] 50)).cell? ⟨w.heap.size, 0, none⟩ = some (.int .i64 4) := by simp [go_sem]
    have t1 : (w.alloc (Obj.cells #[.int .i64 4, .int .i64 0, .int .i64 hi, .int .i64 m] 50)).cell? ⟨w.heap.size, 1, none⟩ = some (.int .i64 0) := by simp [go_sem]
    have t2 : (w.alloc (Obj.cells #[.int .i64 4, .int .i64 0, .int .i64 hi, .int .i64 m] 50)).cell? ⟨w.heap.size, 2, none⟩ = some (.int .i64 hi) := by simp [go_sem]
    have t3 : (w.alloc (Obj.cells #[.int .i64 4, .int .i64 0, .int .i64 hi, .int .i64 m] 50)).cell? ⟨w.heap.size, 3, none⟩ = some (.int .i64 m) := by simp [go_sem]
    have nt : w.heap.size < (w.alloc (Obj.cells #[.int .i64 4, .int .i64 0, .int .i64 hi, .int .i64 m] 50)).heap.size := by simp <;> omega
    have hB := hb
    clear hb
    generalize (w.alloc (Obj.cells #[.int .i64 4, .int .i64 0, .int .i64 hi, .int .i64 m] 50)) = W1 at *
    have hBW : W1.heap.size ≤ W1.heap.size := Nat.le_refl _
    refine wp_region_held_drew (S := fun w' => w'.cell? ⟨w.heap.size, 0, none⟩ = some (.int .i64 4) ∧ True) (by kernel_rfl) ?_ (fun hHeld => ?_)
    focus (exact ⟨t0, trivial⟩)
    have hL : Below W1.heap.size W1 W1.drew := Below.drew (Below.refl _ _)
    replace t0 : W1.drew.cell? ⟨w.heap.size, 0, none⟩ = some (.int .i64 4) := t0
    replace t1 : W1.drew.cell? ⟨w.heap.size, 1, none⟩ = some (.int .i64 0) := t1
    replace t2 : W1.drew.cell? ⟨w.heap.size, 2, none⟩ = some (.int .i64 hi) := t2
    replace t3 : W1.drew.cell? ⟨w.heap.size, 3, none⟩ = some (.int .i64 m) := t3
    replace nt : w.heap.size < W1.drew.heap.size := nt
    generalize hWd : W1.drew = wd2 at hHeld hL t0 t1 t2 t3 nt  ⊢
    clear hWd
    refine tq 1 10 ?_ ?_ ?_; rotate_left; (focus intro w h; (try dsimp only at h); go_simp; try with_reducible rfl); try simp only [sA, sB, sC]
    refine tq 2 11 ?_ ?_ ?_; rotate_left; (focus intro w h; (try dsimp only at h); go_simp; try with_reducible rfl); try simp only [sA, sB, sC]
    refine rd1 0 (fun K hK => ?_)
    go_simp
    refine (CW.out _).mono ?_
    rintro e Z2x1 ⟨rfl, hm, hb⟩
    replace t0 := cell_next hb nt t0
    replace t1 := cell_next hb nt t1
    replace t2 := cell_next hb nt t2
    replace t3 := cell_next hb nt t3
    replace nt := Nat.lt_of_lt_of_le nt hb.size
    replace hL := hL.trans (hb.mono (Nat.le_trans hBW hL.size))
    refine hK.out _ _ ⟨t0, trivial⟩ (fun hHeld => ?_)
    clear hK K hb
    try simp only [Act.put, sA, sB, sC]
    refine rd1 3 (fun K hK => ?_)
    obtain ⟨u, hrun, hu1, hu2, hu3, hu4⟩ := look_act hm _ hkw
    obtain rfl := hu4 rfl
    clear hu1 hu2 hu3 hu4
    have ekn : (decide ((1 : Int) ≤ 4) && decide ((4 : Int) ≤ 4)) = true := by decide
    rw [ekn] at hrun
    clear ekn
    go_simp
    refine hK.out _ _ ⟨t0, trivial⟩ (fun hHeld => ?_)
    clear hK K hrun hm
    try simp only [Act.put, sA, sB, sC]
    refine tq 4 8 ?_ ?_ ?_; rotate_left; (focus intro w h; (try dsimp only at h); go_simp; try with_reducible rfl); try simp only [sA, sB, sC]
    refine tq 5 13 ?_ ?_ ?_; rotate_left; (focus intro w h; (try dsimp only at h); go_simp; try with_reducible rfl); try simp only [sA, sB, sC]
    refine tq 6 14 ?_ ?_ ?_; rotate_left; (focus intro w h; (try dsimp only at h); go_simp; try with_reducible rfl); try simp only [sA, sB, sC]
    refine tq 7 5 ?_ ?_ ?_; rotate_left; (focus intro w h; (try dsimp only at h); go_simp; try with_reducible rfl); try simp only [sA, sB, sC]
    refine tq 8 6 ?_ ?_ ?_; rotate_left; (focus intro w h; (try dsimp only at h); go_simp; try with_reducible rfl); try simp only [sA, sB, sC]
    refine wpAnyH_done (by kernel_rfl) ?_ _
    replace hB := hB.trans (hL.mono hB.size)
    clear hHeld hL hBW
    obtain rfl : E = 2 := HE.out.trans (by simp [*])
    obtain rfl : S = x := HS.out.trans (by simp [*])
    clear HE HS
    go_wp2_with fail
    go_ret
    exact ⟨rfl, HB.out _ hB, only_of_below' hB⟩
   ·have hm1 : (lo == 0) = false := by simpa using hl0
    have hnn : ¬ (lo = 0 ∧ hi = 0) := fun h => hl0 h.1
    clear hC HX
    go_enter Tryz.func59, Tryz.ntmps59
    go_wp2_with fail
    have hb : Below w.heap.size w (w.alloc (Obj.cells #[.int .i64 4, .int .i64 lo, .int .i64 hi, .int .i64 m] 50)) := ((Below.refl _ _).alloc (Nat.le_refl _) _)
    have t0 : (w.alloc (Obj.cells #[.int .i64 4, .int .i64 lo, .int .i64 hi, .int .i64 m] 50)).cell? ⟨w.heap.size, 0, none⟩ = some (.int .i64 4) := by simp [go_sem]
    have t1 : (w.alloc (Obj.cells #[.int .i64 4, .int .i64 lo, .int .i64 hi, .int .i64 m] 50)).cell? ⟨w.heap.size, 1, none⟩ = some (.int .i64 lo) := by simp [go_sem]
    have t2 : (w.alloc (Obj.cells #[.int .i64 4, .int .i64 lo, .int .i64 hi, .int .i64 m] 50)).cell? ⟨w.heap.size, 2, none⟩ = some (.int .i64 hi) := by simp [go_sem]
    have t3 : (w.alloc (Obj.cells #[.int .i64 4, .int .i64 lo, .int .i64 hi, .int .i64 m] 50)).cell? ⟨w.heap.size, 3, none⟩ = some (.int .i64 m) := by simp [go_sem]
    have nt : w.heap.size < (w.alloc (Obj.cells #[.int .i64 4, .int .i64 lo, .int .i64 hi, .int .i64 m] 50)).heap.size := by simp <;> omega
    have hB := hb
    clear hb
    generalize (w.alloc (Obj.cells #[.int .i64 4, .int .i64 lo, .int .i64 hi, .int .i64 m] 50)) = W1 at *
    have hBW : W1.heap.size ≤ W1.heap.size := Nat.le_refl _
    refine wp_region_held_drew (S := fun w' => w'.cell? ⟨w.heap.size, 0, none⟩ = some (.int .i64 4) ∧ True) (by kernel_rfl) ?_ (fun hHeld => ?_)
    focus (exact ⟨t0, trivial⟩)
    have hL : Below W1.heap.size W1 W1.drew := Below.drew (Below.refl _ _)
    replace t0 : W1.drew.cell? ⟨w.heap.size, 0, none⟩ = some (.int .i64 4) := t0
    replace t1 : W1.drew.cell? ⟨w.heap.size, 1, none⟩ = some (.int .i64 lo) := t1
    replace t2 : W1.drew.cell? ⟨w.heap.size, 2, none⟩ = some (.int .i64 hi) := t2
    replace t3 : W1.drew.cell? ⟨w.heap.size, 3, none⟩ = some (.int .i64 m) := t3
    replace nt : w.heap.size < W1.drew.heap.size := nt
    generalize hWd : W1.drew = wd2 at hHeld hL t0 t1 t2 t3 nt  ⊢
    clear hWd
    refine tq 1 10 ?_ ?_ ?_; rotate_left; (focus intro w h; (try dsimp only at h); go_simp; try with_reducible rfl); try simp only [sA, sB, sC]
    refine tq 2 11 ?_ ?_ ?_; rotate_left; (focus intro w h; (try dsimp only at h); go_simp; try with_reducible rfl); try simp only [sA, sB, sC]
    refine rd1 0 (fun K hK => ?_)
    go_simp
    refine (CW.out _).mono ?_
    rintro e Z2x1 ⟨rfl, hm, hb⟩
    replace t0 := cell_next hb nt t0
    replace t1 := cell_next hb nt t1
    replace t2 := cell_next hb nt t2
    replace t3 := cell_next hb nt t3
    replace nt := Nat.lt_of_lt_of_le nt hb.size
    replace hL := hL.trans (hb.mono (Nat.le_trans hBW hL.size))
    refine hK.out _ _ ⟨t0, trivial⟩ (fun hHeld => ?_)
    clear hK K hb
    try simp only [Act.put, sA, sB, sC]
    refine rd1 3 (fun K hK => ?_)
    obtain ⟨u, hrun, hu1, hu2, hu3, hu4⟩ := look_act hm _ hkw
    obtain rfl := hu4 rfl
    clear hu1 hu2 hu3 hu4
    have ekn : (decide ((1 : Int) ≤ 4) && decide ((4 : Int) ≤ 4)) = true := by decide
    rw [ekn] at hrun
    clear ekn
    go_simp
    refine hK.out _ _ ⟨t0, trivial⟩ (fun hHeld => ?_)
    clear hK K hrun hm
    try simp only [Act.put, sA, sB, sC]
    refine tq 4 8 ?_ ?_ ?_; rotate_left; (focus intro w h; (try dsimp only at h); go_simp; try with_reducible rfl); try simp only [sA, sB, sC]
    refine tq 5 13 ?_ ?_ ?_; rotate_left; (focus intro w h; (try dsimp only at h); go_simp; try with_reducible rfl); try simp only [sA, sB, sC]
    refine tq 6 14 ?_ ?_ ?_; rotate_left; (focus intro w h; (try dsimp only at h); go_simp; try with_reducible rfl); try simp only [sA, sB, sC]
    refine tq 7 5 ?_ ?_ ?_; rotate_left; (focus intro w h; (try dsimp only at h); go_simp; try with_reducible rfl); try simp only [sA, sB, sC]
    refine tq 8 6 ?_ ?_ ?_; rotate_left; (focus intro w h; (try dsimp only at h); go_simp; try with_reducible rfl); try simp only [sA, sB, sC]
    refine wpAnyH_done (by kernel_rfl) ?_ _
    replace hB := hB.trans (hL.mono hB.size)
    clear hHeld hL hBW
    obtain rfl : E = 2 := HE.out.trans (by simp [*])
    obtain rfl : S = x := HS.out.trans (by simp [*])
    clear HE HS
    go_wp2_with fail
    go_ret
    exact ⟨rfl, HB.out _ hB, only_of_below' hB⟩
 ·skip
  have ekn : (decide ((1 : Int) ≤ k) && decide (k ≤ 4)) = false := by simp; omega
  have hk4 : (k == 4) = false := by simpa using hk3
  go_enter Tryz.func59, Tryz.ntmps59
  go_wp2_with fail
  have hb : Below w.heap.size w (w.alloc (Obj.cells #[.int .i64 k, .int .i64 lo, .int .i64 hi, .int .i64 m] 50)) := ((Below.refl _ _).alloc (Nat.le_refl _) _)
  have t0 : (w.alloc (Obj.cells #[.int .i64 k, .int .i64 lo, .int .i64 hi, .int .i64 m] 50)).cell? ⟨w.heap.size, 0, none⟩ = some (.int .i64 k) := by simp [go_sem]
  have t1 : (w.alloc (Obj.cells #[.int .i64 k, .int .i64 lo, .int .i64 hi, .int .i64 m] 50)).cell? ⟨w.heap.size, 1, none⟩ = some (.int .i64 lo) := by simp [go_sem]
  have t2 : (w.alloc (Obj.cells #[.int .i64 k, .int .i64 lo, .int .i64 hi, .int .i64 m] 50)).cell? ⟨w.heap.size, 2, none⟩ = some (.int .i64 hi) := by simp [go_sem]
  have t3 : (w.alloc (Obj.cells #[.int .i64 k, .int .i64 lo, .int .i64 hi, .int .i64 m] 50)).cell? ⟨w.heap.size, 3, none⟩ = some (.int .i64 m) := by simp [go_sem]
  have nt : w.heap.size < (w.alloc (Obj.cells #[.int .i64 k, .int .i64 lo, .int .i64 hi, .int .i64 m] 50)).heap.size := by simp <;> omega
  have hB := hb
  clear hb
  generalize (w.alloc (Obj.cells #[.int .i64 k, .int .i64 lo, .int .i64 hi, .int .i64 m] 50)) = W1 at *
  have hBW : W1.heap.size ≤ W1.heap.size := Nat.le_refl _
  refine wp_region_held_drew (S := fun w' => w'.cell? ⟨w.heap.size, 0, none⟩ = some (.int .i64 k) ∧ True) (by kernel_rfl) ?_ (fun hHeld => ?_)
  focus (exact ⟨t0, trivial⟩)
  have hL : Below W1.heap.size W1 W1.drew := Below.drew (Below.refl _ _)
  replace t0 : W1.drew.cell? ⟨w.heap.size, 0, none⟩ = some (.int .i64 k) := t0
  replace t1 : W1.drew.cell? ⟨w.heap.size, 1, none⟩ = some (.int .i64 lo) := t1
  replace t2 : W1.drew.cell? ⟨w.heap.size, 2, none⟩ = some (.int .i64 hi) := t2
  replace t3 : W1.drew.cell? ⟨w.heap.size, 3, none⟩ = some (.int .i64 m) := t3
  replace nt : w.heap.size < W1.drew.heap.size := nt
  generalize hWd : W1.drew = wd2 at hHeld hL t0 t1 t2 t3 nt  ⊢
  clear hWd
  refine tq 1 10 ?_ ?_ ?_; rotate_left; (focus intro w h; (try dsimp only at h); go_simp; try with_reducible rfl); try simp only [sA, sB, sC]
  refine tq 2 11 ?_ ?_ ?_; rotate_left; (focus intro w h; (try dsimp only at h); go_simp; try with_reducible rfl); try simp only [sA, sB, sC]
  refine rd1 0 (fun K hK => ?_)
  go_simp
  refine (CW.out _).mono ?_
  rintro e Z2x1 ⟨rfl, hm, hb⟩
  replace t0 := cell_next hb nt t0
  replace t1 := cell_next hb nt t1
  replace t2 := cell_next hb nt t2
  replace t3 := cell_next hb nt t3
  replace nt := Nat.lt_of_lt_of_le nt hb.size
  replace hL := hL.trans (hb.mono (Nat.le_trans hBW hL.size))
  refine hK.out _ _ ⟨t0, trivial⟩ (fun hHeld => ?_)
  clear hK K hb
  try simp only [Act.put, sA, sB, sC]
  refine rd1 3 (fun K hK => ?_)
  obtain ⟨u, hrun, hu1, hu2, hu3, hu4⟩ := look_act hm _ hkw
  clear hu1 hu2 hu3 hu4
  rw [ekn] at hrun
  go_simp
  refine hK.out _ _ ⟨t0, trivial⟩ (fun hHeld => ?_)
  clear hK K hrun hm
  try simp only [Act.put, sA, sB, sC]
  refine tq 4 8 ?_ ?_ ?_; rotate_left; (focus intro w h; (try dsimp only at h); go_simp; try with_reducible rfl); try simp only [sA, sB, sC]
  refine tq 5 13 ?_ ?_ ?_; rotate_left; (focus intro w h; (try dsimp only at h); go_simp; try with_reducible rfl); try simp only [sA, sB, sC]
  refine tq 6 14 ?_ ?_ ?_; rotate_left; (focus intro w h; (try dsimp only at h); go_simp; try with_reducible rfl); try simp only [sA, sB, sC]
  refine tq 7 5 ?_ ?_ ?_; rotate_left; (focus intro w h; (try dsimp only at h); go_simp; try with_reducible rfl); try simp only [sA, sB, sC]
  refine tq 8 6 ?_ ?_ ?_; rotate_left; (focus intro w h; (try dsimp only at h); go_simp; try with_reducible rfl); try simp only [sA, sB, sC]
  refine wpAnyH_done (by kernel_rfl) ?_ _
  replace hB := hB.trans (hL.mono hB.size)
  clear hHeld hL hBW
  obtain rfl : E = 2 := HE.out.trans (by simp [*])
  obtain rfl : S = x := HS.out.trans (by simp [*])
  clear HE HS
  go_wp2_with fail
  go_ret
  exact ⟨rfl, HB.out _ hB, only_of_below' hB⟩

def nbE (R : Cr) (a s : Int) : Int := if crB R then (if brE a s = 0 then (if s = 0 then 7 else 0) else brE a s) else 2
def st0 (a s : Int) : St := ⟨brL a s, brH a s, 0, 0, 0, 0, 0, 0, false, 0⟩
def NbPost (w : World) (v1 v2 v3 : Value) (R : Cr) (a s : Int) (e : Ending) (w' : World) : Prop :=
 ∃ p, e = .returned (.tuple #[p, .int .i64 (nbE R a s)]) ∧ Below w.heap.size w w' ∧ (nbE R a s = 0 → ∃ b, p = .pointer (some ⟨b, 0, none⟩) ∧ w.heap.size ≤ b ∧ BtAt b w' (st0 a s) v1 v2 v3 R) ∧ (nbE R a s ≠ 0 → p = .pointer none)
theorem nb_bad {w w' : World} {v1 v2 v3 : Value} {R : Cr} {a s E : Int} (hE : nbE R a s = E) (h : E ≠ 0) (hB : Below w.heap.size w w') : NbPost w v1 v2 v3 R a s (.returned (.tuple #[.pointer none, .int .i64 E])) w' := by
 refine ⟨_, by rw [hE], hB, fun h0 => absurd (hE.symm.trans h0) h, fun _ => rfl⟩
theorem nb_good {w w' : World} {v1 v2 v3 : Value} {R : Cr} {a s : Int} {b : Nat} (hE : nbE R a s = 0) (hw : w.heap.size ≤ b) (hb : BtAt b w' (st0 a s) v1 v2 v3 R) (hB : Below w.heap.size w w') : NbPost w v1 v2 v3 R a s (.returned (.tuple #[.pointer (some ⟨b, 0, none⟩), .int .i64 0])) w' := by
 refine ⟨_, by rw [hE], hB, fun _ => ⟨b, rfl, hw, hb⟩, fun h => absurd hE h⟩

set_option maxRecDepth 20000 in
set_option maxHeartbeats 2000000 in
theorem newBatch_any (v1 v2 v3 : Value) (R : Cr) (a s : Int) (w : World) (hv : CrAt w.heap.size w v1 v2 v3 R) : Calls Tryz.prog 58 #[.agg (cCr v1 v2 v3 R).toArray, .agg #[.int .i64 a, .int .i64 s]] w (NbPost w v1 v2 v3 R a s) := by
 have C1 := Lib.hid (fun (W : World) (h : Below w.heap.size w W) => jCheck_any v1 v2 v3 R W (hv.next h))
 have C2 := Lib.hid (fun (W : World) => brix_any a s W)
 have HP0 := Lib.hid (fun (E : Int) (w' : World) => @nb_bad w w' v1 v2 v3 R a s E)
 have HP1 := Lib.hid (fun (b : Nat) (w' : World) => @nb_good w w' v1 v2 v3 R a s b)
 have HE : Hid (nbE R a s = if crB R then (if brE a s = 0 then (if s = 0 then 7 else 0) else brE a s) else 2) := Lib.hid rfl
 have HS : Hid (st0 a s = ⟨brL a s, brH a s, 0, 0, 0, 0, 0, 0, false, 0⟩) := Lib.hid rfl
 obtain ⟨Q, hQ⟩ : ∃ Q, NbPost w v1 v2 v3 R a s = Q := ⟨_, rfl⟩
 rw [hQ] at HP0 HP1 ⊢
 clear hQ
 obtain ⟨A1, c1, A2, c2, A3, c3, rfl, rfl, rfl⟩ := hv.slices
 clear hv
 generalize st0 a s = X at *
 generalize nbE R a s = E0 at *
 obtain ⟨xs, ys, bl, bh, ps⟩ := R
 dsimp only [cCr] at *
 generalize crB ⟨xs, ys, bl, bh, ps⟩ = z1 at *
 generalize brE a s = e1 at *
 generalize brL a s = d1 at *
 generalize brH a s = d2 at *
 generalize xs.length = n1 at *
 generalize ys.length = n2 at *
 generalize ps.length = n3 at *
 go_enter Tryz.func58, Tryz.ntmps58
 go_wp2_with fail
 refine (C1.out _ (((Below.refl _ _).alloc (Nat.le_refl _) _).alloc (by simp) _)).mono ?_
 rintro e W1 ⟨rfl, hb⟩
 have r0 := cell_next hb (b := w.heap.size) (o := 0) (by simp <;> omega) (v := some (.slice A1 n1 c1)) (by simp [go_sem])
 have r1 := cell_next hb (b := w.heap.size) (o := 1) (by simp <;> omega) (v := some (.slice A2 n2 c2)) (by simp [go_sem])
 have r2 := cell_next hb (b := w.heap.size) (o := 2) (by simp <;> omega) (v := some (.int .i64 bl)) (by simp [go_sem])
 have r3 := cell_next hb (b := w.heap.size) (o := 3) (by simp <;> omega) (v := some (.int .i64 bh)) (by simp [go_sem])
 have r4 := cell_next hb (b := w.heap.size) (o := 4) (by simp <;> omega) (v := some (.slice A3 n3 c3)) (by simp [go_sem])
 have nr : w.heap.size < W1.heap.size := by have := hb.size; simp at this; omega
 have q0 := cell_next hb (b := w.heap.size + 1) (o := 0) (by simp <;> omega) (v := some (.int .i64 a)) (by simp [go_sem])
 have q1 := cell_next hb (b := w.heap.size + 1) (o := 1) (by simp <;> omega) (v := some (.int .i64 s)) (by simp [go_sem])
 have nq : w.heap.size + 1 < W1.heap.size := by have := hb.size; simp at this; omega
 have hB := (below2 hb)
 clear hb
 cases z1
 ·have hE := HE.out.trans (show _ = (2 : Int) by simp [*])
  go_wp2_with fail
  exact HP0.out _ _ hE (by first | omega | assumption) hB
 ·go_wp2_with fail
  refine (C2.out _).mono ?_
  rintro e W2 ⟨rfl, hb⟩
  replace r0 := cell_next hb nr r0
  replace r1 := cell_next hb nr r1
  replace r2 := cell_next hb nr r2
  replace r3 := cell_next hb nr r3
  replace r4 := cell_next hb nr r4
  replace nr := Nat.lt_of_lt_of_le nr hb.size
  replace q0 := cell_next hb nq q0
  replace q1 := cell_next hb nq q1
  replace nq := Nat.lt_of_lt_of_le nq hb.size
  replace hB := hB.trans (hb.mono hB.size)
  clear hb
  by_cases h1 : e1 = 0
  ·subst h1
   by_cases hs : s = 0
   ·subst hs
    go_wp2_with fail
    have hb : Below W2.heap.size W2 (W2.alloc (Obj.cells #[.int .i64 d1, .int .i64 d2] 24)) := ((Below.refl _ _).alloc (Nat.le_refl _) _)
    replace r0 := cell_next hb nr r0
    replace r1 := cell_next hb nr r1
    replace r2 := cell_next hb nr r2
    replace r3 := cell_next hb nr r3
    replace r4 := cell_next hb nr r4
    replace nr := Nat.lt_of_lt_of_le nr hb.size
    replace q0 := cell_next hb nq q0
    replace q1 := cell_next hb nq q1
    replace nq := Nat.lt_of_lt_of_le nq hb.size
    have Dd0 : (W2.alloc (Obj.cells #[.int .i64 d1, .int .i64 d2] 24)).cell? ⟨W2.heap.size, 0, none⟩ = some (.int .i64 d1) := by simp [go_sem]
    have Dd1 : (W2.alloc (Obj.cells #[.int .i64 d1, .int .i64 d2] 24)).cell? ⟨W2.heap.size, 1, none⟩ = some (.int .i64 d2) := by simp [go_sem]
    have nDd : W2.heap.size < (W2.alloc (Obj.cells #[.int .i64 d1, .int .i64 d2] 24)).heap.size := by simp <;> omega
    replace hB := hB.trans (hb.mono hB.size)
    clear hb
    generalize (W2.alloc (Obj.cells #[.int .i64 d1, .int .i64 d2] 24)) = W3 at *
    generalize W2.heap.size = q3 at *
    have hE := HE.out.trans (show _ = (7 : Int) by simp)
    go_wp2_with fail
    exact HP0.out _ _ hE (by omega) hB
   ·have hsb : (s == 0) = false := by simpa using hs
    have hE := HE.out.trans (show _ = (0 : Int) by simp [hs])
    go_wp2_with fail
    refine HP1.out _ _ hE ?_ ?_ ?_
    ·have := hB.size; simp; omega
    ·rw [HS.out]
     refine ⟨by simp, bt_cells ?_ ?_ ?_ ?_ ?_ ?_ ?_ ?_ ?_ ?_ ?_ ?_ ?_ ?_ ?_, bt_froz ?_ ?_ ?_ ?_ ?_ ?_ ?_ ?_ ?_ ?_ ?_ ?_ ?_ ?_ ?_⟩ <;> simp [go_sem]
    ·exact (hB.alloc hB.size _).alloc (by have := hB.size; simp; omega) _
  ·have h1b : (e1 == 0) = false := by simpa using h1
   have h1c : (e1 != 0) = true := by simpa using h1
   go_wp2_with fail
   have hb : Below W2.heap.size W2 (W2.alloc (Obj.cells #[.int .i64 d1, .int .i64 d2] 24)) := ((Below.refl _ _).alloc (Nat.le_refl _) _)
   replace r0 := cell_next hb nr r0
   replace r1 := cell_next hb nr r1
   replace r2 := cell_next hb nr r2
   replace r3 := cell_next hb nr r3
   replace r4 := cell_next hb nr r4
   replace nr := Nat.lt_of_lt_of_le nr hb.size
   replace q0 := cell_next hb nq q0
   replace q1 := cell_next hb nq q1
   replace nq := Nat.lt_of_lt_of_le nq hb.size
   have Dd0 : (W2.alloc (Obj.cells #[.int .i64 d1, .int .i64 d2] 24)).cell? ⟨W2.heap.size, 0, none⟩ = some (.int .i64 d1) := by simp [go_sem]
   have Dd1 : (W2.alloc (Obj.cells #[.int .i64 d1, .int .i64 d2] 24)).cell? ⟨W2.heap.size, 1, none⟩ = some (.int .i64 d2) := by simp [go_sem]
   have nDd : W2.heap.size < (W2.alloc (Obj.cells #[.int .i64 d1, .int .i64 d2] 24)).heap.size := by simp <;> omega
   replace hB := hB.trans (hb.mono hB.size)
   clear hb
   generalize (W2.alloc (Obj.cells #[.int .i64 d1, .int .i64 d2] 24)) = W3 at *
   generalize W2.heap.size = q3 at *
   have hE := HE.out.trans (show _ = (e1 : Int) by simp [*])
   go_wp2_with fail
   exact HP0.out _ _ hE (by first | omega | assumption) hB
end Go.Proofs.YtgklpbgdimkhaaaGreat
