/- Contract of package candy: Needs. -/
import Derived.Test.YtgklpbgdimkhaaaGreatJ3
import Derived.OwnWalk
namespace Go.Proofs.YtgklpbgdimkhaaaGreat
open Go.RowKit Go.Lib Go.Shelf
set_option linter.unusedVariables false
set_option linter.unusedSimpArgs false
attribute [local go_sem ↓] Go.wp_at_zero Go.wp_at_succ


/-- an order -/
structure Od where
 pr : Int
 ma : Int
 pc : Int
def cOd (o : Od) : List Value := [.int .i64 o.pr, .int .i64 o.ma, .int .i64 o.pc]
def orB (n : Nat) (o : Od) : Bool := inB 0 ((n : Int) - 1) o.pr && inB 1 1000000000 o.ma && inB 0 1000000000 o.pc
def rup (n b : Int) : Int := (n + b - 1) / b
def pd0 : Pd := ⟨0, 0, 0, 0, 0, 0, 0, 0⟩
def ndP (ps : List Pd) (o : Od) : Pd := (ps[o.pr.toNat]?).getD pd0
def ndS (ps : List Pd) (o : Od) : Int := rup (o.ma * (ndP ps o).dh) 10000
def ndW (ps : List Pd) (o : Od) : Int := rup (o.ma * (ndP ps o).wo) 1000
def ndE (R : Cr) (o : Od) : Int := if crB R then (if orB R.ps.length o then 0 else 2) else 2

set_option maxRecDepth 20000 in
set_option maxHeartbeats 1000000 in
theorem roundedUp_any (n b : Int) (hn : 0 ≤ n ∧ n ≤ 1000000000000000) (hb : 1 ≤ b ∧ b ≤ 1000000) (w : World) : Calls Tryz.prog 103 #[.int .i64 n, .int .i64 b] w fun e w' => e = .returned (.int .i64 (rup n b)) ∧ w' = w := by
 have y1 : IntKind.i64.wrap (n + b) = n + b := IntWalk.i64_in _ (by omega)
 have y2 : IntKind.i64.wrap (n + b - 1) = n + b - 1 := IntWalk.i64_in _ (by omega)
 have h0 : 0 ≤ (n + b - 1) / b := Int.ediv_nonneg (by omega) (by omega)
 have h1 : (n + b - 1) / b ≤ n + b - 1 := Int.ediv_le_self _ (by omega)
 have y3 : (n + b - 1).tdiv b = (n + b - 1) / b := Int.tdiv_eq_ediv_of_nonneg (by omega)
 have y4 : IntKind.i64.wrap ((n + b - 1) / b) = (n + b - 1) / b := IntWalk.i64_in _ (by omega)
 have y5 : (b == 0) = false := by simp; omega
 have y6 : ¬ b = 0 := by omega
 have hr : rup n b = (n + b - 1) / b := rfl
 rw [hr]
 obtain ⟨M, hM⟩ : ∃ M, n + b - 1 = M := ⟨_, rfl⟩
 rw [hM] at y3 y4 y2 ⊢
 have y7 : IntKind.i64.wrap (n + b - 1) = M := by rw [hM]; exact y2
 obtain ⟨D, hD⟩ : ∃ D, M / b = D := ⟨_, rfl⟩
 rw [hD] at y3 y4 ⊢
 clear h0 h1 hr hM hD y2
 go_enter Tryz.func103, Tryz.ntmps103
 go_wp2_with fail
 go_ret
 exact ⟨rfl, rfl⟩

set_option maxRecDepth 20000 in
set_option maxHeartbeats 1000000 in
theorem validOrder_any (A1 A2 A3 : Option Addr) (n1 n2 n c1 c2 c3 : Nat) (bl bh pr ma pc : Int) (hn : n ≤ 8) (w : World) : Calls Tryz.prog 67 #[.agg #[.slice A1 n1 c1, .slice A2 n2 c2, .int .i64 bl, .int .i64 bh, .slice A3 n c3], .agg #[.int .i64 pr, .int .i64 ma, .int .i64 pc]] w fun e w' => e = .returned (.bool (orB n ⟨pr, ma, pc⟩)) ∧ Below w.heap.size w w' := by
 have C1 := Lib.hid (fun (W : World) (g c : Nat) => jin1v_any 0 ((n : Int) - 1) pr g c W)
 have C2 := Lib.hid (fun (W : World) (g c : Nat) => jin1v_any 1 1000000000 ma g c W)
 have C3 := Lib.hid (fun (W : World) (g c : Nat) => jin1v_any 0 1000000000 pc g c W)
 have y1 : IntKind.i64.wrap ((n : Int) - 1) = (n : Int) - 1 := IntWalk.i64_in _ (by omega)
 have hr : Hid (orB n ⟨pr, ma, pc⟩ = (inB 0 ((n : Int) - 1) pr && inB 1 1000000000 ma && inB 0 1000000000 pc)) := Lib.hid rfl
 rw [hr.out]
 clear hr
 generalize inB 0 ((n : Int) - 1) pr = z1 at *
 generalize inB 1 1000000000 ma = z2 at *
 generalize inB 0 1000000000 pc = z3 at *
 go_enter Tryz.func67, Tryz.ntmps67
 go_wp2_with fail
 refine (C1.out _ _ _ (by simp) (by simp [go_sem])).mono ?_
 rintro e W1 ⟨rfl, hb⟩
 have Rb0 := cell_next hb (b := w.heap.size) (o := 0) (by simp <;> omega) (v := some (.slice A1 n1 c1)) (by simp [go_sem])
 have Rb1 := cell_next hb (b := w.heap.size) (o := 1) (by simp <;> omega) (v := some (.slice A2 n2 c2)) (by simp [go_sem])
 have Rb2 := cell_next hb (b := w.heap.size) (o := 2) (by simp <;> omega) (v := some (.int .i64 bl)) (by simp [go_sem])
 have Rb3 := cell_next hb (b := w.heap.size) (o := 3) (by simp <;> omega) (v := some (.int .i64 bh)) (by simp [go_sem])
 have Rb4 := cell_next hb (b := w.heap.size) (o := 4) (by simp <;> omega) (v := some (.slice A3 n c3)) (by simp [go_sem])
 have nRb : w.heap.size < W1.heap.size := by have := hb.size; simp at this; omega
 have o0 := cell_next hb (b := w.heap.size + 1) (o := 0) (by simp <;> omega) (v := some (.int .i64 pr)) (by simp [go_sem])
 have o1 := cell_next hb (b := w.heap.size + 1) (o := 1) (by simp <;> omega) (v := some (.int .i64 ma)) (by simp [go_sem])
 have o2 := cell_next hb (b := w.heap.size + 1) (o := 2) (by simp <;> omega) (v := some (.int .i64 pc)) (by simp [go_sem])
 have no : w.heap.size + 1 < W1.heap.size := by have := hb.size; simp at this; omega
 have hB := (below3 hb)
 clear hb
 cases z1
 ·go_wp2_with fail
  go_ret
  exact ⟨by simp, hB⟩
 ·go_wp2_with fail
  refine (C2.out _ _ _ (by simp) (by simp [go_sem])).mono ?_
  rintro e W2 ⟨rfl, hb⟩
  replace Rb0 := cell_next (below1 hb) nRb Rb0
  replace Rb1 := cell_next (below1 hb) nRb Rb1
  replace Rb2 := cell_next (below1 hb) nRb Rb2
  replace Rb3 := cell_next (below1 hb) nRb Rb3
  replace Rb4 := cell_next (below1 hb) nRb Rb4
  replace nRb := Nat.lt_of_lt_of_le nRb (below1 hb).size
  replace o0 := cell_next (below1 hb) no o0
  replace o1 := cell_next (below1 hb) no o1
  replace o2 := cell_next (below1 hb) no o2
  replace no := Nat.lt_of_lt_of_le no (below1 hb).size
  replace hB := hB.trans ((below1 hb).mono hB.size)
  clear hb
  generalize W1.heap.size = q2 at *
  cases z2
  ·go_wp2_with fail
   go_ret
   exact ⟨by simp, hB⟩
  ·go_wp2_with fail
   refine (C3.out _ _ _ (by simp) (by simp [go_sem])).mono ?_
   rintro e W3 ⟨rfl, hb⟩
   replace Rb0 := cell_next (below1 hb) nRb Rb0
   replace Rb1 := cell_next (below1 hb) nRb Rb1
   replace Rb2 := cell_next (below1 hb) nRb Rb2
   replace Rb3 := cell_next (below1 hb) nRb Rb3
   replace Rb4 := cell_next (below1 hb) nRb Rb4
   replace nRb := Nat.lt_of_lt_of_le nRb (below1 hb).size
   replace o0 := cell_next (below1 hb) no o0
   replace o1 := cell_next (below1 hb) no o1
   replace o2 := cell_next (below1 hb) no o2
   replace no := Nat.lt_of_lt_of_le no (below1 hb).size
   replace hB := hB.trans ((below1 hb).mono hB.size)
   clear hb
   generalize W2.heap.size = q3 at *
   go_wp2_with fail
   go_ret
   exact ⟨by simp, hB⟩

set_option maxRecDepth 20000 in
set_option maxHeartbeats 2000000 in
theorem needOf_any (A1 A2 : Option Addr) (n1 n2 c1 c2 : Nat) (v3 : Value) (ps : List Pd) (bl bh pr ma pc : Int) (hpd : ∀ p ∈ ps, pdB p = true) (ho : orB ps.length ⟨pr, ma, pc⟩ = true) (w : World) (hp : RsAt 8 cPd w.heap.size w v3 ps) : Calls Tryz.prog 68 #[.agg #[.slice A1 n1 c1, .slice A2 n2 c2, .int .i64 bl, .int .i64 bh, v3], .agg #[.int .i64 pr, .int .i64 ma, .int .i64 pc]] w fun e w' => e = .returned (.agg #[.int .i64 (ndS ps ⟨pr, ma, pc⟩), .int .i64 (ndW ps ⟨pr, ma, pc⟩), .int .i64 pc]) ∧ Below w.heap.size w w' := by
 obtain ⟨A3, c3, rfl, hr⟩ := hp
 have ho' : (0 ≤ pr ∧ pr < ps.length) ∧ (1 ≤ ma ∧ ma ≤ 1000000000) ∧ (0 ≤ pc ∧ pc ≤ 1000000000) := by simp [orB, inB] at ho; omega
 obtain ⟨⟨hp0, hp1⟩, hma, hpc⟩ := ho'
 obtain ⟨k, rfl⟩ : ∃ k : Nat, pr = k := ⟨pr.toNat, by omega⟩
 obtain ⟨p, hpk⟩ : ∃ p, ps[k]? = some p := ⟨_, List.getElem?_eq_getElem (by omega)⟩
 have hpb := hpd p (List.mem_of_getElem? hpk)
 obtain ⟨g, off, rfl, hg, hc⟩ := hr (by omega)
 have e1 : ndS ps ⟨k, ma, pc⟩ = rup (ma * p.dh) 10000 := by simp [ndS, ndP, hpk]
 have e2 : ndW ps ⟨k, ma, pc⟩ = rup (ma * p.wo) 1000 := by simp [ndW, ndP, hpk]
 rw [e1, e2]
 obtain ⟨pl, ph, ql, qh, rl, rh, pse, pwo⟩ := p
 simp only [pdB, Bool.and_eq_true] at hpb
 have hb1 := rgB_of hpb.1.1.1.1
 have hb2 : 0 ≤ pwo ∧ pwo ≤ 100000 := by simpa [inB] using hpb.2
 dsimp only at hb1 ⊢
 have m1 : 0 ≤ ma * ph := Int.mul_nonneg (by omega) (by omega)
 have m2 : ma * ph ≤ 1000000000 * 10000 := Int.mul_le_mul hma.2 (by omega) (by omega) (by omega)
 have m3 : 0 ≤ ma * pwo := Int.mul_nonneg (by omega) (by omega)
 have m4 : ma * pwo ≤ 1000000000 * 100000 := Int.mul_le_mul hma.2 hb2.2 hb2.1 (by omega)
 have y1 : IntKind.i64.wrap (ma * ph) = ma * ph := IntWalk.i64_in _ (by omega)
 have y2 : IntKind.i64.wrap (ma * pwo) = ma * pwo := IntWalk.i64_in _ (by omega)
 have C1 := Lib.hid (fun (W : World) => (roundedUp_any (ma * ph) 10000 (by omega) (by omega) W).mono (fun e w' h => (⟨h.1, h.2 ▸ Below.refl _ _⟩ : e = .returned (.int .i64 (rup (ma * ph) 10000)) ∧ Below W.heap.size W w')))
 have C2 := Lib.hid (fun (W : World) => (roundedUp_any (ma * pwo) 1000 (by omega) (by omega) W).mono (fun e w' h => (⟨h.1, h.2 ▸ Below.refl _ _⟩ : e = .returned (.int .i64 (rup (ma * pwo) 1000)) ∧ Below W.heap.size W w')))
 have q0 : w.cell? ⟨g, off + k * 8, none⟩ = some (.int .i64 pl) := hc k _ hpk 0 _ rfl
 have q1 : w.cell? ⟨g, off + k * 8 + 1, none⟩ = some (.int .i64 ph) := hc k _ hpk 1 _ rfl
 have q2 : w.cell? ⟨g, off + k * 8 + 2, none⟩ = some (.int .i64 ql) := hc k _ hpk 2 _ rfl
 have q3 : w.cell? ⟨g, off + k * 8 + 3, none⟩ = some (.int .i64 qh) := hc k _ hpk 3 _ rfl
 have q4 : w.cell? ⟨g, off + k * 8 + 4, none⟩ = some (.int .i64 rl) := hc k _ hpk 4 _ rfl
 have q5 : w.cell? ⟨g, off + k * 8 + 5, none⟩ = some (.int .i64 rh) := hc k _ hpk 5 _ rfl
 have q6 : w.cell? ⟨g, off + k * 8 + 6, none⟩ = some (.int .i64 pse) := hc k _ hpk 6 _ rfl
 have q7 : w.cell? ⟨g, off + k * 8 + 7, none⟩ = some (.int .i64 pwo) := hc k _ hpk 7 _ rfl
 generalize rup (ma * ph) 10000 = r1 at *
 generalize rup (ma * pwo) 1000 = r2 at *
 obtain ⟨M1, hM1⟩ : ∃ M, ma * ph = M := ⟨_, rfl⟩
 obtain ⟨M2, hM2⟩ : ∃ M, ma * pwo = M := ⟨_, rfl⟩
 have y3 : IntKind.i64.wrap (ma * ph) = M1 := y1.trans hM1
 have y4 : IntKind.i64.wrap (ma * pwo) = M2 := y2.trans hM2
 rw [hM1] at C1
 rw [hM2] at C2
 have hkn : (k : Int) < (ps.length : Int) := hp1
 generalize ps.length = n at *
 clear hr hc hpk hpb hb1 hb2 m1 m2 m3 m4 y1 y2 hM1 hM2 e1 e2 hpd ho
 have hal := fun o o' o'' => ((((Below.refl w.heap.size w).alloc (Nat.le_refl _) o).alloc (by simp) o').alloc (by simp <;> omega) o'' : Below w.heap.size w _)
 replace q0 := fun o o' o'' => cell_next (hal o o' o'') hg q0
 replace q1 := fun o o' o'' => cell_next (hal o o' o'') hg q1
 replace q2 := fun o o' o'' => cell_next (hal o o' o'') hg q2
 replace q3 := fun o o' o'' => cell_next (hal o o' o'') hg q3
 replace q4 := fun o o' o'' => cell_next (hal o o' o'') hg q4
 replace q5 := fun o o' o'' => cell_next (hal o o' o'') hg q5
 replace q6 := fun o o' o'' => cell_next (hal o o' o'') hg q6
 replace q7 := fun o o' o'' => cell_next (hal o o' o'') hg q7
 go_enter Tryz.func68, Tryz.ntmps68
 go_wp2_with fail
 have hb : Below w.heap.size w ((((w.alloc (Obj.cells #[.slice A1 n1 c1, .slice A2 n2 c2, .int .i64 bl, .int .i64 bh, .slice (some ⟨g, off, none⟩) n c3] 27)).alloc (Obj.cells #[.int .i64 ((k : Int)), .int .i64 ma, .int .i64 pc] 65)).alloc (Obj.cells #[.int .i64 0, .int .i64 0, .int .i64 0] 123)).alloc (Obj.cells #[.int .i64 pl, .int .i64 ph, .int .i64 ql, .int .i64 qh, .int .i64 rl, .int .i64 rh, .int .i64 pse, .int .i64 pwo] 41)) := (((((Below.refl _ _).alloc (Nat.le_refl _) _).alloc (by simp <;> omega) _).alloc (by simp <;> omega) _).alloc (by simp <;> omega) _)
 have Rb0 : ((((w.alloc (Obj.cells #[.slice A1 n1 c1, .slice A2 n2 c2, .int .i64 bl, .int .i64 bh, .slice (some ⟨g, off, none⟩) n c3] 27)).alloc (Obj.cells #[.int .i64 ((k : Int)), .int .i64 ma, .int .i64 pc] 65)).alloc (Obj.cells #[.int .i64 0, .int .i64 0, .int .i64 0] 123)).alloc (Obj.cells #[.int .i64 pl, .int .i64 ph, .int .i64 ql, .int .i64 qh, .int .i64 rl, .int .i64 rh, .int .i64 pse, .int .i64 pwo] 41)).cell? ⟨w.heap.size, 0, none⟩ = some (.slice A1 n1 c1) := by simp [go_sem]
 have Rb1 : ((((w.alloc (Obj.cells #[.slice A1 n1 c1, .slice A2 n2 c2, .int .i64 bl, .int .i64 bh, .slice (some ⟨g, off, none⟩) n c3] 27)).alloc (Obj.cells #[.int .i64 ((k : Int)), .int .i64 ma, .int .i64 pc] 65)).alloc (Obj.cells #[.int .i64 0, .int .i64 0, .int .i64 0] 123)).alloc (Obj.cells #[.int .i64 pl, .int .i64 ph, .int .i64 ql, .int .i64 qh, .int .i64 rl, .int .i64 rh, .int .i64 pse, .int .i64 pwo] 41)).cell? ⟨w.heap.size, 1, none⟩ = some (.slice A2 n2 c2) := by simp [go_sem]
 have Rb2 : ((((w.alloc (Obj.cells #[.slice A1 n1 c1, .slice A2 n2 c2, .int .i64 bl, .int .i64 bh, .slice (some ⟨g, off, none⟩) n c3] 27)).alloc (Obj.cells #[.int .i64 ((k : Int)), .int .i64 ma, .int .i64 pc] 65)).alloc (Obj.cells #[.int .i64 0, .int .i64 0, .int .i64 0] 123)).alloc (Obj.cells #[.int .i64 pl, .int .i64 ph, .int .i64 ql, .int .i64 qh, .int .i64 rl, .int .i64 rh, .int .i64 pse, .int .i64 pwo] 41)).cell? ⟨w.heap.size, 2, none⟩ = some (.int .i64 bl) := by simp [go_sem]
 have Rb3 : ((((w.alloc (Obj.cells #[.slice A1 n1 c1, .slice A2 n2 c2, .int .i64 bl, .int .i64 bh, .slice (some ⟨g, off, none⟩) n c3] 27)).alloc (Obj.cells #[.int .i64 ((k : Int)), .int .i64 ma, .int .i64 pc] 65)).alloc (Obj.cells #[.int .i64 0, .int .i64 0, .int .i64 0] 123)).alloc (Obj.cells #[.int .i64 pl, .int .i64 ph, .int .i64 ql, .int .i64 qh, .int .i64 rl, .int .i64 rh, .int .i64 pse, .int .i64 pwo] 41)).cell? ⟨w.heap.size, 3, none⟩ = some (.int .i64 bh) := by simp [go_sem]
 have Rb4 : ((((w.alloc (Obj.cells #[.slice A1 n1 c1, .slice A2 n2 c2, .int .i64 bl, .int .i64 bh, .slice (some ⟨g, off, none⟩) n c3] 27)).alloc (Obj.cells #[.int .i64 ((k : Int)), .int .i64 ma, .int .i64 pc] 65)).alloc (Obj.cells #[.int .i64 0, .int .i64 0, .int .i64 0] 123)).alloc (Obj.cells #[.int .i64 pl, .int .i64 ph, .int .i64 ql, .int .i64 qh, .int .i64 rl, .int .i64 rh, .int .i64 pse, .int .i64 pwo] 41)).cell? ⟨w.heap.size, 4, none⟩ = some (.slice (some ⟨g, off, none⟩) n c3) := by simp [go_sem]
 have nRb : w.heap.size < ((((w.alloc (Obj.cells #[.slice A1 n1 c1, .slice A2 n2 c2, .int .i64 bl, .int .i64 bh, .slice (some ⟨g, off, none⟩) n c3] 27)).alloc (Obj.cells #[.int .i64 ((k : Int)), .int .i64 ma, .int .i64 pc] 65)).alloc (Obj.cells #[.int .i64 0, .int .i64 0, .int .i64 0] 123)).alloc (Obj.cells #[.int .i64 pl, .int .i64 ph, .int .i64 ql, .int .i64 qh, .int .i64 rl, .int .i64 rh, .int .i64 pse, .int .i64 pwo] 41)).heap.size := by simp <;> omega
 have o0 : ((((w.alloc (Obj.cells #[.slice A1 n1 c1, .slice A2 n2 c2, .int .i64 bl, .int .i64 bh, .slice (some ⟨g, off, none⟩) n c3] 27)).alloc (Obj.cells #[.int .i64 ((k : Int)), .int .i64 ma, .int .i64 pc] 65)).alloc (Obj.cells #[.int .i64 0, .int .i64 0, .int .i64 0] 123)).alloc (Obj.cells #[.int .i64 pl, .int .i64 ph, .int .i64 ql, .int .i64 qh, .int .i64 rl, .int .i64 rh, .int .i64 pse, .int .i64 pwo] 41)).cell? ⟨w.heap.size + 1, 0, none⟩ = some (.int .i64 ((k : Int))) := by simp [go_sem]
 have o1 : ((((w.alloc (Obj.cells #[.slice A1 n1 c1, .slice A2 n2 c2, .int .i64 bl, .int .i64 bh, .slice (some ⟨g, off, none⟩) n c3] 27)).alloc (Obj.cells #[.int .i64 ((k : Int)), .int .i64 ma, .int .i64 pc] 65)).alloc (Obj.cells #[.int .i64 0, .int .i64 0, .int .i64 0] 123)).alloc (Obj.cells #[.int .i64 pl, .int .i64 ph, .int .i64 ql, .int .i64 qh, .int .i64 rl, .int .i64 rh, .int .i64 pse, .int .i64 pwo] 41)).cell? ⟨w.heap.size + 1, 1, none⟩ = some (.int .i64 ma) := by simp [go_sem]
 have o2 : ((((w.alloc (Obj.cells #[.slice A1 n1 c1, .slice A2 n2 c2, .int .i64 bl, .int .i64 bh, .slice (some ⟨g, off, none⟩) n c3] 27)).alloc (Obj.cells #[.int .i64 ((k : Int)), .int .i64 ma, .int .i64 pc] 65)).alloc (Obj.cells #[.int .i64 0, .int .i64 0, .int .i64 0] 123)).alloc (Obj.cells #[.int .i64 pl, .int .i64 ph, .int .i64 ql, .int .i64 qh, .int .i64 rl, .int .i64 rh, .int .i64 pse, .int .i64 pwo] 41)).cell? ⟨w.heap.size + 1, 2, none⟩ = some (.int .i64 pc) := by simp [go_sem]
 have no : w.heap.size + 1 < ((((w.alloc (Obj.cells #[.slice A1 n1 c1, .slice A2 n2 c2, .int .i64 bl, .int .i64 bh, .slice (some ⟨g, off, none⟩) n c3] 27)).alloc (Obj.cells #[.int .i64 ((k : Int)), .int .i64 ma, .int .i64 pc] 65)).alloc (Obj.cells #[.int .i64 0, .int .i64 0, .int .i64 0] 123)).alloc (Obj.cells #[.int .i64 pl, .int .i64 ph, .int .i64 ql, .int .i64 qh, .int .i64 rl, .int .i64 rh, .int .i64 pse, .int .i64 pwo] 41)).heap.size := by simp <;> omega
 have z0 : ((((w.alloc (Obj.cells #[.slice A1 n1 c1, .slice A2 n2 c2, .int .i64 bl, .int .i64 bh, .slice (some ⟨g, off, none⟩) n c3] 27)).alloc (Obj.cells #[.int .i64 ((k : Int)), .int .i64 ma, .int .i64 pc] 65)).alloc (Obj.cells #[.int .i64 0, .int .i64 0, .int .i64 0] 123)).alloc (Obj.cells #[.int .i64 pl, .int .i64 ph, .int .i64 ql, .int .i64 qh, .int .i64 rl, .int .i64 rh, .int .i64 pse, .int .i64 pwo] 41)).cell? ⟨w.heap.size + 1 + 1, 0, none⟩ = some (.int .i64 0) := by simp [go_sem]
 have fz0 : ((((w.alloc (Obj.cells #[.slice A1 n1 c1, .slice A2 n2 c2, .int .i64 bl, .int .i64 bh, .slice (some ⟨g, off, none⟩) n c3] 27)).alloc (Obj.cells #[.int .i64 ((k : Int)), .int .i64 ma, .int .i64 pc] 65)).alloc (Obj.cells #[.int .i64 0, .int .i64 0, .int .i64 0] 123)).alloc (Obj.cells #[.int .i64 pl, .int .i64 ph, .int .i64 ql, .int .i64 qh, .int .i64 rl, .int .i64 rh, .int .i64 pse, .int .i64 pwo] 41)).frozen? ⟨w.heap.size + 1 + 1, 0, none⟩ = false := by simp [go_sem]
 have z1 : ((((w.alloc (Obj.cells #[.slice A1 n1 c1, .slice A2 n2 c2, .int .i64 bl, .int .i64 bh, .slice (some ⟨g, off, none⟩) n c3] 27)).alloc (Obj.cells #[.int .i64 ((k : Int)), .int .i64 ma, .int .i64 pc] 65)).alloc (Obj.cells #[.int .i64 0, .int .i64 0, .int .i64 0] 123)).alloc (Obj.cells #[.int .i64 pl, .int .i64 ph, .int .i64 ql, .int .i64 qh, .int .i64 rl, .int .i64 rh, .int .i64 pse, .int .i64 pwo] 41)).cell? ⟨w.heap.size + 1 + 1, 1, none⟩ = some (.int .i64 0) := by simp [go_sem]
 have fz1 : ((((w.alloc (Obj.cells #[.slice A1 n1 c1, .slice A2 n2 c2, .int .i64 bl, .int .i64 bh, .slice (some ⟨g, off, none⟩) n c3] 27)).alloc (Obj.cells #[.int .i64 ((k : Int)), .int .i64 ma, .int .i64 pc] 65)).alloc (Obj.cells #[.int .i64 0, .int .i64 0, .int .i64 0] 123)).alloc (Obj.cells #[.int .i64 pl, .int .i64 ph, .int .i64 ql, .int .i64 qh, .int .i64 rl, .int .i64 rh, .int .i64 pse, .int .i64 pwo] 41)).frozen? ⟨w.heap.size + 1 + 1, 1, none⟩ = false := by simp [go_sem]
 have z2 : ((((w.alloc (Obj.cells #[.slice A1 n1 c1, .slice A2 n2 c2, .int .i64 bl, .int .i64 bh, .slice (some ⟨g, off, none⟩) n c3] 27)).alloc (Obj.cells #[.int .i64 ((k : Int)), .int .i64 ma, .int .i64 pc] 65)).alloc (Obj.cells #[.int .i64 0, .int .i64 0, .int .i64 0] 123)).alloc (Obj.cells #[.int .i64 pl, .int .i64 ph, .int .i64 ql, .int .i64 qh, .int .i64 rl, .int .i64 rh, .int .i64 pse, .int .i64 pwo] 41)).cell? ⟨w.heap.size + 1 + 1, 2, none⟩ = some (.int .i64 0) := by simp [go_sem]
 have fz2 : ((((w.alloc (Obj.cells #[.slice A1 n1 c1, .slice A2 n2 c2, .int .i64 bl, .int .i64 bh, .slice (some ⟨g, off, none⟩) n c3] 27)).alloc (Obj.cells #[.int .i64 ((k : Int)), .int .i64 ma, .int .i64 pc] 65)).alloc (Obj.cells #[.int .i64 0, .int .i64 0, .int .i64 0] 123)).alloc (Obj.cells #[.int .i64 pl, .int .i64 ph, .int .i64 ql, .int .i64 qh, .int .i64 rl, .int .i64 rh, .int .i64 pse, .int .i64 pwo] 41)).frozen? ⟨w.heap.size + 1 + 1, 2, none⟩ = false := by simp [go_sem]
 have nz : w.heap.size + 1 + 1 < ((((w.alloc (Obj.cells #[.slice A1 n1 c1, .slice A2 n2 c2, .int .i64 bl, .int .i64 bh, .slice (some ⟨g, off, none⟩) n c3] 27)).alloc (Obj.cells #[.int .i64 ((k : Int)), .int .i64 ma, .int .i64 pc] 65)).alloc (Obj.cells #[.int .i64 0, .int .i64 0, .int .i64 0] 123)).alloc (Obj.cells #[.int .i64 pl, .int .i64 ph, .int .i64 ql, .int .i64 qh, .int .i64 rl, .int .i64 rh, .int .i64 pse, .int .i64 pwo] 41)).heap.size := by simp <;> omega
 have p0 : ((((w.alloc (Obj.cells #[.slice A1 n1 c1, .slice A2 n2 c2, .int .i64 bl, .int .i64 bh, .slice (some ⟨g, off, none⟩) n c3] 27)).alloc (Obj.cells #[.int .i64 ((k : Int)), .int .i64 ma, .int .i64 pc] 65)).alloc (Obj.cells #[.int .i64 0, .int .i64 0, .int .i64 0] 123)).alloc (Obj.cells #[.int .i64 pl, .int .i64 ph, .int .i64 ql, .int .i64 qh, .int .i64 rl, .int .i64 rh, .int .i64 pse, .int .i64 pwo] 41)).cell? ⟨w.heap.size + 1 + 1 + 1, 0, none⟩ = some (.int .i64 pl) := by simp [go_sem]
 have p1 : ((((w.alloc (Obj.cells #[.slice A1 n1 c1, .slice A2 n2 c2, .int .i64 bl, .int .i64 bh, .slice (some ⟨g, off, none⟩) n c3] 27)).alloc (Obj.cells #[.int .i64 ((k : Int)), .int .i64 ma, .int .i64 pc] 65)).alloc (Obj.cells #[.int .i64 0, .int .i64 0, .int .i64 0] 123)).alloc (Obj.cells #[.int .i64 pl, .int .i64 ph, .int .i64 ql, .int .i64 qh, .int .i64 rl, .int .i64 rh, .int .i64 pse, .int .i64 pwo] 41)).cell? ⟨w.heap.size + 1 + 1 + 1, 1, none⟩ = some (.int .i64 ph) := by simp [go_sem]
 have p2 : ((((w.alloc (Obj.cells #[.slice A1 n1 c1, .slice A2 n2 c2, .int .i64 bl, .int .i64 bh, .slice (some ⟨g, off, none⟩) n c3] 27)).alloc (Obj.cells #[.int .i64 ((k : Int)), .int .i64 ma, .int .i64 pc] 65)).alloc (Obj.cells #[.int .i64 0, .int .i64 0, .int .i64 0] 123)).alloc (Obj.cells #[.int .i64 pl, .int .i64 ph, .int .i64 ql, .int .i64 qh, .int .i64 rl, .int .i64 rh, .int .i64 pse, .int .i64 pwo] 41)).cell? ⟨w.heap.size + 1 + 1 + 1, 2, none⟩ = some (.int .i64 ql) := by simp [go_sem]
 have p3 : ((((w.alloc (Obj.cells #[.slice A1 n1 c1, .slice A2 n2 c2, .int .i64 bl, .int .i64 bh, .slice (some ⟨g, off, none⟩) n c3] 27)).alloc (Obj.cells #[.int .i64 ((k : Int)), .int .i64 ma, .int .i64 pc] 65)).alloc (Obj.cells #[.int .i64 0, .int .i64 0, .int .i64 0] 123)).alloc (Obj.cells #[.int .i64 pl, .int .i64 ph, .int .i64 ql, .int .i64 qh, .int .i64 rl, .int .i64 rh, .int .i64 pse, .int .i64 pwo] 41)).cell? ⟨w.heap.size + 1 + 1 + 1, 3, none⟩ = some (.int .i64 qh) := by simp [go_sem]
 have p4 : ((((w.alloc (Obj.cells #[.slice A1 n1 c1, .slice A2 n2 c2, .int .i64 bl, .int .i64 bh, .slice (some ⟨g, off, none⟩) n c3] 27)).alloc (Obj.cells #[.int .i64 ((k : Int)), .int .i64 ma, .int .i64 pc] 65)).alloc (Obj.cells #[.int .i64 0, .int .i64 0, .int .i64 0] 123)).alloc (Obj.cells #[.int .i64 pl, .int .i64 ph, .int .i64 ql, .int .i64 qh, .int .i64 rl, .int .i64 rh, .int .i64 pse, .int .i64 pwo] 41)).cell? ⟨w.heap.size + 1 + 1 + 1, 4, none⟩ = some (.int .i64 rl) := by simp [go_sem]
 have p5 : ((((w.alloc (Obj.cells #[.slice A1 n1 c1, .slice A2 n2 c2, .int .i64 bl, .int .i64 bh, .slice (some ⟨g, off, none⟩) n c3] 27)).alloc (Obj.cells #[.int .i64 ((k : Int)), .int .i64 ma, .int .i64 pc] 65)).alloc (Obj.cells #[.int .i64 0, .int .i64 0, .int .i64 0] 123)).alloc (Obj.cells #[.int .i64 pl, .int .i64 ph, .int .i64 ql, .int .i64 qh, .int .i64 rl, .int .i64 rh, .int .i64 pse, .int .i64 pwo] 41)).cell? ⟨w.heap.size + 1 + 1 + 1, 5, none⟩ = some (.int .i64 rh) := by simp [go_sem]
 have p6 : ((((w.alloc (Obj.cells #[.slice A1 n1 c1, .slice A2 n2 c2, .int .i64 bl, .int .i64 bh, .slice (some ⟨g, off, none⟩) n c3] 27)).alloc (Obj.cells #[.int .i64 ((k : Int)), .int .i64 ma, .int .i64 pc] 65)).alloc (Obj.cells #[.int .i64 0, .int .i64 0, .int .i64 0] 123)).alloc (Obj.cells #[.int .i64 pl, .int .i64 ph, .int .i64 ql, .int .i64 qh, .int .i64 rl, .int .i64 rh, .int .i64 pse, .int .i64 pwo] 41)).cell? ⟨w.heap.size + 1 + 1 + 1, 6, none⟩ = some (.int .i64 pse) := by simp [go_sem]
 have p7 : ((((w.alloc (Obj.cells #[.slice A1 n1 c1, .slice A2 n2 c2, .int .i64 bl, .int .i64 bh, .slice (some ⟨g, off, none⟩) n c3] 27)).alloc (Obj.cells #[.int .i64 ((k : Int)), .int .i64 ma, .int .i64 pc] 65)).alloc (Obj.cells #[.int .i64 0, .int .i64 0, .int .i64 0] 123)).alloc (Obj.cells #[.int .i64 pl, .int .i64 ph, .int .i64 ql, .int .i64 qh, .int .i64 rl, .int .i64 rh, .int .i64 pse, .int .i64 pwo] 41)).cell? ⟨w.heap.size + 1 + 1 + 1, 7, none⟩ = some (.int .i64 pwo) := by simp [go_sem]
 have np : w.heap.size + 1 + 1 + 1 < ((((w.alloc (Obj.cells #[.slice A1 n1 c1, .slice A2 n2 c2, .int .i64 bl, .int .i64 bh, .slice (some ⟨g, off, none⟩) n c3] 27)).alloc (Obj.cells #[.int .i64 ((k : Int)), .int .i64 ma, .int .i64 pc] 65)).alloc (Obj.cells #[.int .i64 0, .int .i64 0, .int .i64 0] 123)).alloc (Obj.cells #[.int .i64 pl, .int .i64 ph, .int .i64 ql, .int .i64 qh, .int .i64 rl, .int .i64 rh, .int .i64 pse, .int .i64 pwo] 41)).heap.size := by simp <;> omega
 have hB := hb
 clear hb
 generalize ((((w.alloc (Obj.cells #[.slice A1 n1 c1, .slice A2 n2 c2, .int .i64 bl, .int .i64 bh, .slice (some ⟨g, off, none⟩) n c3] 27)).alloc (Obj.cells #[.int .i64 ((k : Int)), .int .i64 ma, .int .i64 pc] 65)).alloc (Obj.cells #[.int .i64 0, .int .i64 0, .int .i64 0] 123)).alloc (Obj.cells #[.int .i64 pl, .int .i64 ph, .int .i64 ql, .int .i64 qh, .int .i64 rl, .int .i64 rh, .int .i64 pse, .int .i64 pwo] 41)) = W1 at *
 have hBW : w.heap.size ≤ W1.heap.size := hB.size
 refine wp_region_held_drew (S := fun w' => w'.cell? ⟨w.heap.size + 1, 1, none⟩ = some (.int .i64 ma) ∧ w'.cell? ⟨w.heap.size + 1, 2, none⟩ = some (.int .i64 pc) ∧ w'.cell? ⟨w.heap.size + 1 + 1 + 1, 1, none⟩ = some (.int .i64 ph) ∧ w'.cell? ⟨w.heap.size + 1 + 1 + 1, 7, none⟩ = some (.int .i64 pwo) ∧ True) (by kernel_rfl) ?_ (fun hHeld => ?_)
 focus (exact ⟨o1, o2, p1, p7, trivial⟩)
 have hL : Below w.heap.size W1 W1.drew := Below.drew (Below.refl _ _)
 replace Rb0 : W1.drew.cell? ⟨w.heap.size, 0, none⟩ = some (.slice A1 n1 c1) := Rb0
 replace Rb1 : W1.drew.cell? ⟨w.heap.size, 1, none⟩ = some (.slice A2 n2 c2) := Rb1
 replace Rb2 : W1.drew.cell? ⟨w.heap.size, 2, none⟩ = some (.int .i64 bl) := Rb2
 replace Rb3 : W1.drew.cell? ⟨w.heap.size, 3, none⟩ = some (.int .i64 bh) := Rb3
 replace Rb4 : W1.drew.cell? ⟨w.heap.size, 4, none⟩ = some (.slice (some ⟨g, off, none⟩) n c3) := Rb4
 replace o0 : W1.drew.cell? ⟨w.heap.size + 1, 0, none⟩ = some (.int .i64 ((k : Int))) := o0
 replace o1 : W1.drew.cell? ⟨w.heap.size + 1, 1, none⟩ = some (.int .i64 ma) := o1
 replace o2 : W1.drew.cell? ⟨w.heap.size + 1, 2, none⟩ = some (.int .i64 pc) := o2
 replace z0 : W1.drew.cell? ⟨w.heap.size + 1 + 1, 0, none⟩ = some (.int .i64 0) := z0
 replace fz0 : W1.drew.frozen? ⟨w.heap.size + 1 + 1, 0, none⟩ = false := fz0
 replace z1 : W1.drew.cell? ⟨w.heap.size + 1 + 1, 1, none⟩ = some (.int .i64 0) := z1
 replace fz1 : W1.drew.frozen? ⟨w.heap.size + 1 + 1, 1, none⟩ = false := fz1
 replace z2 : W1.drew.cell? ⟨w.heap.size + 1 + 1, 2, none⟩ = some (.int .i64 0) := z2
 replace fz2 : W1.drew.frozen? ⟨w.heap.size + 1 + 1, 2, none⟩ = false := fz2
 replace p0 : W1.drew.cell? ⟨w.heap.size + 1 + 1 + 1, 0, none⟩ = some (.int .i64 pl) := p0
 replace p1 : W1.drew.cell? ⟨w.heap.size + 1 + 1 + 1, 1, none⟩ = some (.int .i64 ph) := p1
 replace p2 : W1.drew.cell? ⟨w.heap.size + 1 + 1 + 1, 2, none⟩ = some (.int .i64 ql) := p2
 replace p3 : W1.drew.cell? ⟨w.heap.size + 1 + 1 + 1, 3, none⟩ = some (.int .i64 qh) := p3
 replace p4 : W1.drew.cell? ⟨w.heap.size + 1 + 1 + 1, 4, none⟩ = some (.int .i64 rl) := p4
 replace p5 : W1.drew.cell? ⟨w.heap.size + 1 + 1 + 1, 5, none⟩ = some (.int .i64 rh) := p5
 replace p6 : W1.drew.cell? ⟨w.heap.size + 1 + 1 + 1, 6, none⟩ = some (.int .i64 pse) := p6
 replace p7 : W1.drew.cell? ⟨w.heap.size + 1 + 1 + 1, 7, none⟩ = some (.int .i64 pwo) := p7
 replace nRb : w.heap.size < W1.drew.heap.size := nRb
 replace no : w.heap.size + 1 < W1.drew.heap.size := no
 replace nz : w.heap.size + 1 + 1 < W1.drew.heap.size := nz
 replace np : w.heap.size + 1 + 1 + 1 < W1.drew.heap.size := np
 generalize hWd : W1.drew = wd2 at hHeld hL Rb0 Rb1 Rb2 Rb3 Rb4 o0 o1 o2 z0 fz0 z1 fz1 z2 fz2 p0 p1 p2 p3 p4 p5 p6 p7 nRb no nz np  ⊢
 clear hWd
 refine tq 0 12 ?_ ?_ ?_; rotate_left; (focus intro w h; (try dsimp only at h); go_simp; try with_reducible rfl); try simp only [sA, sB, sC]
 refine tq 1 13 ?_ ?_ ?_; rotate_left; (focus intro w h; (try dsimp only at h); go_simp; try with_reducible rfl); try simp only [sA, sB, sC]
 refine tq 2 14 ?_ ?_ ?_; rotate_left; (focus intro w h; (try dsimp only at h); go_simp; try with_reducible rfl); try simp only [sA, sB, sC]
 refine tq 3 15 ?_ ?_ ?_; rotate_left; (focus intro w h; (try dsimp only at h); go_simp; try with_reducible rfl); try simp only [sA, sB, sC]
 refine tq 4 16 ?_ ?_ ?_; rotate_left; (focus intro w h; (try dsimp only at h); go_simp; try with_reducible rfl); try simp only [sA, sB, sC]
 refine tq 5 17 ?_ ?_ ?_; rotate_left; (focus intro w h; (try dsimp only at h); go_simp; try with_reducible rfl); try simp only [sA, sB, sC]
 refine tq 7 19 ?_ ?_ ?_; rotate_left; (focus intro w h; (try dsimp only at h); go_simp; try with_reducible rfl); try simp only [sA, sB, sC]
 refine tq 8 20 ?_ ?_ ?_; rotate_left; (focus intro w h; (try dsimp only at h); go_simp; try with_reducible rfl); try simp only [sA, sB, sC]
 refine tq 9 21 ?_ ?_ ?_; rotate_left; (focus intro w h; (try dsimp only at h); go_simp; try with_reducible rfl); try simp only [sA, sB, sC]
 refine tq 10 22 ?_ ?_ ?_; rotate_left; (focus intro w h; (try dsimp only at h); go_simp; try with_reducible rfl); try simp only [sA, sB, sC]
 refine tq 11 23 ?_ ?_ ?_; rotate_left; (focus intro w h; (try dsimp only at h); go_simp; try with_reducible rfl); try simp only [sA, sB, sC]
 refine tq 13 25 ?_ ?_ ?_; rotate_left; (focus intro w h; (try dsimp only at h); go_simp; try with_reducible rfl); try simp only [sA, sB, sC]
 refine tq 14 26 ?_ ?_ ?_; rotate_left; (focus intro w h; (try dsimp only at h); go_simp; try with_reducible rfl); try simp only [sA, sB, sC]
 refine rd1 6 (fun K hK => ?_)
 go_simp
 refine (C1.out _).mono ?_
 rintro e Z2x1 ⟨rfl, hb⟩
 replace Rb0 := cell_next hb nRb Rb0
 replace Rb1 := cell_next hb nRb Rb1
 replace Rb2 := cell_next hb nRb Rb2
 replace Rb3 := cell_next hb nRb Rb3
 replace Rb4 := cell_next hb nRb Rb4
 replace o0 := cell_next hb no o0
 replace o1 := cell_next hb no o1
 replace o2 := cell_next hb no o2
 replace z0 := cell_next hb nz z0
 replace fz0 := frozen_next hb nz fz0
 replace z1 := cell_next hb nz z1
 replace fz1 := frozen_next hb nz fz1
 replace z2 := cell_next hb nz z2
 replace fz2 := frozen_next hb nz fz2
 replace p0 := cell_next hb np p0
 replace p1 := cell_next hb np p1
 replace p2 := cell_next hb np p2
 replace p3 := cell_next hb np p3
 replace p4 := cell_next hb np p4
 replace p5 := cell_next hb np p5
 replace p6 := cell_next hb np p6
 replace p7 := cell_next hb np p7
 replace nRb := Nat.lt_of_lt_of_le nRb hb.size
 replace no := Nat.lt_of_lt_of_le no hb.size
 replace nz := Nat.lt_of_lt_of_le nz hb.size
 replace np := Nat.lt_of_lt_of_le np hb.size
 replace hL := hL.trans (hb.mono (Nat.le_trans hBW hL.size))
 refine hK.out _ _ ⟨o1, o2, p1, p7, trivial⟩ (fun hHeld => ?_)
 clear hK K hb
 try simp only [Act.put, sA, sB, sC]
 refine rd1 12 (fun K hK => ?_)
 go_simp
 refine (C2.out _).mono ?_
 rintro e Z2x2 ⟨rfl, hb⟩
 replace Rb0 := cell_next hb nRb Rb0
 replace Rb1 := cell_next hb nRb Rb1
 replace Rb2 := cell_next hb nRb Rb2
 replace Rb3 := cell_next hb nRb Rb3
 replace Rb4 := cell_next hb nRb Rb4
 replace o0 := cell_next hb no o0
 replace o1 := cell_next hb no o1
 replace o2 := cell_next hb no o2
 replace z0 := cell_next hb nz z0
 replace fz0 := frozen_next hb nz fz0
 replace z1 := cell_next hb nz z1
 replace fz1 := frozen_next hb nz fz1
 replace z2 := cell_next hb nz z2
 replace fz2 := frozen_next hb nz fz2
 replace p0 := cell_next hb np p0
 replace p1 := cell_next hb np p1
 replace p2 := cell_next hb np p2
 replace p3 := cell_next hb np p3
 replace p4 := cell_next hb np p4
 replace p5 := cell_next hb np p5
 replace p6 := cell_next hb np p6
 replace p7 := cell_next hb np p7
 replace nRb := Nat.lt_of_lt_of_le nRb hb.size
 replace no := Nat.lt_of_lt_of_le no hb.size
 replace nz := Nat.lt_of_lt_of_le nz hb.size
 replace np := Nat.lt_of_lt_of_le np hb.size
 replace hL := hL.trans (hb.mono (Nat.le_trans hBW hL.size))
 refine hK.out _ _ ⟨o1, o2, p1, p7, trivial⟩ (fun hHeld => ?_)
 clear hK K hb
 try simp only [Act.put, sA, sB, sC]
 refine tq 15 27 ?_ ?_ ?_; rotate_left; (focus intro w h; (try dsimp only at h); go_simp; try with_reducible rfl); try simp only [sA, sB, sC]
 refine rd1 16 (fun K hK => ?_)
 go_simp
 replace Rb0 : (((Z2x2.setCell ⟨w.heap.size + 1 + 1, 0, none⟩ (.int .i64 r1)).setCell ⟨w.heap.size + 1 + 1, 1, none⟩ (.int .i64 r2)).setCell ⟨w.heap.size + 1 + 1, 2, none⟩ (.int .i64 pc)).cell? ⟨w.heap.size, 0, none⟩ = some (.slice A1 n1 c1) := ((so (by omega)).trans ((so (by omega)).trans ((so (by omega)).trans Rb0)))
 replace Rb1 : (((Z2x2.setCell ⟨w.heap.size + 1 + 1, 0, none⟩ (.int .i64 r1)).setCell ⟨w.heap.size + 1 + 1, 1, none⟩ (.int .i64 r2)).setCell ⟨w.heap.size + 1 + 1, 2, none⟩ (.int .i64 pc)).cell? ⟨w.heap.size, 1, none⟩ = some (.slice A2 n2 c2) := ((so (by omega)).trans ((so (by omega)).trans ((so (by omega)).trans Rb1)))
 replace Rb2 : (((Z2x2.setCell ⟨w.heap.size + 1 + 1, 0, none⟩ (.int .i64 r1)).setCell ⟨w.heap.size + 1 + 1, 1, none⟩ (.int .i64 r2)).setCell ⟨w.heap.size + 1 + 1, 2, none⟩ (.int .i64 pc)).cell? ⟨w.heap.size, 2, none⟩ = some (.int .i64 bl) := ((so (by omega)).trans ((so (by omega)).trans ((so (by omega)).trans Rb2)))
 replace Rb3 : (((Z2x2.setCell ⟨w.heap.size + 1 + 1, 0, none⟩ (.int .i64 r1)).setCell ⟨w.heap.size + 1 + 1, 1, none⟩ (.int .i64 r2)).setCell ⟨w.heap.size + 1 + 1, 2, none⟩ (.int .i64 pc)).cell? ⟨w.heap.size, 3, none⟩ = some (.int .i64 bh) := ((so (by omega)).trans ((so (by omega)).trans ((so (by omega)).trans Rb3)))
 replace Rb4 : (((Z2x2.setCell ⟨w.heap.size + 1 + 1, 0, none⟩ (.int .i64 r1)).setCell ⟨w.heap.size + 1 + 1, 1, none⟩ (.int .i64 r2)).setCell ⟨w.heap.size + 1 + 1, 2, none⟩ (.int .i64 pc)).cell? ⟨w.heap.size, 4, none⟩ = some (.slice (some ⟨g, off, none⟩) n c3) := ((so (by omega)).trans ((so (by omega)).trans ((so (by omega)).trans Rb4)))
 replace o0 : (((Z2x2.setCell ⟨w.heap.size + 1 + 1, 0, none⟩ (.int .i64 r1)).setCell ⟨w.heap.size + 1 + 1, 1, none⟩ (.int .i64 r2)).setCell ⟨w.heap.size + 1 + 1, 2, none⟩ (.int .i64 pc)).cell? ⟨w.heap.size + 1, 0, none⟩ = some (.int .i64 ((k : Int))) := ((so (by omega)).trans ((so (by omega)).trans ((so (by omega)).trans o0)))
 replace o1 : (((Z2x2.setCell ⟨w.heap.size + 1 + 1, 0, none⟩ (.int .i64 r1)).setCell ⟨w.heap.size + 1 + 1, 1, none⟩ (.int .i64 r2)).setCell ⟨w.heap.size + 1 + 1, 2, none⟩ (.int .i64 pc)).cell? ⟨w.heap.size + 1, 1, none⟩ = some (.int .i64 ma) := ((so (by omega)).trans ((so (by omega)).trans ((so (by omega)).trans o1)))
 replace o2 : (((Z2x2.setCell ⟨w.heap.size + 1 + 1, 0, none⟩ (.int .i64 r1)).setCell ⟨w.heap.size + 1 + 1, 1, none⟩ (.int .i64 r2)).setCell ⟨w.heap.size + 1 + 1, 2, none⟩ (.int .i64 pc)).cell? ⟨w.heap.size + 1, 2, none⟩ = some (.int .i64 pc) := ((so (by omega)).trans ((so (by omega)).trans ((so (by omega)).trans o2)))
 replace z0 : (((Z2x2.setCell ⟨w.heap.size + 1 + 1, 0, none⟩ (.int .i64 r1)).setCell ⟨w.heap.size + 1 + 1, 1, none⟩ (.int .i64 r2)).setCell ⟨w.heap.size + 1 + 1, 2, none⟩ (.int .i64 pc)).cell? ⟨w.heap.size + 1 + 1, 0, none⟩ = some (.int .i64 r1) := by simp [go_sem, z0]
 replace fz0 : (((Z2x2.setCell ⟨w.heap.size + 1 + 1, 0, none⟩ (.int .i64 r1)).setCell ⟨w.heap.size + 1 + 1, 1, none⟩ (.int .i64 r2)).setCell ⟨w.heap.size + 1 + 1, 2, none⟩ (.int .i64 pc)).frozen? ⟨w.heap.size + 1 + 1, 0, none⟩ = false := by simp [go_sem, fz0]
 replace z1 : (((Z2x2.setCell ⟨w.heap.size + 1 + 1, 0, none⟩ (.int .i64 r1)).setCell ⟨w.heap.size + 1 + 1, 1, none⟩ (.int .i64 r2)).setCell ⟨w.heap.size + 1 + 1, 2, none⟩ (.int .i64 pc)).cell? ⟨w.heap.size + 1 + 1, 1, none⟩ = some (.int .i64 r2) := by simp [go_sem, z1]
 replace fz1 : (((Z2x2.setCell ⟨w.heap.size + 1 + 1, 0, none⟩ (.int .i64 r1)).setCell ⟨w.heap.size + 1 + 1, 1, none⟩ (.int .i64 r2)).setCell ⟨w.heap.size + 1 + 1, 2, none⟩ (.int .i64 pc)).frozen? ⟨w.heap.size + 1 + 1, 1, none⟩ = false := by simp [go_sem, fz1]
 replace z2 : (((Z2x2.setCell ⟨w.heap.size + 1 + 1, 0, none⟩ (.int .i64 r1)).setCell ⟨w.heap.size + 1 + 1, 1, none⟩ (.int .i64 r2)).setCell ⟨w.heap.size + 1 + 1, 2, none⟩ (.int .i64 pc)).cell? ⟨w.heap.size + 1 + 1, 2, none⟩ = some (.int .i64 pc) := by simp [go_sem, z2]
 replace fz2 : (((Z2x2.setCell ⟨w.heap.size + 1 + 1, 0, none⟩ (.int .i64 r1)).setCell ⟨w.heap.size + 1 + 1, 1, none⟩ (.int .i64 r2)).setCell ⟨w.heap.size + 1 + 1, 2, none⟩ (.int .i64 pc)).frozen? ⟨w.heap.size + 1 + 1, 2, none⟩ = false := by simp [go_sem, fz2]
 replace p0 : (((Z2x2.setCell ⟨w.heap.size + 1 + 1, 0, none⟩ (.int .i64 r1)).setCell ⟨w.heap.size + 1 + 1, 1, none⟩ (.int .i64 r2)).setCell ⟨w.heap.size + 1 + 1, 2, none⟩ (.int .i64 pc)).cell? ⟨w.heap.size + 1 + 1 + 1, 0, none⟩ = some (.int .i64 pl) := ((so (by omega)).trans ((so (by omega)).trans ((so (by omega)).trans p0)))
 replace p1 : (((Z2x2.setCell ⟨w.heap.size + 1 + 1, 0, none⟩ (.int .i64 r1)).setCell ⟨w.heap.size + 1 + 1, 1, none⟩ (.int .i64 r2)).setCell ⟨w.heap.size + 1 + 1, 2, none⟩ (.int .i64 pc)).cell? ⟨w.heap.size + 1 + 1 + 1, 1, none⟩ = some (.int .i64 ph) := ((so (by omega)).trans ((so (by omega)).trans ((so (by omega)).trans p1)))
 replace p2 : (((Z2x2.setCell ⟨w.heap.size + 1 + 1, 0, none⟩ (.int .i64 r1)).setCell ⟨w.heap.size + 1 + 1, 1, none⟩ (.int .i64 r2)).setCell ⟨w.heap.size + 1 + 1, 2, none⟩ (.int .i64 pc)).cell? ⟨w.heap.size + 1 + 1 + 1, 2, none⟩ = some (.int .i64 ql) := ((so (by omega)).trans ((so (by omega)).trans ((so (by omega)).trans p2)))
 replace p3 : (((Z2x2.setCell ⟨w.heap.size + 1 + 1, 0, none⟩ (.int .i64 r1)).setCell ⟨w.heap.size + 1 + 1, 1, none⟩ (.int .i64 r2)).setCell ⟨w.heap.size + 1 + 1, 2, none⟩ (.int .i64 pc)).cell? ⟨w.heap.size + 1 + 1 + 1, 3, none⟩ = some (.int .i64 qh) := ((so (by omega)).trans ((so (by omega)).trans ((so (by omega)).trans p3)))
 replace p4 : (((Z2x2.setCell ⟨w.heap.size + 1 + 1, 0, none⟩ (.int .i64 r1)).setCell ⟨w.heap.size + 1 + 1, 1, none⟩ (.int .i64 r2)).setCell ⟨w.heap.size + 1 + 1, 2, none⟩ (.int .i64 pc)).cell? ⟨w.heap.size + 1 + 1 + 1, 4, none⟩ = some (.int .i64 rl) := ((so (by omega)).trans ((so (by omega)).trans ((so (by omega)).trans p4)))
 replace p5 : (((Z2x2.setCell ⟨w.heap.size + 1 + 1, 0, none⟩ (.int .i64 r1)).setCell ⟨w.heap.size + 1 + 1, 1, none⟩ (.int .i64 r2)).setCell ⟨w.heap.size + 1 + 1, 2, none⟩ (.int .i64 pc)).cell? ⟨w.heap.size + 1 + 1 + 1, 5, none⟩ = some (.int .i64 rh) := ((so (by omega)).trans ((so (by omega)).trans ((so (by omega)).trans p5)))
 replace p6 : (((Z2x2.setCell ⟨w.heap.size + 1 + 1, 0, none⟩ (.int .i64 r1)).setCell ⟨w.heap.size + 1 + 1, 1, none⟩ (.int .i64 r2)).setCell ⟨w.heap.size + 1 + 1, 2, none⟩ (.int .i64 pc)).cell? ⟨w.heap.size + 1 + 1 + 1, 6, none⟩ = some (.int .i64 pse) := ((so (by omega)).trans ((so (by omega)).trans ((so (by omega)).trans p6)))
 replace p7 : (((Z2x2.setCell ⟨w.heap.size + 1 + 1, 0, none⟩ (.int .i64 r1)).setCell ⟨w.heap.size + 1 + 1, 1, none⟩ (.int .i64 r2)).setCell ⟨w.heap.size + 1 + 1, 2, none⟩ (.int .i64 pc)).cell? ⟨w.heap.size + 1 + 1 + 1, 7, none⟩ = some (.int .i64 pwo) := ((so (by omega)).trans ((so (by omega)).trans ((so (by omega)).trans p7)))
 replace nRb : w.heap.size < (((Z2x2.setCell ⟨w.heap.size + 1 + 1, 0, none⟩ (.int .i64 r1)).setCell ⟨w.heap.size + 1 + 1, 1, none⟩ (.int .i64 r2)).setCell ⟨w.heap.size + 1 + 1, 2, none⟩ (.int .i64 pc)).heap.size := by simpa [World.setCell] using nRb
 replace no : w.heap.size + 1 < (((Z2x2.setCell ⟨w.heap.size + 1 + 1, 0, none⟩ (.int .i64 r1)).setCell ⟨w.heap.size + 1 + 1, 1, none⟩ (.int .i64 r2)).setCell ⟨w.heap.size + 1 + 1, 2, none⟩ (.int .i64 pc)).heap.size := by simpa [World.setCell] using no
 replace nz : w.heap.size + 1 + 1 < (((Z2x2.setCell ⟨w.heap.size + 1 + 1, 0, none⟩ (.int .i64 r1)).setCell ⟨w.heap.size + 1 + 1, 1, none⟩ (.int .i64 r2)).setCell ⟨w.heap.size + 1 + 1, 2, none⟩ (.int .i64 pc)).heap.size := by simpa [World.setCell] using nz
 replace np : w.heap.size + 1 + 1 + 1 < (((Z2x2.setCell ⟨w.heap.size + 1 + 1, 0, none⟩ (.int .i64 r1)).setCell ⟨w.heap.size + 1 + 1, 1, none⟩ (.int .i64 r2)).setCell ⟨w.heap.size + 1 + 1, 2, none⟩ (.int .i64 pc)).heap.size := by simpa [World.setCell] using np
 replace hL := hL.setCell (p := ⟨w.heap.size + 1 + 1, 0, none⟩) (by show w.heap.size ≤ w.heap.size + 1 + 1; omega) (.int .i64 r1)
 replace hL := hL.setCell (p := ⟨w.heap.size + 1 + 1, 1, none⟩) (by show w.heap.size ≤ w.heap.size + 1 + 1; omega) (.int .i64 r2)
 replace hL := hL.setCell (p := ⟨w.heap.size + 1 + 1, 2, none⟩) (by show w.heap.size ≤ w.heap.size + 1 + 1; omega) (.int .i64 pc)
 refine hK.out _ _ ⟨o1, o2, p1, p7, trivial⟩ (fun hHeld => ?_)
 clear hK K
 try simp only [Act.put, sA, sB, sC]
 refine wpAnyH_done (by kernel_rfl) ?_ _
 replace hB := hB.trans hL
 clear hHeld hL hBW
 go_wp2_with fail
 refine bodyPost_ret (v := .agg #[.int .i64 r1, .int .i64 r2, .int .i64 pc]) (by simp [results, Tryz.results68, go_sem, z0, z1, z2, fz0, fz1, fz2]) rfl ⟨rfl, hB⟩

set_option maxRecDepth 20000 in
set_option maxHeartbeats 1000000 in
theorem needs_any (v1 v2 v3 : Value) (R : Cr) (o : Od) (w : World) (hv : CrAt w.heap.size w v1 v2 v3 R) : Calls Tryz.prog 27 #[.agg (cCr v1 v2 v3 R).toArray, .agg (cOd o).toArray] w fun e w' => e = .returned (.tuple #[.int .i64 (if ndE R o = 0 then ndS R.ps o else 0), .int .i64 (if ndE R o = 0 then ndW R.ps o else 0), .int .i64 (ndE R o)]) ∧ Below w.heap.size w w' := by
 have C1 := Lib.hid (fun (W : World) (h : Below w.heap.size w W) => jCheck_any v1 v2 v3 R W (hv.next h))
 obtain ⟨pr, ma, pc⟩ := o
 have hcr := fun (h : crB R = true) => (crB_ok h).2.2.2
 obtain ⟨A1, c1, A2, c2, A3, c3, rfl, rfl, rfl⟩ := hv.slices
 obtain ⟨xs, ys, bl, bh, ps⟩ := R
 dsimp only at hcr
 have C2 := Lib.hid (fun (h : crB ⟨xs, ys, bl, bh, ps⟩ = true) (W : World) => validOrder_any A1 A2 A3 xs.length ys.length ps.length c1 c2 c3 bl bh pr ma pc (hcr h).1.2 W)
 have C3 := Lib.hid (fun (h : crB ⟨xs, ys, bl, bh, ps⟩ = true) (h1 : orB ps.length ⟨pr, ma, pc⟩ = true) (W : World) (hW : Below w.heap.size w W) => needOf_any A1 A2 xs.length ys.length c1 c2 (.slice A3 ps.length c3) ps bl bh pr ma pc (hcr h).2 h1 W (hv.next hW).p)
 have HE : Hid (ndE ⟨xs, ys, bl, bh, ps⟩ ⟨pr, ma, pc⟩ = if crB ⟨xs, ys, bl, bh, ps⟩ then (if orB ps.length ⟨pr, ma, pc⟩ then 0 else 2) else 2) := Lib.hid rfl
 dsimp only [cCr, cOd] at *
 obtain ⟨E, hE⟩ : ∃ E, ndE ⟨xs, ys, bl, bh, ps⟩ ⟨pr, ma, pc⟩ = E := ⟨_, rfl⟩
 rw [hE] at HE ⊢
 clear hE hv hcr
 generalize crB ⟨xs, ys, bl, bh, ps⟩ = z1 at *
 generalize orB ps.length ⟨pr, ma, pc⟩ = z2 at *
 generalize ndS ps ⟨pr, ma, pc⟩ = r1 at *
 generalize ndW ps ⟨pr, ma, pc⟩ = r2 at *
 generalize xs.length = n1 at *
 generalize ys.length = n2 at *
 generalize ps.length = n at *
 go_enter Tryz.func27, Tryz.ntmps27
 go_wp2_with fail
 refine (C1.out _ (((Below.refl _ _).alloc (Nat.le_refl _) _).alloc (by simp) _)).mono ?_
 rintro e W1 ⟨rfl, hb⟩
 have Rb0 := cell_next hb (b := w.heap.size) (o := 0) (by simp <;> omega) (v := some (.slice A1 n1 c1)) (by simp [go_sem])
 have Rb1 := cell_next hb (b := w.heap.size) (o := 1) (by simp <;> omega) (v := some (.slice A2 n2 c2)) (by simp [go_sem])
 have Rb2 := cell_next hb (b := w.heap.size) (o := 2) (by simp <;> omega) (v := some (.int .i64 bl)) (by simp [go_sem])
 have Rb3 := cell_next hb (b := w.heap.size) (o := 3) (by simp <;> omega) (v := some (.int .i64 bh)) (by simp [go_sem])
 have Rb4 := cell_next hb (b := w.heap.size) (o := 4) (by simp <;> omega) (v := some (.slice A3 n c3)) (by simp [go_sem])
 have nRb : w.heap.size < W1.heap.size := by have := hb.size; simp at this; omega
 have o0 := cell_next hb (b := w.heap.size + 1) (o := 0) (by simp <;> omega) (v := some (.int .i64 pr)) (by simp [go_sem])
 have o1 := cell_next hb (b := w.heap.size + 1) (o := 1) (by simp <;> omega) (v := some (.int .i64 ma)) (by simp [go_sem])
 have o2 := cell_next hb (b := w.heap.size + 1) (o := 2) (by simp <;> omega) (v := some (.int .i64 pc)) (by simp [go_sem])
 have no : w.heap.size + 1 < W1.heap.size := by have := hb.size; simp at this; omega
 have hB := (below2 hb)
 clear hb
 cases z1
 ·obtain rfl : E = 2 := HE.out.trans (by simp)
  go_wp2_with fail
  go_ret3
  exact ⟨by simp, hB⟩
 ·go_wp2_with fail
  refine (C2.out (by simp) _).mono ?_
  rintro e W2 ⟨rfl, hb⟩
  replace Rb0 := cell_next hb nRb Rb0
  replace Rb1 := cell_next hb nRb Rb1
  replace Rb2 := cell_next hb nRb Rb2
  replace Rb3 := cell_next hb nRb Rb3
  replace Rb4 := cell_next hb nRb Rb4
  replace nRb := Nat.lt_of_lt_of_le nRb hb.size
  replace o0 := cell_next hb no o0
  replace o1 := cell_next hb no o1
  replace o2 := cell_next hb no o2
  replace no := Nat.lt_of_lt_of_le no hb.size
  replace hB := hB.trans (hb.mono hB.size)
  clear hb
  cases z2
  ·obtain rfl : E = 2 := HE.out.trans (by simp)
   go_wp2_with fail
   go_ret3
   exact ⟨by simp, hB⟩
  ·obtain rfl : E = 0 := HE.out.trans (by simp)
   go_wp2_with fail
   refine (C3.out (by simp) (by simp) _ hB).mono ?_
   rintro e W3 ⟨rfl, hb⟩
   replace Rb0 := cell_next hb nRb Rb0
   replace Rb1 := cell_next hb nRb Rb1
   replace Rb2 := cell_next hb nRb Rb2
   replace Rb3 := cell_next hb nRb Rb3
   replace Rb4 := cell_next hb nRb Rb4
   replace nRb := Nat.lt_of_lt_of_le nRb hb.size
   replace o0 := cell_next hb no o0
   replace o1 := cell_next hb no o1
   replace o2 := cell_next hb no o2
   replace no := Nat.lt_of_lt_of_le no hb.size
   replace hB := hB.trans (hb.mono hB.size)
   clear hb
   go_wp2_with fail
   have hb : Below W3.heap.size W3 (W3.alloc (Obj.cells #[.int .i64 r1, .int .i64 r2, .int .i64 pc] 123)) := ((Below.refl _ _).alloc (Nat.le_refl _) _)
   replace Rb0 := cell_next hb nRb Rb0
   replace Rb1 := cell_next hb nRb Rb1
   replace Rb2 := cell_next hb nRb Rb2
   replace Rb3 := cell_next hb nRb Rb3
   replace Rb4 := cell_next hb nRb Rb4
   replace nRb := Nat.lt_of_lt_of_le nRb hb.size
   replace o0 := cell_next hb no o0
   replace o1 := cell_next hb no o1
   replace o2 := cell_next hb no o2
   replace no := Nat.lt_of_lt_of_le no hb.size
   have k0 : (W3.alloc (Obj.cells #[.int .i64 r1, .int .i64 r2, .int .i64 pc] 123)).cell? ⟨W3.heap.size, 0, none⟩ = some (.int .i64 r1) := by simp [go_sem]
   have k1 : (W3.alloc (Obj.cells #[.int .i64 r1, .int .i64 r2, .int .i64 pc] 123)).cell? ⟨W3.heap.size, 1, none⟩ = some (.int .i64 r2) := by simp [go_sem]
   have k2 : (W3.alloc (Obj.cells #[.int .i64 r1, .int .i64 r2, .int .i64 pc] 123)).cell? ⟨W3.heap.size, 2, none⟩ = some (.int .i64 pc) := by simp [go_sem]
   have nk : W3.heap.size < (W3.alloc (Obj.cells #[.int .i64 r1, .int .i64 r2, .int .i64 pc] 123)).heap.size := by simp <;> omega
   replace hB := hB.trans (hb.mono hB.size)
   clear hb
   generalize (W3.alloc (Obj.cells #[.int .i64 r1, .int .i64 r2, .int .i64 pc] 123)) = W4 at *
   generalize W3.heap.size = q4 at *
   have hBW : W4.heap.size ≤ W4.heap.size := Nat.le_refl _
   refine wp_region_held_drew (S := fun w' => w'.cell? ⟨q4, 0, none⟩ = some (.int .i64 r1) ∧ w'.cell? ⟨q4, 1, none⟩ = some (.int .i64 r2) ∧ True) (by kernel_rfl) ?_ (fun hHeld => ?_)
   focus (exact ⟨k0, k1, trivial⟩)
   have hL : Below W4.heap.size W4 W4.drew := Below.drew (Below.refl _ _)
   replace Rb0 : W4.drew.cell? ⟨w.heap.size, 0, none⟩ = some (.slice A1 n1 c1) := Rb0
   replace Rb1 : W4.drew.cell? ⟨w.heap.size, 1, none⟩ = some (.slice A2 n2 c2) := Rb1
   replace Rb2 : W4.drew.cell? ⟨w.heap.size, 2, none⟩ = some (.int .i64 bl) := Rb2
   replace Rb3 : W4.drew.cell? ⟨w.heap.size, 3, none⟩ = some (.int .i64 bh) := Rb3
   replace Rb4 : W4.drew.cell? ⟨w.heap.size, 4, none⟩ = some (.slice A3 n c3) := Rb4
   replace o0 : W4.drew.cell? ⟨w.heap.size + 1, 0, none⟩ = some (.int .i64 pr) := o0
   replace o1 : W4.drew.cell? ⟨w.heap.size + 1, 1, none⟩ = some (.int .i64 ma) := o1
   replace o2 : W4.drew.cell? ⟨w.heap.size + 1, 2, none⟩ = some (.int .i64 pc) := o2
   replace k0 : W4.drew.cell? ⟨q4, 0, none⟩ = some (.int .i64 r1) := k0
   replace k1 : W4.drew.cell? ⟨q4, 1, none⟩ = some (.int .i64 r2) := k1
   replace k2 : W4.drew.cell? ⟨q4, 2, none⟩ = some (.int .i64 pc) := k2
   replace nRb : w.heap.size < W4.drew.heap.size := nRb
   replace no : w.heap.size + 1 < W4.drew.heap.size := no
   replace nk : q4 < W4.drew.heap.size := nk
   generalize hWd : W4.drew = wd5 at hHeld hL Rb0 Rb1 Rb2 Rb3 Rb4 o0 o1 o2 k0 k1 k2 nRb no nk  ⊢
   clear hWd
   refine tq 0 21 ?_ ?_ ?_; rotate_left; (focus intro w h; (try dsimp only at h); go_simp; try with_reducible rfl); try simp only [sA, sB, sC]
   refine tq 1 22 ?_ ?_ ?_; rotate_left; (focus intro w h; (try dsimp only at h); go_simp; try with_reducible rfl); try simp only [sA, sB, sC]
   refine tq 2 23 ?_ ?_ ?_; rotate_left; (focus intro w h; (try dsimp only at h); go_simp; try with_reducible rfl); try simp only [sA, sB, sC]
   refine tq 3 24 ?_ ?_ ?_; rotate_left; (focus intro w h; (try dsimp only at h); go_simp; try with_reducible rfl); try simp only [sA, sB, sC]
   refine tq 4 4 ?_ ?_ ?_; rotate_left; (focus intro w h; (try dsimp only at h); go_simp; try with_reducible rfl); try simp only [sA, sB, sC]
   refine tq 5 5 ?_ ?_ ?_; rotate_left; (focus intro w h; (try dsimp only at h); go_simp; try with_reducible rfl); try simp only [sA, sB, sC]
   refine tq 6 6 ?_ ?_ ?_; rotate_left; (focus intro w h; (try dsimp only at h); go_simp; try with_reducible rfl); try simp only [sA, sB, sC]
   refine wpAnyH_done (by kernel_rfl) ?_ _
   replace hB := hB.trans (hL.mono hB.size)
   clear hHeld hL hBW
   go_wp2_with fail
   go_ret3
   exact ⟨by simp, hB⟩
end Go.Proofs.YtgklpbgdimkhaaaGreat
