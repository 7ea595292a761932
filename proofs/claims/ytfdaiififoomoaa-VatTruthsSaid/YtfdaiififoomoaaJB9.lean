/- Contracts: U6, U7, U9, U10, joined. -/
import Derived.Test.YtfdaiififoomoaaJB8
namespace Go.Proofs.Ytfdaiififoomoaa
open Go.RowKit Go.Lib Go.Shelf
set_option linter.unusedVariables false
set_option linter.unusedSimpArgs false
attribute [local go_sem ↓] Go.wp_at_zero Go.wp_at_succ
attribute [local go_sem] Oper.semAt_some

/-- how a function with marks is left, where it never panics -/
def QM (F : Fence) (n : Nat) (P : Program) (fn : Func) (R : Ending → World → Prop) : Exit → Act → World → Prop
  | .normal, a, w | .ret, a, w => LeavesInM F n P fn a.tmps R a.defers .returning w
  | _, _, _ => False
theorem qm_post {F : Fence} {n : Nat} {P : Program} {fn : Func} {R : Ending → World → Prop} (e : Exit) (a : Act) (w : World) (h : QM F n P fn R e a w) : bodyPostM F n P fn R e a w := by
  cases e <;> first | exact h | exact h.elim

set_option maxHeartbeats 400000 in
theorem behind_any (a s t p R : Int) (w : World) :
    Calls Try.prog 78 #[.agg #[.int .i64 a, .int .i64 s], .int .i64 t, .int .i64 p, .int .i64 R] w fun e w' => e = .returned (.func (Fn.func 90) #[] #[.pointer (some ⟨w.heap.size, 0, none⟩), .pointer (some ⟨w.heap.size + 3, 0, none⟩), .pointer (some ⟨w.heap.size + 1, 0, none⟩), .pointer (some ⟨w.heap.size + 2, 0, none⟩)]) ∧
      (w'.cell? ⟨w.heap.size, 0, none⟩ = some (.int .i64 a) ∧ w'.cell? ⟨w.heap.size, 1, none⟩ = some (.int .i64 s) ∧ w'.cell? ⟨w.heap.size + 3, 0, none⟩ = some (.int .i64 R) ∧ w'.cell? ⟨w.heap.size + 1, 0, none⟩ = some (.int .i64 t) ∧ w'.cell? ⟨w.heap.size + 2, 0, none⟩ = some (.int .i64 p)) ∧ w'.heap.size = w.heap.size + 4 ∧ Below w.heap.size w w' := by
  go_enter Try.func78, Try.ntmps78
  go_wp2
  go_ret
  refine ⟨rfl, ⟨by simp [go_sem], by simp [go_sem], by simp [go_sem], by simp [go_sem], by simp [go_sem]⟩, by simp, (below_al2 w _ _).trans ((below_al2 _ _ _).mono (by simp; omega))⟩

theorem Kept.set {U : Nat → Prop} (W : World) {p : Addr} (hp : U p.block) (v : Value) : Kept U W (W.setCell p v) := ⟨by simp [World.setCell], fun k o ho hu => (Below.heap_setCell _ _ _ _ (fun e => hu (by rw [e]; exact hp))).trans ho⟩

/-- between two rounds: the results' cells -/
def RI (b t p a s : Nat) (w : World) (k : Nat) (W : World) : Prop :=
  Below b w W ∧ b + 2 < W.heap.size ∧ ∃ x1 x2 y1 y2 : Int, W.cell? ⟨b + 1, 0, none⟩ = some (.int .i64 x1) ∧ W.cell? ⟨b + 1, 1, none⟩ = some (.int .i64 x2) ∧ W.cell? ⟨b + 2, 0, none⟩ = some (.int .i64 y1) ∧ W.cell? ⟨b + 2, 1, none⟩ = some (.int .i64 y2) ∧
    W.frozen? ⟨b + 1, 0, none⟩ = false ∧ W.frozen? ⟨b + 1, 1, none⟩ = false ∧ W.frozen? ⟨b + 2, 0, none⟩ = false ∧ W.frozen? ⟨b + 2, 1, none⟩ = false ∧
    (0 < k → x1 = ((rk t p (a, s) (k - 1)).1 : Nat) ∧ x2 = ((rk t p (a, s) (k - 1)).2 : Nat) ∧ y1 = ((a - (rk t p (a, s) (k - 1)).1 : Nat) : Int) ∧ y2 = ((s - (rk t p (a, s) (k - 1)).2 : Nat) : Int))
theorem RI.next {b t p a s k : Nat} {w A B : World} {C : Nat} (h : RI b t p a s w k A) (hb : Below C A B) (hC : b + 2 < C) : RI b t p a s w k B := by
  obtain ⟨h1, h2, x1, x2, y1, y2, c1, c2, c3, c4, f1, f2, f3, f4, hk⟩ := h
  exact ⟨h1.trans (hb.mono (by omega)), Nat.lt_of_lt_of_le h2 hb.size, x1, x2, y1, y2, cell_next hb (by omega) c1, cell_next hb (by omega) c2, cell_next hb (by omega) c3, cell_next hb (by omega) c4, frozen_next hb (by omega) f1, frozen_next hb (by omega) f2, frozen_next hb (by omega) f3, frozen_next hb (by omega) f4, hk⟩

set_option maxRecDepth 40000 in
set_option maxHeartbeats 4000000 in
theorem rounds_ok (a s t p R : Nat) (ha : a ≤ 1000000000000) (hs : s ≤ 1000000000000) (ht : t ≤ 10000) (hp : p ≤ 10000) (hR : R ≤ 200) (w : World) :
    Calls Try.prog 53 #[.agg #[.int .i64 (a : Int), .int .i64 (s : Int)], .int .i64 (t : Int), .int .i64 (p : Int), .int .i64 (R : Int)] w fun e w' =>
      e = .returned (.tuple #[.agg #[.int .i64 ((rk t p (a, s) R).1 : Nat), .int .i64 ((rk t p (a, s) R).2 : Nat)], .agg #[.int .i64 ((a - (rk t p (a, s) R).1 : Nat) : Int), .int .i64 ((s - (rk t p (a, s) R).2 : Nat) : Int)], .int .i64 0]) ∧ Below w.heap.size w w' := by
  have c1 := Lib.hid (vSap_any (a : Int) (s : Int))
  rw [show spB (a : Int) (s : Int) = true from by simp [spB]; omega] at c1
  have c2 := Lib.hid (fun (W : World) (g c : Nat) => in2_any 0 10000 (t : Int) (p : Int) g c W)
  rw [show (inB 0 10000 (t : Int) && inB 0 10000 (p : Int)) = true from by simp [inB]; omega] at c2
  have c3 := Lib.hid (fun (W : World) (g c : Nat) => in1v_any 0 200 (R : Int) g c W)
  rw [show inB 0 200 (R : Int) = true from by simp [inB]; omega] at c3
  have c4 := Lib.hid (behind_any (a : Int) (s : Int) (t : Int) (p : Int) (R : Int))
  refine (callsIn_wide (n := 10)).1 (callsIn_of_wp_marks Try.func53 rfl trivial ?_ rfl)
  refine wpIn_mono (wpIn_wide.2 ?_) qm_post
  simp only [Try.ntmps53, List.size_toArray, List.length_cons, List.length_nil, Nat.reduceAdd, Nat.reduceSub, Array.replicate_succ, Array.replicate_zero, List.push_toArray, List.append_toArray, List.nil_append, List.cons_append]
  go_wp2_with fail
  refine (c1.out _).mono ?_
  rintro e w1 ⟨rfl, hb1⟩
  have hB0 : ∀ o1 o2 o3, Below w.heap.size w (((w.alloc o1).alloc o2).alloc o3) := fun _ _ _ => (below_al2 w _ _).trans (((Below.refl _ _).alloc (Nat.le_refl _) _).mono (by simp; omega))
  have hB1 := (hB0 _ _ _).trans (hb1.mono (by simp; omega))
  have hz1 := hb1.size
  simp at hz1
  have s0 := cell_next hb1 (b := w.heap.size) (o := 0) (by simp; omega) (v := some (.int .i64 (a : Int))) (by simp [go_sem])
  have s1 := cell_next hb1 (b := w.heap.size) (o := 1) (by simp; omega) (v := some (.int .i64 (s : Int))) (by simp [go_sem])
  have x0 := cell_next hb1 (b := w.heap.size + 1) (o := 0) (by simp) (v := some (.int .i64 0)) (by simp [go_sem])
  have x1 := cell_next hb1 (b := w.heap.size + 1) (o := 1) (by simp) (v := some (.int .i64 0)) (by simp [go_sem])
  have y0 := cell_next hb1 (b := w.heap.size + 2) (o := 0) (by simp) (v := some (.int .i64 0)) (by simp [go_sem])
  have y1 := cell_next hb1 (b := w.heap.size + 2) (o := 1) (by simp) (v := some (.int .i64 0)) (by simp [go_sem])
  have f0 := frozen_next hb1 (b := w.heap.size + 1) (o := 0) (by simp) (v := false) (by simp [go_sem])
  have f1 := frozen_next hb1 (b := w.heap.size + 1) (o := 1) (by simp) (v := false) (by simp [go_sem])
  have g0 := frozen_next hb1 (b := w.heap.size + 2) (o := 0) (by simp) (v := false) (by simp [go_sem])
  have g1 := frozen_next hb1 (b := w.heap.size + 2) (o := 1) (by simp) (v := false) (by simp [go_sem])
  have HI : Hid (RI w.heap.size t p a s w 0 w1 ∧ w1.cell? ⟨w.heap.size, 0, none⟩ = some (.int .i64 (a : Int)) ∧ w1.cell? ⟨w.heap.size, 1, none⟩ = some (.int .i64 (s : Int))) := Lib.hid ⟨⟨hB1, by omega, 0, 0, 0, 0, x0, x1, y0, y1, f0, f1, g0, g1, fun h => by omega⟩, s0, s1⟩
  clear hb1 hB0 hB1 s0 s1 x0 x1 y0 y1 f0 f1 g0 g1 hz1
  go_wp2_with fail
  refine (c2.out _ _ _ (by simp) (by simp [go_sem]) (by simp [go_sem])).mono ?_
  rintro e w2 ⟨rfl, hb2⟩
  replace HI : Hid (RI w.heap.size t p a s w 0 w2 ∧ w2.cell? ⟨w.heap.size, 0, none⟩ = some (.int .i64 (a : Int)) ∧ w2.cell? ⟨w.heap.size, 1, none⟩ = some (.int .i64 (s : Int))) := Lib.hid (by
    obtain ⟨h, h0, h1⟩ := HI.out
    have hb := below1 hb2
    have := h.2.1
    exact ⟨h.next hb this, cell_next hb (by omega) h0, cell_next hb (by omega) h1⟩)
  clear hb2
  go_wp2_with fail
  refine (c3.out _ _ _ (by simp) (by simp [go_sem])).mono ?_
  rintro e w3 ⟨rfl, hb3⟩
  replace HI : Hid (RI w.heap.size t p a s w 0 w3 ∧ w3.cell? ⟨w.heap.size, 0, none⟩ = some (.int .i64 (a : Int)) ∧ w3.cell? ⟨w.heap.size, 1, none⟩ = some (.int .i64 (s : Int))) := Lib.hid (by
    obtain ⟨h, h0, h1⟩ := HI.out
    have hb := below1 hb3
    have := h.2.1
    exact ⟨h.next hb this, cell_next hb (by omega) h0, cell_next hb (by omega) h1⟩)
  clear hb3
  obtain ⟨hI, s0, s1⟩ := HI.out
  clear HI
  have HI := Lib.hid hI
  clear hI
  go_wp2_with fail
  refine (c4.out _).mono ?_
  rintro e w4 ⟨rfl, ⟨k1, k2, k3, k4, k5⟩, hz4, hb4⟩
  have HI4 : RI w.heap.size t p a s w 0 w4 := HI.out.next hb4 HI.out.2.1
  have hz3 := HI.out.2.1
  clear HI c1 c2 c3 c4 hb4 s0 s1
  go_wp2_with fail
  refine (wpIn_wide (n := 10)).1 (range_law (w := w4) (R + 1) (fun i => i = w.heap.size + 1 ∨ i = w.heap.size + 2) (encK t p a s) (gf := 90) (lb := #[.pointer (some ⟨w3.heap.size, 0, none⟩), .pointer (some ⟨w3.heap.size + 3, 0, none⟩), .pointer (some ⟨w3.heap.size + 1, 0, none⟩), .pointer (some ⟨w3.heap.size + 2, 0, none⟩)]) rfl (enters_of Try.func90 (by kernel_rfl) rfl) (fun k hk h => by rcases h with h | h <;> omega)
    (behind1_in 10 (by omega) t p a s R _ _ _ _ ha hs ht hp hR _ w4 (by omega) (by omega) (by omega) (by omega) (fun h => by rcases h with h | h <;> omega) (fun h => by rcases h with h | h <;> omega) (fun h => by rcases h with h | h <;> omega) (fun h => by rcases h with h | h <;> omega) (fun k hk h => by rcases h with h | h <;> omega) k1 k2 k3 k4 k5)
    (fun k => rfl) (RI w.heap.size t p a s w) (fun _ _ => False) (fun k A B h hb => h.next hb (by omega)) (fun _ _ _ h _ => h) HI4 (fun k _ W => RI w.heap.size t p a s w (k + 1) W) (fun k _ A B h hb => h.next hb (by omega)) ?assign ?body ?done ?stop)
  case assign =>
    intro l k W K hk hi hK
    obtain ⟨h1, h2, x1, x2, y1, y2, c1, c2, c3, c4, f1, f2, f3, f4, hkk⟩ := hi
    have h2a : w.heap.size + 1 < W.heap.size := by omega
    have h2b : w.heap.size < W.heap.size := by omega
    simp only [encK]
    gi_wp2
    refine hK _ _ ((((Kept.set _ (.inl rfl) _).trans (Kept.set _ (.inl rfl) _)).trans (Kept.set _ (.inr rfl) _)).trans (Kept.set _ (.inr rfl) _)) ⟨((((h1.setCell (by simp <;> omega) _).setCell (by simp <;> omega) _).setCell (by simp <;> omega) _).setCell (by simp <;> omega) _), by simpa [World.setCell] using h2, _, _, _, _, ?_, ?_, ?_, ?_, ?_, ?_, ?_, ?_, fun _ => ⟨rfl, rfl, rfl, rfl⟩⟩
    all_goals simp [go_sem, *]
  case body =>
    intro l k a' W hk hA
    gi_wp2
    first | exact Kept.refl _ _ | exact ⟨Kept.refl _ _, hA⟩
  case stop =>
    intro D k W hD hk h _
    exact h.elim
  case done =>
    intro D W hD hI hK
    obtain ⟨h1, h2, x1, x2, y1, y2, c1, c2, c3, c4, f1, f2, f3, f4, hkk⟩ := hI
    obtain ⟨rfl, rfl, rfl, rfl⟩ := hkk (by omega)
    have h2a : w.heap.size + 1 < W.heap.size := by omega
    have h2b : w.heap.size < W.heap.size := by omega
    go_wp2_with fail
    go_region
    all_goals
      go_wp2_with fail
      show LeavesInM Fence.wide 10 _ _ _ _ _ .returning _
      have hZk : Kept (fun i => i = w.heap.size + 1 ∨ i = w.heap.size + 2) W ((((W.setCell ⟨w.heap.size + 1, 0, none⟩ (.int .i64 ((rk t p (a, s) R).1 : Nat))).setCell ⟨w.heap.size + 1, 1, none⟩ (.int .i64 ((rk t p (a, s) R).2 : Nat))).setCell ⟨w.heap.size + 1 + 1, 0, none⟩ (.int .i64 ((a - (rk t p (a, s) R).1 : Nat) : Int))).setCell ⟨w.heap.size + 1 + 1, 1, none⟩ (.int .i64 ((s - (rk t p (a, s) R).2 : Nat) : Int))).drew :=
        (((Kept.set _ (.inl rfl) _).trans (Kept.set _ (.inl rfl) _)).trans (Kept.set _ (.inr rfl) _)).trans (Kept.set _ (.inr rfl) _)
      have hZb : Below w.heap.size w ((((W.setCell ⟨w.heap.size + 1, 0, none⟩ (.int .i64 ((rk t p (a, s) R).1 : Nat))).setCell ⟨w.heap.size + 1, 1, none⟩ (.int .i64 ((rk t p (a, s) R).2 : Nat))).setCell ⟨w.heap.size + 1 + 1, 0, none⟩ (.int .i64 ((a - (rk t p (a, s) R).1 : Nat) : Int))).setCell ⟨w.heap.size + 1 + 1, 1, none⟩ (.int .i64 ((s - (rk t p (a, s) R).2 : Nat) : Int))).drew :=
        ((((h1.setCell (by simp <;> omega) _).setCell (by simp <;> omega) _).setCell (by simp <;> omega) _).setCell (by simp <;> omega) _).drew
      have z1 : ((((W.setCell ⟨w.heap.size + 1, 0, none⟩ (.int .i64 ((rk t p (a, s) R).1 : Nat))).setCell ⟨w.heap.size + 1, 1, none⟩ (.int .i64 ((rk t p (a, s) R).2 : Nat))).setCell ⟨w.heap.size + 1 + 1, 0, none⟩ (.int .i64 ((a - (rk t p (a, s) R).1 : Nat) : Int))).setCell ⟨w.heap.size + 1 + 1, 1, none⟩ (.int .i64 ((s - (rk t p (a, s) R).2 : Nat) : Int))).drew.cell? ⟨w.heap.size + 1, 0, none⟩ = some (.int .i64 ((rk t p (a, s) R).1 : Nat)) := by simp [go_sem, *]
      have z2 : ((((W.setCell ⟨w.heap.size + 1, 0, none⟩ (.int .i64 ((rk t p (a, s) R).1 : Nat))).setCell ⟨w.heap.size + 1, 1, none⟩ (.int .i64 ((rk t p (a, s) R).2 : Nat))).setCell ⟨w.heap.size + 1 + 1, 0, none⟩ (.int .i64 ((a - (rk t p (a, s) R).1 : Nat) : Int))).setCell ⟨w.heap.size + 1 + 1, 1, none⟩ (.int .i64 ((s - (rk t p (a, s) R).2 : Nat) : Int))).drew.cell? ⟨w.heap.size + 1, 1, none⟩ = some (.int .i64 ((rk t p (a, s) R).2 : Nat)) := by simp [go_sem, *]
      have z3 : ((((W.setCell ⟨w.heap.size + 1, 0, none⟩ (.int .i64 ((rk t p (a, s) R).1 : Nat))).setCell ⟨w.heap.size + 1, 1, none⟩ (.int .i64 ((rk t p (a, s) R).2 : Nat))).setCell ⟨w.heap.size + 1 + 1, 0, none⟩ (.int .i64 ((a - (rk t p (a, s) R).1 : Nat) : Int))).setCell ⟨w.heap.size + 1 + 1, 1, none⟩ (.int .i64 ((s - (rk t p (a, s) R).2 : Nat) : Int))).drew.cell? ⟨w.heap.size + 1 + 1, 0, none⟩ = some (.int .i64 ((a - (rk t p (a, s) R).1 : Nat) : Int)) := by simp [go_sem, *]
      have z4 : ((((W.setCell ⟨w.heap.size + 1, 0, none⟩ (.int .i64 ((rk t p (a, s) R).1 : Nat))).setCell ⟨w.heap.size + 1, 1, none⟩ (.int .i64 ((rk t p (a, s) R).2 : Nat))).setCell ⟨w.heap.size + 1 + 1, 0, none⟩ (.int .i64 ((a - (rk t p (a, s) R).1 : Nat) : Int))).setCell ⟨w.heap.size + 1 + 1, 1, none⟩ (.int .i64 ((s - (rk t p (a, s) R).2 : Nat) : Int))).drew.cell? ⟨w.heap.size + 1 + 1, 1, none⟩ = some (.int .i64 ((s - (rk t p (a, s) R).2 : Nat) : Int)) := by simp [go_sem, *]
      revert hZk hZb z1 z2 z3 z4
      generalize ((((W.setCell ⟨w.heap.size + 1, 0, none⟩ (.int .i64 ((rk t p (a, s) R).1 : Nat))).setCell ⟨w.heap.size + 1, 1, none⟩ (.int .i64 ((rk t p (a, s) R).2 : Nat))).setCell ⟨w.heap.size + 1 + 1, 0, none⟩ (.int .i64 ((a - (rk t p (a, s) R).1 : Nat) : Int))).setCell ⟨w.heap.size + 1 + 1, 1, none⟩ (.int .i64 ((s - (rk t p (a, s) R).2 : Nat) : Int))).drew = Z
      intro hZk hZb z1 z2 z3 z4
      have hZD := hZk.2 _ _ hK (fun h => by rcases h with h | h <;> omega)
      refine ⟨by simp, .inl ⟨D, _, rfl, run_takeDeferred hZD, ?_⟩⟩
      have hBp := below_putU (B := D) Z (.deferred none) (Nat.le_refl D)
      have v1 := cell_next hBp (by omega) z1
      have v2 := cell_next hBp (by omega) z2
      have v3 := cell_next hBp (by omega) z3
      have v4 := cell_next hBp (by omega) z4
      have hZe := hZb.trans (hBp.mono (by omega))
      generalize Z.putObj D (.deferred none) = Y at *
      exact ⟨_, by simp [results, Try.results53, go_sem, v1, v2, v3, v4], rfl, hZe⟩

open Go.RowKit Go.Lib Go.Shelf
set_option linter.unusedVariables false
set_option linter.unusedSimpArgs false
attribute [local go_sem ↓] Go.wp_at_zero Go.wp_at_succ

set_option maxHeartbeats 400000 in
theorem squeeze_ok (a s t p : Nat) (ha : a ≤ 1000000000000) (hs : s ≤ 1000000000000) (ht : t ≤ 10000) (hp : p ≤ 10000) (w : World) :
    Calls Try.prog 22 #[.agg #[.int .i64 (a : Int), .int .i64 (s : Int)], .int .i64 (t : Int), .int .i64 (p : Int)] w fun e w' =>
      e = .returned (.tuple #[.agg #[.int .i64 ((rk t p (a, s) 1).1 : Nat), .int .i64 ((rk t p (a, s) 1).2 : Nat)], .agg #[.int .i64 ((a - (rk t p (a, s) 1).1 : Nat) : Int), .int .i64 ((s - (rk t p (a, s) 1).2 : Nat) : Int)], .int .i64 0]) ∧ Below w.heap.size w w' := by
  have c1 := Lib.hid (rounds_ok a s t p 1 ha hs ht hp (by omega))
  generalize ((rk t p (a, s) 1).1 : Int) = x1 at *
  generalize ((rk t p (a, s) 1).2 : Int) = x2 at *
  generalize ((a - (rk t p (a, s) 1).1 : Nat) : Int) = y1 at *
  generalize ((s - (rk t p (a, s) 1).2 : Nat) : Int) = y2 at *
  go_enter Try.func22, Try.ntmps22
  go_wp2_with fail
  refine (c1.out _).mono ?_
  rintro e w1 ⟨rfl, hb⟩
  have x0 := cell_next hb (b := w.heap.size + 1) (o := 0) (by simp) (v := some (.int .i64 0)) (by simp [go_sem])
  have x1' := cell_next hb (b := w.heap.size + 1) (o := 1) (by simp) (v := some (.int .i64 0)) (by simp [go_sem])
  have y0 := cell_next hb (b := w.heap.size + 1 + 1) (o := 0) (by simp) (v := some (.int .i64 0)) (by simp [go_sem])
  have y1' := cell_next hb (b := w.heap.size + 1 + 1) (o := 1) (by simp) (v := some (.int .i64 0)) (by simp [go_sem])
  have f0 := frozen_next hb (b := w.heap.size + 1) (o := 0) (by simp) (v := false) (by simp [go_sem])
  have f1 := frozen_next hb (b := w.heap.size + 1) (o := 1) (by simp) (v := false) (by simp [go_sem])
  have g0 := frozen_next hb (b := w.heap.size + 1 + 1) (o := 0) (by simp) (v := false) (by simp [go_sem])
  have g1 := frozen_next hb (b := w.heap.size + 1 + 1) (o := 1) (by simp) (v := false) (by simp [go_sem])
  have hB := below3 hb
  clear hb
  go_wp2_with fail
  refine bodyPost_ret (v := .tuple #[.agg #[.int .i64 x1, .int .i64 x2], .agg #[.int .i64 y1, .int .i64 y2], .int .i64 0]) (by simp [results, Try.results22, go_sem, *]) rfl ⟨rfl, ?_⟩
  exact (((hB.setCell (by simp <;> omega) _).setCell (by simp <;> omega) _).setCell (by simp <;> omega) _).setCell (by simp <;> omega) _

set_option maxRecDepth 20000 in
set_option maxHeartbeats 1000000 in
theorem mix_ok (g off : Nat) (xs : List (Int × Int)) (c : Nat) (w : World) (hx : ∀ p ∈ xs, spB p.1 p.2 = true) (hg : g < w.heap.size) (hr : RRd w g off xs) (hl : xs.length ≤ 100) (hS : spB (suU xs).1 (suU xs).2 = true) :
    Calls Try.prog 29 #[.slice (some ⟨g, off, none⟩) xs.length c] w fun e w' =>
      e = .returned (.tuple #[.agg #[.int .i64 (suU xs).1, .int .i64 (suU xs).2], .int .i64 0]) ∧ Below w.heap.size w w' := by
  obtain ⟨n, hn⟩ : ∃ n, xs.length = n := ⟨_, rfl⟩
  rw [hn] at hl ⊢
  have Hn := Lib.hid hn
  clear hn
  have HX := Lib.hid hx
  have HR := Lib.hid hr
  have HS := Lib.hid hS
  clear hx hr hS
  go_enter Try.func29, Try.ntmps29
  have t0 : decide ((100 : Int) < (n : Int)) = false := by simp; omega
  go_wp2_with fail
  go_loopw [13] (fun i wr => ∃ (k : Nat) (a : Int × Int), k ≤ n ∧ i = .int .i64 k ∧ Hid (a = suU (xs.take k)) ∧ Hid (0 ≤ a.1 ∧ a.1 ≤ 10000000000000 * k ∧ 0 ≤ a.2 ∧ a.2 ≤ 10000000000000 * k) ∧ wr.cell? ⟨w.heap.size + 1, 0, none⟩ = some (.int .i64 a.1) ∧ wr.cell? ⟨w.heap.size + 1, 1, none⟩ = some (.int .i64 a.2) ∧ wr.frozen? ⟨w.heap.size + 1, 0, none⟩ = false ∧ wr.frozen? ⟨w.heap.size + 1, 1, none⟩ = false ∧
      wr.cell? ⟨w.heap.size, 0, none⟩ = some (.int .i64 0) ∧ wr.cell? ⟨w.heap.size, 1, none⟩ = some (.int .i64 0) ∧ wr.frozen? ⟨w.heap.size, 0, none⟩ = false ∧ wr.frozen? ⟨w.heap.size, 1, none⟩ = false ∧ w.heap.size + 1 < wr.heap.size ∧ Below w.heap.size w wr) (fun i _ => n - (RowKit.intOf i).toNat)
  case atStart =>
    refine ⟨0, (0, 0), Nat.zero_le _, rfl, Lib.hid rfl, Lib.hid (by simp), ?_, ?_, ?_, ?_, ?_, ?_, ?_, ?_, ?_, ?_⟩
    all_goals first | (simp; done) | exact below_al2 w _ _
  case round =>
    obtain ⟨k, ⟨a0, a1⟩, hk, rfl, ha, hDa, c0, c1, f0, f1, d0, d1, e0, e1, hz, hbr⟩ := hrel
    have hz0 : w.heap.size < wr.heap.size := by omega
    have hgw : g < wr.heap.size := by omega
    dsimp only at c0 c1
    by_cases hlt : k < n
    · have hkl : k < xs.length := by rw [Hn.out]; exact hlt
      obtain ⟨⟨p0, p1⟩, hp⟩ : ∃ p, xs[k]? = some p := ⟨_, List.getElem?_eq_getElem hkl⟩
      have hpS : spB p0 p1 = true := HX.out _ (List.mem_of_getElem? hp)
      have v1 := Lib.hid (sapValid_any p0 p1)
      rw [hpS] at v1
      obtain ⟨q0, q1⟩ := (HR.out.below hbr hg) k _ hp
      obtain ⟨r1, r2, r3, r4⟩ := spB_of hpS
      obtain ⟨r5, r6, r7, r8⟩ := hDa.out
      have haq : Hid ((a0 + p0, a1 + p1) = suU (xs.take (k + 1))) := Lib.hid (by rw [List.take_add_one, hp, show (some (p0, p1)).toList = [(p0, p1)] from rfl, suU_snoc, ← ha.out]; rfl)
      have hDq : Hid (0 ≤ a0 + p0 ∧ a0 + p0 ≤ 10000000000000 * ((k + 1 : Nat) : Int) ∧ 0 ≤ a1 + p1 ∧ a1 + p1 ≤ 10000000000000 * ((k + 1 : Nat) : Int)) := Lib.hid ⟨by omega, by omega, by omega, by omega⟩
      have s0 : IntKind.i64.wrap (a0 + p0) = a0 + p0 := IntWalk.i64_in _ (by omega)
      have s1 : IntKind.i64.wrap (a1 + p1) = a1 + p1 := IntWalk.i64_in _ (by omega)
      clear hp r1 r2 r3 r4 r5 r6 r7 r8 hDa ha hpS
      dsimp only at q0 q1
      go_wp2_with fail
      refine (v1.out _).mono ?_
      rintro e w1 ⟨rfl, hb1⟩
      have x0 := cell_next hb1 (b := wr.heap.size) (o := 0) (by simp) (v := some (.int .i64 p0)) (by simp [go_sem])
      have x1 := cell_next hb1 (b := wr.heap.size) (o := 1) (by simp) (v := some (.int .i64 p1)) (by simp [go_sem])
      have hB1 := below1 hb1
      have hz1 : wr.heap.size < w1.heap.size := by have := hb1.size; simp at this; omega
      replace c0 := cell_next hB1 hz c0
      replace c1 := cell_next hB1 hz c1
      replace f0 := frozen_next hB1 hz f0
      replace f1 := frozen_next hB1 hz f1
      replace d0 := cell_next hB1 hz0 d0
      replace d1 := cell_next hB1 hz0 d1
      replace e0 := frozen_next hB1 hz0 e0
      replace e1 := frozen_next hB1 hz0 e1
      have hne : w.heap.size + 1 ≠ wr.heap.size := by omega
      replace hbr := hbr.trans (hB1.mono (by omega))
      clear hb1 hB1 q0 q1 v1
      go_wp2_with fail
      go_roundw
      case rel =>
        refine ⟨k + 1, (a0 + p0, a1 + p1), by omega, by go_num, haq, hDq, ?_, ?_, ?_, ?_, ?_, ?_, ?_, ?_, by simp; omega, ((hbr.setCell (p := ⟨w.heap.size + 1, 0, none⟩) (by simp) _).setCell (p := ⟨w.heap.size + 1, 1, none⟩) (by simp) _)⟩
        all_goals simp [go_sem, *]
      case measure => simp [RowKit.intOf]; omega
    · obtain rfl : k = n := by omega
      have hfin : (a0, a1) = suU xs := by rw [ha.out, List.take_of_length_le (by rw [Hn.out]; omega)]
      have Hfin := Lib.hid hfin
      have v1 := Lib.hid (sapValid_any a0 a1)
      rw [show spB a0 a1 = true from by have h := HS.out; rw [← hfin] at h; exact h] at v1
      clear hfin ha hDa
      go_wp2_with fail
      refine (v1.out _).mono ?_
      rintro e w1 ⟨rfl, hb1⟩
      replace c0 := cell_next hb1 hz c0
      replace c1 := cell_next hb1 hz c1
      replace d0 := cell_next hb1 hz0 d0
      replace d1 := cell_next hb1 hz0 d1
      replace e0 := frozen_next hb1 hz0 e0
      replace e1 := frozen_next hb1 hz0 e1
      replace hbr := hbr.trans (hb1.mono (by omega))
      clear hb1 v1 f0 f1
      go_wp2_with fail
      refine bodyPost_ret (v := .tuple #[.agg #[.int .i64 a0, .int .i64 a1], .int .i64 0]) (by simp [results, Try.results29, go_sem, *]) rfl ⟨by rw [← Hfin.out], ?_⟩
      exact (hbr.setCell (by simp) _).setCell (by simp) _

open Go.RowKit Go.Lib Go.Shelf
set_option linter.unusedVariables false
set_option linter.unusedSimpArgs false
attribute [local go_sem ↓] Go.wp_at_zero Go.wp_at_succ

/-- a lot: water, sugar, the ends of its load, the time of its pouring -/
structure Lo where
  a : Int
  s : Int
  lo : Int
  hi : Int
  t : Int
def vL (l : Lo) : Value := .agg #[.int .i64 l.a, .int .i64 l.s, .int .i64 l.lo, .int .i64 l.hi, .int .i64 l.t]
/-- a range within bounds -/
def rgB (lo hi x y : Int) : Bool := inB lo hi x && inB lo hi y && decide (x ≤ y)
def lotB (l : Lo) : Bool := spB l.a l.s && decide (0 < l.a + l.s) && rgB 0 1000000 l.lo l.hi

theorem umin2 {P : Program} (tys : Array TypeId) (ty : TypeId) (k : IntKind) (x y : Int) (w : World) : (Builtin.min_ tys ty #[.int k x, .int k y]).run P w = .ok (.int k (min x y)) w := by
  simp [Builtin.min_, Builtin.min2]
  split <;> omega
theorem umax2 {P : Program} (tys : Array TypeId) (ty : TypeId) (k : IntKind) (x y : Int) (w : World) : (Builtin.max_ tys ty #[.int k x, .int k y]).run P w = .ok (.int k (max x y)) w := by
  simp [Builtin.max_, Builtin.max2]
  split <;> omega

set_option maxHeartbeats 1000000 in
theorem rangeIn_any (lo hi x y : Int) (w : World) :
    Calls Try.prog 43 #[.agg #[.int .i64 x, .int .i64 y], .int .i64 lo, .int .i64 hi] w fun e w' => e = .returned (.bool (rgB lo hi x y)) ∧ Below w.heap.size w w' := by
  have c1 := Lib.hid (fun (W : World) (g c : Nat) => in2_any lo hi x y g c W)
  have hr : Hid (rgB lo hi x y = ((inB lo hi x && inB lo hi y) && decide (x ≤ y))) := Lib.hid rfl
  generalize rgB lo hi x y = r at *
  generalize (inB lo hi x && inB lo hi y) = b at *
  cases b
  · go_enter Try.func43, Try.ntmps43
    go_wp2_with fail
    refine (c1.out _ _ _ (by simp) (by simp [go_sem]) (by simp [go_sem])).mono ?_
    rintro e w1 ⟨rfl, hb⟩
    have hB := below2 hb
    clear hb
    go_wp2_with fail
    go_ret
    exact ⟨by rw [hr.out]; simp, hB⟩
  · obtain ⟨q, hq⟩ : ∃ q, decide (x ≤ y) = q := ⟨_, rfl⟩
    rw [hq] at hr
    go_enter Try.func43, Try.ntmps43
    go_wp2_with fail
    refine (c1.out _ _ _ (by simp) (by simp [go_sem]) (by simp [go_sem])).mono ?_
    rintro e w1 ⟨rfl, hb⟩
    have x0 := cell_next hb (b := w.heap.size) (o := 0) (by simp <;> omega) (v := some (.int .i64 x)) (by simp [go_sem])
    have x1 := cell_next hb (b := w.heap.size) (o := 1) (by simp <;> omega) (v := some (.int .i64 y)) (by simp [go_sem])
    have hB := below2 hb
    clear hb
    go_wp2_with fail
    go_ret
    exact ⟨by rw [hr.out]; simp, hB⟩

set_option maxHeartbeats 400000 in
theorem lotMass_any (l : Lo) (h1 : 0 ≤ l.a) (h2 : l.a ≤ 1000000000000000) (h3 : 0 ≤ l.s) (h4 : l.s ≤ 1000000000000000) (w : World) :
    Calls Try.prog 59 #[vL l] w fun e w' => e = .returned (.int .i64 (l.a + l.s)) ∧ Below w.heap.size w w' := by
  obtain ⟨a, s, lo, hi, t⟩ := l
  simp only [vL] at *
  have hw : IntKind.i64.wrap (a + s) = a + s := IntWalk.i64_in _ (by omega)
  go_enter Try.func59, Try.ntmps59
  go_wp2
  go_ret
  exact ⟨rfl, (Below.refl _ _).alloc (Nat.le_refl _) _⟩

set_option maxHeartbeats 400000 in
theorem germs_any (l : Lo) (w : World) :
    Calls Try.prog 40 #[vL l] w fun e w' => e = .returned (.agg #[.int .i64 l.lo, .int .i64 l.hi]) ∧ Below w.heap.size w w' := by
  obtain ⟨a, s, lo, hi, t⟩ := l
  simp only [vL] at *
  go_enter Try.func40, Try.ntmps40
  go_wp2
  refine bodyPost_ret (v := .agg #[.int .i64 lo, .int .i64 hi]) (by simp [results, Try.results40, go_sem]) rfl ⟨rfl, below_al2 w _ _⟩

set_option maxRecDepth 20000 in
set_option maxHeartbeats 1000000 in
theorem age_any (c : Nat) (T : Int) (l : Lo) (hT : 0 ≤ T ∧ T ≤ 1000000) (ht : 0 ≤ l.t ∧ l.t ≤ 1000000) (w : World) (hc : c < w.heap.size) (h5 : w.cell? ⟨c, 5, none⟩ = some (.int .i64 T)) :
    Calls Try.prog 41 #[.pointer (some ⟨c, 0, none⟩), vL l] w fun e w' => e = .returned (.agg #[.int .i64 (T - l.t), .int .i64 (T - l.t)]) ∧ Below w.heap.size w w' := by
  obtain ⟨a, s, lo, hi, t⟩ := l
  simp only [vL] at *
  have hw : IntKind.i64.wrap (T - t) = T - t := IntWalk.i64_in _ (by omega)
  have hne : c ≠ w.heap.size := by omega
  have hne1 : c ≠ w.heap.size + 1 := by omega
  have hlt1 : c < w.heap.size + 1 := by omega
  go_enter Try.func41, Try.ntmps41
  go_wp2_with fail
  go_region
  all_goals
    go_wp2_with fail
    refine bodyPost_ret (v := .agg #[.int .i64 (T - t), .int .i64 (T - t)]) (by simp [results, Try.results41, go_sem]) rfl ⟨rfl, ?_⟩
    first | exact (below_al2 w _ _).drew | exact ((below_al2 w _ _).setCell (by simp) _).setCell (by simp) _

set_option maxHeartbeats 1000000 in
theorem grown_any (a b c d n : Int) (ha : 0 ≤ a ∧ a ≤ 1000000) (hb : 0 ≤ b ∧ b ≤ 1000000) (hc : 0 ≤ c ∧ c ≤ 1000000000) (hd : 0 ≤ d ∧ d ≤ 1000000000) (hn : 0 ≤ n ∧ n ≤ 1000000) (w : World) :
    Calls Try.prog 35 #[.agg #[.int .i64 a, .int .i64 b], .agg #[.int .i64 c, .int .i64 d], .int .i64 n] w fun e w' => e = .returned (.agg #[.int .i64 (min 1000000 (a + n * c)), .int .i64 (min 1000000 (b + n * d))]) ∧ Below w.heap.size w w' := by
  have rmin := @umin2 Try.prog
  have p1 : 0 ≤ n * c := Int.mul_nonneg hn.1 hc.1
  have p2 : 0 ≤ n * d := Int.mul_nonneg hn.1 hd.1
  have p3 : n * c ≤ 1000000 * 1000000000 := Int.mul_le_mul hn.2 hc.2 hc.1 (by omega)
  have p4 : n * d ≤ 1000000 * 1000000000 := Int.mul_le_mul hn.2 hd.2 hd.1 (by omega)
  have w1 : IntKind.i64.wrap (n * c) = n * c := IntWalk.i64_in _ (by omega)
  have w2 : IntKind.i64.wrap (n * d) = n * d := IntWalk.i64_in _ (by omega)
  have w3 : IntKind.i64.wrap (a + n * c) = a + n * c := IntWalk.i64_in _ (by omega)
  have w4 : IntKind.i64.wrap (b + n * d) = b + n * d := IntWalk.i64_in _ (by omega)
  clear p1 p2 p3 p4 ha hb hc hd hn
  go_enter Try.func35, Try.ntmps35
  go_wp2
  refine bodyPost_ret (v := .agg #[.int .i64 (min 1000000 (a + n * c)), .int .i64 (min 1000000 (b + n * d))]) (by simp [results, Try.results35, go_sem]) rfl ⟨rfl, ?_⟩
  exact (below_al2 w _ _).trans (((Below.refl _ _).alloc (Nat.le_refl _) _).mono (by simp; omega))

set_option maxHeartbeats 1000000 in
theorem lotValid_ok (l : Lo) (h : lotB l = true) (w : World) :
    Calls Try.prog 27 #[vL l] w fun e w' => e = .returned (.bool true) ∧ Below w.heap.size w w' := by
  have h' : spB l.a l.s = true ∧ 0 < l.a + l.s ∧ rgB 0 1000000 l.lo l.hi = true := by
    simp only [lotB, Bool.and_eq_true, decide_eq_true_eq] at h
    exact ⟨h.1.1, h.1.2, h.2⟩
  obtain ⟨g1, g2, g3⟩ := h'
  obtain ⟨b1, b2, b3, b4⟩ := spB_of g1
  have c1 := Lib.hid (vSap_any l.a l.s)
  rw [g1] at c1
  have c2 := Lib.hid (lotMass_any l b1 (by omega) b3 (by omega))
  have c3 := Lib.hid (rangeIn_any 0 1000000 l.lo l.hi)
  rw [g3] at c3
  clear h g1 g3 b1 b2 b3 b4
  obtain ⟨a, s, lo, hi, t⟩ := l
  simp only [vL] at *
  have t1 : decide (0 < a + s) = true := by simpa using g2
  clear g2
  go_enter Try.func27, Try.ntmps27
  go_wp2_with fail
  refine (c1.out _).mono ?_
  rintro e w1 ⟨rfl, hb⟩
  have x0 := cell_next hb (b := w.heap.size) (o := 0) (by simp) (v := some (.int .i64 a)) (by simp [go_sem])
  have x1 := cell_next hb (b := w.heap.size) (o := 1) (by simp) (v := some (.int .i64 s)) (by simp [go_sem])
  have x2 := cell_next hb (b := w.heap.size) (o := 2) (by simp) (v := some (.int .i64 lo)) (by simp [go_sem])
  have x3 := cell_next hb (b := w.heap.size) (o := 3) (by simp) (v := some (.int .i64 hi)) (by simp [go_sem])
  have x4 := cell_next hb (b := w.heap.size) (o := 4) (by simp) (v := some (.int .i64 t)) (by simp [go_sem])
  have hz : w.heap.size < w1.heap.size := by have := hb.size; simp at this; omega
  have hB := below1 hb
  clear hb
  go_wp2_with fail
  refine (c2.out _).mono ?_
  rintro e w2 ⟨rfl, hb⟩
  replace x2 := cell_next hb hz x2
  replace x3 := cell_next hb hz x3
  replace hB := hB.trans (hb.mono hB.size)
  clear hb x0 x1 x4
  go_wp2_with fail
  refine (c3.out _).mono ?_
  rintro e w3 ⟨rfl, hb⟩
  replace hB := hB.trans (hb.mono hB.size)
  clear hb x2 x3
  go_wp2_with fail
  go_ret
  exact ⟨rfl, hB⟩

open Go.RowKit Go.Lib Go.Shelf
set_option linter.unusedVariables false
set_option linter.unusedSimpArgs false
attribute [local go_sem ↓] Go.wp_at_zero Go.wp_at_succ

/-- the lots xs lie one after another in block g, from off on -/
def LRd (w : World) (g off : Nat) (xs : List Lo) : Prop :=
  ∀ k l, xs[k]? = some l → w.cell? ⟨g, off + k * 5, none⟩ = some (.int .i64 l.a) ∧ w.cell? ⟨g, off + k * 5 + 1, none⟩ = some (.int .i64 l.s) ∧ w.cell? ⟨g, off + k * 5 + 2, none⟩ = some (.int .i64 l.lo) ∧ w.cell? ⟨g, off + k * 5 + 3, none⟩ = some (.int .i64 l.hi) ∧ w.cell? ⟨g, off + k * 5 + 4, none⟩ = some (.int .i64 l.t)
theorem LRd.keep {w w' : World} {g off : Nat} {xs : List Lo} (h : LRd w g off xs) (hk : ∀ o, w'.cell? ⟨g, o, none⟩ = w.cell? ⟨g, o, none⟩) : LRd w' g off xs :=
  fun k l hl => ⟨(hk _).trans (h k l hl).1, (hk _).trans (h k l hl).2.1, (hk _).trans (h k l hl).2.2.1, (hk _).trans (h k l hl).2.2.2.1, (hk _).trans (h k l hl).2.2.2.2⟩
/-- the slice v reads as the lots xs; it lies below block B -/
def LsAt (B : Nat) (w : World) (v : Value) (xs : List Lo) : Prop :=
  ∃ A c, v = .slice A xs.length c ∧ (0 < xs.length → ∃ g off, A = some ⟨g, off, none⟩ ∧ g < B ∧ LRd w g off xs)
theorem LsAt.below {B B' : Nat} {w w' : World} {v : Value} {xs : List Lo} (h : LsAt B w v xs) (hb : Below B' w w') (hB : B ≤ B') : LsAt B w' v xs := by
  obtain ⟨A, c, rfl, h⟩ := h
  refine ⟨A, c, rfl, fun hn => ?_⟩
  obtain ⟨g, off, rfl, hg, hr⟩ := h hn
  exact ⟨g, off, rfl, hg, hr.keep fun o => hb.cell (p := ⟨g, o, none⟩) (by show g < B'; omega)⟩
theorem LsAt.mono {B B' : Nat} {w : World} {v : Value} {xs : List Lo} (h : LsAt B w v xs) (hB : B ≤ B') : LsAt B' w v xs := by
  obtain ⟨A, c, rfl, h⟩ := h
  refine ⟨A, c, rfl, fun hn => ?_⟩
  obtain ⟨g, off, rfl, hg, hr⟩ := h hn
  exact ⟨g, off, rfl, by omega, hr⟩
theorem ls_one {w : World} {g c : Nat} {l : Lo} (h0 : w.cell? ⟨g, 0, none⟩ = some (.int .i64 l.a)) (h1 : w.cell? ⟨g, 1, none⟩ = some (.int .i64 l.s)) (h2 : w.cell? ⟨g, 2, none⟩ = some (.int .i64 l.lo)) (h3 : w.cell? ⟨g, 3, none⟩ = some (.int .i64 l.hi)) (h4 : w.cell? ⟨g, 4, none⟩ = some (.int .i64 l.t)) : LsAt (g + 1) w (.slice (some ⟨g, 0, none⟩) 1 c) [l] :=
  ⟨_, _, rfl, fun _ => ⟨g, 0, rfl, by omega, fun k z hz => by
    rcases k with _ | k
    · simp at hz; subst hz; exact ⟨h0, h1, h2, h3, h4⟩
    · simp at hz⟩⟩

def saps (xs : List Lo) : List (Int × Int) := xs.map fun l => (l.a, l.s)
def lotSum (xs : List Lo) : Int × Int := suU (saps xs)
theorem lotSum_snoc (xs : List Lo) (l : Lo) : lotSum (xs ++ [l]) = addP (lotSum xs) (l.a, l.s) := by simp [lotSum, saps, suU_snoc]
/-- what may be in a lot -/
def loB (l : Lo) : Prop := 0 ≤ l.a ∧ l.a ≤ 1000000000000 ∧ 0 ≤ l.s ∧ l.s ≤ 1000000000000

set_option maxRecDepth 20000 in
set_option maxHeartbeats 1000000 in
theorem together_lots (v : Value) (xs : List Lo) (w : World) (hx : ∀ l ∈ xs, loB l) (hv : LsAt w.heap.size w v xs) (hl : xs.length ≤ 100) :
    Calls Try.prog 38 #[v] w fun e w' =>
      e = .returned (.agg #[.int .i64 (lotSum xs).1, .int .i64 (lotSum xs).2]) ∧ Below w.heap.size w w' := by
  obtain ⟨A, c, rfl, hr⟩ := hv
  obtain ⟨n, hn⟩ : ∃ n, xs.length = n := ⟨_, rfl⟩
  rw [hn] at hl hr ⊢
  have Hn := Lib.hid hn
  clear hn
  have HX := Lib.hid hx
  have HR := Lib.hid hr
  clear hx hr
  go_enter Try.func38, Try.ntmps38
  go_wp2_with fail
  go_loopw [8] (fun i wr => ∃ (k : Nat) (a : Int × Int), k ≤ n ∧ i = .int .i64 k ∧ Hid (a = lotSum (xs.take k)) ∧ Hid (0 ≤ a.1 ∧ a.1 ≤ 1000000000000 * k ∧ 0 ≤ a.2 ∧ a.2 ≤ 1000000000000 * k) ∧ wr.cell? ⟨w.heap.size + 1, 0, none⟩ = some (.int .i64 a.1) ∧ wr.cell? ⟨w.heap.size + 1, 1, none⟩ = some (.int .i64 a.2) ∧ wr.frozen? ⟨w.heap.size + 1, 0, none⟩ = false ∧ wr.frozen? ⟨w.heap.size + 1, 1, none⟩ = false ∧
      wr.cell? ⟨w.heap.size, 0, none⟩ = some (.int .i64 0) ∧ wr.cell? ⟨w.heap.size, 1, none⟩ = some (.int .i64 0) ∧ wr.frozen? ⟨w.heap.size, 0, none⟩ = false ∧ wr.frozen? ⟨w.heap.size, 1, none⟩ = false ∧ w.heap.size + 1 < wr.heap.size ∧ Below w.heap.size w wr) (fun i _ => n - (RowKit.intOf i).toNat)
  case atStart =>
    refine ⟨0, (0, 0), Nat.zero_le _, rfl, Lib.hid rfl, Lib.hid (by simp), ?_, ?_, ?_, ?_, ?_, ?_, ?_, ?_, ?_, ?_⟩
    all_goals first | (simp; done) | exact below_al2 w _ _
  case round =>
    obtain ⟨k, ⟨a0, a1⟩, hk, rfl, ha, hDa, c0, c1, f0, f1, d0, d1, e0, e1, hz, hbr⟩ := hrel
    have hz0 : w.heap.size < wr.heap.size := by omega
    dsimp only at c0 c1
    by_cases hlt : k < n
    · have hkl : k < xs.length := by rw [Hn.out]; exact hlt
      obtain ⟨⟨p0, p1, plo, phi, pt⟩, hp⟩ : ∃ p, xs[k]? = some p := ⟨_, List.getElem?_eq_getElem hkl⟩
      obtain ⟨r1, r2, r3, r4⟩ := HX.out _ (List.mem_of_getElem? hp)
      obtain ⟨g, off, rfl, hg, hR⟩ := HR.out (by omega)
      have hgw : g < wr.heap.size := by omega
      obtain ⟨q0, q1, q2, q3, q4⟩ := (hR.keep fun o => hbr.cell (p := ⟨g, o, none⟩) hg) k _ hp
      obtain ⟨r5, r6, r7, r8⟩ := hDa.out
      dsimp only at r1 r2 r3 r4 q0 q1 q2 q3 q4 r5 r6 r7 r8
      have haq : Hid ((a0 + p0, a1 + p1) = lotSum (xs.take (k + 1))) := Lib.hid (by rw [List.take_add_one, hp, Option.toList_some, lotSum_snoc, ← ha.out]; rfl)
      have hDq : Hid (0 ≤ a0 + p0 ∧ a0 + p0 ≤ 1000000000000 * ((k + 1 : Nat) : Int) ∧ 0 ≤ a1 + p1 ∧ a1 + p1 ≤ 1000000000000 * ((k + 1 : Nat) : Int)) := Lib.hid ⟨by omega, by omega, by omega, by omega⟩
      have C1 := Lib.hid (fun (W : World) (g cp : Nat) (hg : g < W.heap.size) => fun c0 c1 c2 c3 => sum2_any g cp a0 a1 p0 p1 (a0 + p0) (a1 + p1) W hg ⟨by show 0 ≤ a0; omega, by show a0 ≤ 1000000000000000; omega, by show 0 ≤ a1; omega, by show a1 ≤ 1000000000000000; omega⟩ ⟨by show 0 ≤ p0; omega, by show p0 ≤ 1000000000000000; omega, by show 0 ≤ p1; omega, by show p1 ≤ 1000000000000000; omega⟩ c0 c1 c2 c3 rfl rfl)
      clear hp r1 r2 r3 r4 r5 r6 r7 r8 hDa ha hR
      have hne1 : w.heap.size + 1 ≠ wr.heap.size := by omega
      go_wp2_with fail
      refine (C1.out _ _ _ (by simp) (by simp [go_sem]) (by simp [go_sem]) (by simp [go_sem]) (by simp [go_sem])).mono ?_
      rintro e w1 ⟨rfl, hb1⟩
      have hB1 := below2 hb1
      have hz1 : wr.heap.size < w1.heap.size := by have := hb1.size; simp at this; omega
      replace c0 := cell_next hB1 hz c0
      replace c1 := cell_next hB1 hz c1
      replace f0 := frozen_next hB1 hz f0
      replace f1 := frozen_next hB1 hz f1
      replace d0 := cell_next hB1 hz0 d0
      replace d1 := cell_next hB1 hz0 d1
      replace e0 := frozen_next hB1 hz0 e0
      replace e1 := frozen_next hB1 hz0 e1
      replace hbr := hbr.trans (hB1.mono (by omega))
      clear hb1 hB1 q0 q1 q2 q3 q4 C1
      go_wp2_with fail
      go_roundw
      case rel =>
        refine ⟨k + 1, (a0 + p0, a1 + p1), by omega, by go_num, haq, hDq, ?_, ?_, ?_, ?_, ?_, ?_, ?_, ?_, by simp; omega, ((hbr.setCell (p := ⟨w.heap.size + 1, 0, none⟩) (by simp) _).setCell (p := ⟨w.heap.size + 1, 1, none⟩) (by simp) _)⟩
        all_goals simp [go_sem, *]
      case measure => simp [RowKit.intOf]; omega
    · obtain rfl : k = n := by omega
      have hfin : (a0, a1) = lotSum xs := by rw [ha.out, List.take_of_length_le (by rw [Hn.out]; omega)]
      have Hfin := Lib.hid hfin
      clear hfin ha hDa
      go_wp2_with fail
      refine bodyPost_ret (v := .agg #[.int .i64 a0, .int .i64 a1]) (by simp [results, Try.results38, go_sem, *]) rfl ⟨by rw [← Hfin.out], ?_⟩
      exact (hbr.setCell (by simp) _).setCell (by simp) _

theorem lotSum_bd (xs : List Lo) (hx : ∀ l ∈ xs, loB l) : 0 ≤ (lotSum xs).1 ∧ (lotSum xs).1 ≤ 1000000000000 * xs.length ∧ 0 ≤ (lotSum xs).2 ∧ (lotSum xs).2 ≤ 1000000000000 * xs.length := by
  suffices h : ∀ n, n ≤ xs.length → (0 ≤ (lotSum (xs.take n)).1 ∧ (lotSum (xs.take n)).1 ≤ 1000000000000 * n ∧ 0 ≤ (lotSum (xs.take n)).2 ∧ (lotSum (xs.take n)).2 ≤ 1000000000000 * n) by
    have := h xs.length (Nat.le_refl _)
    rwa [List.take_length] at this
  intro n
  induction n with
  | zero => intro _; simp [lotSum, saps, suU]
  | succ n ih =>
    intro hn
    obtain ⟨p, hp⟩ : ∃ p, xs[n]? = some p := ⟨_, List.getElem?_eq_getElem (by omega)⟩
    obtain ⟨r1, r2, r3, r4⟩ := hx p (List.mem_of_getElem? hp)
    obtain ⟨h1, h2, h3, h4⟩ := ih (by omega)
    rw [List.take_add_one, hp, Option.toList_some, lotSum_snoc]
    simp only [addP]
    refine ⟨by omega, by omega, by omega, by omega⟩

set_option maxHeartbeats 400000 in
theorem massOf_lots (v : Value) (xs : List Lo) (w : World) (hx : ∀ l ∈ xs, loB l) (hv : LsAt w.heap.size w v xs) (hl : xs.length ≤ 100) :
    Calls Try.prog 60 #[v] w fun e w' => e = .returned (.int .i64 ((lotSum xs).1 + (lotSum xs).2)) ∧ Below w.heap.size w w' := by
  have c1 := Lib.hid (together_lots v xs w hx hv hl)
  obtain ⟨b1, b2, b3, b4⟩ := lotSum_bd xs hx
  generalize (lotSum xs).1 = x at *
  generalize (lotSum xs).2 = y at *
  have c2 := Lib.hid (lotMass_any ⟨x, y, 0, 0, 0⟩ b1 (by show x ≤ _; omega) b3 (by show y ≤ _; omega))
  simp only [vL] at c2
  clear b1 b2 b3 b4 hx hv
  go_enter Try.func60, Try.ntmps60
  go_wp2_with fail
  refine c1.out.mono ?_
  rintro e w1 ⟨rfl, hb⟩
  go_wp2_with fail
  refine (c2.out _).mono ?_
  rintro e w2 ⟨rfl, hb2⟩
  have hB := hb.trans (hb2.mono hb.size)
  clear hb hb2
  go_wp2_with fail
  go_ret
  exact ⟨rfl, hB⟩
end Go.Proofs.Ytfdaiififoomoaa
