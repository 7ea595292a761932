/- Contracts: so many rounds through a membrane. -/
import Derived.Test.YtloddjjmoaljhaaU5
namespace Go.Proofs.Ytloddjjmoaljhaa
open Go.RowKit Go.Lib Go.Shelf
set_option linter.unusedVariables false
set_option linter.unusedSimpArgs false
attribute [local go_sem ↓] Go.wp_at_zero Go.wp_at_succ
attribute [local go_sem] Oper.semAt_some

/-- how a function with marks is left, where it never panics -/
def QM (F : Fence) (n : Nat) (P : Program) (fn : Func) (R : Ending → World → Prop) : Exit → Act → World → Prop
  | .normal, a, w | .ret, a, w => LeavesInM F n P fn a.tmps R a.defers .returning w
  | _, _, _ => False
theorem qm_post {F : Fence} {n : Nat} {P : Program} {fn : Func} {R : Ending → World → Prop} (e : Exit) (a : Act) (w : World) (h : QM F n P fn R e a w) : bodyPostM F n P fn R e a w := by
  cases e <;> first | exact h | exact h.elim

set_option maxHeartbeats 400000 in
theorem behind_any (a s t p R : Int) (w : World) :
    Calls Try.prog 31 #[.agg #[.int .i64 a, .int .i64 s], .int .i64 t, .int .i64 p, .int .i64 R] w fun e w' => e = .returned (.func (Fn.func 59) #[] #[.pointer (some ⟨w.heap.size, 0, none⟩), .pointer (some ⟨w.heap.size + 3, 0, none⟩), .pointer (some ⟨w.heap.size + 1, 0, none⟩), .pointer (some ⟨w.heap.size + 2, 0, none⟩)]) ∧
      (w'.cell? ⟨w.heap.size, 0, none⟩ = some (.int .i64 a) ∧ w'.cell? ⟨w.heap.size, 1, none⟩ = some (.int .i64 s) ∧ w'.cell? ⟨w.heap.size + 3, 0, none⟩ = some (.int .i64 R) ∧ w'.cell? ⟨w.heap.size + 1, 0, none⟩ = some (.int .i64 t) ∧ w'.cell? ⟨w.heap.size + 2, 0, none⟩ = some (.int .i64 p)) ∧ w'.heap.size = w.heap.size + 4 ∧ Below w.heap.size w w' := by
  go_enter Try.func31, Try.ntmps31
  go_wp2
  go_ret
  refine ⟨rfl, ⟨by simp [go_sem], by simp [go_sem], by simp [go_sem], by simp [go_sem], by simp [go_sem]⟩, by simp, (below_al2 w _ _).trans ((below_al2 _ _ _).mono (by simp; omega))⟩

theorem Kept.set {U : Nat → Prop} (W : World) {p : Addr} (hp : U p.block) (v : Value) : Kept U W (W.setCell p v) := ⟨by simp [World.setCell], fun k o ho hu => (Below.heap_setCell _ _ _ _ (fun e => hu (by rw [e]; exact hp))).trans ho⟩

/-- between two rounds: the results' cells -/
def RI (b t p a s : Nat) (w : World) (k : Nat) (W : World) : Prop :=
  Below b w W ∧ b + 2 < W.heap.size ∧ ∃ x1 x2 y1 y2 : Int, W.cell? ⟨b + 1, 0, none⟩ = some (.int .i64 x1) ∧ W.cell? ⟨b + 1, 1, none⟩ = some (.int .i64 x2) ∧ W.cell? ⟨b + 2, 0, none⟩ = some (.int .i64 y1) ∧ W.cell? ⟨b + 2, 1, none⟩ = some (.int .i64 y2) ∧
    W.frozen? ⟨b + 1, 0, none⟩ = false ∧ W.frozen? ⟨b + 1, 1, none⟩ = false ∧ W.frozen? ⟨b + 2, 0, none⟩ = false ∧ W.frozen? ⟨b + 2, 1, none⟩ = false ∧
    (0 < k → x1 = ((rk t p (a, s) (k - 1)).1 : Nat) ∧ x2 = ((rk t p (a, s) (k - 1)).2 : Nat) ∧ y1 = ((a - (rk t p (a, s) (k - 1)).1 : Nat) : Int) ∧ y2 = ((s - (rk t p (a, s) (k - 1)).2 : Nat) : Int))
theorem RI.next {b t p a s k : Nat} {w A B : World} {C : Nat} (h : RI b t p a s w k A) (hb : Below C A B) (hC : b + 2 < C) : RI b t p a s w k B := by
  obtain ⟨h1, h2, x1, x2, y1, y2, c1, c2, c3, c4, f1, f2, f3, f4, hk⟩ := h
  exact ⟨h1.trans (hb.mono (by omega)), Nat.lt_of_lt_of_le h2 hb.size, x1, x2, y1, y2, cell_next hb (by omega) c1, cell_next hb (by omega) c2, cell_next hb (by omega) c3, cell_next hb (by omega) c4, frozen_next hb (by omega) f1, frozen_next hb (by omega) f2, frozen_next hb (by omega) f3, frozen_next hb (by omega) f4, hk⟩

set_option maxRecDepth 40000 in
set_option maxHeartbeats 4000000 in
theorem rounds_ok (a s t p R : Nat) (ha : a ≤ 1000000000000) (hs : s ≤ 1000000000000) (ht : t ≤ 10000) (hp : p ≤ 10000) (hR : R ≤ 200) (w : World) :
    Calls Try.prog 11 #[.agg #[.int .i64 (a : Int), .int .i64 (s : Int)], .int .i64 (t : Int), .int .i64 (p : Int), .int .i64 (R : Int)] w fun e w' =>
      e = .returned (.tuple #[.agg #[.int .i64 ((rk t p (a, s) R).1 : Nat), .int .i64 ((rk t p (a, s) R).2 : Nat)], .agg #[.int .i64 ((a - (rk t p (a, s) R).1 : Nat) : Int), .int .i64 ((s - (rk t p (a, s) R).2 : Nat) : Int)], .int .i64 0]) ∧ Below w.heap.size w w' := by
  have c1 := Lib.hid (vSap_any (a : Int) (s : Int))
  rw [show spB (a : Int) (s : Int) = true from by simp [spB]; omega] at c1
  have c2 := Lib.hid (fun (W : World) (g c : Nat) => in2_any 0 10000 (t : Int) (p : Int) g c W)
  rw [show (inB 0 10000 (t : Int) && inB 0 10000 (p : Int)) = true from by simp [inB]; omega] at c2
  have c3 := Lib.hid (fun (W : World) (g c : Nat) => in1v_any 0 200 (R : Int) g c W)
  rw [show inB 0 200 (R : Int) = true from by simp [inB]; omega] at c3
  have c4 := Lib.hid (behind_any (a : Int) (s : Int) (t : Int) (p : Int) (R : Int))
  refine (callsIn_wide (n := 10)).1 (callsIn_of_wp_marks Try.func11 rfl trivial ?_ rfl)
  refine wpIn_mono (wpIn_wide.2 ?_) qm_post
  simp only [Try.ntmps11, List.size_toArray, List.length_cons, List.length_nil, Nat.reduceAdd, Nat.reduceSub, Array.replicate_succ, Array.replicate_zero, List.push_toArray, List.append_toArray, List.nil_append, List.cons_append]
  go_wp2_with fail
  refine (c1.out _).mono ?_
  rintro e w1 ⟨rfl, hb1⟩
  have hB0 : ∀ o1 o2 o3, Below w.heap.size w (((w.alloc o1).alloc o2).alloc o3) := fun _ _ _ => (below_al2 w _ _).trans (((Below.refl _ _).alloc (Nat.le_refl _) _).mono (by simp; omega))
  have hB1 := (hB0 _ _ _).trans (hb1.mono (by simp; omega))
  have hz1 := hb1.size
  simp at hz1
  have s0 := cell_next hb1 (b := w.heap.size) (o := 0) (by simp; omega) (v := some (.int .i64 (a : Int))) (by simp [go_sem])
  have s1 := cell_next hb1 (b := w.heap.size) (o := 1) (by simp; omega) (v := some (.int .i64 (s : Int))) (by simp [go_sem])
  have x0 := cell_next hb1 (b := w.heap.size + 1) (o := 0) (by simp) (v := some (.int .i64 0)) (by simp [go_sem])
  have x1 := cell_next hb1 (b := w.heap.size + 1) (o := 1) (by simp) (v := some (.int .i64 0)) (by simp [go_sem])
  have y0 := cell_next hb1 (b := w.heap.size + 2) (o := 0) (by simp) (v := some (.int .i64 0)) (by simp [go_sem])
  have y1 := cell_next hb1 (b := w.heap.size + 2) (o := 1) (by simp) (v := some (.int .i64 0)) (by simp [go_sem])
  have f0 := frozen_next hb1 (b := w.heap.size + 1) (o := 0) (by simp) (v := false) (by simp [go_sem])
  have f1 := frozen_next hb1 (b := w.heap.size + 1) (o := 1) (by simp) (v := false) (by simp [go_sem])
  have g0 := frozen_next hb1 (b := w.heap.size + 2) (o := 0) (by simp) (v := false) (by simp [go_sem])
  have g1 := frozen_next hb1 (b := w.heap.size + 2) (o := 1) (by simp) (v := false) (by simp [go_sem])
  have HI : Hid (RI w.heap.size t p a s w 0 w1 ∧ w1.cell? ⟨w.heap.size, 0, none⟩ = some (.int .i64 (a : Int)) ∧ w1.cell? ⟨w.heap.size, 1, none⟩ = some (.int .i64 (s : Int))) := Lib.hid ⟨⟨hB1, by omega, 0, 0, 0, 0, x0, x1, y0, y1, f0, f1, g0, g1, fun h => by omega⟩, s0, s1⟩
  clear hb1 hB0 hB1 s0 s1 x0 x1 y0 y1 f0 f1 g0 g1 hz1
  go_wp2_with fail
  refine (c2.out _ _ _ (by simp) (by simp [go_sem]) (by simp [go_sem])).mono ?_
  rintro e w2 ⟨rfl, hb2⟩
  replace HI : Hid (RI w.heap.size t p a s w 0 w2 ∧ w2.cell? ⟨w.heap.size, 0, none⟩ = some (.int .i64 (a : Int)) ∧ w2.cell? ⟨w.heap.size, 1, none⟩ = some (.int .i64 (s : Int))) := Lib.hid (by
    obtain ⟨h, h0, h1⟩ := HI.out
    have hb := below1 hb2
    have := h.2.1
    exact ⟨h.next hb this, cell_next hb (by omega) h0, cell_next hb (by omega) h1⟩)
  clear hb2
  go_wp2_with fail
  refine (c3.out _ _ _ (by simp) (by simp [go_sem])).mono ?_
  rintro e w3 ⟨rfl, hb3⟩
  replace HI : Hid (RI w.heap.size t p a s w 0 w3 ∧ w3.cell? ⟨w.heap.size, 0, none⟩ = some (.int .i64 (a : Int)) ∧ w3.cell? ⟨w.heap.size, 1, none⟩ = some (.int .i64 (s : Int))) := Lib.hid (by
    obtain ⟨h, h0, h1⟩ := HI.out
    have hb := below1 hb3
    have := h.2.1
    exact ⟨h.next hb this, cell_next hb (by omega) h0, cell_next hb (by omega) h1⟩)
  clear hb3
  obtain ⟨hI, s0, s1⟩ := HI.out
  clear HI
  have HI := Lib.hid hI
  clear hI
  go_wp2_with fail
  refine (c4.out _).mono ?_
  rintro e w4 ⟨rfl, ⟨k1, k2, k3, k4, k5⟩, hz4, hb4⟩
  have HI4 : RI w.heap.size t p a s w 0 w4 := HI.out.next hb4 HI.out.2.1
  have hz3 := HI.out.2.1
  clear HI c1 c2 c3 c4 hb4 s0 s1
  go_wp2_with fail
  refine (wpIn_wide (n := 10)).1 (range_law (w := w4) (R + 1) (fun i => i = w.heap.size + 1 ∨ i = w.heap.size + 2) (encK t p a s) (gf := 59) (lb := #[.pointer (some ⟨w3.heap.size, 0, none⟩), .pointer (some ⟨w3.heap.size + 3, 0, none⟩), .pointer (some ⟨w3.heap.size + 1, 0, none⟩), .pointer (some ⟨w3.heap.size + 2, 0, none⟩)]) rfl (enters_of Try.func59 (by kernel_rfl) rfl) (fun k hk h => by rcases h with h | h <;> omega)
    (behind1_in 10 (by omega) t p a s R _ _ _ _ ha hs ht hp hR _ w4 (by omega) (by omega) (by omega) (by omega) (fun h => by rcases h with h | h <;> omega) (fun h => by rcases h with h | h <;> omega) (fun h => by rcases h with h | h <;> omega) (fun h => by rcases h with h | h <;> omega) (fun k hk h => by rcases h with h | h <;> omega) k1 k2 k3 k4 k5)
    (fun k => rfl) (RI w.heap.size t p a s w) (fun _ _ => False) (fun k A B h hb => h.next hb (by omega)) (fun _ _ _ h _ => h) HI4 (fun k _ W => RI w.heap.size t p a s w (k + 1) W) (fun k _ A B h hb => h.next hb (by omega)) ?assign ?body ?done ?stop)
  case assign =>
    intro l k W K hk hi hK
    obtain ⟨h1, h2, x1, x2, y1, y2, c1, c2, c3, c4, f1, f2, f3, f4, hkk⟩ := hi
    have h2a : w.heap.size + 1 < W.heap.size := by omega
    have h2b : w.heap.size < W.heap.size := by omega
    simp only [encK]
    gi_wp2
    refine hK _ _ ((((Kept.set _ (.inl rfl) _).trans (Kept.set _ (.inl rfl) _)).trans (Kept.set _ (.inr rfl) _)).trans (Kept.set _ (.inr rfl) _)) ⟨((((h1.setCell (by simp <;> omega) _).setCell (by simp <;> omega) _).setCell (by simp <;> omega) _).setCell (by simp <;> omega) _), by simpa [World.setCell] using h2, _, _, _, _, ?_, ?_, ?_, ?_, ?_, ?_, ?_, ?_, fun _ => ⟨rfl, rfl, rfl, rfl⟩⟩
    all_goals simp [go_sem, *]
  case body =>
    intro l k a' W hk hA
    gi_wp2
    first | exact Kept.refl _ _ | exact ⟨Kept.refl _ _, hA⟩
  case stop =>
    intro D k W hD hk h _
    exact h.elim
  case done =>
    intro D W hD hI hK
    obtain ⟨h1, h2, x1, x2, y1, y2, c1, c2, c3, c4, f1, f2, f3, f4, hkk⟩ := hI
    obtain ⟨rfl, rfl, rfl, rfl⟩ := hkk (by omega)
    have h2a : w.heap.size + 1 < W.heap.size := by omega
    have h2b : w.heap.size < W.heap.size := by omega
    go_wp2_with fail
    go_region
    all_goals
      go_wp2_with fail
      show LeavesInM Fence.wide 10 _ _ _ _ _ .returning _
      have hZk : Kept (fun i => i = w.heap.size + 1 ∨ i = w.heap.size + 2) W ((((W.setCell ⟨w.heap.size + 1, 0, none⟩ (.int .i64 ((rk t p (a, s) R).1 : Nat))).setCell ⟨w.heap.size + 1, 1, none⟩ (.int .i64 ((rk t p (a, s) R).2 : Nat))).setCell ⟨w.heap.size + 1 + 1, 0, none⟩ (.int .i64 ((a - (rk t p (a, s) R).1 : Nat) : Int))).setCell ⟨w.heap.size + 1 + 1, 1, none⟩ (.int .i64 ((s - (rk t p (a, s) R).2 : Nat) : Int))).drew :=
        (((Kept.set _ (.inl rfl) _).trans (Kept.set _ (.inl rfl) _)).trans (Kept.set _ (.inr rfl) _)).trans (Kept.set _ (.inr rfl) _)
      have hZb : Below w.heap.size w ((((W.setCell ⟨w.heap.size + 1, 0, none⟩ (.int .i64 ((rk t p (a, s) R).1 : Nat))).setCell ⟨w.heap.size + 1, 1, none⟩ (.int .i64 ((rk t p (a, s) R).2 : Nat))).setCell ⟨w.heap.size + 1 + 1, 0, none⟩ (.int .i64 ((a - (rk t p (a, s) R).1 : Nat) : Int))).setCell ⟨w.heap.size + 1 + 1, 1, none⟩ (.int .i64 ((s - (rk t p (a, s) R).2 : Nat) : Int))).drew :=
        ((((h1.setCell (by simp <;> omega) _).setCell (by simp <;> omega) _).setCell (by simp <;> omega) _).setCell (by simp <;> omega) _).drew
      have z1 : ((((W.setCell ⟨w.heap.size + 1, 0, none⟩ (.int .i64 ((rk t p (a, s) R).1 : Nat))).setCell ⟨w.heap.size + 1, 1, none⟩ (.int .i64 ((rk t p (a, s) R).2 : Nat))).setCell ⟨w.heap.size + 1 + 1, 0, none⟩ (.int .i64 ((a - (rk t p (a, s) R).1 : Nat) : Int))).setCell ⟨w.heap.size + 1 + 1, 1, none⟩ (.int .i64 ((s - (rk t p (a, s) R).2 : Nat) : Int))).drew.cell? ⟨w.heap.size + 1, 0, none⟩ = some (.int .i64 ((rk t p (a, s) R).1 : Nat)) := by simp [go_sem, *]
      have z2 : ((((W.setCell ⟨w.heap.size + 1, 0, none⟩ (.int .i64 ((rk t p (a, s) R).1 : Nat))).setCell ⟨w.heap.size + 1, 1, none⟩ (.int .i64 ((rk t p (a, s) R).2 : Nat))).setCell ⟨w.heap.size + 1 + 1, 0, none⟩ (.int .i64 ((a - (rk t p (a, s) R).1 : Nat) : Int))).setCell ⟨w.heap.size + 1 + 1, 1, none⟩ (.int .i64 ((s - (rk t p (a, s) R).2 : Nat) : Int))).drew.cell? ⟨w.heap.size + 1, 1, none⟩ = some (.int .i64 ((rk t p (a, s) R).2 : Nat)) := by simp [go_sem, *]
      have z3 : ((((W.setCell ⟨w.heap.size + 1, 0, none⟩ (.int .i64 ((rk t p (a, s) R).1 : Nat))).setCell ⟨w.heap.size + 1, 1, none⟩ (.int .i64 ((rk t p (a, s) R).2 : Nat))).setCell ⟨w.heap.size + 1 + 1, 0, none⟩ (.int .i64 ((a - (rk t p (a, s) R).1 : Nat) : Int))).setCell ⟨w.heap.size + 1 + 1, 1, none⟩ (.int .i64 ((s - (rk t p (a, s) R).2 : Nat) : Int))).drew.cell? ⟨w.heap.size + 1 + 1, 0, none⟩ = some (.int .i64 ((a - (rk t p (a, s) R).1 : Nat) : Int)) := by simp [go_sem, *]
      have z4 : ((((W.setCell ⟨w.heap.size + 1, 0, none⟩ (.int .i64 ((rk t p (a, s) R).1 : Nat))).setCell ⟨w.heap.size + 1, 1, none⟩ (.int .i64 ((rk t p (a, s) R).2 : Nat))).setCell ⟨w.heap.size + 1 + 1, 0, none⟩ (.int .i64 ((a - (rk t p (a, s) R).1 : Nat) : Int))).setCell ⟨w.heap.size + 1 + 1, 1, none⟩ (.int .i64 ((s - (rk t p (a, s) R).2 : Nat) : Int))).drew.cell? ⟨w.heap.size + 1 + 1, 1, none⟩ = some (.int .i64 ((s - (rk t p (a, s) R).2 : Nat) : Int)) := by simp [go_sem, *]
      revert hZk hZb z1 z2 z3 z4
      generalize ((((W.setCell ⟨w.heap.size + 1, 0, none⟩ (.int .i64 ((rk t p (a, s) R).1 : Nat))).setCell ⟨w.heap.size + 1, 1, none⟩ (.int .i64 ((rk t p (a, s) R).2 : Nat))).setCell ⟨w.heap.size + 1 + 1, 0, none⟩ (.int .i64 ((a - (rk t p (a, s) R).1 : Nat) : Int))).setCell ⟨w.heap.size + 1 + 1, 1, none⟩ (.int .i64 ((s - (rk t p (a, s) R).2 : Nat) : Int))).drew = Z
      intro hZk hZb z1 z2 z3 z4
      have hZD := hZk.2 _ _ hK (fun h => by rcases h with h | h <;> omega)
      refine ⟨by simp, .inl ⟨D, _, rfl, run_takeDeferred hZD, ?_⟩⟩
      have hBp := below_putU (B := D) Z (.deferred none) (Nat.le_refl D)
      have v1 := cell_next hBp (by omega) z1
      have v2 := cell_next hBp (by omega) z2
      have v3 := cell_next hBp (by omega) z3
      have v4 := cell_next hBp (by omega) z4
      have hZe := hZb.trans (hBp.mono (by omega))
      generalize Z.putObj D (.deferred none) = Y at *
      exact ⟨_, by simp [results, Try.results11, go_sem, v1, v2, v3, v4], rfl, hZe⟩
end Go.Proofs.Ytloddjjmoaljhaa

