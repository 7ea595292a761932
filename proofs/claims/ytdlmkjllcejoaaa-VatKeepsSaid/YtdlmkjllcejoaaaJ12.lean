/- Contracts: U5, U6, U7, joined. -/
import Derived.Test.YtdlmkjllcejoaaaJ11
namespace Go.Proofs.Ytdlmkjllcejoaaa
open Go.RowKit Go.Lib Go.Shelf
set_option linter.unusedVariables false
set_option linter.unusedSimpArgs false
attribute [local go_sem] Oper.semAt_some

/-- what the iterator yields after k rounds -/
def encK (t p a s : Nat) (k : Nat) : Array Value :=
  #[.agg #[.int .i64 (((rk t p (a, s) k).1 : Nat) : Int), .int .i64 (((rk t p (a, s) k).2 : Nat) : Int)], .agg #[.int .i64 ((a - (rk t p (a, s) k).1 : Nat) : Int), .int .i64 ((s - (rk t p (a, s) k).2 : Nat) : Int)]]

/-- one round, as the walk meets it -/
theorem rk_next (t p a s k : Nat) (ht : t ≤ 10000) (hp : p ≤ 10000) (x1 x2 : Nat) (h1 : (rk t p (a, s) k).1 = x1) (h2 : (rk t p (a, s) k).2 = x2) :
    x1 ≤ a ∧ x2 ≤ s ∧ offW x1 t ≤ x1 ∧ offS x1 x2 t p ≤ x2 ∧ (rk t p (a, s) (k + 1)).1 = x1 - offW x1 t ∧ (rk t p (a, s) (k + 1)).2 = x2 - offS x1 x2 t p := by
  have h := rk_le t p (a, s) k
  rw [h1, h2] at h
  refine ⟨h.1, h.2, offW_le _ _ ht, offS_le _ _ _ _ ht hp, ?_, ?_⟩
  · show (rk t p (a, s) k).1 - offW (rk t p (a, s) k).1 t = _
    rw [h1]
  · show (rk t p (a, s) k).2 - offS (rk t p (a, s) k).1 (rk t p (a, s) k).2 t p = _
    rw [h1, h2]

theorem sum2_any (g cp : Nat) (a b c d x y : Int) (w : World) (hg : g < w.heap.size) (h1 : smB (a, b)) (h2 : smB (c, d)) (c0 : w.cell? ⟨g, 0, none⟩ = some (.int .i64 a)) (c1 : w.cell? ⟨g, 1, none⟩ = some (.int .i64 b)) (c2 : w.cell? ⟨g, 2, none⟩ = some (.int .i64 c)) (c3 : w.cell? ⟨g, 3, none⟩ = some (.int .i64 d)) (hx : a + c = x) (hy : b + d = y) :
    Calls Try.prog 96 #[.slice (some ⟨g, 0, none⟩) 2 cp] w fun e w' => e = .returned (.agg #[.int .i64 x, .int .i64 y]) ∧ Below w.heap.size w w' := by
  have h := sums_any g 0 [(a, b), (c, d)] cp w (by intro p hp; rcases List.mem_cons.1 hp with rfl | hp; exact h1; rcases List.mem_cons.1 hp with rfl | hp; exact h2; cases hp) hg (by
    intro k p hp
    rcases k with _ | _ | k
    · simp at hp; subst hp; exact ⟨c0, c1⟩
    · simp at hp; subst hp; exact ⟨c2, c3⟩
    · simp at hp) (by simp)
  have e : suU [(a, b), (c, d)] = (x, y) := by simp [suU, addP, hx, hy]
  rw [e] at h
  exact h
theorem Kept.of_below {B : Nat} {U : Nat → Prop} {W W' : World} (h : Below B W W') (hU : ∀ k, ¬ U k → k < B) : Kept U W W' := ⟨h.size, fun k o ho hu => (h.block k (hU k hu)).trans ho⟩

set_option maxRecDepth 100000 in
set_option maxHeartbeats 2000000 in
theorem behind1_in (n : Nat) (hn : 2 ≤ n) (t p a s R bs br bt bp : Nat) (ha : a ≤ 1000000000000) (hs : s ≤ 1000000000000) (ht : t ≤ 10000) (hp : p ≤ 10000) (hR : R ≤ 200) (U : Nat → Prop) (w : World)
    (ls : bs < w.heap.size) (lr : br < w.heap.size) (lt : bt < w.heap.size) (lp : bp < w.heap.size) (us : ¬ U bs) (ur : ¬ U br) (ut : ¬ U bt) (up : ¬ U bp) (hU : ∀ k, w.heap.size ≤ k → ¬ U k)
    (s0 : w.cell? ⟨bs, 0, none⟩ = some (.int .i64 (a : Int))) (s1 : w.cell? ⟨bs, 1, none⟩ = some (.int .i64 (s : Int))) (r0 : w.cell? ⟨br, 0, none⟩ = some (.int .i64 (R : Int))) (t0 : w.cell? ⟨bt, 0, none⟩ = some (.int .i64 (t : Int))) (p0 : w.cell? ⟨bp, 0, none⟩ = some (.int .i64 (p : Int))) :
    IterAt n Try.prog 115 #[.pointer (some ⟨bs, 0, none⟩), .pointer (some ⟨br, 0, none⟩), .pointer (some ⟨bt, 0, none⟩), .pointer (some ⟨bp, 0, none⟩)] (encK t p a s) (R + 1) U w := by
  intro l J Jx W hW hl1 hl2 hJ hY h0
  have hWs := hW.size
  have S0 := cell_next hW ls s0
  have S1 := cell_next hW ls s1
  have R0 := cell_next hW lr r0
  have T0 := cell_next hW lt t0
  have P0 := cell_next hW lp p0
  clear s0 s1 r0 t0 p0
  refine callsIn_of_wp Try.func115 rfl trivial ?_ rfl
  simp only [Try.ntmps115, List.size_toArray, List.length_cons, List.length_nil, Nat.reduceAdd, Nat.reduceSub, Array.replicate_succ, Array.replicate_zero, List.push_toArray, List.append_toArray, List.nil_append, List.cons_append]
  gi_wp2
  gi_loopw [8] (fun i wr => ∃ (k x1 x2 : Nat), k ≤ R ∧ i = .int .i64 (k : Int) ∧ Hid ((rk t p (a, s) k).1 = x1) ∧ Hid ((rk t p (a, s) k).2 = x2) ∧ J k wr ∧ Hid (Kept (fun i => U i ∨ i = l ∨ W.heap.size ≤ i) W wr) ∧ W.heap.size + 1 < wr.heap.size ∧
      wr.cell? ⟨W.heap.size, 0, none⟩ = some (.int .i64 (x1 : Int)) ∧ wr.cell? ⟨W.heap.size, 1, none⟩ = some (.int .i64 (x2 : Int)) ∧ wr.frozen? ⟨W.heap.size, 0, none⟩ = false ∧ wr.frozen? ⟨W.heap.size, 1, none⟩ = false ∧
      wr.cell? ⟨W.heap.size + 1, 0, none⟩ = some (.int .i64 ((a - x1 : Nat) : Int)) ∧ wr.cell? ⟨W.heap.size + 1, 1, none⟩ = some (.int .i64 ((s - x2 : Nat) : Int)) ∧ wr.frozen? ⟨W.heap.size + 1, 0, none⟩ = false ∧ wr.frozen? ⟨W.heap.size + 1, 1, none⟩ = false)
    (fun i _ => R - (RowKit.intOf i).toNat)
  case atStart =>
    refine ⟨0, a, s, Nat.zero_le _, rfl, Lib.hid rfl, Lib.hid rfl, hJ 0 _ _ h0 (below_al2 W _ _), Lib.hid (Kept.of_below (below_al2 W _ _) fun i h => by have : ¬ W.heap.size ≤ i := fun hc => h (.inr (.inr hc)); omega), by simp, ?_, ?_, ?_, ?_, ?_, ?_, ?_, ?_⟩
    all_goals simp [go_sem]
  case round =>
    obtain ⟨k, x1, x2, hk, rfl, H1, H2, hJk, HK, hz, k0, k1, fk0, fk1, g0, g1, fg0, fg1⟩ := hrel
    obtain ⟨fn, tmps, assign, body, hy, hRd⟩ := hY k wr (by omega) hJk
    simp only [encK, H1.out, H2.out] at hy
    have hn1 : 1 ≤ n - 1 := by omega
    gi_wp2
    refine hRd.mono ?_
    rintro e W3 (⟨rfl, hJ3, hk3⟩ | ⟨rfl, hJx3⟩)
    · have hz3 := hk3.1
      have hlU : ∀ b, W.heap.size ≤ b → ¬ (U b ∨ b = l) := fun b hb => by
        rintro (h | h)
        · exact hU b (by omega) h
        · omega
      have hV : ∀ b, b < w.heap.size → ¬ U b → ¬ (U b ∨ b = l ∨ W.heap.size ≤ b) := fun b hb hu => by
        rintro (h | h | h)
        · exact hu h
        · omega
        · omega
      have HK3 := Lib.hid (HK.out.trans (hk3.mono fun i h => by rcases h with h | h; exact .inl h; exact .inr (.inl h)))
      have R03 := (HK3.out.cell (p := ⟨br, 0, none⟩) (by show br < _; omega) (hV br lr ur)).trans R0
      have T03 := (HK3.out.cell (p := ⟨bt, 0, none⟩) (by show bt < _; omega) (hV bt lt ut)).trans T0
      have P03 := (HK3.out.cell (p := ⟨bp, 0, none⟩) (by show bp < _; omega) (hV bp lp up)).trans P0
      replace k0 := (hk3.cell (p := ⟨W.heap.size, 0, none⟩) (by show W.heap.size < _; omega) (hlU _ (Nat.le_refl _))).trans k0
      replace k1 := (hk3.cell (p := ⟨W.heap.size, 1, none⟩) (by show W.heap.size < _; omega) (hlU _ (Nat.le_refl _))).trans k1
      replace fk0 := (hk3.frozen (p := ⟨W.heap.size, 0, none⟩) (by show W.heap.size < _; omega) (hlU _ (Nat.le_refl _))).trans fk0
      replace fk1 := (hk3.frozen (p := ⟨W.heap.size, 1, none⟩) (by show W.heap.size < _; omega) (hlU _ (Nat.le_refl _))).trans fk1
      replace g0 := (hk3.cell (p := ⟨W.heap.size + 1, 0, none⟩) hz (hlU _ (by show W.heap.size ≤ W.heap.size + 1; omega))).trans g0
      replace g1 := (hk3.cell (p := ⟨W.heap.size + 1, 1, none⟩) hz (hlU _ (by show W.heap.size ≤ W.heap.size + 1; omega))).trans g1
      replace fg0 := (hk3.frozen (p := ⟨W.heap.size + 1, 0, none⟩) hz (hlU _ (by show W.heap.size ≤ W.heap.size + 1; omega))).trans fg0
      replace fg1 := (hk3.frozen (p := ⟨W.heap.size + 1, 1, none⟩) hz (hlU _ (by show W.heap.size ≤ W.heap.size + 1; omega))).trans fg1
      have hzz : W.heap.size + 1 < W3.heap.size := by omega
      have hlW : l < W3.heap.size := by omega
      clear hk3 hy hRd hlU hV HK hJk
      obtain ⟨b1, b2, b3, b4, b5, b6⟩ := rk_next t p a s k ht hp x1 x2 H1.out H2.out
      have B1 := Lib.hid b1
      have B2 := Lib.hid b2
      have B3 := Lib.hid b3
      have B4 := Lib.hid b4
      have B5 := Lib.hid b5
      have B6 := Lib.hid b6
      clear b1 b2 b3 b4 b5 b6 H1 H2 hz hz3
      by_cases hlt : k < R
      · have t1 : decide ((k : Int) < (R : Int)) = true := by simp; omega
        have c1 := Lib.hid (callsIn_wide (n := n - 1 - 1).2 (through_any x1 x2 t p (by have := B1.out; omega) (by have := B2.out; omega) ht hp W3))
        gi_wp2
        refine ⟨trivial, c1.out.mono ?_⟩
        rintro e W4 ⟨rfl, hb4⟩
        clear c1
        have hz4 := hb4.size
        have hzk : W.heap.size < W3.heap.size := by omega
        replace k0 := cell_next hb4 hzk k0
        replace k1 := cell_next hb4 hzk k1
        replace fk0 := frozen_next hb4 hzk fk0
        replace fk1 := frozen_next hb4 hzk fk1
        replace g0 := cell_next hb4 hzz g0
        replace g1 := cell_next hb4 hzz g1
        replace fg0 := frozen_next hb4 hzz fg0
        replace fg1 := frozen_next hb4 hzz fg1
        have hJ4 := Lib.hid (hJ _ _ _ hJ3 (hb4.mono (by omega)))
        have HK4 := Lib.hid (HK3.out.trans (Kept.of_below hb4 fun i h => by have : ¬ W.heap.size ≤ i := fun hc => h (.inr (.inr hc)); omega))
        have hzz4 : W.heap.size + 1 < W4.heap.size := by omega
        have hz04 : W.heap.size < W4.heap.size := by omega
        clear hb4 HK3 R03 T03 P03 hz4 hzk hzz hlW hJ3
        generalize offW x1 t = o at *
        generalize offS x1 x2 t p = q at *
        have f1 : IntKind.i64.wrap ((x1 : Int) - (o : Int)) = ((x1 - o : Nat) : Int) := by rw [show (x1 : Int) - (o : Int) = ((x1 - o : Nat) : Int) from by have := B3.out; omega]; exact wrapI _ (by have := B1.out; omega)
        have f2 : IntKind.i64.wrap ((x2 : Int) - (q : Int)) = ((x2 - q : Nat) : Int) := by rw [show (x2 : Int) - (q : Int) = ((x2 - q : Nat) : Int) from by have := B4.out; omega]; exact wrapI _ (by have := B2.out; omega)
        gi_wp2
        refine ⟨trivial, (callsIn_wide.2 (sum2_any (W4.heap.size + 1) 2 ((a - x1 : Nat) : Int) ((s - x2 : Nat) : Int) (o : Int) (q : Int) ((a - (x1 - o) : Nat) : Int) ((s - (x2 - q) : Nat) : Int) _ (by simp) ⟨by omega, by omega, by omega, by omega⟩ ⟨by omega, by have h1 := B1.out; have h2 := B3.out; omega, by omega, by have h1 := B2.out; have h2 := B4.out; omega⟩ (by simp [go_sem]) (by simp [go_sem]) (by simp [go_sem]) (by simp [go_sem]) (by have h1 := B1.out; have h2 := B3.out; omega) (by have h1 := B2.out; have h2 := B4.out; omega))).mono ?_⟩
        rintro e W6 ⟨rfl, hb6⟩
        have q0 := cell_next hb6 (b := W.heap.size) (o := 0) (by simp; omega) (v := some (.int .i64 ((x1 - o : Nat) : Int))) (by simp [go_sem, *])
        have q1 := cell_next hb6 (b := W.heap.size) (o := 1) (by simp; omega) (v := some (.int .i64 ((x2 - q : Nat) : Int))) (by simp [go_sem, *])
        have q2 := frozen_next hb6 (b := W.heap.size) (o := 0) (by simp; omega) (v := false) (by simp [go_sem, *])
        have q3 := frozen_next hb6 (b := W.heap.size) (o := 1) (by simp; omega) (v := false) (by simp [go_sem, *])
        have u0 := cell_next hb6 (b := W.heap.size + 1) (o := 0) (by simp; omega) (v := some (.int .i64 ((a - x1 : Nat) : Int))) (by simp [go_sem, *])
        have u1 := cell_next hb6 (b := W.heap.size + 1) (o := 1) (by simp; omega) (v := some (.int .i64 ((s - x2 : Nat) : Int))) (by simp [go_sem, *])
        have u2 := frozen_next hb6 (b := W.heap.size + 1) (o := 0) (by simp; omega) (v := false) (by simp [go_sem, *])
        have u3 := frozen_next hb6 (b := W.heap.size + 1) (o := 1) (by simp; omega) (v := false) (by simp [go_sem, *])
        have hB6 : Below W.heap.size W4 W6 := Below.trans (((((Below.refl _ W4).setCell (p := ⟨W.heap.size, 0, none⟩) (Nat.le_refl _) _).setCell (p := ⟨W.heap.size, 1, none⟩) (Nat.le_refl _) _).alloc (by simp <;> omega) _).alloc (by simp <;> omega) _) (hb6.mono (by simp <;> omega))
        clear hb6 k0 k1 fk0 fk1 g0 g1 fg0 fg1
        have hz6 := hB6.size
        have hzz6 : W.heap.size + 1 < W6.heap.size := by omega
        have hJ6 := Lib.hid (hJ _ _ _ hJ4.out hB6)
        have HK6 := Lib.hid (HK4.out.trans (Kept.of_below hB6 fun i h => by have : ¬ W.heap.size ≤ i := fun hc => h (.inr (.inr hc)); omega))
        clear hB6 hJ4 HK4 hz6 hzz4 hz04
        gi_wp2
        go_roundw
        case rel =>
          refine ⟨k + 1, x1 - o, x2 - q, by omega, by go_num, B5, B6, hJ _ _ _ hJ6.out (((Below.refl _ _).setCell (p := ⟨W.heap.size + 1, 0, none⟩) (by simp) _).setCell (p := ⟨W.heap.size + 1, 1, none⟩) (by simp) _), Lib.hid (HK6.out.trans (Kept.of_below (((Below.refl W.heap.size W6).setCell (p := ⟨W.heap.size + 1, 0, none⟩) (by simp) _).setCell (p := ⟨W.heap.size + 1, 1, none⟩) (by simp) _) fun i h => by have : ¬ W.heap.size ≤ i := fun hc => h (.inr (.inr hc)); omega)), by simpa [World.setCell] using hzz6, ?_, ?_, ?_, ?_, ?_, ?_, ?_, ?_⟩
          all_goals simp [go_sem, *]
        case measure => simp [RowKit.intOf]; omega
      · obtain rfl : k = R := by omega
        have t1 : decide ((k : Int) < (k : Int)) = false := by simp
        gi_wp2
        go_end0
        exact ⟨⟨_, rfl⟩, .inl hJ3⟩
    · gi_wp2
      go_end0
      exact ⟨⟨_, rfl⟩, .inr ⟨k, by omega, hJx3⟩⟩

open Go.RowKit Go.Lib Go.Shelf
set_option linter.unusedVariables false
set_option linter.unusedSimpArgs false
attribute [local go_sem ↓] Go.wp_at_zero Go.wp_at_succ
attribute [local go_sem] Oper.semAt_some

/-- how a function with marks is left, where it never panics -/
def QM (F : Fence) (n : Nat) (P : Program) (fn : Func) (R : Ending → World → Prop) : Exit → Act → World → Prop
  | .normal, a, w | .ret, a, w => LeavesInM F n P fn a.tmps R a.defers .returning w
  | _, _, _ => False
theorem qm_post {F : Fence} {n : Nat} {P : Program} {fn : Func} {R : Ending → World → Prop} (e : Exit) (a : Act) (w : World) (h : QM F n P fn R e a w) : bodyPostM F n P fn R e a w := by
  cases e <;> first | exact h | exact h.elim

set_option maxHeartbeats 400000 in
theorem behind_any (a s t p R : Int) (w : World) :
    Calls Try.prog 52 #[.agg #[.int .i64 a, .int .i64 s], .int .i64 t, .int .i64 p, .int .i64 R] w fun e w' => e = .returned (.func (Fn.func 115) #[] #[.pointer (some ⟨w.heap.size, 0, none⟩), .pointer (some ⟨w.heap.size + 3, 0, none⟩), .pointer (some ⟨w.heap.size + 1, 0, none⟩), .pointer (some ⟨w.heap.size + 2, 0, none⟩)]) ∧
      (w'.cell? ⟨w.heap.size, 0, none⟩ = some (.int .i64 a) ∧ w'.cell? ⟨w.heap.size, 1, none⟩ = some (.int .i64 s) ∧ w'.cell? ⟨w.heap.size + 3, 0, none⟩ = some (.int .i64 R) ∧ w'.cell? ⟨w.heap.size + 1, 0, none⟩ = some (.int .i64 t) ∧ w'.cell? ⟨w.heap.size + 2, 0, none⟩ = some (.int .i64 p)) ∧ w'.heap.size = w.heap.size + 4 ∧ Below w.heap.size w w' := by
  go_enter Try.func52, Try.ntmps52
  go_wp2
  go_ret
  refine ⟨rfl, ⟨by simp [go_sem], by simp [go_sem], by simp [go_sem], by simp [go_sem], by simp [go_sem]⟩, by simp, (below_al2 w _ _).trans ((below_al2 _ _ _).mono (by simp; omega))⟩

theorem Kept.set {U : Nat → Prop} (W : World) {p : Addr} (hp : U p.block) (v : Value) : Kept U W (W.setCell p v) := ⟨by simp [World.setCell], fun k o ho hu => (Below.heap_setCell _ _ _ _ (fun e => hu (by rw [e]; exact hp))).trans ho⟩

/-- between two rounds: the results' cells -/
def RI (b t p a s : Nat) (w : World) (k : Nat) (W : World) : Prop :=
  Below b w W ∧ b + 2 < W.heap.size ∧ ∃ x1 x2 y1 y2 : Int, W.cell? ⟨b + 1, 0, none⟩ = some (.int .i64 x1) ∧ W.cell? ⟨b + 1, 1, none⟩ = some (.int .i64 x2) ∧ W.cell? ⟨b + 2, 0, none⟩ = some (.int .i64 y1) ∧ W.cell? ⟨b + 2, 1, none⟩ = some (.int .i64 y2) ∧
    W.frozen? ⟨b + 1, 0, none⟩ = false ∧ W.frozen? ⟨b + 1, 1, none⟩ = false ∧ W.frozen? ⟨b + 2, 0, none⟩ = false ∧ W.frozen? ⟨b + 2, 1, none⟩ = false ∧
    (0 < k → x1 = ((rk t p (a, s) (k - 1)).1 : Nat) ∧ x2 = ((rk t p (a, s) (k - 1)).2 : Nat) ∧ y1 = ((a - (rk t p (a, s) (k - 1)).1 : Nat) : Int) ∧ y2 = ((s - (rk t p (a, s) (k - 1)).2 : Nat) : Int))
theorem RI.next {b t p a s k : Nat} {w A B : World} {C : Nat} (h : RI b t p a s w k A) (hb : Below C A B) (hC : b + 2 < C) : RI b t p a s w k B := by
  obtain ⟨h1, h2, x1, x2, y1, y2, c1, c2, c3, c4, f1, f2, f3, f4, hk⟩ := h
  exact ⟨h1.trans (hb.mono (by omega)), Nat.lt_of_lt_of_le h2 hb.size, x1, x2, y1, y2, cell_next hb (by omega) c1, cell_next hb (by omega) c2, cell_next hb (by omega) c3, cell_next hb (by omega) c4, frozen_next hb (by omega) f1, frozen_next hb (by omega) f2, frozen_next hb (by omega) f3, frozen_next hb (by omega) f4, hk⟩

set_option maxRecDepth 40000 in
set_option maxHeartbeats 4000000 in
theorem rounds_ok (a s t p R : Nat) (ha : a ≤ 1000000000000) (hs : s ≤ 1000000000000) (ht : t ≤ 10000) (hp : p ≤ 10000) (hR : R ≤ 200) (w : World) :
    Calls Try.prog 17 #[.agg #[.int .i64 (a : Int), .int .i64 (s : Int)], .int .i64 (t : Int), .int .i64 (p : Int), .int .i64 (R : Int)] w fun e w' =>
      e = .returned (.tuple #[.agg #[.int .i64 ((rk t p (a, s) R).1 : Nat), .int .i64 ((rk t p (a, s) R).2 : Nat)], .agg #[.int .i64 ((a - (rk t p (a, s) R).1 : Nat) : Int), .int .i64 ((s - (rk t p (a, s) R).2 : Nat) : Int)], .int .i64 0]) ∧ Below w.heap.size w w' := by
  have c1 := Lib.hid (vSap_any (a : Int) (s : Int))
  rw [show spB (a : Int) (s : Int) = true from by simp [spB]; omega] at c1
  have c2 := Lib.hid (fun (W : World) (g c : Nat) => in2_any 0 10000 (t : Int) (p : Int) g c W)
  rw [show (inB 0 10000 (t : Int) && inB 0 10000 (p : Int)) = true from by simp [inB]; omega] at c2
  have c3 := Lib.hid (fun (W : World) (g c : Nat) => in1v_any 0 200 (R : Int) g c W)
  rw [show inB 0 200 (R : Int) = true from by simp [inB]; omega] at c3
  have c4 := Lib.hid (behind_any (a : Int) (s : Int) (t : Int) (p : Int) (R : Int))
  refine (callsIn_wide (n := 10)).1 (callsIn_of_wp_marks Try.func17 rfl trivial ?_ rfl)
  refine wpIn_mono (wpIn_wide.2 ?_) qm_post
  simp only [Try.ntmps17, List.size_toArray, List.length_cons, List.length_nil, Nat.reduceAdd, Nat.reduceSub, Array.replicate_succ, Array.replicate_zero, List.push_toArray, List.append_toArray, List.nil_append, List.cons_append]
  go_wp2_with fail
  refine (c1.out _).mono ?_
  rintro e w1 ⟨rfl, hb1⟩
  have hB0 : ∀ o1 o2 o3, Below w.heap.size w (((w.alloc o1).alloc o2).alloc o3) := fun _ _ _ => (below_al2 w _ _).trans (((Below.refl _ _).alloc (Nat.le_refl _) _).mono (by simp; omega))
  have hB1 := (hB0 _ _ _).trans (hb1.mono (by simp; omega))
  have hz1 := hb1.size
  simp at hz1
  have s0 := cell_next hb1 (b := w.heap.size) (o := 0) (by simp; omega) (v := some (.int .i64 (a : Int))) (by simp [go_sem])
  have s1 := cell_next hb1 (b := w.heap.size) (o := 1) (by simp; omega) (v := some (.int .i64 (s : Int))) (by simp [go_sem])
  have x0 := cell_next hb1 (b := w.heap.size + 1) (o := 0) (by simp) (v := some (.int .i64 0)) (by simp [go_sem])
  have x1 := cell_next hb1 (b := w.heap.size + 1) (o := 1) (by simp) (v := some (.int .i64 0)) (by simp [go_sem])
  have y0 := cell_next hb1 (b := w.heap.size + 2) (o := 0) (by simp) (v := some (.int .i64 0)) (by simp [go_sem])
  have y1 := cell_next hb1 (b := w.heap.size + 2) (o := 1) (by simp) (v := some (.int .i64 0)) (by simp [go_sem])
  have f0 := frozen_next hb1 (b := w.heap.size + 1) (o := 0) (by simp) (v := false) (by simp [go_sem])
  have f1 := frozen_next hb1 (b := w.heap.size + 1) (o := 1) (by simp) (v := false) (by simp [go_sem])
  have g0 := frozen_next hb1 (b := w.heap.size + 2) (o := 0) (by simp) (v := false) (by simp [go_sem])
  have g1 := frozen_next hb1 (b := w.heap.size + 2) (o := 1) (by simp) (v := false) (by simp [go_sem])
  have HI : Hid (RI w.heap.size t p a s w 0 w1 ∧ w1.cell? ⟨w.heap.size, 0, none⟩ = some (.int .i64 (a : Int)) ∧ w1.cell? ⟨w.heap.size, 1, none⟩ = some (.int .i64 (s : Int))) := Lib.hid ⟨⟨hB1, by omega, 0, 0, 0, 0, x0, x1, y0, y1, f0, f1, g0, g1, fun h => by omega⟩, s0, s1⟩
  clear hb1 hB0 hB1 s0 s1 x0 x1 y0 y1 f0 f1 g0 g1 hz1
  go_wp2_with fail
  refine (c2.out _ _ _ (by simp) (by simp [go_sem]) (by simp [go_sem])).mono ?_
  rintro e w2 ⟨rfl, hb2⟩
  replace HI : Hid (RI w.heap.size t p a s w 0 w2 ∧ w2.cell? ⟨w.heap.size, 0, none⟩ = some (.int .i64 (a : Int)) ∧ w2.cell? ⟨w.heap.size, 1, none⟩ = some (.int .i64 (s : Int))) := Lib.hid (by
    obtain ⟨h, h0, h1⟩ := HI.out
    have hb := below1 hb2
    have := h.2.1
    exact ⟨h.next hb this, cell_next hb (by omega) h0, cell_next hb (by omega) h1⟩)
  clear hb2
  go_wp2_with fail
  refine (c3.out _ _ _ (by simp) (by simp [go_sem])).mono ?_
  rintro e w3 ⟨rfl, hb3⟩
  replace HI : Hid (RI w.heap.size t p a s w 0 w3 ∧ w3.cell? ⟨w.heap.size, 0, none⟩ = some (.int .i64 (a : Int)) ∧ w3.cell? ⟨w.heap.size, 1, none⟩ = some (.int .i64 (s : Int))) := Lib.hid (by
    obtain ⟨h, h0, h1⟩ := HI.out
    have hb := below1 hb3
    have := h.2.1
    exact ⟨h.next hb this, cell_next hb (by omega) h0, cell_next hb (by omega) h1⟩)
  clear hb3
  obtain ⟨hI, s0, s1⟩ := HI.out
  clear HI
  have HI := Lib.hid hI
  clear hI
  go_wp2_with fail
  refine (c4.out _).mono ?_
  rintro e w4 ⟨rfl, ⟨k1, k2, k3, k4, k5⟩, hz4, hb4⟩
  have HI4 : RI w.heap.size t p a s w 0 w4 := HI.out.next hb4 HI.out.2.1
  have hz3 := HI.out.2.1
  clear HI c1 c2 c3 c4 hb4 s0 s1
  go_wp2_with fail
  refine (wpIn_wide (n := 10)).1 (range_law (w := w4) (R + 1) (fun i => i = w.heap.size + 1 ∨ i = w.heap.size + 2) (encK t p a s) (gf := 115) (lb := #[.pointer (some ⟨w3.heap.size, 0, none⟩), .pointer (some ⟨w3.heap.size + 3, 0, none⟩), .pointer (some ⟨w3.heap.size + 1, 0, none⟩), .pointer (some ⟨w3.heap.size + 2, 0, none⟩)]) rfl (enters_of Try.func115 (by kernel_rfl) rfl) (fun k hk h => by rcases h with h | h <;> omega)
    (behind1_in 10 (by omega) t p a s R _ _ _ _ ha hs ht hp hR _ w4 (by omega) (by omega) (by omega) (by omega) (fun h => by rcases h with h | h <;> omega) (fun h => by rcases h with h | h <;> omega) (fun h => by rcases h with h | h <;> omega) (fun h => by rcases h with h | h <;> omega) (fun k hk h => by rcases h with h | h <;> omega) k1 k2 k3 k4 k5)
    (fun k => rfl) (RI w.heap.size t p a s w) (fun _ _ => False) (fun k A B h hb => h.next hb (by omega)) (fun _ _ _ h _ => h) HI4 (fun k _ W => RI w.heap.size t p a s w (k + 1) W) (fun k _ A B h hb => h.next hb (by omega)) ?assign ?body ?done ?stop)
  case assign =>
    intro l k W K hk hi hK
    obtain ⟨h1, h2, x1, x2, y1, y2, c1, c2, c3, c4, f1, f2, f3, f4, hkk⟩ := hi
    have h2a : w.heap.size + 1 < W.heap.size := by omega
    have h2b : w.heap.size < W.heap.size := by omega
    simp only [encK]
    gi_wp2
    refine hK _ _ ((((Kept.set _ (.inl rfl) _).trans (Kept.set _ (.inl rfl) _)).trans (Kept.set _ (.inr rfl) _)).trans (Kept.set _ (.inr rfl) _)) ⟨((((h1.setCell (by simp <;> omega) _).setCell (by simp <;> omega) _).setCell (by simp <;> omega) _).setCell (by simp <;> omega) _), by simpa [World.setCell] using h2, _, _, _, _, ?_, ?_, ?_, ?_, ?_, ?_, ?_, ?_, fun _ => ⟨rfl, rfl, rfl, rfl⟩⟩
    all_goals simp [go_sem, *]
  case body =>
    intro l k a' W hk hA
    gi_wp2
    first | exact Kept.refl _ _ | exact ⟨Kept.refl _ _, hA⟩
  case stop =>
    intro D k W hD hk h _
    exact h.elim
  case done =>
    intro D W hD hI hK
    obtain ⟨h1, h2, x1, x2, y1, y2, c1, c2, c3, c4, f1, f2, f3, f4, hkk⟩ := hI
    obtain ⟨rfl, rfl, rfl, rfl⟩ := hkk (by omega)
    have h2a : w.heap.size + 1 < W.heap.size := by omega
    have h2b : w.heap.size < W.heap.size := by omega
    go_wp2_with fail
    go_region
    all_goals
      go_wp2_with fail
      show LeavesInM Fence.wide 10 _ _ _ _ _ .returning _
      have hZk : Kept (fun i => i = w.heap.size + 1 ∨ i = w.heap.size + 2) W ((((W.setCell ⟨w.heap.size + 1, 0, none⟩ (.int .i64 ((rk t p (a, s) R).1 : Nat))).setCell ⟨w.heap.size + 1, 1, none⟩ (.int .i64 ((rk t p (a, s) R).2 : Nat))).setCell ⟨w.heap.size + 1 + 1, 0, none⟩ (.int .i64 ((a - (rk t p (a, s) R).1 : Nat) : Int))).setCell ⟨w.heap.size + 1 + 1, 1, none⟩ (.int .i64 ((s - (rk t p (a, s) R).2 : Nat) : Int))).drew :=
        (((Kept.set _ (.inl rfl) _).trans (Kept.set _ (.inl rfl) _)).trans (Kept.set _ (.inr rfl) _)).trans (Kept.set _ (.inr rfl) _)
      have hZb : Below w.heap.size w ((((W.setCell ⟨w.heap.size + 1, 0, none⟩ (.int .i64 ((rk t p (a, s) R).1 : Nat))).setCell ⟨w.heap.size + 1, 1, none⟩ (.int .i64 ((rk t p (a, s) R).2 : Nat))).setCell ⟨w.heap.size + 1 + 1, 0, none⟩ (.int .i64 ((a - (rk t p (a, s) R).1 : Nat) : Int))).setCell ⟨w.heap.size + 1 + 1, 1, none⟩ (.int .i64 ((s - (rk t p (a, s) R).2 : Nat) : Int))).drew :=
        ((((h1.setCell (by simp <;> omega) _).setCell (by simp <;> omega) _).setCell (by simp <;> omega) _).setCell (by simp <;> omega) _).drew
      have z1 : ((((W.setCell ⟨w.heap.size + 1, 0, none⟩ (.int .i64 ((rk t p (a, s) R).1 : Nat))).setCell ⟨w.heap.size + 1, 1, none⟩ (.int .i64 ((rk t p (a, s) R).2 : Nat))).setCell ⟨w.heap.size + 1 + 1, 0, none⟩ (.int .i64 ((a - (rk t p (a, s) R).1 : Nat) : Int))).setCell ⟨w.heap.size + 1 + 1, 1, none⟩ (.int .i64 ((s - (rk t p (a, s) R).2 : Nat) : Int))).drew.cell? ⟨w.heap.size + 1, 0, none⟩ = some (.int .i64 ((rk t p (a, s) R).1 : Nat)) := by simp [go_sem, *]
      have z2 : ((((W.setCell ⟨w.heap.size + 1, 0, none⟩ (.int .i64 ((rk t p (a, s) R).1 : Nat))).setCell ⟨w.heap.size + 1, 1, none⟩ (.int .i64 ((rk t p (a, s) R).2 : Nat))).setCell ⟨w.heap.size + 1 + 1, 0, none⟩ (.int .i64 ((a - (rk t p (a, s) R).1 : Nat) : Int))).setCell ⟨w.heap.size + 1 + 1, 1, none⟩ (.int .i64 ((s - (rk t p (a, s) R).2 : Nat) : Int))).drew.cell? ⟨w.heap.size + 1, 1, none⟩ = some (.int .i64 ((rk t p (a, s) R).2 : Nat)) := by simp [go_sem, *]
      have z3 : ((((W.setCell ⟨w.heap.size + 1, 0, none⟩ (.int .i64 ((rk t p (a, s) R).1 : Nat))).setCell ⟨w.heap.size + 1, 1, none⟩ (.int .i64 ((rk t p (a, s) R).2 : Nat))).setCell ⟨w.heap.size + 1 + 1, 0, none⟩ (.int .i64 ((a - (rk t p (a, s) R).1 : Nat) : Int))).setCell ⟨w.heap.size + 1 + 1, 1, none⟩ (.int .i64 ((s - (rk t p (a, s) R).2 : Nat) : Int))).drew.cell? ⟨w.heap.size + 1 + 1, 0, none⟩ = some (.int .i64 ((a - (rk t p (a, s) R).1 : Nat) : Int)) := by simp [go_sem, *]
      have z4 : ((((W.setCell ⟨w.heap.size + 1, 0, none⟩ (.int .i64 ((rk t p (a, s) R).1 : Nat))).setCell ⟨w.heap.size + 1, 1, none⟩ (.int .i64 ((rk t p (a, s) R).2 : Nat))).setCell ⟨w.heap.size + 1 + 1, 0, none⟩ (.int .i64 ((a - (rk t p (a, s) R).1 : Nat) : Int))).setCell ⟨w.heap.size + 1 + 1, 1, none⟩ (.int .i64 ((s - (rk t p (a, s) R).2 : Nat) : Int))).drew.cell? ⟨w.heap.size + 1 + 1, 1, none⟩ = some (.int .i64 ((s - (rk t p (a, s) R).2 : Nat) : Int)) := by simp [go_sem, *]
      revert hZk hZb z1 z2 z3 z4
      generalize ((((W.setCell ⟨w.heap.size + 1, 0, none⟩ (.int .i64 ((rk t p (a, s) R).1 : Nat))).setCell ⟨w.heap.size + 1, 1, none⟩ (.int .i64 ((rk t p (a, s) R).2 : Nat))).setCell ⟨w.heap.size + 1 + 1, 0, none⟩ (.int .i64 ((a - (rk t p (a, s) R).1 : Nat) : Int))).setCell ⟨w.heap.size + 1 + 1, 1, none⟩ (.int .i64 ((s - (rk t p (a, s) R).2 : Nat) : Int))).drew = Z
      intro hZk hZb z1 z2 z3 z4
      have hZD := hZk.2 _ _ hK (fun h => by rcases h with h | h <;> omega)
      refine ⟨by simp, .inl ⟨D, _, rfl, run_takeDeferred hZD, ?_⟩⟩
      have hBp := below_putU (B := D) Z (.deferred none) (Nat.le_refl D)
      have v1 := cell_next hBp (by omega) z1
      have v2 := cell_next hBp (by omega) z2
      have v3 := cell_next hBp (by omega) z3
      have v4 := cell_next hBp (by omega) z4
      have hZe := hZb.trans (hBp.mono (by omega))
      generalize Z.putObj D (.deferred none) = Y at *
      exact ⟨_, by simp [results, Try.results17, go_sem, v1, v2, v3, v4], rfl, hZe⟩

open Go.RowKit Go.Lib Go.Shelf
set_option linter.unusedVariables false
set_option linter.unusedSimpArgs false
attribute [local go_sem ↓] Go.wp_at_zero Go.wp_at_succ

set_option maxHeartbeats 400000 in
theorem squeeze_ok (a s t p : Nat) (ha : a ≤ 1000000000000) (hs : s ≤ 1000000000000) (ht : t ≤ 10000) (hp : p ≤ 10000) (w : World) :
    Calls Try.prog 19 #[.agg #[.int .i64 (a : Int), .int .i64 (s : Int)], .int .i64 (t : Int), .int .i64 (p : Int)] w fun e w' =>
      e = .returned (.tuple #[.agg #[.int .i64 ((rk t p (a, s) 1).1 : Nat), .int .i64 ((rk t p (a, s) 1).2 : Nat)], .agg #[.int .i64 ((a - (rk t p (a, s) 1).1 : Nat) : Int), .int .i64 ((s - (rk t p (a, s) 1).2 : Nat) : Int)], .int .i64 0]) ∧ Below w.heap.size w w' := by
  have c1 := Lib.hid (rounds_ok a s t p 1 ha hs ht hp (by omega))
  generalize ((rk t p (a, s) 1).1 : Int) = x1 at *
  generalize ((rk t p (a, s) 1).2 : Int) = x2 at *
  generalize ((a - (rk t p (a, s) 1).1 : Nat) : Int) = y1 at *
  generalize ((s - (rk t p (a, s) 1).2 : Nat) : Int) = y2 at *
  go_enter Try.func19, Try.ntmps19
  go_wp2_with fail
  refine (c1.out _).mono ?_
  rintro e w1 ⟨rfl, hb⟩
  have x0 := cell_next hb (b := w.heap.size + 1) (o := 0) (by simp) (v := some (.int .i64 0)) (by simp [go_sem])
  have x1' := cell_next hb (b := w.heap.size + 1) (o := 1) (by simp) (v := some (.int .i64 0)) (by simp [go_sem])
  have y0 := cell_next hb (b := w.heap.size + 1 + 1) (o := 0) (by simp) (v := some (.int .i64 0)) (by simp [go_sem])
  have y1' := cell_next hb (b := w.heap.size + 1 + 1) (o := 1) (by simp) (v := some (.int .i64 0)) (by simp [go_sem])
  have f0 := frozen_next hb (b := w.heap.size + 1) (o := 0) (by simp) (v := false) (by simp [go_sem])
  have f1 := frozen_next hb (b := w.heap.size + 1) (o := 1) (by simp) (v := false) (by simp [go_sem])
  have g0 := frozen_next hb (b := w.heap.size + 1 + 1) (o := 0) (by simp) (v := false) (by simp [go_sem])
  have g1 := frozen_next hb (b := w.heap.size + 1 + 1) (o := 1) (by simp) (v := false) (by simp [go_sem])
  have hB := below3 hb
  clear hb
  go_wp2_with fail
  refine bodyPost_ret (v := .tuple #[.agg #[.int .i64 x1, .int .i64 x2], .agg #[.int .i64 y1, .int .i64 y2], .int .i64 0]) (by simp [results, Try.results19, go_sem, *]) rfl ⟨rfl, ?_⟩
  exact (((hB.setCell (by simp <;> omega) _).setCell (by simp <;> omega) _).setCell (by simp <;> omega) _).setCell (by simp <;> omega) _

set_option maxRecDepth 20000 in
set_option maxHeartbeats 1000000 in
theorem mix_ok (g off : Nat) (xs : List (Int × Int)) (c : Nat) (w : World) (hx : ∀ p ∈ xs, spB p.1 p.2 = true) (hg : g < w.heap.size) (hr : RRd w g off xs) (hl : xs.length ≤ 100) (hS : spB (suU xs).1 (suU xs).2 = true) :
    Calls Try.prog 92 #[.slice (some ⟨g, off, none⟩) xs.length c] w fun e w' =>
      e = .returned (.tuple #[.agg #[.int .i64 (suU xs).1, .int .i64 (suU xs).2], .int .i64 0]) ∧ Below w.heap.size w w' := by
  obtain ⟨n, hn⟩ : ∃ n, xs.length = n := ⟨_, rfl⟩
  rw [hn] at hl ⊢
  have Hn := Lib.hid hn
  clear hn
  have HX := Lib.hid hx
  have HR := Lib.hid hr
  have HS := Lib.hid hS
  clear hx hr hS
  go_enter Try.func92, Try.ntmps92
  have t0 : decide ((100 : Int) < (n : Int)) = false := by simp; omega
  go_wp2_with fail
  go_loopw [13] (fun i wr => ∃ (k : Nat) (a : Int × Int), k ≤ n ∧ i = .int .i64 k ∧ Hid (a = suU (xs.take k)) ∧ Hid (0 ≤ a.1 ∧ a.1 ≤ 10000000000000 * k ∧ 0 ≤ a.2 ∧ a.2 ≤ 10000000000000 * k) ∧ wr.cell? ⟨w.heap.size + 1, 0, none⟩ = some (.int .i64 a.1) ∧ wr.cell? ⟨w.heap.size + 1, 1, none⟩ = some (.int .i64 a.2) ∧ wr.frozen? ⟨w.heap.size + 1, 0, none⟩ = false ∧ wr.frozen? ⟨w.heap.size + 1, 1, none⟩ = false ∧
      wr.cell? ⟨w.heap.size, 0, none⟩ = some (.int .i64 0) ∧ wr.cell? ⟨w.heap.size, 1, none⟩ = some (.int .i64 0) ∧ wr.frozen? ⟨w.heap.size, 0, none⟩ = false ∧ wr.frozen? ⟨w.heap.size, 1, none⟩ = false ∧ w.heap.size + 1 < wr.heap.size ∧ Below w.heap.size w wr) (fun i _ => n - (RowKit.intOf i).toNat)
  case atStart =>
    refine ⟨0, (0, 0), Nat.zero_le _, rfl, Lib.hid rfl, Lib.hid (by simp), ?_, ?_, ?_, ?_, ?_, ?_, ?_, ?_, ?_, ?_⟩
    all_goals first | (simp; done) | exact below_al2 w _ _
  case round =>
    obtain ⟨k, ⟨a0, a1⟩, hk, rfl, ha, hDa, c0, c1, f0, f1, d0, d1, e0, e1, hz, hbr⟩ := hrel
    have hz0 : w.heap.size < wr.heap.size := by omega
    have hgw : g < wr.heap.size := by omega
    dsimp only at c0 c1
    by_cases hlt : k < n
    · have hkl : k < xs.length := by rw [Hn.out]; exact hlt
      obtain ⟨⟨p0, p1⟩, hp⟩ : ∃ p, xs[k]? = some p := ⟨_, List.getElem?_eq_getElem hkl⟩
      have hpS : spB p0 p1 = true := HX.out _ (List.mem_of_getElem? hp)
      have v1 := Lib.hid (sapValid_any p0 p1)
      rw [hpS] at v1
      obtain ⟨q0, q1⟩ := (HR.out.below hbr hg) k _ hp
      obtain ⟨r1, r2, r3, r4⟩ := spB_of hpS
      obtain ⟨r5, r6, r7, r8⟩ := hDa.out
      have haq : Hid ((a0 + p0, a1 + p1) = suU (xs.take (k + 1))) := Lib.hid (by rw [List.take_add_one, hp, show (some (p0, p1)).toList = [(p0, p1)] from rfl, suU_snoc, ← ha.out]; rfl)
      have hDq : Hid (0 ≤ a0 + p0 ∧ a0 + p0 ≤ 10000000000000 * ((k + 1 : Nat) : Int) ∧ 0 ≤ a1 + p1 ∧ a1 + p1 ≤ 10000000000000 * ((k + 1 : Nat) : Int)) := Lib.hid ⟨by omega, by omega, by omega, by omega⟩
      have s0 : IntKind.i64.wrap (a0 + p0) = a0 + p0 := IntWalk.i64_in _ (by omega)
      have s1 : IntKind.i64.wrap (a1 + p1) = a1 + p1 := IntWalk.i64_in _ (by omega)
      clear hp r1 r2 r3 r4 r5 r6 r7 r8 hDa ha hpS
      dsimp only at q0 q1
      go_wp2_with fail
      refine (v1.out _).mono ?_
      rintro e w1 ⟨rfl, hb1⟩
      have x0 := cell_next hb1 (b := wr.heap.size) (o := 0) (by simp) (v := some (.int .i64 p0)) (by simp [go_sem])
      have x1 := cell_next hb1 (b := wr.heap.size) (o := 1) (by simp) (v := some (.int .i64 p1)) (by simp [go_sem])
      have hB1 := below1 hb1
      have hz1 : wr.heap.size < w1.heap.size := by have := hb1.size; simp at this; omega
      replace c0 := cell_next hB1 hz c0
      replace c1 := cell_next hB1 hz c1
      replace f0 := frozen_next hB1 hz f0
      replace f1 := frozen_next hB1 hz f1
      replace d0 := cell_next hB1 hz0 d0
      replace d1 := cell_next hB1 hz0 d1
      replace e0 := frozen_next hB1 hz0 e0
      replace e1 := frozen_next hB1 hz0 e1
      have hne : w.heap.size + 1 ≠ wr.heap.size := by omega
      replace hbr := hbr.trans (hB1.mono (by omega))
      clear hb1 hB1 q0 q1 v1
      go_wp2_with fail
      go_roundw
      case rel =>
        refine ⟨k + 1, (a0 + p0, a1 + p1), by omega, by go_num, haq, hDq, ?_, ?_, ?_, ?_, ?_, ?_, ?_, ?_, by simp; omega, ((hbr.setCell (p := ⟨w.heap.size + 1, 0, none⟩) (by simp) _).setCell (p := ⟨w.heap.size + 1, 1, none⟩) (by simp) _)⟩
        all_goals simp [go_sem, *]
      case measure => simp [RowKit.intOf]; omega
    · obtain rfl : k = n := by omega
      have hfin : (a0, a1) = suU xs := by rw [ha.out, List.take_of_length_le (by rw [Hn.out]; omega)]
      have Hfin := Lib.hid hfin
      have v1 := Lib.hid (sapValid_any a0 a1)
      rw [show spB a0 a1 = true from by have h := HS.out; rw [← hfin] at h; exact h] at v1
      clear hfin ha hDa
      go_wp2_with fail
      refine (v1.out _).mono ?_
      rintro e w1 ⟨rfl, hb1⟩
      replace c0 := cell_next hb1 hz c0
      replace c1 := cell_next hb1 hz c1
      replace d0 := cell_next hb1 hz0 d0
      replace d1 := cell_next hb1 hz0 d1
      replace e0 := frozen_next hb1 hz0 e0
      replace e1 := frozen_next hb1 hz0 e1
      replace hbr := hbr.trans (hb1.mono (by omega))
      clear hb1 v1 f0 f1
      go_wp2_with fail
      refine bodyPost_ret (v := .tuple #[.agg #[.int .i64 a0, .int .i64 a1], .int .i64 0]) (by simp [results, Try.results92, go_sem, *]) rfl ⟨by rw [← Hfin.out], ?_⟩
      exact (hbr.setCell (by simp) _).setCell (by simp) _
end Go.Proofs.Ytdlmkjllcejoaaa
