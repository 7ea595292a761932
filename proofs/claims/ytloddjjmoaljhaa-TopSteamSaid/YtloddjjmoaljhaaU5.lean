/- Contracts: the iterator over what is left and has gone behind 0 rounds, behind 1, and so on. -/
import Derived.Test.YtloddjjmoaljhaaU4
namespace Go.Proofs.Ytloddjjmoaljhaa
open Go.RowKit Go.Lib Go.Shelf
set_option linter.unusedVariables false
set_option linter.unusedSimpArgs false
attribute [local go_sem] Oper.semAt_some

/-- what the iterator yields after k rounds -/
def encK (t p a s : Nat) (k : Nat) : Array Value :=
  #[.agg #[.int .i64 (((rk t p (a, s) k).1 : Nat) : Int), .int .i64 (((rk t p (a, s) k).2 : Nat) : Int)], .agg #[.int .i64 ((a - (rk t p (a, s) k).1 : Nat) : Int), .int .i64 ((s - (rk t p (a, s) k).2 : Nat) : Int)]]

/-- one round, as the walk meets it -/
theorem rk_next (t p a s k : Nat) (ht : t ≤ 10000) (hp : p ≤ 10000) (x1 x2 : Nat) (h1 : (rk t p (a, s) k).1 = x1) (h2 : (rk t p (a, s) k).2 = x2) :
    x1 ≤ a ∧ x2 ≤ s ∧ offW x1 t ≤ x1 ∧ offS x1 x2 t p ≤ x2 ∧ (rk t p (a, s) (k + 1)).1 = x1 - offW x1 t ∧ (rk t p (a, s) (k + 1)).2 = x2 - offS x1 x2 t p := by
  have h := rk_le t p (a, s) k
  rw [h1, h2] at h
  refine ⟨h.1, h.2, offW_le _ _ ht, offS_le _ _ _ _ ht hp, ?_, ?_⟩
  · show (rk t p (a, s) k).1 - offW (rk t p (a, s) k).1 t = _
    rw [h1]
  · show (rk t p (a, s) k).2 - offS (rk t p (a, s) k).1 (rk t p (a, s) k).2 t p = _
    rw [h1, h2]

theorem sum2_any (g cp : Nat) (a b c d x y : Int) (w : World) (hg : g < w.heap.size) (h1 : smB (a, b)) (h2 : smB (c, d)) (c0 : w.cell? ⟨g, 0, none⟩ = some (.int .i64 a)) (c1 : w.cell? ⟨g, 1, none⟩ = some (.int .i64 b)) (c2 : w.cell? ⟨g, 2, none⟩ = some (.int .i64 c)) (c3 : w.cell? ⟨g, 3, none⟩ = some (.int .i64 d)) (hx : a + c = x) (hy : b + d = y) :
    Calls Try.prog 61 #[.slice (some ⟨g, 0, none⟩) 2 cp] w fun e w' => e = .returned (.agg #[.int .i64 x, .int .i64 y]) ∧ Below w.heap.size w w' := by
  have h := sums_any g 0 [(a, b), (c, d)] cp w (by intro p hp; rcases List.mem_cons.1 hp with rfl | hp; exact h1; rcases List.mem_cons.1 hp with rfl | hp; exact h2; cases hp) hg (by
    intro k p hp
    rcases k with _ | _ | k
    · simp at hp; subst hp; exact ⟨c0, c1⟩
    · simp at hp; subst hp; exact ⟨c2, c3⟩
    · simp at hp) (by simp)
  have e : suU [(a, b), (c, d)] = (x, y) := by simp [suU, addP, hx, hy]
  rw [e] at h
  exact h
theorem Kept.of_below {B : Nat} {U : Nat → Prop} {W W' : World} (h : Below B W W') (hU : ∀ k, ¬ U k → k < B) : Kept U W W' := ⟨h.size, fun k o ho hu => (h.block k (hU k hu)).trans ho⟩

set_option maxRecDepth 100000 in
set_option maxHeartbeats 2000000 in
theorem behind1_in (n : Nat) (hn : 2 ≤ n) (t p a s R bs br bt bp : Nat) (ha : a ≤ 1000000000000) (hs : s ≤ 1000000000000) (ht : t ≤ 10000) (hp : p ≤ 10000) (hR : R ≤ 200) (U : Nat → Prop) (w : World)
    (ls : bs < w.heap.size) (lr : br < w.heap.size) (lt : bt < w.heap.size) (lp : bp < w.heap.size) (us : ¬ U bs) (ur : ¬ U br) (ut : ¬ U bt) (up : ¬ U bp) (hU : ∀ k, w.heap.size ≤ k → ¬ U k)
    (s0 : w.cell? ⟨bs, 0, none⟩ = some (.int .i64 (a : Int))) (s1 : w.cell? ⟨bs, 1, none⟩ = some (.int .i64 (s : Int))) (r0 : w.cell? ⟨br, 0, none⟩ = some (.int .i64 (R : Int))) (t0 : w.cell? ⟨bt, 0, none⟩ = some (.int .i64 (t : Int))) (p0 : w.cell? ⟨bp, 0, none⟩ = some (.int .i64 (p : Int))) :
    IterAt n Try.prog 59 #[.pointer (some ⟨bs, 0, none⟩), .pointer (some ⟨br, 0, none⟩), .pointer (some ⟨bt, 0, none⟩), .pointer (some ⟨bp, 0, none⟩)] (encK t p a s) (R + 1) U w := by
  intro l J Jx W hW hl1 hl2 hJ hY h0
  have hWs := hW.size
  have S0 := cell_next hW ls s0
  have S1 := cell_next hW ls s1
  have R0 := cell_next hW lr r0
  have T0 := cell_next hW lt t0
  have P0 := cell_next hW lp p0
  clear s0 s1 r0 t0 p0
  refine callsIn_of_wp Try.func59 rfl trivial ?_ rfl
  simp only [Try.ntmps59, List.size_toArray, List.length_cons, List.length_nil, Nat.reduceAdd, Nat.reduceSub, Array.replicate_succ, Array.replicate_zero, List.push_toArray, List.append_toArray, List.nil_append, List.cons_append]
  gi_wp2
  gi_loopw [8] (fun i wr => ∃ (k x1 x2 : Nat), k ≤ R ∧ i = .int .i64 (k : Int) ∧ Hid ((rk t p (a, s) k).1 = x1) ∧ Hid ((rk t p (a, s) k).2 = x2) ∧ J k wr ∧ Hid (Kept (fun i => U i ∨ i = l ∨ W.heap.size ≤ i) W wr) ∧ W.heap.size + 1 < wr.heap.size ∧
      wr.cell? ⟨W.heap.size, 0, none⟩ = some (.int .i64 (x1 : Int)) ∧ wr.cell? ⟨W.heap.size, 1, none⟩ = some (.int .i64 (x2 : Int)) ∧ wr.frozen? ⟨W.heap.size, 0, none⟩ = false ∧ wr.frozen? ⟨W.heap.size, 1, none⟩ = false ∧
      wr.cell? ⟨W.heap.size + 1, 0, none⟩ = some (.int .i64 ((a - x1 : Nat) : Int)) ∧ wr.cell? ⟨W.heap.size + 1, 1, none⟩ = some (.int .i64 ((s - x2 : Nat) : Int)) ∧ wr.frozen? ⟨W.heap.size + 1, 0, none⟩ = false ∧ wr.frozen? ⟨W.heap.size + 1, 1, none⟩ = false)
    (fun i _ => R - (RowKit.intOf i).toNat)
  case atStart =>
    refine ⟨0, a, s, Nat.zero_le _, rfl, Lib.hid rfl, Lib.hid rfl, hJ 0 _ _ h0 (below_al2 W _ _), Lib.hid (Kept.of_below (below_al2 W _ _) fun i h => by have : ¬ W.heap.size ≤ i := fun hc => h (.inr (.inr hc)); omega), by simp, ?_, ?_, ?_, ?_, ?_, ?_, ?_, ?_⟩
    all_goals simp [go_sem]
  case round =>
    obtain ⟨k, x1, x2, hk, rfl, H1, H2, hJk, HK, hz, k0, k1, fk0, fk1, g0, g1, fg0, fg1⟩ := hrel
    obtain ⟨fn, tmps, assign, body, hy, hRd⟩ := hY k wr (by omega) hJk
    simp only [encK, H1.out, H2.out] at hy
    have hn1 : 1 ≤ n - 1 := by omega
    gi_wp2
    refine hRd.mono ?_
    rintro e W3 (⟨rfl, hJ3, hk3⟩ | ⟨rfl, hJx3⟩)
    · have hz3 := hk3.1
      have hlU : ∀ b, W.heap.size ≤ b → ¬ (U b ∨ b = l) := fun b hb => by
        rintro (h | h)
        · exact hU b (by omega) h
        · omega
      have hV : ∀ b, b < w.heap.size → ¬ U b → ¬ (U b ∨ b = l ∨ W.heap.size ≤ b) := fun b hb hu => by
        rintro (h | h | h)
        · exact hu h
        · omega
        · omega
      have HK3 := Lib.hid (HK.out.trans (hk3.mono fun i h => by rcases h with h | h; exact .inl h; exact .inr (.inl h)))
      have R03 := (HK3.out.cell (p := ⟨br, 0, none⟩) (by show br < _; omega) (hV br lr ur)).trans R0
      have T03 := (HK3.out.cell (p := ⟨bt, 0, none⟩) (by show bt < _; omega) (hV bt lt ut)).trans T0
      have P03 := (HK3.out.cell (p := ⟨bp, 0, none⟩) (by show bp < _; omega) (hV bp lp up)).trans P0
      replace k0 := (hk3.cell (p := ⟨W.heap.size, 0, none⟩) (by show W.heap.size < _; omega) (hlU _ (Nat.le_refl _))).trans k0
      replace k1 := (hk3.cell (p := ⟨W.heap.size, 1, none⟩) (by show W.heap.size < _; omega) (hlU _ (Nat.le_refl _))).trans k1
      replace fk0 := (hk3.frozen (p := ⟨W.heap.size, 0, none⟩) (by show W.heap.size < _; omega) (hlU _ (Nat.le_refl _))).trans fk0
      replace fk1 := (hk3.frozen (p := ⟨W.heap.size, 1, none⟩) (by show W.heap.size < _; omega) (hlU _ (Nat.le_refl _))).trans fk1
      replace g0 := (hk3.cell (p := ⟨W.heap.size + 1, 0, none⟩) hz (hlU _ (by show W.heap.size ≤ W.heap.size + 1; omega))).trans g0
      replace g1 := (hk3.cell (p := ⟨W.heap.size + 1, 1, none⟩) hz (hlU _ (by show W.heap.size ≤ W.heap.size + 1; omega))).trans g1
      replace fg0 := (hk3.frozen (p := ⟨W.heap.size + 1, 0, none⟩) hz (hlU _ (by show W.heap.size ≤ W.heap.size + 1; omega))).trans fg0
      replace fg1 := (hk3.frozen (p := ⟨W.heap.size + 1, 1, none⟩) hz (hlU _ (by show W.heap.size ≤ W.heap.size + 1; omega))).trans fg1
      have hzz : W.heap.size + 1 < W3.heap.size := by omega
      have hlW : l < W3.heap.size := by omega
      clear hk3 hy hRd hlU hV HK hJk
      obtain ⟨b1, b2, b3, b4, b5, b6⟩ := rk_next t p a s k ht hp x1 x2 H1.out H2.out
      have B1 := Lib.hid b1
      have B2 := Lib.hid b2
      have B3 := Lib.hid b3
      have B4 := Lib.hid b4
      have B5 := Lib.hid b5
      have B6 := Lib.hid b6
      clear b1 b2 b3 b4 b5 b6 H1 H2 hz hz3
      by_cases hlt : k < R
      · have t1 : decide ((k : Int) < (R : Int)) = true := by simp; omega
        have c1 := Lib.hid (callsIn_wide (n := n - 1 - 1).2 (through_any x1 x2 t p (by have := B1.out; omega) (by have := B2.out; omega) ht hp W3))
        gi_wp2
        refine ⟨trivial, c1.out.mono ?_⟩
        rintro e W4 ⟨rfl, hb4⟩
        clear c1
        have hz4 := hb4.size
        have hzk : W.heap.size < W3.heap.size := by omega
        replace k0 := cell_next hb4 hzk k0
        replace k1 := cell_next hb4 hzk k1
        replace fk0 := frozen_next hb4 hzk fk0
        replace fk1 := frozen_next hb4 hzk fk1
        replace g0 := cell_next hb4 hzz g0
        replace g1 := cell_next hb4 hzz g1
        replace fg0 := frozen_next hb4 hzz fg0
        replace fg1 := frozen_next hb4 hzz fg1
        have hJ4 := Lib.hid (hJ _ _ _ hJ3 (hb4.mono (by omega)))
        have HK4 := Lib.hid (HK3.out.trans (Kept.of_below hb4 fun i h => by have : ¬ W.heap.size ≤ i := fun hc => h (.inr (.inr hc)); omega))
        have hzz4 : W.heap.size + 1 < W4.heap.size := by omega
        have hz04 : W.heap.size < W4.heap.size := by omega
        clear hb4 HK3 R03 T03 P03 hz4 hzk hzz hlW hJ3
        generalize offW x1 t = o at *
        generalize offS x1 x2 t p = q at *
        have f1 : IntKind.i64.wrap ((x1 : Int) - (o : Int)) = ((x1 - o : Nat) : Int) := by rw [show (x1 : Int) - (o : Int) = ((x1 - o : Nat) : Int) from by have := B3.out; omega]; exact wrapI _ (by have := B1.out; omega)
        have f2 : IntKind.i64.wrap ((x2 : Int) - (q : Int)) = ((x2 - q : Nat) : Int) := by rw [show (x2 : Int) - (q : Int) = ((x2 - q : Nat) : Int) from by have := B4.out; omega]; exact wrapI _ (by have := B2.out; omega)
        gi_wp2
        refine ⟨trivial, (callsIn_wide.2 (sum2_any (W4.heap.size + 1) 2 ((a - x1 : Nat) : Int) ((s - x2 : Nat) : Int) (o : Int) (q : Int) ((a - (x1 - o) : Nat) : Int) ((s - (x2 - q) : Nat) : Int) _ (by simp) ⟨by omega, by omega, by omega, by omega⟩ ⟨by omega, by have h1 := B1.out; have h2 := B3.out; omega, by omega, by have h1 := B2.out; have h2 := B4.out; omega⟩ (by simp [go_sem]) (by simp [go_sem]) (by simp [go_sem]) (by simp [go_sem]) (by have h1 := B1.out; have h2 := B3.out; omega) (by have h1 := B2.out; have h2 := B4.out; omega))).mono ?_⟩
        rintro e W6 ⟨rfl, hb6⟩
        have q0 := cell_next hb6 (b := W.heap.size) (o := 0) (by simp; omega) (v := some (.int .i64 ((x1 - o : Nat) : Int))) (by simp [go_sem, *])
        have q1 := cell_next hb6 (b := W.heap.size) (o := 1) (by simp; omega) (v := some (.int .i64 ((x2 - q : Nat) : Int))) (by simp [go_sem, *])
        have q2 := frozen_next hb6 (b := W.heap.size) (o := 0) (by simp; omega) (v := false) (by simp [go_sem, *])
        have q3 := frozen_next hb6 (b := W.heap.size) (o := 1) (by simp; omega) (v := false) (by simp [go_sem, *])
        have u0 := cell_next hb6 (b := W.heap.size + 1) (o := 0) (by simp; omega) (v := some (.int .i64 ((a - x1 : Nat) : Int))) (by simp [go_sem, *])
        have u1 := cell_next hb6 (b := W.heap.size + 1) (o := 1) (by simp; omega) (v := some (.int .i64 ((s - x2 : Nat) : Int))) (by simp [go_sem, *])
        have u2 := frozen_next hb6 (b := W.heap.size + 1) (o := 0) (by simp; omega) (v := false) (by simp [go_sem, *])
        have u3 := frozen_next hb6 (b := W.heap.size + 1) (o := 1) (by simp; omega) (v := false) (by simp [go_sem, *])
        have hB6 : Below W.heap.size W4 W6 := Below.trans (((((Below.refl _ W4).setCell (p := ⟨W.heap.size, 0, none⟩) (Nat.le_refl _) _).setCell (p := ⟨W.heap.size, 1, none⟩) (Nat.le_refl _) _).alloc (by simp <;> omega) _).alloc (by simp <;> omega) _) (hb6.mono (by simp <;> omega))
        clear hb6 k0 k1 fk0 fk1 g0 g1 fg0 fg1
        have hz6 := hB6.size
        have hzz6 : W.heap.size + 1 < W6.heap.size := by omega
        have hJ6 := Lib.hid (hJ _ _ _ hJ4.out hB6)
        have HK6 := Lib.hid (HK4.out.trans (Kept.of_below hB6 fun i h => by have : ¬ W.heap.size ≤ i := fun hc => h (.inr (.inr hc)); omega))
        clear hB6 hJ4 HK4 hz6 hzz4 hz04
        gi_wp2
        go_roundw
        case rel =>
          refine ⟨k + 1, x1 - o, x2 - q, by omega, by go_num, B5, B6, hJ _ _ _ hJ6.out (((Below.refl _ _).setCell (p := ⟨W.heap.size + 1, 0, none⟩) (by simp) _).setCell (p := ⟨W.heap.size + 1, 1, none⟩) (by simp) _), Lib.hid (HK6.out.trans (Kept.of_below (((Below.refl W.heap.size W6).setCell (p := ⟨W.heap.size + 1, 0, none⟩) (by simp) _).setCell (p := ⟨W.heap.size + 1, 1, none⟩) (by simp) _) fun i h => by have : ¬ W.heap.size ≤ i := fun hc => h (.inr (.inr hc)); omega)), by simpa [World.setCell] using hzz6, ?_, ?_, ?_, ?_, ?_, ?_, ?_, ?_⟩
          all_goals simp [go_sem, *]
        case measure => simp [RowKit.intOf]; omega
      · obtain rfl : k = R := by omega
        have t1 : decide ((k : Int) < (k : Int)) = false := by simp
        gi_wp2
        go_end0
        exact ⟨⟨_, rfl⟩, .inl hJ3⟩
    · gi_wp2
      go_end0
      exact ⟨⟨_, rfl⟩, .inr ⟨k, by omega, hJx3⟩⟩
end Go.Proofs.Ytloddjjmoaljhaa

