/- TopSteam whole: sap that is concentrated and made into syrup, in a ledger. -/
import Derived.Test.YtloddjjmoaljhaaG9
namespace Go.Proofs.Ytloddjjmoaljhaa
open Go.RowKit Go.Lib Go.Shelf
set_option linter.unusedVariables false
set_option linter.unusedSimpArgs false
attribute [local go_sem ↓] Go.wp_at_zero Go.wp_at_succ

theorem below5 {w w1 : World} {o p q r s : Obj} (h : Below (((((w.alloc o).alloc p).alloc q).alloc r).alloc s).heap.size (((((w.alloc o).alloc p).alloc q).alloc r).alloc s) w1) : Below w.heap.size w w1 := below1 (below4 h)
theorem below_undrw {n k : Nat} {W W' : World} (h : Below n (W.drewN k) W') : Below n W W' := ⟨h.os, h.tape, h.output, h.size, h.block⟩
theorem mix2_at (g cp : Nat) (a b c d x y : Nat) (w : World) (hg : g < w.heap.size) (h1 : a + c = x) (h2 : b + d = y) (hx : x ≤ 1000000000000) (hy : y ≤ 1000000000000) (c0 : w.cell? ⟨g, 0, none⟩ = some (.int .i64 (a : Int))) (c1 : w.cell? ⟨g, 1, none⟩ = some (.int .i64 (b : Int))) (c2 : w.cell? ⟨g, 2, none⟩ = some (.int .i64 (c : Int))) (c3 : w.cell? ⟨g, 3, none⟩ = some (.int .i64 (d : Int))) :
    Calls Try.prog 8 #[.slice (some ⟨g, 0, none⟩) 2 cp] w fun e w' => e = .returned (.tuple #[.agg #[.int .i64 (x : Int), .int .i64 (y : Int)], .int .i64 0]) ∧ Below w.heap.size w w' := by
  have e : suU [((a : Int), (b : Int)), ((c : Int), (d : Int))] = ((x : Int), (y : Int)) := by simp [suU, addP]; omega
  have h := mix_ok g 0 [((a : Int), (b : Int)), ((c : Int), (d : Int))] cp w (by intro p hp; rcases List.mem_cons.1 hp with rfl | hp; simp [spB]; omega; rcases List.mem_cons.1 hp with rfl | hp; simp [spB]; omega; cases hp) hg (by
    intro k p hp
    rcases k with _ | _ | k
    · simp at hp; subst hp; exact ⟨c0, c1⟩
    · simp at hp; subst hp; exact ⟨c2, c3⟩
    · simp at hp) (by simp) (by rw [e]; simp [spB]; omega)
  rw [e] at h
  exact h

structure Steam (a1 b1 T P A S K1 K2 G1 G2 st : Nat) : Prop where
  hw : K1 + G1 = A
  hs : K2 + G2 = S
  k2 : 1 ≤ K2
  e : boilE K1 K2 6600 = 0
  b : boilW K1 K2 6600 = (st : Int)
  le : st ≤ K1
theorem steam_of (A S t p : Nat) (ha1 : 0 < A) (ha : A ≤ 1000000000000) (hs1 : 0 < S) (hs : S ≤ 1000000000000) (ht : t < 10000) (hp : p ≤ 10000) :
    ∃ K1 K2 G1 G2 st : Nat, (rk t p (A, S) 2).1 = K1 ∧ (rk t p (A, S) 2).2 = K2 ∧ A - (rk t p (A, S) 2).1 = G1 ∧ S - (rk t p (A, S) 2).2 = G2 ∧ Steam 0 0 t p A S K1 K2 G1 G2 st := by
  have h := conc_of A S t p 2 ha1 ha hs1 hs (by omega) hp
  refine ⟨_, _, _, _, (boilW ((rk t p (A, S) 2).1 : Nat) ((rk t p (A, S) 2).2 : Nat) 6600).toNat, rfl, rfl, rfl, rfl, ?_⟩
  generalize (rk t p (A, S) 2).1 = K1 at *
  generalize (rk t p (A, S) 2).2 = K2 at *
  generalize A - K1 = G1 at *
  generalize S - K2 = G2 at *
  have hz : 0 < K1 + K2 := by
    rcases Nat.eq_zero_or_pos (K1 + K2) with h0 | h0
    · have := h.hz h0; omega
    · exact h0
  have hk := (h.hK hz).1
  have h1 := h.hw
  have h2 := h.hs
  obtain ⟨e1, e2⟩ := boil_nat K1 K2 6600 (by omega) (by omega) hk (by omega) (by omega)
  have e3 : boilW (K1 : Int) (K2 : Int) 6600 = max 0 (((K1 + K2 : Nat) : Int) - ((K2 * 10000 / 6600 : Nat) : Int)) := e2
  have hd : K2 ≤ K2 * 10000 / 6600 := (Nat.le_div_iff_mul_le (by omega)).2 (by omega)
  exact ⟨h1, h2, hk, e1, by omega, by omega⟩

set_option maxRecDepth 100000 in
set_option maxHeartbeats 16000000 in
theorem steam_walk (u0 u1 v0 v1 v2 : Nat) (hu0 : u0 ≤ 65535) (hu1 : u1 ≤ 65535) (hv0 : v0 ≤ 65535) (hv1 : v1 ≤ 65535) (hv2 : v2 ≤ 65535) (w : World) :
    Calls Try.prog 4 #[.agg #[.int .u16 (u0 : Int), .int .u16 (u1 : Int)], .agg #[.int .u16 (v0 : Int), .int .u16 (v1 : Int), .int .u16 (v2 : Int)]] w fun e w' => e = .returned (.bool true) ∧ Below w.heap.size w w' := by
  have CV := Lib.hid linkVat_any
  have x0 := wrapI u0 (by omega)
  have x1 := wrapI u1 (by omega)
  have x2 := wrapI v0 (by omega)
  have x3 := wrapI v1 (by omega)
  have x4 := wrapI v2 (by omega)
  obtain ⟨a1, ha1⟩ : ∃ a, 5000 + u0 = a := ⟨_, rfl⟩
  obtain ⟨r1, hr1⟩ : ∃ a, u1 % 900 = a := ⟨_, rfl⟩
  obtain ⟨b1, hb1⟩ : ∃ a, 100 + r1 = a := ⟨_, rfl⟩
  obtain ⟨tt, ht⟩ : ∃ a, v0 % 9000 = a := ⟨_, rfl⟩
  obtain ⟨pp, hp⟩ : ∃ a, v1 % 50 = a := ⟨_, rfl⟩
  obtain ⟨A, hA⟩ : ∃ a, a1 + 3000 = a := ⟨_, rfl⟩
  obtain ⟨S, hS⟩ : ∃ a, b1 + 70 = a := ⟨_, rfl⟩
  have y0 : IntKind.i64.wrap (5000 + (u0 : Int)) = (a1 : Int) := by rw [show (5000 : Int) + (u0 : Int) = (a1 : Int) from by omega]; exact wrapI _ (by omega)
  have y1 : Int.tmod (u1 : Int) 900 = (r1 : Int) := by rw [Int.tmod_eq_emod_of_nonneg (by omega)]; omega
  have y2 := wrapI r1 (by omega)
  have y3 : IntKind.i64.wrap (100 + (r1 : Int)) = (b1 : Int) := by rw [show (100 : Int) + (r1 : Int) = (b1 : Int) from by omega]; exact wrapI _ (by omega)
  have y4 : Int.tmod (v0 : Int) 9000 = (tt : Int) := by rw [Int.tmod_eq_emod_of_nonneg (by omega)]; omega
  have y5 : Int.tmod (v1 : Int) 50 = (pp : Int) := by rw [Int.tmod_eq_emod_of_nonneg (by omega)]; omega
  have y6 := wrapI tt (by omega)
  have y7 := wrapI pp (by omega)
  have ba1 : a1 ≤ 70535 := by omega
  have bb1 : b1 ≤ 999 := by omega
  have ba2 : 5000 ≤ a1 := by omega
  have bb2 : 100 ≤ b1 := by omega
  obtain ⟨K1, K2, G1, G2, st, q1, q2, q3, q4, ⟨h1, h2, h3, h4, h5, h6⟩⟩ := steam_of A S tt pp (by omega) (by omega) (by omega) (by omega) (by omega) (by omega)
  have c1 := Lib.hid (fun (W : World) (g cp : Nat) (hg : g < W.heap.size) => mix2_at g cp a1 b1 3000 70 A S W hg hA hS (by omega) (by omega))
  have c2 := Lib.hid (rounds_ok A S tt pp 2 (by omega) (by omega) (by omega) (by omega) (by omega))
  rw [q1, q2, show A - K1 = G1 from by omega, show S - K2 = G2 from by omega, show ((2 : Nat) : Int) = 2 from rfl] at c2
  have c3 := Lib.hid (boil_any (K1 : Int) (K2 : Int) 6600)
  rw [h4, h5] at c3
  clear q1 q2 q3 q4 h4 h5
  have t1 : decide ((K2 : Int) < 1) = false := by simp; omega
  have t2 : decide ((st : Int) < 0) = false := by simp
  have t3 : decide ((K1 : Int) < (st : Int)) = false := by simp; omega
  have t3' : decide (K1 < st) = false := by simp; omega
  have t1' : decide (K2 < 1) = false := by simp; omega
  obtain ⟨KK, hKK⟩ : ∃ a, K1 + K2 = a := ⟨_, rfl⟩
  obtain ⟨Y, hY⟩ : ∃ a, KK - st = a := ⟨_, rfl⟩
  obtain ⟨M, hM⟩ : ∃ a, a1 + b1 = a := ⟨_, rfl⟩
  obtain ⟨GG, hGG⟩ : ∃ a, G1 + G2 = a := ⟨_, rfl⟩
  obtain ⟨Lo, hLo⟩ : ∃ a, GG + st = a := ⟨_, rfl⟩
  obtain ⟨TT, hTT⟩ : ∃ a, A + S = a := ⟨_, rfl⟩
  have bY : 1 ≤ Y ∧ Y ≤ M + 3070 ∧ Y ≤ 100000 := ⟨by omega, by omega, by omega⟩
  have bM : 1 ≤ M ∧ M ≤ 100000 := ⟨by omega, by omega⟩
  have hLoY : M + 3070 = Lo + Y := by omega
  have hTY : Y + Lo = TT := by omega
  have bTT : TT ≤ 100000 := by omega
  have y8 : IntKind.i64.wrap ((K1 : Int) + (K2 : Int)) = (KK : Int) := by rw [show (K1 : Int) + (K2 : Int) = (KK : Int) from by omega]; exact wrapI _ (by omega)
  have y9 : IntKind.i64.wrap ((KK : Int) - (st : Int)) = (Y : Int) := by rw [show (KK : Int) - (st : Int) = (Y : Int) from by omega]; exact wrapI _ (by omega)
  have y10 : IntKind.i64.wrap ((a1 : Int) + (b1 : Int)) = (M : Int) := by rw [show (a1 : Int) + (b1 : Int) = (M : Int) from by omega]; exact wrapI _ (by omega)
  have y11 : IntKind.i64.wrap ((G1 : Int) + (G2 : Int)) = (GG : Int) := by rw [show (G1 : Int) + (G2 : Int) = (GG : Int) from by omega]; exact wrapI _ (by omega)
  have y12 : IntKind.i64.wrap ((GG : Int) + (st : Int)) = (Lo : Int) := by rw [show (GG : Int) + (st : Int) = (Lo : Int) from by omega]; exact wrapI _ (by omega)
  have y13 : IntKind.i64.wrap ((Y : Int) + (Lo : Int)) = (TT : Int) := by rw [show (Y : Int) + (Lo : Int) = (TT : Int) from by omega]; exact wrapI _ (by omega)
  have y14 : IntKind.i64.wrap ((A : Int) + (S : Int)) = (TT : Int) := by rw [show (A : Int) + (S : Int) = (TT : Int) from by omega]; exact wrapI _ (by omega)
  have y15 : IntKind.i64.wrap 3070 = 3070 := IntWalk.i64_in _ (by omega)
  obtain ⟨pr, hpr⟩ : ∃ a, v2 % Y = a := ⟨_, rfl⟩
  obtain ⟨p, hpp⟩ : ∃ a, 1 + pr = a := ⟨_, rfl⟩
  have hprY : pr < Y := by rw [← hpr]; exact Nat.mod_lt _ (by omega)
  have y16 : Int.tmod (v2 : Int) (Y : Int) = (pr : Int) := by rw [Int.tmod_eq_emod_of_nonneg (by omega), ← hpr]; rfl
  have y17 := wrapI pr (by omega)
  have y18 : IntKind.i64.wrap (1 + (pr : Int)) = (p : Int) := by rw [show (1 : Int) + (pr : Int) = (p : Int) from by omega]; exact wrapI _ (by omega)
  have Y0 : (Y : Int) ≠ 0 := by omega
  have Y2 : Y ≠ 0 := by omega
  have Y1 : ((Y : Int) == 0) = false := by simpa using Y0
  have sz : Sz (M : Int) 3070 (Y : Int) (p : Int) := ⟨by omega, by omega, by omega, by omega, by omega, by omega, by omega, by omega⟩
  have CM1 : Hid (∀ (B l g cp : Nat) (W : World), LgE B l W (L3 (M : Int) 3070) → g < W.heap.size → (∀ V hs, Lg B l W V hs → g ≠ l ∧ V.ownBlock ≠ some g) → 2 ≤ cp → W.cell? ⟨g, 0, none⟩ = some (.int .i64 0) → W.cell? ⟨g, 1, none⟩ = some (.int .i64 (M : Int)) → W.cell? ⟨g, 2, none⟩ = some (.int .i64 1) → W.cell? ⟨g, 3, none⟩ = some (.int .i64 3070) →
    Calls Try.prog 15 #[.pointer (some ⟨l, 0, none⟩), .slice (some ⟨g, 0, none⟩) 2 cp, .int .i64 (Y : Int)] W fun e w' => e = .returned (.tuple #[.int .i64 3, .int .i64 0]) ∧ LgE B l w' (L4 (M : Int) 3070 (Y : Int)) ∧ Below B W w') := Lib.hid (fun B l g cp W h g1 g2 g3 g4 g5 g6 g7 => make1_any ⟨sz.a1, sz.a2⟩ ⟨sz.b1, sz.b2⟩ ⟨sz.y1, sz.y2⟩ B l g cp W h g1 (fun V hs hl _ => g2 V hs hl) g3 g4 g5 g6 g7)
  have CLF : Hid (∀ (B l : Nat) (W : World), LgE B l W (L4 (M : Int) 3070 (Y : Int)) → Calls Try.prog 16 #[.pointer (some ⟨l, 0, none⟩), .int .i64 3] W fun e w' => e = .returned (.tuple #[.int .i64 (Y : Int), .int .i64 (Lo : Int), .int .i64 0]) ∧ Below W.heap.size W w') := Lib.hid (fun B l W h => by
    have c := left4_any ⟨sz.a1, sz.a2⟩ ⟨sz.b1, sz.b2⟩ ⟨sz.y1, sz.y2⟩ B l W h
    rw [show (M : Int) + 3070 - (Y : Int) = (Lo : Int) from by omega] at c
    exact c)
  have CM2 : Hid (∀ (B l g cp : Nat) (W : World), LgE B l W (L4 (M : Int) 3070 (Y : Int)) → g < W.heap.size → (∀ V hs, Lg B l W V hs → g ≠ l ∧ V.ownBlock ≠ some g) → 1 ≤ cp → W.cell? ⟨g, 0, none⟩ = some (.int .i64 3) → W.cell? ⟨g, 1, none⟩ = some (.int .i64 (p : Int)) →
    Calls Try.prog 15 #[.pointer (some ⟨l, 0, none⟩), .slice (some ⟨g, 0, none⟩) 1 cp, .int .i64 (p : Int)] W fun e w' => e = .returned (.tuple #[.int .i64 4, .int .i64 0]) ∧ LgE B l w' (L5 (M : Int) 3070 (Y : Int) (p : Int)) ∧ Below B W w') := Lib.hid (fun B l g cp W h g1 g2 g3 g4 g5 => make2_any ⟨sz.a1, sz.a2⟩ ⟨sz.b1, sz.b2⟩ ⟨sz.y1, sz.y2⟩ ⟨sz.p1, sz.p2⟩ B l g cp W h g1 (fun V hs hl _ => g2 V hs hl) g3 g4 g5)
  have CT := Lib.hid (tr5_any sz)
  have CA2 := Lib.hid (am5_any sz 2 (by omega) (am5_2 sz))
  obtain ⟨l0, h0, l1, h1', A0, A1, g1, g2, g3, g4, g5, g6⟩ : ∃ l0 h0 l1 h1 : Int, (max 0 ((p : Int) - min (Y : Int) 3070) = l0 ∧ min (min (M : Int) (Y : Int)) (p : Int) = h0) ∧ (max 0 ((p : Int) - min (Y : Int) (M : Int)) = l1 ∧ min (min 3070 (Y : Int)) (p : Int) = h1) ∧ 1 ≤ h0 ∧ 1 ≤ h1 ∧ l0 + l1 ≤ (p : Int) ∧ (p : Int) ≤ h0 + h1 ∧ (0 ≤ l0 ∧ 0 ≤ l1) ∧ h0 + h1 ≤ 1000000 := ⟨_, _, _, _, ⟨rfl, rfl⟩, ⟨rfl, rfl⟩, by omega, by omega, by omega, by omega, by omega, by omega⟩
  have CA0 := Lib.hid (am5_any sz 0 (by omega) (am5_0 sz))
  have CA1 := Lib.hid (am5_any sz 1 (by omega) (am5_1 sz))
  rw [A0.1, A0.2] at CA0
  rw [A1.1, A1.2] at CA1
  have bp : p ≤ 1000000 := by omega
  have y19 : IntKind.i64.wrap (l0 + l1) = l0 + l1 := IntWalk.i64_in _ (by omega)
  have y20 : IntKind.i64.wrap (h0 + h1') = h0 + h1' := IntWalk.i64_in _ (by omega)
  have t4 : decide ((1 : Int) ≤ h0) = true := by simp; omega
  have t5 : decide ((1 : Int) ≤ h1') = true := by simp; omega
  have t6 : decide (l0 + l1 ≤ (p : Int)) = true := by simp; omega
  have t7 : decide ((p : Int) ≤ h0 + h1') = true := by simp; omega
  have CG1 : Hid (∀ (B l : Nat) (W : World), LgE B l W [] → Calls Try.prog 14 #[.pointer (some ⟨l, 0, none⟩), .int .i64 (M : Int)] W fun e w' => e = .returned (.tuple #[.int .i64 0, .int .i64 0]) ∧ LgE B l w' [⟨[], (M : Int), (M : Int)⟩] ∧ Below B W w') := Lib.hid (fun B l W h => ga1_any _ B l W ⟨sz.a1, sz.a2⟩ h)
  have CG2 : Hid (∀ (B l : Nat) (W : World), LgE B l W [⟨[], (M : Int), (M : Int)⟩] → Calls Try.prog 14 #[.pointer (some ⟨l, 0, none⟩), .int .i64 3070] W fun e w' => e = .returned (.tuple #[.int .i64 1, .int .i64 0]) ∧ LgE B l w' [⟨[], (M : Int), (M : Int)⟩, ⟨[], 3070, 3070⟩] ∧ Below B W w') := Lib.hid (fun B l W h => ga2_any _ _ B l W (by omega) h)
  have CG3 := Lib.hid (ga3_any (M : Int) 3070)
  clear ha1 hr1 hb1 ht hp hA hS hu0 hu1 hv0 hv1 hv2 h1 h2 h3 h6 hKK hY hM hGG hLo hTT bY bM hLoY hTY bTT hpr hpp hprY sz A0 A1 g1 g2 g3 g4 g5 g6 bp ba1 ba2 bb1 bb2
  go_enter Try.func4, Try.ntmps4
  go_wp2_with fail
  refine (c1.out _ _ _ (by simp) (by simp [go_sem]) (by simp [go_sem]) (by simp [go_sem]) (by simp [go_sem])).mono ?_
  rintro e W1 ⟨rfl, hb⟩
  have vS0 := cell_next hb (b := w.heap.size) (o := 0) (by simp <;> omega) (v := some (.int .u16 (u0 : Int))) (by simp [go_sem])
  have vS1 := cell_next hb (b := w.heap.size) (o := 1) (by simp <;> omega) (v := some (.int .u16 (u1 : Int))) (by simp [go_sem])
  have nvS : w.heap.size < W1.heap.size := by have := hb.size; simp at this; omega
  have vX0 := cell_next hb (b := w.heap.size + 1) (o := 0) (by simp <;> omega) (v := some (.int .u16 (v0 : Int))) (by simp [go_sem])
  have vX1 := cell_next hb (b := w.heap.size + 1) (o := 1) (by simp <;> omega) (v := some (.int .u16 (v1 : Int))) (by simp [go_sem])
  have vX2 := cell_next hb (b := w.heap.size + 1) (o := 2) (by simp <;> omega) (v := some (.int .u16 (v2 : Int))) (by simp [go_sem])
  have nvX : w.heap.size + 1 < W1.heap.size := by have := hb.size; simp at this; omega
  have vA0 := cell_next hb (b := w.heap.size + 1 + 1) (o := 0) (by simp <;> omega) (v := some (.int .i64 (a1 : Int))) (by simp [go_sem])
  have vA1 := cell_next hb (b := w.heap.size + 1 + 1) (o := 1) (by simp <;> omega) (v := some (.int .i64 (b1 : Int))) (by simp [go_sem])
  have nvA : w.heap.size + 1 + 1 < W1.heap.size := by have := hb.size; simp at this; omega
  have vB0 := cell_next hb (b := w.heap.size + 1 + 1 + 1) (o := 0) (by simp <;> omega) (v := some (.int .i64 3000)) (by simp [go_sem])
  have vB1 := cell_next hb (b := w.heap.size + 1 + 1 + 1) (o := 1) (by simp <;> omega) (v := some (.int .i64 70)) (by simp [go_sem])
  have nvB : w.heap.size + 1 + 1 + 1 < W1.heap.size := by have := hb.size; simp at this; omega
  have hB := (below5 hb)
  clear hb
  clear vS0 vS1 nvS
  go_wp2_with fail
  refine (c2.out _).mono ?_
  rintro e W2 ⟨rfl, hb⟩
  replace vX0 := cell_next (below1 hb) nvX vX0
  replace vX1 := cell_next (below1 hb) nvX vX1
  replace vX2 := cell_next (below1 hb) nvX vX2
  replace nvX := Nat.lt_of_lt_of_le nvX (below1 hb).size
  replace vA0 := cell_next (below1 hb) nvA vA0
  replace vA1 := cell_next (below1 hb) nvA vA1
  replace nvA := Nat.lt_of_lt_of_le nvA (below1 hb).size
  replace vB0 := cell_next (below1 hb) nvB vB0
  replace vB1 := cell_next (below1 hb) nvB vB1
  replace nvB := Nat.lt_of_lt_of_le nvB (below1 hb).size
  have vM0 := cell_next hb (b := W1.heap.size) (o := 0) (by simp <;> omega) (v := some (.int .i64 (A : Int))) (by simp [go_sem])
  have vM1 := cell_next hb (b := W1.heap.size) (o := 1) (by simp <;> omega) (v := some (.int .i64 (S : Int))) (by simp [go_sem])
  have nvM : W1.heap.size < W2.heap.size := by have := hb.size; simp at this; omega
  replace hB := hB.trans ((below1 hb).mono hB.size)
  clear hb
  generalize W1.heap.size = q2 at *
  go_wp2_with fail
  refine (c3.out _).mono ?_
  rintro e W3 ⟨rfl, hb⟩
  replace vX0 := cell_next (below2 hb) nvX vX0
  replace vX1 := cell_next (below2 hb) nvX vX1
  replace vX2 := cell_next (below2 hb) nvX vX2
  replace nvX := Nat.lt_of_lt_of_le nvX (below2 hb).size
  replace vA0 := cell_next (below2 hb) nvA vA0
  replace vA1 := cell_next (below2 hb) nvA vA1
  replace nvA := Nat.lt_of_lt_of_le nvA (below2 hb).size
  replace vB0 := cell_next (below2 hb) nvB vB0
  replace vB1 := cell_next (below2 hb) nvB vB1
  replace nvB := Nat.lt_of_lt_of_le nvB (below2 hb).size
  replace vM0 := cell_next (below2 hb) nvM vM0
  replace vM1 := cell_next (below2 hb) nvM vM1
  replace nvM := Nat.lt_of_lt_of_le nvM (below2 hb).size
  have vK0 := cell_next hb (b := W2.heap.size) (o := 0) (by simp <;> omega) (v := some (.int .i64 (K1 : Int))) (by simp [go_sem])
  have vK1 := cell_next hb (b := W2.heap.size) (o := 1) (by simp <;> omega) (v := some (.int .i64 (K2 : Int))) (by simp [go_sem])
  have nvK : W2.heap.size < W3.heap.size := by have := hb.size; simp at this; omega
  have vG0 := cell_next hb (b := W2.heap.size + 1) (o := 0) (by simp <;> omega) (v := some (.int .i64 (G1 : Int))) (by simp [go_sem])
  have vG1 := cell_next hb (b := W2.heap.size + 1) (o := 1) (by simp <;> omega) (v := some (.int .i64 (G2 : Int))) (by simp [go_sem])
  have nvG : W2.heap.size + 1 < W3.heap.size := by have := hb.size; simp at this; omega
  replace hB := hB.trans ((below2 hb).mono hB.size)
  clear hb
  generalize W2.heap.size = q3 at *
  clear c1 c2 c3
  go_wp2_with fail
  refine (newLedger_ok _).mono ?_
  rintro e WL ⟨rfl, HL0, hb⟩
  replace vX0 := cell_next hb nvX vX0
  replace vX1 := cell_next hb nvX vX1
  replace vX2 := cell_next hb nvX vX2
  replace vA0 := cell_next hb nvA vA0
  replace vA1 := cell_next hb nvA vA1
  replace vB0 := cell_next hb nvB vB0
  replace vB1 := cell_next hb nvB vB1
  replace vM0 := cell_next hb nvM vM0
  replace vM1 := cell_next hb nvM vM1
  replace vK0 := cell_next hb nvK vK0
  replace vK1 := cell_next hb nvK vK1
  replace vG0 := cell_next hb nvG vG0
  replace vG1 := cell_next hb nvG vG1
  have hBB := hB.size
  replace hB := hB.trans (hb.mono hB.size)
  have hBL := hb.size
  have HL := Lib.hid HL0
  clear hb HL0
  generalize W3.heap.size = B at *
  go_wp2_with fail
  refine (CG1.out _ _ _ HL.out).mono ?_
  rintro e Y1 ⟨rfl, HN, hb⟩
  replace vX0 := cell_next hb nvX vX0
  replace vX1 := cell_next hb nvX vX1
  replace vX2 := cell_next hb nvX vX2
  replace vA0 := cell_next hb nvA vA0
  replace vA1 := cell_next hb nvA vA1
  replace vB0 := cell_next hb nvB vB0
  replace vB1 := cell_next hb nvB vB1
  replace vM0 := cell_next hb nvM vM0
  replace vM1 := cell_next hb nvM vM1
  replace vK0 := cell_next hb nvK vK0
  replace vK1 := cell_next hb nvK vK1
  replace vG0 := cell_next hb nvG vG0
  replace vG1 := cell_next hb nvG vG1
  replace hB := hB.trans (hb.mono hBB)
  replace hBL := Nat.le_trans hBL hb.size
  replace HL := Lib.hid HN
  clear hb HN
  go_wp2_with fail
  refine (CG2.out _ _ _ HL.out).mono ?_
  rintro e Y2 ⟨rfl, HN, hb⟩
  replace vX0 := cell_next hb nvX vX0
  replace vX1 := cell_next hb nvX vX1
  replace vX2 := cell_next hb nvX vX2
  replace vA0 := cell_next hb nvA vA0
  replace vA1 := cell_next hb nvA vA1
  replace vB0 := cell_next hb nvB vB0
  replace vB1 := cell_next hb nvB vB1
  replace vM0 := cell_next hb nvM vM0
  replace vM1 := cell_next hb nvM vM1
  replace vK0 := cell_next hb nvK vK0
  replace vK1 := cell_next hb nvK vK1
  replace vG0 := cell_next hb nvG vG0
  replace vG1 := cell_next hb nvG vG1
  replace hB := hB.trans (hb.mono hBB)
  replace hBL := Nat.le_trans hBL hb.size
  replace HL := Lib.hid HN
  clear hb HN
  go_wp2_with fail
  refine (CG3.out _ _ _ HL.out).mono ?_
  rintro e Y3 ⟨rfl, HN, hb⟩
  replace vX0 := cell_next hb nvX vX0
  replace vX1 := cell_next hb nvX vX1
  replace vX2 := cell_next hb nvX vX2
  replace vA0 := cell_next hb nvA vA0
  replace vA1 := cell_next hb nvA vA1
  replace vB0 := cell_next hb nvB vB0
  replace vB1 := cell_next hb nvB vB1
  replace vM0 := cell_next hb nvM vM0
  replace vM1 := cell_next hb nvM vM1
  replace vK0 := cell_next hb nvK vK0
  replace vK1 := cell_next hb nvK vK1
  replace vG0 := cell_next hb nvG vG0
  replace vG1 := cell_next hb nvG vG1
  replace hB := hB.trans (hb.mono hBB)
  replace hBL := Nat.le_trans hBL hb.size
  replace HL := Lib.hid HN
  clear hb HN
  clear CG1 CG2 CG3
  go_wp2_with fail
  have hbA : ∀ O, Below Y3.heap.size Y3 (Y3.alloc O) := fun O => (Below.refl _ _).alloc (Nat.le_refl _) O
  refine (CM1.out _ _ _ _ _ (HL.out.below (hbA _)) (by simp) (HL.out.apart (hbA _) (Nat.le_refl _)) (by omega) (by simp [go_sem]) (by simp [go_sem]) (by simp [go_sem]) (by simp [go_sem])).mono ?_
  rintro e Y4 ⟨rfl, HN, hb⟩
  replace hb := ((hbA _).mono hBL).trans hb
  replace vX0 := cell_next hb nvX vX0
  replace vX1 := cell_next hb nvX vX1
  replace vX2 := cell_next hb nvX vX2
  replace vA0 := cell_next hb nvA vA0
  replace vA1 := cell_next hb nvA vA1
  replace vB0 := cell_next hb nvB vB0
  replace vB1 := cell_next hb nvB vB1
  replace vM0 := cell_next hb nvM vM0
  replace vM1 := cell_next hb nvM vM1
  replace vK0 := cell_next hb nvK vK0
  replace vK1 := cell_next hb nvK vK1
  replace vG0 := cell_next hb nvG vG0
  replace vG1 := cell_next hb nvG vG1
  replace hB := hB.trans (hb.mono hBB)
  replace hBL := Nat.le_trans hBL hb.size
  replace HL := Lib.hid HN
  clear hb HN
  clear hbA CM1
  go_wp2_with fail
  refine (CLF.out _ _ _ HL.out).mono ?_
  rintro e Y5 ⟨rfl, hb⟩
  have HN := HL.out.below hb
  replace hb := hb.mono (show B ≤ _ from Nat.le_of_lt HL.out.lt)
  replace vX0 := cell_next hb nvX vX0
  replace vX1 := cell_next hb nvX vX1
  replace vX2 := cell_next hb nvX vX2
  replace vA0 := cell_next hb nvA vA0
  replace vA1 := cell_next hb nvA vA1
  replace vB0 := cell_next hb nvB vB0
  replace vB1 := cell_next hb nvB vB1
  replace vM0 := cell_next hb nvM vM0
  replace vM1 := cell_next hb nvM vM1
  replace vK0 := cell_next hb nvK vK0
  replace vK1 := cell_next hb nvK vK1
  replace vG0 := cell_next hb nvG vG0
  replace vG1 := cell_next hb nvG vG1
  replace hB := hB.trans (hb.mono hBB)
  replace hBL := Nat.le_trans hBL hb.size
  replace HL := Lib.hid HN
  clear hb HN
  go_wp2_with fail
  clear vA0 vA1 nvA
  clear vB0 vB1 nvB
  clear vM0 vM1 nvM
  clear vK0 vK1 nvK
  clear vG0 vG1 nvG
  have mvX : w.heap.size + 1 < Y5.heap.size := Nat.lt_of_lt_of_le nvX hBL
  have hBW : Y5.heap.size ≤ Y5.heap.size := Nat.le_refl _
  refine wp_region_held_drew (S := fun w' => w'.cell? ⟨w.heap.size + 1, 2, none⟩ = some (.int .u16 (v2 : Int)) ∧ True) (by kernel_rfl) ?_ (fun hHeld => ?_)
  focus (exact ⟨vX2, trivial⟩)
  have hL : Below Y5.heap.size Y5 Y5.drew := Below.drew (Below.refl _ _)
  replace vX2 : Y5.drew.cell? ⟨w.heap.size + 1, 2, none⟩ = some (.int .u16 (v2 : Int)) := vX2
  replace mvX : w.heap.size + 1 < Y5.drew.heap.size := mvX
  generalize hWd : Y5.drew = wd20 at hHeld hL vX2 mvX  ⊢
  clear hWd
  refine take_slot (i := 0) (d := 199) (v := ?_) rfl rfl (by kernel_rfl) (by kernel_rfl) (by kernel_rfl) (fun _ _ _ h => h) (Or.inl ⟨by rfl, ?_⟩) (by assumption) ?_
  rotate_left 1
  focus (intro wS hSw; (try dsimp only at hSw); go_simp; try with_reducible rfl)
  try simp only [List.setIfInBounds_toArray, List.set_cons_zero, List.set_cons_succ]
  refine take_slot (i := 1) (d := 200) (v := ?_) rfl rfl (by kernel_rfl) (by kernel_rfl) (by kernel_rfl) (fun _ _ _ h => h) (Or.inl ⟨by rfl, ?_⟩) (by assumption) ?_
  rotate_left 1
  focus (intro wS hSw; (try dsimp only at hSw); go_simp; try with_reducible rfl)
  try simp only [List.setIfInBounds_toArray, List.set_cons_zero, List.set_cons_succ]
  refine take_slot (i := 2) (d := 201) (v := ?_) rfl rfl (by kernel_rfl) (by kernel_rfl) (by kernel_rfl) (fun _ _ _ h => h) (Or.inl ⟨by rfl, ?_⟩) (by assumption) ?_
  rotate_left 1
  focus (intro wS hSw; (try dsimp only at hSw); go_simp; try with_reducible rfl)
  try simp only [List.setIfInBounds_toArray, List.set_cons_zero, List.set_cons_succ]
  refine take_slot (i := 3) (d := 202) (v := ?_) rfl rfl (by kernel_rfl) (by kernel_rfl) (by kernel_rfl) (fun _ _ _ h => h) (Or.inl ⟨by rfl, ?_⟩) (by assumption) ?_
  rotate_left 1
  focus (intro wS hSw; (try dsimp only at hSw); go_simp; try with_reducible rfl)
  try simp only [List.setIfInBounds_toArray, List.set_cons_zero, List.set_cons_succ]
  refine take_slot (i := 4) (d := 203) (v := ?_) rfl rfl (by kernel_rfl) (by kernel_rfl) (by kernel_rfl) (fun _ _ _ h => h) (Or.inl ⟨by rfl, ?_⟩) (by assumption) ?_
  rotate_left 1
  focus (intro wS hSw; (try dsimp only at hSw); go_simp; try with_reducible rfl)
  try simp only [List.setIfInBounds_toArray, List.set_cons_zero, List.set_cons_succ]
  refine take_slot (i := 5) (d := 204) (v := ?_) rfl rfl (by kernel_rfl) (by kernel_rfl) (by kernel_rfl) (fun _ _ _ h => h) (Or.inl ⟨by rfl, ?_⟩) (by assumption) ?_
  rotate_left 1
  focus (intro wS hSw; (try dsimp only at hSw); go_simp; try with_reducible rfl)
  try simp only [List.setIfInBounds_toArray, List.set_cons_zero, List.set_cons_succ]
  refine take_slot (i := 6) (d := 205) (v := ?_) rfl rfl (by kernel_rfl) (by kernel_rfl) (by kernel_rfl) (fun _ _ _ h => h) (Or.inl ⟨by rfl, ?_⟩) (by assumption) ?_
  rotate_left 1
  focus (intro wS hSw; (try dsimp only at hSw); go_simp; try with_reducible rfl)
  try simp only [List.setIfInBounds_toArray, List.set_cons_zero, List.set_cons_succ]
  refine take_slot (i := 7) (d := 206) (v := ?_) rfl rfl (by kernel_rfl) (by kernel_rfl) (by kernel_rfl) (fun _ _ _ h => h) (Or.inl ⟨by rfl, ?_⟩) (by assumption) ?_
  rotate_left 1
  focus (intro wS hSw; (try dsimp only at hSw); go_simp; try with_reducible rfl)
  try simp only [List.setIfInBounds_toArray, List.set_cons_zero, List.set_cons_succ]
  refine take_slot (i := 8) (d := 207) (v := ?_) rfl rfl (by kernel_rfl) (by kernel_rfl) (by kernel_rfl) (fun _ _ _ h => h) (Or.inl ⟨by rfl, ?_⟩) (by assumption) ?_
  rotate_left 1
  focus (intro wS hSw; (try dsimp only at hSw); go_simp; try with_reducible rfl)
  try simp only [List.setIfInBounds_toArray, List.set_cons_zero, List.set_cons_succ]
  refine take_slot (i := 10) (d := 209) (v := ?_) rfl rfl (by kernel_rfl) (by kernel_rfl) (by kernel_rfl) (fun _ _ _ h => h) (Or.inl ⟨by rfl, ?_⟩) (by assumption) ?_
  rotate_left 1
  focus (intro wS hSw; (try dsimp only at hSw); go_simp; try with_reducible rfl)
  try simp only [List.setIfInBounds_toArray, List.set_cons_zero, List.set_cons_succ]
  refine take_slot (i := 11) (d := 210) (v := ?_) rfl rfl (by kernel_rfl) (by kernel_rfl) (by kernel_rfl) (fun _ _ _ h => h) (Or.inl ⟨by rfl, ?_⟩) (by assumption) ?_
  rotate_left 1
  focus (intro wS hSw; (try dsimp only at hSw); go_simp; try with_reducible rfl)
  try simp only [List.setIfInBounds_toArray, List.set_cons_zero, List.set_cons_succ]
  refine take_slot (i := 12) (d := 211) (v := ?_) rfl rfl (by kernel_rfl) (by kernel_rfl) (by kernel_rfl) (fun _ _ _ h => h) (Or.inl ⟨by rfl, ?_⟩) (by assumption) ?_
  rotate_left 1
  focus (intro wS hSw; (try dsimp only at hSw); go_simp; try with_reducible rfl)
  try simp only [List.setIfInBounds_toArray, List.set_cons_zero, List.set_cons_succ]
  refine take_slot (i := 13) (d := 212) (v := ?_) rfl rfl (by kernel_rfl) (by kernel_rfl) (by kernel_rfl) (fun _ _ _ h => h) (Or.inl ⟨by rfl, ?_⟩) (by assumption) ?_
  rotate_left 1
  focus (intro wS hSw; (try dsimp only at hSw); go_simp; try with_reducible rfl)
  try simp only [List.setIfInBounds_toArray, List.set_cons_zero, List.set_cons_succ]
  refine take_slot (i := 14) (d := 213) (v := ?_) rfl rfl (by kernel_rfl) (by kernel_rfl) (by kernel_rfl) (fun _ _ _ h => h) (Or.inl ⟨by rfl, ?_⟩) (by assumption) ?_
  rotate_left 1
  focus (intro wS hSw; (try dsimp only at hSw); go_simp; try with_reducible rfl)
  try simp only [List.setIfInBounds_toArray, List.set_cons_zero, List.set_cons_succ]
  refine take_slot (i := 15) (d := 214) (v := ?_) rfl rfl (by kernel_rfl) (by kernel_rfl) (by kernel_rfl) (fun _ _ _ h => h) (Or.inl ⟨by rfl, ?_⟩) (by assumption) ?_
  rotate_left 1
  focus (intro wS hSw; (try dsimp only at hSw); go_simp; try with_reducible rfl)
  try simp only [List.setIfInBounds_toArray, List.set_cons_zero, List.set_cons_succ]
  refine wpAnyH_ready (rs := [9]) (by kernel_rfl) (by simp) ?_
  refine AllReadyH.cons rfl (fun K hK => ?_) AllReadyH.nil
  go_simp
  have hkb := hL.size
  have hb := (Below.refl wd20.heap.size wd20).alloc (Nat.le_refl _) (Obj.cells #[.int .i64 3, .int .i64 (p : Int)] 55)
  have szZ20x1 := hL.size
  have ord1mvX := mvX
  replace vX2 := cell_next hb mvX vX2
  replace mvX := Nat.lt_of_lt_of_le mvX hb.size
  replace hL := hL.trans (hb.mono (Nat.le_trans hBW hL.size))
  have K0 : (wd20.alloc (Obj.cells #[.int .i64 3, .int .i64 (p : Int)] 55)).cell? ⟨wd20.heap.size, 0, none⟩ = some (.int .i64 3) := cell_new _ _ _ 0
  have K1 : (wd20.alloc (Obj.cells #[.int .i64 3, .int .i64 (p : Int)] 55)).cell? ⟨wd20.heap.size, 1, none⟩ = some (.int .i64 (p : Int)) := cell_new _ _ _ 1
  have nK : wd20.heap.size < (wd20.alloc (Obj.cells #[.int .i64 3, .int .i64 (p : Int)] 55)).heap.size := by simp
  refine hK.out _ _ ⟨vX2, trivial⟩ (fun hHeld => ?_)
  clear hK K hb
  generalize wd20.alloc (Obj.cells #[.int .i64 3, .int .i64 (p : Int)] 55) = Z20x1 at *
  try simp only [Act.put, List.setIfInBounds_toArray, List.set_cons_zero, List.set_cons_succ]
  refine wpAnyH_ready (rs := [16]) (by kernel_rfl) (by simp) ?_
  refine AllReadyH.cons rfl (fun K hK => ?_) AllReadyH.nil
  go_simp
  refine (CM2.out _ _ _ _ _ (HL.out.below hL) nK (HL.out.apart hL (show Y5.heap.size ≤ wd20.heap.size from hkb)) (by omega) K0 K1).mono ?_
  rintro e Z20x2 ⟨rfl, HN, hb⟩
  replace hL := (hL.mono hBL).trans hb
  replace vX2 := cell_next hb nvX vX2
  replace HN := Lib.hid HN
  refine hK.out _ _ ⟨vX2, trivial⟩ (fun hHeld => ?_)
  clear hK K hb
  try simp only [Act.put, List.setIfInBounds_toArray, List.set_cons_zero, List.set_cons_succ]
  refine take_slot (i := 17) (d := 198) (v := ?_) rfl rfl (by kernel_rfl) (by kernel_rfl) (by kernel_rfl) (fun _ _ _ h => h) (Or.inl ⟨by rfl, ?_⟩) (by assumption) ?_
  rotate_left 1
  focus (intro wS hSw; (try dsimp only at hSw); go_simp; try with_reducible rfl)
  try simp only [List.setIfInBounds_toArray, List.set_cons_zero, List.set_cons_succ]
  refine take_slot (i := 18) (d := 216) (v := ?_) rfl rfl (by kernel_rfl) (by kernel_rfl) (by kernel_rfl) (fun _ _ _ h => h) (Or.inl ⟨by rfl, ?_⟩) (by assumption) ?_
  rotate_left 1
  focus (intro wS hSw; (try dsimp only at hSw); go_simp; try with_reducible rfl)
  try simp only [List.setIfInBounds_toArray, List.set_cons_zero, List.set_cons_succ]
  refine take_slot (i := 19) (d := 217) (v := ?_) rfl rfl (by kernel_rfl) (by kernel_rfl) (by kernel_rfl) (fun _ _ _ h => h) (Or.inl ⟨by rfl, ?_⟩) (by assumption) ?_
  rotate_left 1
  focus (intro wS hSw; (try dsimp only at hSw); go_simp; try with_reducible rfl)
  try simp only [List.setIfInBounds_toArray, List.set_cons_zero, List.set_cons_succ]
  refine take_slot (i := 20) (d := 23) (v := ?_) rfl rfl (by kernel_rfl) (by kernel_rfl) (by kernel_rfl) (fun _ _ _ h => h) (Or.inl ⟨by rfl, ?_⟩) (by assumption) ?_
  rotate_left 1
  focus (intro wS hSw; (try dsimp only at hSw); go_simp; try with_reducible rfl)
  try simp only [List.setIfInBounds_toArray, List.set_cons_zero, List.set_cons_succ]
  refine take_slot (i := 21) (d := 8) (v := ?_) rfl rfl (by kernel_rfl) (by kernel_rfl) (by kernel_rfl) (fun _ _ _ h => h) (Or.inl ⟨by rfl, ?_⟩) (by assumption) ?_
  rotate_left 1
  focus (intro wS hSw; (try dsimp only at hSw); go_simp; try with_reducible rfl)
  try simp only [List.setIfInBounds_toArray, List.set_cons_zero, List.set_cons_succ]
  refine wpAnyH_done (by kernel_rfl) ?_ _
  clear hHeld K0 K1 nK hkb CM2 mvX hBW
  replace hB := hB.trans (hL.mono hBB)
  replace hBL := Nat.le_trans hBL hL.size
  replace HL := HN
  clear hL HN
  replace nvX := Nat.lt_of_lt_of_le nvX hBL
  try simp only [Act.put, List.setIfInBounds_toArray, List.set_cons_zero, List.set_cons_succ]
  go_wp2_with fail
  refine (CT.out _ _ _ HL.out).mono ?_
  rintro e W4 ⟨gF, cF, rfl, ⟨vF0, vF1⟩, nvF, hb⟩
  replace HL := Lib.hid (HL.out.below hb)
  replace vX2 := cell_next hb nvX vX2
  replace nvX := Nat.lt_of_lt_of_le nvX hb.size
  replace hB := hB.trans (hb.mono hB.size)
  clear hb
  go_wp2_with fail
  refine (CA2.out _ _ _ HL.out).mono ?_
  rintro e W5 ⟨rfl, hb⟩
  replace HL := Lib.hid (HL.out.below hb)
  replace vX2 := cell_next hb nvX vX2
  replace nvX := Nat.lt_of_lt_of_le nvX hb.size
  replace vF0 := cell_next hb nvF vF0
  replace vF1 := cell_next hb nvF vF1
  replace nvF := Nat.lt_of_lt_of_le nvF hb.size
  replace hB := hB.trans (hb.mono hB.size)
  clear hb
  go_wp2_with fail
  refine (CA0.out _ _ _ (HL.out.below ((Below.refl _ _).alloc (Nat.le_refl _) _))).mono ?_
  rintro e W6 ⟨rfl, hb⟩
  replace HL := Lib.hid (HL.out.below (below1 hb))
  replace vX2 := cell_next (below1 hb) nvX vX2
  replace nvX := Nat.lt_of_lt_of_le nvX (below1 hb).size
  replace vF0 := cell_next (below1 hb) nvF vF0
  replace vF1 := cell_next (below1 hb) nvF vF1
  replace nvF := Nat.lt_of_lt_of_le nvF (below1 hb).size
  have vN0 := cell_next hb (b := W5.heap.size) (o := 0) (by simp <;> omega) (v := some (.int .i64 0)) (by simp [go_sem])
  have vN1 := cell_next hb (b := W5.heap.size) (o := 1) (by simp <;> omega) (v := some (.int .i64 0)) (by simp [go_sem])
  have nvN : W5.heap.size < W6.heap.size := by have := hb.size; simp at this; omega
  replace hB := hB.trans ((below1 hb).mono hB.size)
  clear hb
  generalize W5.heap.size = q6 at *
  go_wp2_with fail
  refine (CA1.out _ _ _ (HL.out.below ((Below.refl _ _).alloc (Nat.le_refl _) _))).mono ?_
  rintro e W7 ⟨rfl, hb⟩
  replace HL := Lib.hid (HL.out.below (below1 hb))
  replace vX2 := cell_next (below1 hb) nvX vX2
  replace nvX := Nat.lt_of_lt_of_le nvX (below1 hb).size
  replace vF0 := cell_next (below1 hb) nvF vF0
  replace vF1 := cell_next (below1 hb) nvF vF1
  replace nvF := Nat.lt_of_lt_of_le nvF (below1 hb).size
  replace vN0 := cell_next (below1 hb) nvN vN0
  replace vN1 := cell_next (below1 hb) nvN vN1
  replace nvN := Nat.lt_of_lt_of_le nvN (below1 hb).size
  have vO0 := cell_next hb (b := W6.heap.size) (o := 0) (by simp <;> omega) (v := some (.int .i64 l0)) (by simp [go_sem])
  have vO1 := cell_next hb (b := W6.heap.size) (o := 1) (by simp <;> omega) (v := some (.int .i64 h0)) (by simp [go_sem])
  have nvO : W6.heap.size < W7.heap.size := by have := hb.size; simp at this; omega
  replace hB := hB.trans ((below1 hb).mono hB.size)
  clear hb
  generalize W6.heap.size = q7 at *
  clear CT CA0 CA1 CA2
  go_wp2_with fail
  refine (CV.out _).mono ?_
  rintro e W8 ⟨rfl, hb⟩
  replace vX2 := cell_next (below1 hb) nvX vX2
  replace nvX := Nat.lt_of_lt_of_le nvX (below1 hb).size
  replace vF0 := cell_next (below1 hb) nvF vF0
  replace vF1 := cell_next (below1 hb) nvF vF1
  replace nvF := Nat.lt_of_lt_of_le nvF (below1 hb).size
  replace vN0 := cell_next (below1 hb) nvN vN0
  replace vN1 := cell_next (below1 hb) nvN vN1
  replace nvN := Nat.lt_of_lt_of_le nvN (below1 hb).size
  replace vO0 := cell_next (below1 hb) nvO vO0
  replace vO1 := cell_next (below1 hb) nvO vO1
  replace nvO := Nat.lt_of_lt_of_le nvO (below1 hb).size
  have vT0 := cell_next hb (b := W7.heap.size) (o := 0) (by simp <;> omega) (v := some (.int .i64 l1)) (by simp [go_sem])
  have vT1 := cell_next hb (b := W7.heap.size) (o := 1) (by simp <;> omega) (v := some (.int .i64 h1')) (by simp [go_sem])
  have nvT : W7.heap.size < W8.heap.size := by have := hb.size; simp at this; omega
  replace hB := hB.trans ((below1 hb).mono hB.size)
  clear hb
  generalize W7.heap.size = q8 at *
  go_wp2_with fail
  go_ret
  exact ⟨rfl, hB⟩
end Go.Proofs.Ytloddjjmoaljhaa
