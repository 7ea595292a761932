/- Contracts: U17, joined. -/
import Derived.Test.YtfdaiififoomoaaJB14
namespace Go.Proofs.Ytfdaiififoomoaa
open Go.RowKit Go.Lib Go.Shelf
set_option linter.unusedVariables false
set_option linter.unusedSimpArgs false
attribute [local go_sem ↓] Go.wp_at_zero Go.wp_at_succ

/-- what a cellar holds, but for its tanks -/
structure Cel where
  gv : Value
  lim : Int
  fl : Int
  fh : Int
  T : Int
  p1 : Int
  p2 : Int
  d1 : Int
  d2 : Int
  l1 : Int
  l2 : Int
  n : Nat
  cap : Nat
theorem below_al3 (w : World) (o p q : Obj) : Below w.heap.size w (((w.alloc o).alloc p).alloc q) := (below_al2 w _ _).trans (((Below.refl _ _).alloc (Nat.le_refl _) _).mono (by simp; omega))
structure CelAt (W : World) (c tk : Nat) (vb : Nat → Nat) (C : Cel) : Prop where
  nc : c < W.heap.size
  nt : tk < W.heap.size
  c0 : W.cell? ⟨c, 0, none⟩ = some C.gv
  c1 : W.cell? ⟨c, 1, none⟩ = some (.int .i64 C.lim)
  c2 : W.cell? ⟨c, 2, none⟩ = some (.int .i64 C.fl)
  c3 : W.cell? ⟨c, 3, none⟩ = some (.int .i64 C.fh)
  c4 : W.cell? ⟨c, 4, none⟩ = some (.slice (some ⟨tk, 0, none⟩) C.n C.cap)
  c5 : W.cell? ⟨c, 5, none⟩ = some (.int .i64 C.T)
  c6 : W.cell? ⟨c, 6, none⟩ = some (.int .i64 C.p1)
  c7 : W.cell? ⟨c, 7, none⟩ = some (.int .i64 C.p2)
  c8 : W.cell? ⟨c, 8, none⟩ = some (.int .i64 C.d1)
  c9 : W.cell? ⟨c, 9, none⟩ = some (.int .i64 C.d2)
  c10 : W.cell? ⟨c, 10, none⟩ = some (.int .i64 C.l1)
  c11 : W.cell? ⟨c, 11, none⟩ = some (.int .i64 C.l2)
  fr : ∀ o, W.frozen? ⟨c, o, none⟩ = false
  tp : ∀ i, i < C.n → W.cell? ⟨tk, i, none⟩ = some (.pointer (some ⟨vb i, 0, none⟩))
theorem CelAt.kept {U : Nat → Prop} {W W' : World} {c tk : Nat} {vb : Nat → Nat} {C : Cel} (h : CelAt W c tk vb C) (hk : Kept U W W') (hu : ¬ U c) (ht : ¬ U tk) : CelAt W' c tk vb C :=
  have k : ∀ o, W'.cell? ⟨c, o, none⟩ = W.cell? ⟨c, o, none⟩ := fun o => hk.cell (p := ⟨c, o, none⟩) h.nc hu
  ⟨Nat.lt_of_lt_of_le h.nc hk.1, Nat.lt_of_lt_of_le h.nt hk.1, (k 0).trans h.c0, (k 1).trans h.c1, (k 2).trans h.c2, (k 3).trans h.c3, (k 4).trans h.c4, (k 5).trans h.c5, (k 6).trans h.c6, (k 7).trans h.c7, (k 8).trans h.c8, (k 9).trans h.c9, (k 10).trans h.c10, (k 11).trans h.c11,
    fun o => (hk.frozen (p := ⟨c, o, none⟩) h.nc hu).trans (h.fr o), fun i hi => (hk.cell (p := ⟨tk, i, none⟩) h.nt ht).trans (h.tp i hi)⟩
theorem CelAt.below {W W' : World} {c tk : Nat} {vb : Nat → Nat} {C : Cel} (h : CelAt W c tk vb C) (hb : Below W.heap.size W W') : CelAt W' c tk vb C := h.kept (Kept.of_below' hb fun _ => False) (fun h => h) (fun h => h)

set_option maxRecDepth 20000 in
set_option maxHeartbeats 1000000 in
theorem check_ok (c tk : Nat) (vb : Nat → Nat) (C : Cel) (v : Value) (xs : List Int) (w : World) (hC : CelAt w c tk vb C) (hn : C.n ≤ 1000) (hv : NsAt w.heap.size w v xs) (hl : xs.length ≤ 100) (hx : ∀ x ∈ xs, 0 ≤ x ∧ x < C.n) :
    Calls Try.prog 26 #[.pointer (some ⟨c, 0, none⟩), v] w fun e w' => e = .returned (.int .i64 0) ∧ Below w.heap.size w w' := by
  have c4 := hC.c4
  obtain ⟨n, hnn⟩ : ∃ n, C.n = n := ⟨_, rfl⟩
  obtain ⟨cap, hcap⟩ : ∃ m, C.cap = m := ⟨_, rfl⟩
  rw [hnn] at c4 hn hx
  rw [hcap] at c4
  obtain ⟨N, hN⟩ : ∃ N : Int, (n : Int) - 1 = N := ⟨_, rfl⟩
  have w1 : IntKind.i64.wrap ((n : Int) - 1) = N := by rw [hN]; exact IntWalk.i64_in _ (by omega)
  have c1 := Lib.hid (in_any 0 N v xs w (by omega) hv)
  rw [show insB 0 N xs = true from by
    unfold insB
    rw [List.all_eq_true]
    intro x hxx
    have := hx x hxx
    simp [inB]; omega] at c1
  clear hC hv hx hN
  go_enter Try.func26, Try.ntmps26
  go_wp2_with fail
  refine c1.out.mono ?_
  rintro e w1' ⟨rfl, hb⟩
  go_wp2_with fail
  go_ret
  exact ⟨rfl, hb⟩

/-- what Pour leaves -/
def PourP (B base c tk k : Nat) (vb : Nat → Nat) (C : Cel) (sz fl fh : Int) (v : Value) (xs : List Lo) (l : Lo) (w : World) (e : Ending) (w' : World) : Prop :=
  e = .returned (.int .i64 0) ∧ ∃ v', CelAt w' c tk vb { C with p1 := C.p1 + l.a, p2 := C.p2 + l.s } ∧ VesAt w' (vb k) sz fl fh v' ∧ OwnL base w' v' (xs ++ [raise fl fh l]) ∧ (v'.ownBlock = v.ownBlock ∨ ∃ g, v'.ownBlock = some g ∧ w.heap.size ≤ g) ∧ Below B w w' ∧ Kept (fun i => i = c ∨ i = vb k ∨ v.ownBlock = some i) w w'

theorem CelAt.poured {W : World} {c tk : Nat} {vb : Nat → Nat} {C : Cel} (h : CelAt W c tk vb C) (hne : tk ≠ c) (x y : Int) : CelAt ((W.setCell ⟨c, 6, none⟩ (.int .i64 x)).setCell ⟨c, 7, none⟩ (.int .i64 y)) c tk vb { C with p1 := x, p2 := y } := by
  obtain ⟨nc, nt, c0, c1, c2, c3, c4, c5, c6, c7, c8, c9, c10, c11, fr, tp⟩ := h
  refine ⟨by simpa [World.setCell] using nc, by simpa [World.setCell] using nt, ?_, ?_, ?_, ?_, ?_, ?_, ?_, ?_, ?_, ?_, ?_, ?_, fun o => ?_, fun i hi => ?_⟩
  all_goals first | (simp [go_sem, *]; done) | (simp [go_sem, fr]; done) | exact (World.cell?_setCell_other _ _ _ _ (by intro e; injection e with e1 e2; omega)).trans ((World.cell?_setCell_other _ _ _ _ (by intro e; injection e with e1 e2; omega)).trans (tp i hi))
theorem sumU_two (a b c d : Int) : suU [(a, b), (c, d)] = (a + c, b + d) := by simp [suU, addP]
theorem mix2_cells (g cp : Nat) (a b c d : Int) (w : World) (hg : g < w.heap.size) (h1 : spB a b = true) (h2 : spB c d = true) (h3 : spB (a + c) (b + d) = true) (c0 : w.cell? ⟨g, 0, none⟩ = some (.int .i64 a)) (c1 : w.cell? ⟨g, 1, none⟩ = some (.int .i64 b)) (c2 : w.cell? ⟨g, 2, none⟩ = some (.int .i64 c)) (c3 : w.cell? ⟨g, 3, none⟩ = some (.int .i64 d)) :
    Calls Try.prog 29 #[.slice (some ⟨g, 0, none⟩) 2 cp] w fun e w' => e = .returned (.tuple #[.agg #[.int .i64 (a + c), .int .i64 (b + d)], .int .i64 0]) ∧ Below w.heap.size w w' := by
  have h := mix_ok g 0 [(a, b), (c, d)] cp w (by intro p hp; rcases List.mem_cons.1 hp with rfl | hp; exact h1; rcases List.mem_cons.1 hp with rfl | hp; exact h2; cases hp) hg (by
    intro k p hp
    rcases k with _ | _ | k
    · simp at hp; subst hp; exact ⟨c0, c1⟩
    · simp at hp; subst hp; exact ⟨c2, c3⟩
    · simp at hp) (by simp) (by rw [sumU_two]; exact h3)
  rw [sumU_two] at h
  exact h

theorem suff1 {R G : Nat → World → Prop} {P : Prop} (main : (∀ g W, R g W → G g W) → P) (key : ∀ g W, R g W → G g W) : P := main key
set_option maxRecDepth 20000 in
set_option maxHeartbeats 8000000 in
theorem pour_ok (B base c tk k : Nat) (vb : Nat → Nat) (C : Cel) (sz fl fh : Int) (v : Value) (xs : List Lo) (l : Lo) (w : World) (hT : l.t = C.T) (hk : k < C.n) (hn : C.n ≤ 1000)
    (hBc : B ≤ c) (hBv : B ≤ vb k) (hBb : B ≤ base) (hcb : c < base) (htb : tk < base) (hvb : vb k < base) (hbase : base ≤ w.heap.size) (hcv : vb k ≠ c) (htc : tk ≠ c) (htv : tk ≠ vb k)
    (hC : CelAt w c tk vb C) (hV : VesAt w (vb k) sz fl fh v) (hown : OwnL base w v xs) (hx : ∀ x ∈ xs, loB x ∧ x.t ≤ l.t) (hl : xs.length + 1 ≤ 40) (hlot : lotB l = true) (hm : (lotSum xs).1 + (lotSum xs).2 + (l.a + l.s) ≤ sz)
    (hp0 : spB C.p1 C.p2 = true) (hp1 : spB (C.p1 + l.a) (C.p2 + l.s) = true) :
    Calls Try.prog 8 #[.pointer (some ⟨c, 0, none⟩), .int .i64 (k : Int), .agg #[.int .i64 l.a, .int .i64 l.s], .agg #[.int .i64 l.lo, .int .i64 l.hi]] w (PourP B base c tk k vb C sz fl fh v xs l w) := by
  have hsp : spB l.a l.s = true := by simp only [lotB, Bool.and_eq_true] at hlot; exact hlot.1.1
  have hlo : loB l := by obtain ⟨b1, b2, b3, b4⟩ := spB_of hsp; exact ⟨b1, b2, b3, b4⟩
  have CC := Lib.hid (fun (W : World) (h : CelAt W c tk vb C) (g cp : Nat) (hg : g < W.heap.size) (h0 : W.cell? ⟨g, 0, none⟩ = some (.int .i64 (k : Int))) => check_ok c tk vb C (.slice (some ⟨g, 0, none⟩) 1 cp) [(k : Int)] W h hn ((ns_one h0).mono (by omega)) (by simp) (by intro x hx; simp at hx; subst hx; omega))
  have CV := Lib.hid (lotValid_ok l hlot)
  have CM := Lib.hid (fun (W : World) (g cp : Nat) (hg : g < W.heap.size) => mix2_cells g cp C.p1 C.p2 l.a l.s W hg hp0 hsp hp1)
  have CR : Hid (∀ (W : World) (g cp : Nat), VesAt W (vb k) sz fl fh v → OwnL base W v xs → g < W.heap.size → W.cell? ⟨g, 0, none⟩ = some (.int .i64 l.a) → W.cell? ⟨g, 1, none⟩ = some (.int .i64 l.s) → W.cell? ⟨g, 2, none⟩ = some (.int .i64 l.lo) → W.cell? ⟨g, 3, none⟩ = some (.int .i64 l.hi) → W.cell? ⟨g, 4, none⟩ = some (.int .i64 l.t) →
      Calls Try.prog 28 #[.pointer (some ⟨vb k, 0, none⟩), .slice (some ⟨g, 0, none⟩) 1 cp] W fun e w' => e = .returned (.bool true) ∧ Below W.heap.size W w') :=
    Lib.hid (fun W g cp h1 h2 hg e0 e1 e2 e3 e4 => hasRoom_ok (vb k) sz fl fh v (.slice (some ⟨g, 0, none⟩) 1 cp) xs [l] W h1 (fun x hxx => (hx x hxx).1) (by intro x hxx; simp at hxx; subst hxx; exact hlo) h2.read ((ls_one e0 e1 e2 e3 e4).mono (by omega)) (by simpa using hl) (by rw [show lotSum [l] = (l.a, l.s) from by simp [lotSum, saps, suU, addP]]; exact hm))
  have CH : Hid (∀ (W : World) (g cp : Nat), VesAt W (vb k) sz fl fh v → OwnL base W v xs → base ≤ W.heap.size → g < W.heap.size → g ≠ vb k → v.ownBlock ≠ some g → W.cell? ⟨g, 0, none⟩ = some (.int .i64 l.a) → W.cell? ⟨g, 1, none⟩ = some (.int .i64 l.s) → W.cell? ⟨g, 2, none⟩ = some (.int .i64 l.lo) → W.cell? ⟨g, 3, none⟩ = some (.int .i64 l.hi) → W.cell? ⟨g, 4, none⟩ = some (.int .i64 l.t) →
      Calls Try.prog 30 #[.pointer (some ⟨vb k, 0, none⟩), .slice (some ⟨g, 0, none⟩) 1 cp] W (HoldP B base (vb k) sz fl fh v (xs ++ [raise fl fh l]) W)) :=
    Lib.hid (fun W g cp h1 h2 hb hg hg2 hg3 e0 e1 e2 e3 e4 => hold_ok B base (vb k) sz fl fh v (.slice (some ⟨g, 0, none⟩) 1 cp) xs [l] W hBv hBb hvb hb h1 h2
      ⟨_, _, rfl, fun _ => ⟨g, 0, rfl, hg, fun h => by rcases h with h | h; exact hg2 h; exact hg3 h, by
        obtain ⟨A, c', hA, hr⟩ := ls_one (c := cp) e0 e1 e2 e3 e4
        obtain ⟨g', off', hA', _, hr'⟩ := hr (by simp)
        injection hA with hA1 hA2 hA3
        rw [hA'] at hA1
        injection hA1 with hA1
        injection hA1 with hg' ho'
        subst hg'; subst ho'
        exact hr'⟩⟩ (by simpa using hl) (by intro x hxx y hy; simp at hy; subst hy; exact (hx x hxx).2) (by simp))
  have hOB := World.ownsRow.lt hown
  obtain ⟨a, s, lo, hi, tm⟩ := l
  dsimp only at *
  subst hT
  have HO := Lib.hid hown
  have HC := Lib.hid hC
  have HV := Lib.hid hV
  clear hx hm hlot hsp hlo hp0 hp1 hown hC hV
  go_enter Try.func8, Try.ntmps8
  have hk0 : (0 : Int) ≤ (k : Int) := by omega
  have hk1 : (k : Int) < (C.n : Int) := by omega
  have hk2 : k < C.n := hk
  simp only [vL] at CV
  go_wp2_with fail
  refine (CC.out _ (HC.out.below (below_al3 w _ _ _)) _ _ (by simp) (by simp [go_sem])).mono ?_
  rintro e w1 ⟨rfl, hb⟩
  have S0 := cell_next hb (b := w.heap.size) (o := 0) (by simp <;> omega) (v := some (.int .i64 a)) (by simp [go_sem])
  have S1 := cell_next hb (b := w.heap.size) (o := 1) (by simp <;> omega) (v := some (.int .i64 s)) (by simp [go_sem])
  have L0 := cell_next hb (b := w.heap.size + 1) (o := 0) (by simp <;> omega) (v := some (.int .i64 lo)) (by simp [go_sem])
  have L1 := cell_next hb (b := w.heap.size + 1) (o := 1) (by simp <;> omega) (v := some (.int .i64 hi)) (by simp [go_sem])
  have hz := hb.size
  simp at hz
  have nS : w.heap.size < w1.heap.size := by omega
  have nS1 : w.heap.size + 1 < w1.heap.size := by omega
  have hB := below3 hb
  replace HC := Lib.hid (HC.out.below hB)
  replace HV := Lib.hid (HV.out.below hB)
  replace HO := Lib.hid (HO.out.below hB)
  have c5 := HC.out.c5
  have nc := HC.out.nc
  have hcq : c ≠ w1.heap.size := by omega
  clear hb hz CC
  go_wp2_with fail
  go_region
  obtain ⟨X, hX⟩ : ∃ X, (w1.alloc (Obj.cells #[.int .i64 a, .int .i64 s, .int .i64 lo, .int .i64 hi, .int .i64 C.T] 92)).drew = X := ⟨_, rfl⟩
  have hBX : Below w1.heap.size w1 X := by rw [← hX]; exact ((Below.refl _ _).alloc (Nat.le_refl _) _).drew
  have d0 : X.cell? ⟨w1.heap.size, 0, none⟩ = some (.int .i64 a) := by rw [← hX]; simp [go_sem]
  have d1 : X.cell? ⟨w1.heap.size, 1, none⟩ = some (.int .i64 s) := by rw [← hX]; simp [go_sem]
  have d2 : X.cell? ⟨w1.heap.size, 2, none⟩ = some (.int .i64 lo) := by rw [← hX]; simp [go_sem]
  have d3 : X.cell? ⟨w1.heap.size, 3, none⟩ = some (.int .i64 hi) := by rw [← hX]; simp [go_sem]
  have d4 : X.cell? ⟨w1.heap.size, 4, none⟩ = some (.int .i64 C.T) := by rw [← hX]; simp [go_sem]
  have nq : w1.heap.size < X.heap.size := by rw [← hX]; simp
  rw [hX]
  have hwq : w.heap.size < w1.heap.size := nS
  replace S0 := cell_next hBX nS S0
  replace S1 := cell_next hBX nS S1
  replace nS := Nat.lt_of_lt_of_le nS hBX.size
  replace hB := hB.trans (hBX.mono hB.size)
  replace HC := Lib.hid (HC.out.below hBX)
  replace HV := Lib.hid (HV.out.below hBX)
  replace HO := Lib.hid (HO.out.below hBX)
  clear hX hBX c5 L0 L1 hcq nc nS1
  generalize w1.heap.size = q at *
  go_wp2_with fail
  refine (CV.out _).mono ?_
  rintro e X1 ⟨rfl, hb⟩
  replace d0 := cell_next hb nq d0
  replace d1 := cell_next hb nq d1
  replace d2 := cell_next hb nq d2
  replace d3 := cell_next hb nq d3
  replace d4 := cell_next hb nq d4
  replace S0 := cell_next hb nS S0
  replace S1 := cell_next hb nS S1
  replace nq := Nat.lt_of_lt_of_le nq hb.size
  replace nS := Nat.lt_of_lt_of_le nS hb.size
  replace hB := hB.trans (hb.mono hB.size)
  replace HC := Lib.hid (HC.out.below hb)
  replace HV := Lib.hid (HV.out.below hb)
  replace HO := Lib.hid (HO.out.below hb)
  have c4 := HC.out.c4
  have tpk := HC.out.tp k hk
  have nc := HC.out.nc
  have nt := HC.out.nt
  clear hb CV
  have hBW := Nat.le_refl X1.heap.size
  go_upto_region 7 with fail
  refine wp_region_held_drew (S := fun w' => w'.cell? ⟨q, 0, none⟩ = some (.int .i64 a) ∧ w'.cell? ⟨q, 1, none⟩ = some (.int .i64 s) ∧ w'.cell? ⟨q, 2, none⟩ = some (.int .i64 lo) ∧ w'.cell? ⟨q, 3, none⟩ = some (.int .i64 hi) ∧ w'.cell? ⟨q, 4, none⟩ = some (.int .i64 C.T) ∧ w'.cell? ⟨c, 4, none⟩ = some (.slice (some ⟨tk, 0, none⟩) C.n C.cap) ∧ w'.cell? ⟨tk, k, none⟩ = some (.pointer (some ⟨vb k, 0, none⟩)) ∧ True) (by kernel_rfl) ?_ (fun hHeld => ?_)
  focus (exact ⟨d0, d1, d2, d3, d4, c4, tpk, trivial⟩)
  have hL : Below X1.heap.size X1 X1.drew := Below.drew (Below.refl _ _)
  have hQ : Hid (Kept (fun _ => False) X1 X1.drew) := Lib.hid (Kept.refl _ _)
  replace d0 : X1.drew.cell? ⟨q, 0, none⟩ = some (.int .i64 a) := d0
  replace d1 : X1.drew.cell? ⟨q, 1, none⟩ = some (.int .i64 s) := d1
  replace d2 : X1.drew.cell? ⟨q, 2, none⟩ = some (.int .i64 lo) := d2
  replace d3 : X1.drew.cell? ⟨q, 3, none⟩ = some (.int .i64 hi) := d3
  replace d4 : X1.drew.cell? ⟨q, 4, none⟩ = some (.int .i64 C.T) := d4
  replace S0 : X1.drew.cell? ⟨w.heap.size, 0, none⟩ = some (.int .i64 a) := S0
  replace S1 : X1.drew.cell? ⟨w.heap.size, 1, none⟩ = some (.int .i64 s) := S1
  replace c4 : X1.drew.cell? ⟨c, 4, none⟩ = some (.slice (some ⟨tk, 0, none⟩) C.n C.cap) := c4
  replace tpk : X1.drew.cell? ⟨tk, k, none⟩ = some (.pointer (some ⟨vb k, 0, none⟩)) := tpk
  replace nq : q < X1.drew.heap.size := nq
  replace nS : w.heap.size < X1.drew.heap.size := nS
  replace nc : c < X1.drew.heap.size := nc
  replace nt : tk < X1.drew.heap.size := nt
  generalize hWd : X1.drew = wd at hHeld hL hQ d0 d1 d2 d3 d4 S0 S1 c4 tpk nq nS nc nt  ⊢
  clear hWd
  refine take_slot (i := 0) (d := 30) (v := ?_) rfl rfl (by kernel_rfl) (by kernel_rfl) (by kernel_rfl) (fun _ _ _ h => h) (Or.inl ⟨by rfl, ?_⟩) (by assumption) ?_
  rotate_left 1
  focus (intro wS hSw; (try dsimp only at hSw); go_simp; try with_reducible rfl)
  try simp only [List.setIfInBounds_toArray, List.set_cons_zero, List.set_cons_succ]
  refine take_slot (i := 1) (d := 31) (v := ?_) rfl rfl (by kernel_rfl) (by kernel_rfl) (by kernel_rfl) (fun _ _ _ h => h) (Or.inl ⟨by rfl, ?_⟩) (by assumption) ?_
  rotate_left 1
  focus (intro wS hSw; (try dsimp only at hSw); go_simp; try with_reducible rfl)
  try simp only [List.setIfInBounds_toArray, List.set_cons_zero, List.set_cons_succ]
  refine take_slot (i := 2) (d := 32) (v := ?_) rfl rfl (by kernel_rfl) (by kernel_rfl) (by kernel_rfl) (fun _ _ _ h => h) (Or.inl ⟨by rfl, ?_⟩) (by assumption) ?_
  rotate_left 1
  focus (intro wS hSw; (try dsimp only at hSw); go_simp; try with_reducible rfl)
  try simp only [List.setIfInBounds_toArray, List.set_cons_zero, List.set_cons_succ]
  refine take_slot (i := 3) (d := 33) (v := ?_) rfl rfl (by kernel_rfl) (by kernel_rfl) (by kernel_rfl) (fun _ _ _ h => h) (Or.inl ⟨by rfl, ?_⟩) (by assumption) ?_
  rotate_left 1
  focus (intro wS hSw; (try dsimp only at hSw); go_simp; try with_reducible rfl)
  try simp only [List.setIfInBounds_toArray, List.set_cons_zero, List.set_cons_succ]
  refine take_slot (i := 4) (d := 34) (v := ?_) rfl rfl (by kernel_rfl) (by kernel_rfl) (by kernel_rfl) (fun _ _ _ h => h) (Or.inl ⟨by rfl, ?_⟩) (by assumption) ?_
  rotate_left 1
  focus (intro wS hSw; (try dsimp only at hSw); go_simp; try with_reducible rfl)
  try simp only [List.setIfInBounds_toArray, List.set_cons_zero, List.set_cons_succ]
  refine take_slot (i := 5) (d := 35) (v := ?_) rfl rfl (by kernel_rfl) (by kernel_rfl) (by kernel_rfl) (fun _ _ _ h => h) (Or.inl ⟨by rfl, ?_⟩) (by assumption) ?_
  rotate_left 1
  focus (intro wS hSw; (try dsimp only at hSw); go_simp; try with_reducible rfl)
  try simp only [List.setIfInBounds_toArray, List.set_cons_zero, List.set_cons_succ]
  refine take_slot (i := 6) (d := 36) (v := ?_) rfl rfl (by kernel_rfl) (by kernel_rfl) (by kernel_rfl) (fun _ _ _ h => h) (Or.inl ⟨by rfl, ?_⟩) (by assumption) ?_
  rotate_left 1
  focus (intro wS hSw; (try dsimp only at hSw); go_simp; try with_reducible rfl)
  try simp only [List.setIfInBounds_toArray, List.set_cons_zero, List.set_cons_succ]
  refine take_slot (i := 7) (d := 37) (v := ?_) rfl rfl (by kernel_rfl) (by kernel_rfl) (by kernel_rfl) (fun _ _ _ h => h) (Or.inl ⟨by rfl, ?_⟩) (by assumption) ?_
  rotate_left 1
  focus (intro wS hSw; (try dsimp only at hSw); go_simp; try with_reducible rfl)
  try simp only [List.setIfInBounds_toArray, List.set_cons_zero, List.set_cons_succ]
  refine wpAnyH_ready (rs := [8]) (by kernel_rfl) (by simp) ?_
  refine AllReadyH.cons rfl (fun K hK => ?_) AllReadyH.nil
  go_simp
  have hb := (Below.refl wd.heap.size wd).alloc (Nat.le_refl _) (Obj.cells #[.int .i64 a, .int .i64 s, .int .i64 lo, .int .i64 hi, .int .i64 C.T] 92)
  have szZ1 := hL.size
  have ord1nq := nq
  have ord1nS := nS
  have ord1nc := nc
  have ord1nt := nt
  replace d0 := cell_next hb nq d0
  replace d1 := cell_next hb nq d1
  replace d2 := cell_next hb nq d2
  replace d3 := cell_next hb nq d3
  replace d4 := cell_next hb nq d4
  replace S0 := cell_next hb nS S0
  replace S1 := cell_next hb nS S1
  replace c4 := cell_next hb nc c4
  replace tpk := cell_next hb nt tpk
  replace nq := Nat.lt_of_lt_of_le nq hb.size
  replace nS := Nat.lt_of_lt_of_le nS hb.size
  replace nc := Nat.lt_of_lt_of_le nc hb.size
  replace nt := Nat.lt_of_lt_of_le nt hb.size
  replace hL := hL.trans (hb.mono (Nat.le_trans hBW hL.size))
  replace hQ := Lib.hid (hQ.out.trans (Kept.of_below' hb _))
  have F0 : (wd.alloc (Obj.cells #[.int .i64 a, .int .i64 s, .int .i64 lo, .int .i64 hi, .int .i64 C.T] 92)).cell? ⟨wd.heap.size, 0, none⟩ = some (.int .i64 a) := cell_new _ _ _ 0
  have F1 : (wd.alloc (Obj.cells #[.int .i64 a, .int .i64 s, .int .i64 lo, .int .i64 hi, .int .i64 C.T] 92)).cell? ⟨wd.heap.size, 1, none⟩ = some (.int .i64 s) := cell_new _ _ _ 1
  have F2 : (wd.alloc (Obj.cells #[.int .i64 a, .int .i64 s, .int .i64 lo, .int .i64 hi, .int .i64 C.T] 92)).cell? ⟨wd.heap.size, 2, none⟩ = some (.int .i64 lo) := cell_new _ _ _ 2
  have F3 : (wd.alloc (Obj.cells #[.int .i64 a, .int .i64 s, .int .i64 lo, .int .i64 hi, .int .i64 C.T] 92)).cell? ⟨wd.heap.size, 3, none⟩ = some (.int .i64 hi) := cell_new _ _ _ 3
  have F4 : (wd.alloc (Obj.cells #[.int .i64 a, .int .i64 s, .int .i64 lo, .int .i64 hi, .int .i64 C.T] 92)).cell? ⟨wd.heap.size, 4, none⟩ = some (.int .i64 C.T) := cell_new _ _ _ 4
  have nF : wd.heap.size < (wd.alloc (Obj.cells #[.int .i64 a, .int .i64 s, .int .i64 lo, .int .i64 hi, .int .i64 C.T] 92)).heap.size := by simp
  refine hK.out _ _ ⟨d0, d1, d2, d3, d4, c4, tpk, trivial⟩ (fun hHeld => ?_)
  clear hK K hb
  generalize wd.alloc (Obj.cells #[.int .i64 a, .int .i64 s, .int .i64 lo, .int .i64 hi, .int .i64 C.T] 92) = Z1 at *
  try simp only [Act.put, List.setIfInBounds_toArray, List.set_cons_zero, List.set_cons_succ]
  refine wpAnyH_ready (rs := [9]) (by kernel_rfl) (by simp) ?_
  refine AllReadyH.cons rfl (fun K hK => ?_) AllReadyH.nil
  go_simp
  refine (CR.out _ _ 1 (HV.out.kept hQ.out (fun h => h)) (HO.out.kept hQ.out (fun _ _ h => h)) nF F0 F1 F2 F3 F4).mono ?_
  rintro e Z2 ⟨rfl, hb⟩
  replace d0 := cell_next hb nq d0
  replace d1 := cell_next hb nq d1
  replace d2 := cell_next hb nq d2
  replace d3 := cell_next hb nq d3
  replace d4 := cell_next hb nq d4
  replace S0 := cell_next hb nS S0
  replace S1 := cell_next hb nS S1
  replace c4 := cell_next hb nc c4
  replace tpk := cell_next hb nt tpk
  replace F0 := cell_next hb nF F0
  replace F1 := cell_next hb nF F1
  replace F2 := cell_next hb nF F2
  replace F3 := cell_next hb nF F3
  replace F4 := cell_next hb nF F4
  replace nq := Nat.lt_of_lt_of_le nq hb.size
  replace nS := Nat.lt_of_lt_of_le nS hb.size
  replace nc := Nat.lt_of_lt_of_le nc hb.size
  replace nt := Nat.lt_of_lt_of_le nt hb.size
  replace nF := Nat.lt_of_lt_of_le nF hb.size
  replace hL := hL.trans (hb.mono (Nat.le_trans hBW hL.size))
  replace hQ := Lib.hid (hQ.out.trans (Kept.of_below' hb _))
  refine hK.out _ _ ⟨d0, d1, d2, d3, d4, c4, tpk, trivial⟩ (fun hHeld => ?_)
  clear hK K hb
  try simp only [Act.put, List.setIfInBounds_toArray, List.set_cons_zero, List.set_cons_succ]
  refine take_slot (i := 10) (d := 40) (v := ?_) rfl rfl (by kernel_rfl) (by kernel_rfl) (by kernel_rfl) (fun _ _ _ h => h) (Or.inl ⟨by rfl, ?_⟩) (by assumption) ?_
  rotate_left 1
  focus (intro wS hSw; (try dsimp only at hSw); go_simp; try with_reducible rfl)
  try simp only [List.setIfInBounds_toArray, List.set_cons_zero, List.set_cons_succ]
  refine wpAnyH_done (by kernel_rfl) ?_ _
  have hK0 := hQ.out
  replace hB := hB.trans (hL.mono hB.size)
  replace HC := Lib.hid (HC.out.kept hK0 (fun h => h) (fun h => h))
  replace HV := Lib.hid (HV.out.kept hK0 (fun h => h))
  replace HO := Lib.hid (HO.out.kept hK0 (fun _ _ h => h))
  clear hK0 hQ hL hHeld hBW
  clear F0 F1 F2 F3 F4 nF
  have c6 := HC.out.c6
  have c7 := HC.out.c7
  have hBW := Nat.le_refl Z2.heap.size
  go_upto_region 9 with fail
  apply suff2 (R := fun g11 _ W => g11 < W.heap.size ∧ W.cell? ⟨g11, 0, none⟩ = some (.int .i64 (C.p1 + a)) ∧ W.cell? ⟨g11, 1, none⟩ = some (.int .i64 (C.p2 + s)) ∧ Below Z2.heap.size Z2 W)
  case main =>
    intro key
    refine wp_region_held_drew (S := fun w' => w'.cell? ⟨c, 6, none⟩ = some (.int .i64 C.p1) ∧ w'.cell? ⟨c, 7, none⟩ = some (.int .i64 C.p2) ∧ w'.cell? ⟨w.heap.size, 0, none⟩ = some (.int .i64 a) ∧ w'.cell? ⟨w.heap.size, 1, none⟩ = some (.int .i64 s) ∧ True) (by kernel_rfl) ?_ (fun hHeld => ?_)
    focus (exact ⟨c6, c7, S0, S1, trivial⟩)
    have hL : Below Z2.heap.size Z2 Z2.drew := Below.drew (Below.refl _ _)
    replace d0 : Z2.drew.cell? ⟨q, 0, none⟩ = some (.int .i64 a) := d0
    replace d1 : Z2.drew.cell? ⟨q, 1, none⟩ = some (.int .i64 s) := d1
    replace d2 : Z2.drew.cell? ⟨q, 2, none⟩ = some (.int .i64 lo) := d2
    replace d3 : Z2.drew.cell? ⟨q, 3, none⟩ = some (.int .i64 hi) := d3
    replace d4 : Z2.drew.cell? ⟨q, 4, none⟩ = some (.int .i64 C.T) := d4
    replace S0 : Z2.drew.cell? ⟨w.heap.size, 0, none⟩ = some (.int .i64 a) := S0
    replace S1 : Z2.drew.cell? ⟨w.heap.size, 1, none⟩ = some (.int .i64 s) := S1
    replace c4 : Z2.drew.cell? ⟨c, 4, none⟩ = some (.slice (some ⟨tk, 0, none⟩) C.n C.cap) := c4
    replace tpk : Z2.drew.cell? ⟨tk, k, none⟩ = some (.pointer (some ⟨vb k, 0, none⟩)) := tpk
    replace c6 : Z2.drew.cell? ⟨c, 6, none⟩ = some (.int .i64 C.p1) := c6
    replace c7 : Z2.drew.cell? ⟨c, 7, none⟩ = some (.int .i64 C.p2) := c7
    replace nq : q < Z2.drew.heap.size := nq
    replace nS : w.heap.size < Z2.drew.heap.size := nS
    replace nc : c < Z2.drew.heap.size := nc
    replace nt : tk < Z2.drew.heap.size := nt
    generalize hWd : Z2.drew = wd9 at hHeld hL d0 d1 d2 d3 d4 S0 S1 c4 tpk c6 c7 nq nS nc nt  ⊢
    clear hWd
    refine take_slot (i := 0) (d := 42) (v := ?_) rfl rfl (by kernel_rfl) (by kernel_rfl) (by kernel_rfl) (fun _ _ _ h => h) (Or.inl ⟨by rfl, ?_⟩) (by assumption) ?_
    rotate_left 1
    focus (intro wS hSw; (try dsimp only at hSw); go_simp; try with_reducible rfl)
    try simp only [List.setIfInBounds_toArray, List.set_cons_zero, List.set_cons_succ]
    refine take_slot (i := 1) (d := 43) (v := ?_) rfl rfl (by kernel_rfl) (by kernel_rfl) (by kernel_rfl) (fun _ _ _ h => h) (Or.inl ⟨by rfl, ?_⟩) (by assumption) ?_
    rotate_left 1
    focus (intro wS hSw; (try dsimp only at hSw); go_simp; try with_reducible rfl)
    try simp only [List.setIfInBounds_toArray, List.set_cons_zero, List.set_cons_succ]
    refine take_slot (i := 2) (d := 44) (v := ?_) rfl rfl (by kernel_rfl) (by kernel_rfl) (by kernel_rfl) (fun _ _ _ h => h) (Or.inl ⟨by rfl, ?_⟩) (by assumption) ?_
    rotate_left 1
    focus (intro wS hSw; (try dsimp only at hSw); go_simp; try with_reducible rfl)
    try simp only [List.setIfInBounds_toArray, List.set_cons_zero, List.set_cons_succ]
    refine take_slot (i := 3) (d := 45) (v := ?_) rfl rfl (by kernel_rfl) (by kernel_rfl) (by kernel_rfl) (fun _ _ _ h => h) (Or.inl ⟨by rfl, ?_⟩) (by assumption) ?_
    rotate_left 1
    focus (intro wS hSw; (try dsimp only at hSw); go_simp; try with_reducible rfl)
    try simp only [List.setIfInBounds_toArray, List.set_cons_zero, List.set_cons_succ]
    refine take_slot (i := 4) (d := 46) (v := ?_) rfl rfl (by kernel_rfl) (by kernel_rfl) (by kernel_rfl) (fun _ _ _ h => h) (Or.inl ⟨by rfl, ?_⟩) (by assumption) ?_
    rotate_left 1
    focus (intro wS hSw; (try dsimp only at hSw); go_simp; try with_reducible rfl)
    try simp only [List.setIfInBounds_toArray, List.set_cons_zero, List.set_cons_succ]
    refine wpAnyH_ready (rs := [5, 10]) (by kernel_rfl) (by simp) ?_
    refine AllReadyH.cons rfl (fun K hK => ?_) (AllReadyH.cons rfl (fun K hK => ?_) AllReadyH.nil)
    · go_simp
      have hb := (Below.refl wd9.heap.size wd9).alloc (Nat.le_refl _) (Obj.cells #[.int .i64 C.p1, .int .i64 C.p2, .int .i64 a, .int .i64 s] 45)
      have szY1 := hL.size
      have ord1nq := nq
      have ord1nS := nS
      have ord1nc := nc
      have ord1nt := nt
      replace d0 := cell_next hb nq d0
      replace d1 := cell_next hb nq d1
      replace d2 := cell_next hb nq d2
      replace d3 := cell_next hb nq d3
      replace d4 := cell_next hb nq d4
      replace S0 := cell_next hb nS S0
      replace S1 := cell_next hb nS S1
      replace c4 := cell_next hb nc c4
      replace tpk := cell_next hb nt tpk
      replace c6 := cell_next hb nc c6
      replace c7 := cell_next hb nc c7
      replace nq := Nat.lt_of_lt_of_le nq hb.size
      replace nS := Nat.lt_of_lt_of_le nS hb.size
      replace nc := Nat.lt_of_lt_of_le nc hb.size
      replace nt := Nat.lt_of_lt_of_le nt hb.size
      replace hL := hL.trans (hb.mono (Nat.le_trans hBW hL.size))
      have M0 : (wd9.alloc (Obj.cells #[.int .i64 C.p1, .int .i64 C.p2, .int .i64 a, .int .i64 s] 45)).cell? ⟨wd9.heap.size, 0, none⟩ = some (.int .i64 C.p1) := cell_new _ _ _ 0
      have M1 : (wd9.alloc (Obj.cells #[.int .i64 C.p1, .int .i64 C.p2, .int .i64 a, .int .i64 s] 45)).cell? ⟨wd9.heap.size, 1, none⟩ = some (.int .i64 C.p2) := cell_new _ _ _ 1
      have M2 : (wd9.alloc (Obj.cells #[.int .i64 C.p1, .int .i64 C.p2, .int .i64 a, .int .i64 s] 45)).cell? ⟨wd9.heap.size, 2, none⟩ = some (.int .i64 a) := cell_new _ _ _ 2
      have M3 : (wd9.alloc (Obj.cells #[.int .i64 C.p1, .int .i64 C.p2, .int .i64 a, .int .i64 s] 45)).cell? ⟨wd9.heap.size, 3, none⟩ = some (.int .i64 s) := cell_new _ _ _ 3
      have nM : wd9.heap.size < (wd9.alloc (Obj.cells #[.int .i64 C.p1, .int .i64 C.p2, .int .i64 a, .int .i64 s] 45)).heap.size := by simp
      refine hK.out _ _ ⟨c6, c7, S0, S1, trivial⟩ (fun hHeld => ?_)
      clear hK K hb
      generalize wd9.alloc (Obj.cells #[.int .i64 C.p1, .int .i64 C.p2, .int .i64 a, .int .i64 s] 45) = Y1 at *
      try simp only [Act.put, List.setIfInBounds_toArray, List.set_cons_zero, List.set_cons_succ]
      refine wpAnyH_ready (rs := [6, 10]) (by kernel_rfl) (by simp) ?_
      refine AllReadyH.cons rfl (fun K hK => ?_) (AllReadyH.cons rfl (fun K hK => ?_) AllReadyH.nil)
      · go_simp
        refine (CM.out _ _ 2 nM M0 M1 M2 M3).mono ?_
        rintro e Y2 ⟨rfl, hb⟩
        replace d0 := cell_next hb nq d0
        replace d1 := cell_next hb nq d1
        replace d2 := cell_next hb nq d2
        replace d3 := cell_next hb nq d3
        replace d4 := cell_next hb nq d4
        replace S0 := cell_next hb nS S0
        replace S1 := cell_next hb nS S1
        replace c4 := cell_next hb nc c4
        replace tpk := cell_next hb nt tpk
        replace c6 := cell_next hb nc c6
        replace c7 := cell_next hb nc c7
        replace M0 := cell_next hb nM M0
        replace M1 := cell_next hb nM M1
        replace M2 := cell_next hb nM M2
        replace M3 := cell_next hb nM M3
        replace nq := Nat.lt_of_lt_of_le nq hb.size
        replace nS := Nat.lt_of_lt_of_le nS hb.size
        replace nc := Nat.lt_of_lt_of_le nc hb.size
        replace nt := Nat.lt_of_lt_of_le nt hb.size
        replace nM := Nat.lt_of_lt_of_le nM hb.size
        replace hL := hL.trans (hb.mono (Nat.le_trans hBW hL.size))
        refine hK.out _ _ ⟨c6, c7, S0, S1, trivial⟩ (fun hHeld => ?_)
        clear hK K hb
        try simp only [Act.put, List.setIfInBounds_toArray, List.set_cons_zero, List.set_cons_succ]
        refine take_slot (i := 7) (d := 41) (v := ?_) rfl rfl (by kernel_rfl) (by kernel_rfl) (by kernel_rfl) (fun _ _ _ h => h) (Or.inl ⟨by rfl, ?_⟩) (by assumption) ?_
        rotate_left 1
        focus (intro wS hSw; (try dsimp only at hSw); go_simp; try with_reducible rfl)
        try simp only [List.setIfInBounds_toArray, List.set_cons_zero, List.set_cons_succ]
        refine take_slot (i := 8) (d := 49) (v := ?_) rfl rfl (by kernel_rfl) (by kernel_rfl) (by kernel_rfl) (fun _ _ _ h => h) (Or.inl ⟨by rfl, ?_⟩) (by assumption) ?_
        rotate_left 1
        focus (intro wS hSw; (try dsimp only at hSw); go_simp; try with_reducible rfl)
        try simp only [List.setIfInBounds_toArray, List.set_cons_zero, List.set_cons_succ]
        refine take_slot (i := 9) (d := 50) (v := ?_) rfl rfl (by kernel_rfl) (by kernel_rfl) (by kernel_rfl) (fun _ _ _ h => h) (Or.inl ⟨by rfl, ?_⟩) (by assumption) ?_
        rotate_left 1
        focus (intro wS hSw; (try dsimp only at hSw); go_simp; try with_reducible rfl)
        try simp only [List.setIfInBounds_toArray, List.set_cons_zero, List.set_cons_succ]
        refine wpAnyH_ready (rs := [10]) (by kernel_rfl) (by simp) ?_
        refine AllReadyH.cons rfl (fun K hK => ?_) AllReadyH.nil
        go_simp
        have hb := (Below.refl Y2.heap.size Y2).alloc (Nat.le_refl _) (Obj.cells #[.int .i64 0, .int .i64 0] 45)
        have szY3 := hL.size
        have ord3nq := nq
        have ord3nS := nS
        have ord3nc := nc
        have ord3nt := nt
        have ord3nM := nM
        replace d0 := cell_next hb nq d0
        replace d1 := cell_next hb nq d1
        replace d2 := cell_next hb nq d2
        replace d3 := cell_next hb nq d3
        replace d4 := cell_next hb nq d4
        replace S0 := cell_next hb nS S0
        replace S1 := cell_next hb nS S1
        replace c4 := cell_next hb nc c4
        replace tpk := cell_next hb nt tpk
        replace c6 := cell_next hb nc c6
        replace c7 := cell_next hb nc c7
        replace M0 := cell_next hb nM M0
        replace M1 := cell_next hb nM M1
        replace M2 := cell_next hb nM M2
        replace M3 := cell_next hb nM M3
        replace nq := Nat.lt_of_lt_of_le nq hb.size
        replace nS := Nat.lt_of_lt_of_le nS hb.size
        replace nc := Nat.lt_of_lt_of_le nc hb.size
        replace nt := Nat.lt_of_lt_of_le nt hb.size
        replace nM := Nat.lt_of_lt_of_le nM hb.size
        replace hL := hL.trans (hb.mono (Nat.le_trans hBW hL.size))
        have Rf0 : (Y2.alloc (Obj.cells #[.int .i64 0, .int .i64 0] 45)).frozen? ⟨Y2.heap.size, 0, none⟩ = false := by simp [go_sem]
        have Rf1 : (Y2.alloc (Obj.cells #[.int .i64 0, .int .i64 0] 45)).frozen? ⟨Y2.heap.size, 1, none⟩ = false := by simp [go_sem]
        have R0 : (Y2.alloc (Obj.cells #[.int .i64 0, .int .i64 0] 45)).cell? ⟨Y2.heap.size, 0, none⟩ = some (.int .i64 0) := cell_new _ _ _ 0
        have R1 : (Y2.alloc (Obj.cells #[.int .i64 0, .int .i64 0] 45)).cell? ⟨Y2.heap.size, 1, none⟩ = some (.int .i64 0) := cell_new _ _ _ 1
        have nR : Y2.heap.size < (Y2.alloc (Obj.cells #[.int .i64 0, .int .i64 0] 45)).heap.size := by simp
        refine hK.out _ _ ⟨c6, c7, S0, S1, trivial⟩ (fun hHeld => ?_)
        clear hK K hb
        generalize Y2.alloc (Obj.cells #[.int .i64 0, .int .i64 0] 45) = Y3 at *
        try simp only [Act.put, List.setIfInBounds_toArray, List.set_cons_zero, List.set_cons_succ]
        refine wpAnyH_ready (rs := [11]) (by kernel_rfl) (by simp) ?_
        refine AllReadyH.cons rfl (fun K hK => ?_) AllReadyH.nil
        go_simp
        replace d0 : ((Y3.setCell ⟨Y2.heap.size, 0, none⟩ (.int .i64 (C.p1 + a))).setCell ⟨Y2.heap.size, 1, none⟩ (.int .i64 (C.p2 + s))).cell? ⟨q, 0, none⟩ = some (.int .i64 a) := ((World.cell?_setCell_other _ _ _ _ (by intro e; injection e with e1 e2; omega)).trans ((World.cell?_setCell_other _ _ _ _ (by intro e; injection e with e1 e2; omega)).trans d0))
        replace d1 : ((Y3.setCell ⟨Y2.heap.size, 0, none⟩ (.int .i64 (C.p1 + a))).setCell ⟨Y2.heap.size, 1, none⟩ (.int .i64 (C.p2 + s))).cell? ⟨q, 1, none⟩ = some (.int .i64 s) := ((World.cell?_setCell_other _ _ _ _ (by intro e; injection e with e1 e2; omega)).trans ((World.cell?_setCell_other _ _ _ _ (by intro e; injection e with e1 e2; omega)).trans d1))
        replace d2 : ((Y3.setCell ⟨Y2.heap.size, 0, none⟩ (.int .i64 (C.p1 + a))).setCell ⟨Y2.heap.size, 1, none⟩ (.int .i64 (C.p2 + s))).cell? ⟨q, 2, none⟩ = some (.int .i64 lo) := ((World.cell?_setCell_other _ _ _ _ (by intro e; injection e with e1 e2; omega)).trans ((World.cell?_setCell_other _ _ _ _ (by intro e; injection e with e1 e2; omega)).trans d2))
        replace d3 : ((Y3.setCell ⟨Y2.heap.size, 0, none⟩ (.int .i64 (C.p1 + a))).setCell ⟨Y2.heap.size, 1, none⟩ (.int .i64 (C.p2 + s))).cell? ⟨q, 3, none⟩ = some (.int .i64 hi) := ((World.cell?_setCell_other _ _ _ _ (by intro e; injection e with e1 e2; omega)).trans ((World.cell?_setCell_other _ _ _ _ (by intro e; injection e with e1 e2; omega)).trans d3))
        replace d4 : ((Y3.setCell ⟨Y2.heap.size, 0, none⟩ (.int .i64 (C.p1 + a))).setCell ⟨Y2.heap.size, 1, none⟩ (.int .i64 (C.p2 + s))).cell? ⟨q, 4, none⟩ = some (.int .i64 C.T) := ((World.cell?_setCell_other _ _ _ _ (by intro e; injection e with e1 e2; omega)).trans ((World.cell?_setCell_other _ _ _ _ (by intro e; injection e with e1 e2; omega)).trans d4))
        replace S0 : ((Y3.setCell ⟨Y2.heap.size, 0, none⟩ (.int .i64 (C.p1 + a))).setCell ⟨Y2.heap.size, 1, none⟩ (.int .i64 (C.p2 + s))).cell? ⟨w.heap.size, 0, none⟩ = some (.int .i64 a) := ((World.cell?_setCell_other _ _ _ _ (by intro e; injection e with e1 e2; omega)).trans ((World.cell?_setCell_other _ _ _ _ (by intro e; injection e with e1 e2; omega)).trans S0))
        replace S1 : ((Y3.setCell ⟨Y2.heap.size, 0, none⟩ (.int .i64 (C.p1 + a))).setCell ⟨Y2.heap.size, 1, none⟩ (.int .i64 (C.p2 + s))).cell? ⟨w.heap.size, 1, none⟩ = some (.int .i64 s) := ((World.cell?_setCell_other _ _ _ _ (by intro e; injection e with e1 e2; omega)).trans ((World.cell?_setCell_other _ _ _ _ (by intro e; injection e with e1 e2; omega)).trans S1))
        replace c4 : ((Y3.setCell ⟨Y2.heap.size, 0, none⟩ (.int .i64 (C.p1 + a))).setCell ⟨Y2.heap.size, 1, none⟩ (.int .i64 (C.p2 + s))).cell? ⟨c, 4, none⟩ = some (.slice (some ⟨tk, 0, none⟩) C.n C.cap) := ((World.cell?_setCell_other _ _ _ _ (by intro e; injection e with e1 e2; omega)).trans ((World.cell?_setCell_other _ _ _ _ (by intro e; injection e with e1 e2; omega)).trans c4))
        replace tpk : ((Y3.setCell ⟨Y2.heap.size, 0, none⟩ (.int .i64 (C.p1 + a))).setCell ⟨Y2.heap.size, 1, none⟩ (.int .i64 (C.p2 + s))).cell? ⟨tk, k, none⟩ = some (.pointer (some ⟨vb k, 0, none⟩)) := ((World.cell?_setCell_other _ _ _ _ (by intro e; injection e with e1 e2; omega)).trans ((World.cell?_setCell_other _ _ _ _ (by intro e; injection e with e1 e2; omega)).trans tpk))
        replace c6 : ((Y3.setCell ⟨Y2.heap.size, 0, none⟩ (.int .i64 (C.p1 + a))).setCell ⟨Y2.heap.size, 1, none⟩ (.int .i64 (C.p2 + s))).cell? ⟨c, 6, none⟩ = some (.int .i64 C.p1) := ((World.cell?_setCell_other _ _ _ _ (by intro e; injection e with e1 e2; omega)).trans ((World.cell?_setCell_other _ _ _ _ (by intro e; injection e with e1 e2; omega)).trans c6))
        replace c7 : ((Y3.setCell ⟨Y2.heap.size, 0, none⟩ (.int .i64 (C.p1 + a))).setCell ⟨Y2.heap.size, 1, none⟩ (.int .i64 (C.p2 + s))).cell? ⟨c, 7, none⟩ = some (.int .i64 C.p2) := ((World.cell?_setCell_other _ _ _ _ (by intro e; injection e with e1 e2; omega)).trans ((World.cell?_setCell_other _ _ _ _ (by intro e; injection e with e1 e2; omega)).trans c7))
        replace M0 : ((Y3.setCell ⟨Y2.heap.size, 0, none⟩ (.int .i64 (C.p1 + a))).setCell ⟨Y2.heap.size, 1, none⟩ (.int .i64 (C.p2 + s))).cell? ⟨wd9.heap.size, 0, none⟩ = some (.int .i64 C.p1) := ((World.cell?_setCell_other _ _ _ _ (by intro e; injection e with e1 e2; omega)).trans ((World.cell?_setCell_other _ _ _ _ (by intro e; injection e with e1 e2; omega)).trans M0))
        replace M1 : ((Y3.setCell ⟨Y2.heap.size, 0, none⟩ (.int .i64 (C.p1 + a))).setCell ⟨Y2.heap.size, 1, none⟩ (.int .i64 (C.p2 + s))).cell? ⟨wd9.heap.size, 1, none⟩ = some (.int .i64 C.p2) := ((World.cell?_setCell_other _ _ _ _ (by intro e; injection e with e1 e2; omega)).trans ((World.cell?_setCell_other _ _ _ _ (by intro e; injection e with e1 e2; omega)).trans M1))
        replace M2 : ((Y3.setCell ⟨Y2.heap.size, 0, none⟩ (.int .i64 (C.p1 + a))).setCell ⟨Y2.heap.size, 1, none⟩ (.int .i64 (C.p2 + s))).cell? ⟨wd9.heap.size, 2, none⟩ = some (.int .i64 a) := ((World.cell?_setCell_other _ _ _ _ (by intro e; injection e with e1 e2; omega)).trans ((World.cell?_setCell_other _ _ _ _ (by intro e; injection e with e1 e2; omega)).trans M2))
        replace M3 : ((Y3.setCell ⟨Y2.heap.size, 0, none⟩ (.int .i64 (C.p1 + a))).setCell ⟨Y2.heap.size, 1, none⟩ (.int .i64 (C.p2 + s))).cell? ⟨wd9.heap.size, 3, none⟩ = some (.int .i64 s) := ((World.cell?_setCell_other _ _ _ _ (by intro e; injection e with e1 e2; omega)).trans ((World.cell?_setCell_other _ _ _ _ (by intro e; injection e with e1 e2; omega)).trans M3))
        replace Rf0 : ((Y3.setCell ⟨Y2.heap.size, 0, none⟩ (.int .i64 (C.p1 + a))).setCell ⟨Y2.heap.size, 1, none⟩ (.int .i64 (C.p2 + s))).frozen? ⟨Y2.heap.size, 0, none⟩ = false := by simp [go_sem, Rf0]
        replace Rf1 : ((Y3.setCell ⟨Y2.heap.size, 0, none⟩ (.int .i64 (C.p1 + a))).setCell ⟨Y2.heap.size, 1, none⟩ (.int .i64 (C.p2 + s))).frozen? ⟨Y2.heap.size, 1, none⟩ = false := by simp [go_sem, Rf1]
        replace R0 : ((Y3.setCell ⟨Y2.heap.size, 0, none⟩ (.int .i64 (C.p1 + a))).setCell ⟨Y2.heap.size, 1, none⟩ (.int .i64 (C.p2 + s))).cell? ⟨Y2.heap.size, 0, none⟩ = some (.int .i64 (C.p1 + a)) := by simp [go_sem, R0]
        replace R1 : ((Y3.setCell ⟨Y2.heap.size, 0, none⟩ (.int .i64 (C.p1 + a))).setCell ⟨Y2.heap.size, 1, none⟩ (.int .i64 (C.p2 + s))).cell? ⟨Y2.heap.size, 1, none⟩ = some (.int .i64 (C.p2 + s)) := by simp [go_sem, R1]
        replace nq : q < ((Y3.setCell ⟨Y2.heap.size, 0, none⟩ (.int .i64 (C.p1 + a))).setCell ⟨Y2.heap.size, 1, none⟩ (.int .i64 (C.p2 + s))).heap.size := by simpa [World.setCell] using nq
        replace nS : w.heap.size < ((Y3.setCell ⟨Y2.heap.size, 0, none⟩ (.int .i64 (C.p1 + a))).setCell ⟨Y2.heap.size, 1, none⟩ (.int .i64 (C.p2 + s))).heap.size := by simpa [World.setCell] using nS
        replace nc : c < ((Y3.setCell ⟨Y2.heap.size, 0, none⟩ (.int .i64 (C.p1 + a))).setCell ⟨Y2.heap.size, 1, none⟩ (.int .i64 (C.p2 + s))).heap.size := by simpa [World.setCell] using nc
        replace nt : tk < ((Y3.setCell ⟨Y2.heap.size, 0, none⟩ (.int .i64 (C.p1 + a))).setCell ⟨Y2.heap.size, 1, none⟩ (.int .i64 (C.p2 + s))).heap.size := by simpa [World.setCell] using nt
        replace nM : wd9.heap.size < ((Y3.setCell ⟨Y2.heap.size, 0, none⟩ (.int .i64 (C.p1 + a))).setCell ⟨Y2.heap.size, 1, none⟩ (.int .i64 (C.p2 + s))).heap.size := by simpa [World.setCell] using nM
        replace nR : Y2.heap.size < ((Y3.setCell ⟨Y2.heap.size, 0, none⟩ (.int .i64 (C.p1 + a))).setCell ⟨Y2.heap.size, 1, none⟩ (.int .i64 (C.p2 + s))).heap.size := by simpa [World.setCell] using nR
        replace hL := hL.setCell (p := ⟨Y2.heap.size, 0, none⟩) (by show Z2.heap.size ≤ Y2.heap.size; omega) (.int .i64 (C.p1 + a))
        replace hL := hL.setCell (p := ⟨Y2.heap.size, 1, none⟩) (by show Z2.heap.size ≤ Y2.heap.size; omega) (.int .i64 (C.p2 + s))
        refine hK.out _ _ ⟨c6, c7, S0, S1, trivial⟩ (fun hHeld => ?_)
        clear hK K
        generalize ((Y3.setCell ⟨Y2.heap.size, 0, none⟩ (.int .i64 (C.p1 + a))).setCell ⟨Y2.heap.size, 1, none⟩ (.int .i64 (C.p2 + s))) = Y4 at *
        try simp only [Act.put, List.setIfInBounds_toArray, List.set_cons_zero, List.set_cons_succ]
        refine take_slot (i := 12) (d := 12) (v := ?_) rfl rfl (by kernel_rfl) (by kernel_rfl) (by kernel_rfl) (fun _ _ _ h => h) (Or.inl ⟨by rfl, ?_⟩) (by assumption) ?_
        rotate_left 1
        focus (intro wS hSw; (try dsimp only at hSw); go_simp; try with_reducible rfl)
        try simp only [List.setIfInBounds_toArray, List.set_cons_zero, List.set_cons_succ]
        refine wpAnyH_done (by kernel_rfl) ?_ _
        generalize Y2.heap.size = g11 at *
        generalize wd9.heap.size = gM at *
        exact key g11 gM Y4 ⟨nR, R0, R1, hL⟩
      · go_simp
        have hb := (Below.refl Y1.heap.size Y1).alloc (Nat.le_refl _) (Obj.cells #[.int .i64 0, .int .i64 0] 45)
        have szY5 := hL.size
        have ord5nq := nq
        have ord5nS := nS
        have ord5nc := nc
        have ord5nt := nt
        have ord5nM := nM
        replace d0 := cell_next hb nq d0
        replace d1 := cell_next hb nq d1
        replace d2 := cell_next hb nq d2
        replace d3 := cell_next hb nq d3
        replace d4 := cell_next hb nq d4
        replace S0 := cell_next hb nS S0
        replace S1 := cell_next hb nS S1
        replace c4 := cell_next hb nc c4
        replace tpk := cell_next hb nt tpk
        replace c6 := cell_next hb nc c6
        replace c7 := cell_next hb nc c7
        replace M0 := cell_next hb nM M0
        replace M1 := cell_next hb nM M1
        replace M2 := cell_next hb nM M2
        replace M3 := cell_next hb nM M3
        replace nq := Nat.lt_of_lt_of_le nq hb.size
        replace nS := Nat.lt_of_lt_of_le nS hb.size
        replace nc := Nat.lt_of_lt_of_le nc hb.size
        replace nt := Nat.lt_of_lt_of_le nt hb.size
        replace nM := Nat.lt_of_lt_of_le nM hb.size
        replace hL := hL.trans (hb.mono (Nat.le_trans hBW hL.size))
        have Rf0 : (Y1.alloc (Obj.cells #[.int .i64 0, .int .i64 0] 45)).frozen? ⟨Y1.heap.size, 0, none⟩ = false := by simp [go_sem]
        have Rf1 : (Y1.alloc (Obj.cells #[.int .i64 0, .int .i64 0] 45)).frozen? ⟨Y1.heap.size, 1, none⟩ = false := by simp [go_sem]
        have R0 : (Y1.alloc (Obj.cells #[.int .i64 0, .int .i64 0] 45)).cell? ⟨Y1.heap.size, 0, none⟩ = some (.int .i64 0) := cell_new _ _ _ 0
        have R1 : (Y1.alloc (Obj.cells #[.int .i64 0, .int .i64 0] 45)).cell? ⟨Y1.heap.size, 1, none⟩ = some (.int .i64 0) := cell_new _ _ _ 1
        have nR : Y1.heap.size < (Y1.alloc (Obj.cells #[.int .i64 0, .int .i64 0] 45)).heap.size := by simp
        refine hK.out _ _ ⟨c6, c7, S0, S1, trivial⟩ (fun hHeld => ?_)
        clear hK K hb
        generalize Y1.alloc (Obj.cells #[.int .i64 0, .int .i64 0] 45) = Y5 at *
        try simp only [Act.put, List.setIfInBounds_toArray, List.set_cons_zero, List.set_cons_succ]
        refine wpAnyH_ready (rs := [6]) (by kernel_rfl) (by simp) ?_
        refine AllReadyH.cons rfl (fun K hK => ?_) AllReadyH.nil
        go_simp
        refine (CM.out _ _ 2 nM M0 M1 M2 M3).mono ?_
        rintro e Y6 ⟨rfl, hb⟩
        replace d0 := cell_next hb nq d0
        replace d1 := cell_next hb nq d1
        replace d2 := cell_next hb nq d2
        replace d3 := cell_next hb nq d3
        replace d4 := cell_next hb nq d4
        replace S0 := cell_next hb nS S0
        replace S1 := cell_next hb nS S1
        replace c4 := cell_next hb nc c4
        replace tpk := cell_next hb nt tpk
        replace c6 := cell_next hb nc c6
        replace c7 := cell_next hb nc c7
        replace M0 := cell_next hb nM M0
        replace M1 := cell_next hb nM M1
        replace M2 := cell_next hb nM M2
        replace M3 := cell_next hb nM M3
        replace Rf0 := frozen_next hb nR Rf0
        replace Rf1 := frozen_next hb nR Rf1
        replace R0 := cell_next hb nR R0
        replace R1 := cell_next hb nR R1
        replace nq := Nat.lt_of_lt_of_le nq hb.size
        replace nS := Nat.lt_of_lt_of_le nS hb.size
        replace nc := Nat.lt_of_lt_of_le nc hb.size
        replace nt := Nat.lt_of_lt_of_le nt hb.size
        replace nM := Nat.lt_of_lt_of_le nM hb.size
        replace nR := Nat.lt_of_lt_of_le nR hb.size
        replace hL := hL.trans (hb.mono (Nat.le_trans hBW hL.size))
        refine hK.out _ _ ⟨c6, c7, S0, S1, trivial⟩ (fun hHeld => ?_)
        clear hK K hb
        try simp only [Act.put, List.setIfInBounds_toArray, List.set_cons_zero, List.set_cons_succ]
        refine take_slot (i := 7) (d := 41) (v := ?_) rfl rfl (by kernel_rfl) (by kernel_rfl) (by kernel_rfl) (fun _ _ _ h => h) (Or.inl ⟨by rfl, ?_⟩) (by assumption) ?_
        rotate_left 1
        focus (intro wS hSw; (try dsimp only at hSw); go_simp; try with_reducible rfl)
        try simp only [List.setIfInBounds_toArray, List.set_cons_zero, List.set_cons_succ]
        refine take_slot (i := 8) (d := 49) (v := ?_) rfl rfl (by kernel_rfl) (by kernel_rfl) (by kernel_rfl) (fun _ _ _ h => h) (Or.inl ⟨by rfl, ?_⟩) (by assumption) ?_
        rotate_left 1
        focus (intro wS hSw; (try dsimp only at hSw); go_simp; try with_reducible rfl)
        try simp only [List.setIfInBounds_toArray, List.set_cons_zero, List.set_cons_succ]
        refine take_slot (i := 9) (d := 50) (v := ?_) rfl rfl (by kernel_rfl) (by kernel_rfl) (by kernel_rfl) (fun _ _ _ h => h) (Or.inl ⟨by rfl, ?_⟩) (by assumption) ?_
        rotate_left 1
        focus (intro wS hSw; (try dsimp only at hSw); go_simp; try with_reducible rfl)
        try simp only [List.setIfInBounds_toArray, List.set_cons_zero, List.set_cons_succ]
        refine wpAnyH_ready (rs := [11]) (by kernel_rfl) (by simp) ?_
        refine AllReadyH.cons rfl (fun K hK => ?_) AllReadyH.nil
        go_simp
        replace d0 : ((Y6.setCell ⟨Y1.heap.size, 0, none⟩ (.int .i64 (C.p1 + a))).setCell ⟨Y1.heap.size, 1, none⟩ (.int .i64 (C.p2 + s))).cell? ⟨q, 0, none⟩ = some (.int .i64 a) := ((World.cell?_setCell_other _ _ _ _ (by intro e; injection e with e1 e2; omega)).trans ((World.cell?_setCell_other _ _ _ _ (by intro e; injection e with e1 e2; omega)).trans d0))
        replace d1 : ((Y6.setCell ⟨Y1.heap.size, 0, none⟩ (.int .i64 (C.p1 + a))).setCell ⟨Y1.heap.size, 1, none⟩ (.int .i64 (C.p2 + s))).cell? ⟨q, 1, none⟩ = some (.int .i64 s) := ((World.cell?_setCell_other _ _ _ _ (by intro e; injection e with e1 e2; omega)).trans ((World.cell?_setCell_other _ _ _ _ (by intro e; injection e with e1 e2; omega)).trans d1))
        replace d2 : ((Y6.setCell ⟨Y1.heap.size, 0, none⟩ (.int .i64 (C.p1 + a))).setCell ⟨Y1.heap.size, 1, none⟩ (.int .i64 (C.p2 + s))).cell? ⟨q, 2, none⟩ = some (.int .i64 lo) := ((World.cell?_setCell_other _ _ _ _ (by intro e; injection e with e1 e2; omega)).trans ((World.cell?_setCell_other _ _ _ _ (by intro e; injection e with e1 e2; omega)).trans d2))
        replace d3 : ((Y6.setCell ⟨Y1.heap.size, 0, none⟩ (.int .i64 (C.p1 + a))).setCell ⟨Y1.heap.size, 1, none⟩ (.int .i64 (C.p2 + s))).cell? ⟨q, 3, none⟩ = some (.int .i64 hi) := ((World.cell?_setCell_other _ _ _ _ (by intro e; injection e with e1 e2; omega)).trans ((World.cell?_setCell_other _ _ _ _ (by intro e; injection e with e1 e2; omega)).trans d3))
        replace d4 : ((Y6.setCell ⟨Y1.heap.size, 0, none⟩ (.int .i64 (C.p1 + a))).setCell ⟨Y1.heap.size, 1, none⟩ (.int .i64 (C.p2 + s))).cell? ⟨q, 4, none⟩ = some (.int .i64 C.T) := ((World.cell?_setCell_other _ _ _ _ (by intro e; injection e with e1 e2; omega)).trans ((World.cell?_setCell_other _ _ _ _ (by intro e; injection e with e1 e2; omega)).trans d4))
        replace S0 : ((Y6.setCell ⟨Y1.heap.size, 0, none⟩ (.int .i64 (C.p1 + a))).setCell ⟨Y1.heap.size, 1, none⟩ (.int .i64 (C.p2 + s))).cell? ⟨w.heap.size, 0, none⟩ = some (.int .i64 a) := ((World.cell?_setCell_other _ _ _ _ (by intro e; injection e with e1 e2; omega)).trans ((World.cell?_setCell_other _ _ _ _ (by intro e; injection e with e1 e2; omega)).trans S0))
        replace S1 : ((Y6.setCell ⟨Y1.heap.size, 0, none⟩ (.int .i64 (C.p1 + a))).setCell ⟨Y1.heap.size, 1, none⟩ (.int .i64 (C.p2 + s))).cell? ⟨w.heap.size, 1, none⟩ = some (.int .i64 s) := ((World.cell?_setCell_other _ _ _ _ (by intro e; injection e with e1 e2; omega)).trans ((World.cell?_setCell_other _ _ _ _ (by intro e; injection e with e1 e2; omega)).trans S1))
        replace c4 : ((Y6.setCell ⟨Y1.heap.size, 0, none⟩ (.int .i64 (C.p1 + a))).setCell ⟨Y1.heap.size, 1, none⟩ (.int .i64 (C.p2 + s))).cell? ⟨c, 4, none⟩ = some (.slice (some ⟨tk, 0, none⟩) C.n C.cap) := ((World.cell?_setCell_other _ _ _ _ (by intro e; injection e with e1 e2; omega)).trans ((World.cell?_setCell_other _ _ _ _ (by intro e; injection e with e1 e2; omega)).trans c4))
        replace tpk : ((Y6.setCell ⟨Y1.heap.size, 0, none⟩ (.int .i64 (C.p1 + a))).setCell ⟨Y1.heap.size, 1, none⟩ (.int .i64 (C.p2 + s))).cell? ⟨tk, k, none⟩ = some (.pointer (some ⟨vb k, 0, none⟩)) := ((World.cell?_setCell_other _ _ _ _ (by intro e; injection e with e1 e2; omega)).trans ((World.cell?_setCell_other _ _ _ _ (by intro e; injection e with e1 e2; omega)).trans tpk))
        replace c6 : ((Y6.setCell ⟨Y1.heap.size, 0, none⟩ (.int .i64 (C.p1 + a))).setCell ⟨Y1.heap.size, 1, none⟩ (.int .i64 (C.p2 + s))).cell? ⟨c, 6, none⟩ = some (.int .i64 C.p1) := ((World.cell?_setCell_other _ _ _ _ (by intro e; injection e with e1 e2; omega)).trans ((World.cell?_setCell_other _ _ _ _ (by intro e; injection e with e1 e2; omega)).trans c6))
        replace c7 : ((Y6.setCell ⟨Y1.heap.size, 0, none⟩ (.int .i64 (C.p1 + a))).setCell ⟨Y1.heap.size, 1, none⟩ (.int .i64 (C.p2 + s))).cell? ⟨c, 7, none⟩ = some (.int .i64 C.p2) := ((World.cell?_setCell_other _ _ _ _ (by intro e; injection e with e1 e2; omega)).trans ((World.cell?_setCell_other _ _ _ _ (by intro e; injection e with e1 e2; omega)).trans c7))
        replace M0 : ((Y6.setCell ⟨Y1.heap.size, 0, none⟩ (.int .i64 (C.p1 + a))).setCell ⟨Y1.heap.size, 1, none⟩ (.int .i64 (C.p2 + s))).cell? ⟨wd9.heap.size, 0, none⟩ = some (.int .i64 C.p1) := ((World.cell?_setCell_other _ _ _ _ (by intro e; injection e with e1 e2; omega)).trans ((World.cell?_setCell_other _ _ _ _ (by intro e; injection e with e1 e2; omega)).trans M0))
        replace M1 : ((Y6.setCell ⟨Y1.heap.size, 0, none⟩ (.int .i64 (C.p1 + a))).setCell ⟨Y1.heap.size, 1, none⟩ (.int .i64 (C.p2 + s))).cell? ⟨wd9.heap.size, 1, none⟩ = some (.int .i64 C.p2) := ((World.cell?_setCell_other _ _ _ _ (by intro e; injection e with e1 e2; omega)).trans ((World.cell?_setCell_other _ _ _ _ (by intro e; injection e with e1 e2; omega)).trans M1))
        replace M2 : ((Y6.setCell ⟨Y1.heap.size, 0, none⟩ (.int .i64 (C.p1 + a))).setCell ⟨Y1.heap.size, 1, none⟩ (.int .i64 (C.p2 + s))).cell? ⟨wd9.heap.size, 2, none⟩ = some (.int .i64 a) := ((World.cell?_setCell_other _ _ _ _ (by intro e; injection e with e1 e2; omega)).trans ((World.cell?_setCell_other _ _ _ _ (by intro e; injection e with e1 e2; omega)).trans M2))
        replace M3 : ((Y6.setCell ⟨Y1.heap.size, 0, none⟩ (.int .i64 (C.p1 + a))).setCell ⟨Y1.heap.size, 1, none⟩ (.int .i64 (C.p2 + s))).cell? ⟨wd9.heap.size, 3, none⟩ = some (.int .i64 s) := ((World.cell?_setCell_other _ _ _ _ (by intro e; injection e with e1 e2; omega)).trans ((World.cell?_setCell_other _ _ _ _ (by intro e; injection e with e1 e2; omega)).trans M3))
        replace Rf0 : ((Y6.setCell ⟨Y1.heap.size, 0, none⟩ (.int .i64 (C.p1 + a))).setCell ⟨Y1.heap.size, 1, none⟩ (.int .i64 (C.p2 + s))).frozen? ⟨Y1.heap.size, 0, none⟩ = false := by simp [go_sem, Rf0]
        replace Rf1 : ((Y6.setCell ⟨Y1.heap.size, 0, none⟩ (.int .i64 (C.p1 + a))).setCell ⟨Y1.heap.size, 1, none⟩ (.int .i64 (C.p2 + s))).frozen? ⟨Y1.heap.size, 1, none⟩ = false := by simp [go_sem, Rf1]
        replace R0 : ((Y6.setCell ⟨Y1.heap.size, 0, none⟩ (.int .i64 (C.p1 + a))).setCell ⟨Y1.heap.size, 1, none⟩ (.int .i64 (C.p2 + s))).cell? ⟨Y1.heap.size, 0, none⟩ = some (.int .i64 (C.p1 + a)) := by simp [go_sem, R0]
        replace R1 : ((Y6.setCell ⟨Y1.heap.size, 0, none⟩ (.int .i64 (C.p1 + a))).setCell ⟨Y1.heap.size, 1, none⟩ (.int .i64 (C.p2 + s))).cell? ⟨Y1.heap.size, 1, none⟩ = some (.int .i64 (C.p2 + s)) := by simp [go_sem, R1]
        replace nq : q < ((Y6.setCell ⟨Y1.heap.size, 0, none⟩ (.int .i64 (C.p1 + a))).setCell ⟨Y1.heap.size, 1, none⟩ (.int .i64 (C.p2 + s))).heap.size := by simpa [World.setCell] using nq
        replace nS : w.heap.size < ((Y6.setCell ⟨Y1.heap.size, 0, none⟩ (.int .i64 (C.p1 + a))).setCell ⟨Y1.heap.size, 1, none⟩ (.int .i64 (C.p2 + s))).heap.size := by simpa [World.setCell] using nS
        replace nc : c < ((Y6.setCell ⟨Y1.heap.size, 0, none⟩ (.int .i64 (C.p1 + a))).setCell ⟨Y1.heap.size, 1, none⟩ (.int .i64 (C.p2 + s))).heap.size := by simpa [World.setCell] using nc
        replace nt : tk < ((Y6.setCell ⟨Y1.heap.size, 0, none⟩ (.int .i64 (C.p1 + a))).setCell ⟨Y1.heap.size, 1, none⟩ (.int .i64 (C.p2 + s))).heap.size := by simpa [World.setCell] using nt
        replace nM : wd9.heap.size < ((Y6.setCell ⟨Y1.heap.size, 0, none⟩ (.int .i64 (C.p1 + a))).setCell ⟨Y1.heap.size, 1, none⟩ (.int .i64 (C.p2 + s))).heap.size := by simpa [World.setCell] using nM
        replace nR : Y1.heap.size < ((Y6.setCell ⟨Y1.heap.size, 0, none⟩ (.int .i64 (C.p1 + a))).setCell ⟨Y1.heap.size, 1, none⟩ (.int .i64 (C.p2 + s))).heap.size := by simpa [World.setCell] using nR
        replace hL := hL.setCell (p := ⟨Y1.heap.size, 0, none⟩) (by show Z2.heap.size ≤ Y1.heap.size; omega) (.int .i64 (C.p1 + a))
        replace hL := hL.setCell (p := ⟨Y1.heap.size, 1, none⟩) (by show Z2.heap.size ≤ Y1.heap.size; omega) (.int .i64 (C.p2 + s))
        refine hK.out _ _ ⟨c6, c7, S0, S1, trivial⟩ (fun hHeld => ?_)
        clear hK K
        generalize ((Y6.setCell ⟨Y1.heap.size, 0, none⟩ (.int .i64 (C.p1 + a))).setCell ⟨Y1.heap.size, 1, none⟩ (.int .i64 (C.p2 + s))) = Y7 at *
        try simp only [Act.put, List.setIfInBounds_toArray, List.set_cons_zero, List.set_cons_succ]
        refine take_slot (i := 12) (d := 12) (v := ?_) rfl rfl (by kernel_rfl) (by kernel_rfl) (by kernel_rfl) (fun _ _ _ h => h) (Or.inl ⟨by rfl, ?_⟩) (by assumption) ?_
        rotate_left 1
        focus (intro wS hSw; (try dsimp only at hSw); go_simp; try with_reducible rfl)
        try simp only [List.setIfInBounds_toArray, List.set_cons_zero, List.set_cons_succ]
        refine wpAnyH_done (by kernel_rfl) ?_ _
        generalize Y1.heap.size = g11 at *
        generalize wd9.heap.size = gM at *
        exact key g11 gM Y7 ⟨nR, R0, R1, hL⟩
    · go_simp
      have hb := (Below.refl wd9.heap.size wd9).alloc (Nat.le_refl _) (Obj.cells #[.int .i64 0, .int .i64 0] 45)
      have szY8 := hL.size
      have ord8nq := nq
      have ord8nS := nS
      have ord8nc := nc
      have ord8nt := nt
      replace d0 := cell_next hb nq d0
      replace d1 := cell_next hb nq d1
      replace d2 := cell_next hb nq d2
      replace d3 := cell_next hb nq d3
      replace d4 := cell_next hb nq d4
      replace S0 := cell_next hb nS S0
      replace S1 := cell_next hb nS S1
      replace c4 := cell_next hb nc c4
      replace tpk := cell_next hb nt tpk
      replace c6 := cell_next hb nc c6
      replace c7 := cell_next hb nc c7
      replace nq := Nat.lt_of_lt_of_le nq hb.size
      replace nS := Nat.lt_of_lt_of_le nS hb.size
      replace nc := Nat.lt_of_lt_of_le nc hb.size
      replace nt := Nat.lt_of_lt_of_le nt hb.size
      replace hL := hL.trans (hb.mono (Nat.le_trans hBW hL.size))
      have Rf0 : (wd9.alloc (Obj.cells #[.int .i64 0, .int .i64 0] 45)).frozen? ⟨wd9.heap.size, 0, none⟩ = false := by simp [go_sem]
      have Rf1 : (wd9.alloc (Obj.cells #[.int .i64 0, .int .i64 0] 45)).frozen? ⟨wd9.heap.size, 1, none⟩ = false := by simp [go_sem]
      have R0 : (wd9.alloc (Obj.cells #[.int .i64 0, .int .i64 0] 45)).cell? ⟨wd9.heap.size, 0, none⟩ = some (.int .i64 0) := cell_new _ _ _ 0
      have R1 : (wd9.alloc (Obj.cells #[.int .i64 0, .int .i64 0] 45)).cell? ⟨wd9.heap.size, 1, none⟩ = some (.int .i64 0) := cell_new _ _ _ 1
      have nR : wd9.heap.size < (wd9.alloc (Obj.cells #[.int .i64 0, .int .i64 0] 45)).heap.size := by simp
      refine hK.out _ _ ⟨c6, c7, S0, S1, trivial⟩ (fun hHeld => ?_)
      clear hK K hb
      generalize wd9.alloc (Obj.cells #[.int .i64 0, .int .i64 0] 45) = Y8 at *
      try simp only [Act.put, List.setIfInBounds_toArray, List.set_cons_zero, List.set_cons_succ]
      refine wpAnyH_ready (rs := [5]) (by kernel_rfl) (by simp) ?_
      refine AllReadyH.cons rfl (fun K hK => ?_) AllReadyH.nil
      go_simp
      have hb := (Below.refl Y8.heap.size Y8).alloc (Nat.le_refl _) (Obj.cells #[.int .i64 C.p1, .int .i64 C.p2, .int .i64 a, .int .i64 s] 45)
      have szY9 := hL.size
      have ord9nq := nq
      have ord9nS := nS
      have ord9nc := nc
      have ord9nt := nt
      have ord9nR := nR
      replace d0 := cell_next hb nq d0
      replace d1 := cell_next hb nq d1
      replace d2 := cell_next hb nq d2
      replace d3 := cell_next hb nq d3
      replace d4 := cell_next hb nq d4
      replace S0 := cell_next hb nS S0
      replace S1 := cell_next hb nS S1
      replace c4 := cell_next hb nc c4
      replace tpk := cell_next hb nt tpk
      replace c6 := cell_next hb nc c6
      replace c7 := cell_next hb nc c7
      replace Rf0 := frozen_next hb nR Rf0
      replace Rf1 := frozen_next hb nR Rf1
      replace R0 := cell_next hb nR R0
      replace R1 := cell_next hb nR R1
      replace nq := Nat.lt_of_lt_of_le nq hb.size
      replace nS := Nat.lt_of_lt_of_le nS hb.size
      replace nc := Nat.lt_of_lt_of_le nc hb.size
      replace nt := Nat.lt_of_lt_of_le nt hb.size
      replace nR := Nat.lt_of_lt_of_le nR hb.size
      replace hL := hL.trans (hb.mono (Nat.le_trans hBW hL.size))
      have M0 : (Y8.alloc (Obj.cells #[.int .i64 C.p1, .int .i64 C.p2, .int .i64 a, .int .i64 s] 45)).cell? ⟨Y8.heap.size, 0, none⟩ = some (.int .i64 C.p1) := cell_new _ _ _ 0
      have M1 : (Y8.alloc (Obj.cells #[.int .i64 C.p1, .int .i64 C.p2, .int .i64 a, .int .i64 s] 45)).cell? ⟨Y8.heap.size, 1, none⟩ = some (.int .i64 C.p2) := cell_new _ _ _ 1
      have M2 : (Y8.alloc (Obj.cells #[.int .i64 C.p1, .int .i64 C.p2, .int .i64 a, .int .i64 s] 45)).cell? ⟨Y8.heap.size, 2, none⟩ = some (.int .i64 a) := cell_new _ _ _ 2
      have M3 : (Y8.alloc (Obj.cells #[.int .i64 C.p1, .int .i64 C.p2, .int .i64 a, .int .i64 s] 45)).cell? ⟨Y8.heap.size, 3, none⟩ = some (.int .i64 s) := cell_new _ _ _ 3
      have nM : Y8.heap.size < (Y8.alloc (Obj.cells #[.int .i64 C.p1, .int .i64 C.p2, .int .i64 a, .int .i64 s] 45)).heap.size := by simp
      refine hK.out _ _ ⟨c6, c7, S0, S1, trivial⟩ (fun hHeld => ?_)
      clear hK K hb
      generalize Y8.alloc (Obj.cells #[.int .i64 C.p1, .int .i64 C.p2, .int .i64 a, .int .i64 s] 45) = Y9 at *
      try simp only [Act.put, List.setIfInBounds_toArray, List.set_cons_zero, List.set_cons_succ]
      refine wpAnyH_ready (rs := [6]) (by kernel_rfl) (by simp) ?_
      refine AllReadyH.cons rfl (fun K hK => ?_) AllReadyH.nil
      go_simp
      refine (CM.out _ _ 2 nM M0 M1 M2 M3).mono ?_
      rintro e Y10 ⟨rfl, hb⟩
      replace d0 := cell_next hb nq d0
      replace d1 := cell_next hb nq d1
      replace d2 := cell_next hb nq d2
      replace d3 := cell_next hb nq d3
      replace d4 := cell_next hb nq d4
      replace S0 := cell_next hb nS S0
      replace S1 := cell_next hb nS S1
      replace c4 := cell_next hb nc c4
      replace tpk := cell_next hb nt tpk
      replace c6 := cell_next hb nc c6
      replace c7 := cell_next hb nc c7
      replace Rf0 := frozen_next hb nR Rf0
      replace Rf1 := frozen_next hb nR Rf1
      replace R0 := cell_next hb nR R0
      replace R1 := cell_next hb nR R1
      replace M0 := cell_next hb nM M0
      replace M1 := cell_next hb nM M1
      replace M2 := cell_next hb nM M2
      replace M3 := cell_next hb nM M3
      replace nq := Nat.lt_of_lt_of_le nq hb.size
      replace nS := Nat.lt_of_lt_of_le nS hb.size
      replace nc := Nat.lt_of_lt_of_le nc hb.size
      replace nt := Nat.lt_of_lt_of_le nt hb.size
      replace nR := Nat.lt_of_lt_of_le nR hb.size
      replace nM := Nat.lt_of_lt_of_le nM hb.size
      replace hL := hL.trans (hb.mono (Nat.le_trans hBW hL.size))
      refine hK.out _ _ ⟨c6, c7, S0, S1, trivial⟩ (fun hHeld => ?_)
      clear hK K hb
      try simp only [Act.put, List.setIfInBounds_toArray, List.set_cons_zero, List.set_cons_succ]
      refine take_slot (i := 7) (d := 41) (v := ?_) rfl rfl (by kernel_rfl) (by kernel_rfl) (by kernel_rfl) (fun _ _ _ h => h) (Or.inl ⟨by rfl, ?_⟩) (by assumption) ?_
      rotate_left 1
      focus (intro wS hSw; (try dsimp only at hSw); go_simp; try with_reducible rfl)
      try simp only [List.setIfInBounds_toArray, List.set_cons_zero, List.set_cons_succ]
      refine take_slot (i := 8) (d := 49) (v := ?_) rfl rfl (by kernel_rfl) (by kernel_rfl) (by kernel_rfl) (fun _ _ _ h => h) (Or.inl ⟨by rfl, ?_⟩) (by assumption) ?_
      rotate_left 1
      focus (intro wS hSw; (try dsimp only at hSw); go_simp; try with_reducible rfl)
      try simp only [List.setIfInBounds_toArray, List.set_cons_zero, List.set_cons_succ]
      refine take_slot (i := 9) (d := 50) (v := ?_) rfl rfl (by kernel_rfl) (by kernel_rfl) (by kernel_rfl) (fun _ _ _ h => h) (Or.inl ⟨by rfl, ?_⟩) (by assumption) ?_
      rotate_left 1
      focus (intro wS hSw; (try dsimp only at hSw); go_simp; try with_reducible rfl)
      try simp only [List.setIfInBounds_toArray, List.set_cons_zero, List.set_cons_succ]
      refine wpAnyH_ready (rs := [11]) (by kernel_rfl) (by simp) ?_
      refine AllReadyH.cons rfl (fun K hK => ?_) AllReadyH.nil
      go_simp
      replace d0 : ((Y10.setCell ⟨wd9.heap.size, 0, none⟩ (.int .i64 (C.p1 + a))).setCell ⟨wd9.heap.size, 1, none⟩ (.int .i64 (C.p2 + s))).cell? ⟨q, 0, none⟩ = some (.int .i64 a) := ((World.cell?_setCell_other _ _ _ _ (by intro e; injection e with e1 e2; omega)).trans ((World.cell?_setCell_other _ _ _ _ (by intro e; injection e with e1 e2; omega)).trans d0))
      replace d1 : ((Y10.setCell ⟨wd9.heap.size, 0, none⟩ (.int .i64 (C.p1 + a))).setCell ⟨wd9.heap.size, 1, none⟩ (.int .i64 (C.p2 + s))).cell? ⟨q, 1, none⟩ = some (.int .i64 s) := ((World.cell?_setCell_other _ _ _ _ (by intro e; injection e with e1 e2; omega)).trans ((World.cell?_setCell_other _ _ _ _ (by intro e; injection e with e1 e2; omega)).trans d1))
      replace d2 : ((Y10.setCell ⟨wd9.heap.size, 0, none⟩ (.int .i64 (C.p1 + a))).setCell ⟨wd9.heap.size, 1, none⟩ (.int .i64 (C.p2 + s))).cell? ⟨q, 2, none⟩ = some (.int .i64 lo) := ((World.cell?_setCell_other _ _ _ _ (by intro e; injection e with e1 e2; omega)).trans ((World.cell?_setCell_other _ _ _ _ (by intro e; injection e with e1 e2; omega)).trans d2))
      replace d3 : ((Y10.setCell ⟨wd9.heap.size, 0, none⟩ (.int .i64 (C.p1 + a))).setCell ⟨wd9.heap.size, 1, none⟩ (.int .i64 (C.p2 + s))).cell? ⟨q, 3, none⟩ = some (.int .i64 hi) := ((World.cell?_setCell_other _ _ _ _ (by intro e; injection e with e1 e2; omega)).trans ((World.cell?_setCell_other _ _ _ _ (by intro e; injection e with e1 e2; omega)).trans d3))
      replace d4 : ((Y10.setCell ⟨wd9.heap.size, 0, none⟩ (.int .i64 (C.p1 + a))).setCell ⟨wd9.heap.size, 1, none⟩ (.int .i64 (C.p2 + s))).cell? ⟨q, 4, none⟩ = some (.int .i64 C.T) := ((World.cell?_setCell_other _ _ _ _ (by intro e; injection e with e1 e2; omega)).trans ((World.cell?_setCell_other _ _ _ _ (by intro e; injection e with e1 e2; omega)).trans d4))
      replace S0 : ((Y10.setCell ⟨wd9.heap.size, 0, none⟩ (.int .i64 (C.p1 + a))).setCell ⟨wd9.heap.size, 1, none⟩ (.int .i64 (C.p2 + s))).cell? ⟨w.heap.size, 0, none⟩ = some (.int .i64 a) := ((World.cell?_setCell_other _ _ _ _ (by intro e; injection e with e1 e2; omega)).trans ((World.cell?_setCell_other _ _ _ _ (by intro e; injection e with e1 e2; omega)).trans S0))
      replace S1 : ((Y10.setCell ⟨wd9.heap.size, 0, none⟩ (.int .i64 (C.p1 + a))).setCell ⟨wd9.heap.size, 1, none⟩ (.int .i64 (C.p2 + s))).cell? ⟨w.heap.size, 1, none⟩ = some (.int .i64 s) := ((World.cell?_setCell_other _ _ _ _ (by intro e; injection e with e1 e2; omega)).trans ((World.cell?_setCell_other _ _ _ _ (by intro e; injection e with e1 e2; omega)).trans S1))
      replace c4 : ((Y10.setCell ⟨wd9.heap.size, 0, none⟩ (.int .i64 (C.p1 + a))).setCell ⟨wd9.heap.size, 1, none⟩ (.int .i64 (C.p2 + s))).cell? ⟨c, 4, none⟩ = some (.slice (some ⟨tk, 0, none⟩) C.n C.cap) := ((World.cell?_setCell_other _ _ _ _ (by intro e; injection e with e1 e2; omega)).trans ((World.cell?_setCell_other _ _ _ _ (by intro e; injection e with e1 e2; omega)).trans c4))
      replace tpk : ((Y10.setCell ⟨wd9.heap.size, 0, none⟩ (.int .i64 (C.p1 + a))).setCell ⟨wd9.heap.size, 1, none⟩ (.int .i64 (C.p2 + s))).cell? ⟨tk, k, none⟩ = some (.pointer (some ⟨vb k, 0, none⟩)) := ((World.cell?_setCell_other _ _ _ _ (by intro e; injection e with e1 e2; omega)).trans ((World.cell?_setCell_other _ _ _ _ (by intro e; injection e with e1 e2; omega)).trans tpk))
      replace c6 : ((Y10.setCell ⟨wd9.heap.size, 0, none⟩ (.int .i64 (C.p1 + a))).setCell ⟨wd9.heap.size, 1, none⟩ (.int .i64 (C.p2 + s))).cell? ⟨c, 6, none⟩ = some (.int .i64 C.p1) := ((World.cell?_setCell_other _ _ _ _ (by intro e; injection e with e1 e2; omega)).trans ((World.cell?_setCell_other _ _ _ _ (by intro e; injection e with e1 e2; omega)).trans c6))
      replace c7 : ((Y10.setCell ⟨wd9.heap.size, 0, none⟩ (.int .i64 (C.p1 + a))).setCell ⟨wd9.heap.size, 1, none⟩ (.int .i64 (C.p2 + s))).cell? ⟨c, 7, none⟩ = some (.int .i64 C.p2) := ((World.cell?_setCell_other _ _ _ _ (by intro e; injection e with e1 e2; omega)).trans ((World.cell?_setCell_other _ _ _ _ (by intro e; injection e with e1 e2; omega)).trans c7))
      replace Rf0 : ((Y10.setCell ⟨wd9.heap.size, 0, none⟩ (.int .i64 (C.p1 + a))).setCell ⟨wd9.heap.size, 1, none⟩ (.int .i64 (C.p2 + s))).frozen? ⟨wd9.heap.size, 0, none⟩ = false := by simp [go_sem, Rf0]
      replace Rf1 : ((Y10.setCell ⟨wd9.heap.size, 0, none⟩ (.int .i64 (C.p1 + a))).setCell ⟨wd9.heap.size, 1, none⟩ (.int .i64 (C.p2 + s))).frozen? ⟨wd9.heap.size, 1, none⟩ = false := by simp [go_sem, Rf1]
      replace R0 : ((Y10.setCell ⟨wd9.heap.size, 0, none⟩ (.int .i64 (C.p1 + a))).setCell ⟨wd9.heap.size, 1, none⟩ (.int .i64 (C.p2 + s))).cell? ⟨wd9.heap.size, 0, none⟩ = some (.int .i64 (C.p1 + a)) := by simp [go_sem, R0]
      replace R1 : ((Y10.setCell ⟨wd9.heap.size, 0, none⟩ (.int .i64 (C.p1 + a))).setCell ⟨wd9.heap.size, 1, none⟩ (.int .i64 (C.p2 + s))).cell? ⟨wd9.heap.size, 1, none⟩ = some (.int .i64 (C.p2 + s)) := by simp [go_sem, R1]
      replace M0 : ((Y10.setCell ⟨wd9.heap.size, 0, none⟩ (.int .i64 (C.p1 + a))).setCell ⟨wd9.heap.size, 1, none⟩ (.int .i64 (C.p2 + s))).cell? ⟨Y8.heap.size, 0, none⟩ = some (.int .i64 C.p1) := ((World.cell?_setCell_other _ _ _ _ (by intro e; injection e with e1 e2; omega)).trans ((World.cell?_setCell_other _ _ _ _ (by intro e; injection e with e1 e2; omega)).trans M0))
      replace M1 : ((Y10.setCell ⟨wd9.heap.size, 0, none⟩ (.int .i64 (C.p1 + a))).setCell ⟨wd9.heap.size, 1, none⟩ (.int .i64 (C.p2 + s))).cell? ⟨Y8.heap.size, 1, none⟩ = some (.int .i64 C.p2) := ((World.cell?_setCell_other _ _ _ _ (by intro e; injection e with e1 e2; omega)).trans ((World.cell?_setCell_other _ _ _ _ (by intro e; injection e with e1 e2; omega)).trans M1))
      replace M2 : ((Y10.setCell ⟨wd9.heap.size, 0, none⟩ (.int .i64 (C.p1 + a))).setCell ⟨wd9.heap.size, 1, none⟩ (.int .i64 (C.p2 + s))).cell? ⟨Y8.heap.size, 2, none⟩ = some (.int .i64 a) := ((World.cell?_setCell_other _ _ _ _ (by intro e; injection e with e1 e2; omega)).trans ((World.cell?_setCell_other _ _ _ _ (by intro e; injection e with e1 e2; omega)).trans M2))
      replace M3 : ((Y10.setCell ⟨wd9.heap.size, 0, none⟩ (.int .i64 (C.p1 + a))).setCell ⟨wd9.heap.size, 1, none⟩ (.int .i64 (C.p2 + s))).cell? ⟨Y8.heap.size, 3, none⟩ = some (.int .i64 s) := ((World.cell?_setCell_other _ _ _ _ (by intro e; injection e with e1 e2; omega)).trans ((World.cell?_setCell_other _ _ _ _ (by intro e; injection e with e1 e2; omega)).trans M3))
      replace nq : q < ((Y10.setCell ⟨wd9.heap.size, 0, none⟩ (.int .i64 (C.p1 + a))).setCell ⟨wd9.heap.size, 1, none⟩ (.int .i64 (C.p2 + s))).heap.size := by simpa [World.setCell] using nq
      replace nS : w.heap.size < ((Y10.setCell ⟨wd9.heap.size, 0, none⟩ (.int .i64 (C.p1 + a))).setCell ⟨wd9.heap.size, 1, none⟩ (.int .i64 (C.p2 + s))).heap.size := by simpa [World.setCell] using nS
      replace nc : c < ((Y10.setCell ⟨wd9.heap.size, 0, none⟩ (.int .i64 (C.p1 + a))).setCell ⟨wd9.heap.size, 1, none⟩ (.int .i64 (C.p2 + s))).heap.size := by simpa [World.setCell] using nc
      replace nt : tk < ((Y10.setCell ⟨wd9.heap.size, 0, none⟩ (.int .i64 (C.p1 + a))).setCell ⟨wd9.heap.size, 1, none⟩ (.int .i64 (C.p2 + s))).heap.size := by simpa [World.setCell] using nt
      replace nR : wd9.heap.size < ((Y10.setCell ⟨wd9.heap.size, 0, none⟩ (.int .i64 (C.p1 + a))).setCell ⟨wd9.heap.size, 1, none⟩ (.int .i64 (C.p2 + s))).heap.size := by simpa [World.setCell] using nR
      replace nM : Y8.heap.size < ((Y10.setCell ⟨wd9.heap.size, 0, none⟩ (.int .i64 (C.p1 + a))).setCell ⟨wd9.heap.size, 1, none⟩ (.int .i64 (C.p2 + s))).heap.size := by simpa [World.setCell] using nM
      replace hL := hL.setCell (p := ⟨wd9.heap.size, 0, none⟩) (by show Z2.heap.size ≤ wd9.heap.size; omega) (.int .i64 (C.p1 + a))
      replace hL := hL.setCell (p := ⟨wd9.heap.size, 1, none⟩) (by show Z2.heap.size ≤ wd9.heap.size; omega) (.int .i64 (C.p2 + s))
      refine hK.out _ _ ⟨c6, c7, S0, S1, trivial⟩ (fun hHeld => ?_)
      clear hK K
      generalize ((Y10.setCell ⟨wd9.heap.size, 0, none⟩ (.int .i64 (C.p1 + a))).setCell ⟨wd9.heap.size, 1, none⟩ (.int .i64 (C.p2 + s))) = Y11 at *
      try simp only [Act.put, List.setIfInBounds_toArray, List.set_cons_zero, List.set_cons_succ]
      refine take_slot (i := 12) (d := 12) (v := ?_) rfl rfl (by kernel_rfl) (by kernel_rfl) (by kernel_rfl) (fun _ _ _ h => h) (Or.inl ⟨by rfl, ?_⟩) (by assumption) ?_
      rotate_left 1
      focus (intro wS hSw; (try dsimp only at hSw); go_simp; try with_reducible rfl)
      try simp only [List.setIfInBounds_toArray, List.set_cons_zero, List.set_cons_succ]
      refine wpAnyH_done (by kernel_rfl) ?_ _
      generalize wd9.heap.size = g11 at *
      generalize Y8.heap.size = gM at *
      exact key g11 gM Y11 ⟨nR, R0, R1, hL⟩
  case key =>
    intro g11 gM Y ⟨nR, R0, R1, hL⟩
    replace d0 := cell_next hL nq d0
    replace d1 := cell_next hL nq d1
    replace d2 := cell_next hL nq d2
    replace d3 := cell_next hL nq d3
    replace d4 := cell_next hL nq d4
    replace nq := Nat.lt_of_lt_of_le nq hL.size
    replace hB := hB.trans (hL.mono hB.size)
    replace HC := Lib.hid (HC.out.below hL)
    replace HV := Lib.hid (HV.out.below hL)
    replace HO := Lib.hid (HO.out.below hL)
    replace c6 := HC.out.c6
    replace c7 := HC.out.c7
    have f6 := HC.out.fr 6
    have f7 := HC.out.fr 7
    clear hL S0 S1 nS c4 tpk nt
    go_wp2_with fail
    have hKc : Kept (fun i => i = c) Y ((Y.setCell ⟨c, 6, none⟩ (.int .i64 (C.p1 + a))).setCell ⟨c, 7, none⟩ (.int .i64 (C.p2 + s))) := (Kept.set (U := fun i => i = c) _ (p := ⟨c, 6, none⟩) rfl _).trans (Kept.set (U := fun i => i = c) _ (p := ⟨c, 7, none⟩) rfl _)
    have hwY := hB.size
    have HC2 := Lib.hid (HC.out.poured htc (C.p1 + a) (C.p2 + s))
    have hB2 : Below B w ((Y.setCell ⟨c, 6, none⟩ (.int .i64 (C.p1 + a))).setCell ⟨c, 7, none⟩ (.int .i64 (C.p2 + s))) := ((hB.mono (by omega)).setCell (p := ⟨c, 6, none⟩) hBc _).setCell (p := ⟨c, 7, none⟩) hBc _
    generalize (Y.setCell ⟨c, 6, none⟩ (.int .i64 (C.p1 + a))).setCell ⟨c, 7, none⟩ (.int .i64 (C.p2 + s)) = X2 at *
    have hqc : ¬ (q = c) := by omega
    replace d0 := (hKc.cell (p := ⟨q, 0, none⟩) nq hqc).trans d0
    replace d1 := (hKc.cell (p := ⟨q, 1, none⟩) nq hqc).trans d1
    replace d2 := (hKc.cell (p := ⟨q, 2, none⟩) nq hqc).trans d2
    replace d3 := (hKc.cell (p := ⟨q, 3, none⟩) nq hqc).trans d3
    replace d4 := (hKc.cell (p := ⟨q, 4, none⟩) nq hqc).trans d4
    replace nq := Nat.lt_of_lt_of_le nq hKc.1
    replace HV := Lib.hid (HV.out.kept hKc hcv)
    replace HO := Lib.hid (HO.out.kept hKc (fun g h h2 => by have := (hOB g h).1; omega))
    have HB := Lib.hid hB
    have HKc := Lib.hid hKc
    have hYX := hKc.1
    have c4 := HC2.out.c4
    have tpk := HC2.out.tp k hk
    have nc := HC2.out.nc
    have nt := HC2.out.nt
    dsimp only at c4 tpk
    clear c6 c7 f6 f7 hKc hB R0 R1 nR
    have hBW := Nat.le_refl X2.heap.size
    go_upto_region 13 with fail
    refine wp_region_held_drew (S := fun w' => w'.cell? ⟨q, 0, none⟩ = some (.int .i64 a) ∧ w'.cell? ⟨q, 1, none⟩ = some (.int .i64 s) ∧ w'.cell? ⟨q, 2, none⟩ = some (.int .i64 lo) ∧ w'.cell? ⟨q, 3, none⟩ = some (.int .i64 hi) ∧ w'.cell? ⟨q, 4, none⟩ = some (.int .i64 C.T) ∧ w'.cell? ⟨c, 4, none⟩ = some (.slice (some ⟨tk, 0, none⟩) C.n C.cap) ∧ w'.cell? ⟨tk, k, none⟩ = some (.pointer (some ⟨vb k, 0, none⟩)) ∧ True) (by kernel_rfl) ?_ (fun hHeld => ?_)
    focus (exact ⟨d0, d1, d2, d3, d4, c4, tpk, trivial⟩)
    have hL : Below X2.heap.size X2 X2.drew := Below.drew (Below.refl _ _)
    have hQ : Hid (Kept (fun _ => False) X2 X2.drew) := Lib.hid (Kept.refl _ _)
    replace d0 : X2.drew.cell? ⟨q, 0, none⟩ = some (.int .i64 a) := d0
    replace d1 : X2.drew.cell? ⟨q, 1, none⟩ = some (.int .i64 s) := d1
    replace d2 : X2.drew.cell? ⟨q, 2, none⟩ = some (.int .i64 lo) := d2
    replace d3 : X2.drew.cell? ⟨q, 3, none⟩ = some (.int .i64 hi) := d3
    replace d4 : X2.drew.cell? ⟨q, 4, none⟩ = some (.int .i64 C.T) := d4
    replace c4 : X2.drew.cell? ⟨c, 4, none⟩ = some (.slice (some ⟨tk, 0, none⟩) C.n C.cap) := c4
    replace tpk : X2.drew.cell? ⟨tk, k, none⟩ = some (.pointer (some ⟨vb k, 0, none⟩)) := tpk
    replace nq : q < X2.drew.heap.size := nq
    replace nc : c < X2.drew.heap.size := nc
    replace nt : tk < X2.drew.heap.size := nt
    generalize hWd : X2.drew = wd13 at hHeld hL hQ d0 d1 d2 d3 d4 c4 tpk nq nc nt  ⊢
    clear hWd
    refine take_slot (i := 0) (d := 58) (v := ?_) rfl rfl (by kernel_rfl) (by kernel_rfl) (by kernel_rfl) (fun _ _ _ h => h) (Or.inl ⟨by rfl, ?_⟩) (by assumption) ?_
    rotate_left 1
    focus (intro wS hSw; (try dsimp only at hSw); go_simp; try with_reducible rfl)
    try simp only [List.setIfInBounds_toArray, List.set_cons_zero, List.set_cons_succ]
    refine take_slot (i := 1) (d := 59) (v := ?_) rfl rfl (by kernel_rfl) (by kernel_rfl) (by kernel_rfl) (fun _ _ _ h => h) (Or.inl ⟨by rfl, ?_⟩) (by assumption) ?_
    rotate_left 1
    focus (intro wS hSw; (try dsimp only at hSw); go_simp; try with_reducible rfl)
    try simp only [List.setIfInBounds_toArray, List.set_cons_zero, List.set_cons_succ]
    refine take_slot (i := 2) (d := 60) (v := ?_) rfl rfl (by kernel_rfl) (by kernel_rfl) (by kernel_rfl) (fun _ _ _ h => h) (Or.inl ⟨by rfl, ?_⟩) (by assumption) ?_
    rotate_left 1
    focus (intro wS hSw; (try dsimp only at hSw); go_simp; try with_reducible rfl)
    try simp only [List.setIfInBounds_toArray, List.set_cons_zero, List.set_cons_succ]
    refine take_slot (i := 3) (d := 61) (v := ?_) rfl rfl (by kernel_rfl) (by kernel_rfl) (by kernel_rfl) (fun _ _ _ h => h) (Or.inl ⟨by rfl, ?_⟩) (by assumption) ?_
    rotate_left 1
    focus (intro wS hSw; (try dsimp only at hSw); go_simp; try with_reducible rfl)
    try simp only [List.setIfInBounds_toArray, List.set_cons_zero, List.set_cons_succ]
    refine take_slot (i := 4) (d := 62) (v := ?_) rfl rfl (by kernel_rfl) (by kernel_rfl) (by kernel_rfl) (fun _ _ _ h => h) (Or.inl ⟨by rfl, ?_⟩) (by assumption) ?_
    rotate_left 1
    focus (intro wS hSw; (try dsimp only at hSw); go_simp; try with_reducible rfl)
    try simp only [List.setIfInBounds_toArray, List.set_cons_zero, List.set_cons_succ]
    refine take_slot (i := 5) (d := 63) (v := ?_) rfl rfl (by kernel_rfl) (by kernel_rfl) (by kernel_rfl) (fun _ _ _ h => h) (Or.inl ⟨by rfl, ?_⟩) (by assumption) ?_
    rotate_left 1
    focus (intro wS hSw; (try dsimp only at hSw); go_simp; try with_reducible rfl)
    try simp only [List.setIfInBounds_toArray, List.set_cons_zero, List.set_cons_succ]
    refine take_slot (i := 6) (d := 64) (v := ?_) rfl rfl (by kernel_rfl) (by kernel_rfl) (by kernel_rfl) (fun _ _ _ h => h) (Or.inl ⟨by rfl, ?_⟩) (by assumption) ?_
    rotate_left 1
    focus (intro wS hSw; (try dsimp only at hSw); go_simp; try with_reducible rfl)
    try simp only [List.setIfInBounds_toArray, List.set_cons_zero, List.set_cons_succ]
    refine take_slot (i := 7) (d := 65) (v := ?_) rfl rfl (by kernel_rfl) (by kernel_rfl) (by kernel_rfl) (fun _ _ _ h => h) (Or.inl ⟨by rfl, ?_⟩) (by assumption) ?_
    rotate_left 1
    focus (intro wS hSw; (try dsimp only at hSw); go_simp; try with_reducible rfl)
    try simp only [List.setIfInBounds_toArray, List.set_cons_zero, List.set_cons_succ]
    refine wpAnyH_ready (rs := [8]) (by kernel_rfl) (by simp) ?_
    refine AllReadyH.cons rfl (fun K hK => ?_) AllReadyH.nil
    go_simp
    have hb := (Below.refl wd13.heap.size wd13).alloc (Nat.le_refl _) (Obj.cells #[.int .i64 a, .int .i64 s, .int .i64 lo, .int .i64 hi, .int .i64 C.T] 92)
    have szV1 := hL.size
    have ord1nq := nq
    have ord1nc := nc
    have ord1nt := nt
    replace d0 := cell_next hb nq d0
    replace d1 := cell_next hb nq d1
    replace d2 := cell_next hb nq d2
    replace d3 := cell_next hb nq d3
    replace d4 := cell_next hb nq d4
    replace c4 := cell_next hb nc c4
    replace tpk := cell_next hb nt tpk
    replace nq := Nat.lt_of_lt_of_le nq hb.size
    replace nc := Nat.lt_of_lt_of_le nc hb.size
    replace nt := Nat.lt_of_lt_of_le nt hb.size
    replace hL := hL.trans (hb.mono (Nat.le_trans hBW hL.size))
    replace hQ := Lib.hid (hQ.out.trans (Kept.of_below' hb _))
    have F0 : (wd13.alloc (Obj.cells #[.int .i64 a, .int .i64 s, .int .i64 lo, .int .i64 hi, .int .i64 C.T] 92)).cell? ⟨wd13.heap.size, 0, none⟩ = some (.int .i64 a) := cell_new _ _ _ 0
    have F1 : (wd13.alloc (Obj.cells #[.int .i64 a, .int .i64 s, .int .i64 lo, .int .i64 hi, .int .i64 C.T] 92)).cell? ⟨wd13.heap.size, 1, none⟩ = some (.int .i64 s) := cell_new _ _ _ 1
    have F2 : (wd13.alloc (Obj.cells #[.int .i64 a, .int .i64 s, .int .i64 lo, .int .i64 hi, .int .i64 C.T] 92)).cell? ⟨wd13.heap.size, 2, none⟩ = some (.int .i64 lo) := cell_new _ _ _ 2
    have F3 : (wd13.alloc (Obj.cells #[.int .i64 a, .int .i64 s, .int .i64 lo, .int .i64 hi, .int .i64 C.T] 92)).cell? ⟨wd13.heap.size, 3, none⟩ = some (.int .i64 hi) := cell_new _ _ _ 3
    have F4 : (wd13.alloc (Obj.cells #[.int .i64 a, .int .i64 s, .int .i64 lo, .int .i64 hi, .int .i64 C.T] 92)).cell? ⟨wd13.heap.size, 4, none⟩ = some (.int .i64 C.T) := cell_new _ _ _ 4
    have nF : wd13.heap.size < (wd13.alloc (Obj.cells #[.int .i64 a, .int .i64 s, .int .i64 lo, .int .i64 hi, .int .i64 C.T] 92)).heap.size := by simp
    refine hK.out _ _ ⟨d0, d1, d2, d3, d4, c4, tpk, trivial⟩ (fun hHeld => ?_)
    clear hK K hb
    generalize wd13.alloc (Obj.cells #[.int .i64 a, .int .i64 s, .int .i64 lo, .int .i64 hi, .int .i64 C.T] 92) = V1 at *
    try simp only [Act.put, List.setIfInBounds_toArray, List.set_cons_zero, List.set_cons_succ]
    refine wpAnyH_ready (rs := [9]) (by kernel_rfl) (by simp) ?_
    refine AllReadyH.cons rfl (fun K hK => ?_) AllReadyH.nil
    go_simp
    refine (CH.out _ _ 1 (HV.out.kept hQ.out (fun h => h)) (HO.out.kept hQ.out (fun _ _ h => h)) (by have := hL.size; omega) nF (by omega) (fun h => by have := (hOB _ h).2; omega) F0 F1 F2 F3 F4).mono ?_
    rintro e V2 ⟨⟨u, rfl⟩, v', hO', hV', hob', hB', hK'⟩
    have hqU : ¬ (q = vb k ∨ v.ownBlock = some q) := fun h => by rcases h with h | h; omega; have := (hOB _ h).2; omega
    have hcU : ¬ (c = vb k ∨ v.ownBlock = some c) := fun h => by rcases h with h | h; omega; have := (hOB _ h).1; omega
    have htU : ¬ (tk = vb k ∨ v.ownBlock = some tk) := fun h => by rcases h with h | h; omega; have := (hOB _ h).1; omega
    replace d0 := (hK'.cell (p := ⟨q, 0, none⟩) nq hqU).trans d0
    replace d1 := (hK'.cell (p := ⟨q, 1, none⟩) nq hqU).trans d1
    replace d2 := (hK'.cell (p := ⟨q, 2, none⟩) nq hqU).trans d2
    replace d3 := (hK'.cell (p := ⟨q, 3, none⟩) nq hqU).trans d3
    replace d4 := (hK'.cell (p := ⟨q, 4, none⟩) nq hqU).trans d4
    replace c4 := (hK'.cell (p := ⟨c, 4, none⟩) nc hcU).trans c4
    replace tpk := (hK'.cell (p := ⟨tk, k, none⟩) nt htU).trans tpk
    have hsZ := hL.size
    have hQa := Lib.hid ((hQ.out.mono (V := fun i => i = vb k ∨ v.ownBlock = some i) (fun _ h => h.elim)).trans hK')
    have hBa := hB2.trans ((hL.mono (by omega)).trans hB')
    refine hK.out _ _ ⟨d0, d1, d2, d3, d4, c4, tpk, trivial⟩ (fun hHeld => ?_)
    clear hK K hQ hL hB' hK'
    try simp only [Act.put, List.setIfInBounds_toArray, List.set_cons_zero, List.set_cons_succ]
    refine wpAnyH_done (by kernel_rfl) ?_ _
    go_wp2_with fail
    go_ret
    exact ⟨rfl, v', HC2.out.kept hQa.out hcU htU, hV', hO', by
      rcases hob' with h | ⟨g, h1, h2⟩
      · exact .inl h
      · exact .inr ⟨g, h1, by omega⟩, hBa, (Kept.of_below' HB.out _).trans ((HKc.out.mono fun i h => .inl h).trans (hQa.out.mono fun i h => .inr h))⟩
end Go.Proofs.Ytfdaiififoomoaa
