/- Contracts: U18, joined. -/
import Derived.Test.YtfdaiififoomoaaJB15
namespace Go.Proofs.Ytfdaiififoomoaa
open Go.RowKit Go.Lib Go.Shelf
set_option linter.unusedVariables false
set_option linter.unusedSimpArgs false
attribute [local go_sem ↓] Go.wp_at_zero Go.wp_at_succ

/-- a lot that is a part of one of the lots xs -/
def OfL (xs : List Lo) (l : Lo) : Prop := loB l ∧ ∃ x ∈ xs, l.t = x.t ∧ l.lo = x.lo ∧ l.hi = x.hi
theorem drawL_of (zs : List Lo) : ∀ (xs : List Lo) (M : Int), (∀ x ∈ xs, loB x ∧ x ∈ zs) → 0 ≤ M → 0 ≤ (drawL xs M).1 ∧ (drawL xs M).2.1.length ≤ xs.length ∧ (drawL xs M).2.2.length ≤ xs.length ∧ (∀ l ∈ (drawL xs M).2.1, OfL zs l) ∧ (∀ l ∈ (drawL xs M).2.2, OfL zs l) := by
  intro xs
  suffices h : ∀ n, n ≤ xs.length → ∀ M, (∀ x ∈ xs, loB x ∧ x ∈ zs) → 0 ≤ M → 0 ≤ (drawL (xs.take n) M).1 ∧ (drawL (xs.take n) M).2.1.length ≤ n ∧ (drawL (xs.take n) M).2.2.length ≤ n ∧ (∀ l ∈ (drawL (xs.take n) M).2.1, OfL zs l) ∧ (∀ l ∈ (drawL (xs.take n) M).2.2, OfL zs l) by
    intro M h1 h2
    have := h xs.length (Nat.le_refl _) M h1 h2
    rwa [List.take_length] at this
  intro n
  induction n with
  | zero => intro _ M _ hM; simp [drawL]; exact hM
  | succ n ih =>
    intro hn M hx hM
    obtain ⟨p, hp⟩ : ∃ p, xs[n]? = some p := ⟨_, List.getElem?_eq_getElem (by omega)⟩
    obtain ⟨h1, h2, h3, h4, h5⟩ := ih (by omega) M hx hM
    obtain ⟨hb, hz⟩ := hx p (List.mem_of_getElem? hp)
    rw [List.take_add_one, hp, Option.toList_some, drawL_snoc]
    generalize drawL (xs.take n) M = st at *
    obtain ⟨m, T, F⟩ := st
    simp only [dS]
    simp only at h1 h2 h3 h4 h5
    obtain ⟨b1, b2, b3, b4⟩ := hb
    have hm0 : 0 ≤ min m (p.a + p.s) := by omega
    have hm1 : min m (p.a + p.s) ≤ p.a + p.s := by omega
    obtain ⟨d1, d2, d3, d4⟩ := dQ_bd p _ ⟨b1, b2, b3, b4⟩ hm0 hm1
    refine ⟨by omega, ?_, ?_, ?_, ?_⟩
    · split
      · simp; omega
      · omega
    · split
      · simp; omega
      · omega
    · split
      · intro l hl
        rcases List.mem_append.1 hl with h | h
        · exact h4 l h
        · simp at h; subst h
          exact ⟨⟨by show 0 ≤ _ - _; omega, by show _ - _ ≤ _; omega, d1, by show dQ _ _ ≤ _; omega⟩, p, hz, rfl, rfl, rfl⟩
      · exact h4
    · split
      · intro l hl
        rcases List.mem_append.1 hl with h | h
        · exact h5 l h
        · simp at h; subst h
          exact ⟨⟨by show 0 ≤ _ - (_ - _); omega, by show _ - (_ - _) ≤ _; omega, by show 0 ≤ _ - _; omega, by show _ - _ ≤ _; omega⟩, p, hz, rfl, rfl, rfl⟩
      · exact h5
theorem OwnL.mono {base base' : Nat} {w : World} {v : Value} {xs : List Lo} (h : OwnL base' w v xs) (hb : base ≤ base') : OwnL base w v xs := by
  refine ⟨h.1, ?_⟩
  rcases h.2 with h0 | ⟨g, cap, cur, e, hg, r⟩
  · exact .inl h0
  · exact .inr ⟨g, cap, cur, e, by omega, r⟩

def DrwP (B base c tk k : Nat) (vb : Nat → Nat) (C : Cel) (sz fl fh M : Int) (xs : List Lo) (w : World) (e : Ending) (w' : World) : Prop :=
  e = .returned (.tuple #[.agg #[.int .i64 (lotSum (drawL xs M).2.1).1, .int .i64 (lotSum (drawL xs M).2.1).2, .int .i64 (huL ((drawL xs M).2.1.map gm)), .int .i64 (huH ((drawL xs M).2.1.map gm)), .int .i64 (huL ((drawL xs M).2.1.map (ag C.T))), .int .i64 (huH ((drawL xs M).2.1.map (ag C.T)))], .int .i64 0]) ∧
  ∃ v', CelAt w' c tk vb { C with d1 := C.d1 + (lotSum (drawL xs M).2.1).1, d2 := C.d2 + (lotSum (drawL xs M).2.1).2 } ∧ VesAt w' (vb k) sz fl fh v' ∧ OwnL base w' v' (drawL xs M).2.2 ∧ (∀ g, v'.ownBlock = some g → w.heap.size ≤ g) ∧ Below B w w' ∧ Kept (fun i => i = c ∨ i = vb k) w w'
theorem CelAt.drawn {W : World} {c tk : Nat} {vb : Nat → Nat} {C : Cel} (h : CelAt W c tk vb C) (hne : tk ≠ c) (x y : Int) : CelAt ((W.setCell ⟨c, 8, none⟩ (.int .i64 x)).setCell ⟨c, 9, none⟩ (.int .i64 y)) c tk vb { C with d1 := x, d2 := y } := by
  obtain ⟨nc, nt, c0, c1, c2, c3, c4, c5, c6, c7, c8, c9, c10, c11, fr, tp⟩ := h
  refine ⟨by simpa [World.setCell] using nc, by simpa [World.setCell] using nt, ?_, ?_, ?_, ?_, ?_, ?_, ?_, ?_, ?_, ?_, ?_, ?_, fun o => ?_, fun i hi => ?_⟩
  all_goals first | (simp [go_sem, *]; done) | (simp [go_sem, fr]; done) | exact (World.cell?_setCell_other _ _ _ _ (by intro e; injection e with e1 e2; omega)).trans ((World.cell?_setCell_other _ _ _ _ (by intro e; injection e with e1 e2; omega)).trans (tp i hi))

set_option maxRecDepth 20000 in
set_option maxHeartbeats 8000000 in
theorem cdraw_ok (B base c tk k : Nat) (vb : Nat → Nat) (C : Cel) (sz fl fh M : Int) (v : Value) (xs : List Lo) (w : World) (hk : k < C.n) (hn : C.n ≤ 1000)
    (hBc : B ≤ c) (hBv : B ≤ vb k) (hBb : B ≤ base) (hcb : c < base) (htb : tk < base) (hvb : vb k < base) (hbase : base ≤ w.heap.size) (hcv : vb k ≠ c) (htc : tk ≠ c) (htv : tk ≠ vb k)
    (hC : CelAt w c tk vb C) (hV : VesAt w (vb k) sz fl fh v) (hown : OwnL base w v xs) (hx : ∀ x ∈ xs, loB x ∧ 0 ≤ x.t ∧ x.t ≤ 1000000) (hl : xs.length ≤ 40) (hT : 0 ≤ C.T ∧ C.T ≤ 1000000)
    (hM1 : 1 ≤ M) (hM2 : M ≤ (lotSum xs).1 + (lotSum xs).2) (hd0 : smB (C.d1, C.d2)) :
    Calls Try.prog 20 #[.pointer (some ⟨c, 0, none⟩), .int .i64 (k : Int), .int .i64 M] w (DrwP B base c tk k vb C sz fl fh M xs w) := by
  have CC := Lib.hid (fun (W : World) (h : CelAt W c tk vb C) (g cp : Nat) (hg : g < W.heap.size) (h0 : W.cell? ⟨g, 0, none⟩ = some (.int .i64 (k : Int))) => check_ok c tk vb C (.slice (some ⟨g, 0, none⟩) 1 cp) [(k : Int)] W h hn ((ns_one h0).mono (by omega)) (by simp) (by intro x hx; simp at hx; subst hx; omega))
  obtain ⟨hm0, hlT, hlF, hTo, hFo⟩ := drawL_of xs xs M (fun x h => ⟨(hx x h).1, h⟩) (by omega)
  have CD := Lib.hid (fun (W : World) (h1 : VesAt W (vb k) sz fl fh v) (h2 : OwnL base W v xs) => vdraw_ok (vb k) sz fl fh M v xs W h1 (fun x h => (hx x h).1) h2.read hl hM1 hM2)
  unfold DrawP at CD
  unfold DrwP
  generalize hT' : (drawL xs M).2.1 = Tk at *
  generalize hF' : (drawL xs M).2.2 = Fk at *
  have CT := Lib.hid (fun (W : World) (v1 : Value) (h : LsAt W.heap.size W v1 Tk) => together_lots v1 Tk W (fun l hl => (hTo l hl).1) h (by omega))
  have CG := Lib.hid (fun (W : World) (v1 : Value) (h : LsAt W.heap.size W v1 Tk) => aroundG v1 Tk W h (by omega))
  have CA := Lib.hid (fun (W : World) (v1 : Value) (h : LsAt W.heap.size W v1 Tk) (hc : c < W.heap.size) (h5 : W.cell? ⟨c, 5, none⟩ = some (.int .i64 C.T)) => aroundA c C.T hT v1 Tk W h (by omega) (fun l hl => by obtain ⟨_, x, hxx, e, _⟩ := hTo l hl; rw [e]; exact (hx x hxx).2) hc h5)
  obtain ⟨s1, s2, s3, s4⟩ := lotSum_bd Tk (fun l hl => (hTo l hl).1)
  generalize (lotSum Tk).1 = sa at *
  generalize (lotSum Tk).2 = ss at *
  generalize huL (Tk.map gm) = g1 at *
  generalize huH (Tk.map gm) = g2 at *
  generalize huL (Tk.map (ag C.T)) = a1 at *
  generalize huH (Tk.map (ag C.T)) = a2 at *
  have CS := Lib.hid (fun (W : World) (g cp : Nat) (hg : g < W.heap.size) c0 c1 c2 c3 => sum2_any g cp C.d1 C.d2 sa ss (C.d1 + sa) (C.d2 + ss) W hg hd0 ⟨s1, by show sa ≤ _; omega, s3, by show ss ≤ _; omega⟩ c0 c1 c2 c3 rfl rfl)
  have HC := Lib.hid hC
  have HV := Lib.hid hV
  have HO := Lib.hid hown
  have hk0 : (0 : Int) ≤ (k : Int) := by omega
  have hk1 : (k : Int) < (C.n : Int) := by omega
  clear hC hV hown hx hM1 hM2 hm0 hlT hlF hTo hFo s1 s2 s3 s4 hT' hF' hT hd0 hl
  go_enter Try.func20, Try.ntmps20
  go_wp2_with fail
  refine (CC.out _ (HC.out.below (below_al2 w _ _)) _ _ (by simp) (by simp [go_sem])).mono ?_
  rintro e w1 ⟨rfl, hb⟩
  have hB := below2 hb
  have hz := hb.size
  simp at hz
  have r0 : ∀ o, o < 6 → w1.cell? ⟨w.heap.size, o, none⟩ = some (.int .i64 0) := fun o ho => cell_next hb (by simp <;> omega) (by rcases o with _ | _ | _ | _ | _ | _ | o <;> first | (simp [go_sem]; done) | omega)
  have rf : ∀ o, w1.frozen? ⟨w.heap.size, o, none⟩ = false := fun o => frozen_next hb (by simp <;> omega) (by simp [go_sem])
  have nr : w.heap.size < w1.heap.size := by omega
  have hww1 := hB.size
  have hww2 : w.heap.size < w1.heap.size := nr
  replace HC := Lib.hid (HC.out.below hB)
  replace HV := Lib.hid (HV.out.below hB)
  replace HO := Lib.hid (HO.out.below hB)
  have c4 := HC.out.c4
  have tpk := HC.out.tp k hk
  have nc := HC.out.nc
  have nt := HC.out.nt
  clear hb hz CC
  go_wp2_with fail
  refine (CD.out _ HV.out HO.out).mono ?_
  rintro e w2 ⟨v1, v2, rfl, hO1, hO2, hAp, hb⟩
  have hz2 := hb.size
  have hO2lt := World.ownsRow.lt hO2
  have hO1lt := World.ownsRow.lt hO1
  have r1 : ∀ o, o < 6 → w2.cell? ⟨w.heap.size, o, none⟩ = some (.int .i64 0) := fun o ho => cell_next hb nr (r0 o ho)
  have rf1 : ∀ o, w2.frozen? ⟨w.heap.size, o, none⟩ = false := fun o => frozen_next hb nr (rf o)
  replace nr := Nat.lt_of_lt_of_le nr hb.size
  replace hB := hB.trans (hb.mono hB.size)
  replace HC := Lib.hid (HC.out.below hb)
  replace HV := Lib.hid (HV.out.below hb)
  obtain ⟨A2, cc2, rfl⟩ := hO2.form
  replace c4 := HC.out.c4
  replace tpk := HC.out.tp k hk
  replace nc := HC.out.nc
  replace nt := HC.out.nt
  have v3 := HV.out.c3
  have vf3 := HV.out.f3
  have nv := HV.out.n
  clear hb CD r0 rf HO
  go_wp2_with fail
  have hKv : Kept (fun i => i = vb k) w2 (w2.setCell ⟨vb k, 3, none⟩ (.slice A2 Fk.length cc2)) := Kept.set (U := fun i => i = vb k) _ (p := ⟨vb k, 3, none⟩) rfl _
  have hV2 := HV.out.put (.slice A2 Fk.length cc2)
  have hB2 : Below B w (w2.setCell ⟨vb k, 3, none⟩ (.slice A2 Fk.length cc2)) := (hB.mono (by omega)).setCell (p := ⟨vb k, 3, none⟩) hBv _
  generalize w2.setCell ⟨vb k, 3, none⟩ (.slice A2 Fk.length cc2) = w3 at *
  have hw12 := hKv.1
  have hw1s := hB.size
  have hrv : ¬ (w.heap.size = vb k) := by omega
  have r2 : ∀ o, o < 6 → w3.cell? ⟨w.heap.size, o, none⟩ = some (.int .i64 0) := fun o ho => (hKv.cell (p := ⟨w.heap.size, o, none⟩) nr hrv).trans (r1 o ho)
  have rf2 : ∀ o, w3.frozen? ⟨w.heap.size, o, none⟩ = false := fun o => (hKv.frozen (p := ⟨w.heap.size, o, none⟩) nr hrv).trans (rf1 o)
  replace nr := Nat.lt_of_lt_of_le nr hw12
  replace HC := Lib.hid (HC.out.kept hKv (fun h => hcv h.symm) htv)
  have HV2 := Lib.hid hV2
  have hu1 : ∀ g, v1.ownBlock = some g → ¬ g = vb k := fun g h h2 => by have := (hO1lt g h).1; omega
  have hu2 : ∀ g, (Value.slice A2 Fk.length cc2).ownBlock = some g → ¬ g = vb k := fun g h h2 => by have := (hO2lt g h).1; omega
  have HO1 := Lib.hid (hO1.kept hKv hu1)
  have HO2 := Lib.hid (hO2.kept hKv hu2)
  have HKv : Hid (Kept (fun i => i = vb k) w w3) := Lib.hid ((Kept.of_below' hB _).trans hKv)
  clear hV2 hO1 hO2 hKv hu1 hu2 r1 rf1 c4 tpk nc nt v3 vf3 nv HV
  go_wp2_with fail
  refine (CT.out _ v1 HO1.out.read).mono ?_
  rintro e w4 ⟨rfl, hb⟩
  have r3 : ∀ o, o < 6 → w4.cell? ⟨w.heap.size, o, none⟩ = some (.int .i64 0) := fun o ho => cell_next hb nr (r2 o ho)
  have rf3 : ∀ o, w4.frozen? ⟨w.heap.size, o, none⟩ = false := fun o => frozen_next hb nr (rf2 o)
  replace nr := Nat.lt_of_lt_of_le nr hb.size
  have hB4 := hB2.trans (hb.mono (by have := hB2.size; omega))
  replace HC := Lib.hid (HC.out.below hb)
  replace HV2 := Lib.hid (HV2.out.below hb)
  replace HO1 := Lib.hid (HO1.out.below hb)
  replace HO2 := Lib.hid (HO2.out.below hb)
  replace HKv := Lib.hid (HKv.out.trans (Kept.of_below' hb _))
  clear hb r2 rf2 CT hB2
  go_wp2_with fail
  have hbX := (Below.refl w4.heap.size w4).alloc (Nat.le_refl _) (Obj.cells #[.int .i64 sa, .int .i64 ss] 45)
  have S0 : (w4.alloc (Obj.cells #[.int .i64 sa, .int .i64 ss] 45)).cell? ⟨w4.heap.size, 0, none⟩ = some (.int .i64 sa) := by simp [go_sem]
  have S1 : (w4.alloc (Obj.cells #[.int .i64 sa, .int .i64 ss] 45)).cell? ⟨w4.heap.size, 1, none⟩ = some (.int .i64 ss) := by simp [go_sem]
  have nS : w4.heap.size < (w4.alloc (Obj.cells #[.int .i64 sa, .int .i64 ss] 45)).heap.size := by simp
  have hrq : w.heap.size < w4.heap.size := nr
  have r0 := cell_next hbX nr (r3 0 (by omega))
  have r1 := cell_next hbX nr (r3 1 (by omega))
  have r2 := cell_next hbX nr (r3 2 (by omega))
  have r4 := cell_next hbX nr (r3 4 (by omega))
  have r5 := cell_next hbX nr (r3 5 (by omega))
  replace r3 := cell_next hbX nr (r3 3 (by omega))
  have q0 := frozen_next hbX nr (rf3 0)
  have q1 := frozen_next hbX nr (rf3 1)
  have q2 := frozen_next hbX nr (rf3 2)
  have q3 := frozen_next hbX nr (rf3 3)
  have q4 := frozen_next hbX nr (rf3 4)
  have q5 := frozen_next hbX nr (rf3 5)
  replace nr := Nat.lt_of_lt_of_le nr hbX.size
  replace HC := Lib.hid (HC.out.below hbX)
  replace HV2 := Lib.hid (HV2.out.below hbX)
  replace HO1 := Lib.hid (HO1.out.below hbX)
  replace HO2 := Lib.hid (HO2.out.below hbX)
  replace HKv := Lib.hid (HKv.out.trans (Kept.of_below' hbX _))
  replace hB4 := hB4.trans (hbX.mono (by have := hB4.size; omega))
  clear hbX rf3
  generalize w4.alloc (Obj.cells #[.int .i64 sa, .int .i64 ss] 45) = X0 at *
  generalize w4.heap.size = q at *
  have c8 := HC.out.c8
  have c9 := HC.out.c9
  have f8 := HC.out.fr 8
  have f9 := HC.out.fr 9
  have nc := HC.out.nc
  have hBW : B ≤ X0.heap.size := by omega
  refine wp_region_held_drew (S := fun w' => w'.cell? ⟨q, 0, none⟩ = some (.int .i64 sa) ∧ w'.cell? ⟨q, 1, none⟩ = some (.int .i64 ss) ∧ True) (by kernel_rfl) ?_ (fun hHeld => ?_)
  focus (exact ⟨S0, S1, trivial⟩)
  have hL : Below B X0 X0.drew := Below.drew (Below.refl _ _)
  have hQ : Hid (Kept (fun i => i = c) X0 X0.drew) := Lib.hid (Kept.refl _ _)
  replace S0 : X0.drew.cell? ⟨q, 0, none⟩ = some (.int .i64 sa) := S0
  replace S1 : X0.drew.cell? ⟨q, 1, none⟩ = some (.int .i64 ss) := S1
  replace c8 : X0.drew.cell? ⟨c, 8, none⟩ = some (.int .i64 C.d1) := c8
  replace c9 : X0.drew.cell? ⟨c, 9, none⟩ = some (.int .i64 C.d2) := c9
  replace f8 : X0.drew.frozen? ⟨c, 8, none⟩ = false := f8
  replace f9 : X0.drew.frozen? ⟨c, 9, none⟩ = false := f9
  replace r0 : X0.drew.cell? ⟨w.heap.size, 0, none⟩ = some (.int .i64 0) := r0
  replace r1 : X0.drew.cell? ⟨w.heap.size, 1, none⟩ = some (.int .i64 0) := r1
  replace r2 : X0.drew.cell? ⟨w.heap.size, 2, none⟩ = some (.int .i64 0) := r2
  replace r3 : X0.drew.cell? ⟨w.heap.size, 3, none⟩ = some (.int .i64 0) := r3
  replace r4 : X0.drew.cell? ⟨w.heap.size, 4, none⟩ = some (.int .i64 0) := r4
  replace r5 : X0.drew.cell? ⟨w.heap.size, 5, none⟩ = some (.int .i64 0) := r5
  replace q0 : X0.drew.frozen? ⟨w.heap.size, 0, none⟩ = false := q0
  replace q1 : X0.drew.frozen? ⟨w.heap.size, 1, none⟩ = false := q1
  replace q2 : X0.drew.frozen? ⟨w.heap.size, 2, none⟩ = false := q2
  replace q3 : X0.drew.frozen? ⟨w.heap.size, 3, none⟩ = false := q3
  replace q4 : X0.drew.frozen? ⟨w.heap.size, 4, none⟩ = false := q4
  replace q5 : X0.drew.frozen? ⟨w.heap.size, 5, none⟩ = false := q5
  replace nS : q < X0.drew.heap.size := nS
  replace nc : c < X0.drew.heap.size := nc
  replace nr : w.heap.size < X0.drew.heap.size := nr
  replace HC := Lib.hid (HC.out.below (Below.drew (Below.refl _ _)))
  generalize hWd : X0.drew = wd9 at hHeld hL hQ S0 S1 c8 c9 f8 f9 r0 r1 r2 r3 r4 r5 q0 q1 q2 q3 q4 q5 nS nc nr HC ⊢
  clear hWd
  refine take_slot (i := 0) (d := 50) (v := ?_) rfl rfl (by kernel_rfl) (by kernel_rfl) (by kernel_rfl) (fun _ _ _ h => h) (Or.inl ⟨by rfl, ?_⟩) (by assumption) ?_
  rotate_left 1
  focus (intro wS hSw; (try dsimp only at hSw); go_simp; try with_reducible rfl)
  try simp only [List.setIfInBounds_toArray, List.set_cons_zero, List.set_cons_succ]
  refine take_slot (i := 1) (d := 51) (v := ?_) rfl rfl (by kernel_rfl) (by kernel_rfl) (by kernel_rfl) (fun _ _ _ h => h) (Or.inl ⟨by rfl, ?_⟩) (by assumption) ?_
  rotate_left 1
  focus (intro wS hSw; (try dsimp only at hSw); go_simp; try with_reducible rfl)
  try simp only [List.setIfInBounds_toArray, List.set_cons_zero, List.set_cons_succ]
  refine take_slot (i := 2) (d := 52) (v := ?_) rfl rfl (by kernel_rfl) (by kernel_rfl) (by kernel_rfl) (fun _ _ _ h => h) (Or.inl ⟨by rfl, ?_⟩) (by assumption) ?_
  rotate_left 1
  focus (intro wS hSw; (try dsimp only at hSw); go_simp; try with_reducible rfl)
  try simp only [List.setIfInBounds_toArray, List.set_cons_zero, List.set_cons_succ]
  refine take_slot (i := 3) (d := 53) (v := ?_) rfl rfl (by kernel_rfl) (by kernel_rfl) (by kernel_rfl) (fun _ _ _ h => h) (Or.inl ⟨by rfl, ?_⟩) (by assumption) ?_
  rotate_left 1
  focus (intro wS hSw; (try dsimp only at hSw); go_simp; try with_reducible rfl)
  try simp only [List.setIfInBounds_toArray, List.set_cons_zero, List.set_cons_succ]
  refine take_slot (i := 5) (d := 55) (v := ?_) rfl rfl (by kernel_rfl) (by kernel_rfl) (by kernel_rfl) (fun _ _ _ h => h) (Or.inl ⟨by rfl, ?_⟩) (by assumption) ?_
  rotate_left 1
  focus (intro wS hSw; (try dsimp only at hSw); go_simp; try with_reducible rfl)
  try simp only [List.setIfInBounds_toArray, List.set_cons_zero, List.set_cons_succ]
  refine wpAnyH_ready (rs := [4]) (by kernel_rfl) (by simp) ?_
  refine AllReadyH.cons rfl (fun K hK => ?_) AllReadyH.nil
  go_simp
  refine hK.out _ _ ⟨S0, S1, trivial⟩ (fun hHeld => ?_)
  clear hK K
  try simp only [Act.put, List.setIfInBounds_toArray, List.set_cons_zero, List.set_cons_succ]
  refine wpAnyH_ready (rs := [6]) (by kernel_rfl) (by simp) ?_
  refine AllReadyH.cons rfl (fun K hK => ?_) AllReadyH.nil
  go_simp
  have hb := (Below.refl wd9.heap.size wd9).alloc (Nat.le_refl _) (Obj.cells #[.int .i64 C.d1, .int .i64 C.d2, .int .i64 sa, .int .i64 ss] 45)
  have szY2 := hL.size
  have ord2nS := nS
  have ord2nc := nc
  have ord2nr := nr
  replace S0 := cell_next hb nS S0
  replace S1 := cell_next hb nS S1
  replace c8 := cell_next hb nc c8
  replace c9 := cell_next hb nc c9
  replace f8 := frozen_next hb nc f8
  replace f9 := frozen_next hb nc f9
  replace r0 := cell_next hb nr r0
  replace r1 := cell_next hb nr r1
  replace r2 := cell_next hb nr r2
  replace r3 := cell_next hb nr r3
  replace r4 := cell_next hb nr r4
  replace r5 := cell_next hb nr r5
  replace q0 := frozen_next hb nr q0
  replace q1 := frozen_next hb nr q1
  replace q2 := frozen_next hb nr q2
  replace q3 := frozen_next hb nr q3
  replace q4 := frozen_next hb nr q4
  replace q5 := frozen_next hb nr q5
  replace nS := Nat.lt_of_lt_of_le nS hb.size
  replace nc := Nat.lt_of_lt_of_le nc hb.size
  replace nr := Nat.lt_of_lt_of_le nr hb.size
  replace hL := hL.trans (hb.mono (Nat.le_trans hBW hL.size))
  replace hQ := Lib.hid (hQ.out.trans (Kept.of_below' hb _))
  replace HC := Lib.hid (HC.out.below hb)
  have M0 : (wd9.alloc (Obj.cells #[.int .i64 C.d1, .int .i64 C.d2, .int .i64 sa, .int .i64 ss] 45)).cell? ⟨wd9.heap.size, 0, none⟩ = some (.int .i64 C.d1) := cell_new _ _ _ 0
  have M1 : (wd9.alloc (Obj.cells #[.int .i64 C.d1, .int .i64 C.d2, .int .i64 sa, .int .i64 ss] 45)).cell? ⟨wd9.heap.size, 1, none⟩ = some (.int .i64 C.d2) := cell_new _ _ _ 1
  have M2 : (wd9.alloc (Obj.cells #[.int .i64 C.d1, .int .i64 C.d2, .int .i64 sa, .int .i64 ss] 45)).cell? ⟨wd9.heap.size, 2, none⟩ = some (.int .i64 sa) := cell_new _ _ _ 2
  have M3 : (wd9.alloc (Obj.cells #[.int .i64 C.d1, .int .i64 C.d2, .int .i64 sa, .int .i64 ss] 45)).cell? ⟨wd9.heap.size, 3, none⟩ = some (.int .i64 ss) := cell_new _ _ _ 3
  have nM : wd9.heap.size < (wd9.alloc (Obj.cells #[.int .i64 C.d1, .int .i64 C.d2, .int .i64 sa, .int .i64 ss] 45)).heap.size := by simp
  refine hK.out _ _ ⟨S0, S1, trivial⟩ (fun hHeld => ?_)
  clear hK K hb
  generalize wd9.alloc (Obj.cells #[.int .i64 C.d1, .int .i64 C.d2, .int .i64 sa, .int .i64 ss] 45) = Y2 at *
  try simp only [Act.put, List.setIfInBounds_toArray, List.set_cons_zero, List.set_cons_succ]
  refine wpAnyH_ready (rs := [7]) (by kernel_rfl) (by simp) ?_
  refine AllReadyH.cons rfl (fun K hK => ?_) AllReadyH.nil
  go_simp
  refine (CS.out _ _ 2 nM M0 M1 M2 M3).mono ?_
  rintro e Y3 ⟨rfl, hb⟩
  replace S0 := cell_next hb nS S0
  replace S1 := cell_next hb nS S1
  replace c8 := cell_next hb nc c8
  replace c9 := cell_next hb nc c9
  replace f8 := frozen_next hb nc f8
  replace f9 := frozen_next hb nc f9
  replace r0 := cell_next hb nr r0
  replace r1 := cell_next hb nr r1
  replace r2 := cell_next hb nr r2
  replace r3 := cell_next hb nr r3
  replace r4 := cell_next hb nr r4
  replace r5 := cell_next hb nr r5
  replace q0 := frozen_next hb nr q0
  replace q1 := frozen_next hb nr q1
  replace q2 := frozen_next hb nr q2
  replace q3 := frozen_next hb nr q3
  replace q4 := frozen_next hb nr q4
  replace q5 := frozen_next hb nr q5
  replace M0 := cell_next hb nM M0
  replace M1 := cell_next hb nM M1
  replace M2 := cell_next hb nM M2
  replace M3 := cell_next hb nM M3
  replace nS := Nat.lt_of_lt_of_le nS hb.size
  replace nc := Nat.lt_of_lt_of_le nc hb.size
  replace nr := Nat.lt_of_lt_of_le nr hb.size
  replace nM := Nat.lt_of_lt_of_le nM hb.size
  replace hL := hL.trans (hb.mono (Nat.le_trans hBW hL.size))
  replace hQ := Lib.hid (hQ.out.trans (Kept.of_below' hb _))
  replace HC := Lib.hid (HC.out.below hb)
  refine hK.out _ _ ⟨S0, S1, trivial⟩ (fun hHeld => ?_)
  clear hK K hb
  try simp only [Act.put, List.setIfInBounds_toArray, List.set_cons_zero, List.set_cons_succ]
  refine take_slot (i := 8) (d := 58) (v := ?_) rfl rfl (by kernel_rfl) (by kernel_rfl) (by kernel_rfl) (fun _ _ _ h => h) (Or.inl ⟨by rfl, ?_⟩) (by assumption) ?_
  rotate_left 1
  focus (intro wS hSw; (try dsimp only at hSw); go_simp; try with_reducible rfl)
  try simp only [List.setIfInBounds_toArray, List.set_cons_zero, List.set_cons_succ]
  refine take_slot (i := 9) (d := 59) (v := ?_) rfl rfl (by kernel_rfl) (by kernel_rfl) (by kernel_rfl) (fun _ _ _ h => h) (Or.inl ⟨by rfl, ?_⟩) (by assumption) ?_
  rotate_left 1
  focus (intro wS hSw; (try dsimp only at hSw); go_simp; try with_reducible rfl)
  try simp only [List.setIfInBounds_toArray, List.set_cons_zero, List.set_cons_succ]
  refine wpAnyH_ready (rs := [10]) (by kernel_rfl) (by simp) ?_
  refine AllReadyH.cons rfl (fun K hK => ?_) AllReadyH.nil
  go_simp
  have HC9 := Lib.hid (HC.out.drawn htc (C.d1 + sa) (C.d2 + ss))
  replace S0 : ((Y3.setCell ⟨c, 8, none⟩ (.int .i64 (C.d1 + sa))).setCell ⟨c, 9, none⟩ (.int .i64 (C.d2 + ss))).cell? ⟨q, 0, none⟩ = some (.int .i64 sa) := ((World.cell?_setCell_other _ _ _ _ (by intro e; injection e with e1 e2; omega)).trans ((World.cell?_setCell_other _ _ _ _ (by intro e; injection e with e1 e2; omega)).trans S0))
  replace S1 : ((Y3.setCell ⟨c, 8, none⟩ (.int .i64 (C.d1 + sa))).setCell ⟨c, 9, none⟩ (.int .i64 (C.d2 + ss))).cell? ⟨q, 1, none⟩ = some (.int .i64 ss) := ((World.cell?_setCell_other _ _ _ _ (by intro e; injection e with e1 e2; omega)).trans ((World.cell?_setCell_other _ _ _ _ (by intro e; injection e with e1 e2; omega)).trans S1))
  replace c8 : ((Y3.setCell ⟨c, 8, none⟩ (.int .i64 (C.d1 + sa))).setCell ⟨c, 9, none⟩ (.int .i64 (C.d2 + ss))).cell? ⟨c, 8, none⟩ = some (.int .i64 (C.d1 + sa)) := by simp [go_sem, c8]
  replace c9 : ((Y3.setCell ⟨c, 8, none⟩ (.int .i64 (C.d1 + sa))).setCell ⟨c, 9, none⟩ (.int .i64 (C.d2 + ss))).cell? ⟨c, 9, none⟩ = some (.int .i64 (C.d2 + ss)) := by simp [go_sem, c9]
  replace f8 : ((Y3.setCell ⟨c, 8, none⟩ (.int .i64 (C.d1 + sa))).setCell ⟨c, 9, none⟩ (.int .i64 (C.d2 + ss))).frozen? ⟨c, 8, none⟩ = false := by simp [go_sem, f8]
  replace f9 : ((Y3.setCell ⟨c, 8, none⟩ (.int .i64 (C.d1 + sa))).setCell ⟨c, 9, none⟩ (.int .i64 (C.d2 + ss))).frozen? ⟨c, 9, none⟩ = false := by simp [go_sem, f9]
  replace r0 : ((Y3.setCell ⟨c, 8, none⟩ (.int .i64 (C.d1 + sa))).setCell ⟨c, 9, none⟩ (.int .i64 (C.d2 + ss))).cell? ⟨w.heap.size, 0, none⟩ = some (.int .i64 0) := ((World.cell?_setCell_other _ _ _ _ (by intro e; injection e with e1 e2; omega)).trans ((World.cell?_setCell_other _ _ _ _ (by intro e; injection e with e1 e2; omega)).trans r0))
  replace r1 : ((Y3.setCell ⟨c, 8, none⟩ (.int .i64 (C.d1 + sa))).setCell ⟨c, 9, none⟩ (.int .i64 (C.d2 + ss))).cell? ⟨w.heap.size, 1, none⟩ = some (.int .i64 0) := ((World.cell?_setCell_other _ _ _ _ (by intro e; injection e with e1 e2; omega)).trans ((World.cell?_setCell_other _ _ _ _ (by intro e; injection e with e1 e2; omega)).trans r1))
  replace r2 : ((Y3.setCell ⟨c, 8, none⟩ (.int .i64 (C.d1 + sa))).setCell ⟨c, 9, none⟩ (.int .i64 (C.d2 + ss))).cell? ⟨w.heap.size, 2, none⟩ = some (.int .i64 0) := ((World.cell?_setCell_other _ _ _ _ (by intro e; injection e with e1 e2; omega)).trans ((World.cell?_setCell_other _ _ _ _ (by intro e; injection e with e1 e2; omega)).trans r2))
  replace r3 : ((Y3.setCell ⟨c, 8, none⟩ (.int .i64 (C.d1 + sa))).setCell ⟨c, 9, none⟩ (.int .i64 (C.d2 + ss))).cell? ⟨w.heap.size, 3, none⟩ = some (.int .i64 0) := ((World.cell?_setCell_other _ _ _ _ (by intro e; injection e with e1 e2; omega)).trans ((World.cell?_setCell_other _ _ _ _ (by intro e; injection e with e1 e2; omega)).trans r3))
  replace r4 : ((Y3.setCell ⟨c, 8, none⟩ (.int .i64 (C.d1 + sa))).setCell ⟨c, 9, none⟩ (.int .i64 (C.d2 + ss))).cell? ⟨w.heap.size, 4, none⟩ = some (.int .i64 0) := ((World.cell?_setCell_other _ _ _ _ (by intro e; injection e with e1 e2; omega)).trans ((World.cell?_setCell_other _ _ _ _ (by intro e; injection e with e1 e2; omega)).trans r4))
  replace r5 : ((Y3.setCell ⟨c, 8, none⟩ (.int .i64 (C.d1 + sa))).setCell ⟨c, 9, none⟩ (.int .i64 (C.d2 + ss))).cell? ⟨w.heap.size, 5, none⟩ = some (.int .i64 0) := ((World.cell?_setCell_other _ _ _ _ (by intro e; injection e with e1 e2; omega)).trans ((World.cell?_setCell_other _ _ _ _ (by intro e; injection e with e1 e2; omega)).trans r5))
  replace q0 : ((Y3.setCell ⟨c, 8, none⟩ (.int .i64 (C.d1 + sa))).setCell ⟨c, 9, none⟩ (.int .i64 (C.d2 + ss))).frozen? ⟨w.heap.size, 0, none⟩ = false := by simp [go_sem, q0]
  replace q1 : ((Y3.setCell ⟨c, 8, none⟩ (.int .i64 (C.d1 + sa))).setCell ⟨c, 9, none⟩ (.int .i64 (C.d2 + ss))).frozen? ⟨w.heap.size, 1, none⟩ = false := by simp [go_sem, q1]
  replace q2 : ((Y3.setCell ⟨c, 8, none⟩ (.int .i64 (C.d1 + sa))).setCell ⟨c, 9, none⟩ (.int .i64 (C.d2 + ss))).frozen? ⟨w.heap.size, 2, none⟩ = false := by simp [go_sem, q2]
  replace q3 : ((Y3.setCell ⟨c, 8, none⟩ (.int .i64 (C.d1 + sa))).setCell ⟨c, 9, none⟩ (.int .i64 (C.d2 + ss))).frozen? ⟨w.heap.size, 3, none⟩ = false := by simp [go_sem, q3]
  replace q4 : ((Y3.setCell ⟨c, 8, none⟩ (.int .i64 (C.d1 + sa))).setCell ⟨c, 9, none⟩ (.int .i64 (C.d2 + ss))).frozen? ⟨w.heap.size, 4, none⟩ = false := by simp [go_sem, q4]
  replace q5 : ((Y3.setCell ⟨c, 8, none⟩ (.int .i64 (C.d1 + sa))).setCell ⟨c, 9, none⟩ (.int .i64 (C.d2 + ss))).frozen? ⟨w.heap.size, 5, none⟩ = false := by simp [go_sem, q5]
  replace M0 : ((Y3.setCell ⟨c, 8, none⟩ (.int .i64 (C.d1 + sa))).setCell ⟨c, 9, none⟩ (.int .i64 (C.d2 + ss))).cell? ⟨wd9.heap.size, 0, none⟩ = some (.int .i64 C.d1) := ((World.cell?_setCell_other _ _ _ _ (by intro e; injection e with e1 e2; omega)).trans ((World.cell?_setCell_other _ _ _ _ (by intro e; injection e with e1 e2; omega)).trans M0))
  replace M1 : ((Y3.setCell ⟨c, 8, none⟩ (.int .i64 (C.d1 + sa))).setCell ⟨c, 9, none⟩ (.int .i64 (C.d2 + ss))).cell? ⟨wd9.heap.size, 1, none⟩ = some (.int .i64 C.d2) := ((World.cell?_setCell_other _ _ _ _ (by intro e; injection e with e1 e2; omega)).trans ((World.cell?_setCell_other _ _ _ _ (by intro e; injection e with e1 e2; omega)).trans M1))
  replace M2 : ((Y3.setCell ⟨c, 8, none⟩ (.int .i64 (C.d1 + sa))).setCell ⟨c, 9, none⟩ (.int .i64 (C.d2 + ss))).cell? ⟨wd9.heap.size, 2, none⟩ = some (.int .i64 sa) := ((World.cell?_setCell_other _ _ _ _ (by intro e; injection e with e1 e2; omega)).trans ((World.cell?_setCell_other _ _ _ _ (by intro e; injection e with e1 e2; omega)).trans M2))
  replace M3 : ((Y3.setCell ⟨c, 8, none⟩ (.int .i64 (C.d1 + sa))).setCell ⟨c, 9, none⟩ (.int .i64 (C.d2 + ss))).cell? ⟨wd9.heap.size, 3, none⟩ = some (.int .i64 ss) := ((World.cell?_setCell_other _ _ _ _ (by intro e; injection e with e1 e2; omega)).trans ((World.cell?_setCell_other _ _ _ _ (by intro e; injection e with e1 e2; omega)).trans M3))
  replace nS : q < ((Y3.setCell ⟨c, 8, none⟩ (.int .i64 (C.d1 + sa))).setCell ⟨c, 9, none⟩ (.int .i64 (C.d2 + ss))).heap.size := by simpa [World.setCell] using nS
  replace nc : c < ((Y3.setCell ⟨c, 8, none⟩ (.int .i64 (C.d1 + sa))).setCell ⟨c, 9, none⟩ (.int .i64 (C.d2 + ss))).heap.size := by simpa [World.setCell] using nc
  replace nr : w.heap.size < ((Y3.setCell ⟨c, 8, none⟩ (.int .i64 (C.d1 + sa))).setCell ⟨c, 9, none⟩ (.int .i64 (C.d2 + ss))).heap.size := by simpa [World.setCell] using nr
  replace nM : wd9.heap.size < ((Y3.setCell ⟨c, 8, none⟩ (.int .i64 (C.d1 + sa))).setCell ⟨c, 9, none⟩ (.int .i64 (C.d2 + ss))).heap.size := by simpa [World.setCell] using nM
  replace hL := hL.setCell (p := ⟨c, 8, none⟩) (by show B ≤ c; omega) (.int .i64 (C.d1 + sa))
  replace hL := hL.setCell (p := ⟨c, 9, none⟩) (by show B ≤ c; omega) (.int .i64 (C.d2 + ss))
  replace hQ := Lib.hid (hQ.out.trans (Kept.set (U := (fun i => i = c)) _ (p := ⟨c, 8, none⟩) (rfl) (.int .i64 (C.d1 + sa))))
  replace hQ := Lib.hid (hQ.out.trans (Kept.set (U := (fun i => i = c)) _ (p := ⟨c, 9, none⟩) (rfl) (.int .i64 (C.d2 + ss))))
  refine hK.out _ _ ⟨S0, S1, trivial⟩ (fun hHeld => ?_)
  clear hK K
  generalize ((Y3.setCell ⟨c, 8, none⟩ (.int .i64 (C.d1 + sa))).setCell ⟨c, 9, none⟩ (.int .i64 (C.d2 + ss))) = Y4 at *
  try simp only [Act.put, List.setIfInBounds_toArray, List.set_cons_zero, List.set_cons_succ]
  refine wpAnyH_done (by kernel_rfl) ?_ _
  have hKc := hQ.out
  have hcr : ¬ (w.heap.size = c) := by omega
  have hB9 := hB4.trans hL
  have HV9 := Lib.hid (HV2.out.kept hKc hcv)
  have hu1 : ∀ g, v1.ownBlock = some g → ¬ g = c := fun g h h2 => by have := (hO1lt g h).1; omega
  have hu2 : ∀ g, (Value.slice A2 Fk.length cc2).ownBlock = some g → ¬ g = c := fun g h h2 => by have := (hO2lt g h).1; omega
  replace HO1 := Lib.hid (HO1.out.kept hKc hu1)
  replace HO2 := Lib.hid (HO2.out.kept hKc hu2)
  replace HKv := Lib.hid ((HKv.out.mono (V := fun i => i = c ∨ i = vb k) fun i h => .inr h).trans (hKc.mono fun i h => .inl h))
  clear c8 c9 f8 f9 nc hKc hQ hL hu1 hu2 HC HV2 hB4 M0 M1 M2 M3 nM hHeld hBW
  have hBW : B ≤ Y4.heap.size := by have := hB9.size; omega
  go_upto_region 10 with fail
  refine wp_region_held_drew (S := fun w' => w'.cell? ⟨q, 0, none⟩ = some (.int .i64 sa) ∧ w'.cell? ⟨q, 1, none⟩ = some (.int .i64 ss) ∧ True) (by kernel_rfl) ?_ (fun hHeld => ?_)
  focus (exact ⟨S0, S1, trivial⟩)
  have hL : Below B Y4 Y4.drew := Below.drew (Below.refl _ _)
  have hQ : Hid (Kept (fun i => i = w.heap.size) Y4 Y4.drew) := Lib.hid (Kept.refl _ _)
  replace S0 : Y4.drew.cell? ⟨q, 0, none⟩ = some (.int .i64 sa) := S0
  replace S1 : Y4.drew.cell? ⟨q, 1, none⟩ = some (.int .i64 ss) := S1
  replace r0 : Y4.drew.cell? ⟨w.heap.size, 0, none⟩ = some (.int .i64 0) := r0
  replace r1 : Y4.drew.cell? ⟨w.heap.size, 1, none⟩ = some (.int .i64 0) := r1
  replace r2 : Y4.drew.cell? ⟨w.heap.size, 2, none⟩ = some (.int .i64 0) := r2
  replace r3 : Y4.drew.cell? ⟨w.heap.size, 3, none⟩ = some (.int .i64 0) := r3
  replace r4 : Y4.drew.cell? ⟨w.heap.size, 4, none⟩ = some (.int .i64 0) := r4
  replace r5 : Y4.drew.cell? ⟨w.heap.size, 5, none⟩ = some (.int .i64 0) := r5
  replace q0 : Y4.drew.frozen? ⟨w.heap.size, 0, none⟩ = false := q0
  replace q1 : Y4.drew.frozen? ⟨w.heap.size, 1, none⟩ = false := q1
  replace q2 : Y4.drew.frozen? ⟨w.heap.size, 2, none⟩ = false := q2
  replace q3 : Y4.drew.frozen? ⟨w.heap.size, 3, none⟩ = false := q3
  replace q4 : Y4.drew.frozen? ⟨w.heap.size, 4, none⟩ = false := q4
  replace q5 : Y4.drew.frozen? ⟨w.heap.size, 5, none⟩ = false := q5
  replace nS : q < Y4.drew.heap.size := nS
  replace nr : w.heap.size < Y4.drew.heap.size := nr
  replace HC9 := Lib.hid (HC9.out.below (Below.drew (Below.refl _ _)))
  replace HO1 := Lib.hid (HO1.out.below (Below.drew (Below.refl _ _)))
  generalize hWd : Y4.drew = wd10 at hHeld hL hQ S0 S1 r0 r1 r2 r3 r4 r5 q0 q1 q2 q3 q4 q5 nS nr HC9 HO1 ⊢
  clear hWd
  refine take_slot (i := 0) (d := 60) (v := ?_) rfl rfl (by kernel_rfl) (by kernel_rfl) (by kernel_rfl) (fun _ _ _ h => h) (Or.inl ⟨by rfl, ?_⟩) (by assumption) ?_
  rotate_left 1
  focus (intro wS hSw; (try dsimp only at hSw); go_simp; try with_reducible rfl)
  try simp only [List.setIfInBounds_toArray, List.set_cons_zero, List.set_cons_succ]
  refine take_slot (i := 1) (d := 61) (v := ?_) rfl rfl (by kernel_rfl) (by kernel_rfl) (by kernel_rfl) (fun _ _ _ h => h) (Or.inl ⟨by rfl, ?_⟩) (by assumption) ?_
  rotate_left 1
  focus (intro wS hSw; (try dsimp only at hSw); go_simp; try with_reducible rfl)
  try simp only [List.setIfInBounds_toArray, List.set_cons_zero, List.set_cons_succ]
  refine take_slot (i := 3) (d := 63) (v := ?_) rfl rfl (by kernel_rfl) (by kernel_rfl) (by kernel_rfl) (fun _ _ _ h => h) (Or.inl ⟨by rfl, ?_⟩) (by assumption) ?_
  rotate_left 1
  focus (intro wS hSw; (try dsimp only at hSw); go_simp; try with_reducible rfl)
  try simp only [List.setIfInBounds_toArray, List.set_cons_zero, List.set_cons_succ]
  refine take_slot (i := 4) (d := 64) (v := ?_) rfl rfl (by kernel_rfl) (by kernel_rfl) (by kernel_rfl) (fun _ _ _ h => h) (Or.inl ⟨by rfl, ?_⟩) (by assumption) ?_
  rotate_left 1
  focus (intro wS hSw; (try dsimp only at hSw); go_simp; try with_reducible rfl)
  try simp only [List.setIfInBounds_toArray, List.set_cons_zero, List.set_cons_succ]
  refine take_slot (i := 5) (d := 65) (v := ?_) rfl rfl (by kernel_rfl) (by kernel_rfl) (by kernel_rfl) (fun _ _ _ h => h) (Or.inl ⟨by rfl, ?_⟩) (by assumption) ?_
  rotate_left 1
  focus (intro wS hSw; (try dsimp only at hSw); go_simp; try with_reducible rfl)
  try simp only [List.setIfInBounds_toArray, List.set_cons_zero, List.set_cons_succ]
  refine wpAnyH_ready (rs := [2]) (by kernel_rfl) (by simp) ?_
  refine AllReadyH.cons rfl (fun K hK => ?_) AllReadyH.nil
  go_simp
  refine (CG.out _ v1 HO1.out.read).mono ?_
  rintro e V1 ⟨rfl, hb⟩
  replace S0 := cell_next hb nS S0
  replace S1 := cell_next hb nS S1
  replace r0 := cell_next hb nr r0
  replace r1 := cell_next hb nr r1
  replace r2 := cell_next hb nr r2
  replace r3 := cell_next hb nr r3
  replace r4 := cell_next hb nr r4
  replace r5 := cell_next hb nr r5
  replace q0 := frozen_next hb nr q0
  replace q1 := frozen_next hb nr q1
  replace q2 := frozen_next hb nr q2
  replace q3 := frozen_next hb nr q3
  replace q4 := frozen_next hb nr q4
  replace q5 := frozen_next hb nr q5
  replace nS := Nat.lt_of_lt_of_le nS hb.size
  replace nr := Nat.lt_of_lt_of_le nr hb.size
  replace hL := hL.trans (hb.mono (Nat.le_trans hBW hL.size))
  replace hQ := Lib.hid (hQ.out.trans (Kept.of_below' hb _))
  replace HC9 := Lib.hid (HC9.out.below hb)
  replace HO1 := Lib.hid (HO1.out.below hb)
  refine hK.out _ _ ⟨S0, S1, trivial⟩ (fun hHeld => ?_)
  clear hK K hb
  try simp only [Act.put, List.setIfInBounds_toArray, List.set_cons_zero, List.set_cons_succ]
  refine wpAnyH_ready (rs := [6]) (by kernel_rfl) (by simp) ?_
  refine AllReadyH.cons rfl (fun K hK => ?_) AllReadyH.nil
  go_simp
  refine (CA.out _ v1 HO1.out.read HC9.out.nc HC9.out.c5).mono ?_
  rintro e V2 ⟨rfl, hb⟩
  replace S0 := cell_next hb nS S0
  replace S1 := cell_next hb nS S1
  replace r0 := cell_next hb nr r0
  replace r1 := cell_next hb nr r1
  replace r2 := cell_next hb nr r2
  replace r3 := cell_next hb nr r3
  replace r4 := cell_next hb nr r4
  replace r5 := cell_next hb nr r5
  replace q0 := frozen_next hb nr q0
  replace q1 := frozen_next hb nr q1
  replace q2 := frozen_next hb nr q2
  replace q3 := frozen_next hb nr q3
  replace q4 := frozen_next hb nr q4
  replace q5 := frozen_next hb nr q5
  replace nS := Nat.lt_of_lt_of_le nS hb.size
  replace nr := Nat.lt_of_lt_of_le nr hb.size
  replace hL := hL.trans (hb.mono (Nat.le_trans hBW hL.size))
  replace hQ := Lib.hid (hQ.out.trans (Kept.of_below' hb _))
  replace HC9 := Lib.hid (HC9.out.below hb)
  replace HO1 := Lib.hid (HO1.out.below hb)
  refine hK.out _ _ ⟨S0, S1, trivial⟩ (fun hHeld => ?_)
  clear hK K hb
  try simp only [Act.put, List.setIfInBounds_toArray, List.set_cons_zero, List.set_cons_succ]
  refine take_slot (i := 7) (d := 67) (v := ?_) rfl rfl (by kernel_rfl) (by kernel_rfl) (by kernel_rfl) (fun _ _ _ h => h) (Or.inl ⟨by rfl, ?_⟩) (by assumption) ?_
  rotate_left 1
  focus (intro wS hSw; (try dsimp only at hSw); go_simp; try with_reducible rfl)
  try simp only [List.setIfInBounds_toArray, List.set_cons_zero, List.set_cons_succ]
  refine wpAnyH_ready (rs := [8]) (by kernel_rfl) (by simp) ?_
  refine AllReadyH.cons rfl (fun K hK => ?_) AllReadyH.nil
  go_simp
  have HC10p := HC9.out
  have HC10 := Lib.hid (HC10p.kept (((((((Kept.refl (fun i => i = w.heap.size) _).trans (Kept.set (U := fun i => i = w.heap.size) _ (p := ⟨w.heap.size, 0, none⟩) rfl (.int .i64 sa))).trans (Kept.set (U := fun i => i = w.heap.size) _ (p := ⟨w.heap.size, 1, none⟩) rfl (.int .i64 ss))).trans (Kept.set (U := fun i => i = w.heap.size) _ (p := ⟨w.heap.size, 2, none⟩) rfl (.int .i64 g1))).trans (Kept.set (U := fun i => i = w.heap.size) _ (p := ⟨w.heap.size, 3, none⟩) rfl (.int .i64 g2))).trans (Kept.set (U := fun i => i = w.heap.size) _ (p := ⟨w.heap.size, 4, none⟩) rfl (.int .i64 a1))).trans (Kept.set (U := fun i => i = w.heap.size) _ (p := ⟨w.heap.size, 5, none⟩) rfl (.int .i64 a2))) (by omega) (by omega))
  replace S0 : ((((((V2.setCell ⟨w.heap.size, 0, none⟩ (.int .i64 sa)).setCell ⟨w.heap.size, 1, none⟩ (.int .i64 ss)).setCell ⟨w.heap.size, 2, none⟩ (.int .i64 g1)).setCell ⟨w.heap.size, 3, none⟩ (.int .i64 g2)).setCell ⟨w.heap.size, 4, none⟩ (.int .i64 a1)).setCell ⟨w.heap.size, 5, none⟩ (.int .i64 a2)).cell? ⟨q, 0, none⟩ = some (.int .i64 sa) := ((World.cell?_setCell_other _ _ _ _ (by intro e; injection e with e1 e2; omega)).trans ((World.cell?_setCell_other _ _ _ _ (by intro e; injection e with e1 e2; omega)).trans ((World.cell?_setCell_other _ _ _ _ (by intro e; injection e with e1 e2; omega)).trans ((World.cell?_setCell_other _ _ _ _ (by intro e; injection e with e1 e2; omega)).trans ((World.cell?_setCell_other _ _ _ _ (by intro e; injection e with e1 e2; omega)).trans ((World.cell?_setCell_other _ _ _ _ (by intro e; injection e with e1 e2; omega)).trans S0))))))
  replace S1 : ((((((V2.setCell ⟨w.heap.size, 0, none⟩ (.int .i64 sa)).setCell ⟨w.heap.size, 1, none⟩ (.int .i64 ss)).setCell ⟨w.heap.size, 2, none⟩ (.int .i64 g1)).setCell ⟨w.heap.size, 3, none⟩ (.int .i64 g2)).setCell ⟨w.heap.size, 4, none⟩ (.int .i64 a1)).setCell ⟨w.heap.size, 5, none⟩ (.int .i64 a2)).cell? ⟨q, 1, none⟩ = some (.int .i64 ss) := ((World.cell?_setCell_other _ _ _ _ (by intro e; injection e with e1 e2; omega)).trans ((World.cell?_setCell_other _ _ _ _ (by intro e; injection e with e1 e2; omega)).trans ((World.cell?_setCell_other _ _ _ _ (by intro e; injection e with e1 e2; omega)).trans ((World.cell?_setCell_other _ _ _ _ (by intro e; injection e with e1 e2; omega)).trans ((World.cell?_setCell_other _ _ _ _ (by intro e; injection e with e1 e2; omega)).trans ((World.cell?_setCell_other _ _ _ _ (by intro e; injection e with e1 e2; omega)).trans S1))))))
  replace r0 : ((((((V2.setCell ⟨w.heap.size, 0, none⟩ (.int .i64 sa)).setCell ⟨w.heap.size, 1, none⟩ (.int .i64 ss)).setCell ⟨w.heap.size, 2, none⟩ (.int .i64 g1)).setCell ⟨w.heap.size, 3, none⟩ (.int .i64 g2)).setCell ⟨w.heap.size, 4, none⟩ (.int .i64 a1)).setCell ⟨w.heap.size, 5, none⟩ (.int .i64 a2)).cell? ⟨w.heap.size, 0, none⟩ = some (.int .i64 sa) := by simp [go_sem, r0]
  replace r1 : ((((((V2.setCell ⟨w.heap.size, 0, none⟩ (.int .i64 sa)).setCell ⟨w.heap.size, 1, none⟩ (.int .i64 ss)).setCell ⟨w.heap.size, 2, none⟩ (.int .i64 g1)).setCell ⟨w.heap.size, 3, none⟩ (.int .i64 g2)).setCell ⟨w.heap.size, 4, none⟩ (.int .i64 a1)).setCell ⟨w.heap.size, 5, none⟩ (.int .i64 a2)).cell? ⟨w.heap.size, 1, none⟩ = some (.int .i64 ss) := by simp [go_sem, r1]
  replace r2 : ((((((V2.setCell ⟨w.heap.size, 0, none⟩ (.int .i64 sa)).setCell ⟨w.heap.size, 1, none⟩ (.int .i64 ss)).setCell ⟨w.heap.size, 2, none⟩ (.int .i64 g1)).setCell ⟨w.heap.size, 3, none⟩ (.int .i64 g2)).setCell ⟨w.heap.size, 4, none⟩ (.int .i64 a1)).setCell ⟨w.heap.size, 5, none⟩ (.int .i64 a2)).cell? ⟨w.heap.size, 2, none⟩ = some (.int .i64 g1) := by simp [go_sem, r2]
  replace r3 : ((((((V2.setCell ⟨w.heap.size, 0, none⟩ (.int .i64 sa)).setCell ⟨w.heap.size, 1, none⟩ (.int .i64 ss)).setCell ⟨w.heap.size, 2, none⟩ (.int .i64 g1)).setCell ⟨w.heap.size, 3, none⟩ (.int .i64 g2)).setCell ⟨w.heap.size, 4, none⟩ (.int .i64 a1)).setCell ⟨w.heap.size, 5, none⟩ (.int .i64 a2)).cell? ⟨w.heap.size, 3, none⟩ = some (.int .i64 g2) := by simp [go_sem, r3]
  replace r4 : ((((((V2.setCell ⟨w.heap.size, 0, none⟩ (.int .i64 sa)).setCell ⟨w.heap.size, 1, none⟩ (.int .i64 ss)).setCell ⟨w.heap.size, 2, none⟩ (.int .i64 g1)).setCell ⟨w.heap.size, 3, none⟩ (.int .i64 g2)).setCell ⟨w.heap.size, 4, none⟩ (.int .i64 a1)).setCell ⟨w.heap.size, 5, none⟩ (.int .i64 a2)).cell? ⟨w.heap.size, 4, none⟩ = some (.int .i64 a1) := by simp [go_sem, r4]
  replace r5 : ((((((V2.setCell ⟨w.heap.size, 0, none⟩ (.int .i64 sa)).setCell ⟨w.heap.size, 1, none⟩ (.int .i64 ss)).setCell ⟨w.heap.size, 2, none⟩ (.int .i64 g1)).setCell ⟨w.heap.size, 3, none⟩ (.int .i64 g2)).setCell ⟨w.heap.size, 4, none⟩ (.int .i64 a1)).setCell ⟨w.heap.size, 5, none⟩ (.int .i64 a2)).cell? ⟨w.heap.size, 5, none⟩ = some (.int .i64 a2) := by simp [go_sem, r5]
  replace q0 : ((((((V2.setCell ⟨w.heap.size, 0, none⟩ (.int .i64 sa)).setCell ⟨w.heap.size, 1, none⟩ (.int .i64 ss)).setCell ⟨w.heap.size, 2, none⟩ (.int .i64 g1)).setCell ⟨w.heap.size, 3, none⟩ (.int .i64 g2)).setCell ⟨w.heap.size, 4, none⟩ (.int .i64 a1)).setCell ⟨w.heap.size, 5, none⟩ (.int .i64 a2)).frozen? ⟨w.heap.size, 0, none⟩ = false := by simp [go_sem, q0]
  replace q1 : ((((((V2.setCell ⟨w.heap.size, 0, none⟩ (.int .i64 sa)).setCell ⟨w.heap.size, 1, none⟩ (.int .i64 ss)).setCell ⟨w.heap.size, 2, none⟩ (.int .i64 g1)).setCell ⟨w.heap.size, 3, none⟩ (.int .i64 g2)).setCell ⟨w.heap.size, 4, none⟩ (.int .i64 a1)).setCell ⟨w.heap.size, 5, none⟩ (.int .i64 a2)).frozen? ⟨w.heap.size, 1, none⟩ = false := by simp [go_sem, q1]
  replace q2 : ((((((V2.setCell ⟨w.heap.size, 0, none⟩ (.int .i64 sa)).setCell ⟨w.heap.size, 1, none⟩ (.int .i64 ss)).setCell ⟨w.heap.size, 2, none⟩ (.int .i64 g1)).setCell ⟨w.heap.size, 3, none⟩ (.int .i64 g2)).setCell ⟨w.heap.size, 4, none⟩ (.int .i64 a1)).setCell ⟨w.heap.size, 5, none⟩ (.int .i64 a2)).frozen? ⟨w.heap.size, 2, none⟩ = false := by simp [go_sem, q2]
  replace q3 : ((((((V2.setCell ⟨w.heap.size, 0, none⟩ (.int .i64 sa)).setCell ⟨w.heap.size, 1, none⟩ (.int .i64 ss)).setCell ⟨w.heap.size, 2, none⟩ (.int .i64 g1)).setCell ⟨w.heap.size, 3, none⟩ (.int .i64 g2)).setCell ⟨w.heap.size, 4, none⟩ (.int .i64 a1)).setCell ⟨w.heap.size, 5, none⟩ (.int .i64 a2)).frozen? ⟨w.heap.size, 3, none⟩ = false := by simp [go_sem, q3]
  replace q4 : ((((((V2.setCell ⟨w.heap.size, 0, none⟩ (.int .i64 sa)).setCell ⟨w.heap.size, 1, none⟩ (.int .i64 ss)).setCell ⟨w.heap.size, 2, none⟩ (.int .i64 g1)).setCell ⟨w.heap.size, 3, none⟩ (.int .i64 g2)).setCell ⟨w.heap.size, 4, none⟩ (.int .i64 a1)).setCell ⟨w.heap.size, 5, none⟩ (.int .i64 a2)).frozen? ⟨w.heap.size, 4, none⟩ = false := by simp [go_sem, q4]
  replace q5 : ((((((V2.setCell ⟨w.heap.size, 0, none⟩ (.int .i64 sa)).setCell ⟨w.heap.size, 1, none⟩ (.int .i64 ss)).setCell ⟨w.heap.size, 2, none⟩ (.int .i64 g1)).setCell ⟨w.heap.size, 3, none⟩ (.int .i64 g2)).setCell ⟨w.heap.size, 4, none⟩ (.int .i64 a1)).setCell ⟨w.heap.size, 5, none⟩ (.int .i64 a2)).frozen? ⟨w.heap.size, 5, none⟩ = false := by simp [go_sem, q5]
  replace nS : q < ((((((V2.setCell ⟨w.heap.size, 0, none⟩ (.int .i64 sa)).setCell ⟨w.heap.size, 1, none⟩ (.int .i64 ss)).setCell ⟨w.heap.size, 2, none⟩ (.int .i64 g1)).setCell ⟨w.heap.size, 3, none⟩ (.int .i64 g2)).setCell ⟨w.heap.size, 4, none⟩ (.int .i64 a1)).setCell ⟨w.heap.size, 5, none⟩ (.int .i64 a2)).heap.size := by simpa [World.setCell] using nS
  replace nr : w.heap.size < ((((((V2.setCell ⟨w.heap.size, 0, none⟩ (.int .i64 sa)).setCell ⟨w.heap.size, 1, none⟩ (.int .i64 ss)).setCell ⟨w.heap.size, 2, none⟩ (.int .i64 g1)).setCell ⟨w.heap.size, 3, none⟩ (.int .i64 g2)).setCell ⟨w.heap.size, 4, none⟩ (.int .i64 a1)).setCell ⟨w.heap.size, 5, none⟩ (.int .i64 a2)).heap.size := by simpa [World.setCell] using nr
  replace hL := hL.setCell (p := ⟨w.heap.size, 0, none⟩) (by show B ≤ w.heap.size; omega) (.int .i64 sa)
  replace hL := hL.setCell (p := ⟨w.heap.size, 1, none⟩) (by show B ≤ w.heap.size; omega) (.int .i64 ss)
  replace hL := hL.setCell (p := ⟨w.heap.size, 2, none⟩) (by show B ≤ w.heap.size; omega) (.int .i64 g1)
  replace hL := hL.setCell (p := ⟨w.heap.size, 3, none⟩) (by show B ≤ w.heap.size; omega) (.int .i64 g2)
  replace hL := hL.setCell (p := ⟨w.heap.size, 4, none⟩) (by show B ≤ w.heap.size; omega) (.int .i64 a1)
  replace hL := hL.setCell (p := ⟨w.heap.size, 5, none⟩) (by show B ≤ w.heap.size; omega) (.int .i64 a2)
  replace hQ := Lib.hid (hQ.out.trans (Kept.set (U := (fun i => i = w.heap.size)) _ (p := ⟨w.heap.size, 0, none⟩) (rfl) (.int .i64 sa)))
  replace hQ := Lib.hid (hQ.out.trans (Kept.set (U := (fun i => i = w.heap.size)) _ (p := ⟨w.heap.size, 1, none⟩) (rfl) (.int .i64 ss)))
  replace hQ := Lib.hid (hQ.out.trans (Kept.set (U := (fun i => i = w.heap.size)) _ (p := ⟨w.heap.size, 2, none⟩) (rfl) (.int .i64 g1)))
  replace hQ := Lib.hid (hQ.out.trans (Kept.set (U := (fun i => i = w.heap.size)) _ (p := ⟨w.heap.size, 3, none⟩) (rfl) (.int .i64 g2)))
  replace hQ := Lib.hid (hQ.out.trans (Kept.set (U := (fun i => i = w.heap.size)) _ (p := ⟨w.heap.size, 4, none⟩) (rfl) (.int .i64 a1)))
  replace hQ := Lib.hid (hQ.out.trans (Kept.set (U := (fun i => i = w.heap.size)) _ (p := ⟨w.heap.size, 5, none⟩) (rfl) (.int .i64 a2)))
  refine hK.out _ _ ⟨S0, S1, trivial⟩ (fun hHeld => ?_)
  clear hK K
  generalize ((((((V2.setCell ⟨w.heap.size, 0, none⟩ (.int .i64 sa)).setCell ⟨w.heap.size, 1, none⟩ (.int .i64 ss)).setCell ⟨w.heap.size, 2, none⟩ (.int .i64 g1)).setCell ⟨w.heap.size, 3, none⟩ (.int .i64 g2)).setCell ⟨w.heap.size, 4, none⟩ (.int .i64 a1)).setCell ⟨w.heap.size, 5, none⟩ (.int .i64 a2)) = V3 at *
  try simp only [Act.put, List.setIfInBounds_toArray, List.set_cons_zero, List.set_cons_succ]
  refine take_slot (i := 9) (d := 7) (v := ?_) rfl rfl (by kernel_rfl) (by kernel_rfl) (by kernel_rfl) (fun _ _ _ h => h) (Or.inl ⟨by rfl, ?_⟩) (by assumption) ?_
  rotate_left 1
  focus (intro wS hSw; (try dsimp only at hSw); go_simp; try with_reducible rfl)
  try simp only [List.setIfInBounds_toArray, List.set_cons_zero, List.set_cons_succ]
  refine wpAnyH_done (by kernel_rfl) ?_ _
  have hKr := hQ.out
  have hur : ∀ g, (Value.slice A2 Fk.length cc2).ownBlock = some g → ¬ g = w.heap.size := fun g h h2 => by have := (hO2lt g h).1; omega
  have hvr : ¬ (vb k = w.heap.size) := by omega
  go_wp2_with fail
  refine bodyPost_ret (v := .tuple #[.agg #[.int .i64 sa, .int .i64 ss, .int .i64 g1, .int .i64 g2, .int .i64 a1, .int .i64 a2], .int .i64 0]) (by simp [results, Try.results20, go_sem, r0, r1, r2, r3, r4, r5]) rfl ⟨rfl, .slice A2 Fk.length cc2, ?_, HV9.out.kept hKr hvr, (HO2.out.kept hKr hur).mono (by omega), fun g h => by have := (hO2lt g h).1; omega, hB9.trans hL, HKv.out.trans_new hKr (fun i h => .inr (by omega))⟩
  exact HC10.out
end Go.Proofs.Ytfdaiififoomoaa
