/- Contracts: U14, joined. -/
import Derived.Test.YtfdaiififoomoaaJB11
import Derived.Test.YtfdaiififoomoaaJB4
import Derived.Test.YtfdaiififoomoaaJB8
namespace Go.Proofs.Ytfdaiififoomoaa
open Go.RowKit Go.Lib Go.Shelf
set_option linter.unusedVariables false
set_option linter.unusedSimpArgs false
attribute [local go_sem ↓] Go.wp_at_zero Go.wp_at_succ

/-- the sugar of m grams of a lot -/
def dQ (l : Lo) (m : Int) : Int := if m = 0 then 0 else l.s * m / (l.a + l.s)
def partL (l : Lo) (m : Int) : Lo := { l with a := m - dQ l m, s := dQ l m }
def restL (l : Lo) (m : Int) : Lo := { l with a := l.a - (m - dQ l m), s := l.s - dQ l m }
/-- one lot: how much is wanted still, what has been taken, what is left -/
def dS (st : Int × List Lo × List Lo) (l : Lo) : Int × List Lo × List Lo :=
  (st.1 - min st.1 (l.a + l.s), if 0 < min st.1 (l.a + l.s) then st.2.1 ++ [partL l (min st.1 (l.a + l.s))] else st.2.1, if 0 < l.a + l.s - min st.1 (l.a + l.s) then st.2.2 ++ [restL l (min st.1 (l.a + l.s))] else st.2.2)
def drawL (xs : List Lo) (M : Int) : Int × List Lo × List Lo := xs.foldl dS (M, [], [])
theorem drawL_snoc (xs : List Lo) (l : Lo) (M : Int) : drawL (xs ++ [l]) M = dS (drawL xs M) l := by simp [drawL, List.foldl_append]

theorem dQ_bd (l : Lo) (m : Int) (h : loB l) (h0 : 0 ≤ m) (h1 : m ≤ l.a + l.s) : 0 ≤ dQ l m ∧ dQ l m ≤ m ∧ dQ l m ≤ l.s ∧ m - dQ l m ≤ l.a := by
  obtain ⟨a1, a2, s1, s2⟩ := h
  unfold dQ
  by_cases hm : m = 0
  · subst hm; simp; omega
  · rw [if_neg hm]
    have hp : 0 < l.a + l.s := by omega
    have e1 := fl_le (N := l.s * m) hp
    have e2 := fl_lt (N := l.s * m) hp
    have q0 : 0 ≤ l.s * m / (l.a + l.s) := Int.ediv_nonneg (Int.mul_nonneg s1 h0) (by omega)
    have q1 : l.s * m / (l.a + l.s) ≤ m := by
      have h2 : l.s * m ≤ (l.a + l.s) * m := Int.mul_le_mul_of_nonneg_right (by omega) h0
      have := Int.ediv_le_ediv hp h2
      rwa [Int.mul_ediv_cancel_left _ (by omega)] at this
    have q2 : l.s * m / (l.a + l.s) ≤ l.s := by
      have h2 : l.s * m ≤ l.s * (l.a + l.s) := Int.mul_le_mul_of_nonneg_left h1 s1
      have := Int.ediv_le_ediv hp h2
      rwa [Int.mul_ediv_cancel _ (by omega)] at this
    refine ⟨q0, q1, q2, ?_⟩
    -- (m - q) ≤ a: as q + 1 > s m / (a + s) ≥ m - a ..
    have h3 : (m - l.a) * (l.a + l.s) ≤ l.s * m := by
      have h4 : 0 ≤ l.a * (l.a + l.s - m) := Int.mul_nonneg a1 (by omega)
      have h5 : l.s * m - (m - l.a) * (l.a + l.s) = l.a * (l.a + l.s - m) := by
        simp only [Int.sub_mul, Int.mul_sub, Int.mul_add, Int.add_mul, Int.mul_comm m]
        omega
      omega
    have := (Int.le_ediv_iff_mul_le hp).2 h3
    omega

theorem sapDraw (l : Lo) (m : Int) (h : loB l) (h0 : 0 ≤ m) (h1 : m ≤ l.a + l.s) (w : World) :
    Calls Try.prog 77 #[.agg #[.int .i64 l.a, .int .i64 l.s], .int .i64 m] w fun e w' =>
      e = .returned (.tuple #[.agg #[.int .i64 (partL l m).a, .int .i64 (partL l m).s], .agg #[.int .i64 (restL l m).a, .int .i64 (restL l m).s], .int .i64 0]) ∧ Below w.heap.size w w' := by
  have hv : spB l.a l.s = true := by obtain ⟨b1, b2, b3, b4⟩ := h; simp [spB]; omega
  obtain ⟨b1, b2, b3, b4⟩ := h
  refine draw_ok l.a l.s m (dQ l m) hv h0 h1 ?_ w
  by_cases hm : m = 0
  · subst hm; simp only [dQ, if_pos]; exact drawsAt_zero _ _
  · have hq : dQ l m = l.s * m / (l.a + l.s) := if_neg hm
    have hp : 0 < l.a + l.s := by omega
    have hb := dQ_bd l m ⟨b1, b2, b3, b4⟩ h0 h1
    rw [hq] at hb ⊢
    have hqq : l.s.natAbs * m.natAbs / (l.a + l.s).natAbs ≤ 1000000000000000000 := by
      have e : (l.s.natAbs * m.natAbs / (l.a + l.s).natAbs : Nat) = (l.s * m / (l.a + l.s)).toNat := by
        obtain ⟨S, hS⟩ := Int.eq_ofNat_of_zero_le b3
        obtain ⟨N, hN⟩ := Int.eq_ofNat_of_zero_le h0
        obtain ⟨D, hD⟩ := Int.eq_ofNat_of_zero_le (Int.le_of_lt hp)
        rw [hD, hS, hN, ← Int.natCast_mul, ← Int.natCast_ediv]
        simp only [Int.natAbs_natCast, Int.toNat_natCast]
      rw [e]
      omega
    refine drawsAt_pos _ _ _ _ hv (by omega) h1 (fun w => divide_any _ _ _ ⟨by omega, by omega⟩ ⟨by omega, by omega⟩ ⟨by omega, by omega⟩ (by omega) w) (q_pos hp hqq).1 hb.1 (by omega)

theorem suff2 {R G : Nat → Nat → World → Prop} {P : Prop} (main : (∀ g1 g2 W, R g1 g2 W → G g1 g2 W) → P) (key : ∀ g1 g2 W, R g1 g2 W → G g1 g2 W) : P := main key
theorem grown_alloc {w w' : World} {o : Obj} {row : Option Nat} (h : (w.alloc o).grownBy w' row) : w.grownBy w' row := ⟨h.os, h.tape, h.output, by have := h.size; simp at this; omega, fun i hi hne => (h.block i (by simp; omega) hne).trans (Below.heap_alloc _ _ _ hi)⟩
def LotIn (W : World) (g : Nat) (l : Lo) : Prop := g < W.heap.size ∧ W.cell? ⟨g, 0, none⟩ = some (.int .i64 l.a) ∧ W.cell? ⟨g, 1, none⟩ = some (.int .i64 l.s) ∧ W.cell? ⟨g, 2, none⟩ = some (.int .i64 l.lo) ∧ W.cell? ⟨g, 3, none⟩ = some (.int .i64 l.hi) ∧ W.cell? ⟨g, 4, none⟩ = some (.int .i64 l.t) ∧ W.frozen? ⟨g, 0, none⟩ = false ∧ W.frozen? ⟨g, 1, none⟩ = false
theorem LotIn.kept {U : Nat → Prop} {W W' : World} {g : Nat} {l : Lo} (h : LotIn W g l) (hk : Kept U W W') (hu : ¬ U g) : LotIn W' g l :=
  ⟨Nat.lt_of_lt_of_le h.1 hk.1, (hk.cell (p := ⟨g, 0, none⟩) h.1 hu).trans h.2.1, (hk.cell (p := ⟨g, 1, none⟩) h.1 hu).trans h.2.2.1, (hk.cell (p := ⟨g, 2, none⟩) h.1 hu).trans h.2.2.2.1, (hk.cell (p := ⟨g, 3, none⟩) h.1 hu).trans h.2.2.2.2.1, (hk.cell (p := ⟨g, 4, none⟩) h.1 hu).trans h.2.2.2.2.2.1, (hk.frozen (p := ⟨g, 0, none⟩) h.1 hu).trans h.2.2.2.2.2.2.1, (hk.frozen (p := ⟨g, 1, none⟩) h.1 hu).trans h.2.2.2.2.2.2.2⟩
theorem lotIn_new (W : World) (l : Lo) : LotIn (W.alloc (Obj.cells #[.int .i64 l.a, .int .i64 l.s, .int .i64 l.lo, .int .i64 l.hi, .int .i64 l.t] 92)) W.heap.size l := by
  refine ⟨by simp, ?_, ?_, ?_, ?_, ?_, ?_, ?_⟩ <;> simp [go_sem]
/-- two rows that share no block -/
def Apart2 (v1 v2 : Value) : Prop := ∀ g, v1.ownBlock = some g → v2.ownBlock ≠ some g
def DrawP (xs : List Lo) (M : Int) (w : World) (e : Ending) (w' : World) : Prop :=
  ∃ v1 v2, e = .returned (.tuple #[v1, v2, .int .i64 0]) ∧ OwnL w.heap.size w' v1 (drawL xs M).2.1 ∧ OwnL w.heap.size w' v2 (drawL xs M).2.2 ∧ Apart2 v1 v2 ∧ Below w.heap.size w w'

set_option maxRecDepth 20000 in
set_option maxHeartbeats 8000000 in
theorem vdraw_ok (b : Nat) (sz fl fh M : Int) (v : Value) (xs : List Lo) (w : World) (hV : VesAt w b sz fl fh v) (hx : ∀ l ∈ xs, loB l) (hv : LsAt w.heap.size w v xs) (hl : xs.length ≤ 40) (hM1 : 1 ≤ M) (hM2 : M ≤ (lotSum xs).1 + (lotSum xs).2) :
    Calls Try.prog 51 #[.pointer (some ⟨b, 0, none⟩), .int .i64 M] w (DrawP xs M w) := by
  obtain ⟨i0, hi0, hz0, hz1, hz2⟩ := info_parts infoLot
  have rmin := @umin2 Try.prog
  have C1 := Lib.hid (fun (W : World) (h : Below w.heap.size w W) => massOf_lots v xs W hx ((hv.below h (Nat.le_refl _)).mono h.size) (by omega))
  obtain ⟨x1, x2, x3, x4⟩ := lotSum_bd xs hx
  generalize hmx : (lotSum xs).1 + (lotSum xs).2 = mx at *
  have C2 := Lib.hid (fun (W : World) (g c : Nat) => in1v_any 1 mx M g c W)
  rw [show inB 1 mx M = true from by simp [inB]; omega] at C2
  have hMb : M ≤ 100000000000000 := by omega
  clear x1 x2 x3 x4 hmx hM2
  obtain ⟨A, c, rfl, hr⟩ := hv
  obtain ⟨n, hn⟩ : ∃ n, xs.length = n := ⟨_, rfl⟩
  rw [hn] at hl hr C1 hV
  have Hn := Lib.hid hn
  have HX := Lib.hid hx
  have HR := Lib.hid hr
  clear hx hr hn
  have k3 := hV.c3
  have nb := hV.n
  clear hV
  go_enter Try.func51, Try.ntmps51
  go_wp2_with fail
  refine (C1.out _ (Below.refl _ _)).mono ?_
  rintro e w1 ⟨rfl, hb⟩
  have hB := hb
  replace k3 := cell_next hb nb k3
  replace nb := Nat.lt_of_lt_of_le nb hb.size
  clear hb C1
  go_wp2_with fail
  refine (C2.out _ _ _ (by simp) (by simp [go_sem])).mono ?_
  rintro e w2 ⟨rfl, hb⟩
  replace k3 := cell_next (below1 hb) nb k3
  replace nb := Nat.lt_of_lt_of_le nb (below1 hb).size
  replace hB := hB.trans ((below1 hb).mono hB.size)
  clear hb C2
  go_wp2_with fail
  go_loopw [25, 1, 4, 5] (fun i mv V1 V2 wr => ∃ k : Nat, k ≤ n ∧ i = .int .i64 k ∧ mv = .int .i64 (drawL (xs.take k) M).1 ∧ Hid (0 ≤ (drawL (xs.take k) M).1 ∧ (drawL (xs.take k) M).1 ≤ M ∧ (drawL (xs.take k) M).2.1.length ≤ k ∧ (drawL (xs.take k) M).2.2.length ≤ k) ∧ Hid (OwnL w.heap.size wr V1 (drawL (xs.take k) M).2.1) ∧ Hid (OwnL w.heap.size wr V2 (drawL (xs.take k) M).2.2) ∧ Hid (Apart2 V1 V2) ∧ Below w.heap.size w wr) (fun i _ _ _ _ => n - (RowKit.intOf i).toNat)
  case atStart => exact ⟨0, Nat.zero_le _, rfl, rfl, Lib.hid (by simp [drawL]; omega), Lib.hid (OwnL.nil _ _), Lib.hid (OwnL.nil _ _), Lib.hid (fun g h => by cases h), hB⟩
  case round =>
    obtain ⟨k, hk, rfl, rfl, HBd, HO1, HO2, HAp, hL⟩ := hrel
    by_cases hlt : k < n
    · obtain ⟨⟨a, s, lo, hi, tm⟩, hp⟩ : ∃ p, xs[k]? = some p := ⟨_, List.getElem?_eq_getElem (by rw [Hn.out]; exact hlt)⟩
      have hlb := HX.out _ (List.mem_of_getElem? hp)
      obtain ⟨g, off, rfl, hg, hR⟩ := HR.out (by omega)
      obtain ⟨q0, q1, q2, q3, q4⟩ := (hR.keep fun o => hL.cell (p := ⟨g, o, none⟩) hg) k _ hp
      have hgw : g < wr.heap.size := by have := hL.size; omega
      have HN : Hid (drawL (xs.take (k + 1)) M = dS (drawL (xs.take k) M) ⟨a, s, lo, hi, tm⟩) := Lib.hid (by rw [List.take_add_one, hp, Option.toList_some, drawL_snoc])
      dsimp only at q0 q1 q2 q3 q4
      generalize hst : drawL (xs.take k) M = st at *
      obtain ⟨st1, T, F⟩ := st
      dsimp only at HBd HO1 HO2
      obtain ⟨z1, z2, z3, z4⟩ := HBd.out
      obtain ⟨b1, b2, b3, b4⟩ := hlb
      dsimp only at b1 b2 b3 b4
      obtain ⟨mm, hmm⟩ : ∃ mm, min st1 (a + s) = mm := ⟨_, rfl⟩
      have hm0 : 0 ≤ mm := by omega
      have hm1 : mm ≤ a + s := by omega
      have C38 := Lib.hid (sapDraw ⟨a, s, lo, hi, tm⟩ mm ⟨b1, b2, b3, b4⟩ hm0 hm1)
      have C36 := Lib.hid (lotMass_any ⟨a, s, lo, hi, tm⟩ b1 (by show a ≤ _; omega) b3 (by show s ≤ _; omega))
      obtain ⟨d1, d2, d3, d4⟩ := dQ_bd ⟨a, s, lo, hi, tm⟩ mm ⟨b1, b2, b3, b4⟩ hm0 hm1
      have HPL : Hid (partL ⟨a, s, lo, hi, tm⟩ mm = ⟨mm - dQ ⟨a, s, lo, hi, tm⟩ mm, dQ ⟨a, s, lo, hi, tm⟩ mm, lo, hi, tm⟩) := Lib.hid rfl
      have HRL : Hid (restL ⟨a, s, lo, hi, tm⟩ mm = ⟨a - (mm - dQ ⟨a, s, lo, hi, tm⟩ mm), s - dQ ⟨a, s, lo, hi, tm⟩ mm, lo, hi, tm⟩) := Lib.hid rfl
      rw [HPL.out, HRL.out] at C38
      simp only [vL] at C36
      dsimp only at C38 C36 d1 d2 d3 d4
      generalize dQ ⟨a, s, lo, hi, tm⟩ mm = q at *
      have C46 := Lib.hid (lotMass_any ⟨mm - q, q, lo, hi, tm⟩ (by show 0 ≤ mm - q; omega) (by show mm - q ≤ _; omega) (by show 0 ≤ q; omega) (by show q ≤ _; omega))
      have C56 := Lib.hid (lotMass_any ⟨a - (mm - q), s - q, lo, hi, tm⟩ (by show 0 ≤ a - (mm - q); omega) (by show a - (mm - q) ≤ _; omega) (by show 0 ≤ s - q; omega) (by show s - q ≤ _; omega))
      simp only [vL] at C46 C56
      rw [show mm - q + q = mm from by omega] at C46
      obtain ⟨rr, hrr⟩ : ∃ rr, a + s - mm = rr := ⟨_, rfl⟩
      rw [show a - (mm - q) + (s - q) = rr from by omega] at C56
      have t1 : IntKind.i64.wrap (st1 - mm) = st1 - mm := IntWalk.i64_in _ (by omega)
      have HNN : Hid (drawL (xs.take (k + 1)) M = (st1 - mm, if 0 < mm then T ++ [⟨mm - q, q, lo, hi, tm⟩] else T, if 0 < rr then F ++ [⟨a - (mm - q), s - q, lo, hi, tm⟩] else F)) := Lib.hid (by rw [HN.out]; simp only [dS, hmm, hrr, HPL.out, HRL.out])
      have HBN : Hid (0 ≤ st1 - mm ∧ st1 - mm ≤ M) := Lib.hid (by omega)
      generalize hpa : mm - q = pa at *
      generalize hra : a - pa = ra at *
      generalize hrs : s - q = rs at *
      clear hpa hra hrs HPL HRL HN hp hst hR d1 d2 d3 d4 b1 b2 b3 b4 z2 hm0 hm1 HBd
      go_wp2_with fail
      have L8 := lotIn_new wr ⟨a, s, lo, hi, tm⟩
      have hbA : Below wr.heap.size wr (wr.alloc (Obj.cells #[.int .i64 a, .int .i64 s, .int .i64 lo, .int .i64 hi, .int .i64 tm] 92)) := (Below.refl _ _).alloc (Nat.le_refl _) _
      have hs0 : (wr.alloc (Obj.cells #[.int .i64 a, .int .i64 s, .int .i64 lo, .int .i64 hi, .int .i64 tm] 92)).heap.size = wr.heap.size + 1 := by simp
      dsimp only at L8
      have hOb1 := World.ownsRow.lt HO1.out
      have hOb2 := World.ownsRow.lt HO2.out
      replace HO1 := Lib.hid (HO1.out.below hbA)
      replace HO2 := Lib.hid (HO2.out.below hbA)
      have hw8 := hL.size
      have hLA := Lib.hid (hL.trans (hbA.mono hL.size))
      clear hbA q0 q1 q2 q3 q4 hgw hL
      generalize wr.alloc (Obj.cells #[.int .i64 a, .int .i64 s, .int .i64 lo, .int .i64 hi, .int .i64 tm] 92) = W0 at *
      generalize wr.heap.size = g8 at *
      apply suff2 (R := fun g9 g10 W => LotIn W g8 ⟨a, s, lo, hi, tm⟩ ∧ LotIn W g9 ⟨a, s, lo, hi, tm⟩ ∧ LotIn W g10 ⟨a, s, lo, hi, tm⟩ ∧ g8 < g9 ∧ g8 < g10 ∧ g9 ≠ g10 ∧ Below (g8 + 1) W0 W)
      case main =>
        intro key
        have L8c := L8
        obtain ⟨n8, e0, e1, e2, e3, e4, ef0, ef1⟩ := L8c
        dsimp only at e0 e1 e2 e3 e4
        have hBW : g8 + 1 ≤ W0.heap.size := by omega
        refine wp_region_held_drew (S := fun w' => w'.cell? ⟨g8, 0, none⟩ = some (.int .i64 a) ∧ w'.cell? ⟨g8, 1, none⟩ = some (.int .i64 s) ∧ w'.cell? ⟨g8, 2, none⟩ = some (.int .i64 lo) ∧ w'.cell? ⟨g8, 3, none⟩ = some (.int .i64 hi) ∧ w'.cell? ⟨g8, 4, none⟩ = some (.int .i64 tm) ∧ True) (by kernel_rfl) ?_ (fun hHeld => ?_)
        focus (exact ⟨e0, e1, e2, e3, e4, trivial⟩)
        have hL : Below (g8 + 1) W0 W0.drew := Below.drew (Below.refl _ _)
        replace e0 : W0.drew.cell? ⟨g8, 0, none⟩ = some (.int .i64 a) := e0
        replace e1 : W0.drew.cell? ⟨g8, 1, none⟩ = some (.int .i64 s) := e1
        replace e2 : W0.drew.cell? ⟨g8, 2, none⟩ = some (.int .i64 lo) := e2
        replace e3 : W0.drew.cell? ⟨g8, 3, none⟩ = some (.int .i64 hi) := e3
        replace e4 : W0.drew.cell? ⟨g8, 4, none⟩ = some (.int .i64 tm) := e4
        replace ef0 : W0.drew.frozen? ⟨g8, 0, none⟩ = false := ef0
        replace ef1 : W0.drew.frozen? ⟨g8, 1, none⟩ = false := ef1
        replace n8 : g8 < W0.drew.heap.size := n8
        generalize hWd : W0.drew = wd at hHeld hL e0 e1 e2 e3 e4 ef0 ef1 n8  ⊢
        clear hWd
        refine take_slot (i := 0) (d := 29) (v := ?_) rfl rfl (by kernel_rfl) (by kernel_rfl) (by kernel_rfl) (fun _ _ _ h => h) (Or.inl ⟨by rfl, ?_⟩) (by assumption) ?_
        rotate_left 1
        focus (intro wS hSw; (try dsimp only at hSw); go_simp; try with_reducible rfl)
        try simp only [List.setIfInBounds_toArray, List.set_cons_zero, List.set_cons_succ]
        refine take_slot (i := 1) (d := 30) (v := ?_) rfl rfl (by kernel_rfl) (by kernel_rfl) (by kernel_rfl) (fun _ _ _ h => h) (Or.inl ⟨by rfl, ?_⟩) (by assumption) ?_
        rotate_left 1
        focus (intro wS hSw; (try dsimp only at hSw); go_simp; try with_reducible rfl)
        try simp only [List.setIfInBounds_toArray, List.set_cons_zero, List.set_cons_succ]
        refine wpAnyH_ready (rs := [2, 3]) (by kernel_rfl) (by simp) ?_
        refine AllReadyH.cons rfl (fun K hK => ?_) (AllReadyH.cons rfl (fun K hK => ?_) AllReadyH.nil)
        · go_simp
          have hb := (Below.refl wd.heap.size wd).alloc (Nat.le_refl _) (Obj.cells #[.int .i64 0, .int .i64 0, .int .i64 0, .int .i64 0, .int .i64 0] 92)
          have ord1n8 := n8
          replace e0 := cell_next hb n8 e0
          replace e1 := cell_next hb n8 e1
          replace e2 := cell_next hb n8 e2
          replace e3 := cell_next hb n8 e3
          replace e4 := cell_next hb n8 e4
          replace ef0 := frozen_next hb n8 ef0
          replace ef1 := frozen_next hb n8 ef1
          replace n8 := Nat.lt_of_lt_of_le n8 hb.size
          replace hL := hL.trans (hb.mono (Nat.le_trans hBW hL.size))
          have Pf0 : (wd.alloc (Obj.cells #[.int .i64 0, .int .i64 0, .int .i64 0, .int .i64 0, .int .i64 0] 92)).frozen? ⟨wd.heap.size, 0, none⟩ = false := by simp [go_sem]
          have Pf1 : (wd.alloc (Obj.cells #[.int .i64 0, .int .i64 0, .int .i64 0, .int .i64 0, .int .i64 0] 92)).frozen? ⟨wd.heap.size, 1, none⟩ = false := by simp [go_sem]
          have Pf2 : (wd.alloc (Obj.cells #[.int .i64 0, .int .i64 0, .int .i64 0, .int .i64 0, .int .i64 0] 92)).frozen? ⟨wd.heap.size, 2, none⟩ = false := by simp [go_sem]
          have Pf3 : (wd.alloc (Obj.cells #[.int .i64 0, .int .i64 0, .int .i64 0, .int .i64 0, .int .i64 0] 92)).frozen? ⟨wd.heap.size, 3, none⟩ = false := by simp [go_sem]
          have Pf4 : (wd.alloc (Obj.cells #[.int .i64 0, .int .i64 0, .int .i64 0, .int .i64 0, .int .i64 0] 92)).frozen? ⟨wd.heap.size, 4, none⟩ = false := by simp [go_sem]
          have P0 : (wd.alloc (Obj.cells #[.int .i64 0, .int .i64 0, .int .i64 0, .int .i64 0, .int .i64 0] 92)).cell? ⟨wd.heap.size, 0, none⟩ = some (.int .i64 0) := cell_new _ _ _ 0
          have P1 : (wd.alloc (Obj.cells #[.int .i64 0, .int .i64 0, .int .i64 0, .int .i64 0, .int .i64 0] 92)).cell? ⟨wd.heap.size, 1, none⟩ = some (.int .i64 0) := cell_new _ _ _ 1
          have P2 : (wd.alloc (Obj.cells #[.int .i64 0, .int .i64 0, .int .i64 0, .int .i64 0, .int .i64 0] 92)).cell? ⟨wd.heap.size, 2, none⟩ = some (.int .i64 0) := cell_new _ _ _ 2
          have P3 : (wd.alloc (Obj.cells #[.int .i64 0, .int .i64 0, .int .i64 0, .int .i64 0, .int .i64 0] 92)).cell? ⟨wd.heap.size, 3, none⟩ = some (.int .i64 0) := cell_new _ _ _ 3
          have P4 : (wd.alloc (Obj.cells #[.int .i64 0, .int .i64 0, .int .i64 0, .int .i64 0, .int .i64 0] 92)).cell? ⟨wd.heap.size, 4, none⟩ = some (.int .i64 0) := cell_new _ _ _ 4
          have nP : wd.heap.size < (wd.alloc (Obj.cells #[.int .i64 0, .int .i64 0, .int .i64 0, .int .i64 0, .int .i64 0] 92)).heap.size := by simp
          refine hK.out _ _ ⟨e0, e1, e2, e3, e4, trivial⟩ (fun hHeld => ?_)
          clear hK K hb
          generalize wd.alloc (Obj.cells #[.int .i64 0, .int .i64 0, .int .i64 0, .int .i64 0, .int .i64 0] 92) = Z1 at *
          try simp only [Act.put, List.setIfInBounds_toArray, List.set_cons_zero, List.set_cons_succ]
          refine wpAnyH_ready (rs := [3]) (by kernel_rfl) (by simp) ?_
          refine AllReadyH.cons rfl (fun K hK => ?_) AllReadyH.nil
          go_simp
          have hb := (Below.refl Z1.heap.size Z1).alloc (Nat.le_refl _) (Obj.cells #[.int .i64 0, .int .i64 0, .int .i64 0, .int .i64 0, .int .i64 0] 92)
          have ord2n8 := n8
          have ord2nP := nP
          replace e0 := cell_next hb n8 e0
          replace e1 := cell_next hb n8 e1
          replace e2 := cell_next hb n8 e2
          replace e3 := cell_next hb n8 e3
          replace e4 := cell_next hb n8 e4
          replace ef0 := frozen_next hb n8 ef0
          replace ef1 := frozen_next hb n8 ef1
          replace Pf0 := frozen_next hb nP Pf0
          replace Pf1 := frozen_next hb nP Pf1
          replace Pf2 := frozen_next hb nP Pf2
          replace Pf3 := frozen_next hb nP Pf3
          replace Pf4 := frozen_next hb nP Pf4
          replace P0 := cell_next hb nP P0
          replace P1 := cell_next hb nP P1
          replace P2 := cell_next hb nP P2
          replace P3 := cell_next hb nP P3
          replace P4 := cell_next hb nP P4
          replace n8 := Nat.lt_of_lt_of_le n8 hb.size
          replace nP := Nat.lt_of_lt_of_le nP hb.size
          replace hL := hL.trans (hb.mono (Nat.le_trans hBW hL.size))
          have Qf0 : (Z1.alloc (Obj.cells #[.int .i64 0, .int .i64 0, .int .i64 0, .int .i64 0, .int .i64 0] 92)).frozen? ⟨Z1.heap.size, 0, none⟩ = false := by simp [go_sem]
          have Qf1 : (Z1.alloc (Obj.cells #[.int .i64 0, .int .i64 0, .int .i64 0, .int .i64 0, .int .i64 0] 92)).frozen? ⟨Z1.heap.size, 1, none⟩ = false := by simp [go_sem]
          have Qf2 : (Z1.alloc (Obj.cells #[.int .i64 0, .int .i64 0, .int .i64 0, .int .i64 0, .int .i64 0] 92)).frozen? ⟨Z1.heap.size, 2, none⟩ = false := by simp [go_sem]
          have Qf3 : (Z1.alloc (Obj.cells #[.int .i64 0, .int .i64 0, .int .i64 0, .int .i64 0, .int .i64 0] 92)).frozen? ⟨Z1.heap.size, 3, none⟩ = false := by simp [go_sem]
          have Qf4 : (Z1.alloc (Obj.cells #[.int .i64 0, .int .i64 0, .int .i64 0, .int .i64 0, .int .i64 0] 92)).frozen? ⟨Z1.heap.size, 4, none⟩ = false := by simp [go_sem]
          have Q0 : (Z1.alloc (Obj.cells #[.int .i64 0, .int .i64 0, .int .i64 0, .int .i64 0, .int .i64 0] 92)).cell? ⟨Z1.heap.size, 0, none⟩ = some (.int .i64 0) := cell_new _ _ _ 0
          have Q1 : (Z1.alloc (Obj.cells #[.int .i64 0, .int .i64 0, .int .i64 0, .int .i64 0, .int .i64 0] 92)).cell? ⟨Z1.heap.size, 1, none⟩ = some (.int .i64 0) := cell_new _ _ _ 1
          have Q2 : (Z1.alloc (Obj.cells #[.int .i64 0, .int .i64 0, .int .i64 0, .int .i64 0, .int .i64 0] 92)).cell? ⟨Z1.heap.size, 2, none⟩ = some (.int .i64 0) := cell_new _ _ _ 2
          have Q3 : (Z1.alloc (Obj.cells #[.int .i64 0, .int .i64 0, .int .i64 0, .int .i64 0, .int .i64 0] 92)).cell? ⟨Z1.heap.size, 3, none⟩ = some (.int .i64 0) := cell_new _ _ _ 3
          have Q4 : (Z1.alloc (Obj.cells #[.int .i64 0, .int .i64 0, .int .i64 0, .int .i64 0, .int .i64 0] 92)).cell? ⟨Z1.heap.size, 4, none⟩ = some (.int .i64 0) := cell_new _ _ _ 4
          have nQ : Z1.heap.size < (Z1.alloc (Obj.cells #[.int .i64 0, .int .i64 0, .int .i64 0, .int .i64 0, .int .i64 0] 92)).heap.size := by simp
          refine hK.out _ _ ⟨e0, e1, e2, e3, e4, trivial⟩ (fun hHeld => ?_)
          clear hK K hb
          generalize Z1.alloc (Obj.cells #[.int .i64 0, .int .i64 0, .int .i64 0, .int .i64 0, .int .i64 0] 92) = Z2 at *
          try simp only [Act.put, List.setIfInBounds_toArray, List.set_cons_zero, List.set_cons_succ]
          refine wpAnyH_ready (rs := [4]) (by kernel_rfl) (by simp) ?_
          refine AllReadyH.cons rfl (fun K hK => ?_) AllReadyH.nil
          go_simp
          replace e0 : (((((Z2.setCell ⟨wd.heap.size, 0, none⟩ (.int .i64 a)).setCell ⟨wd.heap.size, 1, none⟩ (.int .i64 s)).setCell ⟨wd.heap.size, 2, none⟩ (.int .i64 lo)).setCell ⟨wd.heap.size, 3, none⟩ (.int .i64 hi)).setCell ⟨wd.heap.size, 4, none⟩ (.int .i64 tm)).cell? ⟨g8, 0, none⟩ = some (.int .i64 a) := ((World.cell?_setCell_other _ _ _ _ (by intro e; injection e with e1 e2; omega)).trans ((World.cell?_setCell_other _ _ _ _ (by intro e; injection e with e1 e2; omega)).trans ((World.cell?_setCell_other _ _ _ _ (by intro e; injection e with e1 e2; omega)).trans ((World.cell?_setCell_other _ _ _ _ (by intro e; injection e with e1 e2; omega)).trans ((World.cell?_setCell_other _ _ _ _ (by intro e; injection e with e1 e2; omega)).trans e0)))))
          replace e1 : (((((Z2.setCell ⟨wd.heap.size, 0, none⟩ (.int .i64 a)).setCell ⟨wd.heap.size, 1, none⟩ (.int .i64 s)).setCell ⟨wd.heap.size, 2, none⟩ (.int .i64 lo)).setCell ⟨wd.heap.size, 3, none⟩ (.int .i64 hi)).setCell ⟨wd.heap.size, 4, none⟩ (.int .i64 tm)).cell? ⟨g8, 1, none⟩ = some (.int .i64 s) := ((World.cell?_setCell_other _ _ _ _ (by intro e; injection e with e1 e2; omega)).trans ((World.cell?_setCell_other _ _ _ _ (by intro e; injection e with e1 e2; omega)).trans ((World.cell?_setCell_other _ _ _ _ (by intro e; injection e with e1 e2; omega)).trans ((World.cell?_setCell_other _ _ _ _ (by intro e; injection e with e1 e2; omega)).trans ((World.cell?_setCell_other _ _ _ _ (by intro e; injection e with e1 e2; omega)).trans e1)))))
          replace e2 : (((((Z2.setCell ⟨wd.heap.size, 0, none⟩ (.int .i64 a)).setCell ⟨wd.heap.size, 1, none⟩ (.int .i64 s)).setCell ⟨wd.heap.size, 2, none⟩ (.int .i64 lo)).setCell ⟨wd.heap.size, 3, none⟩ (.int .i64 hi)).setCell ⟨wd.heap.size, 4, none⟩ (.int .i64 tm)).cell? ⟨g8, 2, none⟩ = some (.int .i64 lo) := ((World.cell?_setCell_other _ _ _ _ (by intro e; injection e with e1 e2; omega)).trans ((World.cell?_setCell_other _ _ _ _ (by intro e; injection e with e1 e2; omega)).trans ((World.cell?_setCell_other _ _ _ _ (by intro e; injection e with e1 e2; omega)).trans ((World.cell?_setCell_other _ _ _ _ (by intro e; injection e with e1 e2; omega)).trans ((World.cell?_setCell_other _ _ _ _ (by intro e; injection e with e1 e2; omega)).trans e2)))))
          replace e3 : (((((Z2.setCell ⟨wd.heap.size, 0, none⟩ (.int .i64 a)).setCell ⟨wd.heap.size, 1, none⟩ (.int .i64 s)).setCell ⟨wd.heap.size, 2, none⟩ (.int .i64 lo)).setCell ⟨wd.heap.size, 3, none⟩ (.int .i64 hi)).setCell ⟨wd.heap.size, 4, none⟩ (.int .i64 tm)).cell? ⟨g8, 3, none⟩ = some (.int .i64 hi) := ((World.cell?_setCell_other _ _ _ _ (by intro e; injection e with e1 e2; omega)).trans ((World.cell?_setCell_other _ _ _ _ (by intro e; injection e with e1 e2; omega)).trans ((World.cell?_setCell_other _ _ _ _ (by intro e; injection e with e1 e2; omega)).trans ((World.cell?_setCell_other _ _ _ _ (by intro e; injection e with e1 e2; omega)).trans ((World.cell?_setCell_other _ _ _ _ (by intro e; injection e with e1 e2; omega)).trans e3)))))
          replace e4 : (((((Z2.setCell ⟨wd.heap.size, 0, none⟩ (.int .i64 a)).setCell ⟨wd.heap.size, 1, none⟩ (.int .i64 s)).setCell ⟨wd.heap.size, 2, none⟩ (.int .i64 lo)).setCell ⟨wd.heap.size, 3, none⟩ (.int .i64 hi)).setCell ⟨wd.heap.size, 4, none⟩ (.int .i64 tm)).cell? ⟨g8, 4, none⟩ = some (.int .i64 tm) := ((World.cell?_setCell_other _ _ _ _ (by intro e; injection e with e1 e2; omega)).trans ((World.cell?_setCell_other _ _ _ _ (by intro e; injection e with e1 e2; omega)).trans ((World.cell?_setCell_other _ _ _ _ (by intro e; injection e with e1 e2; omega)).trans ((World.cell?_setCell_other _ _ _ _ (by intro e; injection e with e1 e2; omega)).trans ((World.cell?_setCell_other _ _ _ _ (by intro e; injection e with e1 e2; omega)).trans e4)))))
          replace ef0 : (((((Z2.setCell ⟨wd.heap.size, 0, none⟩ (.int .i64 a)).setCell ⟨wd.heap.size, 1, none⟩ (.int .i64 s)).setCell ⟨wd.heap.size, 2, none⟩ (.int .i64 lo)).setCell ⟨wd.heap.size, 3, none⟩ (.int .i64 hi)).setCell ⟨wd.heap.size, 4, none⟩ (.int .i64 tm)).frozen? ⟨g8, 0, none⟩ = false := by simp [go_sem, ef0]
          replace ef1 : (((((Z2.setCell ⟨wd.heap.size, 0, none⟩ (.int .i64 a)).setCell ⟨wd.heap.size, 1, none⟩ (.int .i64 s)).setCell ⟨wd.heap.size, 2, none⟩ (.int .i64 lo)).setCell ⟨wd.heap.size, 3, none⟩ (.int .i64 hi)).setCell ⟨wd.heap.size, 4, none⟩ (.int .i64 tm)).frozen? ⟨g8, 1, none⟩ = false := by simp [go_sem, ef1]
          replace Pf0 : (((((Z2.setCell ⟨wd.heap.size, 0, none⟩ (.int .i64 a)).setCell ⟨wd.heap.size, 1, none⟩ (.int .i64 s)).setCell ⟨wd.heap.size, 2, none⟩ (.int .i64 lo)).setCell ⟨wd.heap.size, 3, none⟩ (.int .i64 hi)).setCell ⟨wd.heap.size, 4, none⟩ (.int .i64 tm)).frozen? ⟨wd.heap.size, 0, none⟩ = false := by simp [go_sem, Pf0]
          replace Pf1 : (((((Z2.setCell ⟨wd.heap.size, 0, none⟩ (.int .i64 a)).setCell ⟨wd.heap.size, 1, none⟩ (.int .i64 s)).setCell ⟨wd.heap.size, 2, none⟩ (.int .i64 lo)).setCell ⟨wd.heap.size, 3, none⟩ (.int .i64 hi)).setCell ⟨wd.heap.size, 4, none⟩ (.int .i64 tm)).frozen? ⟨wd.heap.size, 1, none⟩ = false := by simp [go_sem, Pf1]
          replace Pf2 : (((((Z2.setCell ⟨wd.heap.size, 0, none⟩ (.int .i64 a)).setCell ⟨wd.heap.size, 1, none⟩ (.int .i64 s)).setCell ⟨wd.heap.size, 2, none⟩ (.int .i64 lo)).setCell ⟨wd.heap.size, 3, none⟩ (.int .i64 hi)).setCell ⟨wd.heap.size, 4, none⟩ (.int .i64 tm)).frozen? ⟨wd.heap.size, 2, none⟩ = false := by simp [go_sem, Pf2]
          replace Pf3 : (((((Z2.setCell ⟨wd.heap.size, 0, none⟩ (.int .i64 a)).setCell ⟨wd.heap.size, 1, none⟩ (.int .i64 s)).setCell ⟨wd.heap.size, 2, none⟩ (.int .i64 lo)).setCell ⟨wd.heap.size, 3, none⟩ (.int .i64 hi)).setCell ⟨wd.heap.size, 4, none⟩ (.int .i64 tm)).frozen? ⟨wd.heap.size, 3, none⟩ = false := by simp [go_sem, Pf3]
          replace Pf4 : (((((Z2.setCell ⟨wd.heap.size, 0, none⟩ (.int .i64 a)).setCell ⟨wd.heap.size, 1, none⟩ (.int .i64 s)).setCell ⟨wd.heap.size, 2, none⟩ (.int .i64 lo)).setCell ⟨wd.heap.size, 3, none⟩ (.int .i64 hi)).setCell ⟨wd.heap.size, 4, none⟩ (.int .i64 tm)).frozen? ⟨wd.heap.size, 4, none⟩ = false := by simp [go_sem, Pf4]
          replace P0 : (((((Z2.setCell ⟨wd.heap.size, 0, none⟩ (.int .i64 a)).setCell ⟨wd.heap.size, 1, none⟩ (.int .i64 s)).setCell ⟨wd.heap.size, 2, none⟩ (.int .i64 lo)).setCell ⟨wd.heap.size, 3, none⟩ (.int .i64 hi)).setCell ⟨wd.heap.size, 4, none⟩ (.int .i64 tm)).cell? ⟨wd.heap.size, 0, none⟩ = some (.int .i64 a) := by simp [go_sem, P0]
          replace P1 : (((((Z2.setCell ⟨wd.heap.size, 0, none⟩ (.int .i64 a)).setCell ⟨wd.heap.size, 1, none⟩ (.int .i64 s)).setCell ⟨wd.heap.size, 2, none⟩ (.int .i64 lo)).setCell ⟨wd.heap.size, 3, none⟩ (.int .i64 hi)).setCell ⟨wd.heap.size, 4, none⟩ (.int .i64 tm)).cell? ⟨wd.heap.size, 1, none⟩ = some (.int .i64 s) := by simp [go_sem, P1]
          replace P2 : (((((Z2.setCell ⟨wd.heap.size, 0, none⟩ (.int .i64 a)).setCell ⟨wd.heap.size, 1, none⟩ (.int .i64 s)).setCell ⟨wd.heap.size, 2, none⟩ (.int .i64 lo)).setCell ⟨wd.heap.size, 3, none⟩ (.int .i64 hi)).setCell ⟨wd.heap.size, 4, none⟩ (.int .i64 tm)).cell? ⟨wd.heap.size, 2, none⟩ = some (.int .i64 lo) := by simp [go_sem, P2]
          replace P3 : (((((Z2.setCell ⟨wd.heap.size, 0, none⟩ (.int .i64 a)).setCell ⟨wd.heap.size, 1, none⟩ (.int .i64 s)).setCell ⟨wd.heap.size, 2, none⟩ (.int .i64 lo)).setCell ⟨wd.heap.size, 3, none⟩ (.int .i64 hi)).setCell ⟨wd.heap.size, 4, none⟩ (.int .i64 tm)).cell? ⟨wd.heap.size, 3, none⟩ = some (.int .i64 hi) := by simp [go_sem, P3]
          replace P4 : (((((Z2.setCell ⟨wd.heap.size, 0, none⟩ (.int .i64 a)).setCell ⟨wd.heap.size, 1, none⟩ (.int .i64 s)).setCell ⟨wd.heap.size, 2, none⟩ (.int .i64 lo)).setCell ⟨wd.heap.size, 3, none⟩ (.int .i64 hi)).setCell ⟨wd.heap.size, 4, none⟩ (.int .i64 tm)).cell? ⟨wd.heap.size, 4, none⟩ = some (.int .i64 tm) := by simp [go_sem, P4]
          replace Qf0 : (((((Z2.setCell ⟨wd.heap.size, 0, none⟩ (.int .i64 a)).setCell ⟨wd.heap.size, 1, none⟩ (.int .i64 s)).setCell ⟨wd.heap.size, 2, none⟩ (.int .i64 lo)).setCell ⟨wd.heap.size, 3, none⟩ (.int .i64 hi)).setCell ⟨wd.heap.size, 4, none⟩ (.int .i64 tm)).frozen? ⟨Z1.heap.size, 0, none⟩ = false := by simp [go_sem, Qf0]
          replace Qf1 : (((((Z2.setCell ⟨wd.heap.size, 0, none⟩ (.int .i64 a)).setCell ⟨wd.heap.size, 1, none⟩ (.int .i64 s)).setCell ⟨wd.heap.size, 2, none⟩ (.int .i64 lo)).setCell ⟨wd.heap.size, 3, none⟩ (.int .i64 hi)).setCell ⟨wd.heap.size, 4, none⟩ (.int .i64 tm)).frozen? ⟨Z1.heap.size, 1, none⟩ = false := by simp [go_sem, Qf1]
          replace Qf2 : (((((Z2.setCell ⟨wd.heap.size, 0, none⟩ (.int .i64 a)).setCell ⟨wd.heap.size, 1, none⟩ (.int .i64 s)).setCell ⟨wd.heap.size, 2, none⟩ (.int .i64 lo)).setCell ⟨wd.heap.size, 3, none⟩ (.int .i64 hi)).setCell ⟨wd.heap.size, 4, none⟩ (.int .i64 tm)).frozen? ⟨Z1.heap.size, 2, none⟩ = false := by simp [go_sem, Qf2]
          replace Qf3 : (((((Z2.setCell ⟨wd.heap.size, 0, none⟩ (.int .i64 a)).setCell ⟨wd.heap.size, 1, none⟩ (.int .i64 s)).setCell ⟨wd.heap.size, 2, none⟩ (.int .i64 lo)).setCell ⟨wd.heap.size, 3, none⟩ (.int .i64 hi)).setCell ⟨wd.heap.size, 4, none⟩ (.int .i64 tm)).frozen? ⟨Z1.heap.size, 3, none⟩ = false := by simp [go_sem, Qf3]
          replace Qf4 : (((((Z2.setCell ⟨wd.heap.size, 0, none⟩ (.int .i64 a)).setCell ⟨wd.heap.size, 1, none⟩ (.int .i64 s)).setCell ⟨wd.heap.size, 2, none⟩ (.int .i64 lo)).setCell ⟨wd.heap.size, 3, none⟩ (.int .i64 hi)).setCell ⟨wd.heap.size, 4, none⟩ (.int .i64 tm)).frozen? ⟨Z1.heap.size, 4, none⟩ = false := by simp [go_sem, Qf4]
          replace Q0 : (((((Z2.setCell ⟨wd.heap.size, 0, none⟩ (.int .i64 a)).setCell ⟨wd.heap.size, 1, none⟩ (.int .i64 s)).setCell ⟨wd.heap.size, 2, none⟩ (.int .i64 lo)).setCell ⟨wd.heap.size, 3, none⟩ (.int .i64 hi)).setCell ⟨wd.heap.size, 4, none⟩ (.int .i64 tm)).cell? ⟨Z1.heap.size, 0, none⟩ = some (.int .i64 0) := ((World.cell?_setCell_other _ _ _ _ (by intro e; injection e with e1 e2; omega)).trans ((World.cell?_setCell_other _ _ _ _ (by intro e; injection e with e1 e2; omega)).trans ((World.cell?_setCell_other _ _ _ _ (by intro e; injection e with e1 e2; omega)).trans ((World.cell?_setCell_other _ _ _ _ (by intro e; injection e with e1 e2; omega)).trans ((World.cell?_setCell_other _ _ _ _ (by intro e; injection e with e1 e2; omega)).trans Q0)))))
          replace Q1 : (((((Z2.setCell ⟨wd.heap.size, 0, none⟩ (.int .i64 a)).setCell ⟨wd.heap.size, 1, none⟩ (.int .i64 s)).setCell ⟨wd.heap.size, 2, none⟩ (.int .i64 lo)).setCell ⟨wd.heap.size, 3, none⟩ (.int .i64 hi)).setCell ⟨wd.heap.size, 4, none⟩ (.int .i64 tm)).cell? ⟨Z1.heap.size, 1, none⟩ = some (.int .i64 0) := ((World.cell?_setCell_other _ _ _ _ (by intro e; injection e with e1 e2; omega)).trans ((World.cell?_setCell_other _ _ _ _ (by intro e; injection e with e1 e2; omega)).trans ((World.cell?_setCell_other _ _ _ _ (by intro e; injection e with e1 e2; omega)).trans ((World.cell?_setCell_other _ _ _ _ (by intro e; injection e with e1 e2; omega)).trans ((World.cell?_setCell_other _ _ _ _ (by intro e; injection e with e1 e2; omega)).trans Q1)))))
          replace Q2 : (((((Z2.setCell ⟨wd.heap.size, 0, none⟩ (.int .i64 a)).setCell ⟨wd.heap.size, 1, none⟩ (.int .i64 s)).setCell ⟨wd.heap.size, 2, none⟩ (.int .i64 lo)).setCell ⟨wd.heap.size, 3, none⟩ (.int .i64 hi)).setCell ⟨wd.heap.size, 4, none⟩ (.int .i64 tm)).cell? ⟨Z1.heap.size, 2, none⟩ = some (.int .i64 0) := ((World.cell?_setCell_other _ _ _ _ (by intro e; injection e with e1 e2; omega)).trans ((World.cell?_setCell_other _ _ _ _ (by intro e; injection e with e1 e2; omega)).trans ((World.cell?_setCell_other _ _ _ _ (by intro e; injection e with e1 e2; omega)).trans ((World.cell?_setCell_other _ _ _ _ (by intro e; injection e with e1 e2; omega)).trans ((World.cell?_setCell_other _ _ _ _ (by intro e; injection e with e1 e2; omega)).trans Q2)))))
          replace Q3 : (((((Z2.setCell ⟨wd.heap.size, 0, none⟩ (.int .i64 a)).setCell ⟨wd.heap.size, 1, none⟩ (.int .i64 s)).setCell ⟨wd.heap.size, 2, none⟩ (.int .i64 lo)).setCell ⟨wd.heap.size, 3, none⟩ (.int .i64 hi)).setCell ⟨wd.heap.size, 4, none⟩ (.int .i64 tm)).cell? ⟨Z1.heap.size, 3, none⟩ = some (.int .i64 0) := ((World.cell?_setCell_other _ _ _ _ (by intro e; injection e with e1 e2; omega)).trans ((World.cell?_setCell_other _ _ _ _ (by intro e; injection e with e1 e2; omega)).trans ((World.cell?_setCell_other _ _ _ _ (by intro e; injection e with e1 e2; omega)).trans ((World.cell?_setCell_other _ _ _ _ (by intro e; injection e with e1 e2; omega)).trans ((World.cell?_setCell_other _ _ _ _ (by intro e; injection e with e1 e2; omega)).trans Q3)))))
          replace Q4 : (((((Z2.setCell ⟨wd.heap.size, 0, none⟩ (.int .i64 a)).setCell ⟨wd.heap.size, 1, none⟩ (.int .i64 s)).setCell ⟨wd.heap.size, 2, none⟩ (.int .i64 lo)).setCell ⟨wd.heap.size, 3, none⟩ (.int .i64 hi)).setCell ⟨wd.heap.size, 4, none⟩ (.int .i64 tm)).cell? ⟨Z1.heap.size, 4, none⟩ = some (.int .i64 0) := ((World.cell?_setCell_other _ _ _ _ (by intro e; injection e with e1 e2; omega)).trans ((World.cell?_setCell_other _ _ _ _ (by intro e; injection e with e1 e2; omega)).trans ((World.cell?_setCell_other _ _ _ _ (by intro e; injection e with e1 e2; omega)).trans ((World.cell?_setCell_other _ _ _ _ (by intro e; injection e with e1 e2; omega)).trans ((World.cell?_setCell_other _ _ _ _ (by intro e; injection e with e1 e2; omega)).trans Q4)))))
          replace n8 : g8 < (((((Z2.setCell ⟨wd.heap.size, 0, none⟩ (.int .i64 a)).setCell ⟨wd.heap.size, 1, none⟩ (.int .i64 s)).setCell ⟨wd.heap.size, 2, none⟩ (.int .i64 lo)).setCell ⟨wd.heap.size, 3, none⟩ (.int .i64 hi)).setCell ⟨wd.heap.size, 4, none⟩ (.int .i64 tm)).heap.size := by simpa [World.setCell] using n8
          replace nP : wd.heap.size < (((((Z2.setCell ⟨wd.heap.size, 0, none⟩ (.int .i64 a)).setCell ⟨wd.heap.size, 1, none⟩ (.int .i64 s)).setCell ⟨wd.heap.size, 2, none⟩ (.int .i64 lo)).setCell ⟨wd.heap.size, 3, none⟩ (.int .i64 hi)).setCell ⟨wd.heap.size, 4, none⟩ (.int .i64 tm)).heap.size := by simpa [World.setCell] using nP
          replace nQ : Z1.heap.size < (((((Z2.setCell ⟨wd.heap.size, 0, none⟩ (.int .i64 a)).setCell ⟨wd.heap.size, 1, none⟩ (.int .i64 s)).setCell ⟨wd.heap.size, 2, none⟩ (.int .i64 lo)).setCell ⟨wd.heap.size, 3, none⟩ (.int .i64 hi)).setCell ⟨wd.heap.size, 4, none⟩ (.int .i64 tm)).heap.size := by simpa [World.setCell] using nQ
          replace hL := hL.setCell (p := ⟨wd.heap.size, 0, none⟩) (by show (g8 + 1) ≤ wd.heap.size; omega) (.int .i64 a)
          replace hL := hL.setCell (p := ⟨wd.heap.size, 1, none⟩) (by show (g8 + 1) ≤ wd.heap.size; omega) (.int .i64 s)
          replace hL := hL.setCell (p := ⟨wd.heap.size, 2, none⟩) (by show (g8 + 1) ≤ wd.heap.size; omega) (.int .i64 lo)
          replace hL := hL.setCell (p := ⟨wd.heap.size, 3, none⟩) (by show (g8 + 1) ≤ wd.heap.size; omega) (.int .i64 hi)
          replace hL := hL.setCell (p := ⟨wd.heap.size, 4, none⟩) (by show (g8 + 1) ≤ wd.heap.size; omega) (.int .i64 tm)
          refine hK.out _ _ ⟨e0, e1, e2, e3, e4, trivial⟩ (fun hHeld => ?_)
          clear hK K
          generalize (((((Z2.setCell ⟨wd.heap.size, 0, none⟩ (.int .i64 a)).setCell ⟨wd.heap.size, 1, none⟩ (.int .i64 s)).setCell ⟨wd.heap.size, 2, none⟩ (.int .i64 lo)).setCell ⟨wd.heap.size, 3, none⟩ (.int .i64 hi)).setCell ⟨wd.heap.size, 4, none⟩ (.int .i64 tm)) = Z3 at *
          try simp only [Act.put, List.setIfInBounds_toArray, List.set_cons_zero, List.set_cons_succ]
          refine wpAnyH_ready (rs := [5]) (by kernel_rfl) (by simp) ?_
          refine AllReadyH.cons rfl (fun K hK => ?_) AllReadyH.nil
          go_simp
          replace e0 : (((((Z3.setCell ⟨Z1.heap.size, 0, none⟩ (.int .i64 a)).setCell ⟨Z1.heap.size, 1, none⟩ (.int .i64 s)).setCell ⟨Z1.heap.size, 2, none⟩ (.int .i64 lo)).setCell ⟨Z1.heap.size, 3, none⟩ (.int .i64 hi)).setCell ⟨Z1.heap.size, 4, none⟩ (.int .i64 tm)).cell? ⟨g8, 0, none⟩ = some (.int .i64 a) := ((World.cell?_setCell_other _ _ _ _ (by intro e; injection e with e1 e2; omega)).trans ((World.cell?_setCell_other _ _ _ _ (by intro e; injection e with e1 e2; omega)).trans ((World.cell?_setCell_other _ _ _ _ (by intro e; injection e with e1 e2; omega)).trans ((World.cell?_setCell_other _ _ _ _ (by intro e; injection e with e1 e2; omega)).trans ((World.cell?_setCell_other _ _ _ _ (by intro e; injection e with e1 e2; omega)).trans e0)))))
          replace e1 : (((((Z3.setCell ⟨Z1.heap.size, 0, none⟩ (.int .i64 a)).setCell ⟨Z1.heap.size, 1, none⟩ (.int .i64 s)).setCell ⟨Z1.heap.size, 2, none⟩ (.int .i64 lo)).setCell ⟨Z1.heap.size, 3, none⟩ (.int .i64 hi)).setCell ⟨Z1.heap.size, 4, none⟩ (.int .i64 tm)).cell? ⟨g8, 1, none⟩ = some (.int .i64 s) := ((World.cell?_setCell_other _ _ _ _ (by intro e; injection e with e1 e2; omega)).trans ((World.cell?_setCell_other _ _ _ _ (by intro e; injection e with e1 e2; omega)).trans ((World.cell?_setCell_other _ _ _ _ (by intro e; injection e with e1 e2; omega)).trans ((World.cell?_setCell_other _ _ _ _ (by intro e; injection e with e1 e2; omega)).trans ((World.cell?_setCell_other _ _ _ _ (by intro e; injection e with e1 e2; omega)).trans e1)))))
          replace e2 : (((((Z3.setCell ⟨Z1.heap.size, 0, none⟩ (.int .i64 a)).setCell ⟨Z1.heap.size, 1, none⟩ (.int .i64 s)).setCell ⟨Z1.heap.size, 2, none⟩ (.int .i64 lo)).setCell ⟨Z1.heap.size, 3, none⟩ (.int .i64 hi)).setCell ⟨Z1.heap.size, 4, none⟩ (.int .i64 tm)).cell? ⟨g8, 2, none⟩ = some (.int .i64 lo) := ((World.cell?_setCell_other _ _ _ _ (by intro e; injection e with e1 e2; omega)).trans ((World.cell?_setCell_other _ _ _ _ (by intro e; injection e with e1 e2; omega)).trans ((World.cell?_setCell_other _ _ _ _ (by intro e; injection e with e1 e2; omega)).trans ((World.cell?_setCell_other _ _ _ _ (by intro e; injection e with e1 e2; omega)).trans ((World.cell?_setCell_other _ _ _ _ (by intro e; injection e with e1 e2; omega)).trans e2)))))
          replace e3 : (((((Z3.setCell ⟨Z1.heap.size, 0, none⟩ (.int .i64 a)).setCell ⟨Z1.heap.size, 1, none⟩ (.int .i64 s)).setCell ⟨Z1.heap.size, 2, none⟩ (.int .i64 lo)).setCell ⟨Z1.heap.size, 3, none⟩ (.int .i64 hi)).setCell ⟨Z1.heap.size, 4, none⟩ (.int .i64 tm)).cell? ⟨g8, 3, none⟩ = some (.int .i64 hi) := ((World.cell?_setCell_other _ _ _ _ (by intro e; injection e with e1 e2; omega)).trans ((World.cell?_setCell_other _ _ _ _ (by intro e; injection e with e1 e2; omega)).trans ((World.cell?_setCell_other _ _ _ _ (by intro e; injection e with e1 e2; omega)).trans ((World.cell?_setCell_other _ _ _ _ (by intro e; injection e with e1 e2; omega)).trans ((World.cell?_setCell_other _ _ _ _ (by intro e; injection e with e1 e2; omega)).trans e3)))))
          replace e4 : (((((Z3.setCell ⟨Z1.heap.size, 0, none⟩ (.int .i64 a)).setCell ⟨Z1.heap.size, 1, none⟩ (.int .i64 s)).setCell ⟨Z1.heap.size, 2, none⟩ (.int .i64 lo)).setCell ⟨Z1.heap.size, 3, none⟩ (.int .i64 hi)).setCell ⟨Z1.heap.size, 4, none⟩ (.int .i64 tm)).cell? ⟨g8, 4, none⟩ = some (.int .i64 tm) := ((World.cell?_setCell_other _ _ _ _ (by intro e; injection e with e1 e2; omega)).trans ((World.cell?_setCell_other _ _ _ _ (by intro e; injection e with e1 e2; omega)).trans ((World.cell?_setCell_other _ _ _ _ (by intro e; injection e with e1 e2; omega)).trans ((World.cell?_setCell_other _ _ _ _ (by intro e; injection e with e1 e2; omega)).trans ((World.cell?_setCell_other _ _ _ _ (by intro e; injection e with e1 e2; omega)).trans e4)))))
          replace ef0 : (((((Z3.setCell ⟨Z1.heap.size, 0, none⟩ (.int .i64 a)).setCell ⟨Z1.heap.size, 1, none⟩ (.int .i64 s)).setCell ⟨Z1.heap.size, 2, none⟩ (.int .i64 lo)).setCell ⟨Z1.heap.size, 3, none⟩ (.int .i64 hi)).setCell ⟨Z1.heap.size, 4, none⟩ (.int .i64 tm)).frozen? ⟨g8, 0, none⟩ = false := by simp [go_sem, ef0]
          replace ef1 : (((((Z3.setCell ⟨Z1.heap.size, 0, none⟩ (.int .i64 a)).setCell ⟨Z1.heap.size, 1, none⟩ (.int .i64 s)).setCell ⟨Z1.heap.size, 2, none⟩ (.int .i64 lo)).setCell ⟨Z1.heap.size, 3, none⟩ (.int .i64 hi)).setCell ⟨Z1.heap.size, 4, none⟩ (.int .i64 tm)).frozen? ⟨g8, 1, none⟩ = false := by simp [go_sem, ef1]
          replace Pf0 : (((((Z3.setCell ⟨Z1.heap.size, 0, none⟩ (.int .i64 a)).setCell ⟨Z1.heap.size, 1, none⟩ (.int .i64 s)).setCell ⟨Z1.heap.size, 2, none⟩ (.int .i64 lo)).setCell ⟨Z1.heap.size, 3, none⟩ (.int .i64 hi)).setCell ⟨Z1.heap.size, 4, none⟩ (.int .i64 tm)).frozen? ⟨wd.heap.size, 0, none⟩ = false := by simp [go_sem, Pf0]
          replace Pf1 : (((((Z3.setCell ⟨Z1.heap.size, 0, none⟩ (.int .i64 a)).setCell ⟨Z1.heap.size, 1, none⟩ (.int .i64 s)).setCell ⟨Z1.heap.size, 2, none⟩ (.int .i64 lo)).setCell ⟨Z1.heap.size, 3, none⟩ (.int .i64 hi)).setCell ⟨Z1.heap.size, 4, none⟩ (.int .i64 tm)).frozen? ⟨wd.heap.size, 1, none⟩ = false := by simp [go_sem, Pf1]
          replace Pf2 : (((((Z3.setCell ⟨Z1.heap.size, 0, none⟩ (.int .i64 a)).setCell ⟨Z1.heap.size, 1, none⟩ (.int .i64 s)).setCell ⟨Z1.heap.size, 2, none⟩ (.int .i64 lo)).setCell ⟨Z1.heap.size, 3, none⟩ (.int .i64 hi)).setCell ⟨Z1.heap.size, 4, none⟩ (.int .i64 tm)).frozen? ⟨wd.heap.size, 2, none⟩ = false := by simp [go_sem, Pf2]
          replace Pf3 : (((((Z3.setCell ⟨Z1.heap.size, 0, none⟩ (.int .i64 a)).setCell ⟨Z1.heap.size, 1, none⟩ (.int .i64 s)).setCell ⟨Z1.heap.size, 2, none⟩ (.int .i64 lo)).setCell ⟨Z1.heap.size, 3, none⟩ (.int .i64 hi)).setCell ⟨Z1.heap.size, 4, none⟩ (.int .i64 tm)).frozen? ⟨wd.heap.size, 3, none⟩ = false := by simp [go_sem, Pf3]
          replace Pf4 : (((((Z3.setCell ⟨Z1.heap.size, 0, none⟩ (.int .i64 a)).setCell ⟨Z1.heap.size, 1, none⟩ (.int .i64 s)).setCell ⟨Z1.heap.size, 2, none⟩ (.int .i64 lo)).setCell ⟨Z1.heap.size, 3, none⟩ (.int .i64 hi)).setCell ⟨Z1.heap.size, 4, none⟩ (.int .i64 tm)).frozen? ⟨wd.heap.size, 4, none⟩ = false := by simp [go_sem, Pf4]
          replace P0 : (((((Z3.setCell ⟨Z1.heap.size, 0, none⟩ (.int .i64 a)).setCell ⟨Z1.heap.size, 1, none⟩ (.int .i64 s)).setCell ⟨Z1.heap.size, 2, none⟩ (.int .i64 lo)).setCell ⟨Z1.heap.size, 3, none⟩ (.int .i64 hi)).setCell ⟨Z1.heap.size, 4, none⟩ (.int .i64 tm)).cell? ⟨wd.heap.size, 0, none⟩ = some (.int .i64 a) := ((World.cell?_setCell_other _ _ _ _ (by intro e; injection e with e1 e2; omega)).trans ((World.cell?_setCell_other _ _ _ _ (by intro e; injection e with e1 e2; omega)).trans ((World.cell?_setCell_other _ _ _ _ (by intro e; injection e with e1 e2; omega)).trans ((World.cell?_setCell_other _ _ _ _ (by intro e; injection e with e1 e2; omega)).trans ((World.cell?_setCell_other _ _ _ _ (by intro e; injection e with e1 e2; omega)).trans P0)))))
          replace P1 : (((((Z3.setCell ⟨Z1.heap.size, 0, none⟩ (.int .i64 a)).setCell ⟨Z1.heap.size, 1, none⟩ (.int .i64 s)).setCell ⟨Z1.heap.size, 2, none⟩ (.int .i64 lo)).setCell ⟨Z1.heap.size, 3, none⟩ (.int .i64 hi)).setCell ⟨Z1.heap.size, 4, none⟩ (.int .i64 tm)).cell? ⟨wd.heap.size, 1, none⟩ = some (.int .i64 s) := ((World.cell?_setCell_other _ _ _ _ (by intro e; injection e with e1 e2; omega)).trans ((World.cell?_setCell_other _ _ _ _ (by intro e; injection e with e1 e2; omega)).trans ((World.cell?_setCell_other _ _ _ _ (by intro e; injection e with e1 e2; omega)).trans ((World.cell?_setCell_other _ _ _ _ (by intro e; injection e with e1 e2; omega)).trans ((World.cell?_setCell_other _ _ _ _ (by intro e; injection e with e1 e2; omega)).trans P1)))))
          replace P2 : (((((Z3.setCell ⟨Z1.heap.size, 0, none⟩ (.int .i64 a)).setCell ⟨Z1.heap.size, 1, none⟩ (.int .i64 s)).setCell ⟨Z1.heap.size, 2, none⟩ (.int .i64 lo)).setCell ⟨Z1.heap.size, 3, none⟩ (.int .i64 hi)).setCell ⟨Z1.heap.size, 4, none⟩ (.int .i64 tm)).cell? ⟨wd.heap.size, 2, none⟩ = some (.int .i64 lo) := ((World.cell?_setCell_other _ _ _ _ (by intro e; injection e with e1 e2; omega)).trans ((World.cell?_setCell_other _ _ _ _ (by intro e; injection e with e1 e2; omega)).trans ((World.cell?_setCell_other _ _ _ _ (by intro e; injection e with e1 e2; omega)).trans ((World.cell?_setCell_other _ _ _ _ (by intro e; injection e with e1 e2; omega)).trans ((World.cell?_setCell_other _ _ _ _ (by intro e; injection e with e1 e2; omega)).trans P2)))))
          replace P3 : (((((Z3.setCell ⟨Z1.heap.size, 0, none⟩ (.int .i64 a)).setCell ⟨Z1.heap.size, 1, none⟩ (.int .i64 s)).setCell ⟨Z1.heap.size, 2, none⟩ (.int .i64 lo)).setCell ⟨Z1.heap.size, 3, none⟩ (.int .i64 hi)).setCell ⟨Z1.heap.size, 4, none⟩ (.int .i64 tm)).cell? ⟨wd.heap.size, 3, none⟩ = some (.int .i64 hi) := ((World.cell?_setCell_other _ _ _ _ (by intro e; injection e with e1 e2; omega)).trans ((World.cell?_setCell_other _ _ _ _ (by intro e; injection e with e1 e2; omega)).trans ((World.cell?_setCell_other _ _ _ _ (by intro e; injection e with e1 e2; omega)).trans ((World.cell?_setCell_other _ _ _ _ (by intro e; injection e with e1 e2; omega)).trans ((World.cell?_setCell_other _ _ _ _ (by intro e; injection e with e1 e2; omega)).trans P3)))))
          replace P4 : (((((Z3.setCell ⟨Z1.heap.size, 0, none⟩ (.int .i64 a)).setCell ⟨Z1.heap.size, 1, none⟩ (.int .i64 s)).setCell ⟨Z1.heap.size, 2, none⟩ (.int .i64 lo)).setCell ⟨Z1.heap.size, 3, none⟩ (.int .i64 hi)).setCell ⟨Z1.heap.size, 4, none⟩ (.int .i64 tm)).cell? ⟨wd.heap.size, 4, none⟩ = some (.int .i64 tm) := ((World.cell?_setCell_other _ _ _ _ (by intro e; injection e with e1 e2; omega)).trans ((World.cell?_setCell_other _ _ _ _ (by intro e; injection e with e1 e2; omega)).trans ((World.cell?_setCell_other _ _ _ _ (by intro e; injection e with e1 e2; omega)).trans ((World.cell?_setCell_other _ _ _ _ (by intro e; injection e with e1 e2; omega)).trans ((World.cell?_setCell_other _ _ _ _ (by intro e; injection e with e1 e2; omega)).trans P4)))))
          replace Qf0 : (((((Z3.setCell ⟨Z1.heap.size, 0, none⟩ (.int .i64 a)).setCell ⟨Z1.heap.size, 1, none⟩ (.int .i64 s)).setCell ⟨Z1.heap.size, 2, none⟩ (.int .i64 lo)).setCell ⟨Z1.heap.size, 3, none⟩ (.int .i64 hi)).setCell ⟨Z1.heap.size, 4, none⟩ (.int .i64 tm)).frozen? ⟨Z1.heap.size, 0, none⟩ = false := by simp [go_sem, Qf0]
          replace Qf1 : (((((Z3.setCell ⟨Z1.heap.size, 0, none⟩ (.int .i64 a)).setCell ⟨Z1.heap.size, 1, none⟩ (.int .i64 s)).setCell ⟨Z1.heap.size, 2, none⟩ (.int .i64 lo)).setCell ⟨Z1.heap.size, 3, none⟩ (.int .i64 hi)).setCell ⟨Z1.heap.size, 4, none⟩ (.int .i64 tm)).frozen? ⟨Z1.heap.size, 1, none⟩ = false := by simp [go_sem, Qf1]
          replace Qf2 : (((((Z3.setCell ⟨Z1.heap.size, 0, none⟩ (.int .i64 a)).setCell ⟨Z1.heap.size, 1, none⟩ (.int .i64 s)).setCell ⟨Z1.heap.size, 2, none⟩ (.int .i64 lo)).setCell ⟨Z1.heap.size, 3, none⟩ (.int .i64 hi)).setCell ⟨Z1.heap.size, 4, none⟩ (.int .i64 tm)).frozen? ⟨Z1.heap.size, 2, none⟩ = false := by simp [go_sem, Qf2]
          replace Qf3 : (((((Z3.setCell ⟨Z1.heap.size, 0, none⟩ (.int .i64 a)).setCell ⟨Z1.heap.size, 1, none⟩ (.int .i64 s)).setCell ⟨Z1.heap.size, 2, none⟩ (.int .i64 lo)).setCell ⟨Z1.heap.size, 3, none⟩ (.int .i64 hi)).setCell ⟨Z1.heap.size, 4, none⟩ (.int .i64 tm)).frozen? ⟨Z1.heap.size, 3, none⟩ = false := by simp [go_sem, Qf3]
          replace Qf4 : (((((Z3.setCell ⟨Z1.heap.size, 0, none⟩ (.int .i64 a)).setCell ⟨Z1.heap.size, 1, none⟩ (.int .i64 s)).setCell ⟨Z1.heap.size, 2, none⟩ (.int .i64 lo)).setCell ⟨Z1.heap.size, 3, none⟩ (.int .i64 hi)).setCell ⟨Z1.heap.size, 4, none⟩ (.int .i64 tm)).frozen? ⟨Z1.heap.size, 4, none⟩ = false := by simp [go_sem, Qf4]
          replace Q0 : (((((Z3.setCell ⟨Z1.heap.size, 0, none⟩ (.int .i64 a)).setCell ⟨Z1.heap.size, 1, none⟩ (.int .i64 s)).setCell ⟨Z1.heap.size, 2, none⟩ (.int .i64 lo)).setCell ⟨Z1.heap.size, 3, none⟩ (.int .i64 hi)).setCell ⟨Z1.heap.size, 4, none⟩ (.int .i64 tm)).cell? ⟨Z1.heap.size, 0, none⟩ = some (.int .i64 a) := by simp [go_sem, Q0]
          replace Q1 : (((((Z3.setCell ⟨Z1.heap.size, 0, none⟩ (.int .i64 a)).setCell ⟨Z1.heap.size, 1, none⟩ (.int .i64 s)).setCell ⟨Z1.heap.size, 2, none⟩ (.int .i64 lo)).setCell ⟨Z1.heap.size, 3, none⟩ (.int .i64 hi)).setCell ⟨Z1.heap.size, 4, none⟩ (.int .i64 tm)).cell? ⟨Z1.heap.size, 1, none⟩ = some (.int .i64 s) := by simp [go_sem, Q1]
          replace Q2 : (((((Z3.setCell ⟨Z1.heap.size, 0, none⟩ (.int .i64 a)).setCell ⟨Z1.heap.size, 1, none⟩ (.int .i64 s)).setCell ⟨Z1.heap.size, 2, none⟩ (.int .i64 lo)).setCell ⟨Z1.heap.size, 3, none⟩ (.int .i64 hi)).setCell ⟨Z1.heap.size, 4, none⟩ (.int .i64 tm)).cell? ⟨Z1.heap.size, 2, none⟩ = some (.int .i64 lo) := by simp [go_sem, Q2]
          replace Q3 : (((((Z3.setCell ⟨Z1.heap.size, 0, none⟩ (.int .i64 a)).setCell ⟨Z1.heap.size, 1, none⟩ (.int .i64 s)).setCell ⟨Z1.heap.size, 2, none⟩ (.int .i64 lo)).setCell ⟨Z1.heap.size, 3, none⟩ (.int .i64 hi)).setCell ⟨Z1.heap.size, 4, none⟩ (.int .i64 tm)).cell? ⟨Z1.heap.size, 3, none⟩ = some (.int .i64 hi) := by simp [go_sem, Q3]
          replace Q4 : (((((Z3.setCell ⟨Z1.heap.size, 0, none⟩ (.int .i64 a)).setCell ⟨Z1.heap.size, 1, none⟩ (.int .i64 s)).setCell ⟨Z1.heap.size, 2, none⟩ (.int .i64 lo)).setCell ⟨Z1.heap.size, 3, none⟩ (.int .i64 hi)).setCell ⟨Z1.heap.size, 4, none⟩ (.int .i64 tm)).cell? ⟨Z1.heap.size, 4, none⟩ = some (.int .i64 tm) := by simp [go_sem, Q4]
          replace n8 : g8 < (((((Z3.setCell ⟨Z1.heap.size, 0, none⟩ (.int .i64 a)).setCell ⟨Z1.heap.size, 1, none⟩ (.int .i64 s)).setCell ⟨Z1.heap.size, 2, none⟩ (.int .i64 lo)).setCell ⟨Z1.heap.size, 3, none⟩ (.int .i64 hi)).setCell ⟨Z1.heap.size, 4, none⟩ (.int .i64 tm)).heap.size := by simpa [World.setCell] using n8
          replace nP : wd.heap.size < (((((Z3.setCell ⟨Z1.heap.size, 0, none⟩ (.int .i64 a)).setCell ⟨Z1.heap.size, 1, none⟩ (.int .i64 s)).setCell ⟨Z1.heap.size, 2, none⟩ (.int .i64 lo)).setCell ⟨Z1.heap.size, 3, none⟩ (.int .i64 hi)).setCell ⟨Z1.heap.size, 4, none⟩ (.int .i64 tm)).heap.size := by simpa [World.setCell] using nP
          replace nQ : Z1.heap.size < (((((Z3.setCell ⟨Z1.heap.size, 0, none⟩ (.int .i64 a)).setCell ⟨Z1.heap.size, 1, none⟩ (.int .i64 s)).setCell ⟨Z1.heap.size, 2, none⟩ (.int .i64 lo)).setCell ⟨Z1.heap.size, 3, none⟩ (.int .i64 hi)).setCell ⟨Z1.heap.size, 4, none⟩ (.int .i64 tm)).heap.size := by simpa [World.setCell] using nQ
          replace hL := hL.setCell (p := ⟨Z1.heap.size, 0, none⟩) (by show (g8 + 1) ≤ Z1.heap.size; omega) (.int .i64 a)
          replace hL := hL.setCell (p := ⟨Z1.heap.size, 1, none⟩) (by show (g8 + 1) ≤ Z1.heap.size; omega) (.int .i64 s)
          replace hL := hL.setCell (p := ⟨Z1.heap.size, 2, none⟩) (by show (g8 + 1) ≤ Z1.heap.size; omega) (.int .i64 lo)
          replace hL := hL.setCell (p := ⟨Z1.heap.size, 3, none⟩) (by show (g8 + 1) ≤ Z1.heap.size; omega) (.int .i64 hi)
          replace hL := hL.setCell (p := ⟨Z1.heap.size, 4, none⟩) (by show (g8 + 1) ≤ Z1.heap.size; omega) (.int .i64 tm)
          refine hK.out _ _ ⟨e0, e1, e2, e3, e4, trivial⟩ (fun hHeld => ?_)
          clear hK K
          generalize (((((Z3.setCell ⟨Z1.heap.size, 0, none⟩ (.int .i64 a)).setCell ⟨Z1.heap.size, 1, none⟩ (.int .i64 s)).setCell ⟨Z1.heap.size, 2, none⟩ (.int .i64 lo)).setCell ⟨Z1.heap.size, 3, none⟩ (.int .i64 hi)).setCell ⟨Z1.heap.size, 4, none⟩ (.int .i64 tm)) = Z4 at *
          try simp only [Act.put, List.setIfInBounds_toArray, List.set_cons_zero, List.set_cons_succ]
          refine wpAnyH_done (by kernel_rfl) ?_ _
          have hne9 : wd.heap.size ≠ Z1.heap.size := by omega
          have h89 : g8 < wd.heap.size := by omega
          have h810 : g8 < Z1.heap.size := by omega
          generalize wd.heap.size = g9 at *
          generalize Z1.heap.size = g10 at *
          exact key g9 g10 Z4 ⟨⟨n8, e0, e1, e2, e3, e4, ef0, ef1⟩, ⟨nP, P0, P1, P2, P3, P4, Pf0, Pf1⟩, ⟨nQ, Q0, Q1, Q2, Q3, Q4, Qf0, Qf1⟩, h89, h810, hne9, hL⟩
        · go_simp
          have hb := (Below.refl wd.heap.size wd).alloc (Nat.le_refl _) (Obj.cells #[.int .i64 0, .int .i64 0, .int .i64 0, .int .i64 0, .int .i64 0] 92)
          have ord5n8 := n8
          replace e0 := cell_next hb n8 e0
          replace e1 := cell_next hb n8 e1
          replace e2 := cell_next hb n8 e2
          replace e3 := cell_next hb n8 e3
          replace e4 := cell_next hb n8 e4
          replace ef0 := frozen_next hb n8 ef0
          replace ef1 := frozen_next hb n8 ef1
          replace n8 := Nat.lt_of_lt_of_le n8 hb.size
          replace hL := hL.trans (hb.mono (Nat.le_trans hBW hL.size))
          have Qf0 : (wd.alloc (Obj.cells #[.int .i64 0, .int .i64 0, .int .i64 0, .int .i64 0, .int .i64 0] 92)).frozen? ⟨wd.heap.size, 0, none⟩ = false := by simp [go_sem]
          have Qf1 : (wd.alloc (Obj.cells #[.int .i64 0, .int .i64 0, .int .i64 0, .int .i64 0, .int .i64 0] 92)).frozen? ⟨wd.heap.size, 1, none⟩ = false := by simp [go_sem]
          have Qf2 : (wd.alloc (Obj.cells #[.int .i64 0, .int .i64 0, .int .i64 0, .int .i64 0, .int .i64 0] 92)).frozen? ⟨wd.heap.size, 2, none⟩ = false := by simp [go_sem]
          have Qf3 : (wd.alloc (Obj.cells #[.int .i64 0, .int .i64 0, .int .i64 0, .int .i64 0, .int .i64 0] 92)).frozen? ⟨wd.heap.size, 3, none⟩ = false := by simp [go_sem]
          have Qf4 : (wd.alloc (Obj.cells #[.int .i64 0, .int .i64 0, .int .i64 0, .int .i64 0, .int .i64 0] 92)).frozen? ⟨wd.heap.size, 4, none⟩ = false := by simp [go_sem]
          have Q0 : (wd.alloc (Obj.cells #[.int .i64 0, .int .i64 0, .int .i64 0, .int .i64 0, .int .i64 0] 92)).cell? ⟨wd.heap.size, 0, none⟩ = some (.int .i64 0) := cell_new _ _ _ 0
          have Q1 : (wd.alloc (Obj.cells #[.int .i64 0, .int .i64 0, .int .i64 0, .int .i64 0, .int .i64 0] 92)).cell? ⟨wd.heap.size, 1, none⟩ = some (.int .i64 0) := cell_new _ _ _ 1
          have Q2 : (wd.alloc (Obj.cells #[.int .i64 0, .int .i64 0, .int .i64 0, .int .i64 0, .int .i64 0] 92)).cell? ⟨wd.heap.size, 2, none⟩ = some (.int .i64 0) := cell_new _ _ _ 2
          have Q3 : (wd.alloc (Obj.cells #[.int .i64 0, .int .i64 0, .int .i64 0, .int .i64 0, .int .i64 0] 92)).cell? ⟨wd.heap.size, 3, none⟩ = some (.int .i64 0) := cell_new _ _ _ 3
          have Q4 : (wd.alloc (Obj.cells #[.int .i64 0, .int .i64 0, .int .i64 0, .int .i64 0, .int .i64 0] 92)).cell? ⟨wd.heap.size, 4, none⟩ = some (.int .i64 0) := cell_new _ _ _ 4
          have nQ : wd.heap.size < (wd.alloc (Obj.cells #[.int .i64 0, .int .i64 0, .int .i64 0, .int .i64 0, .int .i64 0] 92)).heap.size := by simp
          refine hK.out _ _ ⟨e0, e1, e2, e3, e4, trivial⟩ (fun hHeld => ?_)
          clear hK K hb
          generalize wd.alloc (Obj.cells #[.int .i64 0, .int .i64 0, .int .i64 0, .int .i64 0, .int .i64 0] 92) = Z5 at *
          try simp only [Act.put, List.setIfInBounds_toArray, List.set_cons_zero, List.set_cons_succ]
          refine wpAnyH_ready (rs := [2]) (by kernel_rfl) (by simp) ?_
          refine AllReadyH.cons rfl (fun K hK => ?_) AllReadyH.nil
          go_simp
          have hb := (Below.refl Z5.heap.size Z5).alloc (Nat.le_refl _) (Obj.cells #[.int .i64 0, .int .i64 0, .int .i64 0, .int .i64 0, .int .i64 0] 92)
          have ord6n8 := n8
          have ord6nQ := nQ
          replace e0 := cell_next hb n8 e0
          replace e1 := cell_next hb n8 e1
          replace e2 := cell_next hb n8 e2
          replace e3 := cell_next hb n8 e3
          replace e4 := cell_next hb n8 e4
          replace ef0 := frozen_next hb n8 ef0
          replace ef1 := frozen_next hb n8 ef1
          replace Qf0 := frozen_next hb nQ Qf0
          replace Qf1 := frozen_next hb nQ Qf1
          replace Qf2 := frozen_next hb nQ Qf2
          replace Qf3 := frozen_next hb nQ Qf3
          replace Qf4 := frozen_next hb nQ Qf4
          replace Q0 := cell_next hb nQ Q0
          replace Q1 := cell_next hb nQ Q1
          replace Q2 := cell_next hb nQ Q2
          replace Q3 := cell_next hb nQ Q3
          replace Q4 := cell_next hb nQ Q4
          replace n8 := Nat.lt_of_lt_of_le n8 hb.size
          replace nQ := Nat.lt_of_lt_of_le nQ hb.size
          replace hL := hL.trans (hb.mono (Nat.le_trans hBW hL.size))
          have Pf0 : (Z5.alloc (Obj.cells #[.int .i64 0, .int .i64 0, .int .i64 0, .int .i64 0, .int .i64 0] 92)).frozen? ⟨Z5.heap.size, 0, none⟩ = false := by simp [go_sem]
          have Pf1 : (Z5.alloc (Obj.cells #[.int .i64 0, .int .i64 0, .int .i64 0, .int .i64 0, .int .i64 0] 92)).frozen? ⟨Z5.heap.size, 1, none⟩ = false := by simp [go_sem]
          have Pf2 : (Z5.alloc (Obj.cells #[.int .i64 0, .int .i64 0, .int .i64 0, .int .i64 0, .int .i64 0] 92)).frozen? ⟨Z5.heap.size, 2, none⟩ = false := by simp [go_sem]
          have Pf3 : (Z5.alloc (Obj.cells #[.int .i64 0, .int .i64 0, .int .i64 0, .int .i64 0, .int .i64 0] 92)).frozen? ⟨Z5.heap.size, 3, none⟩ = false := by simp [go_sem]
          have Pf4 : (Z5.alloc (Obj.cells #[.int .i64 0, .int .i64 0, .int .i64 0, .int .i64 0, .int .i64 0] 92)).frozen? ⟨Z5.heap.size, 4, none⟩ = false := by simp [go_sem]
          have P0 : (Z5.alloc (Obj.cells #[.int .i64 0, .int .i64 0, .int .i64 0, .int .i64 0, .int .i64 0] 92)).cell? ⟨Z5.heap.size, 0, none⟩ = some (.int .i64 0) := cell_new _ _ _ 0
          have P1 : (Z5.alloc (Obj.cells #[.int .i64 0, .int .i64 0, .int .i64 0, .int .i64 0, .int .i64 0] 92)).cell? ⟨Z5.heap.size, 1, none⟩ = some (.int .i64 0) := cell_new _ _ _ 1
          have P2 : (Z5.alloc (Obj.cells #[.int .i64 0, .int .i64 0, .int .i64 0, .int .i64 0, .int .i64 0] 92)).cell? ⟨Z5.heap.size, 2, none⟩ = some (.int .i64 0) := cell_new _ _ _ 2
          have P3 : (Z5.alloc (Obj.cells #[.int .i64 0, .int .i64 0, .int .i64 0, .int .i64 0, .int .i64 0] 92)).cell? ⟨Z5.heap.size, 3, none⟩ = some (.int .i64 0) := cell_new _ _ _ 3
          have P4 : (Z5.alloc (Obj.cells #[.int .i64 0, .int .i64 0, .int .i64 0, .int .i64 0, .int .i64 0] 92)).cell? ⟨Z5.heap.size, 4, none⟩ = some (.int .i64 0) := cell_new _ _ _ 4
          have nP : Z5.heap.size < (Z5.alloc (Obj.cells #[.int .i64 0, .int .i64 0, .int .i64 0, .int .i64 0, .int .i64 0] 92)).heap.size := by simp
          refine hK.out _ _ ⟨e0, e1, e2, e3, e4, trivial⟩ (fun hHeld => ?_)
          clear hK K hb
          generalize Z5.alloc (Obj.cells #[.int .i64 0, .int .i64 0, .int .i64 0, .int .i64 0, .int .i64 0] 92) = Z6 at *
          try simp only [Act.put, List.setIfInBounds_toArray, List.set_cons_zero, List.set_cons_succ]
          refine wpAnyH_ready (rs := [4]) (by kernel_rfl) (by simp) ?_
          refine AllReadyH.cons rfl (fun K hK => ?_) AllReadyH.nil
          go_simp
          replace e0 : (((((Z6.setCell ⟨Z5.heap.size, 0, none⟩ (.int .i64 a)).setCell ⟨Z5.heap.size, 1, none⟩ (.int .i64 s)).setCell ⟨Z5.heap.size, 2, none⟩ (.int .i64 lo)).setCell ⟨Z5.heap.size, 3, none⟩ (.int .i64 hi)).setCell ⟨Z5.heap.size, 4, none⟩ (.int .i64 tm)).cell? ⟨g8, 0, none⟩ = some (.int .i64 a) := ((World.cell?_setCell_other _ _ _ _ (by intro e; injection e with e1 e2; omega)).trans ((World.cell?_setCell_other _ _ _ _ (by intro e; injection e with e1 e2; omega)).trans ((World.cell?_setCell_other _ _ _ _ (by intro e; injection e with e1 e2; omega)).trans ((World.cell?_setCell_other _ _ _ _ (by intro e; injection e with e1 e2; omega)).trans ((World.cell?_setCell_other _ _ _ _ (by intro e; injection e with e1 e2; omega)).trans e0)))))
          replace e1 : (((((Z6.setCell ⟨Z5.heap.size, 0, none⟩ (.int .i64 a)).setCell ⟨Z5.heap.size, 1, none⟩ (.int .i64 s)).setCell ⟨Z5.heap.size, 2, none⟩ (.int .i64 lo)).setCell ⟨Z5.heap.size, 3, none⟩ (.int .i64 hi)).setCell ⟨Z5.heap.size, 4, none⟩ (.int .i64 tm)).cell? ⟨g8, 1, none⟩ = some (.int .i64 s) := ((World.cell?_setCell_other _ _ _ _ (by intro e; injection e with e1 e2; omega)).trans ((World.cell?_setCell_other _ _ _ _ (by intro e; injection e with e1 e2; omega)).trans ((World.cell?_setCell_other _ _ _ _ (by intro e; injection e with e1 e2; omega)).trans ((World.cell?_setCell_other _ _ _ _ (by intro e; injection e with e1 e2; omega)).trans ((World.cell?_setCell_other _ _ _ _ (by intro e; injection e with e1 e2; omega)).trans e1)))))
          replace e2 : (((((Z6.setCell ⟨Z5.heap.size, 0, none⟩ (.int .i64 a)).setCell ⟨Z5.heap.size, 1, none⟩ (.int .i64 s)).setCell ⟨Z5.heap.size, 2, none⟩ (.int .i64 lo)).setCell ⟨Z5.heap.size, 3, none⟩ (.int .i64 hi)).setCell ⟨Z5.heap.size, 4, none⟩ (.int .i64 tm)).cell? ⟨g8, 2, none⟩ = some (.int .i64 lo) := ((World.cell?_setCell_other _ _ _ _ (by intro e; injection e with e1 e2; omega)).trans ((World.cell?_setCell_other _ _ _ _ (by intro e; injection e with e1 e2; omega)).trans ((World.cell?_setCell_other _ _ _ _ (by intro e; injection e with e1 e2; omega)).trans ((World.cell?_setCell_other _ _ _ _ (by intro e; injection e with e1 e2; omega)).trans ((World.cell?_setCell_other _ _ _ _ (by intro e; injection e with e1 e2; omega)).trans e2)))))
          replace e3 : (((((Z6.setCell ⟨Z5.heap.size, 0, none⟩ (.int .i64 a)).setCell ⟨Z5.heap.size, 1, none⟩ (.int .i64 s)).setCell ⟨Z5.heap.size, 2, none⟩ (.int .i64 lo)).setCell ⟨Z5.heap.size, 3, none⟩ (.int .i64 hi)).setCell ⟨Z5.heap.size, 4, none⟩ (.int .i64 tm)).cell? ⟨g8, 3, none⟩ = some (.int .i64 hi) := ((World.cell?_setCell_other _ _ _ _ (by intro e; injection e with e1 e2; omega)).trans ((World.cell?_setCell_other _ _ _ _ (by intro e; injection e with e1 e2; omega)).trans ((World.cell?_setCell_other _ _ _ _ (by intro e; injection e with e1 e2; omega)).trans ((World.cell?_setCell_other _ _ _ _ (by intro e; injection e with e1 e2; omega)).trans ((World.cell?_setCell_other _ _ _ _ (by intro e; injection e with e1 e2; omega)).trans e3)))))
          replace e4 : (((((Z6.setCell ⟨Z5.heap.size, 0, none⟩ (.int .i64 a)).setCell ⟨Z5.heap.size, 1, none⟩ (.int .i64 s)).setCell ⟨Z5.heap.size, 2, none⟩ (.int .i64 lo)).setCell ⟨Z5.heap.size, 3, none⟩ (.int .i64 hi)).setCell ⟨Z5.heap.size, 4, none⟩ (.int .i64 tm)).cell? ⟨g8, 4, none⟩ = some (.int .i64 tm) := ((World.cell?_setCell_other _ _ _ _ (by intro e; injection e with e1 e2; omega)).trans ((World.cell?_setCell_other _ _ _ _ (by intro e; injection e with e1 e2; omega)).trans ((World.cell?_setCell_other _ _ _ _ (by intro e; injection e with e1 e2; omega)).trans ((World.cell?_setCell_other _ _ _ _ (by intro e; injection e with e1 e2; omega)).trans ((World.cell?_setCell_other _ _ _ _ (by intro e; injection e with e1 e2; omega)).trans e4)))))
          replace ef0 : (((((Z6.setCell ⟨Z5.heap.size, 0, none⟩ (.int .i64 a)).setCell ⟨Z5.heap.size, 1, none⟩ (.int .i64 s)).setCell ⟨Z5.heap.size, 2, none⟩ (.int .i64 lo)).setCell ⟨Z5.heap.size, 3, none⟩ (.int .i64 hi)).setCell ⟨Z5.heap.size, 4, none⟩ (.int .i64 tm)).frozen? ⟨g8, 0, none⟩ = false := by simp [go_sem, ef0]
          replace ef1 : (((((Z6.setCell ⟨Z5.heap.size, 0, none⟩ (.int .i64 a)).setCell ⟨Z5.heap.size, 1, none⟩ (.int .i64 s)).setCell ⟨Z5.heap.size, 2, none⟩ (.int .i64 lo)).setCell ⟨Z5.heap.size, 3, none⟩ (.int .i64 hi)).setCell ⟨Z5.heap.size, 4, none⟩ (.int .i64 tm)).frozen? ⟨g8, 1, none⟩ = false := by simp [go_sem, ef1]
          replace Qf0 : (((((Z6.setCell ⟨Z5.heap.size, 0, none⟩ (.int .i64 a)).setCell ⟨Z5.heap.size, 1, none⟩ (.int .i64 s)).setCell ⟨Z5.heap.size, 2, none⟩ (.int .i64 lo)).setCell ⟨Z5.heap.size, 3, none⟩ (.int .i64 hi)).setCell ⟨Z5.heap.size, 4, none⟩ (.int .i64 tm)).frozen? ⟨wd.heap.size, 0, none⟩ = false := by simp [go_sem, Qf0]
          replace Qf1 : (((((Z6.setCell ⟨Z5.heap.size, 0, none⟩ (.int .i64 a)).setCell ⟨Z5.heap.size, 1, none⟩ (.int .i64 s)).setCell ⟨Z5.heap.size, 2, none⟩ (.int .i64 lo)).setCell ⟨Z5.heap.size, 3, none⟩ (.int .i64 hi)).setCell ⟨Z5.heap.size, 4, none⟩ (.int .i64 tm)).frozen? ⟨wd.heap.size, 1, none⟩ = false := by simp [go_sem, Qf1]
          replace Qf2 : (((((Z6.setCell ⟨Z5.heap.size, 0, none⟩ (.int .i64 a)).setCell ⟨Z5.heap.size, 1, none⟩ (.int .i64 s)).setCell ⟨Z5.heap.size, 2, none⟩ (.int .i64 lo)).setCell ⟨Z5.heap.size, 3, none⟩ (.int .i64 hi)).setCell ⟨Z5.heap.size, 4, none⟩ (.int .i64 tm)).frozen? ⟨wd.heap.size, 2, none⟩ = false := by simp [go_sem, Qf2]
          replace Qf3 : (((((Z6.setCell ⟨Z5.heap.size, 0, none⟩ (.int .i64 a)).setCell ⟨Z5.heap.size, 1, none⟩ (.int .i64 s)).setCell ⟨Z5.heap.size, 2, none⟩ (.int .i64 lo)).setCell ⟨Z5.heap.size, 3, none⟩ (.int .i64 hi)).setCell ⟨Z5.heap.size, 4, none⟩ (.int .i64 tm)).frozen? ⟨wd.heap.size, 3, none⟩ = false := by simp [go_sem, Qf3]
          replace Qf4 : (((((Z6.setCell ⟨Z5.heap.size, 0, none⟩ (.int .i64 a)).setCell ⟨Z5.heap.size, 1, none⟩ (.int .i64 s)).setCell ⟨Z5.heap.size, 2, none⟩ (.int .i64 lo)).setCell ⟨Z5.heap.size, 3, none⟩ (.int .i64 hi)).setCell ⟨Z5.heap.size, 4, none⟩ (.int .i64 tm)).frozen? ⟨wd.heap.size, 4, none⟩ = false := by simp [go_sem, Qf4]
          replace Q0 : (((((Z6.setCell ⟨Z5.heap.size, 0, none⟩ (.int .i64 a)).setCell ⟨Z5.heap.size, 1, none⟩ (.int .i64 s)).setCell ⟨Z5.heap.size, 2, none⟩ (.int .i64 lo)).setCell ⟨Z5.heap.size, 3, none⟩ (.int .i64 hi)).setCell ⟨Z5.heap.size, 4, none⟩ (.int .i64 tm)).cell? ⟨wd.heap.size, 0, none⟩ = some (.int .i64 0) := ((World.cell?_setCell_other _ _ _ _ (by intro e; injection e with e1 e2; omega)).trans ((World.cell?_setCell_other _ _ _ _ (by intro e; injection e with e1 e2; omega)).trans ((World.cell?_setCell_other _ _ _ _ (by intro e; injection e with e1 e2; omega)).trans ((World.cell?_setCell_other _ _ _ _ (by intro e; injection e with e1 e2; omega)).trans ((World.cell?_setCell_other _ _ _ _ (by intro e; injection e with e1 e2; omega)).trans Q0)))))
          replace Q1 : (((((Z6.setCell ⟨Z5.heap.size, 0, none⟩ (.int .i64 a)).setCell ⟨Z5.heap.size, 1, none⟩ (.int .i64 s)).setCell ⟨Z5.heap.size, 2, none⟩ (.int .i64 lo)).setCell ⟨Z5.heap.size, 3, none⟩ (.int .i64 hi)).setCell ⟨Z5.heap.size, 4, none⟩ (.int .i64 tm)).cell? ⟨wd.heap.size, 1, none⟩ = some (.int .i64 0) := ((World.cell?_setCell_other _ _ _ _ (by intro e; injection e with e1 e2; omega)).trans ((World.cell?_setCell_other _ _ _ _ (by intro e; injection e with e1 e2; omega)).trans ((World.cell?_setCell_other _ _ _ _ (by intro e; injection e with e1 e2; omega)).trans ((World.cell?_setCell_other _ _ _ _ (by intro e; injection e with e1 e2; omega)).trans ((World.cell?_setCell_other _ _ _ _ (by intro e; injection e with e1 e2; omega)).trans Q1)))))
          replace Q2 : (((((Z6.setCell ⟨Z5.heap.size, 0, none⟩ (.int .i64 a)).setCell ⟨Z5.heap.size, 1, none⟩ (.int .i64 s)).setCell ⟨Z5.heap.size, 2, none⟩ (.int .i64 lo)).setCell ⟨Z5.heap.size, 3, none⟩ (.int .i64 hi)).setCell ⟨Z5.heap.size, 4, none⟩ (.int .i64 tm)).cell? ⟨wd.heap.size, 2, none⟩ = some (.int .i64 0) := ((World.cell?_setCell_other _ _ _ _ (by intro e; injection e with e1 e2; omega)).trans ((World.cell?_setCell_other _ _ _ _ (by intro e; injection e with e1 e2; omega)).trans ((World.cell?_setCell_other _ _ _ _ (by intro e; injection e with e1 e2; omega)).trans ((World.cell?_setCell_other _ _ _ _ (by intro e; injection e with e1 e2; omega)).trans ((World.cell?_setCell_other _ _ _ _ (by intro e; injection e with e1 e2; omega)).trans Q2)))))
          replace Q3 : (((((Z6.setCell ⟨Z5.heap.size, 0, none⟩ (.int .i64 a)).setCell ⟨Z5.heap.size, 1, none⟩ (.int .i64 s)).setCell ⟨Z5.heap.size, 2, none⟩ (.int .i64 lo)).setCell ⟨Z5.heap.size, 3, none⟩ (.int .i64 hi)).setCell ⟨Z5.heap.size, 4, none⟩ (.int .i64 tm)).cell? ⟨wd.heap.size, 3, none⟩ = some (.int .i64 0) := ((World.cell?_setCell_other _ _ _ _ (by intro e; injection e with e1 e2; omega)).trans ((World.cell?_setCell_other _ _ _ _ (by intro e; injection e with e1 e2; omega)).trans ((World.cell?_setCell_other _ _ _ _ (by intro e; injection e with e1 e2; omega)).trans ((World.cell?_setCell_other _ _ _ _ (by intro e; injection e with e1 e2; omega)).trans ((World.cell?_setCell_other _ _ _ _ (by intro e; injection e with e1 e2; omega)).trans Q3)))))
          replace Q4 : (((((Z6.setCell ⟨Z5.heap.size, 0, none⟩ (.int .i64 a)).setCell ⟨Z5.heap.size, 1, none⟩ (.int .i64 s)).setCell ⟨Z5.heap.size, 2, none⟩ (.int .i64 lo)).setCell ⟨Z5.heap.size, 3, none⟩ (.int .i64 hi)).setCell ⟨Z5.heap.size, 4, none⟩ (.int .i64 tm)).cell? ⟨wd.heap.size, 4, none⟩ = some (.int .i64 0) := ((World.cell?_setCell_other _ _ _ _ (by intro e; injection e with e1 e2; omega)).trans ((World.cell?_setCell_other _ _ _ _ (by intro e; injection e with e1 e2; omega)).trans ((World.cell?_setCell_other _ _ _ _ (by intro e; injection e with e1 e2; omega)).trans ((World.cell?_setCell_other _ _ _ _ (by intro e; injection e with e1 e2; omega)).trans ((World.cell?_setCell_other _ _ _ _ (by intro e; injection e with e1 e2; omega)).trans Q4)))))
          replace Pf0 : (((((Z6.setCell ⟨Z5.heap.size, 0, none⟩ (.int .i64 a)).setCell ⟨Z5.heap.size, 1, none⟩ (.int .i64 s)).setCell ⟨Z5.heap.size, 2, none⟩ (.int .i64 lo)).setCell ⟨Z5.heap.size, 3, none⟩ (.int .i64 hi)).setCell ⟨Z5.heap.size, 4, none⟩ (.int .i64 tm)).frozen? ⟨Z5.heap.size, 0, none⟩ = false := by simp [go_sem, Pf0]
          replace Pf1 : (((((Z6.setCell ⟨Z5.heap.size, 0, none⟩ (.int .i64 a)).setCell ⟨Z5.heap.size, 1, none⟩ (.int .i64 s)).setCell ⟨Z5.heap.size, 2, none⟩ (.int .i64 lo)).setCell ⟨Z5.heap.size, 3, none⟩ (.int .i64 hi)).setCell ⟨Z5.heap.size, 4, none⟩ (.int .i64 tm)).frozen? ⟨Z5.heap.size, 1, none⟩ = false := by simp [go_sem, Pf1]
          replace Pf2 : (((((Z6.setCell ⟨Z5.heap.size, 0, none⟩ (.int .i64 a)).setCell ⟨Z5.heap.size, 1, none⟩ (.int .i64 s)).setCell ⟨Z5.heap.size, 2, none⟩ (.int .i64 lo)).setCell ⟨Z5.heap.size, 3, none⟩ (.int .i64 hi)).setCell ⟨Z5.heap.size, 4, none⟩ (.int .i64 tm)).frozen? ⟨Z5.heap.size, 2, none⟩ = false := by simp [go_sem, Pf2]
          replace Pf3 : (((((Z6.setCell ⟨Z5.heap.size, 0, none⟩ (.int .i64 a)).setCell ⟨Z5.heap.size, 1, none⟩ (.int .i64 s)).setCell ⟨Z5.heap.size, 2, none⟩ (.int .i64 lo)).setCell ⟨Z5.heap.size, 3, none⟩ (.int .i64 hi)).setCell ⟨Z5.heap.size, 4, none⟩ (.int .i64 tm)).frozen? ⟨Z5.heap.size, 3, none⟩ = false := by simp [go_sem, Pf3]
          replace Pf4 : (((((Z6.setCell ⟨Z5.heap.size, 0, none⟩ (.int .i64 a)).setCell ⟨Z5.heap.size, 1, none⟩ (.int .i64 s)).setCell ⟨Z5.heap.size, 2, none⟩ (.int .i64 lo)).setCell ⟨Z5.heap.size, 3, none⟩ (.int .i64 hi)).setCell ⟨Z5.heap.size, 4, none⟩ (.int .i64 tm)).frozen? ⟨Z5.heap.size, 4, none⟩ = false := by simp [go_sem, Pf4]
          replace P0 : (((((Z6.setCell ⟨Z5.heap.size, 0, none⟩ (.int .i64 a)).setCell ⟨Z5.heap.size, 1, none⟩ (.int .i64 s)).setCell ⟨Z5.heap.size, 2, none⟩ (.int .i64 lo)).setCell ⟨Z5.heap.size, 3, none⟩ (.int .i64 hi)).setCell ⟨Z5.heap.size, 4, none⟩ (.int .i64 tm)).cell? ⟨Z5.heap.size, 0, none⟩ = some (.int .i64 a) := by simp [go_sem, P0]
          replace P1 : (((((Z6.setCell ⟨Z5.heap.size, 0, none⟩ (.int .i64 a)).setCell ⟨Z5.heap.size, 1, none⟩ (.int .i64 s)).setCell ⟨Z5.heap.size, 2, none⟩ (.int .i64 lo)).setCell ⟨Z5.heap.size, 3, none⟩ (.int .i64 hi)).setCell ⟨Z5.heap.size, 4, none⟩ (.int .i64 tm)).cell? ⟨Z5.heap.size, 1, none⟩ = some (.int .i64 s) := by simp [go_sem, P1]
          replace P2 : (((((Z6.setCell ⟨Z5.heap.size, 0, none⟩ (.int .i64 a)).setCell ⟨Z5.heap.size, 1, none⟩ (.int .i64 s)).setCell ⟨Z5.heap.size, 2, none⟩ (.int .i64 lo)).setCell ⟨Z5.heap.size, 3, none⟩ (.int .i64 hi)).setCell ⟨Z5.heap.size, 4, none⟩ (.int .i64 tm)).cell? ⟨Z5.heap.size, 2, none⟩ = some (.int .i64 lo) := by simp [go_sem, P2]
          replace P3 : (((((Z6.setCell ⟨Z5.heap.size, 0, none⟩ (.int .i64 a)).setCell ⟨Z5.heap.size, 1, none⟩ (.int .i64 s)).setCell ⟨Z5.heap.size, 2, none⟩ (.int .i64 lo)).setCell ⟨Z5.heap.size, 3, none⟩ (.int .i64 hi)).setCell ⟨Z5.heap.size, 4, none⟩ (.int .i64 tm)).cell? ⟨Z5.heap.size, 3, none⟩ = some (.int .i64 hi) := by simp [go_sem, P3]
          replace P4 : (((((Z6.setCell ⟨Z5.heap.size, 0, none⟩ (.int .i64 a)).setCell ⟨Z5.heap.size, 1, none⟩ (.int .i64 s)).setCell ⟨Z5.heap.size, 2, none⟩ (.int .i64 lo)).setCell ⟨Z5.heap.size, 3, none⟩ (.int .i64 hi)).setCell ⟨Z5.heap.size, 4, none⟩ (.int .i64 tm)).cell? ⟨Z5.heap.size, 4, none⟩ = some (.int .i64 tm) := by simp [go_sem, P4]
          replace n8 : g8 < (((((Z6.setCell ⟨Z5.heap.size, 0, none⟩ (.int .i64 a)).setCell ⟨Z5.heap.size, 1, none⟩ (.int .i64 s)).setCell ⟨Z5.heap.size, 2, none⟩ (.int .i64 lo)).setCell ⟨Z5.heap.size, 3, none⟩ (.int .i64 hi)).setCell ⟨Z5.heap.size, 4, none⟩ (.int .i64 tm)).heap.size := by simpa [World.setCell] using n8
          replace nQ : wd.heap.size < (((((Z6.setCell ⟨Z5.heap.size, 0, none⟩ (.int .i64 a)).setCell ⟨Z5.heap.size, 1, none⟩ (.int .i64 s)).setCell ⟨Z5.heap.size, 2, none⟩ (.int .i64 lo)).setCell ⟨Z5.heap.size, 3, none⟩ (.int .i64 hi)).setCell ⟨Z5.heap.size, 4, none⟩ (.int .i64 tm)).heap.size := by simpa [World.setCell] using nQ
          replace nP : Z5.heap.size < (((((Z6.setCell ⟨Z5.heap.size, 0, none⟩ (.int .i64 a)).setCell ⟨Z5.heap.size, 1, none⟩ (.int .i64 s)).setCell ⟨Z5.heap.size, 2, none⟩ (.int .i64 lo)).setCell ⟨Z5.heap.size, 3, none⟩ (.int .i64 hi)).setCell ⟨Z5.heap.size, 4, none⟩ (.int .i64 tm)).heap.size := by simpa [World.setCell] using nP
          replace hL := hL.setCell (p := ⟨Z5.heap.size, 0, none⟩) (by show (g8 + 1) ≤ Z5.heap.size; omega) (.int .i64 a)
          replace hL := hL.setCell (p := ⟨Z5.heap.size, 1, none⟩) (by show (g8 + 1) ≤ Z5.heap.size; omega) (.int .i64 s)
          replace hL := hL.setCell (p := ⟨Z5.heap.size, 2, none⟩) (by show (g8 + 1) ≤ Z5.heap.size; omega) (.int .i64 lo)
          replace hL := hL.setCell (p := ⟨Z5.heap.size, 3, none⟩) (by show (g8 + 1) ≤ Z5.heap.size; omega) (.int .i64 hi)
          replace hL := hL.setCell (p := ⟨Z5.heap.size, 4, none⟩) (by show (g8 + 1) ≤ Z5.heap.size; omega) (.int .i64 tm)
          refine hK.out _ _ ⟨e0, e1, e2, e3, e4, trivial⟩ (fun hHeld => ?_)
          clear hK K
          generalize (((((Z6.setCell ⟨Z5.heap.size, 0, none⟩ (.int .i64 a)).setCell ⟨Z5.heap.size, 1, none⟩ (.int .i64 s)).setCell ⟨Z5.heap.size, 2, none⟩ (.int .i64 lo)).setCell ⟨Z5.heap.size, 3, none⟩ (.int .i64 hi)).setCell ⟨Z5.heap.size, 4, none⟩ (.int .i64 tm)) = Z7 at *
          try simp only [Act.put, List.setIfInBounds_toArray, List.set_cons_zero, List.set_cons_succ]
          refine wpAnyH_ready (rs := [5]) (by kernel_rfl) (by simp) ?_
          refine AllReadyH.cons rfl (fun K hK => ?_) AllReadyH.nil
          go_simp
          replace e0 : (((((Z7.setCell ⟨wd.heap.size, 0, none⟩ (.int .i64 a)).setCell ⟨wd.heap.size, 1, none⟩ (.int .i64 s)).setCell ⟨wd.heap.size, 2, none⟩ (.int .i64 lo)).setCell ⟨wd.heap.size, 3, none⟩ (.int .i64 hi)).setCell ⟨wd.heap.size, 4, none⟩ (.int .i64 tm)).cell? ⟨g8, 0, none⟩ = some (.int .i64 a) := ((World.cell?_setCell_other _ _ _ _ (by intro e; injection e with e1 e2; omega)).trans ((World.cell?_setCell_other _ _ _ _ (by intro e; injection e with e1 e2; omega)).trans ((World.cell?_setCell_other _ _ _ _ (by intro e; injection e with e1 e2; omega)).trans ((World.cell?_setCell_other _ _ _ _ (by intro e; injection e with e1 e2; omega)).trans ((World.cell?_setCell_other _ _ _ _ (by intro e; injection e with e1 e2; omega)).trans e0)))))
          replace e1 : (((((Z7.setCell ⟨wd.heap.size, 0, none⟩ (.int .i64 a)).setCell ⟨wd.heap.size, 1, none⟩ (.int .i64 s)).setCell ⟨wd.heap.size, 2, none⟩ (.int .i64 lo)).setCell ⟨wd.heap.size, 3, none⟩ (.int .i64 hi)).setCell ⟨wd.heap.size, 4, none⟩ (.int .i64 tm)).cell? ⟨g8, 1, none⟩ = some (.int .i64 s) := ((World.cell?_setCell_other _ _ _ _ (by intro e; injection e with e1 e2; omega)).trans ((World.cell?_setCell_other _ _ _ _ (by intro e; injection e with e1 e2; omega)).trans ((World.cell?_setCell_other _ _ _ _ (by intro e; injection e with e1 e2; omega)).trans ((World.cell?_setCell_other _ _ _ _ (by intro e; injection e with e1 e2; omega)).trans ((World.cell?_setCell_other _ _ _ _ (by intro e; injection e with e1 e2; omega)).trans e1)))))
          replace e2 : (((((Z7.setCell ⟨wd.heap.size, 0, none⟩ (.int .i64 a)).setCell ⟨wd.heap.size, 1, none⟩ (.int .i64 s)).setCell ⟨wd.heap.size, 2, none⟩ (.int .i64 lo)).setCell ⟨wd.heap.size, 3, none⟩ (.int .i64 hi)).setCell ⟨wd.heap.size, 4, none⟩ (.int .i64 tm)).cell? ⟨g8, 2, none⟩ = some (.int .i64 lo) := ((World.cell?_setCell_other _ _ _ _ (by intro e; injection e with e1 e2; omega)).trans ((World.cell?_setCell_other _ _ _ _ (by intro e; injection e with e1 e2; omega)).trans ((World.cell?_setCell_other _ _ _ _ (by intro e; injection e with e1 e2; omega)).trans ((World.cell?_setCell_other _ _ _ _ (by intro e; injection e with e1 e2; omega)).trans ((World.cell?_setCell_other _ _ _ _ (by intro e; injection e with e1 e2; omega)).trans e2)))))
          replace e3 : (((((Z7.setCell ⟨wd.heap.size, 0, none⟩ (.int .i64 a)).setCell ⟨wd.heap.size, 1, none⟩ (.int .i64 s)).setCell ⟨wd.heap.size, 2, none⟩ (.int .i64 lo)).setCell ⟨wd.heap.size, 3, none⟩ (.int .i64 hi)).setCell ⟨wd.heap.size, 4, none⟩ (.int .i64 tm)).cell? ⟨g8, 3, none⟩ = some (.int .i64 hi) := ((World.cell?_setCell_other _ _ _ _ (by intro e; injection e with e1 e2; omega)).trans ((World.cell?_setCell_other _ _ _ _ (by intro e; injection e with e1 e2; omega)).trans ((World.cell?_setCell_other _ _ _ _ (by intro e; injection e with e1 e2; omega)).trans ((World.cell?_setCell_other _ _ _ _ (by intro e; injection e with e1 e2; omega)).trans ((World.cell?_setCell_other _ _ _ _ (by intro e; injection e with e1 e2; omega)).trans e3)))))
          replace e4 : (((((Z7.setCell ⟨wd.heap.size, 0, none⟩ (.int .i64 a)).setCell ⟨wd.heap.size, 1, none⟩ (.int .i64 s)).setCell ⟨wd.heap.size, 2, none⟩ (.int .i64 lo)).setCell ⟨wd.heap.size, 3, none⟩ (.int .i64 hi)).setCell ⟨wd.heap.size, 4, none⟩ (.int .i64 tm)).cell? ⟨g8, 4, none⟩ = some (.int .i64 tm) := ((World.cell?_setCell_other _ _ _ _ (by intro e; injection e with e1 e2; omega)).trans ((World.cell?_setCell_other _ _ _ _ (by intro e; injection e with e1 e2; omega)).trans ((World.cell?_setCell_other _ _ _ _ (by intro e; injection e with e1 e2; omega)).trans ((World.cell?_setCell_other _ _ _ _ (by intro e; injection e with e1 e2; omega)).trans ((World.cell?_setCell_other _ _ _ _ (by intro e; injection e with e1 e2; omega)).trans e4)))))
          replace ef0 : (((((Z7.setCell ⟨wd.heap.size, 0, none⟩ (.int .i64 a)).setCell ⟨wd.heap.size, 1, none⟩ (.int .i64 s)).setCell ⟨wd.heap.size, 2, none⟩ (.int .i64 lo)).setCell ⟨wd.heap.size, 3, none⟩ (.int .i64 hi)).setCell ⟨wd.heap.size, 4, none⟩ (.int .i64 tm)).frozen? ⟨g8, 0, none⟩ = false := by simp [go_sem, ef0]
          replace ef1 : (((((Z7.setCell ⟨wd.heap.size, 0, none⟩ (.int .i64 a)).setCell ⟨wd.heap.size, 1, none⟩ (.int .i64 s)).setCell ⟨wd.heap.size, 2, none⟩ (.int .i64 lo)).setCell ⟨wd.heap.size, 3, none⟩ (.int .i64 hi)).setCell ⟨wd.heap.size, 4, none⟩ (.int .i64 tm)).frozen? ⟨g8, 1, none⟩ = false := by simp [go_sem, ef1]
          replace Qf0 : (((((Z7.setCell ⟨wd.heap.size, 0, none⟩ (.int .i64 a)).setCell ⟨wd.heap.size, 1, none⟩ (.int .i64 s)).setCell ⟨wd.heap.size, 2, none⟩ (.int .i64 lo)).setCell ⟨wd.heap.size, 3, none⟩ (.int .i64 hi)).setCell ⟨wd.heap.size, 4, none⟩ (.int .i64 tm)).frozen? ⟨wd.heap.size, 0, none⟩ = false := by simp [go_sem, Qf0]
          replace Qf1 : (((((Z7.setCell ⟨wd.heap.size, 0, none⟩ (.int .i64 a)).setCell ⟨wd.heap.size, 1, none⟩ (.int .i64 s)).setCell ⟨wd.heap.size, 2, none⟩ (.int .i64 lo)).setCell ⟨wd.heap.size, 3, none⟩ (.int .i64 hi)).setCell ⟨wd.heap.size, 4, none⟩ (.int .i64 tm)).frozen? ⟨wd.heap.size, 1, none⟩ = false := by simp [go_sem, Qf1]
          replace Qf2 : (((((Z7.setCell ⟨wd.heap.size, 0, none⟩ (.int .i64 a)).setCell ⟨wd.heap.size, 1, none⟩ (.int .i64 s)).setCell ⟨wd.heap.size, 2, none⟩ (.int .i64 lo)).setCell ⟨wd.heap.size, 3, none⟩ (.int .i64 hi)).setCell ⟨wd.heap.size, 4, none⟩ (.int .i64 tm)).frozen? ⟨wd.heap.size, 2, none⟩ = false := by simp [go_sem, Qf2]
          replace Qf3 : (((((Z7.setCell ⟨wd.heap.size, 0, none⟩ (.int .i64 a)).setCell ⟨wd.heap.size, 1, none⟩ (.int .i64 s)).setCell ⟨wd.heap.size, 2, none⟩ (.int .i64 lo)).setCell ⟨wd.heap.size, 3, none⟩ (.int .i64 hi)).setCell ⟨wd.heap.size, 4, none⟩ (.int .i64 tm)).frozen? ⟨wd.heap.size, 3, none⟩ = false := by simp [go_sem, Qf3]
          replace Qf4 : (((((Z7.setCell ⟨wd.heap.size, 0, none⟩ (.int .i64 a)).setCell ⟨wd.heap.size, 1, none⟩ (.int .i64 s)).setCell ⟨wd.heap.size, 2, none⟩ (.int .i64 lo)).setCell ⟨wd.heap.size, 3, none⟩ (.int .i64 hi)).setCell ⟨wd.heap.size, 4, none⟩ (.int .i64 tm)).frozen? ⟨wd.heap.size, 4, none⟩ = false := by simp [go_sem, Qf4]
          replace Q0 : (((((Z7.setCell ⟨wd.heap.size, 0, none⟩ (.int .i64 a)).setCell ⟨wd.heap.size, 1, none⟩ (.int .i64 s)).setCell ⟨wd.heap.size, 2, none⟩ (.int .i64 lo)).setCell ⟨wd.heap.size, 3, none⟩ (.int .i64 hi)).setCell ⟨wd.heap.size, 4, none⟩ (.int .i64 tm)).cell? ⟨wd.heap.size, 0, none⟩ = some (.int .i64 a) := by simp [go_sem, Q0]
          replace Q1 : (((((Z7.setCell ⟨wd.heap.size, 0, none⟩ (.int .i64 a)).setCell ⟨wd.heap.size, 1, none⟩ (.int .i64 s)).setCell ⟨wd.heap.size, 2, none⟩ (.int .i64 lo)).setCell ⟨wd.heap.size, 3, none⟩ (.int .i64 hi)).setCell ⟨wd.heap.size, 4, none⟩ (.int .i64 tm)).cell? ⟨wd.heap.size, 1, none⟩ = some (.int .i64 s) := by simp [go_sem, Q1]
          replace Q2 : (((((Z7.setCell ⟨wd.heap.size, 0, none⟩ (.int .i64 a)).setCell ⟨wd.heap.size, 1, none⟩ (.int .i64 s)).setCell ⟨wd.heap.size, 2, none⟩ (.int .i64 lo)).setCell ⟨wd.heap.size, 3, none⟩ (.int .i64 hi)).setCell ⟨wd.heap.size, 4, none⟩ (.int .i64 tm)).cell? ⟨wd.heap.size, 2, none⟩ = some (.int .i64 lo) := by simp [go_sem, Q2]
          replace Q3 : (((((Z7.setCell ⟨wd.heap.size, 0, none⟩ (.int .i64 a)).setCell ⟨wd.heap.size, 1, none⟩ (.int .i64 s)).setCell ⟨wd.heap.size, 2, none⟩ (.int .i64 lo)).setCell ⟨wd.heap.size, 3, none⟩ (.int .i64 hi)).setCell ⟨wd.heap.size, 4, none⟩ (.int .i64 tm)).cell? ⟨wd.heap.size, 3, none⟩ = some (.int .i64 hi) := by simp [go_sem, Q3]
          replace Q4 : (((((Z7.setCell ⟨wd.heap.size, 0, none⟩ (.int .i64 a)).setCell ⟨wd.heap.size, 1, none⟩ (.int .i64 s)).setCell ⟨wd.heap.size, 2, none⟩ (.int .i64 lo)).setCell ⟨wd.heap.size, 3, none⟩ (.int .i64 hi)).setCell ⟨wd.heap.size, 4, none⟩ (.int .i64 tm)).cell? ⟨wd.heap.size, 4, none⟩ = some (.int .i64 tm) := by simp [go_sem, Q4]
          replace Pf0 : (((((Z7.setCell ⟨wd.heap.size, 0, none⟩ (.int .i64 a)).setCell ⟨wd.heap.size, 1, none⟩ (.int .i64 s)).setCell ⟨wd.heap.size, 2, none⟩ (.int .i64 lo)).setCell ⟨wd.heap.size, 3, none⟩ (.int .i64 hi)).setCell ⟨wd.heap.size, 4, none⟩ (.int .i64 tm)).frozen? ⟨Z5.heap.size, 0, none⟩ = false := by simp [go_sem, Pf0]
          replace Pf1 : (((((Z7.setCell ⟨wd.heap.size, 0, none⟩ (.int .i64 a)).setCell ⟨wd.heap.size, 1, none⟩ (.int .i64 s)).setCell ⟨wd.heap.size, 2, none⟩ (.int .i64 lo)).setCell ⟨wd.heap.size, 3, none⟩ (.int .i64 hi)).setCell ⟨wd.heap.size, 4, none⟩ (.int .i64 tm)).frozen? ⟨Z5.heap.size, 1, none⟩ = false := by simp [go_sem, Pf1]
          replace Pf2 : (((((Z7.setCell ⟨wd.heap.size, 0, none⟩ (.int .i64 a)).setCell ⟨wd.heap.size, 1, none⟩ (.int .i64 s)).setCell ⟨wd.heap.size, 2, none⟩ (.int .i64 lo)).setCell ⟨wd.heap.size, 3, none⟩ (.int .i64 hi)).setCell ⟨wd.heap.size, 4, none⟩ (.int .i64 tm)).frozen? ⟨Z5.heap.size, 2, none⟩ = false := by simp [go_sem, Pf2]
          replace Pf3 : (((((Z7.setCell ⟨wd.heap.size, 0, none⟩ (.int .i64 a)).setCell ⟨wd.heap.size, 1, none⟩ (.int .i64 s)).setCell ⟨wd.heap.size, 2, none⟩ (.int .i64 lo)).setCell ⟨wd.heap.size, 3, none⟩ (.int .i64 hi)).setCell ⟨wd.heap.size, 4, none⟩ (.int .i64 tm)).frozen? ⟨Z5.heap.size, 3, none⟩ = false := by simp [go_sem, Pf3]
          replace Pf4 : (((((Z7.setCell ⟨wd.heap.size, 0, none⟩ (.int .i64 a)).setCell ⟨wd.heap.size, 1, none⟩ (.int .i64 s)).setCell ⟨wd.heap.size, 2, none⟩ (.int .i64 lo)).setCell ⟨wd.heap.size, 3, none⟩ (.int .i64 hi)).setCell ⟨wd.heap.size, 4, none⟩ (.int .i64 tm)).frozen? ⟨Z5.heap.size, 4, none⟩ = false := by simp [go_sem, Pf4]
          replace P0 : (((((Z7.setCell ⟨wd.heap.size, 0, none⟩ (.int .i64 a)).setCell ⟨wd.heap.size, 1, none⟩ (.int .i64 s)).setCell ⟨wd.heap.size, 2, none⟩ (.int .i64 lo)).setCell ⟨wd.heap.size, 3, none⟩ (.int .i64 hi)).setCell ⟨wd.heap.size, 4, none⟩ (.int .i64 tm)).cell? ⟨Z5.heap.size, 0, none⟩ = some (.int .i64 a) := ((World.cell?_setCell_other _ _ _ _ (by intro e; injection e with e1 e2; omega)).trans ((World.cell?_setCell_other _ _ _ _ (by intro e; injection e with e1 e2; omega)).trans ((World.cell?_setCell_other _ _ _ _ (by intro e; injection e with e1 e2; omega)).trans ((World.cell?_setCell_other _ _ _ _ (by intro e; injection e with e1 e2; omega)).trans ((World.cell?_setCell_other _ _ _ _ (by intro e; injection e with e1 e2; omega)).trans P0)))))
          replace P1 : (((((Z7.setCell ⟨wd.heap.size, 0, none⟩ (.int .i64 a)).setCell ⟨wd.heap.size, 1, none⟩ (.int .i64 s)).setCell ⟨wd.heap.size, 2, none⟩ (.int .i64 lo)).setCell ⟨wd.heap.size, 3, none⟩ (.int .i64 hi)).setCell ⟨wd.heap.size, 4, none⟩ (.int .i64 tm)).cell? ⟨Z5.heap.size, 1, none⟩ = some (.int .i64 s) := ((World.cell?_setCell_other _ _ _ _ (by intro e; injection e with e1 e2; omega)).trans ((World.cell?_setCell_other _ _ _ _ (by intro e; injection e with e1 e2; omega)).trans ((World.cell?_setCell_other _ _ _ _ (by intro e; injection e with e1 e2; omega)).trans ((World.cell?_setCell_other _ _ _ _ (by intro e; injection e with e1 e2; omega)).trans ((World.cell?_setCell_other _ _ _ _ (by intro e; injection e with e1 e2; omega)).trans P1)))))
          replace P2 : (((((Z7.setCell ⟨wd.heap.size, 0, none⟩ (.int .i64 a)).setCell ⟨wd.heap.size, 1, none⟩ (.int .i64 s)).setCell ⟨wd.heap.size, 2, none⟩ (.int .i64 lo)).setCell ⟨wd.heap.size, 3, none⟩ (.int .i64 hi)).setCell ⟨wd.heap.size, 4, none⟩ (.int .i64 tm)).cell? ⟨Z5.heap.size, 2, none⟩ = some (.int .i64 lo) := ((World.cell?_setCell_other _ _ _ _ (by intro e; injection e with e1 e2; omega)).trans ((World.cell?_setCell_other _ _ _ _ (by intro e; injection e with e1 e2; omega)).trans ((World.cell?_setCell_other _ _ _ _ (by intro e; injection e with e1 e2; omega)).trans ((World.cell?_setCell_other _ _ _ _ (by intro e; injection e with e1 e2; omega)).trans ((World.cell?_setCell_other _ _ _ _ (by intro e; injection e with e1 e2; omega)).trans P2)))))
          replace P3 : (((((Z7.setCell ⟨wd.heap.size, 0, none⟩ (.int .i64 a)).setCell ⟨wd.heap.size, 1, none⟩ (.int .i64 s)).setCell ⟨wd.heap.size, 2, none⟩ (.int .i64 lo)).setCell ⟨wd.heap.size, 3, none⟩ (.int .i64 hi)).setCell ⟨wd.heap.size, 4, none⟩ (.int .i64 tm)).cell? ⟨Z5.heap.size, 3, none⟩ = some (.int .i64 hi) := ((World.cell?_setCell_other _ _ _ _ (by intro e; injection e with e1 e2; omega)).trans ((World.cell?_setCell_other _ _ _ _ (by intro e; injection e with e1 e2; omega)).trans ((World.cell?_setCell_other _ _ _ _ (by intro e; injection e with e1 e2; omega)).trans ((World.cell?_setCell_other _ _ _ _ (by intro e; injection e with e1 e2; omega)).trans ((World.cell?_setCell_other _ _ _ _ (by intro e; injection e with e1 e2; omega)).trans P3)))))
          replace P4 : (((((Z7.setCell ⟨wd.heap.size, 0, none⟩ (.int .i64 a)).setCell ⟨wd.heap.size, 1, none⟩ (.int .i64 s)).setCell ⟨wd.heap.size, 2, none⟩ (.int .i64 lo)).setCell ⟨wd.heap.size, 3, none⟩ (.int .i64 hi)).setCell ⟨wd.heap.size, 4, none⟩ (.int .i64 tm)).cell? ⟨Z5.heap.size, 4, none⟩ = some (.int .i64 tm) := ((World.cell?_setCell_other _ _ _ _ (by intro e; injection e with e1 e2; omega)).trans ((World.cell?_setCell_other _ _ _ _ (by intro e; injection e with e1 e2; omega)).trans ((World.cell?_setCell_other _ _ _ _ (by intro e; injection e with e1 e2; omega)).trans ((World.cell?_setCell_other _ _ _ _ (by intro e; injection e with e1 e2; omega)).trans ((World.cell?_setCell_other _ _ _ _ (by intro e; injection e with e1 e2; omega)).trans P4)))))
          replace n8 : g8 < (((((Z7.setCell ⟨wd.heap.size, 0, none⟩ (.int .i64 a)).setCell ⟨wd.heap.size, 1, none⟩ (.int .i64 s)).setCell ⟨wd.heap.size, 2, none⟩ (.int .i64 lo)).setCell ⟨wd.heap.size, 3, none⟩ (.int .i64 hi)).setCell ⟨wd.heap.size, 4, none⟩ (.int .i64 tm)).heap.size := by simpa [World.setCell] using n8
          replace nQ : wd.heap.size < (((((Z7.setCell ⟨wd.heap.size, 0, none⟩ (.int .i64 a)).setCell ⟨wd.heap.size, 1, none⟩ (.int .i64 s)).setCell ⟨wd.heap.size, 2, none⟩ (.int .i64 lo)).setCell ⟨wd.heap.size, 3, none⟩ (.int .i64 hi)).setCell ⟨wd.heap.size, 4, none⟩ (.int .i64 tm)).heap.size := by simpa [World.setCell] using nQ
          replace nP : Z5.heap.size < (((((Z7.setCell ⟨wd.heap.size, 0, none⟩ (.int .i64 a)).setCell ⟨wd.heap.size, 1, none⟩ (.int .i64 s)).setCell ⟨wd.heap.size, 2, none⟩ (.int .i64 lo)).setCell ⟨wd.heap.size, 3, none⟩ (.int .i64 hi)).setCell ⟨wd.heap.size, 4, none⟩ (.int .i64 tm)).heap.size := by simpa [World.setCell] using nP
          replace hL := hL.setCell (p := ⟨wd.heap.size, 0, none⟩) (by show (g8 + 1) ≤ wd.heap.size; omega) (.int .i64 a)
          replace hL := hL.setCell (p := ⟨wd.heap.size, 1, none⟩) (by show (g8 + 1) ≤ wd.heap.size; omega) (.int .i64 s)
          replace hL := hL.setCell (p := ⟨wd.heap.size, 2, none⟩) (by show (g8 + 1) ≤ wd.heap.size; omega) (.int .i64 lo)
          replace hL := hL.setCell (p := ⟨wd.heap.size, 3, none⟩) (by show (g8 + 1) ≤ wd.heap.size; omega) (.int .i64 hi)
          replace hL := hL.setCell (p := ⟨wd.heap.size, 4, none⟩) (by show (g8 + 1) ≤ wd.heap.size; omega) (.int .i64 tm)
          refine hK.out _ _ ⟨e0, e1, e2, e3, e4, trivial⟩ (fun hHeld => ?_)
          clear hK K
          generalize (((((Z7.setCell ⟨wd.heap.size, 0, none⟩ (.int .i64 a)).setCell ⟨wd.heap.size, 1, none⟩ (.int .i64 s)).setCell ⟨wd.heap.size, 2, none⟩ (.int .i64 lo)).setCell ⟨wd.heap.size, 3, none⟩ (.int .i64 hi)).setCell ⟨wd.heap.size, 4, none⟩ (.int .i64 tm)) = Z8 at *
          try simp only [Act.put, List.setIfInBounds_toArray, List.set_cons_zero, List.set_cons_succ]
          refine wpAnyH_done (by kernel_rfl) ?_ _
          have hne9 : Z5.heap.size ≠ wd.heap.size := by omega
          have h89 : g8 < Z5.heap.size := by omega
          have h810 : g8 < wd.heap.size := by omega
          generalize Z5.heap.size = g9 at *
          generalize wd.heap.size = g10 at *
          exact key g9 g10 Z8 ⟨⟨n8, e0, e1, e2, e3, e4, ef0, ef1⟩, ⟨nP, P0, P1, P2, P3, P4, Pf0, Pf1⟩, ⟨nQ, Q0, Q1, Q2, Q3, Q4, Qf0, Qf1⟩, h89, h810, hne9, hL⟩
      case key =>
        intro g9 g10 W ⟨L8', L9, L10, h89, h810, hne, hLW⟩
        have hBW : g8 + 1 ≤ W.heap.size := by have := hLW.size; omega
        have hKW := Kept.of_below (U := fun i => g8 < i) hLW (fun i h => by omega)
        replace HO1 := Lib.hid (HO1.out.kept hKW (fun g h h2 => by have := (hOb1 g h).2; omega))
        replace HO2 := Lib.hid (HO2.out.kept hKW (fun g h h2 => by have := (hOb2 g h).2; omega))
        replace hLA := Lib.hid (hLA.out.trans (hLW.mono (by omega)))
        obtain ⟨n8, e0, e1, e2, e3, e4, ef0, ef1⟩ := L8'
        obtain ⟨nP, P0, P1, P2, P3, P4, Pf0, Pf1⟩ := L9
        obtain ⟨nQ, Q0, Q1, Q2, Q3, Q4, Qf0, Qf1⟩ := L10
        dsimp only at e0 e1 e2 e3 e4 P0 P1 P2 P3 P4 Q0 Q1 Q2 Q3 Q4
        clear hLW hKW L8
        go_wp2_with fail
        refine wp_region_held_drew (S := fun w' => w'.cell? ⟨g8, 0, none⟩ = some (.int .i64 a) ∧ w'.cell? ⟨g8, 1, none⟩ = some (.int .i64 s) ∧ w'.cell? ⟨g8, 2, none⟩ = some (.int .i64 lo) ∧ w'.cell? ⟨g8, 3, none⟩ = some (.int .i64 hi) ∧ w'.cell? ⟨g8, 4, none⟩ = some (.int .i64 tm) ∧ True) (by kernel_rfl) ?_ (fun hHeld => ?_)
        focus (exact ⟨e0, e1, e2, e3, e4, trivial⟩)
        have hL : Below (g8 + 1) W W.drew := Below.drew (Below.refl _ _)
        have hQ : Hid (Kept (fun i => i = g9 ∨ i = g10) W W.drew) := Lib.hid (Kept.refl _ _)
        replace e0 : W.drew.cell? ⟨g8, 0, none⟩ = some (.int .i64 a) := e0
        replace e1 : W.drew.cell? ⟨g8, 1, none⟩ = some (.int .i64 s) := e1
        replace e2 : W.drew.cell? ⟨g8, 2, none⟩ = some (.int .i64 lo) := e2
        replace e3 : W.drew.cell? ⟨g8, 3, none⟩ = some (.int .i64 hi) := e3
        replace e4 : W.drew.cell? ⟨g8, 4, none⟩ = some (.int .i64 tm) := e4
        replace P0 : W.drew.cell? ⟨g9, 0, none⟩ = some (.int .i64 a) := P0
        replace P1 : W.drew.cell? ⟨g9, 1, none⟩ = some (.int .i64 s) := P1
        replace P2 : W.drew.cell? ⟨g9, 2, none⟩ = some (.int .i64 lo) := P2
        replace P3 : W.drew.cell? ⟨g9, 3, none⟩ = some (.int .i64 hi) := P3
        replace P4 : W.drew.cell? ⟨g9, 4, none⟩ = some (.int .i64 tm) := P4
        replace Pf0 : W.drew.frozen? ⟨g9, 0, none⟩ = false := Pf0
        replace Pf1 : W.drew.frozen? ⟨g9, 1, none⟩ = false := Pf1
        replace Q0 : W.drew.cell? ⟨g10, 0, none⟩ = some (.int .i64 a) := Q0
        replace Q1 : W.drew.cell? ⟨g10, 1, none⟩ = some (.int .i64 s) := Q1
        replace Q2 : W.drew.cell? ⟨g10, 2, none⟩ = some (.int .i64 lo) := Q2
        replace Q3 : W.drew.cell? ⟨g10, 3, none⟩ = some (.int .i64 hi) := Q3
        replace Q4 : W.drew.cell? ⟨g10, 4, none⟩ = some (.int .i64 tm) := Q4
        replace Qf0 : W.drew.frozen? ⟨g10, 0, none⟩ = false := Qf0
        replace Qf1 : W.drew.frozen? ⟨g10, 1, none⟩ = false := Qf1
        replace n8 : g8 < W.drew.heap.size := n8
        replace nP : g9 < W.drew.heap.size := nP
        replace nQ : g10 < W.drew.heap.size := nQ
        generalize hWd : W.drew = wd at hHeld hL hQ e0 e1 e2 e3 e4 P0 P1 P2 P3 P4 Pf0 Pf1 Q0 Q1 Q2 Q3 Q4 Qf0 Qf1 n8 nP nQ  ⊢
        clear hWd
        refine take_slot (i := 0) (d := 32) (v := ?_) rfl rfl (by kernel_rfl) (by kernel_rfl) (by kernel_rfl) (fun _ _ _ h => h) (Or.inl ⟨by rfl, ?_⟩) (by assumption) ?_
        rotate_left 1
        focus (intro wS hSw; (try dsimp only at hSw); go_simp; try with_reducible rfl)
        try simp only [List.setIfInBounds_toArray, List.set_cons_zero, List.set_cons_succ]
        refine take_slot (i := 1) (d := 33) (v := ?_) rfl rfl (by kernel_rfl) (by kernel_rfl) (by kernel_rfl) (fun _ _ _ h => h) (Or.inl ⟨by rfl, ?_⟩) (by assumption) ?_
        rotate_left 1
        focus (intro wS hSw; (try dsimp only at hSw); go_simp; try with_reducible rfl)
        try simp only [List.setIfInBounds_toArray, List.set_cons_zero, List.set_cons_succ]
        refine take_slot (i := 2) (d := 34) (v := ?_) rfl rfl (by kernel_rfl) (by kernel_rfl) (by kernel_rfl) (fun _ _ _ h => h) (Or.inl ⟨by rfl, ?_⟩) (by assumption) ?_
        rotate_left 1
        focus (intro wS hSw; (try dsimp only at hSw); go_simp; try with_reducible rfl)
        try simp only [List.setIfInBounds_toArray, List.set_cons_zero, List.set_cons_succ]
        refine take_slot (i := 3) (d := 35) (v := ?_) rfl rfl (by kernel_rfl) (by kernel_rfl) (by kernel_rfl) (fun _ _ _ h => h) (Or.inl ⟨by rfl, ?_⟩) (by assumption) ?_
        rotate_left 1
        focus (intro wS hSw; (try dsimp only at hSw); go_simp; try with_reducible rfl)
        try simp only [List.setIfInBounds_toArray, List.set_cons_zero, List.set_cons_succ]
        refine wpAnyH_ready (rs := [4]) (by kernel_rfl) (by simp) ?_
        refine AllReadyH.cons rfl (fun K hK => ?_) AllReadyH.nil
        go_simp
        refine (C36.out _).mono ?_
        rintro e Z1 ⟨rfl, hb⟩
        replace e0 := cell_next hb n8 e0
        replace e1 := cell_next hb n8 e1
        replace e2 := cell_next hb n8 e2
        replace e3 := cell_next hb n8 e3
        replace e4 := cell_next hb n8 e4
        replace P0 := cell_next hb nP P0
        replace P1 := cell_next hb nP P1
        replace P2 := cell_next hb nP P2
        replace P3 := cell_next hb nP P3
        replace P4 := cell_next hb nP P4
        replace Pf0 := frozen_next hb nP Pf0
        replace Pf1 := frozen_next hb nP Pf1
        replace Q0 := cell_next hb nQ Q0
        replace Q1 := cell_next hb nQ Q1
        replace Q2 := cell_next hb nQ Q2
        replace Q3 := cell_next hb nQ Q3
        replace Q4 := cell_next hb nQ Q4
        replace Qf0 := frozen_next hb nQ Qf0
        replace Qf1 := frozen_next hb nQ Qf1
        replace n8 := Nat.lt_of_lt_of_le n8 hb.size
        replace nP := Nat.lt_of_lt_of_le nP hb.size
        replace nQ := Nat.lt_of_lt_of_le nQ hb.size
        replace hL := hL.trans (hb.mono (Nat.le_trans hBW hL.size))
        replace hQ := Lib.hid (hQ.out.trans (Kept.of_below' hb _))
        refine hK.out _ _ ⟨e0, e1, e2, e3, e4, trivial⟩ (fun hHeld => ?_)
        clear hK K hb
        try simp only [Act.put, List.setIfInBounds_toArray, List.set_cons_zero, List.set_cons_succ]
        refine take_slot (i := 5) (d := 37) (v := ?_) rfl rfl (by kernel_rfl) (by kernel_rfl) (by kernel_rfl) (fun _ _ _ h => h) (Or.inl ⟨by rfl, ?_⟩) (by assumption) ?_
        rotate_left 1
        focus (intro wS hSw; (try dsimp only at hSw); go_simp; try with_reducible rfl)
        try simp only [List.setIfInBounds_toArray, List.set_cons_zero, List.set_cons_succ]
        refine wpAnyH_ready (rs := [6]) (by kernel_rfl) (by simp) ?_
        refine AllReadyH.cons rfl (fun K hK => ?_) AllReadyH.nil
        go_simp
        refine (C38.out _).mono ?_
        rintro e Z2 ⟨rfl, hb⟩
        replace e0 := cell_next hb n8 e0
        replace e1 := cell_next hb n8 e1
        replace e2 := cell_next hb n8 e2
        replace e3 := cell_next hb n8 e3
        replace e4 := cell_next hb n8 e4
        replace P0 := cell_next hb nP P0
        replace P1 := cell_next hb nP P1
        replace P2 := cell_next hb nP P2
        replace P3 := cell_next hb nP P3
        replace P4 := cell_next hb nP P4
        replace Pf0 := frozen_next hb nP Pf0
        replace Pf1 := frozen_next hb nP Pf1
        replace Q0 := cell_next hb nQ Q0
        replace Q1 := cell_next hb nQ Q1
        replace Q2 := cell_next hb nQ Q2
        replace Q3 := cell_next hb nQ Q3
        replace Q4 := cell_next hb nQ Q4
        replace Qf0 := frozen_next hb nQ Qf0
        replace Qf1 := frozen_next hb nQ Qf1
        replace n8 := Nat.lt_of_lt_of_le n8 hb.size
        replace nP := Nat.lt_of_lt_of_le nP hb.size
        replace nQ := Nat.lt_of_lt_of_le nQ hb.size
        replace hL := hL.trans (hb.mono (Nat.le_trans hBW hL.size))
        replace hQ := Lib.hid (hQ.out.trans (Kept.of_below' hb _))
        refine hK.out _ _ ⟨e0, e1, e2, e3, e4, trivial⟩ (fun hHeld => ?_)
        clear hK K hb
        try simp only [Act.put, List.setIfInBounds_toArray, List.set_cons_zero, List.set_cons_succ]
        refine take_slot (i := 7) (d := 31) (v := ?_) rfl rfl (by kernel_rfl) (by kernel_rfl) (by kernel_rfl) (fun _ _ _ h => h) (Or.inl ⟨by rfl, ?_⟩) (by assumption) ?_
        rotate_left 1
        focus (intro wS hSw; (try dsimp only at hSw); go_simp; try with_reducible rfl)
        try simp only [List.setIfInBounds_toArray, List.set_cons_zero, List.set_cons_succ]
        refine take_slot (i := 8) (d := 39) (v := ?_) rfl rfl (by kernel_rfl) (by kernel_rfl) (by kernel_rfl) (fun _ _ _ h => h) (Or.inl ⟨by rfl, ?_⟩) (by assumption) ?_
        rotate_left 1
        focus (intro wS hSw; (try dsimp only at hSw); go_simp; try with_reducible rfl)
        try simp only [List.setIfInBounds_toArray, List.set_cons_zero, List.set_cons_succ]
        refine take_slot (i := 9) (d := 40) (v := ?_) rfl rfl (by kernel_rfl) (by kernel_rfl) (by kernel_rfl) (fun _ _ _ h => h) (Or.inl ⟨by rfl, ?_⟩) (by assumption) ?_
        rotate_left 1
        focus (intro wS hSw; (try dsimp only at hSw); go_simp; try with_reducible rfl)
        try simp only [List.setIfInBounds_toArray, List.set_cons_zero, List.set_cons_succ]
        refine take_slot (i := 10) (d := 41) (v := ?_) rfl rfl (by kernel_rfl) (by kernel_rfl) (by kernel_rfl) (fun _ _ _ h => h) (Or.inl ⟨by rfl, ?_⟩) (by assumption) ?_
        rotate_left 1
        focus (intro wS hSw; (try dsimp only at hSw); go_simp; try with_reducible rfl)
        try simp only [List.setIfInBounds_toArray, List.set_cons_zero, List.set_cons_succ]
        refine take_slot (i := 11) (d := 42) (v := ?_) rfl rfl (by kernel_rfl) (by kernel_rfl) (by kernel_rfl) (fun _ _ _ h => h) (Or.inl ⟨by rfl, ?_⟩) (by assumption) ?_
        rotate_left 1
        focus (intro wS hSw; (try dsimp only at hSw); go_simp; try with_reducible rfl)
        try simp only [List.setIfInBounds_toArray, List.set_cons_zero, List.set_cons_succ]
        refine wpAnyH_ready (rs := [12]) (by kernel_rfl) (by simp) ?_
        refine AllReadyH.cons rfl (fun K hK => ?_) AllReadyH.nil
        go_simp
        replace e0 : ((Z2.setCell ⟨g9, 0, none⟩ (.int .i64 pa)).setCell ⟨g9, 1, none⟩ (.int .i64 q)).cell? ⟨g8, 0, none⟩ = some (.int .i64 a) := ((World.cell?_setCell_other _ _ _ _ (by intro e; injection e with e1 e2; omega)).trans ((World.cell?_setCell_other _ _ _ _ (by intro e; injection e with e1 e2; omega)).trans e0))
        replace e1 : ((Z2.setCell ⟨g9, 0, none⟩ (.int .i64 pa)).setCell ⟨g9, 1, none⟩ (.int .i64 q)).cell? ⟨g8, 1, none⟩ = some (.int .i64 s) := ((World.cell?_setCell_other _ _ _ _ (by intro e; injection e with e1 e2; omega)).trans ((World.cell?_setCell_other _ _ _ _ (by intro e; injection e with e1 e2; omega)).trans e1))
        replace e2 : ((Z2.setCell ⟨g9, 0, none⟩ (.int .i64 pa)).setCell ⟨g9, 1, none⟩ (.int .i64 q)).cell? ⟨g8, 2, none⟩ = some (.int .i64 lo) := ((World.cell?_setCell_other _ _ _ _ (by intro e; injection e with e1 e2; omega)).trans ((World.cell?_setCell_other _ _ _ _ (by intro e; injection e with e1 e2; omega)).trans e2))
        replace e3 : ((Z2.setCell ⟨g9, 0, none⟩ (.int .i64 pa)).setCell ⟨g9, 1, none⟩ (.int .i64 q)).cell? ⟨g8, 3, none⟩ = some (.int .i64 hi) := ((World.cell?_setCell_other _ _ _ _ (by intro e; injection e with e1 e2; omega)).trans ((World.cell?_setCell_other _ _ _ _ (by intro e; injection e with e1 e2; omega)).trans e3))
        replace e4 : ((Z2.setCell ⟨g9, 0, none⟩ (.int .i64 pa)).setCell ⟨g9, 1, none⟩ (.int .i64 q)).cell? ⟨g8, 4, none⟩ = some (.int .i64 tm) := ((World.cell?_setCell_other _ _ _ _ (by intro e; injection e with e1 e2; omega)).trans ((World.cell?_setCell_other _ _ _ _ (by intro e; injection e with e1 e2; omega)).trans e4))
        replace P0 : ((Z2.setCell ⟨g9, 0, none⟩ (.int .i64 pa)).setCell ⟨g9, 1, none⟩ (.int .i64 q)).cell? ⟨g9, 0, none⟩ = some (.int .i64 pa) := by simp [go_sem, P0]
        replace P1 : ((Z2.setCell ⟨g9, 0, none⟩ (.int .i64 pa)).setCell ⟨g9, 1, none⟩ (.int .i64 q)).cell? ⟨g9, 1, none⟩ = some (.int .i64 q) := by simp [go_sem, P1]
        replace P2 : ((Z2.setCell ⟨g9, 0, none⟩ (.int .i64 pa)).setCell ⟨g9, 1, none⟩ (.int .i64 q)).cell? ⟨g9, 2, none⟩ = some (.int .i64 lo) := ((World.cell?_setCell_other _ _ _ _ (by intro e; injection e with e1 e2; omega)).trans ((World.cell?_setCell_other _ _ _ _ (by intro e; injection e with e1 e2; omega)).trans P2))
        replace P3 : ((Z2.setCell ⟨g9, 0, none⟩ (.int .i64 pa)).setCell ⟨g9, 1, none⟩ (.int .i64 q)).cell? ⟨g9, 3, none⟩ = some (.int .i64 hi) := ((World.cell?_setCell_other _ _ _ _ (by intro e; injection e with e1 e2; omega)).trans ((World.cell?_setCell_other _ _ _ _ (by intro e; injection e with e1 e2; omega)).trans P3))
        replace P4 : ((Z2.setCell ⟨g9, 0, none⟩ (.int .i64 pa)).setCell ⟨g9, 1, none⟩ (.int .i64 q)).cell? ⟨g9, 4, none⟩ = some (.int .i64 tm) := ((World.cell?_setCell_other _ _ _ _ (by intro e; injection e with e1 e2; omega)).trans ((World.cell?_setCell_other _ _ _ _ (by intro e; injection e with e1 e2; omega)).trans P4))
        replace Pf0 : ((Z2.setCell ⟨g9, 0, none⟩ (.int .i64 pa)).setCell ⟨g9, 1, none⟩ (.int .i64 q)).frozen? ⟨g9, 0, none⟩ = false := by simp [go_sem, Pf0]
        replace Pf1 : ((Z2.setCell ⟨g9, 0, none⟩ (.int .i64 pa)).setCell ⟨g9, 1, none⟩ (.int .i64 q)).frozen? ⟨g9, 1, none⟩ = false := by simp [go_sem, Pf1]
        replace Q0 : ((Z2.setCell ⟨g9, 0, none⟩ (.int .i64 pa)).setCell ⟨g9, 1, none⟩ (.int .i64 q)).cell? ⟨g10, 0, none⟩ = some (.int .i64 a) := ((World.cell?_setCell_other _ _ _ _ (by intro e; injection e with e1 e2; omega)).trans ((World.cell?_setCell_other _ _ _ _ (by intro e; injection e with e1 e2; omega)).trans Q0))
        replace Q1 : ((Z2.setCell ⟨g9, 0, none⟩ (.int .i64 pa)).setCell ⟨g9, 1, none⟩ (.int .i64 q)).cell? ⟨g10, 1, none⟩ = some (.int .i64 s) := ((World.cell?_setCell_other _ _ _ _ (by intro e; injection e with e1 e2; omega)).trans ((World.cell?_setCell_other _ _ _ _ (by intro e; injection e with e1 e2; omega)).trans Q1))
        replace Q2 : ((Z2.setCell ⟨g9, 0, none⟩ (.int .i64 pa)).setCell ⟨g9, 1, none⟩ (.int .i64 q)).cell? ⟨g10, 2, none⟩ = some (.int .i64 lo) := ((World.cell?_setCell_other _ _ _ _ (by intro e; injection e with e1 e2; omega)).trans ((World.cell?_setCell_other _ _ _ _ (by intro e; injection e with e1 e2; omega)).trans Q2))
        replace Q3 : ((Z2.setCell ⟨g9, 0, none⟩ (.int .i64 pa)).setCell ⟨g9, 1, none⟩ (.int .i64 q)).cell? ⟨g10, 3, none⟩ = some (.int .i64 hi) := ((World.cell?_setCell_other _ _ _ _ (by intro e; injection e with e1 e2; omega)).trans ((World.cell?_setCell_other _ _ _ _ (by intro e; injection e with e1 e2; omega)).trans Q3))
        replace Q4 : ((Z2.setCell ⟨g9, 0, none⟩ (.int .i64 pa)).setCell ⟨g9, 1, none⟩ (.int .i64 q)).cell? ⟨g10, 4, none⟩ = some (.int .i64 tm) := ((World.cell?_setCell_other _ _ _ _ (by intro e; injection e with e1 e2; omega)).trans ((World.cell?_setCell_other _ _ _ _ (by intro e; injection e with e1 e2; omega)).trans Q4))
        replace Qf0 : ((Z2.setCell ⟨g9, 0, none⟩ (.int .i64 pa)).setCell ⟨g9, 1, none⟩ (.int .i64 q)).frozen? ⟨g10, 0, none⟩ = false := by simp [go_sem, Qf0]
        replace Qf1 : ((Z2.setCell ⟨g9, 0, none⟩ (.int .i64 pa)).setCell ⟨g9, 1, none⟩ (.int .i64 q)).frozen? ⟨g10, 1, none⟩ = false := by simp [go_sem, Qf1]
        replace n8 : g8 < ((Z2.setCell ⟨g9, 0, none⟩ (.int .i64 pa)).setCell ⟨g9, 1, none⟩ (.int .i64 q)).heap.size := by simpa [World.setCell] using n8
        replace nP : g9 < ((Z2.setCell ⟨g9, 0, none⟩ (.int .i64 pa)).setCell ⟨g9, 1, none⟩ (.int .i64 q)).heap.size := by simpa [World.setCell] using nP
        replace nQ : g10 < ((Z2.setCell ⟨g9, 0, none⟩ (.int .i64 pa)).setCell ⟨g9, 1, none⟩ (.int .i64 q)).heap.size := by simpa [World.setCell] using nQ
        replace hL := hL.setCell (p := ⟨g9, 0, none⟩) (by show (g8 + 1) ≤ g9; omega) (.int .i64 pa)
        replace hL := hL.setCell (p := ⟨g9, 1, none⟩) (by show (g8 + 1) ≤ g9; omega) (.int .i64 q)
        replace hQ := Lib.hid (hQ.out.trans (Kept.set _ (p := ⟨g9, 0, none⟩) (.inl rfl) (.int .i64 pa)))
        replace hQ := Lib.hid (hQ.out.trans (Kept.set _ (p := ⟨g9, 1, none⟩) (.inl rfl) (.int .i64 q)))
        refine hK.out _ _ ⟨e0, e1, e2, e3, e4, trivial⟩ (fun hHeld => ?_)
        clear hK K
        generalize ((Z2.setCell ⟨g9, 0, none⟩ (.int .i64 pa)).setCell ⟨g9, 1, none⟩ (.int .i64 q)) = Z3 at *
        try simp only [Act.put, List.setIfInBounds_toArray, List.set_cons_zero, List.set_cons_succ]
        refine take_slot (i := 13) (d := 43) (v := ?_) rfl rfl (by kernel_rfl) (by kernel_rfl) (by kernel_rfl) (fun _ _ _ h => h) (Or.inl ⟨by rfl, ?_⟩) (by assumption) ?_
        rotate_left 1
        focus (intro wS hSw; (try dsimp only at hSw); go_simp; try with_reducible rfl)
        try simp only [List.setIfInBounds_toArray, List.set_cons_zero, List.set_cons_succ]
        refine wpAnyH_ready (rs := [14]) (by kernel_rfl) (by simp) ?_
        refine AllReadyH.cons rfl (fun K hK => ?_) AllReadyH.nil
        go_simp
        replace e0 : ((Z3.setCell ⟨g10, 0, none⟩ (.int .i64 ra)).setCell ⟨g10, 1, none⟩ (.int .i64 rs)).cell? ⟨g8, 0, none⟩ = some (.int .i64 a) := ((World.cell?_setCell_other _ _ _ _ (by intro e; injection e with e1 e2; omega)).trans ((World.cell?_setCell_other _ _ _ _ (by intro e; injection e with e1 e2; omega)).trans e0))
        replace e1 : ((Z3.setCell ⟨g10, 0, none⟩ (.int .i64 ra)).setCell ⟨g10, 1, none⟩ (.int .i64 rs)).cell? ⟨g8, 1, none⟩ = some (.int .i64 s) := ((World.cell?_setCell_other _ _ _ _ (by intro e; injection e with e1 e2; omega)).trans ((World.cell?_setCell_other _ _ _ _ (by intro e; injection e with e1 e2; omega)).trans e1))
        replace e2 : ((Z3.setCell ⟨g10, 0, none⟩ (.int .i64 ra)).setCell ⟨g10, 1, none⟩ (.int .i64 rs)).cell? ⟨g8, 2, none⟩ = some (.int .i64 lo) := ((World.cell?_setCell_other _ _ _ _ (by intro e; injection e with e1 e2; omega)).trans ((World.cell?_setCell_other _ _ _ _ (by intro e; injection e with e1 e2; omega)).trans e2))
        replace e3 : ((Z3.setCell ⟨g10, 0, none⟩ (.int .i64 ra)).setCell ⟨g10, 1, none⟩ (.int .i64 rs)).cell? ⟨g8, 3, none⟩ = some (.int .i64 hi) := ((World.cell?_setCell_other _ _ _ _ (by intro e; injection e with e1 e2; omega)).trans ((World.cell?_setCell_other _ _ _ _ (by intro e; injection e with e1 e2; omega)).trans e3))
        replace e4 : ((Z3.setCell ⟨g10, 0, none⟩ (.int .i64 ra)).setCell ⟨g10, 1, none⟩ (.int .i64 rs)).cell? ⟨g8, 4, none⟩ = some (.int .i64 tm) := ((World.cell?_setCell_other _ _ _ _ (by intro e; injection e with e1 e2; omega)).trans ((World.cell?_setCell_other _ _ _ _ (by intro e; injection e with e1 e2; omega)).trans e4))
        replace P0 : ((Z3.setCell ⟨g10, 0, none⟩ (.int .i64 ra)).setCell ⟨g10, 1, none⟩ (.int .i64 rs)).cell? ⟨g9, 0, none⟩ = some (.int .i64 pa) := ((World.cell?_setCell_other _ _ _ _ (by intro e; injection e with e1 e2; omega)).trans ((World.cell?_setCell_other _ _ _ _ (by intro e; injection e with e1 e2; omega)).trans P0))
        replace P1 : ((Z3.setCell ⟨g10, 0, none⟩ (.int .i64 ra)).setCell ⟨g10, 1, none⟩ (.int .i64 rs)).cell? ⟨g9, 1, none⟩ = some (.int .i64 q) := ((World.cell?_setCell_other _ _ _ _ (by intro e; injection e with e1 e2; omega)).trans ((World.cell?_setCell_other _ _ _ _ (by intro e; injection e with e1 e2; omega)).trans P1))
        replace P2 : ((Z3.setCell ⟨g10, 0, none⟩ (.int .i64 ra)).setCell ⟨g10, 1, none⟩ (.int .i64 rs)).cell? ⟨g9, 2, none⟩ = some (.int .i64 lo) := ((World.cell?_setCell_other _ _ _ _ (by intro e; injection e with e1 e2; omega)).trans ((World.cell?_setCell_other _ _ _ _ (by intro e; injection e with e1 e2; omega)).trans P2))
        replace P3 : ((Z3.setCell ⟨g10, 0, none⟩ (.int .i64 ra)).setCell ⟨g10, 1, none⟩ (.int .i64 rs)).cell? ⟨g9, 3, none⟩ = some (.int .i64 hi) := ((World.cell?_setCell_other _ _ _ _ (by intro e; injection e with e1 e2; omega)).trans ((World.cell?_setCell_other _ _ _ _ (by intro e; injection e with e1 e2; omega)).trans P3))
        replace P4 : ((Z3.setCell ⟨g10, 0, none⟩ (.int .i64 ra)).setCell ⟨g10, 1, none⟩ (.int .i64 rs)).cell? ⟨g9, 4, none⟩ = some (.int .i64 tm) := ((World.cell?_setCell_other _ _ _ _ (by intro e; injection e with e1 e2; omega)).trans ((World.cell?_setCell_other _ _ _ _ (by intro e; injection e with e1 e2; omega)).trans P4))
        replace Pf0 : ((Z3.setCell ⟨g10, 0, none⟩ (.int .i64 ra)).setCell ⟨g10, 1, none⟩ (.int .i64 rs)).frozen? ⟨g9, 0, none⟩ = false := by simp [go_sem, Pf0]
        replace Pf1 : ((Z3.setCell ⟨g10, 0, none⟩ (.int .i64 ra)).setCell ⟨g10, 1, none⟩ (.int .i64 rs)).frozen? ⟨g9, 1, none⟩ = false := by simp [go_sem, Pf1]
        replace Q0 : ((Z3.setCell ⟨g10, 0, none⟩ (.int .i64 ra)).setCell ⟨g10, 1, none⟩ (.int .i64 rs)).cell? ⟨g10, 0, none⟩ = some (.int .i64 ra) := by simp [go_sem, Q0]
        replace Q1 : ((Z3.setCell ⟨g10, 0, none⟩ (.int .i64 ra)).setCell ⟨g10, 1, none⟩ (.int .i64 rs)).cell? ⟨g10, 1, none⟩ = some (.int .i64 rs) := by simp [go_sem, Q1]
        replace Q2 : ((Z3.setCell ⟨g10, 0, none⟩ (.int .i64 ra)).setCell ⟨g10, 1, none⟩ (.int .i64 rs)).cell? ⟨g10, 2, none⟩ = some (.int .i64 lo) := ((World.cell?_setCell_other _ _ _ _ (by intro e; injection e with e1 e2; omega)).trans ((World.cell?_setCell_other _ _ _ _ (by intro e; injection e with e1 e2; omega)).trans Q2))
        replace Q3 : ((Z3.setCell ⟨g10, 0, none⟩ (.int .i64 ra)).setCell ⟨g10, 1, none⟩ (.int .i64 rs)).cell? ⟨g10, 3, none⟩ = some (.int .i64 hi) := ((World.cell?_setCell_other _ _ _ _ (by intro e; injection e with e1 e2; omega)).trans ((World.cell?_setCell_other _ _ _ _ (by intro e; injection e with e1 e2; omega)).trans Q3))
        replace Q4 : ((Z3.setCell ⟨g10, 0, none⟩ (.int .i64 ra)).setCell ⟨g10, 1, none⟩ (.int .i64 rs)).cell? ⟨g10, 4, none⟩ = some (.int .i64 tm) := ((World.cell?_setCell_other _ _ _ _ (by intro e; injection e with e1 e2; omega)).trans ((World.cell?_setCell_other _ _ _ _ (by intro e; injection e with e1 e2; omega)).trans Q4))
        replace Qf0 : ((Z3.setCell ⟨g10, 0, none⟩ (.int .i64 ra)).setCell ⟨g10, 1, none⟩ (.int .i64 rs)).frozen? ⟨g10, 0, none⟩ = false := by simp [go_sem, Qf0]
        replace Qf1 : ((Z3.setCell ⟨g10, 0, none⟩ (.int .i64 ra)).setCell ⟨g10, 1, none⟩ (.int .i64 rs)).frozen? ⟨g10, 1, none⟩ = false := by simp [go_sem, Qf1]
        replace n8 : g8 < ((Z3.setCell ⟨g10, 0, none⟩ (.int .i64 ra)).setCell ⟨g10, 1, none⟩ (.int .i64 rs)).heap.size := by simpa [World.setCell] using n8
        replace nP : g9 < ((Z3.setCell ⟨g10, 0, none⟩ (.int .i64 ra)).setCell ⟨g10, 1, none⟩ (.int .i64 rs)).heap.size := by simpa [World.setCell] using nP
        replace nQ : g10 < ((Z3.setCell ⟨g10, 0, none⟩ (.int .i64 ra)).setCell ⟨g10, 1, none⟩ (.int .i64 rs)).heap.size := by simpa [World.setCell] using nQ
        replace hL := hL.setCell (p := ⟨g10, 0, none⟩) (by show (g8 + 1) ≤ g10; omega) (.int .i64 ra)
        replace hL := hL.setCell (p := ⟨g10, 1, none⟩) (by show (g8 + 1) ≤ g10; omega) (.int .i64 rs)
        replace hQ := Lib.hid (hQ.out.trans (Kept.set _ (p := ⟨g10, 0, none⟩) (.inr rfl) (.int .i64 ra)))
        replace hQ := Lib.hid (hQ.out.trans (Kept.set _ (p := ⟨g10, 1, none⟩) (.inr rfl) (.int .i64 rs)))
        refine hK.out _ _ ⟨e0, e1, e2, e3, e4, trivial⟩ (fun hHeld => ?_)
        clear hK K
        generalize ((Z3.setCell ⟨g10, 0, none⟩ (.int .i64 ra)).setCell ⟨g10, 1, none⟩ (.int .i64 rs)) = Z4 at *
        try simp only [Act.put, List.setIfInBounds_toArray, List.set_cons_zero, List.set_cons_succ]
        refine wpAnyH_done (by kernel_rfl) ?_ _
        have hKQ := hQ.out
        have hu1 : ∀ g, u4.ownBlock = some g → ¬ (g = g9 ∨ g = g10) := fun g h h2 => by have := (hOb1 g h).2; rcases h2 with h2 | h2 <;> omega
        have hu2 : ∀ g, u5.ownBlock = some g → ¬ (g = g9 ∨ g = g10) := fun g h h2 => by have := (hOb2 g h).2; rcases h2 with h2 | h2 <;> omega
        replace HO1 := Lib.hid (HO1.out.kept hKQ hu1)
        replace HO2 := Lib.hid (HO2.out.kept hKQ hu2)
        replace hLA := Lib.hid (hLA.out.trans (hL.mono (by omega)))
        have L9 : Hid (LotIn Z4 g9 ⟨pa, q, lo, hi, tm⟩) := Lib.hid ⟨nP, P0, P1, P2, P3, P4, Pf0, Pf1⟩
        have L10 : Hid (LotIn Z4 g10 ⟨ra, rs, lo, hi, tm⟩) := Lib.hid ⟨nQ, Q0, Q1, Q2, Q3, Q4, Qf0, Qf1⟩
        clear e0 e1 e2 e3 e4 ef0 ef1 n8 nP P0 P1 P2 P3 P4 Pf0 Pf1 nQ Q0 Q1 Q2 Q3 Q4 Qf0 Qf1 hKQ hu1 hu2 hQ hL C36 C38 hHeld hBW hne
        by_cases hpm : 0 < mm
        · have tp : decide (0 < mm) = true := by simp; omega
          by_cases hrm : 0 < rr
          · have tr : decide (0 < rr) = true := by simp; omega
            obtain ⟨nP, P0, P1, P2, P3, P4, Pf0, Pf1⟩ := L9.out
            dsimp only at P0 P1 P2 P3 P4
            go_wp2_with fail
            refine (C46.out _).mono ?_
            rintro e Y1 ⟨rfl, hb⟩
            replace L9 := Lib.hid (L9.out.kept (Kept.of_below' hb (fun _ => False)) (fun h => h))
            replace L10 := Lib.hid (L10.out.kept (Kept.of_below' hb (fun _ => False)) (fun h => h))
            replace HO1 := Lib.hid (HO1.out.below hb)
            replace HO2 := Lib.hid (HO2.out.below hb)
            replace hLA := Lib.hid (hLA.out.trans (hb.mono hLA.out.size))
            clear hb
            clear nP P0 P1 P2 P3 P4 Pf0 Pf1
            obtain ⟨nP, P0, P1, P2, P3, P4, Pf0, Pf1⟩ := L9.out
            dsimp only at P0 P1 P2 P3 P4
            go_wp2_with fail
            refine (C46.out _).mono ?_
            rintro e Y2 ⟨rfl, hb⟩
            replace L9 := Lib.hid (L9.out.kept (Kept.of_below' hb (fun _ => False)) (fun h => h))
            replace L10 := Lib.hid (L10.out.kept (Kept.of_below' hb (fun _ => False)) (fun h => h))
            replace HO1 := Lib.hid (HO1.out.below hb)
            replace HO2 := Lib.hid (HO2.out.below hb)
            replace hLA := Lib.hid (hLA.out.trans (hb.mono hLA.out.size))
            clear hb
            clear nP P0 P1 P2 P3 P4 Pf0 Pf1
            obtain ⟨nP, P0, P1, P2, P3, P4, Pf0, Pf1⟩ := L9.out
            dsimp only at P0 P1 P2 P3 P4
            have hOL := World.ownsRow.lt HO1.out
            go_wp2_with (at_builtin; refine wpList_append_own_at _ rfl (.tmp 51) (.tmp 53) 87 rfl w.heap.size 92 i0 (.agg #[.int .i64 0, .int .i64 0, .int .i64 0, .int .i64 0, .int .i64 0]) 5 40 Try.underlying87 hi0 hz0 hz1 hz2 rfl (by decide) u4 T.length (flatL T) rfl (World.ownsRow.alloc HO1.out _) ⟨Y2.heap.size, 0, none⟩ 1 1 (cellsL ⟨pa, q, lo, hi, tm⟩) rfl rfl ?_ ?_ ?_ ?_ ?_ ?_)
            case refine_1 =>
              intro j u hj
              rcases j with _ | _ | _ | _ | _ | j
              all_goals simp [cellsL] at hj
              all_goals (subst hj; exact cell_new _ _ _ _)
            case refine_2 => simp [cellsL, Value.oneCell']
            case refine_3 => unfold maxLen; omega
            case refine_4 => omega
            case refine_5 => have := hLA.out.size; simp; omega
            case refine_6 =>
              clear nP P0 P1 P2 P3 P4 Pf0 Pf1
              intro v1 Y3 hown' hgrow _ hat
              have hg2 := grown_alloc hgrow
              have hKg := Kept.of_grown hg2
              have hN1 : OwnL w.heap.size Y3 v1 (T ++ [⟨pa, q, lo, hi, tm⟩]) := by unfold OwnL; rw [flatL_append, flatL_one, List.length_append]; exact hown'
              have hat2 : v1.ownBlock = u4.ownBlock ∨ ∃ g, v1.ownBlock = some g ∧ Y2.heap.size ≤ g := by rcases hat with h | h; exact .inl h; exact .inr ⟨_, h, by simp⟩
              replace hLA := Lib.hid (hLA.out.grown hg2 hLA.out.size (fun g h => (hOL g h).1))
              clear hown' hgrow hat
              replace L10 := Lib.hid (L10.out.kept hKg (fun h => by have := (hOb1 g10 h).2; omega))
              have hO2 : OwnL w.heap.size Y3 u5 F := HO2.out.kept hKg (fun g h h2 => HAp.out g h2 h)
              have hlt2 := World.ownsRow.lt HO2.out
              replace HAp : Hid (Apart2 v1 u5) := Lib.hid (fun g h => by rcases hat2 with h1 | ⟨g', h1, h2⟩; exact HAp.out g (h1 ▸ h); intro h3; rw [h1] at h; injection h with h; have := (hlt2 g h3).2; omega)
              replace HO1 := Lib.hid hN1
              replace HO2 := Lib.hid hO2
              clear hN1 hO2 hlt2 hat2 hKg hg2 hOL L9
              obtain ⟨nQ, Q0, Q1, Q2, Q3, Q4, Qf0, Qf1⟩ := L10.out
              dsimp only at Q0 Q1 Q2 Q3 Q4
              go_wp2_with fail
              refine (C56.out _).mono ?_
              rintro e Y4 ⟨rfl, hb⟩
              replace L10 := Lib.hid (L10.out.kept (Kept.of_below' hb (fun _ => False)) (fun h => h))
              replace HO1 := Lib.hid (HO1.out.below hb)
              replace HO2 := Lib.hid (HO2.out.below hb)
              replace hLA := Lib.hid (hLA.out.trans (hb.mono hLA.out.size))
              clear hb
              clear nQ Q0 Q1 Q2 Q3 Q4 Qf0 Qf1
              obtain ⟨nQ, Q0, Q1, Q2, Q3, Q4, Qf0, Qf1⟩ := L10.out
              dsimp only at Q0 Q1 Q2 Q3 Q4
              have hOL := World.ownsRow.lt HO2.out
              go_wp2_with (at_builtin; refine wpList_append_own_at _ rfl (.tmp 58) (.tmp 60) 87 rfl w.heap.size 92 i0 (.agg #[.int .i64 0, .int .i64 0, .int .i64 0, .int .i64 0, .int .i64 0]) 5 40 Try.underlying87 hi0 hz0 hz1 hz2 rfl (by decide) u5 F.length (flatL F) rfl (World.ownsRow.alloc HO2.out _) ⟨Y4.heap.size, 0, none⟩ 1 1 (cellsL ⟨ra, rs, lo, hi, tm⟩) rfl rfl ?_ ?_ ?_ ?_ ?_ ?_)
              case refine_1 =>
                intro j u hj
                rcases j with _ | _ | _ | _ | _ | j
                all_goals simp [cellsL] at hj
                all_goals (subst hj; exact cell_new _ _ _ _)
              case refine_2 => simp [cellsL, Value.oneCell']
              case refine_3 => unfold maxLen; omega
              case refine_4 => omega
              case refine_5 => have := hLA.out.size; simp; omega
              case refine_6 =>
                clear nQ Q0 Q1 Q2 Q3 Q4 Qf0 Qf1
                intro v2 Y5 hown' hgrow _ hat
                have hg2 := grown_alloc hgrow
                have hKg := Kept.of_grown hg2
                have hN1 : OwnL w.heap.size Y5 v2 (F ++ [⟨ra, rs, lo, hi, tm⟩]) := by unfold OwnL; rw [flatL_append, flatL_one, List.length_append]; exact hown'
                have hat2 : v2.ownBlock = u5.ownBlock ∨ ∃ g, v2.ownBlock = some g ∧ Y4.heap.size ≤ g := by rcases hat with h | h; exact .inl h; exact .inr ⟨_, h, by simp⟩
                replace hLA := Lib.hid (hLA.out.grown hg2 hLA.out.size (fun g h => (hOL g h).1))
                clear hown' hgrow hat
                have hO1 : OwnL w.heap.size Y5 v1 (T ++ [⟨pa, q, lo, hi, tm⟩]) := HO1.out.kept hKg (fun g h h2 => HAp.out g h h2)
                have hlt1 := World.ownsRow.lt HO1.out
                replace HAp : Hid (Apart2 v1 v2) := Lib.hid (fun g h h3 => by rcases hat2 with h1 | ⟨g', h1, h2⟩; exact HAp.out g h (h1 ▸ h3); rw [h1] at h3; injection h3 with h3; have := (hlt1 g h).2; omega)
                replace HO2 := Lib.hid hN1
                replace HO1 := Lib.hid hO1
                clear hN1 hO1 hlt1 hat2 hKg hg2 hOL L10
                go_wp2_with fail
                go_roundw
                rw [if_pos hpm, if_pos hrm] at HNN
                case rel => exact ⟨k + 1, by omega, by go_num, by rw [HNN.out], Lib.hid (by rw [HNN.out]; exact ⟨HBN.out.1, HBN.out.2, by simp; omega, by simp; omega⟩), Lib.hid (by rw [HNN.out]; exact HO1.out), Lib.hid (by rw [HNN.out]; exact HO2.out), HAp, hLA.out⟩
                case measure => simp [RowKit.intOf]; omega
          · have tr : decide (0 < rr) = false := by simp; omega
            obtain ⟨nP, P0, P1, P2, P3, P4, Pf0, Pf1⟩ := L9.out
            dsimp only at P0 P1 P2 P3 P4
            go_wp2_with fail
            refine (C46.out _).mono ?_
            rintro e Y1 ⟨rfl, hb⟩
            replace L9 := Lib.hid (L9.out.kept (Kept.of_below' hb (fun _ => False)) (fun h => h))
            replace L10 := Lib.hid (L10.out.kept (Kept.of_below' hb (fun _ => False)) (fun h => h))
            replace HO1 := Lib.hid (HO1.out.below hb)
            replace HO2 := Lib.hid (HO2.out.below hb)
            replace hLA := Lib.hid (hLA.out.trans (hb.mono hLA.out.size))
            clear hb
            clear nP P0 P1 P2 P3 P4 Pf0 Pf1
            obtain ⟨nP, P0, P1, P2, P3, P4, Pf0, Pf1⟩ := L9.out
            dsimp only at P0 P1 P2 P3 P4
            go_wp2_with fail
            refine (C46.out _).mono ?_
            rintro e Y2 ⟨rfl, hb⟩
            replace L9 := Lib.hid (L9.out.kept (Kept.of_below' hb (fun _ => False)) (fun h => h))
            replace L10 := Lib.hid (L10.out.kept (Kept.of_below' hb (fun _ => False)) (fun h => h))
            replace HO1 := Lib.hid (HO1.out.below hb)
            replace HO2 := Lib.hid (HO2.out.below hb)
            replace hLA := Lib.hid (hLA.out.trans (hb.mono hLA.out.size))
            clear hb
            clear nP P0 P1 P2 P3 P4 Pf0 Pf1
            obtain ⟨nP, P0, P1, P2, P3, P4, Pf0, Pf1⟩ := L9.out
            dsimp only at P0 P1 P2 P3 P4
            have hOL := World.ownsRow.lt HO1.out
            go_wp2_with (at_builtin; refine wpList_append_own_at _ rfl (.tmp 51) (.tmp 53) 87 rfl w.heap.size 92 i0 (.agg #[.int .i64 0, .int .i64 0, .int .i64 0, .int .i64 0, .int .i64 0]) 5 40 Try.underlying87 hi0 hz0 hz1 hz2 rfl (by decide) u4 T.length (flatL T) rfl (World.ownsRow.alloc HO1.out _) ⟨Y2.heap.size, 0, none⟩ 1 1 (cellsL ⟨pa, q, lo, hi, tm⟩) rfl rfl ?_ ?_ ?_ ?_ ?_ ?_)
            case refine_1 =>
              intro j u hj
              rcases j with _ | _ | _ | _ | _ | j
              all_goals simp [cellsL] at hj
              all_goals (subst hj; exact cell_new _ _ _ _)
            case refine_2 => simp [cellsL, Value.oneCell']
            case refine_3 => unfold maxLen; omega
            case refine_4 => omega
            case refine_5 => have := hLA.out.size; simp; omega
            case refine_6 =>
              clear nP P0 P1 P2 P3 P4 Pf0 Pf1
              intro v1 Y3 hown' hgrow _ hat
              have hg2 := grown_alloc hgrow
              have hKg := Kept.of_grown hg2
              have hN1 : OwnL w.heap.size Y3 v1 (T ++ [⟨pa, q, lo, hi, tm⟩]) := by unfold OwnL; rw [flatL_append, flatL_one, List.length_append]; exact hown'
              have hat2 : v1.ownBlock = u4.ownBlock ∨ ∃ g, v1.ownBlock = some g ∧ Y2.heap.size ≤ g := by rcases hat with h | h; exact .inl h; exact .inr ⟨_, h, by simp⟩
              replace hLA := Lib.hid (hLA.out.grown hg2 hLA.out.size (fun g h => (hOL g h).1))
              clear hown' hgrow hat
              replace L10 := Lib.hid (L10.out.kept hKg (fun h => by have := (hOb1 g10 h).2; omega))
              have hO2 : OwnL w.heap.size Y3 u5 F := HO2.out.kept hKg (fun g h h2 => HAp.out g h2 h)
              have hlt2 := World.ownsRow.lt HO2.out
              replace HAp : Hid (Apart2 v1 u5) := Lib.hid (fun g h => by rcases hat2 with h1 | ⟨g', h1, h2⟩; exact HAp.out g (h1 ▸ h); intro h3; rw [h1] at h; injection h with h; have := (hlt2 g h3).2; omega)
              replace HO1 := Lib.hid hN1
              replace HO2 := Lib.hid hO2
              clear hN1 hO2 hlt2 hat2 hKg hg2 hOL L9
              obtain ⟨nQ, Q0, Q1, Q2, Q3, Q4, Qf0, Qf1⟩ := L10.out
              dsimp only at Q0 Q1 Q2 Q3 Q4
              go_wp2_with fail
              refine (C56.out _).mono ?_
              rintro e Y4 ⟨rfl, hb⟩
              replace L10 := Lib.hid (L10.out.kept (Kept.of_below' hb (fun _ => False)) (fun h => h))
              replace HO1 := Lib.hid (HO1.out.below hb)
              replace HO2 := Lib.hid (HO2.out.below hb)
              replace hLA := Lib.hid (hLA.out.trans (hb.mono hLA.out.size))
              clear hb
              clear nQ Q0 Q1 Q2 Q3 Q4 Qf0 Qf1
              clear L10
              go_wp2_with fail
              go_roundw
              rw [if_pos hpm, if_neg (by omega)] at HNN
              case rel => exact ⟨k + 1, by omega, by go_num, by rw [HNN.out], Lib.hid (by rw [HNN.out]; exact ⟨HBN.out.1, HBN.out.2, by simp; omega, by simp; omega⟩), Lib.hid (by rw [HNN.out]; exact HO1.out), Lib.hid (by rw [HNN.out]; exact HO2.out), HAp, hLA.out⟩
              case measure => simp [RowKit.intOf]; omega
        · have tp : decide (0 < mm) = false := by simp; omega
          by_cases hrm : 0 < rr
          · have tr : decide (0 < rr) = true := by simp; omega
            obtain ⟨nP, P0, P1, P2, P3, P4, Pf0, Pf1⟩ := L9.out
            dsimp only at P0 P1 P2 P3 P4
            go_wp2_with fail
            refine (C46.out _).mono ?_
            rintro e Y1 ⟨rfl, hb⟩
            replace L9 := Lib.hid (L9.out.kept (Kept.of_below' hb (fun _ => False)) (fun h => h))
            replace L10 := Lib.hid (L10.out.kept (Kept.of_below' hb (fun _ => False)) (fun h => h))
            replace HO1 := Lib.hid (HO1.out.below hb)
            replace HO2 := Lib.hid (HO2.out.below hb)
            replace hLA := Lib.hid (hLA.out.trans (hb.mono hLA.out.size))
            clear hb
            clear nP P0 P1 P2 P3 P4 Pf0 Pf1
            obtain ⟨nP, P0, P1, P2, P3, P4, Pf0, Pf1⟩ := L9.out
            dsimp only at P0 P1 P2 P3 P4
            go_wp2_with fail
            refine (C46.out _).mono ?_
            rintro e Y2 ⟨rfl, hb⟩
            replace L9 := Lib.hid (L9.out.kept (Kept.of_below' hb (fun _ => False)) (fun h => h))
            replace L10 := Lib.hid (L10.out.kept (Kept.of_below' hb (fun _ => False)) (fun h => h))
            replace HO1 := Lib.hid (HO1.out.below hb)
            replace HO2 := Lib.hid (HO2.out.below hb)
            replace hLA := Lib.hid (hLA.out.trans (hb.mono hLA.out.size))
            clear hb
            clear nP P0 P1 P2 P3 P4 Pf0 Pf1
            clear L9
            obtain ⟨nQ, Q0, Q1, Q2, Q3, Q4, Qf0, Qf1⟩ := L10.out
            dsimp only at Q0 Q1 Q2 Q3 Q4
            go_wp2_with fail
            refine (C56.out _).mono ?_
            rintro e Y4 ⟨rfl, hb⟩
            replace L10 := Lib.hid (L10.out.kept (Kept.of_below' hb (fun _ => False)) (fun h => h))
            replace HO1 := Lib.hid (HO1.out.below hb)
            replace HO2 := Lib.hid (HO2.out.below hb)
            replace hLA := Lib.hid (hLA.out.trans (hb.mono hLA.out.size))
            clear hb
            clear nQ Q0 Q1 Q2 Q3 Q4 Qf0 Qf1
            obtain ⟨nQ, Q0, Q1, Q2, Q3, Q4, Qf0, Qf1⟩ := L10.out
            dsimp only at Q0 Q1 Q2 Q3 Q4
            have hOL := World.ownsRow.lt HO2.out
            go_wp2_with (at_builtin; refine wpList_append_own_at _ rfl (.tmp 58) (.tmp 60) 87 rfl w.heap.size 92 i0 (.agg #[.int .i64 0, .int .i64 0, .int .i64 0, .int .i64 0, .int .i64 0]) 5 40 Try.underlying87 hi0 hz0 hz1 hz2 rfl (by decide) u5 F.length (flatL F) rfl (World.ownsRow.alloc HO2.out _) ⟨Y4.heap.size, 0, none⟩ 1 1 (cellsL ⟨ra, rs, lo, hi, tm⟩) rfl rfl ?_ ?_ ?_ ?_ ?_ ?_)
            case refine_1 =>
              intro j u hj
              rcases j with _ | _ | _ | _ | _ | j
              all_goals simp [cellsL] at hj
              all_goals (subst hj; exact cell_new _ _ _ _)
            case refine_2 => simp [cellsL, Value.oneCell']
            case refine_3 => unfold maxLen; omega
            case refine_4 => omega
            case refine_5 => have := hLA.out.size; simp; omega
            case refine_6 =>
              clear nQ Q0 Q1 Q2 Q3 Q4 Qf0 Qf1
              intro v2 Y5 hown' hgrow _ hat
              have hg2 := grown_alloc hgrow
              have hKg := Kept.of_grown hg2
              have hN1 : OwnL w.heap.size Y5 v2 (F ++ [⟨ra, rs, lo, hi, tm⟩]) := by unfold OwnL; rw [flatL_append, flatL_one, List.length_append]; exact hown'
              have hat2 : v2.ownBlock = u5.ownBlock ∨ ∃ g, v2.ownBlock = some g ∧ Y4.heap.size ≤ g := by rcases hat with h | h; exact .inl h; exact .inr ⟨_, h, by simp⟩
              replace hLA := Lib.hid (hLA.out.grown hg2 hLA.out.size (fun g h => (hOL g h).1))
              clear hown' hgrow hat
              have hO1 : OwnL w.heap.size Y5 u4 T := HO1.out.kept hKg (fun g h h2 => HAp.out g h h2)
              have hlt1 := World.ownsRow.lt HO1.out
              replace HAp : Hid (Apart2 u4 v2) := Lib.hid (fun g h h3 => by rcases hat2 with h1 | ⟨g', h1, h2⟩; exact HAp.out g h (h1 ▸ h3); rw [h1] at h3; injection h3 with h3; have := (hlt1 g h).2; omega)
              replace HO2 := Lib.hid hN1
              replace HO1 := Lib.hid hO1
              clear hN1 hO1 hlt1 hat2 hKg hg2 hOL L10
              go_wp2_with fail
              go_roundw
              rw [if_neg (by omega), if_pos hrm] at HNN
              case rel => exact ⟨k + 1, by omega, by go_num, by rw [HNN.out], Lib.hid (by rw [HNN.out]; exact ⟨HBN.out.1, HBN.out.2, by simp; omega, by simp; omega⟩), Lib.hid (by rw [HNN.out]; exact HO1.out), Lib.hid (by rw [HNN.out]; exact HO2.out), HAp, hLA.out⟩
              case measure => simp [RowKit.intOf]; omega
          · have tr : decide (0 < rr) = false := by simp; omega
            obtain ⟨nP, P0, P1, P2, P3, P4, Pf0, Pf1⟩ := L9.out
            dsimp only at P0 P1 P2 P3 P4
            go_wp2_with fail
            refine (C46.out _).mono ?_
            rintro e Y1 ⟨rfl, hb⟩
            replace L9 := Lib.hid (L9.out.kept (Kept.of_below' hb (fun _ => False)) (fun h => h))
            replace L10 := Lib.hid (L10.out.kept (Kept.of_below' hb (fun _ => False)) (fun h => h))
            replace HO1 := Lib.hid (HO1.out.below hb)
            replace HO2 := Lib.hid (HO2.out.below hb)
            replace hLA := Lib.hid (hLA.out.trans (hb.mono hLA.out.size))
            clear hb
            clear nP P0 P1 P2 P3 P4 Pf0 Pf1
            obtain ⟨nP, P0, P1, P2, P3, P4, Pf0, Pf1⟩ := L9.out
            dsimp only at P0 P1 P2 P3 P4
            go_wp2_with fail
            refine (C46.out _).mono ?_
            rintro e Y2 ⟨rfl, hb⟩
            replace L9 := Lib.hid (L9.out.kept (Kept.of_below' hb (fun _ => False)) (fun h => h))
            replace L10 := Lib.hid (L10.out.kept (Kept.of_below' hb (fun _ => False)) (fun h => h))
            replace HO1 := Lib.hid (HO1.out.below hb)
            replace HO2 := Lib.hid (HO2.out.below hb)
            replace hLA := Lib.hid (hLA.out.trans (hb.mono hLA.out.size))
            clear hb
            clear nP P0 P1 P2 P3 P4 Pf0 Pf1
            clear L9
            obtain ⟨nQ, Q0, Q1, Q2, Q3, Q4, Qf0, Qf1⟩ := L10.out
            dsimp only at Q0 Q1 Q2 Q3 Q4
            go_wp2_with fail
            refine (C56.out _).mono ?_
            rintro e Y4 ⟨rfl, hb⟩
            replace L10 := Lib.hid (L10.out.kept (Kept.of_below' hb (fun _ => False)) (fun h => h))
            replace HO1 := Lib.hid (HO1.out.below hb)
            replace HO2 := Lib.hid (HO2.out.below hb)
            replace hLA := Lib.hid (hLA.out.trans (hb.mono hLA.out.size))
            clear hb
            clear nQ Q0 Q1 Q2 Q3 Q4 Qf0 Qf1
            clear L10
            go_wp2_with fail
            go_roundw
            rw [if_neg (by omega), if_neg (by omega)] at HNN
            case rel => exact ⟨k + 1, by omega, by go_num, by rw [HNN.out], Lib.hid (by rw [HNN.out]; exact ⟨HBN.out.1, HBN.out.2, by simp; omega, by simp; omega⟩), Lib.hid (by rw [HNN.out]; exact HO1.out), Lib.hid (by rw [HNN.out]; exact HO2.out), HAp, hLA.out⟩
            case measure => simp [RowKit.intOf]; omega
    · obtain rfl : k = n := by omega
      have hf : drawL (xs.take k) M = drawL xs M := by rw [List.take_of_length_le (by rw [Hn.out]; exact Nat.le_refl _)]
      rw [hf] at HO1 HO2
      go_wp2_with fail
      refine bodyPost_ret (v := .tuple #[u4, u5, .int .i64 0]) (by simp [results, Try.results51, go_sem]) rfl ⟨_, _, rfl, HO1.out, HO2.out, HAp.out, hL⟩
end Go.Proofs.Ytfdaiififoomoaa
