/- Contracts of package barrel: whether a thing is a bush; how much of what was made comes from a bush. -/
import Derived.Test.YtloddjjmoaljhaaG4
namespace Go.Proofs.Ytloddjjmoaljhaa
open Go.RowKit Go.Lib Go.Shelf Go.Maps
set_option linter.unusedVariables false
set_option linter.unusedSimpArgs false
attribute [local go_sem ↓] Go.wp_at_zero Go.wp_at_succ

set_option maxRecDepth 20000 in
set_option maxHeartbeats 1000000 in
theorem checkBush_ok (B b : Nat) (V : Value) (hs : List (Value × Th)) (k : Nat) (p : Value × Th) (w : World) (hn : hs.length ≤ 200) (hL : Lg B b w V hs) (hp : hs[k]? = some p) (h0 : p.2.tk = []) :
    Calls Try.prog 45 #[.pointer (some ⟨b, 0, none⟩), .int .i64 (k : Int)] w fun e w' => e = .returned (.int .i64 0) ∧ Below w.heap.size w w' := by
  have hklt := (List.getElem?_eq_some_iff.1 hp).1
  have CK : Hid (∀ (W : World) (g c : Nat), Below w.heap.size w W → g < W.heap.size → W.cell? ⟨g, 0, none⟩ = some (.int .i64 (k : Int)) → Calls Try.prog 40 #[.pointer (some ⟨b, 0, none⟩), .slice (some ⟨g, 0, none⟩) 1 c] W fun e w' => e = .returned (.int .i64 0) ∧ Below W.heap.size W w') := Lib.hid (fun W g c h hg hc => lcheck_ok B b V _ hs [(k : Int)] W (by omega) (by simp) (hL.below h) ((ns_one hc).mono (by omega)) (by simp [insB, inB]; omega))
  obtain ⟨tv, th⟩ := p
  obtain ⟨tA, tc, hh, _⟩ := hL.tk _ (List.mem_of_getElem? hp)
  dsimp only at hh h0
  rw [h0] at hh
  subst hh
  obtain ⟨g, c, rfl, hc1, hc2, hc3, hc4, q0, q1, q2, _⟩ := hL.at hp
  have cb := hL.cell
  have nb := hL.lt
  obtain ⟨tk, m, l⟩ := th
  have CB := Lib.hid (bush_any tA 0 tc m l)
  dsimp only [List.length_nil] at q0 q1 q2
  generalize hs.length = n at *
  have hk2 : (k : Int) < (n : Int) := by omega
  clear hL hp hc2 hc4 h0
  go_enter Try.func45, Try.ntmps45
  go_wp2_with fail
  refine (CK.out _ _ _ ((Below.refl _ _).alloc (Nat.le_refl _) _) (by simp) (by simp [go_sem])).mono ?_
  rintro e w1 ⟨rfl, hb⟩
  have hB := below1 hb
  replace q0 := cell_next hB hc3 q0
  replace q1 := cell_next hB hc3 q1
  replace q2 := cell_next hB hc3 q2
  replace cb := cell_next hB nb cb
  clear hb CK
  go_wp2_with fail
  refine (CB.out _).mono ?_
  rintro e w2 ⟨rfl, hb⟩
  go_wp2_with fail
  go_ret
  exact ⟨rfl, hB.trans (hb.mono hB.size)⟩

/-- what one take adds to the least and to the greatest amount -/
def am1 (ths : List Th) (am : List (Int × Int)) (s p : Int × Int) : Int × Int :=
  (s.1 + max 0 ((am.getD p.1.toNat (0, 0)).1 - ((ths.getD p.1.toNat ⟨[], 0, 0⟩).m - p.2)), s.2 + min (am.getD p.1.toNat (0, 0)).2 p.2)
def amT (ths : List Th) (am : List (Int × Int)) (tk : List (Int × Int)) : Int × Int := tk.foldl (am1 ths am) (0, 0)
/-- how many grams of a thing come from the bush -/
def mdV (ths : List Th) (am : List (Int × Int)) (th : Th) : Int × Int := (max 0 ((amT ths am th.tk).1 - loT th), min (amT ths am th.tk).2 th.m)
theorem amT_take {ths : List Th} {am : List (Int × Int)} {tk : List (Int × Int)} {k : Nat} {p : Int × Int} (h : tk[k]? = some p) : amT ths am (tk.take (k + 1)) = am1 ths am (amT ths am (tk.take k)) p := by rw [List.take_add_one, h]; simp [amT, List.foldl_append]
def amB (a : Int × Int) : Prop := 0 ≤ a.1 ∧ a.1 ≤ 1000000000 ∧ 0 ≤ a.2 ∧ a.2 ≤ 1000000000

set_option maxRecDepth 40000 in
set_option maxHeartbeats 4000000 in
theorem made_ok (B b : Nat) (V va tv : Value) (hs : List (Value × Th)) (ths : List Th) (th : Th) (am : List (Int × Int)) (w : World) (hh : hs.map Prod.snd = ths) (hL : Lg B b w V hs) (hn : hs.length ≤ 200) (htv : RowAt w.heap.size w tv th.tk) (hB1 : tkB th.tk) (hm : 0 ≤ th.m ∧ th.m ≤ 1000000000) (ha : RowAt w.heap.size w va am)
    (hok : ∀ p ∈ th.tk, ∃ (j : Nat) (q : Value × Th) (a : Int × Int), p.1 = (j : Int) ∧ hs[j]? = some q ∧ am[j]? = some a ∧ 0 ≤ q.2.m ∧ q.2.m ≤ 1000000000 ∧ amB a) :
    Calls Try.prog 46 #[.pointer (some ⟨b, 0, none⟩), .agg #[tv, .int .i64 th.m, .int .i64 th.l], va] w fun e w' => e = .returned (.agg #[.int .i64 (mdV ths am th).1, .int .i64 (mdV ths am th).2]) ∧ Below w.heap.size w w' := by
  have CLo : Hid (∀ W, Below w.heap.size w W → Calls Try.prog 41 #[.agg #[tv, .int .i64 th.m, .int .i64 th.l]] W fun e w' => e = .returned (.int .i64 (loT th)) ∧ Below W.heap.size W w') := Lib.hid (fun W h => lost_ok tv th W hB1 hm ((htv.below h (Nat.le_refl _)).mono h.size))
  obtain ⟨b1, b2⟩ := tkS_bd hB1
  have hlo : -1000000000 ≤ loT th ∧ loT th ≤ 20000000000 := by unfold loT; split <;> omega
  have hres : Hid (mdV ths am th = (max 0 ((amT ths am th.tk).1 - loT th), min (amT ths am th.tk).2 th.m)) := Lib.hid rfl
  generalize loT th = lo at *
  generalize mdV ths am th = RES at *
  obtain ⟨tk, m, l⟩ := th
  dsimp only at htv hB1 hm hok hres CLo b1 b2 ⊢
  obtain ⟨A, c, rfl, hlc, hr⟩ := htv
  obtain ⟨Aa, ca, rfl, hlca, hra⟩ := ha
  obtain ⟨hl, hbb⟩ := hB1
  have HX : Hid (∀ (k : Nat) (p : Int × Int), tk[k]? = some p → (0 ≤ p.2 ∧ p.2 ≤ 1000000000) ∧ ∃ (j : Nat) (q : Value × Th) (a : Int × Int), p.1 = (j : Int) ∧ hs[j]? = some q ∧ am[j]? = some a ∧ 0 ≤ q.2.m ∧ q.2.m ≤ 1000000000 ∧ amB a) := Lib.hid (fun k p h => ⟨(hbb p (List.mem_of_getElem? h)).2.2, hok p (List.mem_of_getElem? h)⟩)
  have HT : Hid (∀ (k : Nat) (p : Int × Int), tk[k]? = some p → amT ths am (tk.take (k + 1)) = am1 ths am (amT ths am (tk.take k)) p) := Lib.hid (fun k p h => amT_take h)
  have HTS : Hid (∀ (j : Nat) (q : Value × Th), hs[j]? = some q → ths.getD j ⟨[], 0, 0⟩ = q.2) := Lib.hid (fun j q h => by rw [List.getD_eq_getElem?_getD, ← hh, List.getElem?_map, h]; rfl)
  obtain ⟨n, hnn⟩ : ∃ n, tk.length = n := ⟨_, rfl⟩
  rw [hnn] at hl hr hlc CLo ⊢
  have Hn := Lib.hid hnn
  have HR := Lib.hid hr
  have HLg := Lib.hid hL
  obtain ⟨n2, hn2⟩ : ∃ n2, hs.length = n2 := ⟨_, rfl⟩
  have Hn2 := Lib.hid hn2
  obtain ⟨na, hna⟩ : ∃ na, am.length = na := ⟨_, rfl⟩
  have Hna := Lib.hid hna
  rw [hna] at hlca hra ⊢
  have HRa := Lib.hid hra
  rw [hn2] at hn
  have hbl := hL.lt
  clear hr hra hL hn2 hna hnn hbb hok hh b1 b2
  go_enter Try.func46, Try.ntmps46
  go_wp2_with fail
  go_loopw [15] (fun i wr => ∃ (k : Nat) (S1 S2 : Int), k ≤ n ∧ i = .int .i64 k ∧ Hid ((S1, S2) = amT ths am (tk.take k)) ∧ Hid (0 ≤ S1 ∧ S1 ≤ 2000000000 * (k : Int) ∧ 0 ≤ S2 ∧ S2 ≤ 1000000000 * (k : Int)) ∧ wr.cell? ⟨w.heap.size, 0, none⟩ = some (.slice A n c) ∧ wr.cell? ⟨w.heap.size, 1, none⟩ = some (.int .i64 m) ∧ wr.cell? ⟨w.heap.size, 2, none⟩ = some (.int .i64 l) ∧ wr.cell? ⟨w.heap.size + 1, 0, none⟩ = some (.int .i64 0) ∧ wr.cell? ⟨w.heap.size + 1, 1, none⟩ = some (.int .i64 0) ∧ wr.frozen? ⟨w.heap.size + 1, 0, none⟩ = false ∧ wr.frozen? ⟨w.heap.size + 1, 1, none⟩ = false ∧ wr.cell? ⟨w.heap.size + 1 + 1, 0, none⟩ = some (.int .i64 S1) ∧ wr.cell? ⟨w.heap.size + 1 + 1, 1, none⟩ = some (.int .i64 S2) ∧ wr.frozen? ⟨w.heap.size + 1 + 1, 0, none⟩ = false ∧ wr.frozen? ⟨w.heap.size + 1 + 1, 1, none⟩ = false ∧ w.heap.size + 1 + 1 < wr.heap.size ∧ Below w.heap.size w wr) (fun i _ => n - (RowKit.intOf i).toNat)
  case atStart =>
    refine ⟨0, 0, 0, Nat.zero_le _, rfl, Lib.hid rfl, Lib.hid (by omega), ?_, ?_, ?_, ?_, ?_, ?_, ?_, ?_, ?_, ?_, ?_, ?_, ?_⟩
    all_goals first | (simp [go_sem]; done) | exact (below_al2 w _ _).alloc (by simp; omega) _
  case round =>
    obtain ⟨k, S1, S2, hk, rfl, HS, HD, T0, T1, T2, R0, R1, fR0, fR1, A0, A1, fA0, fA1, nA, hbr⟩ := hrel
    have nR : w.heap.size + 1 < wr.heap.size := by omega
    have nT : w.heap.size < wr.heap.size := by omega
    by_cases hlt : (k : Int) < (n : Int)
    · obtain ⟨⟨x, y⟩, hp⟩ : ∃ p, tk[k]? = some p := ⟨_, List.getElem?_eq_getElem (by rw [Hn.out]; omega)⟩
      obtain ⟨g, off, rfl, hg, hc⟩ := HR.out (by omega)
      obtain ⟨p0, p1⟩ := (hc.below hbr hg) k _ hp
      obtain ⟨⟨e1, e2⟩, j, ⟨tvj, thj⟩, ⟨alo, ahi⟩, hj, hq, haj, e3, e4, e5, e6, e7, e8⟩ := HX.out k _ hp
      have ht := HT.out k _ hp
      rw [← HS.out] at ht
      have hts := HTS.out j _ hq
      dsimp only at p0 p1 e1 e2 hj e3 e4 e5 e6 e7 e8 hts ht
      subst hj
      have hjn := (List.getElem?_eq_some_iff.1 hq).1
      rw [Hn2.out] at hjn
      have hja := (List.getElem?_eq_some_iff.1 haj).1
      rw [Hna.out] at hja
      obtain ⟨ga, oa, rfl, hga, hRa⟩ := HRa.out (by omega)
      obtain ⟨a0, a1⟩ := (hRa.below hbr hga) j _ haj
      obtain ⟨g2, c2, hV, f1, f2, n2g, f3, _, q1, _, _⟩ := HLg.out.at hq
      have cb := HLg.out.cell
      rw [hV, Hn2.out] at cb
      obtain ⟨tkj, mj, lj⟩ := thj
      dsimp only at a0 a1 q1 e3 e4 hts
      obtain ⟨d1, d2, d3, d4⟩ := HD.out
      have hnew : Hid ((S1 + max 0 (alo - (mj - y)), S2 + min ahi y) = amT ths am (tk.take (k + 1))) := Lib.hid (by
        rw [ht]
        unfold am1
        rw [Int.toNat_natCast, hts, List.getD_eq_getElem?_getD, haj]
        rfl)
      have y1 : IntKind.i64.wrap (mj - y) = mj - y := IntWalk.i64_in _ (by omega)
      have y2 : IntKind.i64.wrap (alo - (mj - y)) = alo - (mj - y) := IntWalk.i64_in _ (by omega)
      have y3 : IntKind.i64.wrap (S1 + max 0 (alo - (mj - y))) = S1 + max 0 (alo - (mj - y)) := IntWalk.i64_in _ (by omega)
      have y4 : IntKind.i64.wrap (S2 + min ahi y) = S2 + min ahi y := IntWalk.i64_in _ (by omega)
      have mx : ∀ tys ty w, (Builtin.max_ tys ty #[.int .i64 0, .int .i64 (alo - (mj - y))]).run Try.prog w = .ok (.int .i64 (max 0 (alo - (mj - y)))) w := fun _ _ _ => qmax2 _ _ _ _ _ _
      have mn : ∀ tys ty w, (Builtin.min_ tys ty #[.int .i64 ahi, .int .i64 y]).run Try.prog w = .ok (.int .i64 (min ahi y)) w := fun _ _ _ => qmin2 _ _ _ _ _ _
      have HD' : Hid (0 ≤ S1 + max 0 (alo - (mj - y)) ∧ S1 + max 0 (alo - (mj - y)) ≤ 2000000000 * ((k + 1 : Nat) : Int) ∧ 0 ≤ S2 + min ahi y ∧ S2 + min ahi y ≤ 1000000000 * ((k + 1 : Nat) : Int)) := Lib.hid ⟨by omega, by omega, by omega, by omega⟩
      have hjl : (j : Int) < (n2 : Int) := by omega
      have hjl2 : (j : Int) < (na : Int) := by omega
      replace q1 := cell_next hbr n2g q1
      replace cb := cell_next hbr hbl cb
      replace n2g := Nat.lt_of_lt_of_le n2g hbr.size
      have nb := Nat.lt_of_lt_of_le hbl hbr.size
      have nga := Nat.lt_of_lt_of_le hga hbr.size
      have hbs := hbr.size
      clear hp hq haj ht hts hc hRa hV f1 f2 f3 HS HD d1 d2 d3 d4 e1 e2 e3 e4 e5 e6 e7 e8
      generalize max 0 (alo - (mj - y)) = vx at *
      generalize min ahi y = vn at *
      go_wp2_with fail
      have hb : Below wr.heap.size wr (wr.alloc (.cells #[.int .i64 (j : Int), .int .i64 y] 55)) := (Below.refl _ _).alloc (Nat.le_refl _) _
      have P0 : (wr.alloc (.cells #[.int .i64 (j : Int), .int .i64 y] 55)).cell? ⟨wr.heap.size, 0, none⟩ = some (.int .i64 (j : Int)) := cell_new _ _ _ 0
      have P1 : (wr.alloc (.cells #[.int .i64 (j : Int), .int .i64 y] 55)).cell? ⟨wr.heap.size, 1, none⟩ = some (.int .i64 y) := cell_new _ _ _ 1
      have nP : wr.heap.size < (wr.alloc (.cells #[.int .i64 (j : Int), .int .i64 y] 55)).heap.size := by simp
      have nAP : w.heap.size + 1 + 1 < wr.heap.size := nA
      replace T0 := cell_next hb nT T0
      replace T1 := cell_next hb nT T1
      replace T2 := cell_next hb nT T2
      replace R0 := cell_next hb nR R0
      replace fR0 := frozen_next hb nR fR0
      replace A0 := cell_next hb nA A0
      replace fA0 := frozen_next hb nA fA0
      replace R1 := cell_next hb nR R1
      replace fR1 := frozen_next hb nR fR1
      replace A1 := cell_next hb nA A1
      replace fA1 := frozen_next hb nA fA1
      replace a0 := cell_next hb nga a0
      replace a1 := cell_next hb nga a1
      replace q1 := cell_next hb n2g q1
      replace cb := cell_next hb nb cb
      replace nT := Nat.lt_of_lt_of_le nT hb.size
      replace nR := Nat.lt_of_lt_of_le nR hb.size
      replace nA := Nat.lt_of_lt_of_le nA hb.size
      replace nga := Nat.lt_of_lt_of_le nga hb.size
      replace n2g := Nat.lt_of_lt_of_le n2g hb.size
      replace nb := Nat.lt_of_lt_of_le nb hb.size
      replace hbr := hbr.trans (hb.mono hbs)
      clear hb p0 p1
      generalize wr.alloc (.cells #[.int .i64 (j : Int), .int .i64 y] 55) = w6 at *
      generalize wr.heap.size = bp at *
      have hBW := hbr.size
      refine wp_region_held_drew (S := fun w' => w'.cell? ⟨bp, 0, none⟩ = some (.int .i64 (j : Int)) ∧ w'.cell? ⟨bp, 1, none⟩ = some (.int .i64 y) ∧ w'.cell? ⟨b, 0, none⟩ = some (.slice (some ⟨g2, 0, none⟩) n2 c2) ∧ w'.cell? ⟨ga, oa + j * 2, none⟩ = some (.int .i64 alo) ∧ w'.cell? ⟨ga, oa + j * 2 + 1, none⟩ = some (.int .i64 ahi) ∧ w'.cell? ⟨g2, j * 3 + 1, none⟩ = some (.int .i64 mj) ∧ True) (by kernel_rfl) ?_ (fun hHeld => ?_)
      focus (exact ⟨P0, P1, cb, a0, a1, q1, trivial⟩)
      have hL : Below w.heap.size w6 w6.drew := Below.drew (Below.refl _ _)
      replace T0 : w6.drew.cell? ⟨w.heap.size, 0, none⟩ = some (.slice (some ⟨g, off, none⟩) n c) := T0
      replace T1 : w6.drew.cell? ⟨w.heap.size, 1, none⟩ = some (.int .i64 m) := T1
      replace T2 : w6.drew.cell? ⟨w.heap.size, 2, none⟩ = some (.int .i64 l) := T2
      replace R0 : w6.drew.cell? ⟨w.heap.size + 1, 0, none⟩ = some (.int .i64 0) := R0
      replace fR0 : w6.drew.frozen? ⟨w.heap.size + 1, 0, none⟩ = false := fR0
      replace A0 : w6.drew.cell? ⟨w.heap.size + 1 + 1, 0, none⟩ = some (.int .i64 S1) := A0
      replace fA0 : w6.drew.frozen? ⟨w.heap.size + 1 + 1, 0, none⟩ = false := fA0
      replace R1 : w6.drew.cell? ⟨w.heap.size + 1, 1, none⟩ = some (.int .i64 0) := R1
      replace fR1 : w6.drew.frozen? ⟨w.heap.size + 1, 1, none⟩ = false := fR1
      replace A1 : w6.drew.cell? ⟨w.heap.size + 1 + 1, 1, none⟩ = some (.int .i64 S2) := A1
      replace fA1 : w6.drew.frozen? ⟨w.heap.size + 1 + 1, 1, none⟩ = false := fA1
      replace a0 : w6.drew.cell? ⟨ga, oa + j * 2, none⟩ = some (.int .i64 alo) := a0
      replace a1 : w6.drew.cell? ⟨ga, oa + j * 2 + 1, none⟩ = some (.int .i64 ahi) := a1
      replace q1 : w6.drew.cell? ⟨g2, j * 3 + 1, none⟩ = some (.int .i64 mj) := q1
      replace cb : w6.drew.cell? ⟨b, 0, none⟩ = some (.slice (some ⟨g2, 0, none⟩) n2 c2) := cb
      replace P0 : w6.drew.cell? ⟨bp, 0, none⟩ = some (.int .i64 (j : Int)) := P0
      replace P1 : w6.drew.cell? ⟨bp, 1, none⟩ = some (.int .i64 y) := P1
      replace nT : w.heap.size < w6.drew.heap.size := nT
      replace nR : w.heap.size + 1 < w6.drew.heap.size := nR
      replace nA : w.heap.size + 1 + 1 < w6.drew.heap.size := nA
      replace nga : ga < w6.drew.heap.size := nga
      replace n2g : g2 < w6.drew.heap.size := n2g
      replace nb : b < w6.drew.heap.size := nb
      replace nP : bp < w6.drew.heap.size := nP
      generalize hWd : w6.drew = wd5 at hHeld hL T0 T1 T2 R0 fR0 A0 fA0 R1 fR1 A1 fA1 a0 a1 q1 cb P0 P1 nT nR nA nga n2g nb nP  ⊢
      clear hWd
      refine take_slot (i := 0) (d := 19) (v := ?_) rfl rfl (by kernel_rfl) (by kernel_rfl) (by kernel_rfl) (fun _ _ _ h => h) (Or.inl ⟨by rfl, ?_⟩) (by assumption) ?_
      rotate_left 1
      focus (intro wS hSw; (try dsimp only at hSw); go_simp; try with_reducible rfl)
      try simp only [List.setIfInBounds_toArray, List.set_cons_zero, List.set_cons_succ]
      refine take_slot (i := 1) (d := 20) (v := ?_) rfl rfl (by kernel_rfl) (by kernel_rfl) (by kernel_rfl) (fun _ _ _ h => h) (Or.inl ⟨by rfl, ?_⟩) (by assumption) ?_
      rotate_left 1
      focus (intro wS hSw; (try dsimp only at hSw); go_simp; try with_reducible rfl)
      try simp only [List.setIfInBounds_toArray, List.set_cons_zero, List.set_cons_succ]
      refine take_slot (i := 2) (d := 21) (v := ?_) rfl rfl (by kernel_rfl) (by kernel_rfl) (by kernel_rfl) (fun _ _ _ h => h) (Or.inl ⟨by rfl, ?_⟩) (by assumption) ?_
      rotate_left 1
      focus (intro wS hSw; (try dsimp only at hSw); go_simp; try with_reducible rfl)
      try simp only [List.setIfInBounds_toArray, List.set_cons_zero, List.set_cons_succ]
      refine take_slot (i := 3) (d := 22) (v := ?_) rfl rfl (by kernel_rfl) (by kernel_rfl) (by kernel_rfl) (fun _ _ _ h => h) (Or.inl ⟨by rfl, ?_⟩) (by assumption) ?_
      rotate_left 1
      focus (intro wS hSw; (try dsimp only at hSw); go_simp; try with_reducible rfl)
      try simp only [List.setIfInBounds_toArray, List.set_cons_zero, List.set_cons_succ]
      refine take_slot (i := 4) (d := 23) (v := ?_) rfl rfl (by kernel_rfl) (by kernel_rfl) (by kernel_rfl) (fun _ _ _ h => h) (Or.inl ⟨by rfl, ?_⟩) (by assumption) ?_
      rotate_left 1
      focus (intro wS hSw; (try dsimp only at hSw); go_simp; try with_reducible rfl)
      try simp only [List.setIfInBounds_toArray, List.set_cons_zero, List.set_cons_succ]
      refine take_slot (i := 5) (d := 24) (v := ?_) rfl rfl (by kernel_rfl) (by kernel_rfl) (by kernel_rfl) (fun _ _ _ h => h) (Or.inl ⟨by rfl, ?_⟩) (by assumption) ?_
      rotate_left 1
      focus (intro wS hSw; (try dsimp only at hSw); go_simp; try with_reducible rfl)
      try simp only [List.setIfInBounds_toArray, List.set_cons_zero, List.set_cons_succ]
      refine take_slot (i := 6) (d := 25) (v := ?_) rfl rfl (by kernel_rfl) (by kernel_rfl) (by kernel_rfl) (fun _ _ _ h => h) (Or.inl ⟨by rfl, ?_⟩) (by assumption) ?_
      rotate_left 1
      focus (intro wS hSw; (try dsimp only at hSw); go_simp; try with_reducible rfl)
      try simp only [List.setIfInBounds_toArray, List.set_cons_zero, List.set_cons_succ]
      refine take_slot (i := 7) (d := 26) (v := ?_) rfl rfl (by kernel_rfl) (by kernel_rfl) (by kernel_rfl) (fun _ _ _ h => h) (Or.inl ⟨by rfl, ?_⟩) (by assumption) ?_
      rotate_left 1
      focus (intro wS hSw; (try dsimp only at hSw); go_simp; try with_reducible rfl)
      try simp only [List.setIfInBounds_toArray, List.set_cons_zero, List.set_cons_succ]
      refine take_slot (i := 8) (d := 27) (v := ?_) rfl rfl (by kernel_rfl) (by kernel_rfl) (by kernel_rfl) (fun _ _ _ h => h) (Or.inl ⟨by rfl, ?_⟩) (by assumption) ?_
      rotate_left 1
      focus (intro wS hSw; (try dsimp only at hSw); go_simp; try with_reducible rfl)
      try simp only [List.setIfInBounds_toArray, List.set_cons_zero, List.set_cons_succ]
      refine take_slot (i := 9) (d := 28) (v := ?_) rfl rfl (by kernel_rfl) (by kernel_rfl) (by kernel_rfl) (fun _ _ _ h => h) (Or.inl ⟨by rfl, ?_⟩) (by assumption) ?_
      rotate_left 1
      focus (intro wS hSw; (try dsimp only at hSw); go_simp; try with_reducible rfl)
      try simp only [List.setIfInBounds_toArray, List.set_cons_zero, List.set_cons_succ]
      refine take_slot (i := 10) (d := 29) (v := ?_) rfl rfl (by kernel_rfl) (by kernel_rfl) (by kernel_rfl) (fun _ _ _ h => h) (Or.inl ⟨by rfl, ?_⟩) (by assumption) ?_
      rotate_left 1
      focus (intro wS hSw; (try dsimp only at hSw); go_simp; try with_reducible rfl)
      try simp only [List.setIfInBounds_toArray, List.set_cons_zero, List.set_cons_succ]
      refine take_slot (i := 11) (d := 30) (v := ?_) rfl rfl (by kernel_rfl) (by kernel_rfl) (by kernel_rfl) (fun _ _ _ h => h) (Or.inl ⟨by rfl, ?_⟩) (by assumption) ?_
      rotate_left 1
      focus (intro wS hSw; (try dsimp only at hSw); go_simp; try with_reducible rfl)
      try simp only [List.setIfInBounds_toArray, List.set_cons_zero, List.set_cons_succ]
      refine take_slot (i := 12) (d := 31) (v := ?_) rfl rfl (by kernel_rfl) (by kernel_rfl) (by kernel_rfl) (fun _ _ _ h => h) (Or.inl ⟨by rfl, ?_⟩) (by assumption) ?_
      rotate_left 1
      focus (intro wS hSw; (try dsimp only at hSw); go_simp; try with_reducible rfl)
      try simp only [List.setIfInBounds_toArray, List.set_cons_zero, List.set_cons_succ]
      refine take_slot (i := 13) (d := 32) (v := ?_) rfl rfl (by kernel_rfl) (by kernel_rfl) (by kernel_rfl) (fun _ _ _ h => h) (Or.inl ⟨by rfl, ?_⟩) (by assumption) ?_
      rotate_left 1
      focus (intro wS hSw; (try dsimp only at hSw); go_simp; try with_reducible rfl)
      try simp only [List.setIfInBounds_toArray, List.set_cons_zero, List.set_cons_succ]
      refine take_slot (i := 14) (d := 33) (v := ?_) rfl rfl (by kernel_rfl) (by kernel_rfl) (by kernel_rfl) (fun _ _ _ h => h) (Or.inl ⟨by rfl, ?_⟩) (by assumption) ?_
      rotate_left 1
      focus (intro wS hSw; (try dsimp only at hSw); go_simp; try with_reducible rfl)
      try simp only [List.setIfInBounds_toArray, List.set_cons_zero, List.set_cons_succ]
      refine take_slot (i := 15) (d := 34) (v := ?_) rfl rfl (by kernel_rfl) (by kernel_rfl) (by kernel_rfl) (fun _ _ _ h => h) (Or.inl ⟨by rfl, ?_⟩) (by assumption) ?_
      rotate_left 1
      focus (intro wS hSw; (try dsimp only at hSw); go_simp; try with_reducible rfl)
      try simp only [List.setIfInBounds_toArray, List.set_cons_zero, List.set_cons_succ]
      refine take_slot (i := 16) (d := 35) (v := ?_) rfl rfl (by kernel_rfl) (by kernel_rfl) (by kernel_rfl) (fun _ _ _ h => h) (Or.inl ⟨by rfl, ?_⟩) (by assumption) ?_
      rotate_left 1
      focus (intro wS hSw; (try dsimp only at hSw); go_simp; try with_reducible rfl)
      try simp only [List.setIfInBounds_toArray, List.set_cons_zero, List.set_cons_succ]
      refine wpAnyH_ready (rs := [17]) (by kernel_rfl) (by simp) ?_
      refine AllReadyH.cons rfl (fun K hK => ?_) AllReadyH.nil
      go_simp
      have hb := (Below.refl wd5.heap.size wd5).alloc (Nat.le_refl _) (Obj.cells #[.int .i64 0, .int .i64 0] 32)
      have szZ5x1 := hL.size
      have ord1nT := nT
      have ord1nR := nR
      have ord1nA := nA
      have ord1nga := nga
      have ord1n2g := n2g
      have ord1nb := nb
      have ord1nP := nP
      replace T0 := cell_next hb nT T0
      replace T1 := cell_next hb nT T1
      replace T2 := cell_next hb nT T2
      replace R0 := cell_next hb nR R0
      replace fR0 := frozen_next hb nR fR0
      replace A0 := cell_next hb nA A0
      replace fA0 := frozen_next hb nA fA0
      replace R1 := cell_next hb nR R1
      replace fR1 := frozen_next hb nR fR1
      replace A1 := cell_next hb nA A1
      replace fA1 := frozen_next hb nA fA1
      replace a0 := cell_next hb nga a0
      replace a1 := cell_next hb nga a1
      replace q1 := cell_next hb n2g q1
      replace cb := cell_next hb nb cb
      replace P0 := cell_next hb nP P0
      replace P1 := cell_next hb nP P1
      replace nT := Nat.lt_of_lt_of_le nT hb.size
      replace nR := Nat.lt_of_lt_of_le nR hb.size
      replace nA := Nat.lt_of_lt_of_le nA hb.size
      replace nga := Nat.lt_of_lt_of_le nga hb.size
      replace n2g := Nat.lt_of_lt_of_le n2g hb.size
      replace nb := Nat.lt_of_lt_of_le nb hb.size
      replace nP := Nat.lt_of_lt_of_le nP hb.size
      replace hL := hL.trans (hb.mono (Nat.le_trans hBW hL.size))
      have Df0 : (wd5.alloc (Obj.cells #[.int .i64 0, .int .i64 0] 32)).frozen? ⟨wd5.heap.size, 0, none⟩ = false := by simp [go_sem]
      have Df1 : (wd5.alloc (Obj.cells #[.int .i64 0, .int .i64 0] 32)).frozen? ⟨wd5.heap.size, 1, none⟩ = false := by simp [go_sem]
      have D0 : (wd5.alloc (Obj.cells #[.int .i64 0, .int .i64 0] 32)).cell? ⟨wd5.heap.size, 0, none⟩ = some (.int .i64 0) := cell_new _ _ _ 0
      have D1 : (wd5.alloc (Obj.cells #[.int .i64 0, .int .i64 0] 32)).cell? ⟨wd5.heap.size, 1, none⟩ = some (.int .i64 0) := cell_new _ _ _ 1
      have nD : wd5.heap.size < (wd5.alloc (Obj.cells #[.int .i64 0, .int .i64 0] 32)).heap.size := by simp
      refine hK.out _ _ ⟨P0, P1, cb, a0, a1, q1, trivial⟩ (fun hHeld => ?_)
      clear hK K hb
      generalize wd5.alloc (Obj.cells #[.int .i64 0, .int .i64 0] 32) = Z5x1 at *
      try simp only [Act.put, List.setIfInBounds_toArray, List.set_cons_zero, List.set_cons_succ]
      refine wpAnyH_ready (rs := [18]) (by kernel_rfl) (by simp) ?_
      refine AllReadyH.cons rfl (fun K hK => ?_) AllReadyH.nil
      go_simp
      replace T0 : ((Z5x1.setCell ⟨wd5.heap.size, 0, none⟩ (.int .i64 alo)).setCell ⟨wd5.heap.size, 1, none⟩ (.int .i64 ahi)).cell? ⟨w.heap.size, 0, none⟩ = some (.slice (some ⟨g, off, none⟩) n c) := ((World.cell?_setCell_other _ _ _ _ (by intro e; injection e with e1 e2; omega)).trans ((World.cell?_setCell_other _ _ _ _ (by intro e; injection e with e1 e2; omega)).trans T0))
      replace T1 : ((Z5x1.setCell ⟨wd5.heap.size, 0, none⟩ (.int .i64 alo)).setCell ⟨wd5.heap.size, 1, none⟩ (.int .i64 ahi)).cell? ⟨w.heap.size, 1, none⟩ = some (.int .i64 m) := ((World.cell?_setCell_other _ _ _ _ (by intro e; injection e with e1 e2; omega)).trans ((World.cell?_setCell_other _ _ _ _ (by intro e; injection e with e1 e2; omega)).trans T1))
      replace T2 : ((Z5x1.setCell ⟨wd5.heap.size, 0, none⟩ (.int .i64 alo)).setCell ⟨wd5.heap.size, 1, none⟩ (.int .i64 ahi)).cell? ⟨w.heap.size, 2, none⟩ = some (.int .i64 l) := ((World.cell?_setCell_other _ _ _ _ (by intro e; injection e with e1 e2; omega)).trans ((World.cell?_setCell_other _ _ _ _ (by intro e; injection e with e1 e2; omega)).trans T2))
      replace R0 : ((Z5x1.setCell ⟨wd5.heap.size, 0, none⟩ (.int .i64 alo)).setCell ⟨wd5.heap.size, 1, none⟩ (.int .i64 ahi)).cell? ⟨w.heap.size + 1, 0, none⟩ = some (.int .i64 0) := ((World.cell?_setCell_other _ _ _ _ (by intro e; injection e with e1 e2; omega)).trans ((World.cell?_setCell_other _ _ _ _ (by intro e; injection e with e1 e2; omega)).trans R0))
      replace fR0 : ((Z5x1.setCell ⟨wd5.heap.size, 0, none⟩ (.int .i64 alo)).setCell ⟨wd5.heap.size, 1, none⟩ (.int .i64 ahi)).frozen? ⟨w.heap.size + 1, 0, none⟩ = false := by simp [go_sem, fR0]
      replace A0 : ((Z5x1.setCell ⟨wd5.heap.size, 0, none⟩ (.int .i64 alo)).setCell ⟨wd5.heap.size, 1, none⟩ (.int .i64 ahi)).cell? ⟨w.heap.size + 1 + 1, 0, none⟩ = some (.int .i64 S1) := ((World.cell?_setCell_other _ _ _ _ (by intro e; injection e with e1 e2; omega)).trans ((World.cell?_setCell_other _ _ _ _ (by intro e; injection e with e1 e2; omega)).trans A0))
      replace fA0 : ((Z5x1.setCell ⟨wd5.heap.size, 0, none⟩ (.int .i64 alo)).setCell ⟨wd5.heap.size, 1, none⟩ (.int .i64 ahi)).frozen? ⟨w.heap.size + 1 + 1, 0, none⟩ = false := by simp [go_sem, fA0]
      replace R1 : ((Z5x1.setCell ⟨wd5.heap.size, 0, none⟩ (.int .i64 alo)).setCell ⟨wd5.heap.size, 1, none⟩ (.int .i64 ahi)).cell? ⟨w.heap.size + 1, 1, none⟩ = some (.int .i64 0) := ((World.cell?_setCell_other _ _ _ _ (by intro e; injection e with e1 e2; omega)).trans ((World.cell?_setCell_other _ _ _ _ (by intro e; injection e with e1 e2; omega)).trans R1))
      replace fR1 : ((Z5x1.setCell ⟨wd5.heap.size, 0, none⟩ (.int .i64 alo)).setCell ⟨wd5.heap.size, 1, none⟩ (.int .i64 ahi)).frozen? ⟨w.heap.size + 1, 1, none⟩ = false := by simp [go_sem, fR1]
      replace A1 : ((Z5x1.setCell ⟨wd5.heap.size, 0, none⟩ (.int .i64 alo)).setCell ⟨wd5.heap.size, 1, none⟩ (.int .i64 ahi)).cell? ⟨w.heap.size + 1 + 1, 1, none⟩ = some (.int .i64 S2) := ((World.cell?_setCell_other _ _ _ _ (by intro e; injection e with e1 e2; omega)).trans ((World.cell?_setCell_other _ _ _ _ (by intro e; injection e with e1 e2; omega)).trans A1))
      replace fA1 : ((Z5x1.setCell ⟨wd5.heap.size, 0, none⟩ (.int .i64 alo)).setCell ⟨wd5.heap.size, 1, none⟩ (.int .i64 ahi)).frozen? ⟨w.heap.size + 1 + 1, 1, none⟩ = false := by simp [go_sem, fA1]
      replace a0 : ((Z5x1.setCell ⟨wd5.heap.size, 0, none⟩ (.int .i64 alo)).setCell ⟨wd5.heap.size, 1, none⟩ (.int .i64 ahi)).cell? ⟨ga, oa + j * 2, none⟩ = some (.int .i64 alo) := ((World.cell?_setCell_other _ _ _ _ (by intro e; injection e with e1 e2; omega)).trans ((World.cell?_setCell_other _ _ _ _ (by intro e; injection e with e1 e2; omega)).trans a0))
      replace a1 : ((Z5x1.setCell ⟨wd5.heap.size, 0, none⟩ (.int .i64 alo)).setCell ⟨wd5.heap.size, 1, none⟩ (.int .i64 ahi)).cell? ⟨ga, oa + j * 2 + 1, none⟩ = some (.int .i64 ahi) := ((World.cell?_setCell_other _ _ _ _ (by intro e; injection e with e1 e2; omega)).trans ((World.cell?_setCell_other _ _ _ _ (by intro e; injection e with e1 e2; omega)).trans a1))
      replace q1 : ((Z5x1.setCell ⟨wd5.heap.size, 0, none⟩ (.int .i64 alo)).setCell ⟨wd5.heap.size, 1, none⟩ (.int .i64 ahi)).cell? ⟨g2, j * 3 + 1, none⟩ = some (.int .i64 mj) := ((World.cell?_setCell_other _ _ _ _ (by intro e; injection e with e1 e2; omega)).trans ((World.cell?_setCell_other _ _ _ _ (by intro e; injection e with e1 e2; omega)).trans q1))
      replace cb : ((Z5x1.setCell ⟨wd5.heap.size, 0, none⟩ (.int .i64 alo)).setCell ⟨wd5.heap.size, 1, none⟩ (.int .i64 ahi)).cell? ⟨b, 0, none⟩ = some (.slice (some ⟨g2, 0, none⟩) n2 c2) := ((World.cell?_setCell_other _ _ _ _ (by intro e; injection e with e1 e2; omega)).trans ((World.cell?_setCell_other _ _ _ _ (by intro e; injection e with e1 e2; omega)).trans cb))
      replace P0 : ((Z5x1.setCell ⟨wd5.heap.size, 0, none⟩ (.int .i64 alo)).setCell ⟨wd5.heap.size, 1, none⟩ (.int .i64 ahi)).cell? ⟨bp, 0, none⟩ = some (.int .i64 (j : Int)) := ((World.cell?_setCell_other _ _ _ _ (by intro e; injection e with e1 e2; omega)).trans ((World.cell?_setCell_other _ _ _ _ (by intro e; injection e with e1 e2; omega)).trans P0))
      replace P1 : ((Z5x1.setCell ⟨wd5.heap.size, 0, none⟩ (.int .i64 alo)).setCell ⟨wd5.heap.size, 1, none⟩ (.int .i64 ahi)).cell? ⟨bp, 1, none⟩ = some (.int .i64 y) := ((World.cell?_setCell_other _ _ _ _ (by intro e; injection e with e1 e2; omega)).trans ((World.cell?_setCell_other _ _ _ _ (by intro e; injection e with e1 e2; omega)).trans P1))
      replace Df0 : ((Z5x1.setCell ⟨wd5.heap.size, 0, none⟩ (.int .i64 alo)).setCell ⟨wd5.heap.size, 1, none⟩ (.int .i64 ahi)).frozen? ⟨wd5.heap.size, 0, none⟩ = false := by simp [go_sem, Df0]
      replace Df1 : ((Z5x1.setCell ⟨wd5.heap.size, 0, none⟩ (.int .i64 alo)).setCell ⟨wd5.heap.size, 1, none⟩ (.int .i64 ahi)).frozen? ⟨wd5.heap.size, 1, none⟩ = false := by simp [go_sem, Df1]
      replace D0 : ((Z5x1.setCell ⟨wd5.heap.size, 0, none⟩ (.int .i64 alo)).setCell ⟨wd5.heap.size, 1, none⟩ (.int .i64 ahi)).cell? ⟨wd5.heap.size, 0, none⟩ = some (.int .i64 alo) := by simp [go_sem, D0]
      replace D1 : ((Z5x1.setCell ⟨wd5.heap.size, 0, none⟩ (.int .i64 alo)).setCell ⟨wd5.heap.size, 1, none⟩ (.int .i64 ahi)).cell? ⟨wd5.heap.size, 1, none⟩ = some (.int .i64 ahi) := by simp [go_sem, D1]
      replace nT : w.heap.size < ((Z5x1.setCell ⟨wd5.heap.size, 0, none⟩ (.int .i64 alo)).setCell ⟨wd5.heap.size, 1, none⟩ (.int .i64 ahi)).heap.size := by simpa [World.setCell] using nT
      replace nR : w.heap.size + 1 < ((Z5x1.setCell ⟨wd5.heap.size, 0, none⟩ (.int .i64 alo)).setCell ⟨wd5.heap.size, 1, none⟩ (.int .i64 ahi)).heap.size := by simpa [World.setCell] using nR
      replace nA : w.heap.size + 1 + 1 < ((Z5x1.setCell ⟨wd5.heap.size, 0, none⟩ (.int .i64 alo)).setCell ⟨wd5.heap.size, 1, none⟩ (.int .i64 ahi)).heap.size := by simpa [World.setCell] using nA
      replace nga : ga < ((Z5x1.setCell ⟨wd5.heap.size, 0, none⟩ (.int .i64 alo)).setCell ⟨wd5.heap.size, 1, none⟩ (.int .i64 ahi)).heap.size := by simpa [World.setCell] using nga
      replace n2g : g2 < ((Z5x1.setCell ⟨wd5.heap.size, 0, none⟩ (.int .i64 alo)).setCell ⟨wd5.heap.size, 1, none⟩ (.int .i64 ahi)).heap.size := by simpa [World.setCell] using n2g
      replace nb : b < ((Z5x1.setCell ⟨wd5.heap.size, 0, none⟩ (.int .i64 alo)).setCell ⟨wd5.heap.size, 1, none⟩ (.int .i64 ahi)).heap.size := by simpa [World.setCell] using nb
      replace nP : bp < ((Z5x1.setCell ⟨wd5.heap.size, 0, none⟩ (.int .i64 alo)).setCell ⟨wd5.heap.size, 1, none⟩ (.int .i64 ahi)).heap.size := by simpa [World.setCell] using nP
      replace nD : wd5.heap.size < ((Z5x1.setCell ⟨wd5.heap.size, 0, none⟩ (.int .i64 alo)).setCell ⟨wd5.heap.size, 1, none⟩ (.int .i64 ahi)).heap.size := by simpa [World.setCell] using nD
      replace hL := hL.setCell (p := ⟨wd5.heap.size, 0, none⟩) (by show w.heap.size ≤ wd5.heap.size; omega) (.int .i64 alo)
      replace hL := hL.setCell (p := ⟨wd5.heap.size, 1, none⟩) (by show w.heap.size ≤ wd5.heap.size; omega) (.int .i64 ahi)
      refine hK.out _ _ ⟨P0, P1, cb, a0, a1, q1, trivial⟩ (fun hHeld => ?_)
      clear hK K
      generalize ((Z5x1.setCell ⟨wd5.heap.size, 0, none⟩ (.int .i64 alo)).setCell ⟨wd5.heap.size, 1, none⟩ (.int .i64 ahi)) = Z5x2 at *
      try simp only [Act.put, List.setIfInBounds_toArray, List.set_cons_zero, List.set_cons_succ]
      refine take_slot (i := 19) (d := 11) (v := ?_) rfl rfl (by kernel_rfl) (by kernel_rfl) (by kernel_rfl) (fun _ _ _ h => h) (Or.inl ⟨by rfl, ?_⟩) (by assumption) ?_
      rotate_left 1
      focus (intro wS hSw; (try dsimp only at hSw); go_simp; try with_reducible rfl)
      try simp only [List.setIfInBounds_toArray, List.set_cons_zero, List.set_cons_succ]
      refine wpAnyH_done (by kernel_rfl) ?_ _
      replace hbr := hbr.trans hL
      clear hHeld hL hBW
      go_wp2_with fail
      go_roundw
      case rel =>
        refine ⟨k + 1, S1 + vx, S2 + vn, by omega, by go_num, hnew, HD', ?_, ?_, ?_, ?_, ?_, ?_, ?_, ?_, ?_, ?_, ?_, ?_, ?_⟩
        all_goals first | (simp [go_sem, *]; done) | exact (hbr.setCell (p := ⟨w.heap.size + 1 + 1, 0, none⟩) (by simp; omega) _).setCell (p := ⟨w.heap.size + 1 + 1, 1, none⟩) (by simp; omega) _
      case measure => simp [RowKit.intOf]; omega
    · obtain rfl : k = n := by omega
      have hfull : tk.take k = tk := List.take_of_length_le (by rw [Hn.out]; exact Nat.le_refl _)
      rw [hfull] at HS
      obtain ⟨d1, d2, d3, d4⟩ := HD.out
      have y1 : IntKind.i64.wrap (S1 - lo) = S1 - lo := IntWalk.i64_in _ (by omega)
      have mx : ∀ tys ty w, (Builtin.max_ tys ty #[.int .i64 0, .int .i64 (S1 - lo)]).run Try.prog w = .ok (.int .i64 (max 0 (S1 - lo))) w := fun _ _ _ => qmax2 _ _ _ _ _ _
      have mn : ∀ tys ty w, (Builtin.min_ tys ty #[.int .i64 S2, .int .i64 m]).run Try.prog w = .ok (.int .i64 (min S2 m)) w := fun _ _ _ => qmin2 _ _ _ _ _ _
      have E : Hid (RES = (max 0 (S1 - lo), min S2 m)) := Lib.hid (by rw [hres.out, ← HS.out])
      clear hfull HS HD hres d1 d2 d3 d4 HR HRa HX HT HTS HLg
      generalize max 0 (S1 - lo) = vx at *
      generalize min S2 m = vn at *
      have hBW := hbr.size
      go_wp2_with fail
      refine wp_region_held_drew (S := fun w' => w'.cell? ⟨w.heap.size, 0, none⟩ = some (.slice A k c) ∧ w'.cell? ⟨w.heap.size, 1, none⟩ = some (.int .i64 m) ∧ w'.cell? ⟨w.heap.size, 2, none⟩ = some (.int .i64 l) ∧ w'.cell? ⟨w.heap.size + 1 + 1, 0, none⟩ = some (.int .i64 S1) ∧ w'.cell? ⟨w.heap.size + 1 + 1, 1, none⟩ = some (.int .i64 S2) ∧ True) (by kernel_rfl) ?_ (fun hHeld => ?_)
      focus (exact ⟨T0, T1, T2, A0, A1, trivial⟩)
      have hL : Below w.heap.size wr wr.drew := Below.drew (Below.refl _ _)
      replace T0 : wr.drew.cell? ⟨w.heap.size, 0, none⟩ = some (.slice A k c) := T0
      replace T1 : wr.drew.cell? ⟨w.heap.size, 1, none⟩ = some (.int .i64 m) := T1
      replace T2 : wr.drew.cell? ⟨w.heap.size, 2, none⟩ = some (.int .i64 l) := T2
      replace R0 : wr.drew.cell? ⟨w.heap.size + 1, 0, none⟩ = some (.int .i64 0) := R0
      replace fR0 : wr.drew.frozen? ⟨w.heap.size + 1, 0, none⟩ = false := fR0
      replace A0 : wr.drew.cell? ⟨w.heap.size + 1 + 1, 0, none⟩ = some (.int .i64 S1) := A0
      replace fA0 : wr.drew.frozen? ⟨w.heap.size + 1 + 1, 0, none⟩ = false := fA0
      replace R1 : wr.drew.cell? ⟨w.heap.size + 1, 1, none⟩ = some (.int .i64 0) := R1
      replace fR1 : wr.drew.frozen? ⟨w.heap.size + 1, 1, none⟩ = false := fR1
      replace A1 : wr.drew.cell? ⟨w.heap.size + 1 + 1, 1, none⟩ = some (.int .i64 S2) := A1
      replace fA1 : wr.drew.frozen? ⟨w.heap.size + 1 + 1, 1, none⟩ = false := fA1
      replace nT : w.heap.size < wr.drew.heap.size := nT
      replace nR : w.heap.size + 1 < wr.drew.heap.size := nR
      replace nA : w.heap.size + 1 + 1 < wr.drew.heap.size := nA
      generalize hWd : wr.drew = wd9 at hHeld hL T0 T1 T2 R0 fR0 A0 fA0 R1 fR1 A1 fA1 nT nR nA  ⊢
      clear hWd
      refine take_slot (i := 0) (d := 55) (v := ?_) rfl rfl (by kernel_rfl) (by kernel_rfl) (by kernel_rfl) (fun _ _ _ h => h) (Or.inl ⟨by rfl, ?_⟩) (by assumption) ?_
      rotate_left 1
      focus (intro wS hSw; (try dsimp only at hSw); go_simp; try with_reducible rfl)
      try simp only [List.setIfInBounds_toArray, List.set_cons_zero, List.set_cons_succ]
      refine take_slot (i := 1) (d := 56) (v := ?_) rfl rfl (by kernel_rfl) (by kernel_rfl) (by kernel_rfl) (fun _ _ _ h => h) (Or.inl ⟨by rfl, ?_⟩) (by assumption) ?_
      rotate_left 1
      focus (intro wS hSw; (try dsimp only at hSw); go_simp; try with_reducible rfl)
      try simp only [List.setIfInBounds_toArray, List.set_cons_zero, List.set_cons_succ]
      refine take_slot (i := 2) (d := 57) (v := ?_) rfl rfl (by kernel_rfl) (by kernel_rfl) (by kernel_rfl) (fun _ _ _ h => h) (Or.inl ⟨by rfl, ?_⟩) (by assumption) ?_
      rotate_left 1
      focus (intro wS hSw; (try dsimp only at hSw); go_simp; try with_reducible rfl)
      try simp only [List.setIfInBounds_toArray, List.set_cons_zero, List.set_cons_succ]
      refine take_slot (i := 6) (d := 61) (v := ?_) rfl rfl (by kernel_rfl) (by kernel_rfl) (by kernel_rfl) (fun _ _ _ h => h) (Or.inl ⟨by rfl, ?_⟩) (by assumption) ?_
      rotate_left 1
      focus (intro wS hSw; (try dsimp only at hSw); go_simp; try with_reducible rfl)
      try simp only [List.setIfInBounds_toArray, List.set_cons_zero, List.set_cons_succ]
      refine take_slot (i := 7) (d := 62) (v := ?_) rfl rfl (by kernel_rfl) (by kernel_rfl) (by kernel_rfl) (fun _ _ _ h => h) (Or.inl ⟨by rfl, ?_⟩) (by assumption) ?_
      rotate_left 1
      focus (intro wS hSw; (try dsimp only at hSw); go_simp; try with_reducible rfl)
      try simp only [List.setIfInBounds_toArray, List.set_cons_zero, List.set_cons_succ]
      refine take_slot (i := 8) (d := 63) (v := ?_) rfl rfl (by kernel_rfl) (by kernel_rfl) (by kernel_rfl) (fun _ _ _ h => h) (Or.inl ⟨by rfl, ?_⟩) (by assumption) ?_
      rotate_left 1
      focus (intro wS hSw; (try dsimp only at hSw); go_simp; try with_reducible rfl)
      try simp only [List.setIfInBounds_toArray, List.set_cons_zero, List.set_cons_succ]
      refine take_slot (i := 9) (d := 64) (v := ?_) rfl rfl (by kernel_rfl) (by kernel_rfl) (by kernel_rfl) (fun _ _ _ h => h) (Or.inl ⟨by rfl, ?_⟩) (by assumption) ?_
      rotate_left 1
      focus (intro wS hSw; (try dsimp only at hSw); go_simp; try with_reducible rfl)
      try simp only [List.setIfInBounds_toArray, List.set_cons_zero, List.set_cons_succ]
      refine take_slot (i := 10) (d := 65) (v := ?_) rfl rfl (by kernel_rfl) (by kernel_rfl) (by kernel_rfl) (fun _ _ _ h => h) (Or.inl ⟨by rfl, ?_⟩) (by assumption) ?_
      rotate_left 1
      focus (intro wS hSw; (try dsimp only at hSw); go_simp; try with_reducible rfl)
      try simp only [List.setIfInBounds_toArray, List.set_cons_zero, List.set_cons_succ]
      refine wpAnyH_ready (rs := [3]) (by kernel_rfl) (by simp) ?_
      refine AllReadyH.cons rfl (fun K hK => ?_) AllReadyH.nil
      go_simp
      refine (CLo.out _ (hbr.trans hL)).mono ?_
      rintro e Z9x1 ⟨rfl, hb⟩
      replace T0 := cell_next hb nT T0
      replace T1 := cell_next hb nT T1
      replace T2 := cell_next hb nT T2
      replace R0 := cell_next hb nR R0
      replace fR0 := frozen_next hb nR fR0
      replace A0 := cell_next hb nA A0
      replace fA0 := frozen_next hb nA fA0
      replace R1 := cell_next hb nR R1
      replace fR1 := frozen_next hb nR fR1
      replace A1 := cell_next hb nA A1
      replace fA1 := frozen_next hb nA fA1
      replace nT := Nat.lt_of_lt_of_le nT hb.size
      replace nR := Nat.lt_of_lt_of_le nR hb.size
      replace nA := Nat.lt_of_lt_of_le nA hb.size
      replace hL := hL.trans (hb.mono (Nat.le_trans hBW hL.size))
      refine hK.out _ _ ⟨T0, T1, T2, A0, A1, trivial⟩ (fun hHeld => ?_)
      clear hK K hb
      try simp only [Act.put, List.setIfInBounds_toArray, List.set_cons_zero, List.set_cons_succ]
      refine take_slot (i := 4) (d := 59) (v := ?_) rfl rfl (by kernel_rfl) (by kernel_rfl) (by kernel_rfl) (fun _ _ _ h => h) (Or.inl ⟨by rfl, ?_⟩) (by assumption) ?_
      rotate_left 1
      focus (intro wS hSw; (try dsimp only at hSw); go_simp; try with_reducible rfl)
      try simp only [List.setIfInBounds_toArray, List.set_cons_zero, List.set_cons_succ]
      refine take_slot (i := 5) (d := 60) (v := ?_) rfl rfl (by kernel_rfl) (by kernel_rfl) (by kernel_rfl) (fun _ _ _ h => h) (Or.inl ⟨by rfl, ?_⟩) (by assumption) ?_
      rotate_left 1
      focus (intro wS hSw; (try dsimp only at hSw); go_simp; try with_reducible rfl)
      try simp only [List.setIfInBounds_toArray, List.set_cons_zero, List.set_cons_succ]
      refine take_slot (i := 11) (d := 66) (v := ?_) rfl rfl (by kernel_rfl) (by kernel_rfl) (by kernel_rfl) (fun _ _ _ h => h) (Or.inl ⟨by rfl, ?_⟩) (by assumption) ?_
      rotate_left 1
      focus (intro wS hSw; (try dsimp only at hSw); go_simp; try with_reducible rfl)
      try simp only [List.setIfInBounds_toArray, List.set_cons_zero, List.set_cons_succ]
      refine wpAnyH_ready (rs := [12]) (by kernel_rfl) (by simp) ?_
      refine AllReadyH.cons rfl (fun K hK => ?_) AllReadyH.nil
      go_simp
      replace T0 : ((Z9x1.setCell ⟨w.heap.size + 1, 0, none⟩ (.int .i64 vx)).setCell ⟨w.heap.size + 1, 1, none⟩ (.int .i64 vn)).cell? ⟨w.heap.size, 0, none⟩ = some (.slice A k c) := ((World.cell?_setCell_other _ _ _ _ (by intro e; injection e with e1 e2; omega)).trans ((World.cell?_setCell_other _ _ _ _ (by intro e; injection e with e1 e2; omega)).trans T0))
      replace T1 : ((Z9x1.setCell ⟨w.heap.size + 1, 0, none⟩ (.int .i64 vx)).setCell ⟨w.heap.size + 1, 1, none⟩ (.int .i64 vn)).cell? ⟨w.heap.size, 1, none⟩ = some (.int .i64 m) := ((World.cell?_setCell_other _ _ _ _ (by intro e; injection e with e1 e2; omega)).trans ((World.cell?_setCell_other _ _ _ _ (by intro e; injection e with e1 e2; omega)).trans T1))
      replace T2 : ((Z9x1.setCell ⟨w.heap.size + 1, 0, none⟩ (.int .i64 vx)).setCell ⟨w.heap.size + 1, 1, none⟩ (.int .i64 vn)).cell? ⟨w.heap.size, 2, none⟩ = some (.int .i64 l) := ((World.cell?_setCell_other _ _ _ _ (by intro e; injection e with e1 e2; omega)).trans ((World.cell?_setCell_other _ _ _ _ (by intro e; injection e with e1 e2; omega)).trans T2))
      replace R0 : ((Z9x1.setCell ⟨w.heap.size + 1, 0, none⟩ (.int .i64 vx)).setCell ⟨w.heap.size + 1, 1, none⟩ (.int .i64 vn)).cell? ⟨w.heap.size + 1, 0, none⟩ = some (.int .i64 vx) := by simp [go_sem, R0]
      replace fR0 : ((Z9x1.setCell ⟨w.heap.size + 1, 0, none⟩ (.int .i64 vx)).setCell ⟨w.heap.size + 1, 1, none⟩ (.int .i64 vn)).frozen? ⟨w.heap.size + 1, 0, none⟩ = false := by simp [go_sem, fR0]
      replace A0 : ((Z9x1.setCell ⟨w.heap.size + 1, 0, none⟩ (.int .i64 vx)).setCell ⟨w.heap.size + 1, 1, none⟩ (.int .i64 vn)).cell? ⟨w.heap.size + 1 + 1, 0, none⟩ = some (.int .i64 S1) := ((World.cell?_setCell_other _ _ _ _ (by intro e; injection e with e1 e2; omega)).trans ((World.cell?_setCell_other _ _ _ _ (by intro e; injection e with e1 e2; omega)).trans A0))
      replace fA0 : ((Z9x1.setCell ⟨w.heap.size + 1, 0, none⟩ (.int .i64 vx)).setCell ⟨w.heap.size + 1, 1, none⟩ (.int .i64 vn)).frozen? ⟨w.heap.size + 1 + 1, 0, none⟩ = false := by simp [go_sem, fA0]
      replace R1 : ((Z9x1.setCell ⟨w.heap.size + 1, 0, none⟩ (.int .i64 vx)).setCell ⟨w.heap.size + 1, 1, none⟩ (.int .i64 vn)).cell? ⟨w.heap.size + 1, 1, none⟩ = some (.int .i64 vn) := by simp [go_sem, R1]
      replace fR1 : ((Z9x1.setCell ⟨w.heap.size + 1, 0, none⟩ (.int .i64 vx)).setCell ⟨w.heap.size + 1, 1, none⟩ (.int .i64 vn)).frozen? ⟨w.heap.size + 1, 1, none⟩ = false := by simp [go_sem, fR1]
      replace A1 : ((Z9x1.setCell ⟨w.heap.size + 1, 0, none⟩ (.int .i64 vx)).setCell ⟨w.heap.size + 1, 1, none⟩ (.int .i64 vn)).cell? ⟨w.heap.size + 1 + 1, 1, none⟩ = some (.int .i64 S2) := ((World.cell?_setCell_other _ _ _ _ (by intro e; injection e with e1 e2; omega)).trans ((World.cell?_setCell_other _ _ _ _ (by intro e; injection e with e1 e2; omega)).trans A1))
      replace fA1 : ((Z9x1.setCell ⟨w.heap.size + 1, 0, none⟩ (.int .i64 vx)).setCell ⟨w.heap.size + 1, 1, none⟩ (.int .i64 vn)).frozen? ⟨w.heap.size + 1 + 1, 1, none⟩ = false := by simp [go_sem, fA1]
      replace nT : w.heap.size < ((Z9x1.setCell ⟨w.heap.size + 1, 0, none⟩ (.int .i64 vx)).setCell ⟨w.heap.size + 1, 1, none⟩ (.int .i64 vn)).heap.size := by simpa [World.setCell] using nT
      replace nR : w.heap.size + 1 < ((Z9x1.setCell ⟨w.heap.size + 1, 0, none⟩ (.int .i64 vx)).setCell ⟨w.heap.size + 1, 1, none⟩ (.int .i64 vn)).heap.size := by simpa [World.setCell] using nR
      replace nA : w.heap.size + 1 + 1 < ((Z9x1.setCell ⟨w.heap.size + 1, 0, none⟩ (.int .i64 vx)).setCell ⟨w.heap.size + 1, 1, none⟩ (.int .i64 vn)).heap.size := by simpa [World.setCell] using nA
      replace hL := hL.setCell (p := ⟨w.heap.size + 1, 0, none⟩) (by show w.heap.size ≤ w.heap.size + 1; omega) (.int .i64 vx)
      replace hL := hL.setCell (p := ⟨w.heap.size + 1, 1, none⟩) (by show w.heap.size ≤ w.heap.size + 1; omega) (.int .i64 vn)
      refine hK.out _ _ ⟨T0, T1, T2, A0, A1, trivial⟩ (fun hHeld => ?_)
      clear hK K
      generalize ((Z9x1.setCell ⟨w.heap.size + 1, 0, none⟩ (.int .i64 vx)).setCell ⟨w.heap.size + 1, 1, none⟩ (.int .i64 vn)) = Z9x2 at *
      try simp only [Act.put, List.setIfInBounds_toArray, List.set_cons_zero, List.set_cons_succ]
      refine wpAnyH_done (by kernel_rfl) ?_ _
      replace hbr := hbr.trans hL
      clear hHeld hL hBW
      go_wp2_with fail
      refine bodyPost_ret (v := .agg #[.int .i64 vx, .int .i64 vn]) (by simp [results, Try.results46, go_sem, *]) rfl ⟨by rw [E.out], hbr⟩
end Go.Proofs.Ytloddjjmoaljhaa
