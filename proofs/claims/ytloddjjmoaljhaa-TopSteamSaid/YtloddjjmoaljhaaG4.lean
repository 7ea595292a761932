/- Contract of package barrel: Make. -/
import Derived.Test.YtloddjjmoaljhaaG3
namespace Go.Proofs.Ytloddjjmoaljhaa
open Go.RowKit Go.Lib Go.Shelf Go.Maps
set_option linter.unusedVariables false
set_option linter.unusedSimpArgs false
attribute [local go_sem ↓] Go.wp_at_zero Go.wp_at_succ

/-- what is left after grams were taken -/
def giv1 (hs : List (Value × Th)) (p : Int × Int) : List (Value × Th) := hs.modify p.1.toNat (fun q => (q.1, { q.2 with l := q.2.l - p.2 }))
def giv (hs : List (Value × Th)) (tk : List (Int × Int)) : List (Value × Th) := tk.foldl giv1 hs
def givT1 (ths : List Th) (p : Int × Int) : List Th := ths.modify p.1.toNat (fun q => { q with l := q.l - p.2 })
def givT (ths : List Th) (tk : List (Int × Int)) : List Th := tk.foldl givT1 ths
theorem giv1_length (hs : List (Value × Th)) (p : Int × Int) : (giv1 hs p).length = hs.length := by simp [giv1]
theorem giv_length : ∀ (tk : List (Int × Int)) (hs : List (Value × Th)), (giv hs tk).length = hs.length := by
  intro tk
  induction tk with
  | nil => intro hs; rfl
  | cons p tk ih => intro hs; show (giv (giv1 hs p) tk).length = _; rw [ih, giv1_length]
theorem giv_map : ∀ (tk : List (Int × Int)) (hs : List (Value × Th)), (giv hs tk).map Prod.snd = givT (hs.map Prod.snd) tk := by
  intro tk
  induction tk with
  | nil => intro hs; rfl
  | cons p tk ih =>
    intro hs
    show (giv (giv1 hs p) tk).map Prod.snd = givT (givT1 (hs.map Prod.snd) p) tk
    rw [ih]
    congr 1
    apply List.ext_getElem?
    intro i
    simp only [giv1, givT1, List.getElem?_map, List.getElem?_modify]
    cases hs[i]? with
    | none => simp
    | some q => by_cases h : p.1.toNat = i <;> simp [h]
theorem giv_get (j : Nat) : ∀ (tk : List (Int × Int)) (hs : List (Value × Th)), (∀ p ∈ tk, p.1.toNat ≠ j) → (giv hs tk)[j]? = hs[j]? := by
  intro tk
  induction tk with
  | nil => intro hs _; rfl
  | cons p tk ih =>
    intro hs h
    show (giv (giv1 hs p) tk)[j]? = _
    rw [ih _ (fun q hq => h q (List.mem_cons_of_mem _ hq))]
    have h1 := h p (List.mem_cons_self ..)
    simp only [giv1, List.getElem?_modify, if_neg h1]
    cases hs[j]? <;> simp
theorem giv_take {tk : List (Int × Int)} {k : Nat} {p : Int × Int} (h : tk[k]? = some p) (hs : List (Value × Th)) : giv hs (tk.take (k + 1)) = giv1 (giv hs (tk.take k)) p := by rw [List.take_add_one, h]; simp [giv, List.foldl_append]
theorem giv1_set {hs : List (Value × Th)} {j : Nat} {q : Value × Th} (h : hs[j]? = some q) (y : Int) : giv1 hs ((j : Int), y) = hs.set j (q.1, { q.2 with l := q.2.l - y }) := by
  have hlt := (List.getElem?_eq_some_iff.1 h).1
  apply List.ext_getElem?
  intro i
  simp only [giv1, Int.toNat_natCast, List.getElem?_modify, List.getElem?_set]
  by_cases hi : j = i
  · subst hi
    rw [h]
    simp [hlt]
  · simp [hi]
theorem flatH_set : ∀ (hs : List (Value × Th)) (j : Nat) (q : Value × Th) (x : Int), hs[j]? = some q → (flatH hs).set (j * 3 + 2) (.int .i64 x) = flatH (hs.set j (q.1, { q.2 with l := x })) := by
  intro hs
  induction hs with
  | nil => intro j q x h; simp at h
  | cons p hs ih =>
    intro j q x h
    rcases j with _ | j
    · simp at h; subst h; rfl
    · have := ih j q x (by simpa using h)
      rw [show (j + 1) * 3 + 2 = j * 3 + 2 + 1 + 1 + 1 from by omega, flatH_cons]
      simp only [List.set_cons_succ]
      rw [this]
      rfl
/-- what is left of a thing is stored -/
theorem Lg.upd {B b : Nat} {W : World} {hs : List (Value × Th)} {g n c : Nat} (h : Lg B b W (.slice (some ⟨g, 0, none⟩) n c) hs) (hn : hs.length = n) {j : Nat} {q : Value × Th} (hq : hs[j]? = some q) (x : Int) :
    Lg B b (W.setCell ⟨g, j * 3 + 2, none⟩ (.int .i64 x)) (.slice (some ⟨g, 0, none⟩) n c) (hs.set j (q.1, { q.2 with l := x })) := by
  subst hn
  have hgb : b ≠ g := fun e => h.ne (by rw [e]; rfl)
  have hrow := (h.row.stored (j * 3 + 2) (.int .i64 x)).1
  rw [flatH_set hs j q x hq] at hrow
  refine ⟨h.le, by simpa [World.setCell] using h.lt, ?_, ?_, h.ne, by rw [List.length_set]; exact hrow, ?_⟩
  · rw [World.cell?_setCell_other _ _ _ _ (by intro e; injection e with e1 e2; exact hgb e1.symm)]; exact h.cell
  · rw [World.frozen?_setCell]; exact h.fr
  · have hk : Kept (fun i => i = b ∨ (Value.slice (some ⟨g, 0, none⟩) hs.length c).ownBlock = some i) W (W.setCell ⟨g, j * 3 + 2, none⟩ (.int .i64 x)) := Kept.set _ (p := ⟨g, j * 3 + 2, none⟩) (.inr rfl) _
    intro p hp
    have key : ∀ p ∈ hs, TkAt (W.setCell ⟨g, j * 3 + 2, none⟩ (.int .i64 x)) p.1 p.2.tk (fun i => i = b ∨ (Value.slice (some ⟨g, 0, none⟩) hs.length c).ownBlock = some i) := fun p hp => (h.tk p hp).kept hk (fun _ _ h => h)
    rcases List.mem_or_eq_of_mem_set hp with hp | rfl
    · exact key p hp
    · exact key q (List.mem_of_getElem? hq)

theorem TkAt.weak {w : World} {v : Value} {tk : List (Int × Int)} {N N' : Nat → Prop} (h : TkAt w v tk N) (hN : ∀ g, ¬ N g → ¬ N' g) : TkAt w v tk N' := by
  obtain ⟨A, c, rfl, hc, h⟩ := h
  refine ⟨A, c, rfl, hc, fun hn => ?_⟩
  obtain ⟨g, off, rfl, hg, hNg, hr⟩ := h hn
  exact ⟨g, off, rfl, hg, hN g hNg, hr⟩
set_option maxRecDepth 40000 in
set_option maxHeartbeats 4000000 in
theorem make_ok (B b : Nat) (V vv : Value) (hs : List (Value × Th)) (tk : List (Int × Int)) (mass : Int) (w : World) (h0 : 0 < tk.length) (hl : tk.length ≤ 20) (hn : hs.length < 200) (hL : Lg B b w V hs) (hv : TkAt w vv tk (fun g => g = b ∨ V.ownBlock = some g)) (hok : tkOk tk hs) (hB0 : tkB tk) (hm1 : 1 ≤ mass) (hm2 : mass ≤ 1000000000) (hm3 : mass ≤ tkS tk) :
    Calls Try.prog 15 #[.pointer (some ⟨b, 0, none⟩), vv, .int .i64 mass] w fun e w' => e = .returned (.tuple #[.int .i64 hs.length, .int .i64 0]) ∧ LgE B b w' (givT (hs.map Prod.snd) tk ++ [⟨tk, mass, mass⟩]) ∧ Below B w w' := by
  have CR := Lib.hid (lroom_ok B b V hs w hn hL)
  have CC : Hid (∀ W, Below w.heap.size w W → Calls Try.prog 37 #[.pointer (some ⟨b, 0, none⟩), vv] W fun e w' => e = .returned (.int .i64 0) ∧ Below W.heap.size W w') := Lib.hid (fun W h => checkTakes_ok B b V vv hs tk W h0 hl (by omega) (hL.below h) (hv.below h).row hok)
  have CL : Hid (∀ W, Below w.heap.size w W → Calls Try.prog 38 #[vv] W fun e w' => ∃ v', e = .returned v' ∧ TkAt w' v' tk (fun g => g < W.heap.size) ∧ Below W.heap.size W w') := Lib.hid (fun W h => clone_ok vv tk W h0 (by omega) (hv.below h).row)
  have CT : Hid (∀ W v', RowAt W.heap.size W v' tk → Calls Try.prog 39 #[.agg #[v', .int .i64 mass, .int .i64 mass]] W fun e w' => e = .returned (.int .i64 (tkS tk)) ∧ Below W.heap.size W w') := Lib.hid (fun W v' h => taken_ok v' tk mass mass W hB0 h)
  have CI := Lib.hid (fun (W : World) (g c : Nat) => bin1v_any 1 (min 1000000000 (tkS tk)) mass g c W)
  rw [show inB 1 (min 1000000000 (tkS tk)) mass = true from by simp [inB]; omega] at CI
  have mn : ∀ tys ty w, (Builtin.min_ tys ty #[.int .i64 1000000000, .int .i64 (tkS tk)]).run Try.prog w = .ok (.int .i64 (min 1000000000 (tkS tk))) w := fun _ _ _ => qmin2 _ _ _ _ _ _
  generalize min 1000000000 (tkS tk) = mnv at *
  generalize tkS tk = S at *
  have CA : Hid (∀ W v', Lg B b W V (giv hs tk) → TkAt W v' tk (fun g => g = b ∨ V.ownBlock = some g) → Calls Try.prog 36 #[.pointer (some ⟨b, 0, none⟩), .agg #[v', .int .i64 mass, .int .i64 mass]] W fun e w' => e = .returned (.int .i64 hs.length) ∧ LgE B b w' (givT (hs.map Prod.snd) tk ++ [⟨tk, mass, mass⟩]) ∧ Below B W w') := Lib.hid (fun W v' h ht => (ladd_ok B b V v' ⟨tk, mass, mass⟩ (giv hs tk) W (by rw [giv_length]; omega) h ht).mono (fun e w' hh2 => by
    obtain ⟨h1, V', h2, h3⟩ := hh2
    exact ⟨by rw [h1, giv_length], ⟨V', _, by rw [List.map_append, giv_map]; rfl, h2⟩, h3⟩))
  have hBw : B ≤ w.heap.size := Nat.le_trans hL.le (Nat.le_of_lt hL.lt)
  have HLg := Lib.hid hL
  have HV := Lib.hid hv
  have HK := Lib.hid hok
  have hob : ∀ g, V.ownBlock = some g → B ≤ g ∧ g < w.heap.size := World.ownsRow.lt hL.row
  obtain ⟨A, c, rfl, hlc, hr⟩ := hv
  obtain ⟨n, hnn⟩ : ∃ n, tk.length = n := ⟨_, rfl⟩
  have HN := Lib.hid hnn
  rw [hnn] at h0 hl hlc hr CC CL HV ⊢
  obtain ⟨g, off, rfl, hg, hNg, hR⟩ := hr h0
  obtain ⟨n2, hn2⟩ : ∃ n2, hs.length = n2 := ⟨_, rfl⟩
  have Hn2 := Lib.hid hn2
  rw [hn2] at hn CA ⊢
  have hbl := hL.lt
  clear hL hok hr hnn hn2 hm1 hm2 hm3 hB0 HV
  go_enter Try.func15, Try.ntmps15
  go_wp2_with fail
  refine CR.out.mono ?_
  rintro e w1 ⟨rfl, hB⟩
  go_wp2_with fail
  refine (CC.out _ hB).mono ?_
  rintro e w2 ⟨rfl, hb⟩
  replace hB := hB.trans (hb.mono hB.size)
  clear hb
  go_wp2_with fail
  refine (CL.out _ hB).mono ?_
  rintro e w3 ⟨v', rfl, hT, hb⟩
  have hw2 := hB.size
  replace hB := hB.trans (hb.mono hB.size)
  have hw3 := hb.size
  clear hb CC CL CR
  have hT1 := hT
  obtain ⟨vA, vc, rfl, _, _⟩ := hT1
  rw [HN.out] at hT ⊢
  go_wp2_with fail
  have hb : Below w3.heap.size w3 (w3.alloc (.cells #[.slice vA n vc, .int .i64 mass, .int .i64 mass] 89)) := (Below.refl _ _).alloc (Nat.le_refl _) _
  refine (CT.out _ _ ((hT.below hb).row)).mono ?_
  rintro e w4 ⟨rfl, hb4⟩
  have T0 := cell_next hb4 (b := w3.heap.size) (o := 0) (by simp <;> omega) (v := some (.slice vA n vc)) (by simp [go_sem])
  have T1 := cell_next hb4 (b := w3.heap.size) (o := 1) (by simp <;> omega) (v := some (.int .i64 mass)) (by simp [go_sem])
  have T2 := cell_next hb4 (b := w3.heap.size) (o := 2) (by simp <;> omega) (v := some (.int .i64 mass)) (by simp [go_sem])
  have nT : w3.heap.size < w4.heap.size := by have := hb4.size; simp at this; omega
  have hb5 := below1 hb4
  replace hT := hT.below hb5
  replace hB := hB.trans (hb5.mono hB.size)
  clear hb hb4 hb5 CT
  go_wp2_with fail
  refine (CI.out _ _ _ (by simp) (by simp [go_sem])).mono ?_
  rintro e w5 ⟨rfl, hb⟩
  have hb5 := below1 hb
  replace T0 := cell_next hb5 nT T0
  replace T1 := cell_next hb5 nT T1
  replace T2 := cell_next hb5 nT T2
  replace nT := Nat.lt_of_lt_of_le nT hb5.size
  replace hT := hT.below hb5
  replace hB := hB.trans (hb5.mono hB.size)
  clear hb hb5 CI mn
  have HL5 := Lib.hid (HLg.out.below hB)
  have HR := Lib.hid (hR.below hB hg)
  have hg5 : g < w5.heap.size := Nat.lt_of_lt_of_le hg hB.size
  have hneT : V.ownBlock ≠ some w3.heap.size := fun e => by have := (hob _ e).2; omega
  have hneg : V.ownBlock ≠ some g := fun e => hNg (.inr e)
  have hBw5 := hB.size
  have hBB : Below B w w5 := hB.mono hBw
  have hTv : Hid (∀ g, g < w2.heap.size → (g = b ∨ V.ownBlock = some g) ∨ ¬ (g = b ∨ V.ownBlock = some g)) := Lib.hid (fun g _ => Classical.em _)
  have hNv : ∀ g, ¬ (g < w2.heap.size) → ¬ (g = b ∨ V.ownBlock = some g) := fun i hi h => by
    rcases h with h | h
    · omega
    · have := (hob _ h).2; omega
  clear hR hB hNg hTv
  generalize w3.heap.size = bt at *
  go_wp2_with fail
  go_loopw [38] (fun i wr => ∃ k : Nat, k ≤ n ∧ i = .int .i64 k ∧ Hid (Lg B b wr V (giv hs (tk.take k))) ∧ Hid (Kept (fun i => V.ownBlock = some i) w5 wr) ∧ Below B w wr) (fun i _ => n - (RowKit.intOf i).toNat)
  case atStart => exact ⟨0, Nat.zero_le _, rfl, HL5, Lib.hid (Kept.refl _ _), hBB⟩
  case round =>
    obtain ⟨k, hk, rfl, HLk, HQ, hbr⟩ := hrel
    have hwr := HQ.out.1
    by_cases hlt : (k : Int) < (n : Int)
    · obtain ⟨⟨x, y⟩, hp⟩ : ∃ p, tk[k]? = some p := ⟨_, List.getElem?_eq_getElem (by rw [HN.out]; omega)⟩
      obtain ⟨p0, p1⟩ := (HR.out.keep fun o => HQ.out.cell (p := ⟨g, o, none⟩) hg5 hneg) k _ hp
      obtain ⟨j, ⟨tv, th⟩, hj, hq, k1, k2, k3, k4⟩ := HK.out k _ hp
      dsimp only at p0 p1 hj k1 k2 k3 k4
      subst hj
      have hq2 : (giv hs (tk.take k))[j]? = some (tv, th) := by
        rw [giv_get j _ _ (fun p hp2 e => k4 ?_), hq]
        obtain ⟨i, q, hi, hqi⟩ : ∃ i, ∃ q : Nat, tk[i]? = some p ∧ p.1 = (q : Int) := by
          obtain ⟨i, hi, e⟩ := List.mem_iff_getElem.1 (List.mem_of_mem_take hp2)
          obtain ⟨q, _, hq1, _⟩ := HK.out i p (by rw [List.getElem?_eq_getElem hi, e])
          exact ⟨i, q, by rw [List.getElem?_eq_getElem hi, e], hq1⟩
        exact List.mem_map.2 ⟨p, hp2, by omega⟩
      have hjn := (List.getElem?_eq_some_iff.1 hq).1
      rw [Hn2.out] at hjn
      obtain ⟨g2, c2, rfl, e1, eB, n2g, hgb, _, _, q2, f2⟩ := HLk.out.at hq2
      have cb := HLk.out.cell
      have nb := HLk.out.lt
      rw [giv_length, Hn2.out] at cb hneT hneg HLk HQ CA HLg HL5 ⊢
      dsimp only at q2
      obtain ⟨tkk, mm, lf⟩ := th
      dsimp only at k2 k3 q2
      have y1 : IntKind.i64.wrap (lf - y) = lf - y := IntWalk.i64_in _ (by omega)
      have HS : Hid ((giv hs (tk.take k)).set j (tv, { (⟨tkk, mm, lf⟩ : Th) with l := lf - y }) = giv hs (tk.take (k + 1))) := Lib.hid (by rw [giv_take hp, giv1_set hq2])
      have HQ2 := Lib.hid hq2
      have hjl : (j : Int) < (n2 : Int) := by omega
      have HLN : Hid ((giv hs (tk.take k)).length = n2) := Lib.hid (by rw [giv_length, Hn2.out])
      clear hp hq hq2 k1 k2 k3 k4 e1 HK
      go_wp2_with fail
      have hb : Below wr.heap.size wr (wr.alloc (.cells #[.int .i64 (j : Int), .int .i64 y] 55)) := (Below.refl _ _).alloc (Nat.le_refl _) _
      have P0 : (wr.alloc (.cells #[.int .i64 (j : Int), .int .i64 y] 55)).cell? ⟨wr.heap.size, 0, none⟩ = some (.int .i64 (j : Int)) := cell_new _ _ _ 0
      have P1 : (wr.alloc (.cells #[.int .i64 (j : Int), .int .i64 y] 55)).cell? ⟨wr.heap.size, 1, none⟩ = some (.int .i64 y) := cell_new _ _ _ 1
      have nP : wr.heap.size < (wr.alloc (.cells #[.int .i64 (j : Int), .int .i64 y] 55)).heap.size := by simp
      have n2r := n2g
      replace q2 := cell_next hb n2g q2
      replace f2 := frozen_next hb n2g f2
      replace cb := cell_next hb nb cb
      replace n2g := Nat.lt_of_lt_of_le n2g hb.size
      replace nb := Nat.lt_of_lt_of_le nb hb.size
      replace HLk := Lib.hid (HLk.out.below hb)
      replace HQ := Lib.hid (HQ.out.trans (Kept.of_below' hb _))
      replace hbr := hbr.trans (hb.mono (by omega))
      clear hb
      generalize wr.alloc (.cells #[.int .i64 (j : Int), .int .i64 y] 55) = w6 at *
      have hpn : g2 < wr.heap.size := n2r
      generalize wr.heap.size = bp at *
      have hBW : B ≤ w6.heap.size := by omega
      refine wp_region_held_drew (S := fun w' => w'.cell? ⟨bp, 0, none⟩ = some (.int .i64 (j : Int)) ∧ w'.cell? ⟨bp, 1, none⟩ = some (.int .i64 y) ∧ w'.cell? ⟨b, 0, none⟩ = some (.slice (some ⟨g2, 0, none⟩) n2 c2) ∧ True) (by kernel_rfl) ?_ (fun hHeld => ?_)
      focus (exact ⟨P0, P1, cb, trivial⟩)
      have hL : Below B w6 w6.drew := Below.drew (Below.refl _ _)
      replace P0 : w6.drew.cell? ⟨bp, 0, none⟩ = some (.int .i64 (j : Int)) := P0
      replace P1 : w6.drew.cell? ⟨bp, 1, none⟩ = some (.int .i64 y) := P1
      replace cb : w6.drew.cell? ⟨b, 0, none⟩ = some (.slice (some ⟨g2, 0, none⟩) n2 c2) := cb
      replace q2 : w6.drew.cell? ⟨g2, j * 3 + 2, none⟩ = some (.int .i64 lf) := q2
      replace f2 : w6.drew.frozen? ⟨g2, j * 3 + 2, none⟩ = false := f2
      replace nP : bp < w6.drew.heap.size := nP
      replace nb : b < w6.drew.heap.size := nb
      replace n2g : g2 < w6.drew.heap.size := n2g
      replace HLk := Lib.hid (HLk.out.below (Below.drew (Below.refl _ _)))
      replace HQ := Lib.hid (HQ.out.trans (Kept.of_below' (Below.drew (Below.refl _ _)) _))
      generalize hWd : w6.drew = wd at hHeld hL P0 P1 cb q2 f2 nP nb n2g HLk HQ ⊢
      clear hWd
      refine take_slot (i := 0) (d := 42) (v := ?_) rfl rfl (by kernel_rfl) (by kernel_rfl) (by kernel_rfl) (fun _ _ _ h => h) (Or.inl ⟨by rfl, ?_⟩) (by assumption) ?_
      rotate_left 1
      focus (intro wS hSw; (try dsimp only at hSw); go_simp; try with_reducible rfl)
      try simp only [List.setIfInBounds_toArray, List.set_cons_zero, List.set_cons_succ]
      refine take_slot (i := 1) (d := 43) (v := ?_) rfl rfl (by kernel_rfl) (by kernel_rfl) (by kernel_rfl) (fun _ _ _ h => h) (Or.inl ⟨by rfl, ?_⟩) (by assumption) ?_
      rotate_left 1
      focus (intro wS hSw; (try dsimp only at hSw); go_simp; try with_reducible rfl)
      try simp only [List.setIfInBounds_toArray, List.set_cons_zero, List.set_cons_succ]
      refine take_slot (i := 2) (d := 44) (v := ?_) rfl rfl (by kernel_rfl) (by kernel_rfl) (by kernel_rfl) (fun _ _ _ h => h) (Or.inl ⟨by rfl, ?_⟩) (by assumption) ?_
      rotate_left 1
      focus (intro wS hSw; (try dsimp only at hSw); go_simp; try with_reducible rfl)
      try simp only [List.setIfInBounds_toArray, List.set_cons_zero, List.set_cons_succ]
      refine take_slot (i := 3) (d := 45) (v := ?_) rfl rfl (by kernel_rfl) (by kernel_rfl) (by kernel_rfl) (fun _ _ _ h => h) (Or.inl ⟨by rfl, ?_⟩) (by assumption) ?_
      rotate_left 1
      focus (intro wS hSw; (try dsimp only at hSw); go_simp; try with_reducible rfl)
      try simp only [List.setIfInBounds_toArray, List.set_cons_zero, List.set_cons_succ]
      refine take_slot (i := 4) (d := 46) (v := ?_) rfl rfl (by kernel_rfl) (by kernel_rfl) (by kernel_rfl) (fun _ _ _ h => h) (Or.inl ⟨by rfl, ?_⟩) (by assumption) ?_
      rotate_left 1
      focus (intro wS hSw; (try dsimp only at hSw); go_simp; try with_reducible rfl)
      try simp only [List.setIfInBounds_toArray, List.set_cons_zero, List.set_cons_succ]
      refine take_slot (i := 5) (d := 47) (v := ?_) rfl rfl (by kernel_rfl) (by kernel_rfl) (by kernel_rfl) (fun _ _ _ h => h) (Or.inl ⟨by rfl, ?_⟩) (by assumption) ?_
      rotate_left 1
      focus (intro wS hSw; (try dsimp only at hSw); go_simp; try with_reducible rfl)
      try simp only [List.setIfInBounds_toArray, List.set_cons_zero, List.set_cons_succ]
      refine take_slot (i := 6) (d := 48) (v := ?_) rfl rfl (by kernel_rfl) (by kernel_rfl) (by kernel_rfl) (fun _ _ _ h => h) (Or.inl ⟨by rfl, ?_⟩) (by assumption) ?_
      rotate_left 1
      focus (intro wS hSw; (try dsimp only at hSw); go_simp; try with_reducible rfl)
      try simp only [List.setIfInBounds_toArray, List.set_cons_zero, List.set_cons_succ]
      refine take_slot (i := 7) (d := 49) (v := ?_) rfl rfl (by kernel_rfl) (by kernel_rfl) (by kernel_rfl) (fun _ _ _ h => h) (Or.inl ⟨by rfl, ?_⟩) (by assumption) ?_
      rotate_left 1
      focus (intro wS hSw; (try dsimp only at hSw); go_simp; try with_reducible rfl)
      try simp only [List.setIfInBounds_toArray, List.set_cons_zero, List.set_cons_succ]
      refine take_slot (i := 9) (d := 51) (v := ?_) rfl rfl (by kernel_rfl) (by kernel_rfl) (by kernel_rfl) (fun _ _ _ h => h) (Or.inl ⟨by rfl, ?_⟩) (by assumption) ?_
      rotate_left 1
      focus (intro wS hSw; (try dsimp only at hSw); go_simp; try with_reducible rfl)
      try simp only [List.setIfInBounds_toArray, List.set_cons_zero, List.set_cons_succ]
      refine take_slot (i := 10) (d := 52) (v := ?_) rfl rfl (by kernel_rfl) (by kernel_rfl) (by kernel_rfl) (fun _ _ _ h => h) (Or.inl ⟨by rfl, ?_⟩) (by assumption) ?_
      rotate_left 1
      focus (intro wS hSw; (try dsimp only at hSw); go_simp; try with_reducible rfl)
      try simp only [List.setIfInBounds_toArray, List.set_cons_zero, List.set_cons_succ]
      refine wpAnyH_ready (rs := [8]) (by kernel_rfl) (by simp) ?_
      refine AllReadyH.cons rfl (fun K hK => ?_) AllReadyH.nil
      go_simp
      refine hK.out _ _ ⟨P0, P1, cb, trivial⟩ (fun hHeld => ?_)
      clear hK K
      try simp only [Act.put, List.setIfInBounds_toArray, List.set_cons_zero, List.set_cons_succ]
      refine take_slot (i := 11) (d := 53) (v := ?_) rfl rfl (by kernel_rfl) (by kernel_rfl) (by kernel_rfl) (fun _ _ _ h => h) (Or.inl ⟨by rfl, ?_⟩) (by assumption) ?_
      rotate_left 1
      focus (intro wS hSw; (try dsimp only at hSw); go_simp; try with_reducible rfl)
      try simp only [List.setIfInBounds_toArray, List.set_cons_zero, List.set_cons_succ]
      refine take_slot (i := 12) (d := 54) (v := ?_) rfl rfl (by kernel_rfl) (by kernel_rfl) (by kernel_rfl) (fun _ _ _ h => h) (Or.inl ⟨by rfl, ?_⟩) (by assumption) ?_
      rotate_left 1
      focus (intro wS hSw; (try dsimp only at hSw); go_simp; try with_reducible rfl)
      try simp only [List.setIfInBounds_toArray, List.set_cons_zero, List.set_cons_succ]
      refine take_slot (i := 13) (d := 55) (v := ?_) rfl rfl (by kernel_rfl) (by kernel_rfl) (by kernel_rfl) (fun _ _ _ h => h) (Or.inl ⟨by rfl, ?_⟩) (by assumption) ?_
      rotate_left 1
      focus (intro wS hSw; (try dsimp only at hSw); go_simp; try with_reducible rfl)
      try simp only [List.setIfInBounds_toArray, List.set_cons_zero, List.set_cons_succ]
      refine wpAnyH_ready (rs := [14]) (by kernel_rfl) (by simp) ?_
      refine AllReadyH.cons rfl (fun K hK => ?_) AllReadyH.nil
      go_simp
      have HUP := Lib.hid (HLk.out.upd HLN.out HQ2.out (lf - y))
      replace HQ := Lib.hid (HQ.out.trans (Kept.set (U := fun i => (Value.slice (some ⟨g2, 0, none⟩) n2 c2).ownBlock = some i) _ (p := ⟨g2, j * 3 + 2, none⟩) rfl (.int .i64 (lf - y))))
      clear HLk
      replace P0 : (wd.setCell ⟨g2, j * 3 + 2, none⟩ (.int .i64 (lf - y))).cell? ⟨bp, 0, none⟩ = some (.int .i64 (j : Int)) := ((World.cell?_setCell_other _ _ _ _ (by intro e; injection e with e1 e2; omega)).trans P0)
      replace P1 : (wd.setCell ⟨g2, j * 3 + 2, none⟩ (.int .i64 (lf - y))).cell? ⟨bp, 1, none⟩ = some (.int .i64 y) := ((World.cell?_setCell_other _ _ _ _ (by intro e; injection e with e1 e2; omega)).trans P1)
      replace cb : (wd.setCell ⟨g2, j * 3 + 2, none⟩ (.int .i64 (lf - y))).cell? ⟨b, 0, none⟩ = some (.slice (some ⟨g2, 0, none⟩) n2 c2) := ((World.cell?_setCell_other _ _ _ _ (by intro e; injection e with e1 e2; omega)).trans cb)
      replace q2 : (wd.setCell ⟨g2, j * 3 + 2, none⟩ (.int .i64 (lf - y))).cell? ⟨g2, j * 3 + 2, none⟩ = some (.int .i64 (lf - y)) := by simp [go_sem, q2]
      replace f2 : (wd.setCell ⟨g2, j * 3 + 2, none⟩ (.int .i64 (lf - y))).frozen? ⟨g2, j * 3 + 2, none⟩ = false := by simp [go_sem, f2]
      replace nP : bp < (wd.setCell ⟨g2, j * 3 + 2, none⟩ (.int .i64 (lf - y))).heap.size := by simpa [World.setCell] using nP
      replace nb : b < (wd.setCell ⟨g2, j * 3 + 2, none⟩ (.int .i64 (lf - y))).heap.size := by simpa [World.setCell] using nb
      replace n2g : g2 < (wd.setCell ⟨g2, j * 3 + 2, none⟩ (.int .i64 (lf - y))).heap.size := by simpa [World.setCell] using n2g
      replace hL := hL.setCell (p := ⟨g2, j * 3 + 2, none⟩) (by show B ≤ g2; omega) (.int .i64 (lf - y))
      refine hK.out _ _ ⟨P0, P1, cb, trivial⟩ (fun hHeld => ?_)
      clear hK K
      generalize (wd.setCell ⟨g2, j * 3 + 2, none⟩ (.int .i64 (lf - y))) = Z2 at *
      try simp only [Act.put, List.setIfInBounds_toArray, List.set_cons_zero, List.set_cons_succ]
      refine wpAnyH_done (by kernel_rfl) ?_ _
      rw [HS.out] at HUP
      replace hbr := hbr.trans hL
      clear hHeld hL hBW
      go_wp2_with fail
      go_roundw
      case rel => exact ⟨k + 1, by omega, by go_num, HUP, HQ, hbr⟩
      case measure => simp [RowKit.intOf]; omega
    · obtain rfl : k = n := by omega
      have hfull : tk.take k = tk := List.take_of_length_le (by rw [HN.out]; exact Nat.le_refl _)
      rw [hfull] at HLk
      have C9 := Lib.hid (CA.out _ _ HLk.out ((hT.weak hNv).kept (HQ.out.mono (fun i h => .inr h)) (fun _ _ h => h)))
      have t0 := (HQ.out.cell (p := ⟨bt, 0, none⟩) nT hneT).trans T0
      have t1 := (HQ.out.cell (p := ⟨bt, 1, none⟩) nT hneT).trans T1
      have t2 := (HQ.out.cell (p := ⟨bt, 2, none⟩) nT hneT).trans T2
      clear hfull HLk HQ HR HK HLg HL5 CA hT T0 T1 T2
      go_wp2_with fail
      refine C9.out.mono ?_
      rintro e w9 ⟨rfl, hE, hb⟩
      have hBz := hbr.trans hb
      clear hb C9
      go_wp2_with fail
      go_ret2
      exact ⟨by rfl, hE, hBz⟩
end Go.Proofs.Ytloddjjmoaljhaa
