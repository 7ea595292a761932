/- Contracts: V11, joined. -/
import Derived.Test.YtclnfncdphfgjaaJC21
namespace Go.Proofs.Ytclnfncdphfgjaa
open Go.RowKit Go.Lib Go.Shelf
set_option linter.unusedVariables false
set_option linter.unusedSimpArgs false
attribute [local go_sem ↓] Go.wp_at_zero Go.wp_at_succ


theorem Kept.of_below' {U : Nat → Prop} {W W' : World} (h : Below W.heap.size W W') (_u : Unit) : Kept U W W' := ⟨h.size, fun k o ho hu => (h.block k (Array.getElem?_eq_some_iff.1 ho).1).trans ho⟩
theorem Kept.of_grown' {W W' : World} {row : Option Nat} (h : W.grownBy W' row) : Kept (fun i => row = some i) W W' := ⟨h.size, fun k o ho hu => (h.block k (Array.getElem?_eq_some_iff.1 ho).1 (fun e => hu e.symm)).trans ho⟩
theorem suffS {R G : Nat → Nat → World → Prop} {P : Prop} (main : (∀ g1 g2 W, R g1 g2 W → G g1 g2 W) → P) (key : ∀ g1 g2 W, R g1 g2 W → G g1 g2 W) : P := main key
set_option maxHeartbeats 400000 in
theorem rSplit_bad (a s : Int) (v : Value) (hv : spB a s = false) (w : World) : Calls Try.prog 22 #[.agg #[.int .i64 a, .int .i64 s], v] w (SpPost w [] 2) := by
  have c0 := Lib.hid (rSap_any a s)
  rw [hv] at c0
  clear hv
  go_enter Try.func22, Try.ntmps22
  go_wp2_with fail
  refine (c0.out _).mono ?_
  rintro e W1 ⟨rfl, hb⟩
  have X0 := cell_next hb (b := w.heap.size) (o := 0) (by simp <;> omega) (v := some (.int .i64 a)) (by simp [go_sem])
  have fX0 := frozen_next hb (b := w.heap.size) (o := 0) (by simp <;> omega) (v := false) (by simp [go_sem])
  have X1 := cell_next hb (b := w.heap.size) (o := 1) (by simp <;> omega) (v := some (.int .i64 s)) (by simp [go_sem])
  have fX1 := frozen_next hb (b := w.heap.size) (o := 1) (by simp <;> omega) (v := false) (by simp [go_sem])
  have nX : w.heap.size < W1.heap.size := by have := hb.size; simp at this; omega
  have hB := (below1 hb)
  clear hb
  go_wp2_with fail
  go_ret2
  exact ⟨_, rfl, World.ownsRow_nil _ _ _ _, hB⟩

set_option maxHeartbeats 400000 in
theorem rSplit_no (a s r : Int) (v : Value) (ms : List Int) (hv : spB a s = true) (hr : r ≠ 0) (w : World) (c2 : Hid (∀ W : World, Below w.heap.size w W → Calls Try.prog 24 #[.int .i64 (a + s), v] W (ShPost W ms r))) : Calls Try.prog 22 #[.agg #[.int .i64 a, .int .i64 s], v] w (SpPost w [] r) := by
  have c0 := Lib.hid (rSap_any a s)
  obtain ⟨p1, p2, p3, p4⟩ := spB_of hv
  rw [hv] at c0
  clear hv
  have hre : (r == 0) = false := by simpa using hr
  obtain ⟨t, ht⟩ : ∃ t, a + s = t := ⟨_, rfl⟩
  rw [ht] at c2
  go_enter Try.func22, Try.ntmps22
  go_wp2_with fail
  refine (c0.out _).mono ?_
  rintro e W1 ⟨rfl, hb⟩
  have X0 := cell_next hb (b := w.heap.size) (o := 0) (by simp <;> omega) (v := some (.int .i64 a)) (by simp [go_sem])
  have fX0 := frozen_next hb (b := w.heap.size) (o := 0) (by simp <;> omega) (v := false) (by simp [go_sem])
  have X1 := cell_next hb (b := w.heap.size) (o := 1) (by simp <;> omega) (v := some (.int .i64 s)) (by simp [go_sem])
  have fX1 := frozen_next hb (b := w.heap.size) (o := 1) (by simp <;> omega) (v := false) (by simp [go_sem])
  have nX : w.heap.size < W1.heap.size := by have := hb.size; simp at this; omega
  have hB := (below1 hb)
  clear hb
  have wt : IntKind.i64.wrap (a + s) = t := by rw [ht]; exact IntWalk.i64_in _ (by omega)
  go_wp2_with fail
  refine (c2.out _ hB).mono ?_
  rintro e wS ⟨vm, rfl, hown, hb⟩
  have hB2 := hB.trans (hb.mono hB.size)
  clear hB hb hown
  go_wp2_with fail
  go_ret2
  exact ⟨_, rfl, World.ownsRow_nil _ _ _ _, hB2⟩

set_option maxRecDepth 20000 in
set_option maxHeartbeats 4000000 in
theorem rSplit_ok (a s : Int) (v : Value) (ms : List Int) (hv : spB a s = true) (hms : ∀ m ∈ ms, 0 ≤ m) (hsum : ms.foldl (· + ·) 0 = a + s) (hpos : 0 < ms.length) (hl : ms.length ≤ 1000) (w : World) (c2 : Hid (∀ W : World, Below w.heap.size w W → Calls Try.prog 24 #[.int .i64 (a + s), v] W (ShPost W ms 0))) : Calls Try.prog 22 #[.agg #[.int .i64 a, .int .i64 s], v] w (SpPost w (spF a s ms).2 0) := by
  obtain ⟨j0, hj0, hjz0, hjz1, hjz2⟩ := info_parts infoSapV
  obtain ⟨p1, p2, p3, p4⟩ := spB_of hv
  have c0 := Lib.hid (rSap_any a s)
  have HST : Hid (∀ k m, ms[k]? = some m → spB (spF a s (ms.take k)).1.1 (spF a s (ms.take k)).1.2 = true ∧ 0 ≤ m ∧ m ≤ (spF a s (ms.take k)).1.1 + (spF a s (ms.take k)).1.2) := Lib.hid fun k m hk => by
    have hkl := (List.getElem?_eq_some_iff.1 hk).1
    have e : ms.foldl (· + ·) 0 = (ms.take k).foldl (· + ·) 0 + (ms.drop k).foldl (· + ·) 0 := by
      conv => lhs; rw [← List.take_append_drop k ms]
      rw [List.foldl_append, sum_acc]
    have e2 : (ms.drop k).foldl (· + ·) 0 = m + (ms.drop (k + 1)).foldl (· + ·) 0 := by
      rw [List.drop_eq_getElem_cons hkl, List.foldl_cons, sum_acc]
      rw [List.getElem?_eq_getElem hkl] at hk
      rw [Option.some.inj hk]
      omega
    have nn : ∀ l : List Int, (∀ x ∈ l, 0 ≤ x) → 0 ≤ l.foldl (· + ·) 0 := by
      intro l
      induction l with
      | nil => intro _; simp
      | cons x l ih => intro h; rw [List.foldl_cons, sum_acc]; have := h x (by simp); have := ih (fun y hy => h y (by simp [hy])); omega
    have n1 := nn (ms.drop (k + 1)) (fun x hx => hms x (List.mem_of_mem_drop hx))
    have hm := hms m (List.mem_of_getElem? hk)
    obtain ⟨i1, i2⟩ := spF_ok a s hv (ms.take k) (fun x hx => hms x (List.mem_of_mem_take hx)) (by omega)
    exact ⟨i1, hm, by omega⟩
  have HLEN := Lib.hid (spF_len a s ms)
  rw [hv] at c0
  clear hv hms hsum
  obtain ⟨n, hn⟩ : ∃ n, ms.length = n := ⟨_, rfl⟩
  have Hn := Lib.hid hn
  have c2' : Hid (∀ W : World, Below w.heap.size w W → Calls Try.prog 24 #[.int .i64 (a + s), v] W fun e w' => ∃ v, e = .returned (.tuple #[v, .int .i64 0]) ∧ w'.ownsRow W.heap.size 3 1 v n (ints ms) ∧ Below W.heap.size W w') := Lib.hid (fun W hW => by have h := c2.out W hW; unfold ShPost at h; rw [hn] at h; exact h)
  rw [hn] at hpos hl
  clear hn c2
  have c2 := c2'
  clear c2'
  obtain ⟨t, ht⟩ : ∃ t, a + s = t := ⟨_, rfl⟩
  rw [ht] at c2
  go_enter Try.func22, Try.ntmps22
  go_wp2_with fail
  refine (c0.out _).mono ?_
  rintro e W1 ⟨rfl, hb⟩
  have X0 := cell_next hb (b := w.heap.size) (o := 0) (by simp <;> omega) (v := some (.int .i64 a)) (by simp [go_sem])
  have fX0 := frozen_next hb (b := w.heap.size) (o := 0) (by simp <;> omega) (v := false) (by simp [go_sem])
  have X1 := cell_next hb (b := w.heap.size) (o := 1) (by simp <;> omega) (v := some (.int .i64 s)) (by simp [go_sem])
  have fX1 := frozen_next hb (b := w.heap.size) (o := 1) (by simp <;> omega) (v := false) (by simp [go_sem])
  have nX : w.heap.size < W1.heap.size := by have := hb.size; simp at this; omega
  have hB := (below1 hb)
  clear hb
  have wt : IntKind.i64.wrap (a + s) = t := by rw [ht]; exact IntWalk.i64_in _ (by omega)
  go_wp2_with fail
  refine (c2.out _ hB).mono ?_
  rintro e wS ⟨vm, rfl, hown, hb⟩
  replace X0 := cell_next hb nX X0
  replace X1 := cell_next hb nX X1
  replace fX0 := frozen_next hb nX fX0
  replace fX1 := frozen_next hb nX fX1
  obtain ⟨gm, cm, rfl, hgm1, hgm2, hcm, him⟩ := own_ints' hown hpos
  have hgb : w.heap.size < gm := by omega
  have hzS := hb.size
  have hB2 := hB.trans (hb.mono hB.size)
  have HIM := Lib.hid him
  have HE := Lib.hid (own_empty0 wS 28 2)
  clear hB hb hown nX him
  go_wp2_with fail

  clear wt ht p1 p2 p3 p4
  go_loopw [8, 9] (fun ps i wr => ∃ k : Nat, k ≤ n ∧ i = .int .i64 k ∧ Hid (wr.ownsRow wS.heap.size 28 2 ps k (flat (spF a s (ms.take k)).2)) ∧ wr.cell? ⟨w.heap.size, 0, none⟩ = some (.int .i64 (spF a s (ms.take k)).1.1) ∧ wr.cell? ⟨w.heap.size, 1, none⟩ = some (.int .i64 (spF a s (ms.take k)).1.2) ∧
    wr.frozen? ⟨w.heap.size, 0, none⟩ = false ∧ wr.frozen? ⟨w.heap.size, 1, none⟩ = false ∧ Hid (IntsAt wr gm 0 ms) ∧ wS.heap.size ≤ wr.heap.size ∧ Below w.heap.size w wr) (fun _ i _ => n - (RowKit.intOf i).toNat)
  case atStart =>
    have hb0 : Below wS.heap.size wS (wS.alloc (.cells #[] 28)) := (Below.refl _ _).alloc (Nat.le_refl _) _
    exact ⟨0, Nat.zero_le _, rfl, HE, cell_next hb0 (by omega) X0, cell_next hb0 (by omega) X1, frozen_next hb0 (by omega) fX0, frozen_next hb0 (by omega) fX1, Lib.hid (fun j z hj => cell_next hb0 hgm2 (HIM.out j z hj)), hb0.size, hB2.trans (hb0.mono hB2.size)⟩
  case round =>
    clear X0 X1 fX0 fX1 hB2 HIM HE
    obtain ⟨k, hk, rfl, HO, X0, X1, fX0, fX1, HIM, hzr, hbr⟩ := hrel
    by_cases hlt : (k : Int) < (n : Int)
    · obtain ⟨m, hm⟩ : ∃ m, ms[k]? = some m := ⟨_, List.getElem?_eq_getElem (by rw [Hn.out]; omega)⟩
      have q0 := HIM.out k m hm
      rw [Nat.zero_add] at q0
      obtain ⟨i1, i2, i3⟩ := HST.out k m hm
      have hD := Lib.hid (fun W => rDrawn_any _ _ m i1 i2 i3 W)
      have HNX : Hid ((spF a s (ms.take (k + 1))) = spS (spF a s (ms.take k)) m) := Lib.hid (by rw [take_snoc' ms k m hm, spF_snoc])
      generalize hst : spF a s (ms.take k) = st at *
      obtain ⟨⟨x, y⟩, ps⟩ := st
      dsimp only at X0 X1 hD HO i1 i3
      have HNX2 : Hid ((spF a s (ms.take (k + 1))) = ((x - (m - dq x y m), y - dq x y m), ps ++ [(m - dq x y m, dq x y m)])) := Lib.hid (by rw [HNX.out]; rfl)
      generalize x - (m - dq x y m) = l at *
      generalize y - dq x y m = r at *
      generalize m - dq x y m = d at *
      generalize dq x y m = u at *
      have CD := hD
      have hob : ∀ r, u8.ownBlock = some r → wS.heap.size ≤ r ∧ r < wr.heap.size := fun r hr => HO.out.lt r hr
      have nX : w.heap.size < wr.heap.size := by omega
      have ng : gm < wr.heap.size := by omega
      have ngr := ng
      have hBW := hbr.size
      clear hst hm i1 i2 i3 HNX hD
      go_wp2_with fail
      apply suffS (R := fun bP bQ W => W.cell? ⟨bP, 0, none⟩ = some (.int .i64 d) ∧ W.cell? ⟨bP, 1, none⟩ = some (.int .i64 u) ∧ W.cell? ⟨bQ, 0, none⟩ = some (.int .i64 l) ∧ W.cell? ⟨bQ, 1, none⟩ = some (.int .i64 r) ∧ bP < W.heap.size ∧ bQ < W.heap.size ∧
        W.cell? ⟨w.heap.size, 0, none⟩ = some (.int .i64 x) ∧ W.cell? ⟨w.heap.size, 1, none⟩ = some (.int .i64 y) ∧ W.frozen? ⟨w.heap.size, 0, none⟩ = false ∧ W.frozen? ⟨w.heap.size, 1, none⟩ = false ∧ w.heap.size < W.heap.size ∧ wr.heap.size ≤ bP ∧ wr.heap.size ≤ bQ ∧
        W.cell? ⟨gm, k, none⟩ = some (.int .i64 m) ∧ gm < W.heap.size ∧ Hid (W.ownsRow wS.heap.size 28 2 u8 k (flat ps)) ∧ Hid (Kept (fun b => b = w.heap.size ∨ wS.heap.size ≤ b) wr W) ∧ Below w.heap.size wr W)
      case main =>
        intro key
        refine wp_region_held_drew (S := fun w' => w'.cell? ⟨gm, k, none⟩ = some (.int .i64 m) ∧ w'.cell? ⟨w.heap.size, 0, none⟩ = some (.int .i64 x) ∧ w'.cell? ⟨w.heap.size, 1, none⟩ = some (.int .i64 y) ∧ True) (by kernel_rfl) ?_ (fun hHeld => ?_)
        focus (exact ⟨q0, X0, X1, trivial⟩)
        have hL : Below w.heap.size wr wr.drew := Below.drew (Below.refl _ _)
        have hQ : Hid (Kept (fun b => b = w.heap.size ∨ wS.heap.size ≤ b) wr wr.drew) := Lib.hid (Kept.refl _ _)
        replace q0 : wr.drew.cell? ⟨gm, k, none⟩ = some (.int .i64 m) := q0
        replace X0 : wr.drew.cell? ⟨w.heap.size, 0, none⟩ = some (.int .i64 x) := X0
        replace X1 : wr.drew.cell? ⟨w.heap.size, 1, none⟩ = some (.int .i64 y) := X1
        replace fX0 : wr.drew.frozen? ⟨w.heap.size, 0, none⟩ = false := fX0
        replace fX1 : wr.drew.frozen? ⟨w.heap.size, 1, none⟩ = false := fX1
        replace ng : gm < wr.drew.heap.size := ng
        replace nX : w.heap.size < wr.drew.heap.size := nX
        replace HO : Hid (wr.drew.ownsRow wS.heap.size 28 2 u8 k (flat ps)) := Lib.hid HO.out
        generalize hWd : wr.drew = wd10 at hHeld hL hQ q0 X0 X1 fX0 fX1 ng nX HO ⊢
        clear hWd
        refine take_slot (i := 0) (d := 36) (v := ?_) rfl rfl (by kernel_rfl) (by kernel_rfl) (by kernel_rfl) (fun _ _ _ h => h) (Or.inl ⟨by rfl, ?_⟩) (by assumption) ?_
        rotate_left 1
        focus (intro wS hSw; (try dsimp only at hSw); go_simp; try with_reducible rfl)
        try simp only [List.setIfInBounds_toArray, List.set_cons_zero, List.set_cons_succ]
        refine take_slot (i := 1) (d := 37) (v := ?_) rfl rfl (by kernel_rfl) (by kernel_rfl) (by kernel_rfl) (fun _ _ _ h => h) (Or.inl ⟨by rfl, ?_⟩) (by assumption) ?_
        rotate_left 1
        focus (intro wS hSw; (try dsimp only at hSw); go_simp; try with_reducible rfl)
        try simp only [List.setIfInBounds_toArray, List.set_cons_zero, List.set_cons_succ]
        refine take_slot (i := 2) (d := 38) (v := ?_) rfl rfl (by kernel_rfl) (by kernel_rfl) (by kernel_rfl) (fun _ _ _ h => h) (Or.inl ⟨by rfl, ?_⟩) (by assumption) ?_
        rotate_left 1
        focus (intro wS hSw; (try dsimp only at hSw); go_simp; try with_reducible rfl)
        try simp only [List.setIfInBounds_toArray, List.set_cons_zero, List.set_cons_succ]
        refine take_slot (i := 3) (d := 39) (v := ?_) rfl rfl (by kernel_rfl) (by kernel_rfl) (by kernel_rfl) (fun _ _ _ h => h) (Or.inl ⟨by rfl, ?_⟩) (by assumption) ?_
        rotate_left 1
        focus (intro wS hSw; (try dsimp only at hSw); go_simp; try with_reducible rfl)
        try simp only [List.setIfInBounds_toArray, List.set_cons_zero, List.set_cons_succ]
        refine take_slot (i := 4) (d := 40) (v := ?_) rfl rfl (by kernel_rfl) (by kernel_rfl) (by kernel_rfl) (fun _ _ _ h => h) (Or.inl ⟨by rfl, ?_⟩) (by assumption) ?_
        rotate_left 1
        focus (intro wS hSw; (try dsimp only at hSw); go_simp; try with_reducible rfl)
        try simp only [List.setIfInBounds_toArray, List.set_cons_zero, List.set_cons_succ]
        refine wpAnyH_ready (rs := [5, 9, 10]) (by kernel_rfl) (by simp) ?_
        refine AllReadyH.cons rfl (fun K hK => ?_) (AllReadyH.cons rfl (fun K hK => ?_) (AllReadyH.cons rfl (fun K hK => ?_) AllReadyH.nil))
        · go_simp
          refine (CD.out _).mono ?_
          rintro e Z10x1 ⟨rfl, hb⟩
          replace q0 := cell_next hb ng q0
          replace X0 := cell_next hb nX X0
          replace X1 := cell_next hb nX X1
          replace fX0 := frozen_next hb nX fX0
          replace fX1 := frozen_next hb nX fX1
          replace ng := Nat.lt_of_lt_of_le ng hb.size
          replace nX := Nat.lt_of_lt_of_le nX hb.size
          replace hL := hL.trans (hb.mono (Nat.le_trans hBW hL.size))
          replace hQ := Lib.hid (hQ.out.trans (Kept.of_below' hb ()))
          replace HO := Lib.hid (own_below HO.out hb)
          refine hK.out _ _ ⟨q0, X0, X1, trivial⟩ (fun hHeld => ?_)
          clear hK K hb
          try simp only [Act.put, List.setIfInBounds_toArray, List.set_cons_zero, List.set_cons_succ]
          refine take_slot (i := 6) (d := 35) (v := ?_) rfl rfl (by kernel_rfl) (by kernel_rfl) (by kernel_rfl) (fun _ _ _ h => h) (Or.inl ⟨by rfl, ?_⟩) (by assumption) ?_
          rotate_left 1
          focus (intro wS hSw; (try dsimp only at hSw); go_simp; try with_reducible rfl)
          try simp only [List.setIfInBounds_toArray, List.set_cons_zero, List.set_cons_succ]
          refine take_slot (i := 7) (d := 42) (v := ?_) rfl rfl (by kernel_rfl) (by kernel_rfl) (by kernel_rfl) (fun _ _ _ h => h) (Or.inl ⟨by rfl, ?_⟩) (by assumption) ?_
          rotate_left 1
          focus (intro wS hSw; (try dsimp only at hSw); go_simp; try with_reducible rfl)
          try simp only [List.setIfInBounds_toArray, List.set_cons_zero, List.set_cons_succ]
          refine take_slot (i := 8) (d := 43) (v := ?_) rfl rfl (by kernel_rfl) (by kernel_rfl) (by kernel_rfl) (fun _ _ _ h => h) (Or.inl ⟨by rfl, ?_⟩) (by assumption) ?_
          rotate_left 1
          focus (intro wS hSw; (try dsimp only at hSw); go_simp; try with_reducible rfl)
          try simp only [List.setIfInBounds_toArray, List.set_cons_zero, List.set_cons_succ]
          refine wpAnyH_ready (rs := [9, 10]) (by kernel_rfl) (by simp) ?_
          refine AllReadyH.cons rfl (fun K hK => ?_) (AllReadyH.cons rfl (fun K hK => ?_) AllReadyH.nil)
          · go_simp
            have hb := (Below.refl Z10x1.heap.size Z10x1).alloc (Nat.le_refl _) (Obj.cells #[.int .i64 0, .int .i64 0] 28)
            have szZ10x2 := hL.size
            have ord2ng := ng
            have ord2nX := nX
            replace q0 := cell_next hb ng q0
            replace X0 := cell_next hb nX X0
            replace X1 := cell_next hb nX X1
            replace fX0 := frozen_next hb nX fX0
            replace fX1 := frozen_next hb nX fX1
            replace ng := Nat.lt_of_lt_of_le ng hb.size
            replace nX := Nat.lt_of_lt_of_le nX hb.size
            replace hL := hL.trans (hb.mono (Nat.le_trans hBW hL.size))
            replace hQ := Lib.hid (hQ.out.trans (Kept.of_below' hb ()))
            replace HO := Lib.hid (own_below HO.out hb)
            have Pf0 : (Z10x1.alloc (Obj.cells #[.int .i64 0, .int .i64 0] 28)).frozen? ⟨Z10x1.heap.size, 0, none⟩ = false := by simp [go_sem]
            have Pf1 : (Z10x1.alloc (Obj.cells #[.int .i64 0, .int .i64 0] 28)).frozen? ⟨Z10x1.heap.size, 1, none⟩ = false := by simp [go_sem]
            have P0 : (Z10x1.alloc (Obj.cells #[.int .i64 0, .int .i64 0] 28)).cell? ⟨Z10x1.heap.size, 0, none⟩ = some (.int .i64 0) := cell_new _ _ _ 0
            have P1 : (Z10x1.alloc (Obj.cells #[.int .i64 0, .int .i64 0] 28)).cell? ⟨Z10x1.heap.size, 1, none⟩ = some (.int .i64 0) := cell_new _ _ _ 1
            have nP : Z10x1.heap.size < (Z10x1.alloc (Obj.cells #[.int .i64 0, .int .i64 0] 28)).heap.size := by simp
            refine hK.out _ _ ⟨q0, X0, X1, trivial⟩ (fun hHeld => ?_)
            clear hK K hb
            generalize Z10x1.alloc (Obj.cells #[.int .i64 0, .int .i64 0] 28) = Z10x2 at *
            try simp only [Act.put, List.setIfInBounds_toArray, List.set_cons_zero, List.set_cons_succ]
            refine wpAnyH_ready (rs := [10]) (by kernel_rfl) (by simp) ?_
            refine AllReadyH.cons rfl (fun K hK => ?_) AllReadyH.nil
            go_simp
            have hb := (Below.refl Z10x2.heap.size Z10x2).alloc (Nat.le_refl _) (Obj.cells #[.int .i64 0, .int .i64 0] 28)
            have szZ10x3 := hL.size
            have ord3ng := ng
            have ord3nX := nX
            have ord3nP := nP
            replace q0 := cell_next hb ng q0
            replace X0 := cell_next hb nX X0
            replace X1 := cell_next hb nX X1
            replace fX0 := frozen_next hb nX fX0
            replace fX1 := frozen_next hb nX fX1
            replace Pf0 := frozen_next hb nP Pf0
            replace Pf1 := frozen_next hb nP Pf1
            replace P0 := cell_next hb nP P0
            replace P1 := cell_next hb nP P1
            replace ng := Nat.lt_of_lt_of_le ng hb.size
            replace nX := Nat.lt_of_lt_of_le nX hb.size
            replace nP := Nat.lt_of_lt_of_le nP hb.size
            replace hL := hL.trans (hb.mono (Nat.le_trans hBW hL.size))
            replace hQ := Lib.hid (hQ.out.trans (Kept.of_below' hb ()))
            replace HO := Lib.hid (own_below HO.out hb)
            have Qf0 : (Z10x2.alloc (Obj.cells #[.int .i64 0, .int .i64 0] 28)).frozen? ⟨Z10x2.heap.size, 0, none⟩ = false := by simp [go_sem]
            have Qf1 : (Z10x2.alloc (Obj.cells #[.int .i64 0, .int .i64 0] 28)).frozen? ⟨Z10x2.heap.size, 1, none⟩ = false := by simp [go_sem]
            have Q0 : (Z10x2.alloc (Obj.cells #[.int .i64 0, .int .i64 0] 28)).cell? ⟨Z10x2.heap.size, 0, none⟩ = some (.int .i64 0) := cell_new _ _ _ 0
            have Q1 : (Z10x2.alloc (Obj.cells #[.int .i64 0, .int .i64 0] 28)).cell? ⟨Z10x2.heap.size, 1, none⟩ = some (.int .i64 0) := cell_new _ _ _ 1
            have nQ : Z10x2.heap.size < (Z10x2.alloc (Obj.cells #[.int .i64 0, .int .i64 0] 28)).heap.size := by simp
            refine hK.out _ _ ⟨q0, X0, X1, trivial⟩ (fun hHeld => ?_)
            clear hK K hb
            generalize Z10x2.alloc (Obj.cells #[.int .i64 0, .int .i64 0] 28) = Z10x3 at *
            try simp only [Act.put, List.setIfInBounds_toArray, List.set_cons_zero, List.set_cons_succ]
            refine wpAnyH_ready (rs := [11]) (by kernel_rfl) (by simp) ?_
            refine AllReadyH.cons rfl (fun K hK => ?_) AllReadyH.nil
            go_simp
            have hsL := hL.size
            replace HO := Lib.hid (own_set1 (own_set1 HO.out (b := Z10x1.heap.size) (fun e => by have := hob _ e; omega) 0 (.int .i64 d)) (b := Z10x1.heap.size) (fun e => by have := hob _ e; omega) 1 (.int .i64 u))
            replace q0 : ((Z10x3.setCell ⟨Z10x1.heap.size, 0, none⟩ (.int .i64 d)).setCell ⟨Z10x1.heap.size, 1, none⟩ (.int .i64 u)).cell? ⟨gm, k, none⟩ = some (.int .i64 m) := ((World.cell?_setCell_other _ _ _ _ (by intro e; injection e with e1 e2; omega)).trans ((World.cell?_setCell_other _ _ _ _ (by intro e; injection e with e1 e2; omega)).trans q0))
            replace X0 : ((Z10x3.setCell ⟨Z10x1.heap.size, 0, none⟩ (.int .i64 d)).setCell ⟨Z10x1.heap.size, 1, none⟩ (.int .i64 u)).cell? ⟨w.heap.size, 0, none⟩ = some (.int .i64 x) := ((World.cell?_setCell_other _ _ _ _ (by intro e; injection e with e1 e2; omega)).trans ((World.cell?_setCell_other _ _ _ _ (by intro e; injection e with e1 e2; omega)).trans X0))
            replace X1 : ((Z10x3.setCell ⟨Z10x1.heap.size, 0, none⟩ (.int .i64 d)).setCell ⟨Z10x1.heap.size, 1, none⟩ (.int .i64 u)).cell? ⟨w.heap.size, 1, none⟩ = some (.int .i64 y) := ((World.cell?_setCell_other _ _ _ _ (by intro e; injection e with e1 e2; omega)).trans ((World.cell?_setCell_other _ _ _ _ (by intro e; injection e with e1 e2; omega)).trans X1))
            replace fX0 : ((Z10x3.setCell ⟨Z10x1.heap.size, 0, none⟩ (.int .i64 d)).setCell ⟨Z10x1.heap.size, 1, none⟩ (.int .i64 u)).frozen? ⟨w.heap.size, 0, none⟩ = false := by simp [go_sem, fX0]
            replace fX1 : ((Z10x3.setCell ⟨Z10x1.heap.size, 0, none⟩ (.int .i64 d)).setCell ⟨Z10x1.heap.size, 1, none⟩ (.int .i64 u)).frozen? ⟨w.heap.size, 1, none⟩ = false := by simp [go_sem, fX1]
            replace Pf0 : ((Z10x3.setCell ⟨Z10x1.heap.size, 0, none⟩ (.int .i64 d)).setCell ⟨Z10x1.heap.size, 1, none⟩ (.int .i64 u)).frozen? ⟨Z10x1.heap.size, 0, none⟩ = false := by simp [go_sem, Pf0]
            replace Pf1 : ((Z10x3.setCell ⟨Z10x1.heap.size, 0, none⟩ (.int .i64 d)).setCell ⟨Z10x1.heap.size, 1, none⟩ (.int .i64 u)).frozen? ⟨Z10x1.heap.size, 1, none⟩ = false := by simp [go_sem, Pf1]
            replace P0 : ((Z10x3.setCell ⟨Z10x1.heap.size, 0, none⟩ (.int .i64 d)).setCell ⟨Z10x1.heap.size, 1, none⟩ (.int .i64 u)).cell? ⟨Z10x1.heap.size, 0, none⟩ = some (.int .i64 d) := by simp [go_sem, P0]
            replace P1 : ((Z10x3.setCell ⟨Z10x1.heap.size, 0, none⟩ (.int .i64 d)).setCell ⟨Z10x1.heap.size, 1, none⟩ (.int .i64 u)).cell? ⟨Z10x1.heap.size, 1, none⟩ = some (.int .i64 u) := by simp [go_sem, P1]
            replace Qf0 : ((Z10x3.setCell ⟨Z10x1.heap.size, 0, none⟩ (.int .i64 d)).setCell ⟨Z10x1.heap.size, 1, none⟩ (.int .i64 u)).frozen? ⟨Z10x2.heap.size, 0, none⟩ = false := by simp [go_sem, Qf0]
            replace Qf1 : ((Z10x3.setCell ⟨Z10x1.heap.size, 0, none⟩ (.int .i64 d)).setCell ⟨Z10x1.heap.size, 1, none⟩ (.int .i64 u)).frozen? ⟨Z10x2.heap.size, 1, none⟩ = false := by simp [go_sem, Qf1]
            replace Q0 : ((Z10x3.setCell ⟨Z10x1.heap.size, 0, none⟩ (.int .i64 d)).setCell ⟨Z10x1.heap.size, 1, none⟩ (.int .i64 u)).cell? ⟨Z10x2.heap.size, 0, none⟩ = some (.int .i64 0) := ((World.cell?_setCell_other _ _ _ _ (by intro e; injection e with e1 e2; omega)).trans ((World.cell?_setCell_other _ _ _ _ (by intro e; injection e with e1 e2; omega)).trans Q0))
            replace Q1 : ((Z10x3.setCell ⟨Z10x1.heap.size, 0, none⟩ (.int .i64 d)).setCell ⟨Z10x1.heap.size, 1, none⟩ (.int .i64 u)).cell? ⟨Z10x2.heap.size, 1, none⟩ = some (.int .i64 0) := ((World.cell?_setCell_other _ _ _ _ (by intro e; injection e with e1 e2; omega)).trans ((World.cell?_setCell_other _ _ _ _ (by intro e; injection e with e1 e2; omega)).trans Q1))
            replace ng : gm < ((Z10x3.setCell ⟨Z10x1.heap.size, 0, none⟩ (.int .i64 d)).setCell ⟨Z10x1.heap.size, 1, none⟩ (.int .i64 u)).heap.size := by simpa [World.setCell] using ng
            replace nX : w.heap.size < ((Z10x3.setCell ⟨Z10x1.heap.size, 0, none⟩ (.int .i64 d)).setCell ⟨Z10x1.heap.size, 1, none⟩ (.int .i64 u)).heap.size := by simpa [World.setCell] using nX
            replace nP : Z10x1.heap.size < ((Z10x3.setCell ⟨Z10x1.heap.size, 0, none⟩ (.int .i64 d)).setCell ⟨Z10x1.heap.size, 1, none⟩ (.int .i64 u)).heap.size := by simpa [World.setCell] using nP
            replace nQ : Z10x2.heap.size < ((Z10x3.setCell ⟨Z10x1.heap.size, 0, none⟩ (.int .i64 d)).setCell ⟨Z10x1.heap.size, 1, none⟩ (.int .i64 u)).heap.size := by simpa [World.setCell] using nQ
            replace hL := hL.setCell (p := ⟨Z10x1.heap.size, 0, none⟩) (by show w.heap.size ≤ Z10x1.heap.size; omega) (.int .i64 d)
            replace hL := hL.setCell (p := ⟨Z10x1.heap.size, 1, none⟩) (by show w.heap.size ≤ Z10x1.heap.size; omega) (.int .i64 u)
            replace hQ := Lib.hid (hQ.out.trans (Kept.set (U := (fun b => b = w.heap.size ∨ wS.heap.size ≤ b)) _ (p := ⟨Z10x1.heap.size, 0, none⟩) ((.inr (by dsimp only; have := hL.size; omega))) (.int .i64 d)))
            replace hQ := Lib.hid (hQ.out.trans (Kept.set (U := (fun b => b = w.heap.size ∨ wS.heap.size ≤ b)) _ (p := ⟨Z10x1.heap.size, 1, none⟩) ((.inr (by dsimp only; have := hL.size; omega))) (.int .i64 u)))
            refine hK.out _ _ ⟨q0, X0, X1, trivial⟩ (fun hHeld => ?_)
            clear hK K
            generalize ((Z10x3.setCell ⟨Z10x1.heap.size, 0, none⟩ (.int .i64 d)).setCell ⟨Z10x1.heap.size, 1, none⟩ (.int .i64 u)) = Z10x4 at *
            try simp only [Act.put, List.setIfInBounds_toArray, List.set_cons_zero, List.set_cons_succ]
            refine wpAnyH_ready (rs := [12]) (by kernel_rfl) (by simp) ?_
            refine AllReadyH.cons rfl (fun K hK => ?_) AllReadyH.nil
            go_simp
            have hsL2 := hL.size
            replace HO := Lib.hid (own_set1 (own_set1 HO.out (b := Z10x2.heap.size) (fun e => by have := hob _ e; omega) 0 (.int .i64 l)) (b := Z10x2.heap.size) (fun e => by have := hob _ e; omega) 1 (.int .i64 r))
            replace q0 : ((Z10x4.setCell ⟨Z10x2.heap.size, 0, none⟩ (.int .i64 l)).setCell ⟨Z10x2.heap.size, 1, none⟩ (.int .i64 r)).cell? ⟨gm, k, none⟩ = some (.int .i64 m) := ((World.cell?_setCell_other _ _ _ _ (by intro e; injection e with e1 e2; omega)).trans ((World.cell?_setCell_other _ _ _ _ (by intro e; injection e with e1 e2; omega)).trans q0))
            replace X0 : ((Z10x4.setCell ⟨Z10x2.heap.size, 0, none⟩ (.int .i64 l)).setCell ⟨Z10x2.heap.size, 1, none⟩ (.int .i64 r)).cell? ⟨w.heap.size, 0, none⟩ = some (.int .i64 x) := ((World.cell?_setCell_other _ _ _ _ (by intro e; injection e with e1 e2; omega)).trans ((World.cell?_setCell_other _ _ _ _ (by intro e; injection e with e1 e2; omega)).trans X0))
            replace X1 : ((Z10x4.setCell ⟨Z10x2.heap.size, 0, none⟩ (.int .i64 l)).setCell ⟨Z10x2.heap.size, 1, none⟩ (.int .i64 r)).cell? ⟨w.heap.size, 1, none⟩ = some (.int .i64 y) := ((World.cell?_setCell_other _ _ _ _ (by intro e; injection e with e1 e2; omega)).trans ((World.cell?_setCell_other _ _ _ _ (by intro e; injection e with e1 e2; omega)).trans X1))
            replace fX0 : ((Z10x4.setCell ⟨Z10x2.heap.size, 0, none⟩ (.int .i64 l)).setCell ⟨Z10x2.heap.size, 1, none⟩ (.int .i64 r)).frozen? ⟨w.heap.size, 0, none⟩ = false := by simp [go_sem, fX0]
            replace fX1 : ((Z10x4.setCell ⟨Z10x2.heap.size, 0, none⟩ (.int .i64 l)).setCell ⟨Z10x2.heap.size, 1, none⟩ (.int .i64 r)).frozen? ⟨w.heap.size, 1, none⟩ = false := by simp [go_sem, fX1]
            replace Pf0 : ((Z10x4.setCell ⟨Z10x2.heap.size, 0, none⟩ (.int .i64 l)).setCell ⟨Z10x2.heap.size, 1, none⟩ (.int .i64 r)).frozen? ⟨Z10x1.heap.size, 0, none⟩ = false := by simp [go_sem, Pf0]
            replace Pf1 : ((Z10x4.setCell ⟨Z10x2.heap.size, 0, none⟩ (.int .i64 l)).setCell ⟨Z10x2.heap.size, 1, none⟩ (.int .i64 r)).frozen? ⟨Z10x1.heap.size, 1, none⟩ = false := by simp [go_sem, Pf1]
            replace P0 : ((Z10x4.setCell ⟨Z10x2.heap.size, 0, none⟩ (.int .i64 l)).setCell ⟨Z10x2.heap.size, 1, none⟩ (.int .i64 r)).cell? ⟨Z10x1.heap.size, 0, none⟩ = some (.int .i64 d) := ((World.cell?_setCell_other _ _ _ _ (by intro e; injection e with e1 e2; omega)).trans ((World.cell?_setCell_other _ _ _ _ (by intro e; injection e with e1 e2; omega)).trans P0))
            replace P1 : ((Z10x4.setCell ⟨Z10x2.heap.size, 0, none⟩ (.int .i64 l)).setCell ⟨Z10x2.heap.size, 1, none⟩ (.int .i64 r)).cell? ⟨Z10x1.heap.size, 1, none⟩ = some (.int .i64 u) := ((World.cell?_setCell_other _ _ _ _ (by intro e; injection e with e1 e2; omega)).trans ((World.cell?_setCell_other _ _ _ _ (by intro e; injection e with e1 e2; omega)).trans P1))
            replace Qf0 : ((Z10x4.setCell ⟨Z10x2.heap.size, 0, none⟩ (.int .i64 l)).setCell ⟨Z10x2.heap.size, 1, none⟩ (.int .i64 r)).frozen? ⟨Z10x2.heap.size, 0, none⟩ = false := by simp [go_sem, Qf0]
            replace Qf1 : ((Z10x4.setCell ⟨Z10x2.heap.size, 0, none⟩ (.int .i64 l)).setCell ⟨Z10x2.heap.size, 1, none⟩ (.int .i64 r)).frozen? ⟨Z10x2.heap.size, 1, none⟩ = false := by simp [go_sem, Qf1]
            replace Q0 : ((Z10x4.setCell ⟨Z10x2.heap.size, 0, none⟩ (.int .i64 l)).setCell ⟨Z10x2.heap.size, 1, none⟩ (.int .i64 r)).cell? ⟨Z10x2.heap.size, 0, none⟩ = some (.int .i64 l) := by simp [go_sem, Q0]
            replace Q1 : ((Z10x4.setCell ⟨Z10x2.heap.size, 0, none⟩ (.int .i64 l)).setCell ⟨Z10x2.heap.size, 1, none⟩ (.int .i64 r)).cell? ⟨Z10x2.heap.size, 1, none⟩ = some (.int .i64 r) := by simp [go_sem, Q1]
            replace ng : gm < ((Z10x4.setCell ⟨Z10x2.heap.size, 0, none⟩ (.int .i64 l)).setCell ⟨Z10x2.heap.size, 1, none⟩ (.int .i64 r)).heap.size := by simpa [World.setCell] using ng
            replace nX : w.heap.size < ((Z10x4.setCell ⟨Z10x2.heap.size, 0, none⟩ (.int .i64 l)).setCell ⟨Z10x2.heap.size, 1, none⟩ (.int .i64 r)).heap.size := by simpa [World.setCell] using nX
            replace nP : Z10x1.heap.size < ((Z10x4.setCell ⟨Z10x2.heap.size, 0, none⟩ (.int .i64 l)).setCell ⟨Z10x2.heap.size, 1, none⟩ (.int .i64 r)).heap.size := by simpa [World.setCell] using nP
            replace nQ : Z10x2.heap.size < ((Z10x4.setCell ⟨Z10x2.heap.size, 0, none⟩ (.int .i64 l)).setCell ⟨Z10x2.heap.size, 1, none⟩ (.int .i64 r)).heap.size := by simpa [World.setCell] using nQ
            replace hL := hL.setCell (p := ⟨Z10x2.heap.size, 0, none⟩) (by show w.heap.size ≤ Z10x2.heap.size; omega) (.int .i64 l)
            replace hL := hL.setCell (p := ⟨Z10x2.heap.size, 1, none⟩) (by show w.heap.size ≤ Z10x2.heap.size; omega) (.int .i64 r)
            replace hQ := Lib.hid (hQ.out.trans (Kept.set (U := (fun b => b = w.heap.size ∨ wS.heap.size ≤ b)) _ (p := ⟨Z10x2.heap.size, 0, none⟩) ((.inr (by dsimp only; have := hL.size; omega))) (.int .i64 l)))
            replace hQ := Lib.hid (hQ.out.trans (Kept.set (U := (fun b => b = w.heap.size ∨ wS.heap.size ≤ b)) _ (p := ⟨Z10x2.heap.size, 1, none⟩) ((.inr (by dsimp only; have := hL.size; omega))) (.int .i64 r)))
            refine hK.out _ _ ⟨q0, X0, X1, trivial⟩ (fun hHeld => ?_)
            clear hK K
            generalize ((Z10x4.setCell ⟨Z10x2.heap.size, 0, none⟩ (.int .i64 l)).setCell ⟨Z10x2.heap.size, 1, none⟩ (.int .i64 r)) = Z10x5 at *
            try simp only [Act.put, List.setIfInBounds_toArray, List.set_cons_zero, List.set_cons_succ]
            refine wpAnyH_done (by kernel_rfl) ?_ _
            have oP : wr.heap.size ≤ Z10x1.heap.size := by have := hL.size; omega
            have oQ : wr.heap.size ≤ Z10x2.heap.size := by have := hL.size; omega
            have hfin := And.intro P0 (And.intro P1 (And.intro Q0 (And.intro Q1 (And.intro nP (And.intro nQ (And.intro X0 (And.intro X1 (And.intro fX0 (And.intro fX1 (And.intro nX (And.intro oP (And.intro oQ (And.intro q0 (And.intro ng (And.intro HO (And.intro hQ hL))))))))))))))))
            clear P0 P1 Q0 Q1 nP nQ X0 X1 fX0 fX1 nX q0 ng HO hL hQ hHeld oP oQ
            revert hfin
            generalize Z10x5 = w9
            generalize Z10x1.heap.size = bP
            generalize Z10x2.heap.size = bQ
            intro hfin
            exact key bP bQ w9 hfin
          · go_simp
            have hb := (Below.refl Z10x1.heap.size Z10x1).alloc (Nat.le_refl _) (Obj.cells #[.int .i64 0, .int .i64 0] 28)
            have szZ10x6 := hL.size
            have ord6ng := ng
            have ord6nX := nX
            replace q0 := cell_next hb ng q0
            replace X0 := cell_next hb nX X0
            replace X1 := cell_next hb nX X1
            replace fX0 := frozen_next hb nX fX0
            replace fX1 := frozen_next hb nX fX1
            replace ng := Nat.lt_of_lt_of_le ng hb.size
            replace nX := Nat.lt_of_lt_of_le nX hb.size
            replace hL := hL.trans (hb.mono (Nat.le_trans hBW hL.size))
            replace hQ := Lib.hid (hQ.out.trans (Kept.of_below' hb ()))
            replace HO := Lib.hid (own_below HO.out hb)
            have Qf0 : (Z10x1.alloc (Obj.cells #[.int .i64 0, .int .i64 0] 28)).frozen? ⟨Z10x1.heap.size, 0, none⟩ = false := by simp [go_sem]
            have Qf1 : (Z10x1.alloc (Obj.cells #[.int .i64 0, .int .i64 0] 28)).frozen? ⟨Z10x1.heap.size, 1, none⟩ = false := by simp [go_sem]
            have Q0 : (Z10x1.alloc (Obj.cells #[.int .i64 0, .int .i64 0] 28)).cell? ⟨Z10x1.heap.size, 0, none⟩ = some (.int .i64 0) := cell_new _ _ _ 0
            have Q1 : (Z10x1.alloc (Obj.cells #[.int .i64 0, .int .i64 0] 28)).cell? ⟨Z10x1.heap.size, 1, none⟩ = some (.int .i64 0) := cell_new _ _ _ 1
            have nQ : Z10x1.heap.size < (Z10x1.alloc (Obj.cells #[.int .i64 0, .int .i64 0] 28)).heap.size := by simp
            refine hK.out _ _ ⟨q0, X0, X1, trivial⟩ (fun hHeld => ?_)
            clear hK K hb
            generalize Z10x1.alloc (Obj.cells #[.int .i64 0, .int .i64 0] 28) = Z10x6 at *
            try simp only [Act.put, List.setIfInBounds_toArray, List.set_cons_zero, List.set_cons_succ]
            refine wpAnyH_ready (rs := [9]) (by kernel_rfl) (by simp) ?_
            refine AllReadyH.cons rfl (fun K hK => ?_) AllReadyH.nil
            go_simp
            have hb := (Below.refl Z10x6.heap.size Z10x6).alloc (Nat.le_refl _) (Obj.cells #[.int .i64 0, .int .i64 0] 28)
            have szZ10x7 := hL.size
            have ord7ng := ng
            have ord7nX := nX
            have ord7nQ := nQ
            replace q0 := cell_next hb ng q0
            replace X0 := cell_next hb nX X0
            replace X1 := cell_next hb nX X1
            replace fX0 := frozen_next hb nX fX0
            replace fX1 := frozen_next hb nX fX1
            replace Qf0 := frozen_next hb nQ Qf0
            replace Qf1 := frozen_next hb nQ Qf1
            replace Q0 := cell_next hb nQ Q0
            replace Q1 := cell_next hb nQ Q1
            replace ng := Nat.lt_of_lt_of_le ng hb.size
            replace nX := Nat.lt_of_lt_of_le nX hb.size
            replace nQ := Nat.lt_of_lt_of_le nQ hb.size
            replace hL := hL.trans (hb.mono (Nat.le_trans hBW hL.size))
            replace hQ := Lib.hid (hQ.out.trans (Kept.of_below' hb ()))
            replace HO := Lib.hid (own_below HO.out hb)
            have Pf0 : (Z10x6.alloc (Obj.cells #[.int .i64 0, .int .i64 0] 28)).frozen? ⟨Z10x6.heap.size, 0, none⟩ = false := by simp [go_sem]
            have Pf1 : (Z10x6.alloc (Obj.cells #[.int .i64 0, .int .i64 0] 28)).frozen? ⟨Z10x6.heap.size, 1, none⟩ = false := by simp [go_sem]
            have P0 : (Z10x6.alloc (Obj.cells #[.int .i64 0, .int .i64 0] 28)).cell? ⟨Z10x6.heap.size, 0, none⟩ = some (.int .i64 0) := cell_new _ _ _ 0
            have P1 : (Z10x6.alloc (Obj.cells #[.int .i64 0, .int .i64 0] 28)).cell? ⟨Z10x6.heap.size, 1, none⟩ = some (.int .i64 0) := cell_new _ _ _ 1
            have nP : Z10x6.heap.size < (Z10x6.alloc (Obj.cells #[.int .i64 0, .int .i64 0] 28)).heap.size := by simp
            refine hK.out _ _ ⟨q0, X0, X1, trivial⟩ (fun hHeld => ?_)
            clear hK K hb
            generalize Z10x6.alloc (Obj.cells #[.int .i64 0, .int .i64 0] 28) = Z10x7 at *
            try simp only [Act.put, List.setIfInBounds_toArray, List.set_cons_zero, List.set_cons_succ]
            refine wpAnyH_ready (rs := [11]) (by kernel_rfl) (by simp) ?_
            refine AllReadyH.cons rfl (fun K hK => ?_) AllReadyH.nil
            go_simp
            have hsL := hL.size
            replace HO := Lib.hid (own_set1 (own_set1 HO.out (b := Z10x6.heap.size) (fun e => by have := hob _ e; omega) 0 (.int .i64 d)) (b := Z10x6.heap.size) (fun e => by have := hob _ e; omega) 1 (.int .i64 u))
            replace q0 : ((Z10x7.setCell ⟨Z10x6.heap.size, 0, none⟩ (.int .i64 d)).setCell ⟨Z10x6.heap.size, 1, none⟩ (.int .i64 u)).cell? ⟨gm, k, none⟩ = some (.int .i64 m) := ((World.cell?_setCell_other _ _ _ _ (by intro e; injection e with e1 e2; omega)).trans ((World.cell?_setCell_other _ _ _ _ (by intro e; injection e with e1 e2; omega)).trans q0))
            replace X0 : ((Z10x7.setCell ⟨Z10x6.heap.size, 0, none⟩ (.int .i64 d)).setCell ⟨Z10x6.heap.size, 1, none⟩ (.int .i64 u)).cell? ⟨w.heap.size, 0, none⟩ = some (.int .i64 x) := ((World.cell?_setCell_other _ _ _ _ (by intro e; injection e with e1 e2; omega)).trans ((World.cell?_setCell_other _ _ _ _ (by intro e; injection e with e1 e2; omega)).trans X0))
            replace X1 : ((Z10x7.setCell ⟨Z10x6.heap.size, 0, none⟩ (.int .i64 d)).setCell ⟨Z10x6.heap.size, 1, none⟩ (.int .i64 u)).cell? ⟨w.heap.size, 1, none⟩ = some (.int .i64 y) := ((World.cell?_setCell_other _ _ _ _ (by intro e; injection e with e1 e2; omega)).trans ((World.cell?_setCell_other _ _ _ _ (by intro e; injection e with e1 e2; omega)).trans X1))
            replace fX0 : ((Z10x7.setCell ⟨Z10x6.heap.size, 0, none⟩ (.int .i64 d)).setCell ⟨Z10x6.heap.size, 1, none⟩ (.int .i64 u)).frozen? ⟨w.heap.size, 0, none⟩ = false := by simp [go_sem, fX0]
            replace fX1 : ((Z10x7.setCell ⟨Z10x6.heap.size, 0, none⟩ (.int .i64 d)).setCell ⟨Z10x6.heap.size, 1, none⟩ (.int .i64 u)).frozen? ⟨w.heap.size, 1, none⟩ = false := by simp [go_sem, fX1]
            replace Qf0 : ((Z10x7.setCell ⟨Z10x6.heap.size, 0, none⟩ (.int .i64 d)).setCell ⟨Z10x6.heap.size, 1, none⟩ (.int .i64 u)).frozen? ⟨Z10x1.heap.size, 0, none⟩ = false := by simp [go_sem, Qf0]
            replace Qf1 : ((Z10x7.setCell ⟨Z10x6.heap.size, 0, none⟩ (.int .i64 d)).setCell ⟨Z10x6.heap.size, 1, none⟩ (.int .i64 u)).frozen? ⟨Z10x1.heap.size, 1, none⟩ = false := by simp [go_sem, Qf1]
            replace Q0 : ((Z10x7.setCell ⟨Z10x6.heap.size, 0, none⟩ (.int .i64 d)).setCell ⟨Z10x6.heap.size, 1, none⟩ (.int .i64 u)).cell? ⟨Z10x1.heap.size, 0, none⟩ = some (.int .i64 0) := ((World.cell?_setCell_other _ _ _ _ (by intro e; injection e with e1 e2; omega)).trans ((World.cell?_setCell_other _ _ _ _ (by intro e; injection e with e1 e2; omega)).trans Q0))
            replace Q1 : ((Z10x7.setCell ⟨Z10x6.heap.size, 0, none⟩ (.int .i64 d)).setCell ⟨Z10x6.heap.size, 1, none⟩ (.int .i64 u)).cell? ⟨Z10x1.heap.size, 1, none⟩ = some (.int .i64 0) := ((World.cell?_setCell_other _ _ _ _ (by intro e; injection e with e1 e2; omega)).trans ((World.cell?_setCell_other _ _ _ _ (by intro e; injection e with e1 e2; omega)).trans Q1))
            replace Pf0 : ((Z10x7.setCell ⟨Z10x6.heap.size, 0, none⟩ (.int .i64 d)).setCell ⟨Z10x6.heap.size, 1, none⟩ (.int .i64 u)).frozen? ⟨Z10x6.heap.size, 0, none⟩ = false := by simp [go_sem, Pf0]
            replace Pf1 : ((Z10x7.setCell ⟨Z10x6.heap.size, 0, none⟩ (.int .i64 d)).setCell ⟨Z10x6.heap.size, 1, none⟩ (.int .i64 u)).frozen? ⟨Z10x6.heap.size, 1, none⟩ = false := by simp [go_sem, Pf1]
            replace P0 : ((Z10x7.setCell ⟨Z10x6.heap.size, 0, none⟩ (.int .i64 d)).setCell ⟨Z10x6.heap.size, 1, none⟩ (.int .i64 u)).cell? ⟨Z10x6.heap.size, 0, none⟩ = some (.int .i64 d) := by simp [go_sem, P0]
            replace P1 : ((Z10x7.setCell ⟨Z10x6.heap.size, 0, none⟩ (.int .i64 d)).setCell ⟨Z10x6.heap.size, 1, none⟩ (.int .i64 u)).cell? ⟨Z10x6.heap.size, 1, none⟩ = some (.int .i64 u) := by simp [go_sem, P1]
            replace ng : gm < ((Z10x7.setCell ⟨Z10x6.heap.size, 0, none⟩ (.int .i64 d)).setCell ⟨Z10x6.heap.size, 1, none⟩ (.int .i64 u)).heap.size := by simpa [World.setCell] using ng
            replace nX : w.heap.size < ((Z10x7.setCell ⟨Z10x6.heap.size, 0, none⟩ (.int .i64 d)).setCell ⟨Z10x6.heap.size, 1, none⟩ (.int .i64 u)).heap.size := by simpa [World.setCell] using nX
            replace nQ : Z10x1.heap.size < ((Z10x7.setCell ⟨Z10x6.heap.size, 0, none⟩ (.int .i64 d)).setCell ⟨Z10x6.heap.size, 1, none⟩ (.int .i64 u)).heap.size := by simpa [World.setCell] using nQ
            replace nP : Z10x6.heap.size < ((Z10x7.setCell ⟨Z10x6.heap.size, 0, none⟩ (.int .i64 d)).setCell ⟨Z10x6.heap.size, 1, none⟩ (.int .i64 u)).heap.size := by simpa [World.setCell] using nP
            replace hL := hL.setCell (p := ⟨Z10x6.heap.size, 0, none⟩) (by show w.heap.size ≤ Z10x6.heap.size; omega) (.int .i64 d)
            replace hL := hL.setCell (p := ⟨Z10x6.heap.size, 1, none⟩) (by show w.heap.size ≤ Z10x6.heap.size; omega) (.int .i64 u)
            replace hQ := Lib.hid (hQ.out.trans (Kept.set (U := (fun b => b = w.heap.size ∨ wS.heap.size ≤ b)) _ (p := ⟨Z10x6.heap.size, 0, none⟩) ((.inr (by dsimp only; have := hL.size; omega))) (.int .i64 d)))
            replace hQ := Lib.hid (hQ.out.trans (Kept.set (U := (fun b => b = w.heap.size ∨ wS.heap.size ≤ b)) _ (p := ⟨Z10x6.heap.size, 1, none⟩) ((.inr (by dsimp only; have := hL.size; omega))) (.int .i64 u)))
            refine hK.out _ _ ⟨q0, X0, X1, trivial⟩ (fun hHeld => ?_)
            clear hK K
            generalize ((Z10x7.setCell ⟨Z10x6.heap.size, 0, none⟩ (.int .i64 d)).setCell ⟨Z10x6.heap.size, 1, none⟩ (.int .i64 u)) = Z10x8 at *
            try simp only [Act.put, List.setIfInBounds_toArray, List.set_cons_zero, List.set_cons_succ]
            refine wpAnyH_ready (rs := [12]) (by kernel_rfl) (by simp) ?_
            refine AllReadyH.cons rfl (fun K hK => ?_) AllReadyH.nil
            go_simp
            have hsL2 := hL.size
            replace HO := Lib.hid (own_set1 (own_set1 HO.out (b := Z10x1.heap.size) (fun e => by have := hob _ e; omega) 0 (.int .i64 l)) (b := Z10x1.heap.size) (fun e => by have := hob _ e; omega) 1 (.int .i64 r))
            replace q0 : ((Z10x8.setCell ⟨Z10x1.heap.size, 0, none⟩ (.int .i64 l)).setCell ⟨Z10x1.heap.size, 1, none⟩ (.int .i64 r)).cell? ⟨gm, k, none⟩ = some (.int .i64 m) := ((World.cell?_setCell_other _ _ _ _ (by intro e; injection e with e1 e2; omega)).trans ((World.cell?_setCell_other _ _ _ _ (by intro e; injection e with e1 e2; omega)).trans q0))
            replace X0 : ((Z10x8.setCell ⟨Z10x1.heap.size, 0, none⟩ (.int .i64 l)).setCell ⟨Z10x1.heap.size, 1, none⟩ (.int .i64 r)).cell? ⟨w.heap.size, 0, none⟩ = some (.int .i64 x) := ((World.cell?_setCell_other _ _ _ _ (by intro e; injection e with e1 e2; omega)).trans ((World.cell?_setCell_other _ _ _ _ (by intro e; injection e with e1 e2; omega)).trans X0))
            replace X1 : ((Z10x8.setCell ⟨Z10x1.heap.size, 0, none⟩ (.int .i64 l)).setCell ⟨Z10x1.heap.size, 1, none⟩ (.int .i64 r)).cell? ⟨w.heap.size, 1, none⟩ = some (.int .i64 y) := ((World.cell?_setCell_other _ _ _ _ (by intro e; injection e with e1 e2; omega)).trans ((World.cell?_setCell_other _ _ _ _ (by intro e; injection e with e1 e2; omega)).trans X1))
            replace fX0 : ((Z10x8.setCell ⟨Z10x1.heap.size, 0, none⟩ (.int .i64 l)).setCell ⟨Z10x1.heap.size, 1, none⟩ (.int .i64 r)).frozen? ⟨w.heap.size, 0, none⟩ = false := by simp [go_sem, fX0]
            replace fX1 : ((Z10x8.setCell ⟨Z10x1.heap.size, 0, none⟩ (.int .i64 l)).setCell ⟨Z10x1.heap.size, 1, none⟩ (.int .i64 r)).frozen? ⟨w.heap.size, 1, none⟩ = false := by simp [go_sem, fX1]
            replace Qf0 : ((Z10x8.setCell ⟨Z10x1.heap.size, 0, none⟩ (.int .i64 l)).setCell ⟨Z10x1.heap.size, 1, none⟩ (.int .i64 r)).frozen? ⟨Z10x1.heap.size, 0, none⟩ = false := by simp [go_sem, Qf0]
            replace Qf1 : ((Z10x8.setCell ⟨Z10x1.heap.size, 0, none⟩ (.int .i64 l)).setCell ⟨Z10x1.heap.size, 1, none⟩ (.int .i64 r)).frozen? ⟨Z10x1.heap.size, 1, none⟩ = false := by simp [go_sem, Qf1]
            replace Q0 : ((Z10x8.setCell ⟨Z10x1.heap.size, 0, none⟩ (.int .i64 l)).setCell ⟨Z10x1.heap.size, 1, none⟩ (.int .i64 r)).cell? ⟨Z10x1.heap.size, 0, none⟩ = some (.int .i64 l) := by simp [go_sem, Q0]
            replace Q1 : ((Z10x8.setCell ⟨Z10x1.heap.size, 0, none⟩ (.int .i64 l)).setCell ⟨Z10x1.heap.size, 1, none⟩ (.int .i64 r)).cell? ⟨Z10x1.heap.size, 1, none⟩ = some (.int .i64 r) := by simp [go_sem, Q1]
            replace Pf0 : ((Z10x8.setCell ⟨Z10x1.heap.size, 0, none⟩ (.int .i64 l)).setCell ⟨Z10x1.heap.size, 1, none⟩ (.int .i64 r)).frozen? ⟨Z10x6.heap.size, 0, none⟩ = false := by simp [go_sem, Pf0]
            replace Pf1 : ((Z10x8.setCell ⟨Z10x1.heap.size, 0, none⟩ (.int .i64 l)).setCell ⟨Z10x1.heap.size, 1, none⟩ (.int .i64 r)).frozen? ⟨Z10x6.heap.size, 1, none⟩ = false := by simp [go_sem, Pf1]
            replace P0 : ((Z10x8.setCell ⟨Z10x1.heap.size, 0, none⟩ (.int .i64 l)).setCell ⟨Z10x1.heap.size, 1, none⟩ (.int .i64 r)).cell? ⟨Z10x6.heap.size, 0, none⟩ = some (.int .i64 d) := ((World.cell?_setCell_other _ _ _ _ (by intro e; injection e with e1 e2; omega)).trans ((World.cell?_setCell_other _ _ _ _ (by intro e; injection e with e1 e2; omega)).trans P0))
            replace P1 : ((Z10x8.setCell ⟨Z10x1.heap.size, 0, none⟩ (.int .i64 l)).setCell ⟨Z10x1.heap.size, 1, none⟩ (.int .i64 r)).cell? ⟨Z10x6.heap.size, 1, none⟩ = some (.int .i64 u) := ((World.cell?_setCell_other _ _ _ _ (by intro e; injection e with e1 e2; omega)).trans ((World.cell?_setCell_other _ _ _ _ (by intro e; injection e with e1 e2; omega)).trans P1))
            replace ng : gm < ((Z10x8.setCell ⟨Z10x1.heap.size, 0, none⟩ (.int .i64 l)).setCell ⟨Z10x1.heap.size, 1, none⟩ (.int .i64 r)).heap.size := by simpa [World.setCell] using ng
            replace nX : w.heap.size < ((Z10x8.setCell ⟨Z10x1.heap.size, 0, none⟩ (.int .i64 l)).setCell ⟨Z10x1.heap.size, 1, none⟩ (.int .i64 r)).heap.size := by simpa [World.setCell] using nX
            replace nQ : Z10x1.heap.size < ((Z10x8.setCell ⟨Z10x1.heap.size, 0, none⟩ (.int .i64 l)).setCell ⟨Z10x1.heap.size, 1, none⟩ (.int .i64 r)).heap.size := by simpa [World.setCell] using nQ
            replace nP : Z10x6.heap.size < ((Z10x8.setCell ⟨Z10x1.heap.size, 0, none⟩ (.int .i64 l)).setCell ⟨Z10x1.heap.size, 1, none⟩ (.int .i64 r)).heap.size := by simpa [World.setCell] using nP
            replace hL := hL.setCell (p := ⟨Z10x1.heap.size, 0, none⟩) (by show w.heap.size ≤ Z10x1.heap.size; omega) (.int .i64 l)
            replace hL := hL.setCell (p := ⟨Z10x1.heap.size, 1, none⟩) (by show w.heap.size ≤ Z10x1.heap.size; omega) (.int .i64 r)
            replace hQ := Lib.hid (hQ.out.trans (Kept.set (U := (fun b => b = w.heap.size ∨ wS.heap.size ≤ b)) _ (p := ⟨Z10x1.heap.size, 0, none⟩) ((.inr (by dsimp only; have := hL.size; omega))) (.int .i64 l)))
            replace hQ := Lib.hid (hQ.out.trans (Kept.set (U := (fun b => b = w.heap.size ∨ wS.heap.size ≤ b)) _ (p := ⟨Z10x1.heap.size, 1, none⟩) ((.inr (by dsimp only; have := hL.size; omega))) (.int .i64 r)))
            refine hK.out _ _ ⟨q0, X0, X1, trivial⟩ (fun hHeld => ?_)
            clear hK K
            generalize ((Z10x8.setCell ⟨Z10x1.heap.size, 0, none⟩ (.int .i64 l)).setCell ⟨Z10x1.heap.size, 1, none⟩ (.int .i64 r)) = Z10x9 at *
            try simp only [Act.put, List.setIfInBounds_toArray, List.set_cons_zero, List.set_cons_succ]
            refine wpAnyH_done (by kernel_rfl) ?_ _
            have oP : wr.heap.size ≤ Z10x6.heap.size := by have := hL.size; omega
            have oQ : wr.heap.size ≤ Z10x1.heap.size := by have := hL.size; omega
            have hfin := And.intro P0 (And.intro P1 (And.intro Q0 (And.intro Q1 (And.intro nP (And.intro nQ (And.intro X0 (And.intro X1 (And.intro fX0 (And.intro fX1 (And.intro nX (And.intro oP (And.intro oQ (And.intro q0 (And.intro ng (And.intro HO (And.intro hQ hL))))))))))))))))
            clear P0 P1 Q0 Q1 nP nQ X0 X1 fX0 fX1 nX q0 ng HO hL hQ hHeld oP oQ
            revert hfin
            generalize Z10x9 = w9
            generalize Z10x6.heap.size = bP
            generalize Z10x1.heap.size = bQ
            intro hfin
            exact key bP bQ w9 hfin
        · go_simp
          have hb := (Below.refl wd10.heap.size wd10).alloc (Nat.le_refl _) (Obj.cells #[.int .i64 0, .int .i64 0] 28)
          have szZ10x10 := hL.size
          have ord10ng := ng
          have ord10nX := nX
          replace q0 := cell_next hb ng q0
          replace X0 := cell_next hb nX X0
          replace X1 := cell_next hb nX X1
          replace fX0 := frozen_next hb nX fX0
          replace fX1 := frozen_next hb nX fX1
          replace ng := Nat.lt_of_lt_of_le ng hb.size
          replace nX := Nat.lt_of_lt_of_le nX hb.size
          replace hL := hL.trans (hb.mono (Nat.le_trans hBW hL.size))
          replace hQ := Lib.hid (hQ.out.trans (Kept.of_below' hb ()))
          replace HO := Lib.hid (own_below HO.out hb)
          have Pf0 : (wd10.alloc (Obj.cells #[.int .i64 0, .int .i64 0] 28)).frozen? ⟨wd10.heap.size, 0, none⟩ = false := by simp [go_sem]
          have Pf1 : (wd10.alloc (Obj.cells #[.int .i64 0, .int .i64 0] 28)).frozen? ⟨wd10.heap.size, 1, none⟩ = false := by simp [go_sem]
          have P0 : (wd10.alloc (Obj.cells #[.int .i64 0, .int .i64 0] 28)).cell? ⟨wd10.heap.size, 0, none⟩ = some (.int .i64 0) := cell_new _ _ _ 0
          have P1 : (wd10.alloc (Obj.cells #[.int .i64 0, .int .i64 0] 28)).cell? ⟨wd10.heap.size, 1, none⟩ = some (.int .i64 0) := cell_new _ _ _ 1
          have nP : wd10.heap.size < (wd10.alloc (Obj.cells #[.int .i64 0, .int .i64 0] 28)).heap.size := by simp
          refine hK.out _ _ ⟨q0, X0, X1, trivial⟩ (fun hHeld => ?_)
          clear hK K hb
          generalize wd10.alloc (Obj.cells #[.int .i64 0, .int .i64 0] 28) = Z10x10 at *
          try simp only [Act.put, List.setIfInBounds_toArray, List.set_cons_zero, List.set_cons_succ]
          refine wpAnyH_ready (rs := [5, 10]) (by kernel_rfl) (by simp) ?_
          refine AllReadyH.cons rfl (fun K hK => ?_) (AllReadyH.cons rfl (fun K hK => ?_) AllReadyH.nil)
          · go_simp
            refine (CD.out _).mono ?_
            rintro e Z10x11 ⟨rfl, hb⟩
            replace q0 := cell_next hb ng q0
            replace X0 := cell_next hb nX X0
            replace X1 := cell_next hb nX X1
            replace fX0 := frozen_next hb nX fX0
            replace fX1 := frozen_next hb nX fX1
            replace Pf0 := frozen_next hb nP Pf0
            replace Pf1 := frozen_next hb nP Pf1
            replace P0 := cell_next hb nP P0
            replace P1 := cell_next hb nP P1
            replace ng := Nat.lt_of_lt_of_le ng hb.size
            replace nX := Nat.lt_of_lt_of_le nX hb.size
            replace nP := Nat.lt_of_lt_of_le nP hb.size
            replace hL := hL.trans (hb.mono (Nat.le_trans hBW hL.size))
            replace hQ := Lib.hid (hQ.out.trans (Kept.of_below' hb ()))
            replace HO := Lib.hid (own_below HO.out hb)
            refine hK.out _ _ ⟨q0, X0, X1, trivial⟩ (fun hHeld => ?_)
            clear hK K hb
            try simp only [Act.put, List.setIfInBounds_toArray, List.set_cons_zero, List.set_cons_succ]
            refine take_slot (i := 6) (d := 35) (v := ?_) rfl rfl (by kernel_rfl) (by kernel_rfl) (by kernel_rfl) (fun _ _ _ h => h) (Or.inl ⟨by rfl, ?_⟩) (by assumption) ?_
            rotate_left 1
            focus (intro wS hSw; (try dsimp only at hSw); go_simp; try with_reducible rfl)
            try simp only [List.setIfInBounds_toArray, List.set_cons_zero, List.set_cons_succ]
            refine take_slot (i := 7) (d := 42) (v := ?_) rfl rfl (by kernel_rfl) (by kernel_rfl) (by kernel_rfl) (fun _ _ _ h => h) (Or.inl ⟨by rfl, ?_⟩) (by assumption) ?_
            rotate_left 1
            focus (intro wS hSw; (try dsimp only at hSw); go_simp; try with_reducible rfl)
            try simp only [List.setIfInBounds_toArray, List.set_cons_zero, List.set_cons_succ]
            refine take_slot (i := 8) (d := 43) (v := ?_) rfl rfl (by kernel_rfl) (by kernel_rfl) (by kernel_rfl) (fun _ _ _ h => h) (Or.inl ⟨by rfl, ?_⟩) (by assumption) ?_
            rotate_left 1
            focus (intro wS hSw; (try dsimp only at hSw); go_simp; try with_reducible rfl)
            try simp only [List.setIfInBounds_toArray, List.set_cons_zero, List.set_cons_succ]
            refine wpAnyH_ready (rs := [10]) (by kernel_rfl) (by simp) ?_
            refine AllReadyH.cons rfl (fun K hK => ?_) AllReadyH.nil
            go_simp
            have hb := (Below.refl Z10x11.heap.size Z10x11).alloc (Nat.le_refl _) (Obj.cells #[.int .i64 0, .int .i64 0] 28)
            have szZ10x12 := hL.size
            have ord12ng := ng
            have ord12nX := nX
            have ord12nP := nP
            replace q0 := cell_next hb ng q0
            replace X0 := cell_next hb nX X0
            replace X1 := cell_next hb nX X1
            replace fX0 := frozen_next hb nX fX0
            replace fX1 := frozen_next hb nX fX1
            replace Pf0 := frozen_next hb nP Pf0
            replace Pf1 := frozen_next hb nP Pf1
            replace P0 := cell_next hb nP P0
            replace P1 := cell_next hb nP P1
            replace ng := Nat.lt_of_lt_of_le ng hb.size
            replace nX := Nat.lt_of_lt_of_le nX hb.size
            replace nP := Nat.lt_of_lt_of_le nP hb.size
            replace hL := hL.trans (hb.mono (Nat.le_trans hBW hL.size))
            replace hQ := Lib.hid (hQ.out.trans (Kept.of_below' hb ()))
            replace HO := Lib.hid (own_below HO.out hb)
            have Qf0 : (Z10x11.alloc (Obj.cells #[.int .i64 0, .int .i64 0] 28)).frozen? ⟨Z10x11.heap.size, 0, none⟩ = false := by simp [go_sem]
            have Qf1 : (Z10x11.alloc (Obj.cells #[.int .i64 0, .int .i64 0] 28)).frozen? ⟨Z10x11.heap.size, 1, none⟩ = false := by simp [go_sem]
            have Q0 : (Z10x11.alloc (Obj.cells #[.int .i64 0, .int .i64 0] 28)).cell? ⟨Z10x11.heap.size, 0, none⟩ = some (.int .i64 0) := cell_new _ _ _ 0
            have Q1 : (Z10x11.alloc (Obj.cells #[.int .i64 0, .int .i64 0] 28)).cell? ⟨Z10x11.heap.size, 1, none⟩ = some (.int .i64 0) := cell_new _ _ _ 1
            have nQ : Z10x11.heap.size < (Z10x11.alloc (Obj.cells #[.int .i64 0, .int .i64 0] 28)).heap.size := by simp
            refine hK.out _ _ ⟨q0, X0, X1, trivial⟩ (fun hHeld => ?_)
            clear hK K hb
            generalize Z10x11.alloc (Obj.cells #[.int .i64 0, .int .i64 0] 28) = Z10x12 at *
            try simp only [Act.put, List.setIfInBounds_toArray, List.set_cons_zero, List.set_cons_succ]
            refine wpAnyH_ready (rs := [11]) (by kernel_rfl) (by simp) ?_
            refine AllReadyH.cons rfl (fun K hK => ?_) AllReadyH.nil
            go_simp
            have hsL := hL.size
            replace HO := Lib.hid (own_set1 (own_set1 HO.out (b := wd10.heap.size) (fun e => by have := hob _ e; omega) 0 (.int .i64 d)) (b := wd10.heap.size) (fun e => by have := hob _ e; omega) 1 (.int .i64 u))
            replace q0 : ((Z10x12.setCell ⟨wd10.heap.size, 0, none⟩ (.int .i64 d)).setCell ⟨wd10.heap.size, 1, none⟩ (.int .i64 u)).cell? ⟨gm, k, none⟩ = some (.int .i64 m) := ((World.cell?_setCell_other _ _ _ _ (by intro e; injection e with e1 e2; omega)).trans ((World.cell?_setCell_other _ _ _ _ (by intro e; injection e with e1 e2; omega)).trans q0))
            replace X0 : ((Z10x12.setCell ⟨wd10.heap.size, 0, none⟩ (.int .i64 d)).setCell ⟨wd10.heap.size, 1, none⟩ (.int .i64 u)).cell? ⟨w.heap.size, 0, none⟩ = some (.int .i64 x) := ((World.cell?_setCell_other _ _ _ _ (by intro e; injection e with e1 e2; omega)).trans ((World.cell?_setCell_other _ _ _ _ (by intro e; injection e with e1 e2; omega)).trans X0))
            replace X1 : ((Z10x12.setCell ⟨wd10.heap.size, 0, none⟩ (.int .i64 d)).setCell ⟨wd10.heap.size, 1, none⟩ (.int .i64 u)).cell? ⟨w.heap.size, 1, none⟩ = some (.int .i64 y) := ((World.cell?_setCell_other _ _ _ _ (by intro e; injection e with e1 e2; omega)).trans ((World.cell?_setCell_other _ _ _ _ (by intro e; injection e with e1 e2; omega)).trans X1))
            replace fX0 : ((Z10x12.setCell ⟨wd10.heap.size, 0, none⟩ (.int .i64 d)).setCell ⟨wd10.heap.size, 1, none⟩ (.int .i64 u)).frozen? ⟨w.heap.size, 0, none⟩ = false := by simp [go_sem, fX0]
            replace fX1 : ((Z10x12.setCell ⟨wd10.heap.size, 0, none⟩ (.int .i64 d)).setCell ⟨wd10.heap.size, 1, none⟩ (.int .i64 u)).frozen? ⟨w.heap.size, 1, none⟩ = false := by simp [go_sem, fX1]
            replace Pf0 : ((Z10x12.setCell ⟨wd10.heap.size, 0, none⟩ (.int .i64 d)).setCell ⟨wd10.heap.size, 1, none⟩ (.int .i64 u)).frozen? ⟨wd10.heap.size, 0, none⟩ = false := by simp [go_sem, Pf0]
            replace Pf1 : ((Z10x12.setCell ⟨wd10.heap.size, 0, none⟩ (.int .i64 d)).setCell ⟨wd10.heap.size, 1, none⟩ (.int .i64 u)).frozen? ⟨wd10.heap.size, 1, none⟩ = false := by simp [go_sem, Pf1]
            replace P0 : ((Z10x12.setCell ⟨wd10.heap.size, 0, none⟩ (.int .i64 d)).setCell ⟨wd10.heap.size, 1, none⟩ (.int .i64 u)).cell? ⟨wd10.heap.size, 0, none⟩ = some (.int .i64 d) := by simp [go_sem, P0]
            replace P1 : ((Z10x12.setCell ⟨wd10.heap.size, 0, none⟩ (.int .i64 d)).setCell ⟨wd10.heap.size, 1, none⟩ (.int .i64 u)).cell? ⟨wd10.heap.size, 1, none⟩ = some (.int .i64 u) := by simp [go_sem, P1]
            replace Qf0 : ((Z10x12.setCell ⟨wd10.heap.size, 0, none⟩ (.int .i64 d)).setCell ⟨wd10.heap.size, 1, none⟩ (.int .i64 u)).frozen? ⟨Z10x11.heap.size, 0, none⟩ = false := by simp [go_sem, Qf0]
            replace Qf1 : ((Z10x12.setCell ⟨wd10.heap.size, 0, none⟩ (.int .i64 d)).setCell ⟨wd10.heap.size, 1, none⟩ (.int .i64 u)).frozen? ⟨Z10x11.heap.size, 1, none⟩ = false := by simp [go_sem, Qf1]
            replace Q0 : ((Z10x12.setCell ⟨wd10.heap.size, 0, none⟩ (.int .i64 d)).setCell ⟨wd10.heap.size, 1, none⟩ (.int .i64 u)).cell? ⟨Z10x11.heap.size, 0, none⟩ = some (.int .i64 0) := ((World.cell?_setCell_other _ _ _ _ (by intro e; injection e with e1 e2; omega)).trans ((World.cell?_setCell_other _ _ _ _ (by intro e; injection e with e1 e2; omega)).trans Q0))
            replace Q1 : ((Z10x12.setCell ⟨wd10.heap.size, 0, none⟩ (.int .i64 d)).setCell ⟨wd10.heap.size, 1, none⟩ (.int .i64 u)).cell? ⟨Z10x11.heap.size, 1, none⟩ = some (.int .i64 0) := ((World.cell?_setCell_other _ _ _ _ (by intro e; injection e with e1 e2; omega)).trans ((World.cell?_setCell_other _ _ _ _ (by intro e; injection e with e1 e2; omega)).trans Q1))
            replace ng : gm < ((Z10x12.setCell ⟨wd10.heap.size, 0, none⟩ (.int .i64 d)).setCell ⟨wd10.heap.size, 1, none⟩ (.int .i64 u)).heap.size := by simpa [World.setCell] using ng
            replace nX : w.heap.size < ((Z10x12.setCell ⟨wd10.heap.size, 0, none⟩ (.int .i64 d)).setCell ⟨wd10.heap.size, 1, none⟩ (.int .i64 u)).heap.size := by simpa [World.setCell] using nX
            replace nP : wd10.heap.size < ((Z10x12.setCell ⟨wd10.heap.size, 0, none⟩ (.int .i64 d)).setCell ⟨wd10.heap.size, 1, none⟩ (.int .i64 u)).heap.size := by simpa [World.setCell] using nP
            replace nQ : Z10x11.heap.size < ((Z10x12.setCell ⟨wd10.heap.size, 0, none⟩ (.int .i64 d)).setCell ⟨wd10.heap.size, 1, none⟩ (.int .i64 u)).heap.size := by simpa [World.setCell] using nQ
            replace hL := hL.setCell (p := ⟨wd10.heap.size, 0, none⟩) (by show w.heap.size ≤ wd10.heap.size; omega) (.int .i64 d)
            replace hL := hL.setCell (p := ⟨wd10.heap.size, 1, none⟩) (by show w.heap.size ≤ wd10.heap.size; omega) (.int .i64 u)
            replace hQ := Lib.hid (hQ.out.trans (Kept.set (U := (fun b => b = w.heap.size ∨ wS.heap.size ≤ b)) _ (p := ⟨wd10.heap.size, 0, none⟩) ((.inr (by dsimp only; have := hL.size; omega))) (.int .i64 d)))
            replace hQ := Lib.hid (hQ.out.trans (Kept.set (U := (fun b => b = w.heap.size ∨ wS.heap.size ≤ b)) _ (p := ⟨wd10.heap.size, 1, none⟩) ((.inr (by dsimp only; have := hL.size; omega))) (.int .i64 u)))
            refine hK.out _ _ ⟨q0, X0, X1, trivial⟩ (fun hHeld => ?_)
            clear hK K
            generalize ((Z10x12.setCell ⟨wd10.heap.size, 0, none⟩ (.int .i64 d)).setCell ⟨wd10.heap.size, 1, none⟩ (.int .i64 u)) = Z10x13 at *
            try simp only [Act.put, List.setIfInBounds_toArray, List.set_cons_zero, List.set_cons_succ]
            refine wpAnyH_ready (rs := [12]) (by kernel_rfl) (by simp) ?_
            refine AllReadyH.cons rfl (fun K hK => ?_) AllReadyH.nil
            go_simp
            have hsL2 := hL.size
            replace HO := Lib.hid (own_set1 (own_set1 HO.out (b := Z10x11.heap.size) (fun e => by have := hob _ e; omega) 0 (.int .i64 l)) (b := Z10x11.heap.size) (fun e => by have := hob _ e; omega) 1 (.int .i64 r))
            replace q0 : ((Z10x13.setCell ⟨Z10x11.heap.size, 0, none⟩ (.int .i64 l)).setCell ⟨Z10x11.heap.size, 1, none⟩ (.int .i64 r)).cell? ⟨gm, k, none⟩ = some (.int .i64 m) := ((World.cell?_setCell_other _ _ _ _ (by intro e; injection e with e1 e2; omega)).trans ((World.cell?_setCell_other _ _ _ _ (by intro e; injection e with e1 e2; omega)).trans q0))
            replace X0 : ((Z10x13.setCell ⟨Z10x11.heap.size, 0, none⟩ (.int .i64 l)).setCell ⟨Z10x11.heap.size, 1, none⟩ (.int .i64 r)).cell? ⟨w.heap.size, 0, none⟩ = some (.int .i64 x) := ((World.cell?_setCell_other _ _ _ _ (by intro e; injection e with e1 e2; omega)).trans ((World.cell?_setCell_other _ _ _ _ (by intro e; injection e with e1 e2; omega)).trans X0))
            replace X1 : ((Z10x13.setCell ⟨Z10x11.heap.size, 0, none⟩ (.int .i64 l)).setCell ⟨Z10x11.heap.size, 1, none⟩ (.int .i64 r)).cell? ⟨w.heap.size, 1, none⟩ = some (.int .i64 y) := ((World.cell?_setCell_other _ _ _ _ (by intro e; injection e with e1 e2; omega)).trans ((World.cell?_setCell_other _ _ _ _ (by intro e; injection e with e1 e2; omega)).trans X1))
            replace fX0 : ((Z10x13.setCell ⟨Z10x11.heap.size, 0, none⟩ (.int .i64 l)).setCell ⟨Z10x11.heap.size, 1, none⟩ (.int .i64 r)).frozen? ⟨w.heap.size, 0, none⟩ = false := by simp [go_sem, fX0]
            replace fX1 : ((Z10x13.setCell ⟨Z10x11.heap.size, 0, none⟩ (.int .i64 l)).setCell ⟨Z10x11.heap.size, 1, none⟩ (.int .i64 r)).frozen? ⟨w.heap.size, 1, none⟩ = false := by simp [go_sem, fX1]
            replace Pf0 : ((Z10x13.setCell ⟨Z10x11.heap.size, 0, none⟩ (.int .i64 l)).setCell ⟨Z10x11.heap.size, 1, none⟩ (.int .i64 r)).frozen? ⟨wd10.heap.size, 0, none⟩ = false := by simp [go_sem, Pf0]
            replace Pf1 : ((Z10x13.setCell ⟨Z10x11.heap.size, 0, none⟩ (.int .i64 l)).setCell ⟨Z10x11.heap.size, 1, none⟩ (.int .i64 r)).frozen? ⟨wd10.heap.size, 1, none⟩ = false := by simp [go_sem, Pf1]
            replace P0 : ((Z10x13.setCell ⟨Z10x11.heap.size, 0, none⟩ (.int .i64 l)).setCell ⟨Z10x11.heap.size, 1, none⟩ (.int .i64 r)).cell? ⟨wd10.heap.size, 0, none⟩ = some (.int .i64 d) := ((World.cell?_setCell_other _ _ _ _ (by intro e; injection e with e1 e2; omega)).trans ((World.cell?_setCell_other _ _ _ _ (by intro e; injection e with e1 e2; omega)).trans P0))
            replace P1 : ((Z10x13.setCell ⟨Z10x11.heap.size, 0, none⟩ (.int .i64 l)).setCell ⟨Z10x11.heap.size, 1, none⟩ (.int .i64 r)).cell? ⟨wd10.heap.size, 1, none⟩ = some (.int .i64 u) := ((World.cell?_setCell_other _ _ _ _ (by intro e; injection e with e1 e2; omega)).trans ((World.cell?_setCell_other _ _ _ _ (by intro e; injection e with e1 e2; omega)).trans P1))
            replace Qf0 : ((Z10x13.setCell ⟨Z10x11.heap.size, 0, none⟩ (.int .i64 l)).setCell ⟨Z10x11.heap.size, 1, none⟩ (.int .i64 r)).frozen? ⟨Z10x11.heap.size, 0, none⟩ = false := by simp [go_sem, Qf0]
            replace Qf1 : ((Z10x13.setCell ⟨Z10x11.heap.size, 0, none⟩ (.int .i64 l)).setCell ⟨Z10x11.heap.size, 1, none⟩ (.int .i64 r)).frozen? ⟨Z10x11.heap.size, 1, none⟩ = false := by simp [go_sem, Qf1]
            replace Q0 : ((Z10x13.setCell ⟨Z10x11.heap.size, 0, none⟩ (.int .i64 l)).setCell ⟨Z10x11.heap.size, 1, none⟩ (.int .i64 r)).cell? ⟨Z10x11.heap.size, 0, none⟩ = some (.int .i64 l) := by simp [go_sem, Q0]
            replace Q1 : ((Z10x13.setCell ⟨Z10x11.heap.size, 0, none⟩ (.int .i64 l)).setCell ⟨Z10x11.heap.size, 1, none⟩ (.int .i64 r)).cell? ⟨Z10x11.heap.size, 1, none⟩ = some (.int .i64 r) := by simp [go_sem, Q1]
            replace ng : gm < ((Z10x13.setCell ⟨Z10x11.heap.size, 0, none⟩ (.int .i64 l)).setCell ⟨Z10x11.heap.size, 1, none⟩ (.int .i64 r)).heap.size := by simpa [World.setCell] using ng
            replace nX : w.heap.size < ((Z10x13.setCell ⟨Z10x11.heap.size, 0, none⟩ (.int .i64 l)).setCell ⟨Z10x11.heap.size, 1, none⟩ (.int .i64 r)).heap.size := by simpa [World.setCell] using nX
            replace nP : wd10.heap.size < ((Z10x13.setCell ⟨Z10x11.heap.size, 0, none⟩ (.int .i64 l)).setCell ⟨Z10x11.heap.size, 1, none⟩ (.int .i64 r)).heap.size := by simpa [World.setCell] using nP
            replace nQ : Z10x11.heap.size < ((Z10x13.setCell ⟨Z10x11.heap.size, 0, none⟩ (.int .i64 l)).setCell ⟨Z10x11.heap.size, 1, none⟩ (.int .i64 r)).heap.size := by simpa [World.setCell] using nQ
            replace hL := hL.setCell (p := ⟨Z10x11.heap.size, 0, none⟩) (by show w.heap.size ≤ Z10x11.heap.size; omega) (.int .i64 l)
            replace hL := hL.setCell (p := ⟨Z10x11.heap.size, 1, none⟩) (by show w.heap.size ≤ Z10x11.heap.size; omega) (.int .i64 r)
            replace hQ := Lib.hid (hQ.out.trans (Kept.set (U := (fun b => b = w.heap.size ∨ wS.heap.size ≤ b)) _ (p := ⟨Z10x11.heap.size, 0, none⟩) ((.inr (by dsimp only; have := hL.size; omega))) (.int .i64 l)))
            replace hQ := Lib.hid (hQ.out.trans (Kept.set (U := (fun b => b = w.heap.size ∨ wS.heap.size ≤ b)) _ (p := ⟨Z10x11.heap.size, 1, none⟩) ((.inr (by dsimp only; have := hL.size; omega))) (.int .i64 r)))
            refine hK.out _ _ ⟨q0, X0, X1, trivial⟩ (fun hHeld => ?_)
            clear hK K
            generalize ((Z10x13.setCell ⟨Z10x11.heap.size, 0, none⟩ (.int .i64 l)).setCell ⟨Z10x11.heap.size, 1, none⟩ (.int .i64 r)) = Z10x14 at *
            try simp only [Act.put, List.setIfInBounds_toArray, List.set_cons_zero, List.set_cons_succ]
            refine wpAnyH_done (by kernel_rfl) ?_ _
            have oP : wr.heap.size ≤ wd10.heap.size := by have := hL.size; omega
            have oQ : wr.heap.size ≤ Z10x11.heap.size := by have := hL.size; omega
            have hfin := And.intro P0 (And.intro P1 (And.intro Q0 (And.intro Q1 (And.intro nP (And.intro nQ (And.intro X0 (And.intro X1 (And.intro fX0 (And.intro fX1 (And.intro nX (And.intro oP (And.intro oQ (And.intro q0 (And.intro ng (And.intro HO (And.intro hQ hL))))))))))))))))
            clear P0 P1 Q0 Q1 nP nQ X0 X1 fX0 fX1 nX q0 ng HO hL hQ hHeld oP oQ
            revert hfin
            generalize Z10x14 = w9
            generalize wd10.heap.size = bP
            generalize Z10x11.heap.size = bQ
            intro hfin
            exact key bP bQ w9 hfin
          · go_simp
            have hb := (Below.refl Z10x10.heap.size Z10x10).alloc (Nat.le_refl _) (Obj.cells #[.int .i64 0, .int .i64 0] 28)
            have szZ10x15 := hL.size
            have ord15ng := ng
            have ord15nX := nX
            have ord15nP := nP
            replace q0 := cell_next hb ng q0
            replace X0 := cell_next hb nX X0
            replace X1 := cell_next hb nX X1
            replace fX0 := frozen_next hb nX fX0
            replace fX1 := frozen_next hb nX fX1
            replace Pf0 := frozen_next hb nP Pf0
            replace Pf1 := frozen_next hb nP Pf1
            replace P0 := cell_next hb nP P0
            replace P1 := cell_next hb nP P1
            replace ng := Nat.lt_of_lt_of_le ng hb.size
            replace nX := Nat.lt_of_lt_of_le nX hb.size
            replace nP := Nat.lt_of_lt_of_le nP hb.size
            replace hL := hL.trans (hb.mono (Nat.le_trans hBW hL.size))
            replace hQ := Lib.hid (hQ.out.trans (Kept.of_below' hb ()))
            replace HO := Lib.hid (own_below HO.out hb)
            have Qf0 : (Z10x10.alloc (Obj.cells #[.int .i64 0, .int .i64 0] 28)).frozen? ⟨Z10x10.heap.size, 0, none⟩ = false := by simp [go_sem]
            have Qf1 : (Z10x10.alloc (Obj.cells #[.int .i64 0, .int .i64 0] 28)).frozen? ⟨Z10x10.heap.size, 1, none⟩ = false := by simp [go_sem]
            have Q0 : (Z10x10.alloc (Obj.cells #[.int .i64 0, .int .i64 0] 28)).cell? ⟨Z10x10.heap.size, 0, none⟩ = some (.int .i64 0) := cell_new _ _ _ 0
            have Q1 : (Z10x10.alloc (Obj.cells #[.int .i64 0, .int .i64 0] 28)).cell? ⟨Z10x10.heap.size, 1, none⟩ = some (.int .i64 0) := cell_new _ _ _ 1
            have nQ : Z10x10.heap.size < (Z10x10.alloc (Obj.cells #[.int .i64 0, .int .i64 0] 28)).heap.size := by simp
            refine hK.out _ _ ⟨q0, X0, X1, trivial⟩ (fun hHeld => ?_)
            clear hK K hb
            generalize Z10x10.alloc (Obj.cells #[.int .i64 0, .int .i64 0] 28) = Z10x15 at *
            try simp only [Act.put, List.setIfInBounds_toArray, List.set_cons_zero, List.set_cons_succ]
            refine wpAnyH_ready (rs := [5]) (by kernel_rfl) (by simp) ?_
            refine AllReadyH.cons rfl (fun K hK => ?_) AllReadyH.nil
            go_simp
            refine (CD.out _).mono ?_
            rintro e Z10x16 ⟨rfl, hb⟩
            replace q0 := cell_next hb ng q0
            replace X0 := cell_next hb nX X0
            replace X1 := cell_next hb nX X1
            replace fX0 := frozen_next hb nX fX0
            replace fX1 := frozen_next hb nX fX1
            replace Pf0 := frozen_next hb nP Pf0
            replace Pf1 := frozen_next hb nP Pf1
            replace P0 := cell_next hb nP P0
            replace P1 := cell_next hb nP P1
            replace Qf0 := frozen_next hb nQ Qf0
            replace Qf1 := frozen_next hb nQ Qf1
            replace Q0 := cell_next hb nQ Q0
            replace Q1 := cell_next hb nQ Q1
            replace ng := Nat.lt_of_lt_of_le ng hb.size
            replace nX := Nat.lt_of_lt_of_le nX hb.size
            replace nP := Nat.lt_of_lt_of_le nP hb.size
            replace nQ := Nat.lt_of_lt_of_le nQ hb.size
            replace hL := hL.trans (hb.mono (Nat.le_trans hBW hL.size))
            replace hQ := Lib.hid (hQ.out.trans (Kept.of_below' hb ()))
            replace HO := Lib.hid (own_below HO.out hb)
            refine hK.out _ _ ⟨q0, X0, X1, trivial⟩ (fun hHeld => ?_)
            clear hK K hb
            try simp only [Act.put, List.setIfInBounds_toArray, List.set_cons_zero, List.set_cons_succ]
            refine take_slot (i := 6) (d := 35) (v := ?_) rfl rfl (by kernel_rfl) (by kernel_rfl) (by kernel_rfl) (fun _ _ _ h => h) (Or.inl ⟨by rfl, ?_⟩) (by assumption) ?_
            rotate_left 1
            focus (intro wS hSw; (try dsimp only at hSw); go_simp; try with_reducible rfl)
            try simp only [List.setIfInBounds_toArray, List.set_cons_zero, List.set_cons_succ]
            refine take_slot (i := 7) (d := 42) (v := ?_) rfl rfl (by kernel_rfl) (by kernel_rfl) (by kernel_rfl) (fun _ _ _ h => h) (Or.inl ⟨by rfl, ?_⟩) (by assumption) ?_
            rotate_left 1
            focus (intro wS hSw; (try dsimp only at hSw); go_simp; try with_reducible rfl)
            try simp only [List.setIfInBounds_toArray, List.set_cons_zero, List.set_cons_succ]
            refine take_slot (i := 8) (d := 43) (v := ?_) rfl rfl (by kernel_rfl) (by kernel_rfl) (by kernel_rfl) (fun _ _ _ h => h) (Or.inl ⟨by rfl, ?_⟩) (by assumption) ?_
            rotate_left 1
            focus (intro wS hSw; (try dsimp only at hSw); go_simp; try with_reducible rfl)
            try simp only [List.setIfInBounds_toArray, List.set_cons_zero, List.set_cons_succ]
            refine wpAnyH_ready (rs := [11]) (by kernel_rfl) (by simp) ?_
            refine AllReadyH.cons rfl (fun K hK => ?_) AllReadyH.nil
            go_simp
            have hsL := hL.size
            replace HO := Lib.hid (own_set1 (own_set1 HO.out (b := wd10.heap.size) (fun e => by have := hob _ e; omega) 0 (.int .i64 d)) (b := wd10.heap.size) (fun e => by have := hob _ e; omega) 1 (.int .i64 u))
            replace q0 : ((Z10x16.setCell ⟨wd10.heap.size, 0, none⟩ (.int .i64 d)).setCell ⟨wd10.heap.size, 1, none⟩ (.int .i64 u)).cell? ⟨gm, k, none⟩ = some (.int .i64 m) := ((World.cell?_setCell_other _ _ _ _ (by intro e; injection e with e1 e2; omega)).trans ((World.cell?_setCell_other _ _ _ _ (by intro e; injection e with e1 e2; omega)).trans q0))
            replace X0 : ((Z10x16.setCell ⟨wd10.heap.size, 0, none⟩ (.int .i64 d)).setCell ⟨wd10.heap.size, 1, none⟩ (.int .i64 u)).cell? ⟨w.heap.size, 0, none⟩ = some (.int .i64 x) := ((World.cell?_setCell_other _ _ _ _ (by intro e; injection e with e1 e2; omega)).trans ((World.cell?_setCell_other _ _ _ _ (by intro e; injection e with e1 e2; omega)).trans X0))
            replace X1 : ((Z10x16.setCell ⟨wd10.heap.size, 0, none⟩ (.int .i64 d)).setCell ⟨wd10.heap.size, 1, none⟩ (.int .i64 u)).cell? ⟨w.heap.size, 1, none⟩ = some (.int .i64 y) := ((World.cell?_setCell_other _ _ _ _ (by intro e; injection e with e1 e2; omega)).trans ((World.cell?_setCell_other _ _ _ _ (by intro e; injection e with e1 e2; omega)).trans X1))
            replace fX0 : ((Z10x16.setCell ⟨wd10.heap.size, 0, none⟩ (.int .i64 d)).setCell ⟨wd10.heap.size, 1, none⟩ (.int .i64 u)).frozen? ⟨w.heap.size, 0, none⟩ = false := by simp [go_sem, fX0]
            replace fX1 : ((Z10x16.setCell ⟨wd10.heap.size, 0, none⟩ (.int .i64 d)).setCell ⟨wd10.heap.size, 1, none⟩ (.int .i64 u)).frozen? ⟨w.heap.size, 1, none⟩ = false := by simp [go_sem, fX1]
            replace Pf0 : ((Z10x16.setCell ⟨wd10.heap.size, 0, none⟩ (.int .i64 d)).setCell ⟨wd10.heap.size, 1, none⟩ (.int .i64 u)).frozen? ⟨wd10.heap.size, 0, none⟩ = false := by simp [go_sem, Pf0]
            replace Pf1 : ((Z10x16.setCell ⟨wd10.heap.size, 0, none⟩ (.int .i64 d)).setCell ⟨wd10.heap.size, 1, none⟩ (.int .i64 u)).frozen? ⟨wd10.heap.size, 1, none⟩ = false := by simp [go_sem, Pf1]
            replace P0 : ((Z10x16.setCell ⟨wd10.heap.size, 0, none⟩ (.int .i64 d)).setCell ⟨wd10.heap.size, 1, none⟩ (.int .i64 u)).cell? ⟨wd10.heap.size, 0, none⟩ = some (.int .i64 d) := by simp [go_sem, P0]
            replace P1 : ((Z10x16.setCell ⟨wd10.heap.size, 0, none⟩ (.int .i64 d)).setCell ⟨wd10.heap.size, 1, none⟩ (.int .i64 u)).cell? ⟨wd10.heap.size, 1, none⟩ = some (.int .i64 u) := by simp [go_sem, P1]
            replace Qf0 : ((Z10x16.setCell ⟨wd10.heap.size, 0, none⟩ (.int .i64 d)).setCell ⟨wd10.heap.size, 1, none⟩ (.int .i64 u)).frozen? ⟨Z10x10.heap.size, 0, none⟩ = false := by simp [go_sem, Qf0]
            replace Qf1 : ((Z10x16.setCell ⟨wd10.heap.size, 0, none⟩ (.int .i64 d)).setCell ⟨wd10.heap.size, 1, none⟩ (.int .i64 u)).frozen? ⟨Z10x10.heap.size, 1, none⟩ = false := by simp [go_sem, Qf1]
            replace Q0 : ((Z10x16.setCell ⟨wd10.heap.size, 0, none⟩ (.int .i64 d)).setCell ⟨wd10.heap.size, 1, none⟩ (.int .i64 u)).cell? ⟨Z10x10.heap.size, 0, none⟩ = some (.int .i64 0) := ((World.cell?_setCell_other _ _ _ _ (by intro e; injection e with e1 e2; omega)).trans ((World.cell?_setCell_other _ _ _ _ (by intro e; injection e with e1 e2; omega)).trans Q0))
            replace Q1 : ((Z10x16.setCell ⟨wd10.heap.size, 0, none⟩ (.int .i64 d)).setCell ⟨wd10.heap.size, 1, none⟩ (.int .i64 u)).cell? ⟨Z10x10.heap.size, 1, none⟩ = some (.int .i64 0) := ((World.cell?_setCell_other _ _ _ _ (by intro e; injection e with e1 e2; omega)).trans ((World.cell?_setCell_other _ _ _ _ (by intro e; injection e with e1 e2; omega)).trans Q1))
            replace ng : gm < ((Z10x16.setCell ⟨wd10.heap.size, 0, none⟩ (.int .i64 d)).setCell ⟨wd10.heap.size, 1, none⟩ (.int .i64 u)).heap.size := by simpa [World.setCell] using ng
            replace nX : w.heap.size < ((Z10x16.setCell ⟨wd10.heap.size, 0, none⟩ (.int .i64 d)).setCell ⟨wd10.heap.size, 1, none⟩ (.int .i64 u)).heap.size := by simpa [World.setCell] using nX
            replace nP : wd10.heap.size < ((Z10x16.setCell ⟨wd10.heap.size, 0, none⟩ (.int .i64 d)).setCell ⟨wd10.heap.size, 1, none⟩ (.int .i64 u)).heap.size := by simpa [World.setCell] using nP
            replace nQ : Z10x10.heap.size < ((Z10x16.setCell ⟨wd10.heap.size, 0, none⟩ (.int .i64 d)).setCell ⟨wd10.heap.size, 1, none⟩ (.int .i64 u)).heap.size := by simpa [World.setCell] using nQ
            replace hL := hL.setCell (p := ⟨wd10.heap.size, 0, none⟩) (by show w.heap.size ≤ wd10.heap.size; omega) (.int .i64 d)
            replace hL := hL.setCell (p := ⟨wd10.heap.size, 1, none⟩) (by show w.heap.size ≤ wd10.heap.size; omega) (.int .i64 u)
            replace hQ := Lib.hid (hQ.out.trans (Kept.set (U := (fun b => b = w.heap.size ∨ wS.heap.size ≤ b)) _ (p := ⟨wd10.heap.size, 0, none⟩) ((.inr (by dsimp only; have := hL.size; omega))) (.int .i64 d)))
            replace hQ := Lib.hid (hQ.out.trans (Kept.set (U := (fun b => b = w.heap.size ∨ wS.heap.size ≤ b)) _ (p := ⟨wd10.heap.size, 1, none⟩) ((.inr (by dsimp only; have := hL.size; omega))) (.int .i64 u)))
            refine hK.out _ _ ⟨q0, X0, X1, trivial⟩ (fun hHeld => ?_)
            clear hK K
            generalize ((Z10x16.setCell ⟨wd10.heap.size, 0, none⟩ (.int .i64 d)).setCell ⟨wd10.heap.size, 1, none⟩ (.int .i64 u)) = Z10x17 at *
            try simp only [Act.put, List.setIfInBounds_toArray, List.set_cons_zero, List.set_cons_succ]
            refine wpAnyH_ready (rs := [12]) (by kernel_rfl) (by simp) ?_
            refine AllReadyH.cons rfl (fun K hK => ?_) AllReadyH.nil
            go_simp
            have hsL2 := hL.size
            replace HO := Lib.hid (own_set1 (own_set1 HO.out (b := Z10x10.heap.size) (fun e => by have := hob _ e; omega) 0 (.int .i64 l)) (b := Z10x10.heap.size) (fun e => by have := hob _ e; omega) 1 (.int .i64 r))
            replace q0 : ((Z10x17.setCell ⟨Z10x10.heap.size, 0, none⟩ (.int .i64 l)).setCell ⟨Z10x10.heap.size, 1, none⟩ (.int .i64 r)).cell? ⟨gm, k, none⟩ = some (.int .i64 m) := ((World.cell?_setCell_other _ _ _ _ (by intro e; injection e with e1 e2; omega)).trans ((World.cell?_setCell_other _ _ _ _ (by intro e; injection e with e1 e2; omega)).trans q0))
            replace X0 : ((Z10x17.setCell ⟨Z10x10.heap.size, 0, none⟩ (.int .i64 l)).setCell ⟨Z10x10.heap.size, 1, none⟩ (.int .i64 r)).cell? ⟨w.heap.size, 0, none⟩ = some (.int .i64 x) := ((World.cell?_setCell_other _ _ _ _ (by intro e; injection e with e1 e2; omega)).trans ((World.cell?_setCell_other _ _ _ _ (by intro e; injection e with e1 e2; omega)).trans X0))
            replace X1 : ((Z10x17.setCell ⟨Z10x10.heap.size, 0, none⟩ (.int .i64 l)).setCell ⟨Z10x10.heap.size, 1, none⟩ (.int .i64 r)).cell? ⟨w.heap.size, 1, none⟩ = some (.int .i64 y) := ((World.cell?_setCell_other _ _ _ _ (by intro e; injection e with e1 e2; omega)).trans ((World.cell?_setCell_other _ _ _ _ (by intro e; injection e with e1 e2; omega)).trans X1))
            replace fX0 : ((Z10x17.setCell ⟨Z10x10.heap.size, 0, none⟩ (.int .i64 l)).setCell ⟨Z10x10.heap.size, 1, none⟩ (.int .i64 r)).frozen? ⟨w.heap.size, 0, none⟩ = false := by simp [go_sem, fX0]
            replace fX1 : ((Z10x17.setCell ⟨Z10x10.heap.size, 0, none⟩ (.int .i64 l)).setCell ⟨Z10x10.heap.size, 1, none⟩ (.int .i64 r)).frozen? ⟨w.heap.size, 1, none⟩ = false := by simp [go_sem, fX1]
            replace Pf0 : ((Z10x17.setCell ⟨Z10x10.heap.size, 0, none⟩ (.int .i64 l)).setCell ⟨Z10x10.heap.size, 1, none⟩ (.int .i64 r)).frozen? ⟨wd10.heap.size, 0, none⟩ = false := by simp [go_sem, Pf0]
            replace Pf1 : ((Z10x17.setCell ⟨Z10x10.heap.size, 0, none⟩ (.int .i64 l)).setCell ⟨Z10x10.heap.size, 1, none⟩ (.int .i64 r)).frozen? ⟨wd10.heap.size, 1, none⟩ = false := by simp [go_sem, Pf1]
            replace P0 : ((Z10x17.setCell ⟨Z10x10.heap.size, 0, none⟩ (.int .i64 l)).setCell ⟨Z10x10.heap.size, 1, none⟩ (.int .i64 r)).cell? ⟨wd10.heap.size, 0, none⟩ = some (.int .i64 d) := ((World.cell?_setCell_other _ _ _ _ (by intro e; injection e with e1 e2; omega)).trans ((World.cell?_setCell_other _ _ _ _ (by intro e; injection e with e1 e2; omega)).trans P0))
            replace P1 : ((Z10x17.setCell ⟨Z10x10.heap.size, 0, none⟩ (.int .i64 l)).setCell ⟨Z10x10.heap.size, 1, none⟩ (.int .i64 r)).cell? ⟨wd10.heap.size, 1, none⟩ = some (.int .i64 u) := ((World.cell?_setCell_other _ _ _ _ (by intro e; injection e with e1 e2; omega)).trans ((World.cell?_setCell_other _ _ _ _ (by intro e; injection e with e1 e2; omega)).trans P1))
            replace Qf0 : ((Z10x17.setCell ⟨Z10x10.heap.size, 0, none⟩ (.int .i64 l)).setCell ⟨Z10x10.heap.size, 1, none⟩ (.int .i64 r)).frozen? ⟨Z10x10.heap.size, 0, none⟩ = false := by simp [go_sem, Qf0]
            replace Qf1 : ((Z10x17.setCell ⟨Z10x10.heap.size, 0, none⟩ (.int .i64 l)).setCell ⟨Z10x10.heap.size, 1, none⟩ (.int .i64 r)).frozen? ⟨Z10x10.heap.size, 1, none⟩ = false := by simp [go_sem, Qf1]
            replace Q0 : ((Z10x17.setCell ⟨Z10x10.heap.size, 0, none⟩ (.int .i64 l)).setCell ⟨Z10x10.heap.size, 1, none⟩ (.int .i64 r)).cell? ⟨Z10x10.heap.size, 0, none⟩ = some (.int .i64 l) := by simp [go_sem, Q0]
            replace Q1 : ((Z10x17.setCell ⟨Z10x10.heap.size, 0, none⟩ (.int .i64 l)).setCell ⟨Z10x10.heap.size, 1, none⟩ (.int .i64 r)).cell? ⟨Z10x10.heap.size, 1, none⟩ = some (.int .i64 r) := by simp [go_sem, Q1]
            replace ng : gm < ((Z10x17.setCell ⟨Z10x10.heap.size, 0, none⟩ (.int .i64 l)).setCell ⟨Z10x10.heap.size, 1, none⟩ (.int .i64 r)).heap.size := by simpa [World.setCell] using ng
            replace nX : w.heap.size < ((Z10x17.setCell ⟨Z10x10.heap.size, 0, none⟩ (.int .i64 l)).setCell ⟨Z10x10.heap.size, 1, none⟩ (.int .i64 r)).heap.size := by simpa [World.setCell] using nX
            replace nP : wd10.heap.size < ((Z10x17.setCell ⟨Z10x10.heap.size, 0, none⟩ (.int .i64 l)).setCell ⟨Z10x10.heap.size, 1, none⟩ (.int .i64 r)).heap.size := by simpa [World.setCell] using nP
            replace nQ : Z10x10.heap.size < ((Z10x17.setCell ⟨Z10x10.heap.size, 0, none⟩ (.int .i64 l)).setCell ⟨Z10x10.heap.size, 1, none⟩ (.int .i64 r)).heap.size := by simpa [World.setCell] using nQ
            replace hL := hL.setCell (p := ⟨Z10x10.heap.size, 0, none⟩) (by show w.heap.size ≤ Z10x10.heap.size; omega) (.int .i64 l)
            replace hL := hL.setCell (p := ⟨Z10x10.heap.size, 1, none⟩) (by show w.heap.size ≤ Z10x10.heap.size; omega) (.int .i64 r)
            replace hQ := Lib.hid (hQ.out.trans (Kept.set (U := (fun b => b = w.heap.size ∨ wS.heap.size ≤ b)) _ (p := ⟨Z10x10.heap.size, 0, none⟩) ((.inr (by dsimp only; have := hL.size; omega))) (.int .i64 l)))
            replace hQ := Lib.hid (hQ.out.trans (Kept.set (U := (fun b => b = w.heap.size ∨ wS.heap.size ≤ b)) _ (p := ⟨Z10x10.heap.size, 1, none⟩) ((.inr (by dsimp only; have := hL.size; omega))) (.int .i64 r)))
            refine hK.out _ _ ⟨q0, X0, X1, trivial⟩ (fun hHeld => ?_)
            clear hK K
            generalize ((Z10x17.setCell ⟨Z10x10.heap.size, 0, none⟩ (.int .i64 l)).setCell ⟨Z10x10.heap.size, 1, none⟩ (.int .i64 r)) = Z10x18 at *
            try simp only [Act.put, List.setIfInBounds_toArray, List.set_cons_zero, List.set_cons_succ]
            refine wpAnyH_done (by kernel_rfl) ?_ _
            have oP : wr.heap.size ≤ wd10.heap.size := by have := hL.size; omega
            have oQ : wr.heap.size ≤ Z10x10.heap.size := by have := hL.size; omega
            have hfin := And.intro P0 (And.intro P1 (And.intro Q0 (And.intro Q1 (And.intro nP (And.intro nQ (And.intro X0 (And.intro X1 (And.intro fX0 (And.intro fX1 (And.intro nX (And.intro oP (And.intro oQ (And.intro q0 (And.intro ng (And.intro HO (And.intro hQ hL))))))))))))))))
            clear P0 P1 Q0 Q1 nP nQ X0 X1 fX0 fX1 nX q0 ng HO hL hQ hHeld oP oQ
            revert hfin
            generalize Z10x18 = w9
            generalize wd10.heap.size = bP
            generalize Z10x10.heap.size = bQ
            intro hfin
            exact key bP bQ w9 hfin
        · go_simp
          have hb := (Below.refl wd10.heap.size wd10).alloc (Nat.le_refl _) (Obj.cells #[.int .i64 0, .int .i64 0] 28)
          have szZ10x19 := hL.size
          have ord19ng := ng
          have ord19nX := nX
          replace q0 := cell_next hb ng q0
          replace X0 := cell_next hb nX X0
          replace X1 := cell_next hb nX X1
          replace fX0 := frozen_next hb nX fX0
          replace fX1 := frozen_next hb nX fX1
          replace ng := Nat.lt_of_lt_of_le ng hb.size
          replace nX := Nat.lt_of_lt_of_le nX hb.size
          replace hL := hL.trans (hb.mono (Nat.le_trans hBW hL.size))
          replace hQ := Lib.hid (hQ.out.trans (Kept.of_below' hb ()))
          replace HO := Lib.hid (own_below HO.out hb)
          have Qf0 : (wd10.alloc (Obj.cells #[.int .i64 0, .int .i64 0] 28)).frozen? ⟨wd10.heap.size, 0, none⟩ = false := by simp [go_sem]
          have Qf1 : (wd10.alloc (Obj.cells #[.int .i64 0, .int .i64 0] 28)).frozen? ⟨wd10.heap.size, 1, none⟩ = false := by simp [go_sem]
          have Q0 : (wd10.alloc (Obj.cells #[.int .i64 0, .int .i64 0] 28)).cell? ⟨wd10.heap.size, 0, none⟩ = some (.int .i64 0) := cell_new _ _ _ 0
          have Q1 : (wd10.alloc (Obj.cells #[.int .i64 0, .int .i64 0] 28)).cell? ⟨wd10.heap.size, 1, none⟩ = some (.int .i64 0) := cell_new _ _ _ 1
          have nQ : wd10.heap.size < (wd10.alloc (Obj.cells #[.int .i64 0, .int .i64 0] 28)).heap.size := by simp
          refine hK.out _ _ ⟨q0, X0, X1, trivial⟩ (fun hHeld => ?_)
          clear hK K hb
          generalize wd10.alloc (Obj.cells #[.int .i64 0, .int .i64 0] 28) = Z10x19 at *
          try simp only [Act.put, List.setIfInBounds_toArray, List.set_cons_zero, List.set_cons_succ]
          refine wpAnyH_ready (rs := [5, 9]) (by kernel_rfl) (by simp) ?_
          refine AllReadyH.cons rfl (fun K hK => ?_) (AllReadyH.cons rfl (fun K hK => ?_) AllReadyH.nil)
          · go_simp
            refine (CD.out _).mono ?_
            rintro e Z10x20 ⟨rfl, hb⟩
            replace q0 := cell_next hb ng q0
            replace X0 := cell_next hb nX X0
            replace X1 := cell_next hb nX X1
            replace fX0 := frozen_next hb nX fX0
            replace fX1 := frozen_next hb nX fX1
            replace Qf0 := frozen_next hb nQ Qf0
            replace Qf1 := frozen_next hb nQ Qf1
            replace Q0 := cell_next hb nQ Q0
            replace Q1 := cell_next hb nQ Q1
            replace ng := Nat.lt_of_lt_of_le ng hb.size
            replace nX := Nat.lt_of_lt_of_le nX hb.size
            replace nQ := Nat.lt_of_lt_of_le nQ hb.size
            replace hL := hL.trans (hb.mono (Nat.le_trans hBW hL.size))
            replace hQ := Lib.hid (hQ.out.trans (Kept.of_below' hb ()))
            replace HO := Lib.hid (own_below HO.out hb)
            refine hK.out _ _ ⟨q0, X0, X1, trivial⟩ (fun hHeld => ?_)
            clear hK K hb
            try simp only [Act.put, List.setIfInBounds_toArray, List.set_cons_zero, List.set_cons_succ]
            refine take_slot (i := 6) (d := 35) (v := ?_) rfl rfl (by kernel_rfl) (by kernel_rfl) (by kernel_rfl) (fun _ _ _ h => h) (Or.inl ⟨by rfl, ?_⟩) (by assumption) ?_
            rotate_left 1
            focus (intro wS hSw; (try dsimp only at hSw); go_simp; try with_reducible rfl)
            try simp only [List.setIfInBounds_toArray, List.set_cons_zero, List.set_cons_succ]
            refine take_slot (i := 7) (d := 42) (v := ?_) rfl rfl (by kernel_rfl) (by kernel_rfl) (by kernel_rfl) (fun _ _ _ h => h) (Or.inl ⟨by rfl, ?_⟩) (by assumption) ?_
            rotate_left 1
            focus (intro wS hSw; (try dsimp only at hSw); go_simp; try with_reducible rfl)
            try simp only [List.setIfInBounds_toArray, List.set_cons_zero, List.set_cons_succ]
            refine take_slot (i := 8) (d := 43) (v := ?_) rfl rfl (by kernel_rfl) (by kernel_rfl) (by kernel_rfl) (fun _ _ _ h => h) (Or.inl ⟨by rfl, ?_⟩) (by assumption) ?_
            rotate_left 1
            focus (intro wS hSw; (try dsimp only at hSw); go_simp; try with_reducible rfl)
            try simp only [List.setIfInBounds_toArray, List.set_cons_zero, List.set_cons_succ]
            refine wpAnyH_ready (rs := [9]) (by kernel_rfl) (by simp) ?_
            refine AllReadyH.cons rfl (fun K hK => ?_) AllReadyH.nil
            go_simp
            have hb := (Below.refl Z10x20.heap.size Z10x20).alloc (Nat.le_refl _) (Obj.cells #[.int .i64 0, .int .i64 0] 28)
            have szZ10x21 := hL.size
            have ord21ng := ng
            have ord21nX := nX
            have ord21nQ := nQ
            replace q0 := cell_next hb ng q0
            replace X0 := cell_next hb nX X0
            replace X1 := cell_next hb nX X1
            replace fX0 := frozen_next hb nX fX0
            replace fX1 := frozen_next hb nX fX1
            replace Qf0 := frozen_next hb nQ Qf0
            replace Qf1 := frozen_next hb nQ Qf1
            replace Q0 := cell_next hb nQ Q0
            replace Q1 := cell_next hb nQ Q1
            replace ng := Nat.lt_of_lt_of_le ng hb.size
            replace nX := Nat.lt_of_lt_of_le nX hb.size
            replace nQ := Nat.lt_of_lt_of_le nQ hb.size
            replace hL := hL.trans (hb.mono (Nat.le_trans hBW hL.size))
            replace hQ := Lib.hid (hQ.out.trans (Kept.of_below' hb ()))
            replace HO := Lib.hid (own_below HO.out hb)
            have Pf0 : (Z10x20.alloc (Obj.cells #[.int .i64 0, .int .i64 0] 28)).frozen? ⟨Z10x20.heap.size, 0, none⟩ = false := by simp [go_sem]
            have Pf1 : (Z10x20.alloc (Obj.cells #[.int .i64 0, .int .i64 0] 28)).frozen? ⟨Z10x20.heap.size, 1, none⟩ = false := by simp [go_sem]
            have P0 : (Z10x20.alloc (Obj.cells #[.int .i64 0, .int .i64 0] 28)).cell? ⟨Z10x20.heap.size, 0, none⟩ = some (.int .i64 0) := cell_new _ _ _ 0
            have P1 : (Z10x20.alloc (Obj.cells #[.int .i64 0, .int .i64 0] 28)).cell? ⟨Z10x20.heap.size, 1, none⟩ = some (.int .i64 0) := cell_new _ _ _ 1
            have nP : Z10x20.heap.size < (Z10x20.alloc (Obj.cells #[.int .i64 0, .int .i64 0] 28)).heap.size := by simp
            refine hK.out _ _ ⟨q0, X0, X1, trivial⟩ (fun hHeld => ?_)
            clear hK K hb
            generalize Z10x20.alloc (Obj.cells #[.int .i64 0, .int .i64 0] 28) = Z10x21 at *
            try simp only [Act.put, List.setIfInBounds_toArray, List.set_cons_zero, List.set_cons_succ]
            refine wpAnyH_ready (rs := [11]) (by kernel_rfl) (by simp) ?_
            refine AllReadyH.cons rfl (fun K hK => ?_) AllReadyH.nil
            go_simp
            have hsL := hL.size
            replace HO := Lib.hid (own_set1 (own_set1 HO.out (b := Z10x20.heap.size) (fun e => by have := hob _ e; omega) 0 (.int .i64 d)) (b := Z10x20.heap.size) (fun e => by have := hob _ e; omega) 1 (.int .i64 u))
            replace q0 : ((Z10x21.setCell ⟨Z10x20.heap.size, 0, none⟩ (.int .i64 d)).setCell ⟨Z10x20.heap.size, 1, none⟩ (.int .i64 u)).cell? ⟨gm, k, none⟩ = some (.int .i64 m) := ((World.cell?_setCell_other _ _ _ _ (by intro e; injection e with e1 e2; omega)).trans ((World.cell?_setCell_other _ _ _ _ (by intro e; injection e with e1 e2; omega)).trans q0))
            replace X0 : ((Z10x21.setCell ⟨Z10x20.heap.size, 0, none⟩ (.int .i64 d)).setCell ⟨Z10x20.heap.size, 1, none⟩ (.int .i64 u)).cell? ⟨w.heap.size, 0, none⟩ = some (.int .i64 x) := ((World.cell?_setCell_other _ _ _ _ (by intro e; injection e with e1 e2; omega)).trans ((World.cell?_setCell_other _ _ _ _ (by intro e; injection e with e1 e2; omega)).trans X0))
            replace X1 : ((Z10x21.setCell ⟨Z10x20.heap.size, 0, none⟩ (.int .i64 d)).setCell ⟨Z10x20.heap.size, 1, none⟩ (.int .i64 u)).cell? ⟨w.heap.size, 1, none⟩ = some (.int .i64 y) := ((World.cell?_setCell_other _ _ _ _ (by intro e; injection e with e1 e2; omega)).trans ((World.cell?_setCell_other _ _ _ _ (by intro e; injection e with e1 e2; omega)).trans X1))
            replace fX0 : ((Z10x21.setCell ⟨Z10x20.heap.size, 0, none⟩ (.int .i64 d)).setCell ⟨Z10x20.heap.size, 1, none⟩ (.int .i64 u)).frozen? ⟨w.heap.size, 0, none⟩ = false := by simp [go_sem, fX0]
            replace fX1 : ((Z10x21.setCell ⟨Z10x20.heap.size, 0, none⟩ (.int .i64 d)).setCell ⟨Z10x20.heap.size, 1, none⟩ (.int .i64 u)).frozen? ⟨w.heap.size, 1, none⟩ = false := by simp [go_sem, fX1]
            replace Qf0 : ((Z10x21.setCell ⟨Z10x20.heap.size, 0, none⟩ (.int .i64 d)).setCell ⟨Z10x20.heap.size, 1, none⟩ (.int .i64 u)).frozen? ⟨wd10.heap.size, 0, none⟩ = false := by simp [go_sem, Qf0]
            replace Qf1 : ((Z10x21.setCell ⟨Z10x20.heap.size, 0, none⟩ (.int .i64 d)).setCell ⟨Z10x20.heap.size, 1, none⟩ (.int .i64 u)).frozen? ⟨wd10.heap.size, 1, none⟩ = false := by simp [go_sem, Qf1]
            replace Q0 : ((Z10x21.setCell ⟨Z10x20.heap.size, 0, none⟩ (.int .i64 d)).setCell ⟨Z10x20.heap.size, 1, none⟩ (.int .i64 u)).cell? ⟨wd10.heap.size, 0, none⟩ = some (.int .i64 0) := ((World.cell?_setCell_other _ _ _ _ (by intro e; injection e with e1 e2; omega)).trans ((World.cell?_setCell_other _ _ _ _ (by intro e; injection e with e1 e2; omega)).trans Q0))
            replace Q1 : ((Z10x21.setCell ⟨Z10x20.heap.size, 0, none⟩ (.int .i64 d)).setCell ⟨Z10x20.heap.size, 1, none⟩ (.int .i64 u)).cell? ⟨wd10.heap.size, 1, none⟩ = some (.int .i64 0) := ((World.cell?_setCell_other _ _ _ _ (by intro e; injection e with e1 e2; omega)).trans ((World.cell?_setCell_other _ _ _ _ (by intro e; injection e with e1 e2; omega)).trans Q1))
            replace Pf0 : ((Z10x21.setCell ⟨Z10x20.heap.size, 0, none⟩ (.int .i64 d)).setCell ⟨Z10x20.heap.size, 1, none⟩ (.int .i64 u)).frozen? ⟨Z10x20.heap.size, 0, none⟩ = false := by simp [go_sem, Pf0]
            replace Pf1 : ((Z10x21.setCell ⟨Z10x20.heap.size, 0, none⟩ (.int .i64 d)).setCell ⟨Z10x20.heap.size, 1, none⟩ (.int .i64 u)).frozen? ⟨Z10x20.heap.size, 1, none⟩ = false := by simp [go_sem, Pf1]
            replace P0 : ((Z10x21.setCell ⟨Z10x20.heap.size, 0, none⟩ (.int .i64 d)).setCell ⟨Z10x20.heap.size, 1, none⟩ (.int .i64 u)).cell? ⟨Z10x20.heap.size, 0, none⟩ = some (.int .i64 d) := by simp [go_sem, P0]
            replace P1 : ((Z10x21.setCell ⟨Z10x20.heap.size, 0, none⟩ (.int .i64 d)).setCell ⟨Z10x20.heap.size, 1, none⟩ (.int .i64 u)).cell? ⟨Z10x20.heap.size, 1, none⟩ = some (.int .i64 u) := by simp [go_sem, P1]
            replace ng : gm < ((Z10x21.setCell ⟨Z10x20.heap.size, 0, none⟩ (.int .i64 d)).setCell ⟨Z10x20.heap.size, 1, none⟩ (.int .i64 u)).heap.size := by simpa [World.setCell] using ng
            replace nX : w.heap.size < ((Z10x21.setCell ⟨Z10x20.heap.size, 0, none⟩ (.int .i64 d)).setCell ⟨Z10x20.heap.size, 1, none⟩ (.int .i64 u)).heap.size := by simpa [World.setCell] using nX
            replace nQ : wd10.heap.size < ((Z10x21.setCell ⟨Z10x20.heap.size, 0, none⟩ (.int .i64 d)).setCell ⟨Z10x20.heap.size, 1, none⟩ (.int .i64 u)).heap.size := by simpa [World.setCell] using nQ
            replace nP : Z10x20.heap.size < ((Z10x21.setCell ⟨Z10x20.heap.size, 0, none⟩ (.int .i64 d)).setCell ⟨Z10x20.heap.size, 1, none⟩ (.int .i64 u)).heap.size := by simpa [World.setCell] using nP
            replace hL := hL.setCell (p := ⟨Z10x20.heap.size, 0, none⟩) (by show w.heap.size ≤ Z10x20.heap.size; omega) (.int .i64 d)
            replace hL := hL.setCell (p := ⟨Z10x20.heap.size, 1, none⟩) (by show w.heap.size ≤ Z10x20.heap.size; omega) (.int .i64 u)
            replace hQ := Lib.hid (hQ.out.trans (Kept.set (U := (fun b => b = w.heap.size ∨ wS.heap.size ≤ b)) _ (p := ⟨Z10x20.heap.size, 0, none⟩) ((.inr (by dsimp only; have := hL.size; omega))) (.int .i64 d)))
            replace hQ := Lib.hid (hQ.out.trans (Kept.set (U := (fun b => b = w.heap.size ∨ wS.heap.size ≤ b)) _ (p := ⟨Z10x20.heap.size, 1, none⟩) ((.inr (by dsimp only; have := hL.size; omega))) (.int .i64 u)))
            refine hK.out _ _ ⟨q0, X0, X1, trivial⟩ (fun hHeld => ?_)
            clear hK K
            generalize ((Z10x21.setCell ⟨Z10x20.heap.size, 0, none⟩ (.int .i64 d)).setCell ⟨Z10x20.heap.size, 1, none⟩ (.int .i64 u)) = Z10x22 at *
            try simp only [Act.put, List.setIfInBounds_toArray, List.set_cons_zero, List.set_cons_succ]
            refine wpAnyH_ready (rs := [12]) (by kernel_rfl) (by simp) ?_
            refine AllReadyH.cons rfl (fun K hK => ?_) AllReadyH.nil
            go_simp
            have hsL2 := hL.size
            replace HO := Lib.hid (own_set1 (own_set1 HO.out (b := wd10.heap.size) (fun e => by have := hob _ e; omega) 0 (.int .i64 l)) (b := wd10.heap.size) (fun e => by have := hob _ e; omega) 1 (.int .i64 r))
            replace q0 : ((Z10x22.setCell ⟨wd10.heap.size, 0, none⟩ (.int .i64 l)).setCell ⟨wd10.heap.size, 1, none⟩ (.int .i64 r)).cell? ⟨gm, k, none⟩ = some (.int .i64 m) := ((World.cell?_setCell_other _ _ _ _ (by intro e; injection e with e1 e2; omega)).trans ((World.cell?_setCell_other _ _ _ _ (by intro e; injection e with e1 e2; omega)).trans q0))
            replace X0 : ((Z10x22.setCell ⟨wd10.heap.size, 0, none⟩ (.int .i64 l)).setCell ⟨wd10.heap.size, 1, none⟩ (.int .i64 r)).cell? ⟨w.heap.size, 0, none⟩ = some (.int .i64 x) := ((World.cell?_setCell_other _ _ _ _ (by intro e; injection e with e1 e2; omega)).trans ((World.cell?_setCell_other _ _ _ _ (by intro e; injection e with e1 e2; omega)).trans X0))
            replace X1 : ((Z10x22.setCell ⟨wd10.heap.size, 0, none⟩ (.int .i64 l)).setCell ⟨wd10.heap.size, 1, none⟩ (.int .i64 r)).cell? ⟨w.heap.size, 1, none⟩ = some (.int .i64 y) := ((World.cell?_setCell_other _ _ _ _ (by intro e; injection e with e1 e2; omega)).trans ((World.cell?_setCell_other _ _ _ _ (by intro e; injection e with e1 e2; omega)).trans X1))
            replace fX0 : ((Z10x22.setCell ⟨wd10.heap.size, 0, none⟩ (.int .i64 l)).setCell ⟨wd10.heap.size, 1, none⟩ (.int .i64 r)).frozen? ⟨w.heap.size, 0, none⟩ = false := by simp [go_sem, fX0]
            replace fX1 : ((Z10x22.setCell ⟨wd10.heap.size, 0, none⟩ (.int .i64 l)).setCell ⟨wd10.heap.size, 1, none⟩ (.int .i64 r)).frozen? ⟨w.heap.size, 1, none⟩ = false := by simp [go_sem, fX1]
            replace Qf0 : ((Z10x22.setCell ⟨wd10.heap.size, 0, none⟩ (.int .i64 l)).setCell ⟨wd10.heap.size, 1, none⟩ (.int .i64 r)).frozen? ⟨wd10.heap.size, 0, none⟩ = false := by simp [go_sem, Qf0]
            replace Qf1 : ((Z10x22.setCell ⟨wd10.heap.size, 0, none⟩ (.int .i64 l)).setCell ⟨wd10.heap.size, 1, none⟩ (.int .i64 r)).frozen? ⟨wd10.heap.size, 1, none⟩ = false := by simp [go_sem, Qf1]
            replace Q0 : ((Z10x22.setCell ⟨wd10.heap.size, 0, none⟩ (.int .i64 l)).setCell ⟨wd10.heap.size, 1, none⟩ (.int .i64 r)).cell? ⟨wd10.heap.size, 0, none⟩ = some (.int .i64 l) := by simp [go_sem, Q0]
            replace Q1 : ((Z10x22.setCell ⟨wd10.heap.size, 0, none⟩ (.int .i64 l)).setCell ⟨wd10.heap.size, 1, none⟩ (.int .i64 r)).cell? ⟨wd10.heap.size, 1, none⟩ = some (.int .i64 r) := by simp [go_sem, Q1]
            replace Pf0 : ((Z10x22.setCell ⟨wd10.heap.size, 0, none⟩ (.int .i64 l)).setCell ⟨wd10.heap.size, 1, none⟩ (.int .i64 r)).frozen? ⟨Z10x20.heap.size, 0, none⟩ = false := by simp [go_sem, Pf0]
            replace Pf1 : ((Z10x22.setCell ⟨wd10.heap.size, 0, none⟩ (.int .i64 l)).setCell ⟨wd10.heap.size, 1, none⟩ (.int .i64 r)).frozen? ⟨Z10x20.heap.size, 1, none⟩ = false := by simp [go_sem, Pf1]
            replace P0 : ((Z10x22.setCell ⟨wd10.heap.size, 0, none⟩ (.int .i64 l)).setCell ⟨wd10.heap.size, 1, none⟩ (.int .i64 r)).cell? ⟨Z10x20.heap.size, 0, none⟩ = some (.int .i64 d) := ((World.cell?_setCell_other _ _ _ _ (by intro e; injection e with e1 e2; omega)).trans ((World.cell?_setCell_other _ _ _ _ (by intro e; injection e with e1 e2; omega)).trans P0))
            replace P1 : ((Z10x22.setCell ⟨wd10.heap.size, 0, none⟩ (.int .i64 l)).setCell ⟨wd10.heap.size, 1, none⟩ (.int .i64 r)).cell? ⟨Z10x20.heap.size, 1, none⟩ = some (.int .i64 u) := ((World.cell?_setCell_other _ _ _ _ (by intro e; injection e with e1 e2; omega)).trans ((World.cell?_setCell_other _ _ _ _ (by intro e; injection e with e1 e2; omega)).trans P1))
            replace ng : gm < ((Z10x22.setCell ⟨wd10.heap.size, 0, none⟩ (.int .i64 l)).setCell ⟨wd10.heap.size, 1, none⟩ (.int .i64 r)).heap.size := by simpa [World.setCell] using ng
            replace nX : w.heap.size < ((Z10x22.setCell ⟨wd10.heap.size, 0, none⟩ (.int .i64 l)).setCell ⟨wd10.heap.size, 1, none⟩ (.int .i64 r)).heap.size := by simpa [World.setCell] using nX
            replace nQ : wd10.heap.size < ((Z10x22.setCell ⟨wd10.heap.size, 0, none⟩ (.int .i64 l)).setCell ⟨wd10.heap.size, 1, none⟩ (.int .i64 r)).heap.size := by simpa [World.setCell] using nQ
            replace nP : Z10x20.heap.size < ((Z10x22.setCell ⟨wd10.heap.size, 0, none⟩ (.int .i64 l)).setCell ⟨wd10.heap.size, 1, none⟩ (.int .i64 r)).heap.size := by simpa [World.setCell] using nP
            replace hL := hL.setCell (p := ⟨wd10.heap.size, 0, none⟩) (by show w.heap.size ≤ wd10.heap.size; omega) (.int .i64 l)
            replace hL := hL.setCell (p := ⟨wd10.heap.size, 1, none⟩) (by show w.heap.size ≤ wd10.heap.size; omega) (.int .i64 r)
            replace hQ := Lib.hid (hQ.out.trans (Kept.set (U := (fun b => b = w.heap.size ∨ wS.heap.size ≤ b)) _ (p := ⟨wd10.heap.size, 0, none⟩) ((.inr (by dsimp only; have := hL.size; omega))) (.int .i64 l)))
            replace hQ := Lib.hid (hQ.out.trans (Kept.set (U := (fun b => b = w.heap.size ∨ wS.heap.size ≤ b)) _ (p := ⟨wd10.heap.size, 1, none⟩) ((.inr (by dsimp only; have := hL.size; omega))) (.int .i64 r)))
            refine hK.out _ _ ⟨q0, X0, X1, trivial⟩ (fun hHeld => ?_)
            clear hK K
            generalize ((Z10x22.setCell ⟨wd10.heap.size, 0, none⟩ (.int .i64 l)).setCell ⟨wd10.heap.size, 1, none⟩ (.int .i64 r)) = Z10x23 at *
            try simp only [Act.put, List.setIfInBounds_toArray, List.set_cons_zero, List.set_cons_succ]
            refine wpAnyH_done (by kernel_rfl) ?_ _
            have oP : wr.heap.size ≤ Z10x20.heap.size := by have := hL.size; omega
            have oQ : wr.heap.size ≤ wd10.heap.size := by have := hL.size; omega
            have hfin := And.intro P0 (And.intro P1 (And.intro Q0 (And.intro Q1 (And.intro nP (And.intro nQ (And.intro X0 (And.intro X1 (And.intro fX0 (And.intro fX1 (And.intro nX (And.intro oP (And.intro oQ (And.intro q0 (And.intro ng (And.intro HO (And.intro hQ hL))))))))))))))))
            clear P0 P1 Q0 Q1 nP nQ X0 X1 fX0 fX1 nX q0 ng HO hL hQ hHeld oP oQ
            revert hfin
            generalize Z10x23 = w9
            generalize Z10x20.heap.size = bP
            generalize wd10.heap.size = bQ
            intro hfin
            exact key bP bQ w9 hfin
          · go_simp
            have hb := (Below.refl Z10x19.heap.size Z10x19).alloc (Nat.le_refl _) (Obj.cells #[.int .i64 0, .int .i64 0] 28)
            have szZ10x24 := hL.size
            have ord24ng := ng
            have ord24nX := nX
            have ord24nQ := nQ
            replace q0 := cell_next hb ng q0
            replace X0 := cell_next hb nX X0
            replace X1 := cell_next hb nX X1
            replace fX0 := frozen_next hb nX fX0
            replace fX1 := frozen_next hb nX fX1
            replace Qf0 := frozen_next hb nQ Qf0
            replace Qf1 := frozen_next hb nQ Qf1
            replace Q0 := cell_next hb nQ Q0
            replace Q1 := cell_next hb nQ Q1
            replace ng := Nat.lt_of_lt_of_le ng hb.size
            replace nX := Nat.lt_of_lt_of_le nX hb.size
            replace nQ := Nat.lt_of_lt_of_le nQ hb.size
            replace hL := hL.trans (hb.mono (Nat.le_trans hBW hL.size))
            replace hQ := Lib.hid (hQ.out.trans (Kept.of_below' hb ()))
            replace HO := Lib.hid (own_below HO.out hb)
            have Pf0 : (Z10x19.alloc (Obj.cells #[.int .i64 0, .int .i64 0] 28)).frozen? ⟨Z10x19.heap.size, 0, none⟩ = false := by simp [go_sem]
            have Pf1 : (Z10x19.alloc (Obj.cells #[.int .i64 0, .int .i64 0] 28)).frozen? ⟨Z10x19.heap.size, 1, none⟩ = false := by simp [go_sem]
            have P0 : (Z10x19.alloc (Obj.cells #[.int .i64 0, .int .i64 0] 28)).cell? ⟨Z10x19.heap.size, 0, none⟩ = some (.int .i64 0) := cell_new _ _ _ 0
            have P1 : (Z10x19.alloc (Obj.cells #[.int .i64 0, .int .i64 0] 28)).cell? ⟨Z10x19.heap.size, 1, none⟩ = some (.int .i64 0) := cell_new _ _ _ 1
            have nP : Z10x19.heap.size < (Z10x19.alloc (Obj.cells #[.int .i64 0, .int .i64 0] 28)).heap.size := by simp
            refine hK.out _ _ ⟨q0, X0, X1, trivial⟩ (fun hHeld => ?_)
            clear hK K hb
            generalize Z10x19.alloc (Obj.cells #[.int .i64 0, .int .i64 0] 28) = Z10x24 at *
            try simp only [Act.put, List.setIfInBounds_toArray, List.set_cons_zero, List.set_cons_succ]
            refine wpAnyH_ready (rs := [5]) (by kernel_rfl) (by simp) ?_
            refine AllReadyH.cons rfl (fun K hK => ?_) AllReadyH.nil
            go_simp
            refine (CD.out _).mono ?_
            rintro e Z10x25 ⟨rfl, hb⟩
            replace q0 := cell_next hb ng q0
            replace X0 := cell_next hb nX X0
            replace X1 := cell_next hb nX X1
            replace fX0 := frozen_next hb nX fX0
            replace fX1 := frozen_next hb nX fX1
            replace Qf0 := frozen_next hb nQ Qf0
            replace Qf1 := frozen_next hb nQ Qf1
            replace Q0 := cell_next hb nQ Q0
            replace Q1 := cell_next hb nQ Q1
            replace Pf0 := frozen_next hb nP Pf0
            replace Pf1 := frozen_next hb nP Pf1
            replace P0 := cell_next hb nP P0
            replace P1 := cell_next hb nP P1
            replace ng := Nat.lt_of_lt_of_le ng hb.size
            replace nX := Nat.lt_of_lt_of_le nX hb.size
            replace nQ := Nat.lt_of_lt_of_le nQ hb.size
            replace nP := Nat.lt_of_lt_of_le nP hb.size
            replace hL := hL.trans (hb.mono (Nat.le_trans hBW hL.size))
            replace hQ := Lib.hid (hQ.out.trans (Kept.of_below' hb ()))
            replace HO := Lib.hid (own_below HO.out hb)
            refine hK.out _ _ ⟨q0, X0, X1, trivial⟩ (fun hHeld => ?_)
            clear hK K hb
            try simp only [Act.put, List.setIfInBounds_toArray, List.set_cons_zero, List.set_cons_succ]
            refine take_slot (i := 6) (d := 35) (v := ?_) rfl rfl (by kernel_rfl) (by kernel_rfl) (by kernel_rfl) (fun _ _ _ h => h) (Or.inl ⟨by rfl, ?_⟩) (by assumption) ?_
            rotate_left 1
            focus (intro wS hSw; (try dsimp only at hSw); go_simp; try with_reducible rfl)
            try simp only [List.setIfInBounds_toArray, List.set_cons_zero, List.set_cons_succ]
            refine take_slot (i := 7) (d := 42) (v := ?_) rfl rfl (by kernel_rfl) (by kernel_rfl) (by kernel_rfl) (fun _ _ _ h => h) (Or.inl ⟨by rfl, ?_⟩) (by assumption) ?_
            rotate_left 1
            focus (intro wS hSw; (try dsimp only at hSw); go_simp; try with_reducible rfl)
            try simp only [List.setIfInBounds_toArray, List.set_cons_zero, List.set_cons_succ]
            refine take_slot (i := 8) (d := 43) (v := ?_) rfl rfl (by kernel_rfl) (by kernel_rfl) (by kernel_rfl) (fun _ _ _ h => h) (Or.inl ⟨by rfl, ?_⟩) (by assumption) ?_
            rotate_left 1
            focus (intro wS hSw; (try dsimp only at hSw); go_simp; try with_reducible rfl)
            try simp only [List.setIfInBounds_toArray, List.set_cons_zero, List.set_cons_succ]
            refine wpAnyH_ready (rs := [11]) (by kernel_rfl) (by simp) ?_
            refine AllReadyH.cons rfl (fun K hK => ?_) AllReadyH.nil
            go_simp
            have hsL := hL.size
            replace HO := Lib.hid (own_set1 (own_set1 HO.out (b := Z10x19.heap.size) (fun e => by have := hob _ e; omega) 0 (.int .i64 d)) (b := Z10x19.heap.size) (fun e => by have := hob _ e; omega) 1 (.int .i64 u))
            replace q0 : ((Z10x25.setCell ⟨Z10x19.heap.size, 0, none⟩ (.int .i64 d)).setCell ⟨Z10x19.heap.size, 1, none⟩ (.int .i64 u)).cell? ⟨gm, k, none⟩ = some (.int .i64 m) := ((World.cell?_setCell_other _ _ _ _ (by intro e; injection e with e1 e2; omega)).trans ((World.cell?_setCell_other _ _ _ _ (by intro e; injection e with e1 e2; omega)).trans q0))
            replace X0 : ((Z10x25.setCell ⟨Z10x19.heap.size, 0, none⟩ (.int .i64 d)).setCell ⟨Z10x19.heap.size, 1, none⟩ (.int .i64 u)).cell? ⟨w.heap.size, 0, none⟩ = some (.int .i64 x) := ((World.cell?_setCell_other _ _ _ _ (by intro e; injection e with e1 e2; omega)).trans ((World.cell?_setCell_other _ _ _ _ (by intro e; injection e with e1 e2; omega)).trans X0))
            replace X1 : ((Z10x25.setCell ⟨Z10x19.heap.size, 0, none⟩ (.int .i64 d)).setCell ⟨Z10x19.heap.size, 1, none⟩ (.int .i64 u)).cell? ⟨w.heap.size, 1, none⟩ = some (.int .i64 y) := ((World.cell?_setCell_other _ _ _ _ (by intro e; injection e with e1 e2; omega)).trans ((World.cell?_setCell_other _ _ _ _ (by intro e; injection e with e1 e2; omega)).trans X1))
            replace fX0 : ((Z10x25.setCell ⟨Z10x19.heap.size, 0, none⟩ (.int .i64 d)).setCell ⟨Z10x19.heap.size, 1, none⟩ (.int .i64 u)).frozen? ⟨w.heap.size, 0, none⟩ = false := by simp [go_sem, fX0]
            replace fX1 : ((Z10x25.setCell ⟨Z10x19.heap.size, 0, none⟩ (.int .i64 d)).setCell ⟨Z10x19.heap.size, 1, none⟩ (.int .i64 u)).frozen? ⟨w.heap.size, 1, none⟩ = false := by simp [go_sem, fX1]
            replace Qf0 : ((Z10x25.setCell ⟨Z10x19.heap.size, 0, none⟩ (.int .i64 d)).setCell ⟨Z10x19.heap.size, 1, none⟩ (.int .i64 u)).frozen? ⟨wd10.heap.size, 0, none⟩ = false := by simp [go_sem, Qf0]
            replace Qf1 : ((Z10x25.setCell ⟨Z10x19.heap.size, 0, none⟩ (.int .i64 d)).setCell ⟨Z10x19.heap.size, 1, none⟩ (.int .i64 u)).frozen? ⟨wd10.heap.size, 1, none⟩ = false := by simp [go_sem, Qf1]
            replace Q0 : ((Z10x25.setCell ⟨Z10x19.heap.size, 0, none⟩ (.int .i64 d)).setCell ⟨Z10x19.heap.size, 1, none⟩ (.int .i64 u)).cell? ⟨wd10.heap.size, 0, none⟩ = some (.int .i64 0) := ((World.cell?_setCell_other _ _ _ _ (by intro e; injection e with e1 e2; omega)).trans ((World.cell?_setCell_other _ _ _ _ (by intro e; injection e with e1 e2; omega)).trans Q0))
            replace Q1 : ((Z10x25.setCell ⟨Z10x19.heap.size, 0, none⟩ (.int .i64 d)).setCell ⟨Z10x19.heap.size, 1, none⟩ (.int .i64 u)).cell? ⟨wd10.heap.size, 1, none⟩ = some (.int .i64 0) := ((World.cell?_setCell_other _ _ _ _ (by intro e; injection e with e1 e2; omega)).trans ((World.cell?_setCell_other _ _ _ _ (by intro e; injection e with e1 e2; omega)).trans Q1))
            replace Pf0 : ((Z10x25.setCell ⟨Z10x19.heap.size, 0, none⟩ (.int .i64 d)).setCell ⟨Z10x19.heap.size, 1, none⟩ (.int .i64 u)).frozen? ⟨Z10x19.heap.size, 0, none⟩ = false := by simp [go_sem, Pf0]
            replace Pf1 : ((Z10x25.setCell ⟨Z10x19.heap.size, 0, none⟩ (.int .i64 d)).setCell ⟨Z10x19.heap.size, 1, none⟩ (.int .i64 u)).frozen? ⟨Z10x19.heap.size, 1, none⟩ = false := by simp [go_sem, Pf1]
            replace P0 : ((Z10x25.setCell ⟨Z10x19.heap.size, 0, none⟩ (.int .i64 d)).setCell ⟨Z10x19.heap.size, 1, none⟩ (.int .i64 u)).cell? ⟨Z10x19.heap.size, 0, none⟩ = some (.int .i64 d) := by simp [go_sem, P0]
            replace P1 : ((Z10x25.setCell ⟨Z10x19.heap.size, 0, none⟩ (.int .i64 d)).setCell ⟨Z10x19.heap.size, 1, none⟩ (.int .i64 u)).cell? ⟨Z10x19.heap.size, 1, none⟩ = some (.int .i64 u) := by simp [go_sem, P1]
            replace ng : gm < ((Z10x25.setCell ⟨Z10x19.heap.size, 0, none⟩ (.int .i64 d)).setCell ⟨Z10x19.heap.size, 1, none⟩ (.int .i64 u)).heap.size := by simpa [World.setCell] using ng
            replace nX : w.heap.size < ((Z10x25.setCell ⟨Z10x19.heap.size, 0, none⟩ (.int .i64 d)).setCell ⟨Z10x19.heap.size, 1, none⟩ (.int .i64 u)).heap.size := by simpa [World.setCell] using nX
            replace nQ : wd10.heap.size < ((Z10x25.setCell ⟨Z10x19.heap.size, 0, none⟩ (.int .i64 d)).setCell ⟨Z10x19.heap.size, 1, none⟩ (.int .i64 u)).heap.size := by simpa [World.setCell] using nQ
            replace nP : Z10x19.heap.size < ((Z10x25.setCell ⟨Z10x19.heap.size, 0, none⟩ (.int .i64 d)).setCell ⟨Z10x19.heap.size, 1, none⟩ (.int .i64 u)).heap.size := by simpa [World.setCell] using nP
            replace hL := hL.setCell (p := ⟨Z10x19.heap.size, 0, none⟩) (by show w.heap.size ≤ Z10x19.heap.size; omega) (.int .i64 d)
            replace hL := hL.setCell (p := ⟨Z10x19.heap.size, 1, none⟩) (by show w.heap.size ≤ Z10x19.heap.size; omega) (.int .i64 u)
            replace hQ := Lib.hid (hQ.out.trans (Kept.set (U := (fun b => b = w.heap.size ∨ wS.heap.size ≤ b)) _ (p := ⟨Z10x19.heap.size, 0, none⟩) ((.inr (by dsimp only; have := hL.size; omega))) (.int .i64 d)))
            replace hQ := Lib.hid (hQ.out.trans (Kept.set (U := (fun b => b = w.heap.size ∨ wS.heap.size ≤ b)) _ (p := ⟨Z10x19.heap.size, 1, none⟩) ((.inr (by dsimp only; have := hL.size; omega))) (.int .i64 u)))
            refine hK.out _ _ ⟨q0, X0, X1, trivial⟩ (fun hHeld => ?_)
            clear hK K
            generalize ((Z10x25.setCell ⟨Z10x19.heap.size, 0, none⟩ (.int .i64 d)).setCell ⟨Z10x19.heap.size, 1, none⟩ (.int .i64 u)) = Z10x26 at *
            try simp only [Act.put, List.setIfInBounds_toArray, List.set_cons_zero, List.set_cons_succ]
            refine wpAnyH_ready (rs := [12]) (by kernel_rfl) (by simp) ?_
            refine AllReadyH.cons rfl (fun K hK => ?_) AllReadyH.nil
            go_simp
            have hsL2 := hL.size
            replace HO := Lib.hid (own_set1 (own_set1 HO.out (b := wd10.heap.size) (fun e => by have := hob _ e; omega) 0 (.int .i64 l)) (b := wd10.heap.size) (fun e => by have := hob _ e; omega) 1 (.int .i64 r))
            replace q0 : ((Z10x26.setCell ⟨wd10.heap.size, 0, none⟩ (.int .i64 l)).setCell ⟨wd10.heap.size, 1, none⟩ (.int .i64 r)).cell? ⟨gm, k, none⟩ = some (.int .i64 m) := ((World.cell?_setCell_other _ _ _ _ (by intro e; injection e with e1 e2; omega)).trans ((World.cell?_setCell_other _ _ _ _ (by intro e; injection e with e1 e2; omega)).trans q0))
            replace X0 : ((Z10x26.setCell ⟨wd10.heap.size, 0, none⟩ (.int .i64 l)).setCell ⟨wd10.heap.size, 1, none⟩ (.int .i64 r)).cell? ⟨w.heap.size, 0, none⟩ = some (.int .i64 x) := ((World.cell?_setCell_other _ _ _ _ (by intro e; injection e with e1 e2; omega)).trans ((World.cell?_setCell_other _ _ _ _ (by intro e; injection e with e1 e2; omega)).trans X0))
            replace X1 : ((Z10x26.setCell ⟨wd10.heap.size, 0, none⟩ (.int .i64 l)).setCell ⟨wd10.heap.size, 1, none⟩ (.int .i64 r)).cell? ⟨w.heap.size, 1, none⟩ = some (.int .i64 y) := ((World.cell?_setCell_other _ _ _ _ (by intro e; injection e with e1 e2; omega)).trans ((World.cell?_setCell_other _ _ _ _ (by intro e; injection e with e1 e2; omega)).trans X1))
            replace fX0 : ((Z10x26.setCell ⟨wd10.heap.size, 0, none⟩ (.int .i64 l)).setCell ⟨wd10.heap.size, 1, none⟩ (.int .i64 r)).frozen? ⟨w.heap.size, 0, none⟩ = false := by simp [go_sem, fX0]
            replace fX1 : ((Z10x26.setCell ⟨wd10.heap.size, 0, none⟩ (.int .i64 l)).setCell ⟨wd10.heap.size, 1, none⟩ (.int .i64 r)).frozen? ⟨w.heap.size, 1, none⟩ = false := by simp [go_sem, fX1]
            replace Qf0 : ((Z10x26.setCell ⟨wd10.heap.size, 0, none⟩ (.int .i64 l)).setCell ⟨wd10.heap.size, 1, none⟩ (.int .i64 r)).frozen? ⟨wd10.heap.size, 0, none⟩ = false := by simp [go_sem, Qf0]
            replace Qf1 : ((Z10x26.setCell ⟨wd10.heap.size, 0, none⟩ (.int .i64 l)).setCell ⟨wd10.heap.size, 1, none⟩ (.int .i64 r)).frozen? ⟨wd10.heap.size, 1, none⟩ = false := by simp [go_sem, Qf1]
            replace Q0 : ((Z10x26.setCell ⟨wd10.heap.size, 0, none⟩ (.int .i64 l)).setCell ⟨wd10.heap.size, 1, none⟩ (.int .i64 r)).cell? ⟨wd10.heap.size, 0, none⟩ = some (.int .i64 l) := by simp [go_sem, Q0]
            replace Q1 : ((Z10x26.setCell ⟨wd10.heap.size, 0, none⟩ (.int .i64 l)).setCell ⟨wd10.heap.size, 1, none⟩ (.int .i64 r)).cell? ⟨wd10.heap.size, 1, none⟩ = some (.int .i64 r) := by simp [go_sem, Q1]
            replace Pf0 : ((Z10x26.setCell ⟨wd10.heap.size, 0, none⟩ (.int .i64 l)).setCell ⟨wd10.heap.size, 1, none⟩ (.int .i64 r)).frozen? ⟨Z10x19.heap.size, 0, none⟩ = false := by simp [go_sem, Pf0]
            replace Pf1 : ((Z10x26.setCell ⟨wd10.heap.size, 0, none⟩ (.int .i64 l)).setCell ⟨wd10.heap.size, 1, none⟩ (.int .i64 r)).frozen? ⟨Z10x19.heap.size, 1, none⟩ = false := by simp [go_sem, Pf1]
            replace P0 : ((Z10x26.setCell ⟨wd10.heap.size, 0, none⟩ (.int .i64 l)).setCell ⟨wd10.heap.size, 1, none⟩ (.int .i64 r)).cell? ⟨Z10x19.heap.size, 0, none⟩ = some (.int .i64 d) := ((World.cell?_setCell_other _ _ _ _ (by intro e; injection e with e1 e2; omega)).trans ((World.cell?_setCell_other _ _ _ _ (by intro e; injection e with e1 e2; omega)).trans P0))
            replace P1 : ((Z10x26.setCell ⟨wd10.heap.size, 0, none⟩ (.int .i64 l)).setCell ⟨wd10.heap.size, 1, none⟩ (.int .i64 r)).cell? ⟨Z10x19.heap.size, 1, none⟩ = some (.int .i64 u) := ((World.cell?_setCell_other _ _ _ _ (by intro e; injection e with e1 e2; omega)).trans ((World.cell?_setCell_other _ _ _ _ (by intro e; injection e with e1 e2; omega)).trans P1))
            replace ng : gm < ((Z10x26.setCell ⟨wd10.heap.size, 0, none⟩ (.int .i64 l)).setCell ⟨wd10.heap.size, 1, none⟩ (.int .i64 r)).heap.size := by simpa [World.setCell] using ng
            replace nX : w.heap.size < ((Z10x26.setCell ⟨wd10.heap.size, 0, none⟩ (.int .i64 l)).setCell ⟨wd10.heap.size, 1, none⟩ (.int .i64 r)).heap.size := by simpa [World.setCell] using nX
            replace nQ : wd10.heap.size < ((Z10x26.setCell ⟨wd10.heap.size, 0, none⟩ (.int .i64 l)).setCell ⟨wd10.heap.size, 1, none⟩ (.int .i64 r)).heap.size := by simpa [World.setCell] using nQ
            replace nP : Z10x19.heap.size < ((Z10x26.setCell ⟨wd10.heap.size, 0, none⟩ (.int .i64 l)).setCell ⟨wd10.heap.size, 1, none⟩ (.int .i64 r)).heap.size := by simpa [World.setCell] using nP
            replace hL := hL.setCell (p := ⟨wd10.heap.size, 0, none⟩) (by show w.heap.size ≤ wd10.heap.size; omega) (.int .i64 l)
            replace hL := hL.setCell (p := ⟨wd10.heap.size, 1, none⟩) (by show w.heap.size ≤ wd10.heap.size; omega) (.int .i64 r)
            replace hQ := Lib.hid (hQ.out.trans (Kept.set (U := (fun b => b = w.heap.size ∨ wS.heap.size ≤ b)) _ (p := ⟨wd10.heap.size, 0, none⟩) ((.inr (by dsimp only; have := hL.size; omega))) (.int .i64 l)))
            replace hQ := Lib.hid (hQ.out.trans (Kept.set (U := (fun b => b = w.heap.size ∨ wS.heap.size ≤ b)) _ (p := ⟨wd10.heap.size, 1, none⟩) ((.inr (by dsimp only; have := hL.size; omega))) (.int .i64 r)))
            refine hK.out _ _ ⟨q0, X0, X1, trivial⟩ (fun hHeld => ?_)
            clear hK K
            generalize ((Z10x26.setCell ⟨wd10.heap.size, 0, none⟩ (.int .i64 l)).setCell ⟨wd10.heap.size, 1, none⟩ (.int .i64 r)) = Z10x27 at *
            try simp only [Act.put, List.setIfInBounds_toArray, List.set_cons_zero, List.set_cons_succ]
            refine wpAnyH_done (by kernel_rfl) ?_ _
            have oP : wr.heap.size ≤ Z10x19.heap.size := by have := hL.size; omega
            have oQ : wr.heap.size ≤ wd10.heap.size := by have := hL.size; omega
            have hfin := And.intro P0 (And.intro P1 (And.intro Q0 (And.intro Q1 (And.intro nP (And.intro nQ (And.intro X0 (And.intro X1 (And.intro fX0 (And.intro fX1 (And.intro nX (And.intro oP (And.intro oQ (And.intro q0 (And.intro ng (And.intro HO (And.intro hQ hL))))))))))))))))
            clear P0 P1 Q0 Q1 nP nQ X0 X1 fX0 fX1 nX q0 ng HO hL hQ hHeld oP oQ
            revert hfin
            generalize Z10x27 = w9
            generalize Z10x19.heap.size = bP
            generalize wd10.heap.size = bQ
            intro hfin
            exact key bP bQ w9 hfin
      case key =>
        intro bP bQ w2 hR
        obtain ⟨P0, P1, Q0, Q1, nP, nQ, X0, X1, fX0, fX1, nX, ordP, ordQ, q0, ng, HO, HK, hb2⟩ := hR
        replace hbr := hbr.trans hb2
        have hBW := hbr.size
        obtain ⟨pl, pA, pc, rfl⟩ : ∃ (pl : Nat) (pA : Option Addr) (pc : Nat), u8 = Value.slice pA pl pc := by
          rcases HO.out.2 with ⟨rfl, _⟩ | ⟨g, cap, cur, rfl, _⟩
          · exact ⟨_, _, _, rfl⟩
          · exact ⟨_, _, _, rfl⟩
        have hob2 : ∀ r, (Value.slice pA pl pc).ownBlock = some r → wS.heap.size ≤ r ∧ r < w2.heap.size ∧ r < wr.heap.size := fun r hr => ⟨(HO.out.lt r hr).1, (HO.out.lt r hr).2, (hob r hr).2⟩
        clear hob
        have hob := hob2
        clear hob2
        have hzr2 := hb2.size
        go_wp2_with fail
        refine wp_region_held_drew (S := fun w' => w'.cell? ⟨bP, 0, none⟩ = some (.int .i64 d) ∧ w'.cell? ⟨bP, 1, none⟩ = some (.int .i64 u) ∧ w'.cell? ⟨bQ, 0, none⟩ = some (.int .i64 l) ∧ w'.cell? ⟨bQ, 1, none⟩ = some (.int .i64 r) ∧ True) (by kernel_rfl) ?_ (fun hHeld => ?_)
        focus (exact ⟨P0, P1, Q0, Q1, trivial⟩)
        have hL : Below w.heap.size w2 w2.drew := Below.drew (Below.refl _ _)
        have hQ : Hid (Kept (fun b => b = w.heap.size ∨ wS.heap.size ≤ b) w2 w2.drew) := Lib.hid (Kept.refl _ _)
        replace P0 : w2.drew.cell? ⟨bP, 0, none⟩ = some (.int .i64 d) := P0
        replace P1 : w2.drew.cell? ⟨bP, 1, none⟩ = some (.int .i64 u) := P1
        replace Q0 : w2.drew.cell? ⟨bQ, 0, none⟩ = some (.int .i64 l) := Q0
        replace Q1 : w2.drew.cell? ⟨bQ, 1, none⟩ = some (.int .i64 r) := Q1
        replace q0 : w2.drew.cell? ⟨gm, k, none⟩ = some (.int .i64 m) := q0
        replace X0 : w2.drew.cell? ⟨w.heap.size, 0, none⟩ = some (.int .i64 x) := X0
        replace X1 : w2.drew.cell? ⟨w.heap.size, 1, none⟩ = some (.int .i64 y) := X1
        replace fX0 : w2.drew.frozen? ⟨w.heap.size, 0, none⟩ = false := fX0
        replace fX1 : w2.drew.frozen? ⟨w.heap.size, 1, none⟩ = false := fX1
        replace nP : bP < w2.drew.heap.size := nP
        replace nQ : bQ < w2.drew.heap.size := nQ
        replace ng : gm < w2.drew.heap.size := ng
        replace nX : w.heap.size < w2.drew.heap.size := nX
        replace HO : Hid (w2.drew.ownsRow wS.heap.size 28 2 (.slice pA pl pc) k (flat ps)) := Lib.hid HO.out
        generalize hWd : w2.drew = wd11 at hHeld hL hQ P0 P1 Q0 Q1 q0 X0 X1 fX0 fX1 nP nQ ng nX HO ⊢
        clear hWd
        refine take_slot (i := 0) (d := 44) (v := ?_) rfl rfl (by kernel_rfl) (by kernel_rfl) (by kernel_rfl) (fun _ _ _ h => h) (Or.inl ⟨by rfl, ?_⟩) (by assumption) ?_
        rotate_left 1
        focus (intro wS hSw; (try dsimp only at hSw); go_simp; try with_reducible rfl)
        try simp only [List.setIfInBounds_toArray, List.set_cons_zero, List.set_cons_succ]
        refine take_slot (i := 1) (d := 45) (v := ?_) rfl rfl (by kernel_rfl) (by kernel_rfl) (by kernel_rfl) (fun _ _ _ h => h) (Or.inl ⟨by rfl, ?_⟩) (by assumption) ?_
        rotate_left 1
        focus (intro wS hSw; (try dsimp only at hSw); go_simp; try with_reducible rfl)
        try simp only [List.setIfInBounds_toArray, List.set_cons_zero, List.set_cons_succ]
        refine take_slot (i := 4) (d := 48) (v := ?_) rfl rfl (by kernel_rfl) (by kernel_rfl) (by kernel_rfl) (fun _ _ _ h => h) (Or.inl ⟨by rfl, ?_⟩) (by assumption) ?_
        rotate_left 1
        focus (intro wS hSw; (try dsimp only at hSw); go_simp; try with_reducible rfl)
        try simp only [List.setIfInBounds_toArray, List.set_cons_zero, List.set_cons_succ]
        refine wpAnyH_ready (rs := [2]) (by kernel_rfl) (by simp) ?_
        refine AllReadyH.cons rfl (fun K hK => ?_) AllReadyH.nil
        go_simp
        have hb := (Below.refl wd11.heap.size wd11).alloc (Nat.le_refl _) (Obj.cells #[.int .i64 d, .int .i64 u] 28)
        have szZ11x1 := hL.size
        have ord1nP := nP
        have ord1nQ := nQ
        have ord1ng := ng
        have ord1nX := nX
        replace P0 := cell_next hb nP P0
        replace P1 := cell_next hb nP P1
        replace Q0 := cell_next hb nQ Q0
        replace Q1 := cell_next hb nQ Q1
        replace q0 := cell_next hb ng q0
        replace X0 := cell_next hb nX X0
        replace X1 := cell_next hb nX X1
        replace fX0 := frozen_next hb nX fX0
        replace fX1 := frozen_next hb nX fX1
        replace nP := Nat.lt_of_lt_of_le nP hb.size
        replace nQ := Nat.lt_of_lt_of_le nQ hb.size
        replace ng := Nat.lt_of_lt_of_le ng hb.size
        replace nX := Nat.lt_of_lt_of_le nX hb.size
        replace hL := hL.trans (hb.mono (Nat.le_trans hBW hL.size))
        replace hQ := Lib.hid (hQ.out.trans (Kept.of_below' hb ()))
        replace HO := Lib.hid (own_below HO.out hb)
        have K0 : (wd11.alloc (Obj.cells #[.int .i64 d, .int .i64 u] 28)).cell? ⟨wd11.heap.size, 0, none⟩ = some (.int .i64 d) := cell_new _ _ _ 0
        have K1 : (wd11.alloc (Obj.cells #[.int .i64 d, .int .i64 u] 28)).cell? ⟨wd11.heap.size, 1, none⟩ = some (.int .i64 u) := cell_new _ _ _ 1
        have nK : wd11.heap.size < (wd11.alloc (Obj.cells #[.int .i64 d, .int .i64 u] 28)).heap.size := by simp
        refine hK.out _ _ ⟨P0, P1, Q0, Q1, trivial⟩ (fun hHeld => ?_)
        clear hK K hb
        generalize wd11.alloc (Obj.cells #[.int .i64 d, .int .i64 u] 28) = Z11x1 at *
        try simp only [Act.put, List.setIfInBounds_toArray, List.set_cons_zero, List.set_cons_succ]
        refine wpAnyH_ready (rs := [3]) (by kernel_rfl) (by simp) ?_
        refine AllReadyH.cons rfl (fun K hK => ?_) AllReadyH.nil
        refine step_append_d _ 47 rfl rfl (.tmp 44) (.tmp 46) 22 rfl wS.heap.size 28 j0 (.agg #[.int .i64 0, .int .i64 0]) 2 16 Try.underlying22 hj0 hjz0 hjz1 hjz2 rfl (by decide) (.slice pA pl pc) k (flat ps) rfl HO.out ⟨wd11.heap.size, 0, none⟩ 1 1 [.int .i64 d, .int .i64 u] rfl rfl ?_ ?_ (by decide) ?_ ?_ ?_ _ rfl ?_
        · intro j u hj
          rcases j with _ | _ | j
          · simp at hj; subst hj; exact K0
          · simp at hj; subst hj; exact K1
          · simp at hj
        · simp [Value.oneCell']
        · unfold maxLen; omega
        · omega
        · have := hL.size; omega
        intro g5 c5 Z11x2 hown' hgrow hat hlt'
        replace HO := Lib.hid hown'
        have hsL := hL.size
        replace P0 := grown_keep hgrow nP (fun e => by have h1 := hob _ e; omega) P0
        replace P1 := grown_keep hgrow nP (fun e => by have h1 := hob _ e; omega) P1
        replace Q0 := grown_keep hgrow nQ (fun e => by have h1 := hob _ e; omega) Q0
        replace Q1 := grown_keep hgrow nQ (fun e => by have h1 := hob _ e; omega) Q1
        replace q0 := grown_keep hgrow ng (fun e => by have h1 := hob _ e; omega) q0
        replace X0 := grown_keep hgrow nX (fun e => by have h1 := hob _ e; omega) X0
        replace X1 := grown_keep hgrow nX (fun e => by have h1 := hob _ e; omega) X1
        replace fX0 := grown_keepf hgrow nX (fun e => by have h1 := hob _ e; omega) fX0
        replace fX1 := grown_keepf hgrow nX (fun e => by have h1 := hob _ e; omega) fX1
        replace K0 := grown_keep hgrow nK (fun e => by have h1 := hob _ e; omega) K0
        replace K1 := grown_keep hgrow nK (fun e => by have h1 := hob _ e; omega) K1
        replace nP := Nat.lt_of_lt_of_le nP hgrow.size
        replace nQ := Nat.lt_of_lt_of_le nQ hgrow.size
        replace ng := Nat.lt_of_lt_of_le ng hgrow.size
        replace nX := Nat.lt_of_lt_of_le nX hgrow.size
        replace nK := Nat.lt_of_lt_of_le nK hgrow.size
        replace hQ := Lib.hid (hQ.out.trans ((Kept.of_grown' hgrow).mono (fun i hi => .inr (hob i hi).1)))
        replace hL := hL.grown hgrow (by omega) (fun g h => by have := hob _ h; omega)
        have hg5 : wS.heap.size ≤ g5 := (World.ownsRow.lt HO.out g5 rfl).1
        refine hK.out _ _ ⟨P0, P1, Q0, Q1, trivial⟩ (fun hHeld => ?_)
        clear hK K hown' hgrow hat hlt' hsL
        try simp only [Act.put, List.setIfInBounds_toArray, List.set_cons_zero, List.set_cons_succ]
        refine take_slot (i := 5) (d := 8) (v := ?_) rfl rfl (by kernel_rfl) (by kernel_rfl) (by kernel_rfl) (fun _ _ _ h => h) (Or.inl ⟨by rfl, ?_⟩) (by assumption) ?_
        rotate_left 1
        focus (intro wS hSw; (try dsimp only at hSw); go_simp; try with_reducible rfl)
        try simp only [List.setIfInBounds_toArray, List.set_cons_zero, List.set_cons_succ]
        refine wpAnyH_ready (rs := [6]) (by kernel_rfl) (by simp) ?_
        refine AllReadyH.cons rfl (fun K hK => ?_) AllReadyH.nil
        go_simp
        replace HO := Lib.hid (own_set1 (own_set1 HO.out (b := w.heap.size) (fun e => by have e9 : g5 = w.heap.size := (by simpa [Value.ownBlock] using e); omega) 0 (.int .i64 l)) (b := w.heap.size) (fun e => by have e9 : g5 = w.heap.size := (by simpa [Value.ownBlock] using e); omega) 1 (.int .i64 r))
        replace P0 : ((Z11x2.setCell ⟨w.heap.size, 0, none⟩ (.int .i64 l)).setCell ⟨w.heap.size, 1, none⟩ (.int .i64 r)).cell? ⟨bP, 0, none⟩ = some (.int .i64 d) := ((World.cell?_setCell_other _ _ _ _ (by intro e; injection e with e1 e2; omega)).trans ((World.cell?_setCell_other _ _ _ _ (by intro e; injection e with e1 e2; omega)).trans P0))
        replace P1 : ((Z11x2.setCell ⟨w.heap.size, 0, none⟩ (.int .i64 l)).setCell ⟨w.heap.size, 1, none⟩ (.int .i64 r)).cell? ⟨bP, 1, none⟩ = some (.int .i64 u) := ((World.cell?_setCell_other _ _ _ _ (by intro e; injection e with e1 e2; omega)).trans ((World.cell?_setCell_other _ _ _ _ (by intro e; injection e with e1 e2; omega)).trans P1))
        replace Q0 : ((Z11x2.setCell ⟨w.heap.size, 0, none⟩ (.int .i64 l)).setCell ⟨w.heap.size, 1, none⟩ (.int .i64 r)).cell? ⟨bQ, 0, none⟩ = some (.int .i64 l) := ((World.cell?_setCell_other _ _ _ _ (by intro e; injection e with e1 e2; omega)).trans ((World.cell?_setCell_other _ _ _ _ (by intro e; injection e with e1 e2; omega)).trans Q0))
        replace Q1 : ((Z11x2.setCell ⟨w.heap.size, 0, none⟩ (.int .i64 l)).setCell ⟨w.heap.size, 1, none⟩ (.int .i64 r)).cell? ⟨bQ, 1, none⟩ = some (.int .i64 r) := ((World.cell?_setCell_other _ _ _ _ (by intro e; injection e with e1 e2; omega)).trans ((World.cell?_setCell_other _ _ _ _ (by intro e; injection e with e1 e2; omega)).trans Q1))
        replace q0 : ((Z11x2.setCell ⟨w.heap.size, 0, none⟩ (.int .i64 l)).setCell ⟨w.heap.size, 1, none⟩ (.int .i64 r)).cell? ⟨gm, k, none⟩ = some (.int .i64 m) := ((World.cell?_setCell_other _ _ _ _ (by intro e; injection e with e1 e2; omega)).trans ((World.cell?_setCell_other _ _ _ _ (by intro e; injection e with e1 e2; omega)).trans q0))
        replace X0 : ((Z11x2.setCell ⟨w.heap.size, 0, none⟩ (.int .i64 l)).setCell ⟨w.heap.size, 1, none⟩ (.int .i64 r)).cell? ⟨w.heap.size, 0, none⟩ = some (.int .i64 l) := by simp [go_sem, X0]
        replace X1 : ((Z11x2.setCell ⟨w.heap.size, 0, none⟩ (.int .i64 l)).setCell ⟨w.heap.size, 1, none⟩ (.int .i64 r)).cell? ⟨w.heap.size, 1, none⟩ = some (.int .i64 r) := by simp [go_sem, X1]
        replace fX0 : ((Z11x2.setCell ⟨w.heap.size, 0, none⟩ (.int .i64 l)).setCell ⟨w.heap.size, 1, none⟩ (.int .i64 r)).frozen? ⟨w.heap.size, 0, none⟩ = false := by simp [go_sem, fX0]
        replace fX1 : ((Z11x2.setCell ⟨w.heap.size, 0, none⟩ (.int .i64 l)).setCell ⟨w.heap.size, 1, none⟩ (.int .i64 r)).frozen? ⟨w.heap.size, 1, none⟩ = false := by simp [go_sem, fX1]
        replace K0 : ((Z11x2.setCell ⟨w.heap.size, 0, none⟩ (.int .i64 l)).setCell ⟨w.heap.size, 1, none⟩ (.int .i64 r)).cell? ⟨wd11.heap.size, 0, none⟩ = some (.int .i64 d) := ((World.cell?_setCell_other _ _ _ _ (by intro e; injection e with e1 e2; omega)).trans ((World.cell?_setCell_other _ _ _ _ (by intro e; injection e with e1 e2; omega)).trans K0))
        replace K1 : ((Z11x2.setCell ⟨w.heap.size, 0, none⟩ (.int .i64 l)).setCell ⟨w.heap.size, 1, none⟩ (.int .i64 r)).cell? ⟨wd11.heap.size, 1, none⟩ = some (.int .i64 u) := ((World.cell?_setCell_other _ _ _ _ (by intro e; injection e with e1 e2; omega)).trans ((World.cell?_setCell_other _ _ _ _ (by intro e; injection e with e1 e2; omega)).trans K1))
        replace nP : bP < ((Z11x2.setCell ⟨w.heap.size, 0, none⟩ (.int .i64 l)).setCell ⟨w.heap.size, 1, none⟩ (.int .i64 r)).heap.size := by simpa [World.setCell] using nP
        replace nQ : bQ < ((Z11x2.setCell ⟨w.heap.size, 0, none⟩ (.int .i64 l)).setCell ⟨w.heap.size, 1, none⟩ (.int .i64 r)).heap.size := by simpa [World.setCell] using nQ
        replace ng : gm < ((Z11x2.setCell ⟨w.heap.size, 0, none⟩ (.int .i64 l)).setCell ⟨w.heap.size, 1, none⟩ (.int .i64 r)).heap.size := by simpa [World.setCell] using ng
        replace nX : w.heap.size < ((Z11x2.setCell ⟨w.heap.size, 0, none⟩ (.int .i64 l)).setCell ⟨w.heap.size, 1, none⟩ (.int .i64 r)).heap.size := by simpa [World.setCell] using nX
        replace nK : wd11.heap.size < ((Z11x2.setCell ⟨w.heap.size, 0, none⟩ (.int .i64 l)).setCell ⟨w.heap.size, 1, none⟩ (.int .i64 r)).heap.size := by simpa [World.setCell] using nK
        replace hL := hL.setCell (p := ⟨w.heap.size, 0, none⟩) (by show w.heap.size ≤ w.heap.size; omega) (.int .i64 l)
        replace hL := hL.setCell (p := ⟨w.heap.size, 1, none⟩) (by show w.heap.size ≤ w.heap.size; omega) (.int .i64 r)
        replace hQ := Lib.hid (hQ.out.trans (Kept.set (U := (fun b => b = w.heap.size ∨ wS.heap.size ≤ b)) _ (p := ⟨w.heap.size, 0, none⟩) ((.inl rfl)) (.int .i64 l)))
        replace hQ := Lib.hid (hQ.out.trans (Kept.set (U := (fun b => b = w.heap.size ∨ wS.heap.size ≤ b)) _ (p := ⟨w.heap.size, 1, none⟩) ((.inl rfl)) (.int .i64 r)))
        refine hK.out _ _ ⟨P0, P1, Q0, Q1, trivial⟩ (fun hHeld => ?_)
        clear hK K
        generalize ((Z11x2.setCell ⟨w.heap.size, 0, none⟩ (.int .i64 l)).setCell ⟨w.heap.size, 1, none⟩ (.int .i64 r)) = Z11x3 at *
        try simp only [Act.put, List.setIfInBounds_toArray, List.set_cons_zero, List.set_cons_succ]
        refine wpAnyH_done (by kernel_rfl) ?_ _
        have hbo := hbr.trans hL
        have hz4 := hL.size
        have HO3 : Hid ((Z11x3).ownsRow wS.heap.size 28 2 (.slice (some ⟨g5, 0, none⟩) (k + 1) c5) (k + 1) (flat (spF a s (ms.take (k + 1))).2)) := Lib.hid (by
          rw [HNX2.out]
          show World.ownsRow _ _ _ 2 _ (k + 1) (flat (ps ++ [(d, u)]))
          rw [← flat_snoc]
          exact HO.out)
        have HB0 : Hid ((spF a s (ms.take (k + 1))).1.1 = l ∧ (spF a s (ms.take (k + 1))).1.2 = r) := Lib.hid (by rw [HNX2.out]; exact ⟨rfl, rfl⟩)
        have HIM3 : Hid (IntsAt (Z11x3) gm 0 ms) := Lib.hid (fun j z hj => by
          have h9 := HK.out.trans hQ.out
          exact (h9.cell (p := ⟨gm, 0 + j, none⟩) ngr (by show ¬ (gm = w.heap.size ∨ wS.heap.size ≤ gm); omega)).trans (HIM.out j z hj))
        clear hHeld hL hQ HO P0 P1 Q0 Q1 nP nQ q0 K0 K1 nK
        go_wp2_with fail
        go_roundw
        case rel => exact ⟨k + 1, by omega, by go_num, HO3, by rw [HB0.out.1]; exact X0, by rw [HB0.out.2]; exact X1, fX0, fX1, HIM3, by omega, hbo⟩
        case measure => simp [RowKit.intOf]; omega
    · obtain rfl : n = k := by omega
      have h := HO.out
      rw [List.take_of_length_le (by rw [Hn.out]; exact Nat.le_refl _)] at h
      have hlen : (spF a s ms).2.length = n := by rw [spF_len, Hn.out]
      have HF : Hid (wr.ownsRow w.heap.size 28 2 u8 (spF a s ms).2.length (flat (spF a s ms).2)) := Lib.hid (by rw [hlen]; exact own_base h (by omega))
      clear h HO X0 X1 fX0 fX1 hlen
      go_wp2_with fail
      go_ret2
      exact ⟨_, rfl, HF.out, hbr⟩
theorem rSplit_all (a s : Int) (ws : List Int) (v : Value) (w : World) (hl : ws.length ≤ 1000) (hv : NumsAt w.heap.size w v ws) : Calls Try.prog 22 #[.agg #[.int .i64 a, .int .i64 s], v] w (SpPost w (spV a s ws) (spE a s ws)) := by
  have hN : ∀ W : World, Below w.heap.size w W → NumsAt W.heap.size W v ws := fun W hW => (hv.below hW (Nat.le_refl _)).mono hW.size
  cases hb : spB a s with
  | false =>
    have e : spE a s ws = 2 := by unfold spE; rw [if_neg (by simp [hb])]
    have e2 : spV a s ws = [] := by unfold spV; rw [if_neg (by rw [e]; decide)]
    rw [e, e2]; exact rSplit_bad a s v hb w
  | true =>
    have e : spE a s ws = shE (a + s) ws := by unfold spE; rw [if_pos hb]
    by_cases h0 : shE (a + s) ws = 0
    · have e2 : spV a s ws = (spF a s (shV (a + s) ws)).2 := by unfold spV; rw [if_pos (by rw [e]; exact h0)]
      obtain ⟨s1, s2⟩ := shV_sum _ _ h0
      have hlen := shV_len _ _ h0
      have hne : 0 < ws.length := by
        obtain ⟨_, _, _, _, h5⟩ := shE_ok h0
        rcases ws with _ | ⟨z, ws⟩
        · simp [wtSum] at h5
        · simp
      rw [e2, e, h0]
      exact rSplit_ok a s v _ hb s2 s1 (by omega) (by omega) w (Lib.hid (fun W hW => by have h := rShare_any (a + s) ws v W hl (hN W hW); rw [h0] at h; exact h))
    · have e2 : spV a s ws = [] := by unfold spV; rw [if_neg (by rw [e]; exact h0)]
      rw [e2, e]
      exact rSplit_no a s _ v (shV (a + s) ws) hb h0 w (Lib.hid (fun W hW => rShare_any (a + s) ws v W hl (hN W hW)))
end Go.Proofs.Ytclnfncdphfgjaa
