/- Contracts: the values of a table in a range. -/
import Derived.Test.YtgklpbgdimkhaaaGreatKA4
import Derived.Test.YtgklpbgdimkhaaaGreatKA6
import Derived.Test.YtgklpbgdimkhaaaGreatT5
namespace Go.Proofs.YtgklpbgdimkhaaaGreat
open Go.RowKit Go.Lib Go.Shelf
set_option linter.unusedVariables false
set_option linter.unusedSimpArgs false
attribute [local go_sem ↓] Go.wp_at_zero Go.wp_at_succ

/-- the block of the result so far -/
def Vx (a b : Int) (w : World) (s : Int × Int) (v : Value) (W : World) : Prop :=
  ∃ gx, v = .pointer (some ⟨gx, 0, none⟩) ∧ w.heap.size + 1 < gx ∧ gx < W.heap.size ∧ W.cell? ⟨gx, 0, none⟩ = some (.int .i64 s.1) ∧ W.cell? ⟨gx, 1, none⟩ = some (.int .i64 s.2) ∧ W.frozen? ⟨gx, 0, none⟩ = false ∧ W.frozen? ⟨gx, 1, none⟩ = false ∧
    W.cell? ⟨w.heap.size, 0, none⟩ = some (.int .i64 a) ∧ W.cell? ⟨w.heap.size, 1, none⟩ = some (.int .i64 b) ∧ Kp (w.heap.size + 1) w W
theorem take_snocV (xs : List (Int × Int)) (k : Nat) (p : Int × Int) (h : xs[k]? = some p) : xs.take (k + 1) = xs.take k ++ [p] := by
  rw [List.take_add_one, h]; rfl
theorem keep2_far {w W : World} {b B g : Nat} {x y : Option Value} {u v : Value} (hb : b < g) (hB : B < g) (hw : w.heap.size ≤ g) (h : W.cell? ⟨b, 0, none⟩ = x ∧ W.cell? ⟨b, 1, none⟩ = y ∧ Kp B w W) :
    ((W.setCell ⟨g, 0, none⟩ u).setCell ⟨g, 1, none⟩ v).cell? ⟨b, 0, none⟩ = x ∧ ((W.setCell ⟨g, 0, none⟩ u).setCell ⟨g, 1, none⟩ v).cell? ⟨b, 1, none⟩ = y ∧ Kp B w ((W.setCell ⟨g, 0, none⟩ u).setCell ⟨g, 1, none⟩ v) := by
  obtain ⟨h1, h2, h3, h4, ⟨u', h5⟩, ⟨v', h6⟩, h7, h8⟩ := h
  have hne : g ≠ b := by omega
  have hnB : g ≠ B := by omega
  refine ⟨set2_far u v hne h1, set2_far u v hne h2, (h3.setCell hw _).setCell hw _, by simpa [World.setCell] using h4, ⟨u', set2_far u v hnB h5⟩, ⟨v', set2_far u v hnB h6⟩, by simp [go_sem, h7], by simp [go_sem, h8]⟩
set_option maxRecDepth 20000 in
set_option maxHeartbeats 8000000 in
theorem values_ok (xs : List (Int × Int)) (a b : Int) (g off c : Nat) (ht : tabE xs = 0) (hab : vrB a b = true) (hca : covB xs a = true) (hcb : covB xs b = true) (w : World) (hg : g < w.heap.size) (hr : RRd w g off xs) :
    Calls Tryz.prog 49 #[.slice (some ⟨g, off, none⟩) xs.length c, .agg #[.int .i64 a, .int .i64 b]] w fun e w' => e = .returned (.tuple #[.agg #[.int .i64 (valsV xs a b).1, .int .i64 (valsV xs a b).2], .int .i64 0]) ∧ Below w.heap.size w w' := by
  have hT := tabOk_of ht
  have c1 := Lib.hid (fun (W : World) (h : Below w.heap.size w W) => checkTable_long g off xs c W (Nat.lt_of_lt_of_le hg h.size) (hr.below h hg) hT.1 hT.2.1)
  rw [ht] at c1
  have c2 := Lib.hid (validRange_any a b)
  rw [hab] at c2
  have c3 := Lib.hid (fun (W : World) (h : Below w.heap.size w W) => covers_any xs a g off c hT.1 hT.2.1 W (Nat.lt_of_lt_of_le hg h.size) (hr.below h hg))
  have c3' := Lib.hid (fun (W : World) (h : Below w.heap.size w W) => covers_any xs b g off c hT.1 hT.2.1 W (Nat.lt_of_lt_of_le hg h.size) (hr.below h hg))
  rw [hca] at c3
  rw [hcb] at c3'
  have c4 := Lib.hid (fun (W : World) (h : Below w.heap.size w W) => valueAt_any xs a g off c hT hca W (Nat.lt_of_lt_of_le hg h.size) (hr.below h hg))
  have c4' := Lib.hid (fun (W : World) (h : Below w.heap.size w W) => valueAt_any xs b g off c hT hcb W (Nat.lt_of_lt_of_le hg h.size) (hr.below h hg))
  have HV : Hid ((min (valV xs a).1 (valV xs b).1, max (valV xs a).2 (valV xs b).2) = vs0 xs a b) := Lib.hid rfl
  have HD : Hid (valsV xs a b = xs.foldl (vsJ a b) (vs0 xs a b)) := Lib.hid rfl
  have HR := Lib.hid hr
  have hn60 := hT.2.1
  generalize valsV xs a b = res at *
  generalize vs0 xs a b = s0 at *
  generalize valV xs a = va at *
  generalize valV xs b = vb at *
  obtain ⟨n, hn⟩ : ∃ n, xs.length = n := ⟨_, rfl⟩
  rw [hn] at c1 c3 c3' c4 c4' hn60 ⊢
  have Hn := Lib.hid hn
  clear hn hT ht hab hca hcb hr
  go_enter Tryz.func49, Tryz.ntmps49
  go_wp2_with fail
  refine (c1.out _ (((Below.refl _ _).alloc (Nat.le_refl _) _).alloc (by simp) _)).mono ?_
  rintro e w1 ⟨rfl, hb1⟩
  have hS : w1.cell? ⟨w.heap.size, 0, none⟩ = some (.int .i64 a) ∧ w1.cell? ⟨w.heap.size, 1, none⟩ = some (.int .i64 b) ∧ Kp (w.heap.size + 1) w w1 :=
    ⟨cell_next hb1 (by simp <;> omega) (by simp [go_sem]), cell_next hb1 (by simp <;> omega) (by simp [go_sem]), below2 hb1, by have := hb1.size; simp at this; omega, ⟨.int .i64 0, cell_next hb1 (by simp <;> omega) (by simp [go_sem])⟩, ⟨.int .i64 0, cell_next hb1 (by simp <;> omega) (by simp [go_sem])⟩, frozen_next hb1 (by simp <;> omega) (by simp [go_sem]), frozen_next hb1 (by simp <;> omega) (by simp [go_sem])⟩
  clear hb1 c1
  obtain ⟨x0, x1, hk⟩ := hS
  go_wp2_with fail
  refine (c2.out _).mono ?_
  rintro e w2 ⟨rfl, hb⟩
  obtain ⟨y0, y1, hk2⟩ := keep2 hb (Nat.le_succ _) ⟨x0, x1, hk⟩
  clear hb x0 x1 hk c2
  go_wp2_with fail
  refine (c3.out _ hk2.1).mono ?_
  rintro e w3 ⟨rfl, hb⟩
  obtain ⟨x0, x1, hk⟩ := keep2 hb (Nat.le_succ _) ⟨y0, y1, hk2⟩
  clear hb y0 y1 hk2 c3
  go_wp2_with fail
  refine (c3'.out _ hk.1).mono ?_
  rintro e w4 ⟨rfl, hb⟩
  obtain ⟨y0, y1, hk2⟩ := keep2 hb (Nat.le_succ _) ⟨x0, x1, hk⟩
  have hzz := hk2.2.1
  clear hb x0 x1 hk c3'
  go_upto_region 8 with fail
  go_cut [7] (fun s7 wx => Vx a b w s0 s7 wx)
  case first =>
    have hS := And.intro y0 (And.intro y1 hk2)
    clear y0 y1 hk2
    have d4 := Lib.hid (fun (W : World) (h : W.cell? ⟨w.heap.size, 0, none⟩ = some (.int .i64 a) ∧ W.cell? ⟨w.heap.size, 1, none⟩ = some (.int .i64 b) ∧ Kp (w.heap.size + 1) w W) => c4.out W h.2.2.1)
    have d4' := Lib.hid (fun (W : World) (h : W.cell? ⟨w.heap.size, 0, none⟩ = some (.int .i64 a) ∧ W.cell? ⟨w.heap.size, 1, none⟩ = some (.int .i64 b) ∧ Kp (w.heap.size + 1) w W) => c4'.out W h.2.2.1)
    clear c4 c4'
    refine wp_region_held_drew (S := fun w' => w'.cell? ⟨w.heap.size, 0, none⟩ = some (.int .i64 a) ∧ w'.cell? ⟨w.heap.size, 1, none⟩ = some (.int .i64 b) ∧ Kp (w.heap.size + 1) w w') (by kernel_rfl) ?_ (fun hHeld => ?_)
    focus (exact keep2 (Below.drew (Below.refl _ _)) (Nat.le_succ _) hS)
    clear hS
    refine tq 0 33 ?_ ?_ ?_; rotate_left; (focus intro w h; (try dsimp only at h); go_simp; try with_reducible rfl); try simp only [sA, sB, sC]
    refine tq 1 34 ?_ ?_ ?_; rotate_left; (focus intro w h; (try dsimp only at h); go_simp; try with_reducible rfl); try simp only [sA, sB, sC]
    refine tq 2 35 ?_ ?_ ?_; rotate_left; (focus intro w h; (try dsimp only at h); go_simp; try with_reducible rfl); try simp only [sA, sB, sC]
    refine tq 4 37 ?_ ?_ ?_; rotate_left; (focus intro w h; (try dsimp only at h); go_simp; try with_reducible rfl); try simp only [sA, sB, sC]
    refine tq 5 38 ?_ ?_ ?_; rotate_left; (focus intro w h; (try dsimp only at h); go_simp; try with_reducible rfl); try simp only [sA, sB, sC]
    refine tq 6 39 ?_ ?_ ?_; rotate_left; (focus intro w h; (try dsimp only at h); go_simp; try with_reducible rfl); try simp only [sA, sB, sC]
    have hS := hHeld
    clear hHeld hzz
    generalize World.drew _ = W0 at *
    refine wpAnyH_ready (rs := [3, 10]) (by kernel_rfl) (by simp) ?_
    refine AllReadyH.cons rfl (fun K hK => ?_) ?_
    · go_simp
      refine (d4.out _ hS).mono ?_
      rintro e X1 ⟨rfl, hb⟩
      replace hS := keep2 hb (Nat.le_succ _) hS
      refine hK.out _ _ hS (fun _ => ?_)
      clear hK K hb
      try simp only [Act.put, sA, sB, sC]
      refine wpAnyH_ready (rs := [7, 10]) (by kernel_rfl) (by simp) ?_
      refine AllReadyH.cons rfl (fun K hK => ?_) ?_
      · go_simp
        refine (d4'.out _ hS).mono ?_
        rintro e X2 ⟨rfl, hb⟩
        replace hS := keep2 hb (Nat.le_succ _) hS
        refine hK.out _ _ hS (fun _ => ?_)
        clear hK K hb
        try simp only [Act.put, sA, sB, sC]
        refine wpAnyH_ready (rs := [8, 10]) (by kernel_rfl) (by simp) ?_
        refine AllReadyH.cons rfl (fun K hK => ?_) ?_
        · go_simp
          have hb := (Below.refl X2.heap.size X2).alloc (Nat.le_refl _) (Obj.cells #[Value.int .i64 vb.1, Value.int .i64 vb.2] 24)
          have bs : w.heap.size + 1 < X2.heap.size := hS.2.2.2.1
          replace hS := keep2 hb (Nat.le_succ _) hS
          have s0 : (X2.alloc (Obj.cells #[Value.int .i64 vb.1, Value.int .i64 vb.2] 24)).cell? ⟨X2.heap.size, 0, none⟩ = some (Value.int .i64 vb.1) := cell_new _ _ _ 0
          have s1 : (X2.alloc (Obj.cells #[Value.int .i64 vb.1, Value.int .i64 vb.2] 24)).cell? ⟨X2.heap.size, 1, none⟩ = some (Value.int .i64 vb.2) := cell_new _ _ _ 1
          have ns : X2.heap.size < (X2.alloc (Obj.cells #[Value.int .i64 vb.1, Value.int .i64 vb.2] 24)).heap.size := by simp
          refine hK.out _ _ hS (fun _ => ?_)
          clear hK K hb
          generalize X2.alloc (Obj.cells #[Value.int .i64 vb.1, Value.int .i64 vb.2] 24) = X3 at *
          try simp only [Act.put, sA, sB, sC]
          refine wpAnyH_ready (rs := [9, 10]) (by kernel_rfl) (by simp) ?_
          refine AllReadyH.cons rfl (fun K hK => ?_) ?_
          · go_simp
            refine (hull_one va.1 va.2 vb.1 vb.2 _ _ ns s0 s1).mono ?_
            rintro e X4 ⟨rfl, hb⟩
            replace hS := keep2 hb (Nat.le_succ _) hS
            replace s0 := cell_next hb ns s0
            replace s1 := cell_next hb ns s1
            replace ns := Nat.lt_of_lt_of_le ns hb.size
            refine hK.out _ _ hS (fun _ => ?_)
            clear hK K hb
            try simp only [Act.put, sA, sB, sC]
            refine rd1 10 (fun K hK => ?_)
            go_simp
            have hb := (Below.refl X4.heap.size X4).alloc (Nat.le_refl _) (Obj.cells #[Value.int .i64 0, Value.int .i64 0] 24)
            have bx : w.heap.size + 1 < X4.heap.size := hS.2.2.2.1
            replace s0 := cell_next hb ns s0
            replace s1 := cell_next hb ns s1
            replace ns := Nat.lt_of_lt_of_le ns hb.size
            replace hS := keep2 hb (Nat.le_succ _) hS
            have x0 : (X4.alloc (Obj.cells #[Value.int .i64 0, Value.int .i64 0] 24)).cell? ⟨X4.heap.size, 0, none⟩ = some (Value.int .i64 0) := cell_new _ _ _ 0
            have fx0 : (X4.alloc (Obj.cells #[Value.int .i64 0, Value.int .i64 0] 24)).frozen? ⟨X4.heap.size, 0, none⟩ = false := by simp [go_sem]
            have x1 : (X4.alloc (Obj.cells #[Value.int .i64 0, Value.int .i64 0] 24)).cell? ⟨X4.heap.size, 1, none⟩ = some (Value.int .i64 0) := cell_new _ _ _ 1
            have fx1 : (X4.alloc (Obj.cells #[Value.int .i64 0, Value.int .i64 0] 24)).frozen? ⟨X4.heap.size, 1, none⟩ = false := by simp [go_sem]
            have nx : X4.heap.size < (X4.alloc (Obj.cells #[Value.int .i64 0, Value.int .i64 0] 24)).heap.size := by simp
            refine hK.out _ _ hS (fun _ => ?_)
            clear hK K hb
            generalize X4.alloc (Obj.cells #[Value.int .i64 0, Value.int .i64 0] 24) = X5 at *
            try simp only [Act.put, sA, sB, sC]
            refine rd1 11 (fun K hK => ?_)
            go_simp
            replace hS := keep2_far (u := .int .i64 (min va.1 vb.1)) (v := .int .i64 (max va.2 vb.2)) (by omega : _ < X4.heap.size) (by omega) (by omega) hS
            refine hK.out _ _ hS (fun _ => ?_)
            clear hK K
            try simp only [Act.put, sA, sB, sC]
            refine wpAnyH_done (by kernel_rfl) ?_ _
            obtain ⟨q0, q1⟩ := set2 (.int .i64 (min va.1 vb.1)) (.int .i64 (max va.2 vb.2)) x0 x1
            go_wp2_with fail
            go_meet
            exact ⟨_, rfl, bx, by simpa [World.setCell] using nx, by rw [← HV.out]; exact q0, by rw [← HV.out]; exact q1, by simp [go_sem, fx0], by simp [go_sem, fx1], hS.1, hS.2.1, hS.2.2⟩
          refine AllReadyH.cons rfl (fun K hK => ?_) AllReadyH.nil
          go_simp
          have hb := (Below.refl X3.heap.size X3).alloc (Nat.le_refl _) (Obj.cells #[Value.int .i64 0, Value.int .i64 0] 24)
          have bx : w.heap.size + 1 < X3.heap.size := hS.2.2.2.1
          replace s0 := cell_next hb ns s0
          replace s1 := cell_next hb ns s1
          replace ns := Nat.lt_of_lt_of_le ns hb.size
          replace hS := keep2 hb (Nat.le_succ _) hS
          have x0 : (X3.alloc (Obj.cells #[Value.int .i64 0, Value.int .i64 0] 24)).cell? ⟨X3.heap.size, 0, none⟩ = some (Value.int .i64 0) := cell_new _ _ _ 0
          have fx0 : (X3.alloc (Obj.cells #[Value.int .i64 0, Value.int .i64 0] 24)).frozen? ⟨X3.heap.size, 0, none⟩ = false := by simp [go_sem]
          have x1 : (X3.alloc (Obj.cells #[Value.int .i64 0, Value.int .i64 0] 24)).cell? ⟨X3.heap.size, 1, none⟩ = some (Value.int .i64 0) := cell_new _ _ _ 1
          have fx1 : (X3.alloc (Obj.cells #[Value.int .i64 0, Value.int .i64 0] 24)).frozen? ⟨X3.heap.size, 1, none⟩ = false := by simp [go_sem]
          have nx : X3.heap.size < (X3.alloc (Obj.cells #[Value.int .i64 0, Value.int .i64 0] 24)).heap.size := by simp
          refine hK.out _ _ hS (fun _ => ?_)
          clear hK K hb
          generalize X3.alloc (Obj.cells #[Value.int .i64 0, Value.int .i64 0] 24) = X7 at *
          try simp only [Act.put, sA, sB, sC]
          refine rd1 9 (fun K hK => ?_)
          go_simp
          refine (hull_one va.1 va.2 vb.1 vb.2 _ _ ns s0 s1).mono ?_
          rintro e X8 ⟨rfl, hb⟩
          replace hS := keep2 hb (Nat.le_succ _) hS
          replace s0 := cell_next hb ns s0
          replace s1 := cell_next hb ns s1
          replace ns := Nat.lt_of_lt_of_le ns hb.size
          replace x0 := cell_next hb nx x0
          replace fx0 := frozen_next hb nx fx0
          replace x1 := cell_next hb nx x1
          replace fx1 := frozen_next hb nx fx1
          replace nx := Nat.lt_of_lt_of_le nx hb.size
          refine hK.out _ _ hS (fun _ => ?_)
          clear hK K hb
          try simp only [Act.put, sA, sB, sC]
          refine rd1 11 (fun K hK => ?_)
          go_simp
          replace hS := keep2_far (u := .int .i64 (min va.1 vb.1)) (v := .int .i64 (max va.2 vb.2)) (by omega : _ < X3.heap.size) (by omega) (by omega) hS
          refine hK.out _ _ hS (fun _ => ?_)
          clear hK K
          try simp only [Act.put, sA, sB, sC]
          refine wpAnyH_done (by kernel_rfl) ?_ _
          obtain ⟨q0, q1⟩ := set2 (.int .i64 (min va.1 vb.1)) (.int .i64 (max va.2 vb.2)) x0 x1
          go_wp2_with fail
          go_meet
          exact ⟨_, rfl, bx, by simpa [World.setCell] using nx, by rw [← HV.out]; exact q0, by rw [← HV.out]; exact q1, by simp [go_sem, fx0], by simp [go_sem, fx1], hS.1, hS.2.1, hS.2.2⟩
        refine AllReadyH.cons rfl (fun K hK => ?_) AllReadyH.nil
        go_simp
        have hb := (Below.refl X2.heap.size X2).alloc (Nat.le_refl _) (Obj.cells #[Value.int .i64 0, Value.int .i64 0] 24)
        have bx : w.heap.size + 1 < X2.heap.size := hS.2.2.2.1
        replace hS := keep2 hb (Nat.le_succ _) hS
        have x0 : (X2.alloc (Obj.cells #[Value.int .i64 0, Value.int .i64 0] 24)).cell? ⟨X2.heap.size, 0, none⟩ = some (Value.int .i64 0) := cell_new _ _ _ 0
        have fx0 : (X2.alloc (Obj.cells #[Value.int .i64 0, Value.int .i64 0] 24)).frozen? ⟨X2.heap.size, 0, none⟩ = false := by simp [go_sem]
        have x1 : (X2.alloc (Obj.cells #[Value.int .i64 0, Value.int .i64 0] 24)).cell? ⟨X2.heap.size, 1, none⟩ = some (Value.int .i64 0) := cell_new _ _ _ 1
        have fx1 : (X2.alloc (Obj.cells #[Value.int .i64 0, Value.int .i64 0] 24)).frozen? ⟨X2.heap.size, 1, none⟩ = false := by simp [go_sem]
        have nx : X2.heap.size < (X2.alloc (Obj.cells #[Value.int .i64 0, Value.int .i64 0] 24)).heap.size := by simp
        refine hK.out _ _ hS (fun _ => ?_)
        clear hK K hb
        generalize X2.alloc (Obj.cells #[Value.int .i64 0, Value.int .i64 0] 24) = X10 at *
        try simp only [Act.put, sA, sB, sC]
        refine rd1 8 (fun K hK => ?_)
        go_simp
        have hb := (Below.refl X10.heap.size X10).alloc (Nat.le_refl _) (Obj.cells #[Value.int .i64 vb.1, Value.int .i64 vb.2] 24)
        have bs : w.heap.size + 1 < X10.heap.size := hS.2.2.2.1
        replace x0 := cell_next hb nx x0
        replace fx0 := frozen_next hb nx fx0
        replace x1 := cell_next hb nx x1
        replace fx1 := frozen_next hb nx fx1
        replace nx := Nat.lt_of_lt_of_le nx hb.size
        replace hS := keep2 hb (Nat.le_succ _) hS
        have s0 : (X10.alloc (Obj.cells #[Value.int .i64 vb.1, Value.int .i64 vb.2] 24)).cell? ⟨X10.heap.size, 0, none⟩ = some (Value.int .i64 vb.1) := cell_new _ _ _ 0
        have s1 : (X10.alloc (Obj.cells #[Value.int .i64 vb.1, Value.int .i64 vb.2] 24)).cell? ⟨X10.heap.size, 1, none⟩ = some (Value.int .i64 vb.2) := cell_new _ _ _ 1
        have ns : X10.heap.size < (X10.alloc (Obj.cells #[Value.int .i64 vb.1, Value.int .i64 vb.2] 24)).heap.size := by simp
        refine hK.out _ _ hS (fun _ => ?_)
        clear hK K hb
        generalize X10.alloc (Obj.cells #[Value.int .i64 vb.1, Value.int .i64 vb.2] 24) = X11 at *
        try simp only [Act.put, sA, sB, sC]
        refine rd1 9 (fun K hK => ?_)
        go_simp
        refine (hull_one va.1 va.2 vb.1 vb.2 _ _ ns s0 s1).mono ?_
        rintro e X12 ⟨rfl, hb⟩
        replace hS := keep2 hb (Nat.le_succ _) hS
        replace x0 := cell_next hb nx x0
        replace fx0 := frozen_next hb nx fx0
        replace x1 := cell_next hb nx x1
        replace fx1 := frozen_next hb nx fx1
        replace nx := Nat.lt_of_lt_of_le nx hb.size
        replace s0 := cell_next hb ns s0
        replace s1 := cell_next hb ns s1
        replace ns := Nat.lt_of_lt_of_le ns hb.size
        refine hK.out _ _ hS (fun _ => ?_)
        clear hK K hb
        try simp only [Act.put, sA, sB, sC]
        refine rd1 11 (fun K hK => ?_)
        go_simp
        replace hS := keep2_far (u := .int .i64 (min va.1 vb.1)) (v := .int .i64 (max va.2 vb.2)) (by omega : _ < X2.heap.size) (by omega) (by omega) hS
        refine hK.out _ _ hS (fun _ => ?_)
        clear hK K
        try simp only [Act.put, sA, sB, sC]
        refine wpAnyH_done (by kernel_rfl) ?_ _
        obtain ⟨q0, q1⟩ := set2 (.int .i64 (min va.1 vb.1)) (.int .i64 (max va.2 vb.2)) x0 x1
        go_wp2_with fail
        go_meet
        exact ⟨_, rfl, bx, by simpa [World.setCell] using nx, by rw [← HV.out]; exact q0, by rw [← HV.out]; exact q1, by simp [go_sem, fx0], by simp [go_sem, fx1], hS.1, hS.2.1, hS.2.2⟩
      refine AllReadyH.cons rfl (fun K hK => ?_) AllReadyH.nil
      go_simp
      have hb := (Below.refl X1.heap.size X1).alloc (Nat.le_refl _) (Obj.cells #[Value.int .i64 0, Value.int .i64 0] 24)
      have bx : w.heap.size + 1 < X1.heap.size := hS.2.2.2.1
      replace hS := keep2 hb (Nat.le_succ _) hS
      have x0 : (X1.alloc (Obj.cells #[Value.int .i64 0, Value.int .i64 0] 24)).cell? ⟨X1.heap.size, 0, none⟩ = some (Value.int .i64 0) := cell_new _ _ _ 0
      have fx0 : (X1.alloc (Obj.cells #[Value.int .i64 0, Value.int .i64 0] 24)).frozen? ⟨X1.heap.size, 0, none⟩ = false := by simp [go_sem]
      have x1 : (X1.alloc (Obj.cells #[Value.int .i64 0, Value.int .i64 0] 24)).cell? ⟨X1.heap.size, 1, none⟩ = some (Value.int .i64 0) := cell_new _ _ _ 1
      have fx1 : (X1.alloc (Obj.cells #[Value.int .i64 0, Value.int .i64 0] 24)).frozen? ⟨X1.heap.size, 1, none⟩ = false := by simp [go_sem]
      have nx : X1.heap.size < (X1.alloc (Obj.cells #[Value.int .i64 0, Value.int .i64 0] 24)).heap.size := by simp
      refine hK.out _ _ hS (fun _ => ?_)
      clear hK K hb
      generalize X1.alloc (Obj.cells #[Value.int .i64 0, Value.int .i64 0] 24) = X14 at *
      try simp only [Act.put, sA, sB, sC]
      refine rd1 7 (fun K hK => ?_)
      go_simp
      refine (d4'.out _ hS).mono ?_
      rintro e X15 ⟨rfl, hb⟩
      replace hS := keep2 hb (Nat.le_succ _) hS
      replace x0 := cell_next hb nx x0
      replace fx0 := frozen_next hb nx fx0
      replace x1 := cell_next hb nx x1
      replace fx1 := frozen_next hb nx fx1
      replace nx := Nat.lt_of_lt_of_le nx hb.size
      refine hK.out _ _ hS (fun _ => ?_)
      clear hK K hb
      try simp only [Act.put, sA, sB, sC]
      refine rd1 8 (fun K hK => ?_)
      go_simp
      have hb := (Below.refl X15.heap.size X15).alloc (Nat.le_refl _) (Obj.cells #[Value.int .i64 vb.1, Value.int .i64 vb.2] 24)
      have bs : w.heap.size + 1 < X15.heap.size := hS.2.2.2.1
      replace x0 := cell_next hb nx x0
      replace fx0 := frozen_next hb nx fx0
      replace x1 := cell_next hb nx x1
      replace fx1 := frozen_next hb nx fx1
      replace nx := Nat.lt_of_lt_of_le nx hb.size
      replace hS := keep2 hb (Nat.le_succ _) hS
      have s0 : (X15.alloc (Obj.cells #[Value.int .i64 vb.1, Value.int .i64 vb.2] 24)).cell? ⟨X15.heap.size, 0, none⟩ = some (Value.int .i64 vb.1) := cell_new _ _ _ 0
      have s1 : (X15.alloc (Obj.cells #[Value.int .i64 vb.1, Value.int .i64 vb.2] 24)).cell? ⟨X15.heap.size, 1, none⟩ = some (Value.int .i64 vb.2) := cell_new _ _ _ 1
      have ns : X15.heap.size < (X15.alloc (Obj.cells #[Value.int .i64 vb.1, Value.int .i64 vb.2] 24)).heap.size := by simp
      refine hK.out _ _ hS (fun _ => ?_)
      clear hK K hb
      generalize X15.alloc (Obj.cells #[Value.int .i64 vb.1, Value.int .i64 vb.2] 24) = X16 at *
      try simp only [Act.put, sA, sB, sC]
      refine rd1 9 (fun K hK => ?_)
      go_simp
      refine (hull_one va.1 va.2 vb.1 vb.2 _ _ ns s0 s1).mono ?_
      rintro e X17 ⟨rfl, hb⟩
      replace hS := keep2 hb (Nat.le_succ _) hS
      replace x0 := cell_next hb nx x0
      replace fx0 := frozen_next hb nx fx0
      replace x1 := cell_next hb nx x1
      replace fx1 := frozen_next hb nx fx1
      replace nx := Nat.lt_of_lt_of_le nx hb.size
      replace s0 := cell_next hb ns s0
      replace s1 := cell_next hb ns s1
      replace ns := Nat.lt_of_lt_of_le ns hb.size
      refine hK.out _ _ hS (fun _ => ?_)
      clear hK K hb
      try simp only [Act.put, sA, sB, sC]
      refine rd1 11 (fun K hK => ?_)
      go_simp
      replace hS := keep2_far (u := .int .i64 (min va.1 vb.1)) (v := .int .i64 (max va.2 vb.2)) (by omega : _ < X1.heap.size) (by omega) (by omega) hS
      refine hK.out _ _ hS (fun _ => ?_)
      clear hK K
      try simp only [Act.put, sA, sB, sC]
      refine wpAnyH_done (by kernel_rfl) ?_ _
      obtain ⟨q0, q1⟩ := set2 (.int .i64 (min va.1 vb.1)) (.int .i64 (max va.2 vb.2)) x0 x1
      go_wp2_with fail
      go_meet
      exact ⟨_, rfl, bx, by simpa [World.setCell] using nx, by rw [← HV.out]; exact q0, by rw [← HV.out]; exact q1, by simp [go_sem, fx0], by simp [go_sem, fx1], hS.1, hS.2.1, hS.2.2⟩
    refine AllReadyH.cons rfl (fun K hK => ?_) AllReadyH.nil
    go_simp
    have hb := (Below.refl W0.heap.size W0).alloc (Nat.le_refl _) (Obj.cells #[Value.int .i64 0, Value.int .i64 0] 24)
    have bx : w.heap.size + 1 < W0.heap.size := hS.2.2.2.1
    replace hS := keep2 hb (Nat.le_succ _) hS
    have x0 : (W0.alloc (Obj.cells #[Value.int .i64 0, Value.int .i64 0] 24)).cell? ⟨W0.heap.size, 0, none⟩ = some (Value.int .i64 0) := cell_new _ _ _ 0
    have fx0 : (W0.alloc (Obj.cells #[Value.int .i64 0, Value.int .i64 0] 24)).frozen? ⟨W0.heap.size, 0, none⟩ = false := by simp [go_sem]
    have x1 : (W0.alloc (Obj.cells #[Value.int .i64 0, Value.int .i64 0] 24)).cell? ⟨W0.heap.size, 1, none⟩ = some (Value.int .i64 0) := cell_new _ _ _ 1
    have fx1 : (W0.alloc (Obj.cells #[Value.int .i64 0, Value.int .i64 0] 24)).frozen? ⟨W0.heap.size, 1, none⟩ = false := by simp [go_sem]
    have nx : W0.heap.size < (W0.alloc (Obj.cells #[Value.int .i64 0, Value.int .i64 0] 24)).heap.size := by simp
    refine hK.out _ _ hS (fun _ => ?_)
    clear hK K hb
    generalize W0.alloc (Obj.cells #[Value.int .i64 0, Value.int .i64 0] 24) = X19 at *
    try simp only [Act.put, sA, sB, sC]
    refine rd1 3 (fun K hK => ?_)
    go_simp
    refine (d4.out _ hS).mono ?_
    rintro e X20 ⟨rfl, hb⟩
    replace hS := keep2 hb (Nat.le_succ _) hS
    replace x0 := cell_next hb nx x0
    replace fx0 := frozen_next hb nx fx0
    replace x1 := cell_next hb nx x1
    replace fx1 := frozen_next hb nx fx1
    replace nx := Nat.lt_of_lt_of_le nx hb.size
    refine hK.out _ _ hS (fun _ => ?_)
    clear hK K hb
    try simp only [Act.put, sA, sB, sC]
    refine rd1 7 (fun K hK => ?_)
    go_simp
    refine (d4'.out _ hS).mono ?_
    rintro e X21 ⟨rfl, hb⟩
    replace hS := keep2 hb (Nat.le_succ _) hS
    replace x0 := cell_next hb nx x0
    replace fx0 := frozen_next hb nx fx0
    replace x1 := cell_next hb nx x1
    replace fx1 := frozen_next hb nx fx1
    replace nx := Nat.lt_of_lt_of_le nx hb.size
    refine hK.out _ _ hS (fun _ => ?_)
    clear hK K hb
    try simp only [Act.put, sA, sB, sC]
    refine rd1 8 (fun K hK => ?_)
    go_simp
    have hb := (Below.refl X21.heap.size X21).alloc (Nat.le_refl _) (Obj.cells #[Value.int .i64 vb.1, Value.int .i64 vb.2] 24)
    have bs : w.heap.size + 1 < X21.heap.size := hS.2.2.2.1
    replace x0 := cell_next hb nx x0
    replace fx0 := frozen_next hb nx fx0
    replace x1 := cell_next hb nx x1
    replace fx1 := frozen_next hb nx fx1
    replace nx := Nat.lt_of_lt_of_le nx hb.size
    replace hS := keep2 hb (Nat.le_succ _) hS
    have s0 : (X21.alloc (Obj.cells #[Value.int .i64 vb.1, Value.int .i64 vb.2] 24)).cell? ⟨X21.heap.size, 0, none⟩ = some (Value.int .i64 vb.1) := cell_new _ _ _ 0
    have s1 : (X21.alloc (Obj.cells #[Value.int .i64 vb.1, Value.int .i64 vb.2] 24)).cell? ⟨X21.heap.size, 1, none⟩ = some (Value.int .i64 vb.2) := cell_new _ _ _ 1
    have ns : X21.heap.size < (X21.alloc (Obj.cells #[Value.int .i64 vb.1, Value.int .i64 vb.2] 24)).heap.size := by simp
    refine hK.out _ _ hS (fun _ => ?_)
    clear hK K hb
    generalize X21.alloc (Obj.cells #[Value.int .i64 vb.1, Value.int .i64 vb.2] 24) = X22 at *
    try simp only [Act.put, sA, sB, sC]
    refine rd1 9 (fun K hK => ?_)
    go_simp
    refine (hull_one va.1 va.2 vb.1 vb.2 _ _ ns s0 s1).mono ?_
    rintro e X23 ⟨rfl, hb⟩
    replace hS := keep2 hb (Nat.le_succ _) hS
    replace x0 := cell_next hb nx x0
    replace fx0 := frozen_next hb nx fx0
    replace x1 := cell_next hb nx x1
    replace fx1 := frozen_next hb nx fx1
    replace nx := Nat.lt_of_lt_of_le nx hb.size
    replace s0 := cell_next hb ns s0
    replace s1 := cell_next hb ns s1
    replace ns := Nat.lt_of_lt_of_le ns hb.size
    refine hK.out _ _ hS (fun _ => ?_)
    clear hK K hb
    try simp only [Act.put, sA, sB, sC]
    refine rd1 11 (fun K hK => ?_)
    go_simp
    replace hS := keep2_far (u := .int .i64 (min va.1 vb.1)) (v := .int .i64 (max va.2 vb.2)) (by omega : _ < W0.heap.size) (by omega) (by omega) hS
    refine hK.out _ _ hS (fun _ => ?_)
    clear hK K
    try simp only [Act.put, sA, sB, sC]
    refine wpAnyH_done (by kernel_rfl) ?_ _
    obtain ⟨q0, q1⟩ := set2 (.int .i64 (min va.1 vb.1)) (.int .i64 (max va.2 vb.2)) x0 x1
    go_wp2_with fail
    go_meet
    exact ⟨_, rfl, bx, by simpa [World.setCell] using nx, by rw [← HV.out]; exact q0, by rw [← HV.out]; exact q1, by simp [go_sem, fx0], by simp [go_sem, fx1], hS.1, hS.2.1, hS.2.2⟩
  case rest =>
    clear y0 y1 hk2 hzz c4 c4' HV
    obtain ⟨gx, hsl, hv⟩ := hcut
    subst hsl
    have HV0 := Lib.hid (show Vx a b w ((xs.take 0).foldl (vsJ a b) s0) (.pointer (some ⟨gx, 0, none⟩)) _ from ⟨gx, rfl, hv⟩)
    clear hv
    go_wp2_with fail
    go_loopw [45] (fun i wr => ∃ k : Nat, k ≤ n ∧ i = .int .i64 k ∧ Vx a b w ((xs.take k).foldl (vsJ a b) s0) (.pointer (some ⟨gx, 0, none⟩)) wr) (fun i _ => n - (RowKit.intOf i).toNat)
    case atStart => exact ⟨0, Nat.zero_le _, rfl, HV0.out⟩
    case round =>
      clear HV0
      obtain ⟨k, hk, rfl, gx', hge, hbx, hnx, x0, x1, fx0, fx1, e0, e1, hkp⟩ := hrel
      obtain rfl : gx = gx' := by injection hge with hge; injection hge with hge; injection hge
      clear hge
      by_cases hlt : k < n
      · obtain ⟨p, hp⟩ : ∃ p, xs[k]? = some p := ⟨_, List.getElem?_eq_getElem (by rw [Hn.out]; omega)⟩
        obtain ⟨p0, p1⟩ := (HR.out.below hkp.1 hg) k p hp
        have hnext : Hid ((xs.take (k + 1)).foldl (vsJ a b) s0 = vsJ a b ((xs.take k).foldl (vsJ a b) s0) p) := Lib.hid (by rw [take_snocV xs k p hp, List.foldl_append]; rfl)
        generalize (xs.take k).foldl (vsJ a b) s0 = s at *
        have hk0 : (0 : Int) ≤ (k : Int) := by omega
        have hgr := Nat.lt_of_lt_of_le hg hkp.1.size
        have hwr : w.heap.size < wr.heap.size := by have := hkp.2.1; omega
        have z0 : ∀ o, (wr.alloc o).cell? ⟨w.heap.size, 0, none⟩ = _ := fun o => (((Below.refl wr.heap.size wr).alloc (Nat.le_refl _) o).cell (p := ⟨w.heap.size, 0, none⟩) hwr).trans e0
        have z1 : ∀ o, (wr.alloc o).cell? ⟨w.heap.size, 1, none⟩ = _ := fun o => (((Below.refl wr.heap.size wr).alloc (Nat.le_refl _) o).cell (p := ⟨w.heap.size, 1, none⟩) hwr).trans e1
        have z2 : ∀ o, (wr.alloc o).cell? ⟨gx, 0, none⟩ = _ := fun o => (((Below.refl wr.heap.size wr).alloc (Nat.le_refl _) o).cell (p := ⟨gx, 0, none⟩) hnx).trans x0
        have z3 : ∀ o, (wr.alloc o).cell? ⟨gx, 1, none⟩ = _ := fun o => (((Below.refl wr.heap.size wr).alloc (Nat.le_refl _) o).cell (p := ⟨gx, 1, none⟩) hnx).trans x1
        clear hp
        by_cases hin : a < p.1 ∧ p.1 < b
        · have hn2 := Lib.hid (hnext.out.trans (show vsJ a b s p = (min s.1 p.2, max s.2 p.2) from if_pos hin))
          obtain ⟨i1, i2⟩ := hin
          clear hnext
          go_wp2_with fail
          refine (hull_one s.1 s.2 p.2 p.2 _ _ ?_ ?_ ?_).mono ?_
          · simp
          · simp [go_sem]
          · simp [go_sem]
          rintro e w5 ⟨rfl, hb5⟩
          replace hb5 := below2 hb5
          replace x0 := cell_next hb5 hnx x0
          replace x1 := cell_next hb5 hnx x1
          replace fx0 := frozen_next hb5 hnx fx0
          replace fx1 := frozen_next hb5 hnx fx1
          obtain ⟨e0', e1', hkp'⟩ := keep2 hb5 (Nat.le_succ _) ⟨e0, e1, hkp⟩
          have hnx' := Nat.lt_of_lt_of_le hnx hb5.size
          obtain ⟨q0, q1⟩ := set2 (.int .i64 (min s.1 p.2)) (.int .i64 (max s.2 p.2)) x0 x1
          have hS := keep2_far (u := .int .i64 (min s.1 p.2)) (v := .int .i64 (max s.2 p.2)) (by omega : w.heap.size < gx) hbx (by omega) ⟨e0', e1', hkp'⟩
          have g0 : ((w5.setCell ⟨gx, 0, none⟩ (.int .i64 (min s.1 p.2))).setCell ⟨gx, 1, none⟩ (.int .i64 (max s.2 p.2))).frozen? ⟨gx, 0, none⟩ = false := by simp [go_sem, fx0]
          have g1 : ((w5.setCell ⟨gx, 0, none⟩ (.int .i64 (min s.1 p.2))).setCell ⟨gx, 1, none⟩ (.int .i64 (max s.2 p.2))).frozen? ⟨gx, 1, none⟩ = false := by simp [go_sem, fx1]
          clear z0 z1 z2 z3 hb5 e0 e1 hkp e0' e1' hkp' p0 p1
          have hS := Lib.hid hS
          have q0 := Lib.hid q0
          have q1 := Lib.hid q1
          have g0 := Lib.hid g0
          have g1 := Lib.hid g1
          go_wp2_with fail
          go_roundw
          case rel => exact ⟨k + 1, by omega, by go_num, gx, rfl, hbx, by simpa [World.setCell] using hnx', by rw [hn2.out]; exact q0.out, by rw [hn2.out]; exact q1.out, g0.out, g1.out, hS.out⟩
          case measure => simp [RowKit.intOf]; omega
        · have hn2 := Lib.hid (hnext.out.trans (show vsJ a b s p = s from if_neg hin))
          clear hnext
          have hb1 := (Below.refl wr.heap.size wr).alloc (Nat.le_refl _) (.cells #[.int .i64 p.1, .int .i64 p.2] 39)
          have x0' := cell_next hb1 hnx x0
          have x1' := cell_next hb1 hnx x1
          have fx0' := frozen_next hb1 hnx fx0
          have fx1' := frozen_next hb1 hnx fx1
          obtain ⟨e0', e1', hkp'⟩ := keep2 hb1 (Nat.le_succ _) ⟨e0, e1, hkp⟩
          have hnx' := Nat.lt_of_lt_of_le hnx hb1.size
          have hall := Lib.hid (And.intro hnx' (And.intro x0' (And.intro x1' (And.intro fx0' (And.intro fx1' (And.intro e0' (And.intro e1' hkp')))))))
          clear x0' x1' fx0' fx1' e0' e1' hkp' hnx' hb1
          rcases (by omega : p.1 ≤ a ∨ a < p.1 ∧ b ≤ p.1) with i1 | ⟨i1, i2⟩
          · have t1 : decide (a < p.1) = false := by simp; omega
            go_wp2_with fail
            go_roundw
            case rel => exact ⟨k + 1, by omega, by go_num, gx, rfl, hbx, hall.out.1, by rw [hn2.out]; exact hall.out.2.1, by rw [hn2.out]; exact hall.out.2.2.1, hall.out.2.2.2.1, hall.out.2.2.2.2.1, hall.out.2.2.2.2.2⟩
            case measure => simp [RowKit.intOf]; omega
          · have t1 : decide (a < p.1) = true := by simp; omega
            have t2 : decide (p.1 < b) = false := by simp; omega
            go_wp2_with fail
            go_roundw
            case rel => exact ⟨k + 1, by omega, by go_num, gx, rfl, hbx, hall.out.1, by rw [hn2.out]; exact hall.out.2.1, by rw [hn2.out]; exact hall.out.2.2.1, hall.out.2.2.2.1, hall.out.2.2.2.2.1, hall.out.2.2.2.2.2⟩
            case measure => simp [RowKit.intOf]; omega
      · obtain rfl : k = n := by omega
        have hT : (xs.take k).foldl (vsJ a b) s0 = res := by rw [HD.out, List.take_of_length_le (by rw [Hn.out]; exact Nat.le_refl _)]
        rw [hT] at x0 x1
        clear hT
        obtain ⟨hB, nz, ⟨u0, r0⟩, ⟨u1, r1⟩, f0, f1⟩ := hkp
        obtain ⟨t0, t1⟩ := set2 (.int .i64 res.1) (.int .i64 res.2) r0 r1
        have hB2 := Lib.hid ((hB.setCell (p := ⟨w.heap.size + 1, 0, none⟩) (Nat.le_succ _) (.int .i64 res.1)).setCell (p := ⟨w.heap.size + 1, 1, none⟩) (Nat.le_succ _) (.int .i64 res.2))
        clear hB
        go_wp2_with fail
        refine bodyPost_ret (v := .tuple #[.agg #[.int .i64 res.1, .int .i64 res.2], .int .i64 0]) (by simp [results, Tryz.results49, go_sem, t0, t1]) rfl ⟨rfl, hB2.out⟩

/-- the error of Values, and what it returns -/
def vlE (xs : List (Int × Int)) (a b : Int) : Int := if tabE xs = 0 then (if vrB a b = true then (if covB xs a = true ∧ covB xs b = true then 0 else 3) else 2) else tabE xs
noncomputable def vlR (xs : List (Int × Int)) (a b : Int) : Int × Int := if vlE xs a b = 0 then valsV xs a b else (0, 0)
set_option maxRecDepth 20000 in
set_option maxHeartbeats 2000000 in
theorem values_any (v : Value) (xs : List (Int × Int)) (a b : Int) (w : World) (hv : SetAt w.heap.size w v xs) :
    Calls Tryz.prog 49 #[v, .agg #[.int .i64 a, .int .i64 b]] w fun e w' => e = .returned (.tuple #[.agg #[.int .i64 (vlR xs a b).1, .int .i64 (vlR xs a b).2], .int .i64 (vlE xs a b)]) ∧ Below w.heap.size w w' := by
  have c1 := Lib.hid (fun (W : World) (h : Below w.heap.size w W) => checkTable_any v xs W ((hv.below h (Nat.le_refl _)).mono h.size))
  have c2 := Lib.hid (validRange_any a b)
  by_cases ht : tabE xs = 0
  · have hT := tabOk_of ht
    obtain ⟨A, c, rfl, h⟩ := hv
    obtain ⟨g, off, rfl, hg, hr⟩ := h (by have := hT.1; omega)
    by_cases hab : vrB a b = true
    · by_cases hca : covB xs a = true
      · by_cases hcb : covB xs b = true
        · have e1 : vlE xs a b = 0 := by unfold vlE; rw [if_pos ht, if_pos hab, if_pos ⟨hca, hcb⟩]
          have e2 : vlR xs a b = valsV xs a b := by unfold vlR; rw [if_pos e1]
          rw [e1, e2]
          exact values_ok xs a b g off c ht hab hca hcb w hg hr
        · have e1 : vlE xs a b = 3 := by unfold vlE; rw [if_pos ht, if_pos hab, if_neg (fun h => hcb h.2)]
          have e2 : vlR xs a b = (0, 0) := by unfold vlR; rw [e1]; rfl
          rw [e1, e2]
          have c3 := Lib.hid (fun (W : World) (h : Below w.heap.size w W) => covers_any xs a g off c hT.1 hT.2.1 W (Nat.lt_of_lt_of_le hg h.size) (hr.below h hg))
          have c4 := Lib.hid (fun (W : World) (h : Below w.heap.size w W) => covers_any xs b g off c hT.1 hT.2.1 W (Nat.lt_of_lt_of_le hg h.size) (hr.below h hg))
          rw [Bool.not_eq_true] at hcb
          rw [hca] at c3
          rw [hcb] at c4
          rw [ht] at c1
          rw [hab] at c2
          generalize xs.length = n at *
          clear h hr hT ht hab hca hcb e1 e2
          go_enter Tryz.func49, Tryz.ntmps49
          go_wp2_with fail
          refine (c1.out _ (((Below.refl _ _).alloc (Nat.le_refl _) _).alloc (by simp) _)).mono ?_
          rintro e W1 ⟨rfl, hb⟩
          have p0 := cell_next hb (b := w.heap.size) (o := 0) (by simp <;> omega) (v := some (.int .i64 a)) (by simp [go_sem])
          have p1 := cell_next hb (b := w.heap.size) (o := 1) (by simp <;> omega) (v := some (.int .i64 b)) (by simp [go_sem])
          have np : w.heap.size < W1.heap.size := by have := hb.size; simp at this; omega
          have r0 := cell_next hb (b := w.heap.size + 1) (o := 0) (by simp <;> omega) (v := some (.int .i64 0)) (by simp [go_sem])
          have fr0 := frozen_next hb (b := w.heap.size + 1) (o := 0) (by simp <;> omega) (v := false) (by simp [go_sem])
          have r1 := cell_next hb (b := w.heap.size + 1) (o := 1) (by simp <;> omega) (v := some (.int .i64 0)) (by simp [go_sem])
          have fr1 := frozen_next hb (b := w.heap.size + 1) (o := 1) (by simp <;> omega) (v := false) (by simp [go_sem])
          have nr : w.heap.size + 1 < W1.heap.size := by have := hb.size; simp at this; omega
          have hB := (below2 hb)
          clear hb
          go_wp2_with fail
          refine (c2.out _).mono ?_
          rintro e W2 ⟨rfl, hb⟩
          replace p0 := cell_next hb np p0
          replace p1 := cell_next hb np p1
          replace np := Nat.lt_of_lt_of_le np hb.size
          replace r0 := cell_next hb nr r0
          replace fr0 := frozen_next hb nr fr0
          replace r1 := cell_next hb nr r1
          replace fr1 := frozen_next hb nr fr1
          replace nr := Nat.lt_of_lt_of_le nr hb.size
          replace hB := hB.trans (hb.mono hB.size)
          clear hb
          go_wp2_with fail
          refine (c3.out _ hB).mono ?_
          rintro e W3 ⟨rfl, hb⟩
          replace p0 := cell_next hb np p0
          replace p1 := cell_next hb np p1
          replace np := Nat.lt_of_lt_of_le np hb.size
          replace r0 := cell_next hb nr r0
          replace fr0 := frozen_next hb nr fr0
          replace r1 := cell_next hb nr r1
          replace fr1 := frozen_next hb nr fr1
          replace nr := Nat.lt_of_lt_of_le nr hb.size
          replace hB := hB.trans (hb.mono hB.size)
          clear hb
          go_wp2_with fail
          refine (c4.out _ hB).mono ?_
          rintro e W4 ⟨rfl, hb⟩
          replace p0 := cell_next hb np p0
          replace p1 := cell_next hb np p1
          replace np := Nat.lt_of_lt_of_le np hb.size
          replace r0 := cell_next hb nr r0
          replace fr0 := frozen_next hb nr fr0
          replace r1 := cell_next hb nr r1
          replace fr1 := frozen_next hb nr fr1
          replace nr := Nat.lt_of_lt_of_le nr hb.size
          replace hB := hB.trans (hb.mono hB.size)
          clear hb
          go_wp2_with fail
          refine bodyPost_ret (v := .tuple #[.agg #[.int .i64 0, .int .i64 0], .int .i64 3]) (by simp [results, Tryz.results49, go_sem, r0, r1, fr0, fr1]) rfl ⟨rfl, ?_⟩
          exact ((hB.setCell (p := ⟨w.heap.size + 1, 0, none⟩) (by simp <;> omega) _).setCell (p := ⟨w.heap.size + 1, 1, none⟩) (by simp <;> omega) _)
      · have e1 : vlE xs a b = 3 := by unfold vlE; rw [if_pos ht, if_pos hab, if_neg (fun h => hca h.1)]
        have e2 : vlR xs a b = (0, 0) := by unfold vlR; rw [e1]; rfl
        rw [e1, e2]
        have c3 := Lib.hid (fun (W : World) (h : Below w.heap.size w W) => covers_any xs a g off c hT.1 hT.2.1 W (Nat.lt_of_lt_of_le hg h.size) (hr.below h hg))
        rw [Bool.not_eq_true] at hca
        rw [hca] at c3
        rw [ht] at c1
        rw [hab] at c2
        generalize xs.length = n at *
        clear h hr hT ht hab hca e1 e2
        go_enter Tryz.func49, Tryz.ntmps49
        go_wp2_with fail
        refine (c1.out _ (((Below.refl _ _).alloc (Nat.le_refl _) _).alloc (by simp) _)).mono ?_
        rintro e W1 ⟨rfl, hb⟩
        have p0 := cell_next hb (b := w.heap.size) (o := 0) (by simp <;> omega) (v := some (.int .i64 a)) (by simp [go_sem])
        have p1 := cell_next hb (b := w.heap.size) (o := 1) (by simp <;> omega) (v := some (.int .i64 b)) (by simp [go_sem])
        have np : w.heap.size < W1.heap.size := by have := hb.size; simp at this; omega
        have r0 := cell_next hb (b := w.heap.size + 1) (o := 0) (by simp <;> omega) (v := some (.int .i64 0)) (by simp [go_sem])
        have fr0 := frozen_next hb (b := w.heap.size + 1) (o := 0) (by simp <;> omega) (v := false) (by simp [go_sem])
        have r1 := cell_next hb (b := w.heap.size + 1) (o := 1) (by simp <;> omega) (v := some (.int .i64 0)) (by simp [go_sem])
        have fr1 := frozen_next hb (b := w.heap.size + 1) (o := 1) (by simp <;> omega) (v := false) (by simp [go_sem])
        have nr : w.heap.size + 1 < W1.heap.size := by have := hb.size; simp at this; omega
        have hB := (below2 hb)
        clear hb
        go_wp2_with fail
        refine (c2.out _).mono ?_
        rintro e W2 ⟨rfl, hb⟩
        replace p0 := cell_next hb np p0
        replace p1 := cell_next hb np p1
        replace np := Nat.lt_of_lt_of_le np hb.size
        replace r0 := cell_next hb nr r0
        replace fr0 := frozen_next hb nr fr0
        replace r1 := cell_next hb nr r1
        replace fr1 := frozen_next hb nr fr1
        replace nr := Nat.lt_of_lt_of_le nr hb.size
        replace hB := hB.trans (hb.mono hB.size)
        clear hb
        go_wp2_with fail
        refine (c3.out _ hB).mono ?_
        rintro e W3 ⟨rfl, hb⟩
        replace p0 := cell_next hb np p0
        replace p1 := cell_next hb np p1
        replace np := Nat.lt_of_lt_of_le np hb.size
        replace r0 := cell_next hb nr r0
        replace fr0 := frozen_next hb nr fr0
        replace r1 := cell_next hb nr r1
        replace fr1 := frozen_next hb nr fr1
        replace nr := Nat.lt_of_lt_of_le nr hb.size
        replace hB := hB.trans (hb.mono hB.size)
        clear hb
        go_wp2_with fail
        refine bodyPost_ret (v := .tuple #[.agg #[.int .i64 0, .int .i64 0], .int .i64 3]) (by simp [results, Tryz.results49, go_sem, r0, r1, fr0, fr1]) rfl ⟨rfl, ?_⟩
        exact ((hB.setCell (p := ⟨w.heap.size + 1, 0, none⟩) (by simp <;> omega) _).setCell (p := ⟨w.heap.size + 1, 1, none⟩) (by simp <;> omega) _)
    · have e1 : vlE xs a b = 2 := by unfold vlE; rw [if_pos ht, if_neg hab]
      have e2 : vlR xs a b = (0, 0) := by unfold vlR; rw [e1]; rfl
      rw [e1, e2]
      rw [Bool.not_eq_true] at hab
      rw [ht] at c1
      rw [hab] at c2
      generalize xs.length = n at *
      clear h hr hT ht hab e1 e2
      go_enter Tryz.func49, Tryz.ntmps49
      go_wp2_with fail
      refine (c1.out _ (((Below.refl _ _).alloc (Nat.le_refl _) _).alloc (by simp) _)).mono ?_
      rintro e W1 ⟨rfl, hb⟩
      have p0 := cell_next hb (b := w.heap.size) (o := 0) (by simp <;> omega) (v := some (.int .i64 a)) (by simp [go_sem])
      have p1 := cell_next hb (b := w.heap.size) (o := 1) (by simp <;> omega) (v := some (.int .i64 b)) (by simp [go_sem])
      have np : w.heap.size < W1.heap.size := by have := hb.size; simp at this; omega
      have r0 := cell_next hb (b := w.heap.size + 1) (o := 0) (by simp <;> omega) (v := some (.int .i64 0)) (by simp [go_sem])
      have fr0 := frozen_next hb (b := w.heap.size + 1) (o := 0) (by simp <;> omega) (v := false) (by simp [go_sem])
      have r1 := cell_next hb (b := w.heap.size + 1) (o := 1) (by simp <;> omega) (v := some (.int .i64 0)) (by simp [go_sem])
      have fr1 := frozen_next hb (b := w.heap.size + 1) (o := 1) (by simp <;> omega) (v := false) (by simp [go_sem])
      have nr : w.heap.size + 1 < W1.heap.size := by have := hb.size; simp at this; omega
      have hB := (below2 hb)
      clear hb
      go_wp2_with fail
      refine (c2.out _).mono ?_
      rintro e W2 ⟨rfl, hb⟩
      replace p0 := cell_next hb np p0
      replace p1 := cell_next hb np p1
      replace np := Nat.lt_of_lt_of_le np hb.size
      replace r0 := cell_next hb nr r0
      replace fr0 := frozen_next hb nr fr0
      replace r1 := cell_next hb nr r1
      replace fr1 := frozen_next hb nr fr1
      replace nr := Nat.lt_of_lt_of_le nr hb.size
      replace hB := hB.trans (hb.mono hB.size)
      clear hb
      go_wp2_with fail
      refine bodyPost_ret (v := .tuple #[.agg #[.int .i64 0, .int .i64 0], .int .i64 2]) (by simp [results, Tryz.results49, go_sem, r0, r1, fr0, fr1]) rfl ⟨rfl, ?_⟩
      exact ((hB.setCell (p := ⟨w.heap.size + 1, 0, none⟩) (by simp <;> omega) _).setCell (p := ⟨w.heap.size + 1, 1, none⟩) (by simp <;> omega) _)
  · have e1 : vlE xs a b = tabE xs := by unfold vlE; rw [if_neg ht]
    have e2 : vlR xs a b = (0, 0) := by unfold vlR; rw [if_neg (by rw [e1]; exact ht)]
    rw [e1, e2]
    have hne : (tabE xs != 0) = true := by simpa using ht
    obtain ⟨A, c, rfl, _⟩ := hv
    generalize tabE xs = s at *
    generalize xs.length = n at *
    clear ht e1 e2
    go_enter Tryz.func49, Tryz.ntmps49
    go_wp2_with fail
    refine (c1.out _ (((Below.refl _ _).alloc (Nat.le_refl _) _).alloc (by simp) _)).mono ?_
    rintro e W1 ⟨rfl, hb⟩
    have p0 := cell_next hb (b := w.heap.size) (o := 0) (by simp <;> omega) (v := some (.int .i64 a)) (by simp [go_sem])
    have p1 := cell_next hb (b := w.heap.size) (o := 1) (by simp <;> omega) (v := some (.int .i64 b)) (by simp [go_sem])
    have np : w.heap.size < W1.heap.size := by have := hb.size; simp at this; omega
    have r0 := cell_next hb (b := w.heap.size + 1) (o := 0) (by simp <;> omega) (v := some (.int .i64 0)) (by simp [go_sem])
    have fr0 := frozen_next hb (b := w.heap.size + 1) (o := 0) (by simp <;> omega) (v := false) (by simp [go_sem])
    have r1 := cell_next hb (b := w.heap.size + 1) (o := 1) (by simp <;> omega) (v := some (.int .i64 0)) (by simp [go_sem])
    have fr1 := frozen_next hb (b := w.heap.size + 1) (o := 1) (by simp <;> omega) (v := false) (by simp [go_sem])
    have nr : w.heap.size + 1 < W1.heap.size := by have := hb.size; simp at this; omega
    have hB := (below2 hb)
    clear hb
    go_wp2_with fail
    refine bodyPost_ret (v := .tuple #[.agg #[.int .i64 0, .int .i64 0], .int .i64 s]) (by simp [results, Tryz.results49, go_sem, r0, r1, fr0, fr1]) rfl ⟨rfl, ?_⟩
    exact ((hB.setCell (p := ⟨w.heap.size + 1, 0, none⟩) (by simp <;> omega) _).setCell (p := ⟨w.heap.size + 1, 1, none⟩) (by simp <;> omega) _)
end Go.Proofs.YtgklpbgdimkhaaaGreat

