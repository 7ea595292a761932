/- Contracts: the reference's values of a table in a range. -/
import Derived.Test.YtjmgmjaeknanaaaGreatC32
import Derived.Test.YtjmgmjaeknanaaaGreatKA6
namespace Go.Proofs.YtjmgmjaeknanaaaGreat
open Go.RowKit Go.Lib Go.Shelf
set_option linter.unusedVariables false
set_option linter.unusedSimpArgs false
attribute [local go_sem ↓] Go.wp_at_zero Go.wp_at_succ

theorem frozen_far {w : World} {b c o : Nat} {z : Bool} (x y : Value) (h : w.frozen? ⟨c, o, none⟩ = z) : ((w.setCell ⟨b, 0, none⟩ x).setCell ⟨b, 1, none⟩ y).frozen? ⟨c, o, none⟩ = z := by simp [go_sem, h]
theorem size_far {w : World} {b c : Nat} (x y : Value) (h : c < w.heap.size) : c < ((w.setCell ⟨b, 0, none⟩ x).setCell ⟨b, 1, none⟩ y).heap.size := by simpa [World.setCell] using h
/-- both values lie in blocks of the call's own -/
def Vy (a b : Int) (w : World) (va vb : Int × Int) (s5 s6 : Value) (W : World) : Prop :=
  ∃ gl gh, s5 = .pointer (some ⟨gl, 0, none⟩) ∧ s6 = .pointer (some ⟨gh, 0, none⟩) ∧ gl < W.heap.size ∧ gh < W.heap.size ∧ W.cell? ⟨gl, 0, none⟩ = some (.int .i64 va.1) ∧ W.cell? ⟨gl, 1, none⟩ = some (.int .i64 va.2) ∧
    W.cell? ⟨gh, 0, none⟩ = some (.int .i64 vb.1) ∧ W.cell? ⟨gh, 1, none⟩ = some (.int .i64 vb.2) ∧ W.cell? ⟨w.heap.size, 0, none⟩ = some (.int .i64 a) ∧ W.cell? ⟨w.heap.size, 1, none⟩ = some (.int .i64 b) ∧ Kp (w.heap.size + 1) w W
theorem vy_vx {a b : Int} {w W : World} {va vb : Int × Int} {s5 s6 : Value} (h : Vy a b w va vb s5 s6 W) (s : Int × Int) : Vx a b w s (.pointer (some ⟨W.heap.size, 0, none⟩)) (W.alloc (.cells #[.int .i64 s.1, .int .i64 s.2] 24)) := by
  obtain ⟨gl, gh, _, _, nl, nh, l0, l1, h0, h1, hS⟩ := h
  have hb := (Below.refl W.heap.size W).alloc (Nat.le_refl _) (.cells #[.int .i64 s.1, .int .i64 s.2] 24)
  obtain ⟨e0, e1, hk⟩ := keep2 hb (Nat.le_succ _) hS
  exact ⟨_, rfl, hS.2.2.2.1, by simp, cell_new _ _ _ 0, cell_new _ _ _ 1, by simp [go_sem], by simp [go_sem], e0, e1, hk⟩
theorem vy_vx' {a b : Int} {w W : World} {va vb : Int × Int} {s5 s6 : Value} (h : Vy a b w va vb s5 s6 W) (s : Int × Int) : ∃ gx, gx = W.heap.size ∧ Vx a b w s (.pointer (some ⟨gx, 0, none⟩)) (W.alloc (.cells #[.int .i64 s.1, .int .i64 s.2] 24)) :=
  ⟨_, rfl, vy_vx h s⟩
theorem vx_drewN {a b : Int} {w W : World} {s : Int × Int} {v : Value} (h : Vx a b w s v W) (n : Nat) : Vx a b w s v (W.drewN n) := by
  obtain ⟨gx, rfl, h1, h2, h3, h4, h5, h6, h7, h8, h9, h10, h11, h12, h13, h14⟩ := h
  exact ⟨gx, rfl, h1, h2, h3, h4, h5, h6, h7, h8, below_drewN h9 n, h10, h11, h12, h13, h14⟩
theorem vx_drew {a b : Int} {w W : World} {s : Int × Int} {v : Value} (h : Vx a b w s v W) : Vx a b w s v W.drew := by
  obtain ⟨gx, rfl, h1, h2, h3, h4, h5, h6, h7, h8, h9, h10, h11, h12, h13, h14⟩ := h
  exact ⟨gx, rfl, h1, h2, h3, h4, h5, h6, h7, h8, h9.drew, h10, h11, h12, h13, h14⟩
theorem vx_set {a b : Int} {w W : World} {s : Int × Int} {g : Nat} (h : Vx a b w s (.pointer (some ⟨g, 0, none⟩)) W) (q : Int × Int) : Vx a b w q (.pointer (some ⟨g, 0, none⟩)) ((W.setCell ⟨g, 0, none⟩ (.int .i64 q.1)).setCell ⟨g, 1, none⟩ (.int .i64 q.2)) := by
  obtain ⟨gx, hge, h1, h2, h3, h4, h5, h6, h7, h8, hk⟩ := h
  obtain rfl : g = gx := by injection hge with hge; injection hge with hge; injection hge
  obtain ⟨t0, t1⟩ := set2 (.int .i64 q.1) (.int .i64 q.2) h3 h4
  obtain ⟨e0, e1, hk'⟩ := keep2_far (u := .int .i64 q.1) (v := .int .i64 q.2) (by omega : w.heap.size < g) h1 (by omega) ⟨h7, h8, hk⟩
  exact ⟨g, rfl, h1, size_far _ _ h2, t0, t1, frozen_far _ _ h5, frozen_far _ _ h6, e0, e1, hk'⟩
theorem vrun_min2 {P : Program} (tys : Array TypeId) (ty : TypeId) (k : IntKind) (x y : Int) (w : World) : (Builtin.min_ tys ty #[.int k x, .int k y]).run P w = .ok (.int k (min x y)) w := by
  simp [Builtin.min_, Builtin.min2]
  split <;> omega
theorem vrun_max2 {P : Program} (tys : Array TypeId) (ty : TypeId) (k : IntKind) (x y : Int) (w : World) : (Builtin.max_ tys ty #[.int k x, .int k y]).run P w = .ok (.int k (max x y)) w := by
  simp [Builtin.max_, Builtin.max2]
  split <;> omega
set_option maxRecDepth 20000 in
set_option maxHeartbeats 8000000 in
theorem rValues_at (xs : List (Int × Int)) (a b : Int) (g off c : Nat) (hT : TabOk xs) (hca : covB xs a = true) (hcb : covB xs b = true) (w : World) (hg : g < w.heap.size) (hr : RRd w g off xs) :
    Calls Tryz.prog 57 #[.slice (some ⟨g, off, none⟩) xs.length c, .agg #[.int .i64 a, .int .i64 b]] w fun e w' => e = .returned (.agg #[.int .i64 (valsV xs a b).1, .int .i64 (valsV xs a b).2]) ∧ Below w.heap.size w w' := by
  have c4 := Lib.hid (fun (W : World) (h : Below w.heap.size w W) => rValue_any xs a g off c hT hca W (Nat.lt_of_lt_of_le hg h.size) (hr.below h hg))
  have c4' := Lib.hid (fun (W : World) (h : Below w.heap.size w W) => rValue_any xs b g off c hT hcb W (Nat.lt_of_lt_of_le hg h.size) (hr.below h hg))
  have HV : Hid ((min (valV xs a).1 (valV xs b).1, max (valV xs a).2 (valV xs b).2) = vs0 xs a b) := Lib.hid rfl
  have HD : Hid (valsV xs a b = xs.foldl (vsK a b) (vs0 xs a b)) := Lib.hid (vs_same hT a b).symm
  have HR := Lib.hid hr
  have hn60 := hT.2.1
  generalize valsV xs a b = res at *
  generalize vs0 xs a b = s0 at *
  generalize valV xs a = va at *
  generalize valV xs b = vb at *
  obtain ⟨n, hn⟩ : ∃ n, xs.length = n := ⟨_, rfl⟩
  rw [hn] at c4 c4' hn60 ⊢
  have Hn := Lib.hid hn
  clear hn hT hca hcb hr
  have hS : ((w.alloc (.cells #[.int .i64 a, .int .i64 b] 24)).alloc (.cells #[.int .i64 0, .int .i64 0] 24)).cell? ⟨w.heap.size, 0, none⟩ = some (.int .i64 a) ∧ ((w.alloc (.cells #[.int .i64 a, .int .i64 b] 24)).alloc (.cells #[.int .i64 0, .int .i64 0] 24)).cell? ⟨w.heap.size, 1, none⟩ = some (.int .i64 b) ∧ Kp (w.heap.size + 1) w ((w.alloc (.cells #[.int .i64 a, .int .i64 b] 24)).alloc (.cells #[.int .i64 0, .int .i64 0] 24)) :=
    ⟨by simp [go_sem], by simp [go_sem], ((Below.refl _ _).alloc (Nat.le_refl _) _).alloc (by simp) _, by simp, ⟨.int .i64 0, by simp [go_sem]⟩, ⟨.int .i64 0, by simp [go_sem]⟩, by simp [go_sem], by simp [go_sem]⟩
  have HS := Lib.hid hS
  clear hS
  go_enter Tryz.func57, Tryz.ntmps57
  go_upto_region 1 with fail
  go_cut [5, 6] (fun s5 s6 wx => Vy a b w va vb s5 s6 wx)
  case first =>
    have hS := HS.out
    clear HS
    have d4 := Lib.hid (fun (W : World) (h : W.cell? ⟨w.heap.size, 0, none⟩ = some (.int .i64 a) ∧ W.cell? ⟨w.heap.size, 1, none⟩ = some (.int .i64 b) ∧ Kp (w.heap.size + 1) w W) => c4.out W h.2.2.1)
    have d4' := Lib.hid (fun (W : World) (h : W.cell? ⟨w.heap.size, 0, none⟩ = some (.int .i64 a) ∧ W.cell? ⟨w.heap.size, 1, none⟩ = some (.int .i64 b) ∧ Kp (w.heap.size + 1) w W) => c4'.out W h.2.2.1)
    clear c4 c4'
    refine wp_region_held_drew (S := fun w' => w'.cell? ⟨w.heap.size, 0, none⟩ = some (.int .i64 a) ∧ w'.cell? ⟨w.heap.size, 1, none⟩ = some (.int .i64 b) ∧ Kp (w.heap.size + 1) w w') (by kernel_rfl) ?_ (fun hHeld => ?_)
    focus (exact keep2 (Below.drew (Below.refl _ _)) (Nat.le_succ _) hS)
    clear hS
    refine tk 0 9 ?_ rfl rfl (by kernel_rfl) (fun _ _ _ h => h) ⟨by rfl, ?_⟩ (by assumption) ?_; rotate_left; (focus intro w h; (try dsimp only at h); go_simp; try with_reducible rfl); try simp only [sA, sB, sC]
    refine tk 1 10 ?_ rfl rfl (by kernel_rfl) (fun _ _ _ h => h) ⟨by rfl, ?_⟩ (by assumption) ?_; rotate_left; (focus intro w h; (try dsimp only at h); go_simp; try with_reducible rfl); try simp only [sA, sB, sC]
    refine tk 2 11 ?_ rfl rfl (by kernel_rfl) (fun _ _ _ h => h) ⟨by rfl, ?_⟩ (by assumption) ?_; rotate_left; (focus intro w h; (try dsimp only at h); go_simp; try with_reducible rfl); try simp only [sA, sB, sC]
    refine tk 4 13 ?_ rfl rfl (by kernel_rfl) (fun _ _ _ h => h) ⟨by rfl, ?_⟩ (by assumption) ?_; rotate_left; (focus intro w h; (try dsimp only at h); go_simp; try with_reducible rfl); try simp only [sA, sB, sC]
    refine tk 5 14 ?_ rfl rfl (by kernel_rfl) (fun _ _ _ h => h) ⟨by rfl, ?_⟩ (by assumption) ?_; rotate_left; (focus intro w h; (try dsimp only at h); go_simp; try with_reducible rfl); try simp only [sA, sB, sC]
    refine tk 6 15 ?_ rfl rfl (by kernel_rfl) (fun _ _ _ h => h) ⟨by rfl, ?_⟩ (by assumption) ?_; rotate_left; (focus intro w h; (try dsimp only at h); go_simp; try with_reducible rfl); try simp only [sA, sB, sC]
    have hS := hHeld
    clear hHeld
    generalize World.drew _ = W0 at *
    refine wpAnyH_ready (rs := [3, 8, 9]) (by kernel_rfl) (by simp) ?_
    refine AllReadyH.cons rfl (fun K hK => ?_) ?_
    · go_simp
      refine (d4.out _ hS).mono ?_
      rintro e X1 ⟨rfl, hb⟩
      replace hS := keep2 hb (Nat.le_succ _) hS
      refine hK.out _ _ hS (fun _ => ?_)
      clear hK K hb
      try simp only [Act.put, sA, sB, sC]
      refine wpAnyH_ready (rs := [7, 8, 9]) (by kernel_rfl) (by simp) ?_
      refine AllReadyH.cons rfl (fun K hK => ?_) ?_
      · go_simp
        refine (d4'.out _ hS).mono ?_
        rintro e X2 ⟨rfl, hb⟩
        replace hS := keep2 hb (Nat.le_succ _) hS
        refine hK.out _ _ hS (fun _ => ?_)
        clear hK K hb
        try simp only [Act.put, sA, sB, sC]
        refine wpAnyH_ready (rs := [8, 9]) (by kernel_rfl) (by simp) ?_
        refine AllReadyH.cons rfl (fun K hK => ?_) ?_
        · go_simp
          have hb := (Below.refl X2.heap.size X2).alloc (Nat.le_refl _) (Obj.cells #[Value.int .i64 0, Value.int .i64 0] 24)
          have bl : w.heap.size + 1 < X2.heap.size := hS.2.2.2.1
          replace hS := keep2 hb (Nat.le_succ _) hS
          have l0 : (X2.alloc (Obj.cells #[Value.int .i64 0, Value.int .i64 0] 24)).cell? ⟨X2.heap.size, 0, none⟩ = some (Value.int .i64 0) := cell_new _ _ _ 0
          have fl0 : (X2.alloc (Obj.cells #[Value.int .i64 0, Value.int .i64 0] 24)).frozen? ⟨X2.heap.size, 0, none⟩ = false := by simp [go_sem]
          have l1 : (X2.alloc (Obj.cells #[Value.int .i64 0, Value.int .i64 0] 24)).cell? ⟨X2.heap.size, 1, none⟩ = some (Value.int .i64 0) := cell_new _ _ _ 1
          have fl1 : (X2.alloc (Obj.cells #[Value.int .i64 0, Value.int .i64 0] 24)).frozen? ⟨X2.heap.size, 1, none⟩ = false := by simp [go_sem]
          have nl : X2.heap.size < (X2.alloc (Obj.cells #[Value.int .i64 0, Value.int .i64 0] 24)).heap.size := by simp
          refine hK.out _ _ hS (fun _ => ?_)
          clear hK K hb
          generalize X2.alloc (Obj.cells #[Value.int .i64 0, Value.int .i64 0] 24) = X3 at *
          try simp only [Act.put, sA, sB, sC]
          refine wpAnyH_ready (rs := [9]) (by kernel_rfl) (by simp) ?_
          refine AllReadyH.cons rfl (fun K hK => ?_) AllReadyH.nil
          go_simp
          have hb := (Below.refl X3.heap.size X3).alloc (Nat.le_refl _) (Obj.cells #[Value.int .i64 0, Value.int .i64 0] 24)
          have bh : w.heap.size + 1 < X3.heap.size := hS.2.2.2.1
          have dlh : X2.heap.size < X3.heap.size := nl
          replace l0 := cell_next hb nl l0
          replace fl0 := frozen_next hb nl fl0
          replace l1 := cell_next hb nl l1
          replace fl1 := frozen_next hb nl fl1
          replace nl := Nat.lt_of_lt_of_le nl hb.size
          replace hS := keep2 hb (Nat.le_succ _) hS
          have h0 : (X3.alloc (Obj.cells #[Value.int .i64 0, Value.int .i64 0] 24)).cell? ⟨X3.heap.size, 0, none⟩ = some (Value.int .i64 0) := cell_new _ _ _ 0
          have fh0 : (X3.alloc (Obj.cells #[Value.int .i64 0, Value.int .i64 0] 24)).frozen? ⟨X3.heap.size, 0, none⟩ = false := by simp [go_sem]
          have h1 : (X3.alloc (Obj.cells #[Value.int .i64 0, Value.int .i64 0] 24)).cell? ⟨X3.heap.size, 1, none⟩ = some (Value.int .i64 0) := cell_new _ _ _ 1
          have fh1 : (X3.alloc (Obj.cells #[Value.int .i64 0, Value.int .i64 0] 24)).frozen? ⟨X3.heap.size, 1, none⟩ = false := by simp [go_sem]
          have nh : X3.heap.size < (X3.alloc (Obj.cells #[Value.int .i64 0, Value.int .i64 0] 24)).heap.size := by simp
          refine hK.out _ _ hS (fun _ => ?_)
          clear hK K hb
          generalize X3.alloc (Obj.cells #[Value.int .i64 0, Value.int .i64 0] 24) = X4 at *
          try simp only [Act.put, sA, sB, sC]
          refine wpAnyH_ready (rs := [10]) (by kernel_rfl) (by simp) ?_
          refine AllReadyH.cons rfl (fun K hK => ?_) AllReadyH.nil
          go_simp
          replace hS := keep2_far (u := .int .i64 va.1) (v := .int .i64 va.2) (by omega : _ < X2.heap.size) (by omega) (by omega) hS
          refine hK.out _ _ hS (fun _ => ?_)
          clear hK K
          replace h0 := set2_far (b := X2.heap.size) (.int .i64 va.1) (.int .i64 va.2) (by omega) h0
          replace fh0 := frozen_far (b := X2.heap.size) (.int .i64 va.1) (.int .i64 va.2) fh0
          replace h1 := set2_far (b := X2.heap.size) (.int .i64 va.1) (.int .i64 va.2) (by omega) h1
          replace fh1 := frozen_far (b := X2.heap.size) (.int .i64 va.1) (.int .i64 va.2) fh1
          obtain ⟨l0, l1⟩ := set2 (.int .i64 va.1) (.int .i64 va.2) l0 l1
          replace fl0 := frozen_far (b := X2.heap.size) (.int .i64 va.1) (.int .i64 va.2) fl0
          replace fl1 := frozen_far (b := X2.heap.size) (.int .i64 va.1) (.int .i64 va.2) fl1
          replace nl := size_far (b := X2.heap.size) (.int .i64 va.1) (.int .i64 va.2) nl
          replace nh := size_far (b := X2.heap.size) (.int .i64 va.1) (.int .i64 va.2) nh
          generalize ((X4.setCell ⟨X2.heap.size, 0, none⟩ (.int .i64 va.1)).setCell ⟨X2.heap.size, 1, none⟩ (.int .i64 va.2)) = X5 at *
          try simp only [Act.put, sA, sB, sC]
          refine wpAnyH_ready (rs := [11]) (by kernel_rfl) (by simp) ?_
          refine AllReadyH.cons rfl (fun K hK => ?_) AllReadyH.nil
          go_simp
          replace hS := keep2_far (u := .int .i64 vb.1) (v := .int .i64 vb.2) (by omega : _ < X3.heap.size) (by omega) (by omega) hS
          refine hK.out _ _ hS (fun _ => ?_)
          clear hK K
          replace l0 := set2_far (b := X3.heap.size) (.int .i64 vb.1) (.int .i64 vb.2) (by omega) l0
          replace fl0 := frozen_far (b := X3.heap.size) (.int .i64 vb.1) (.int .i64 vb.2) fl0
          replace l1 := set2_far (b := X3.heap.size) (.int .i64 vb.1) (.int .i64 vb.2) (by omega) l1
          replace fl1 := frozen_far (b := X3.heap.size) (.int .i64 vb.1) (.int .i64 vb.2) fl1
          obtain ⟨h0, h1⟩ := set2 (.int .i64 vb.1) (.int .i64 vb.2) h0 h1
          replace fh0 := frozen_far (b := X3.heap.size) (.int .i64 vb.1) (.int .i64 vb.2) fh0
          replace fh1 := frozen_far (b := X3.heap.size) (.int .i64 vb.1) (.int .i64 vb.2) fh1
          replace nl := size_far (b := X3.heap.size) (.int .i64 vb.1) (.int .i64 vb.2) nl
          replace nh := size_far (b := X3.heap.size) (.int .i64 vb.1) (.int .i64 vb.2) nh
          generalize ((X5.setCell ⟨X3.heap.size, 0, none⟩ (.int .i64 vb.1)).setCell ⟨X3.heap.size, 1, none⟩ (.int .i64 vb.2)) = X6 at *
          try simp only [Act.put, sA, sB, sC]
          refine wpAnyH_done (by kernel_rfl) ?_ _
          go_wp2_with fail
          go_meet
          exact ⟨_, _, rfl, rfl, nl, nh, l0, l1, h0, h1, hS⟩
        refine AllReadyH.cons rfl (fun K hK => ?_) AllReadyH.nil
        go_simp
        have hb := (Below.refl X2.heap.size X2).alloc (Nat.le_refl _) (Obj.cells #[Value.int .i64 0, Value.int .i64 0] 24)
        have bh : w.heap.size + 1 < X2.heap.size := hS.2.2.2.1
        replace hS := keep2 hb (Nat.le_succ _) hS
        have h0 : (X2.alloc (Obj.cells #[Value.int .i64 0, Value.int .i64 0] 24)).cell? ⟨X2.heap.size, 0, none⟩ = some (Value.int .i64 0) := cell_new _ _ _ 0
        have fh0 : (X2.alloc (Obj.cells #[Value.int .i64 0, Value.int .i64 0] 24)).frozen? ⟨X2.heap.size, 0, none⟩ = false := by simp [go_sem]
        have h1 : (X2.alloc (Obj.cells #[Value.int .i64 0, Value.int .i64 0] 24)).cell? ⟨X2.heap.size, 1, none⟩ = some (Value.int .i64 0) := cell_new _ _ _ 1
        have fh1 : (X2.alloc (Obj.cells #[Value.int .i64 0, Value.int .i64 0] 24)).frozen? ⟨X2.heap.size, 1, none⟩ = false := by simp [go_sem]
        have nh : X2.heap.size < (X2.alloc (Obj.cells #[Value.int .i64 0, Value.int .i64 0] 24)).heap.size := by simp
        refine hK.out _ _ hS (fun _ => ?_)
        clear hK K hb
        generalize X2.alloc (Obj.cells #[Value.int .i64 0, Value.int .i64 0] 24) = X7 at *
        try simp only [Act.put, sA, sB, sC]
        refine wpAnyH_ready (rs := [8]) (by kernel_rfl) (by simp) ?_
        refine AllReadyH.cons rfl (fun K hK => ?_) AllReadyH.nil
        go_simp
        have hb := (Below.refl X7.heap.size X7).alloc (Nat.le_refl _) (Obj.cells #[Value.int .i64 0, Value.int .i64 0] 24)
        have bl : w.heap.size + 1 < X7.heap.size := hS.2.2.2.1
        have dhl : X2.heap.size < X7.heap.size := nh
        replace h0 := cell_next hb nh h0
        replace fh0 := frozen_next hb nh fh0
        replace h1 := cell_next hb nh h1
        replace fh1 := frozen_next hb nh fh1
        replace nh := Nat.lt_of_lt_of_le nh hb.size
        replace hS := keep2 hb (Nat.le_succ _) hS
        have l0 : (X7.alloc (Obj.cells #[Value.int .i64 0, Value.int .i64 0] 24)).cell? ⟨X7.heap.size, 0, none⟩ = some (Value.int .i64 0) := cell_new _ _ _ 0
        have fl0 : (X7.alloc (Obj.cells #[Value.int .i64 0, Value.int .i64 0] 24)).frozen? ⟨X7.heap.size, 0, none⟩ = false := by simp [go_sem]
        have l1 : (X7.alloc (Obj.cells #[Value.int .i64 0, Value.int .i64 0] 24)).cell? ⟨X7.heap.size, 1, none⟩ = some (Value.int .i64 0) := cell_new _ _ _ 1
        have fl1 : (X7.alloc (Obj.cells #[Value.int .i64 0, Value.int .i64 0] 24)).frozen? ⟨X7.heap.size, 1, none⟩ = false := by simp [go_sem]
        have nl : X7.heap.size < (X7.alloc (Obj.cells #[Value.int .i64 0, Value.int .i64 0] 24)).heap.size := by simp
        refine hK.out _ _ hS (fun _ => ?_)
        clear hK K hb
        generalize X7.alloc (Obj.cells #[Value.int .i64 0, Value.int .i64 0] 24) = X8 at *
        try simp only [Act.put, sA, sB, sC]
        refine wpAnyH_ready (rs := [10]) (by kernel_rfl) (by simp) ?_
        refine AllReadyH.cons rfl (fun K hK => ?_) AllReadyH.nil
        go_simp
        replace hS := keep2_far (u := .int .i64 va.1) (v := .int .i64 va.2) (by omega : _ < X7.heap.size) (by omega) (by omega) hS
        refine hK.out _ _ hS (fun _ => ?_)
        clear hK K
        replace h0 := set2_far (b := X7.heap.size) (.int .i64 va.1) (.int .i64 va.2) (by omega) h0
        replace fh0 := frozen_far (b := X7.heap.size) (.int .i64 va.1) (.int .i64 va.2) fh0
        replace h1 := set2_far (b := X7.heap.size) (.int .i64 va.1) (.int .i64 va.2) (by omega) h1
        replace fh1 := frozen_far (b := X7.heap.size) (.int .i64 va.1) (.int .i64 va.2) fh1
        obtain ⟨l0, l1⟩ := set2 (.int .i64 va.1) (.int .i64 va.2) l0 l1
        replace fl0 := frozen_far (b := X7.heap.size) (.int .i64 va.1) (.int .i64 va.2) fl0
        replace fl1 := frozen_far (b := X7.heap.size) (.int .i64 va.1) (.int .i64 va.2) fl1
        replace nh := size_far (b := X7.heap.size) (.int .i64 va.1) (.int .i64 va.2) nh
        replace nl := size_far (b := X7.heap.size) (.int .i64 va.1) (.int .i64 va.2) nl
        generalize ((X8.setCell ⟨X7.heap.size, 0, none⟩ (.int .i64 va.1)).setCell ⟨X7.heap.size, 1, none⟩ (.int .i64 va.2)) = X9 at *
        try simp only [Act.put, sA, sB, sC]
        refine wpAnyH_ready (rs := [11]) (by kernel_rfl) (by simp) ?_
        refine AllReadyH.cons rfl (fun K hK => ?_) AllReadyH.nil
        go_simp
        replace hS := keep2_far (u := .int .i64 vb.1) (v := .int .i64 vb.2) (by omega : _ < X2.heap.size) (by omega) (by omega) hS
        refine hK.out _ _ hS (fun _ => ?_)
        clear hK K
        replace l0 := set2_far (b := X2.heap.size) (.int .i64 vb.1) (.int .i64 vb.2) (by omega) l0
        replace fl0 := frozen_far (b := X2.heap.size) (.int .i64 vb.1) (.int .i64 vb.2) fl0
        replace l1 := set2_far (b := X2.heap.size) (.int .i64 vb.1) (.int .i64 vb.2) (by omega) l1
        replace fl1 := frozen_far (b := X2.heap.size) (.int .i64 vb.1) (.int .i64 vb.2) fl1
        obtain ⟨h0, h1⟩ := set2 (.int .i64 vb.1) (.int .i64 vb.2) h0 h1
        replace fh0 := frozen_far (b := X2.heap.size) (.int .i64 vb.1) (.int .i64 vb.2) fh0
        replace fh1 := frozen_far (b := X2.heap.size) (.int .i64 vb.1) (.int .i64 vb.2) fh1
        replace nh := size_far (b := X2.heap.size) (.int .i64 vb.1) (.int .i64 vb.2) nh
        replace nl := size_far (b := X2.heap.size) (.int .i64 vb.1) (.int .i64 vb.2) nl
        generalize ((X9.setCell ⟨X2.heap.size, 0, none⟩ (.int .i64 vb.1)).setCell ⟨X2.heap.size, 1, none⟩ (.int .i64 vb.2)) = X10 at *
        try simp only [Act.put, sA, sB, sC]
        refine wpAnyH_done (by kernel_rfl) ?_ _
        go_wp2_with fail
        go_meet
        exact ⟨_, _, rfl, rfl, nl, nh, l0, l1, h0, h1, hS⟩
      refine AllReadyH.cons rfl (fun K hK => ?_) ?_
      · go_simp
        have hb := (Below.refl X1.heap.size X1).alloc (Nat.le_refl _) (Obj.cells #[Value.int .i64 0, Value.int .i64 0] 24)
        have bl : w.heap.size + 1 < X1.heap.size := hS.2.2.2.1
        replace hS := keep2 hb (Nat.le_succ _) hS
        have l0 : (X1.alloc (Obj.cells #[Value.int .i64 0, Value.int .i64 0] 24)).cell? ⟨X1.heap.size, 0, none⟩ = some (Value.int .i64 0) := cell_new _ _ _ 0
        have fl0 : (X1.alloc (Obj.cells #[Value.int .i64 0, Value.int .i64 0] 24)).frozen? ⟨X1.heap.size, 0, none⟩ = false := by simp [go_sem]
        have l1 : (X1.alloc (Obj.cells #[Value.int .i64 0, Value.int .i64 0] 24)).cell? ⟨X1.heap.size, 1, none⟩ = some (Value.int .i64 0) := cell_new _ _ _ 1
        have fl1 : (X1.alloc (Obj.cells #[Value.int .i64 0, Value.int .i64 0] 24)).frozen? ⟨X1.heap.size, 1, none⟩ = false := by simp [go_sem]
        have nl : X1.heap.size < (X1.alloc (Obj.cells #[Value.int .i64 0, Value.int .i64 0] 24)).heap.size := by simp
        refine hK.out _ _ hS (fun _ => ?_)
        clear hK K hb
        generalize X1.alloc (Obj.cells #[Value.int .i64 0, Value.int .i64 0] 24) = X11 at *
        try simp only [Act.put, sA, sB, sC]
        refine wpAnyH_ready (rs := [7, 9]) (by kernel_rfl) (by simp) ?_
        refine AllReadyH.cons rfl (fun K hK => ?_) ?_
        · go_simp
          refine (d4'.out _ hS).mono ?_
          rintro e X12 ⟨rfl, hb⟩
          replace hS := keep2 hb (Nat.le_succ _) hS
          replace l0 := cell_next hb nl l0
          replace fl0 := frozen_next hb nl fl0
          replace l1 := cell_next hb nl l1
          replace fl1 := frozen_next hb nl fl1
          replace nl := Nat.lt_of_lt_of_le nl hb.size
          refine hK.out _ _ hS (fun _ => ?_)
          clear hK K hb
          try simp only [Act.put, sA, sB, sC]
          refine wpAnyH_ready (rs := [9]) (by kernel_rfl) (by simp) ?_
          refine AllReadyH.cons rfl (fun K hK => ?_) AllReadyH.nil
          go_simp
          have hb := (Below.refl X12.heap.size X12).alloc (Nat.le_refl _) (Obj.cells #[Value.int .i64 0, Value.int .i64 0] 24)
          have bh : w.heap.size + 1 < X12.heap.size := hS.2.2.2.1
          have dlh : X1.heap.size < X12.heap.size := nl
          replace l0 := cell_next hb nl l0
          replace fl0 := frozen_next hb nl fl0
          replace l1 := cell_next hb nl l1
          replace fl1 := frozen_next hb nl fl1
          replace nl := Nat.lt_of_lt_of_le nl hb.size
          replace hS := keep2 hb (Nat.le_succ _) hS
          have h0 : (X12.alloc (Obj.cells #[Value.int .i64 0, Value.int .i64 0] 24)).cell? ⟨X12.heap.size, 0, none⟩ = some (Value.int .i64 0) := cell_new _ _ _ 0
          have fh0 : (X12.alloc (Obj.cells #[Value.int .i64 0, Value.int .i64 0] 24)).frozen? ⟨X12.heap.size, 0, none⟩ = false := by simp [go_sem]
          have h1 : (X12.alloc (Obj.cells #[Value.int .i64 0, Value.int .i64 0] 24)).cell? ⟨X12.heap.size, 1, none⟩ = some (Value.int .i64 0) := cell_new _ _ _ 1
          have fh1 : (X12.alloc (Obj.cells #[Value.int .i64 0, Value.int .i64 0] 24)).frozen? ⟨X12.heap.size, 1, none⟩ = false := by simp [go_sem]
          have nh : X12.heap.size < (X12.alloc (Obj.cells #[Value.int .i64 0, Value.int .i64 0] 24)).heap.size := by simp
          refine hK.out _ _ hS (fun _ => ?_)
          clear hK K hb
          generalize X12.alloc (Obj.cells #[Value.int .i64 0, Value.int .i64 0] 24) = X13 at *
          try simp only [Act.put, sA, sB, sC]
          refine wpAnyH_ready (rs := [10]) (by kernel_rfl) (by simp) ?_
          refine AllReadyH.cons rfl (fun K hK => ?_) AllReadyH.nil
          go_simp
          replace hS := keep2_far (u := .int .i64 va.1) (v := .int .i64 va.2) (by omega : _ < X1.heap.size) (by omega) (by omega) hS
          refine hK.out _ _ hS (fun _ => ?_)
          clear hK K
          replace h0 := set2_far (b := X1.heap.size) (.int .i64 va.1) (.int .i64 va.2) (by omega) h0
          replace fh0 := frozen_far (b := X1.heap.size) (.int .i64 va.1) (.int .i64 va.2) fh0
          replace h1 := set2_far (b := X1.heap.size) (.int .i64 va.1) (.int .i64 va.2) (by omega) h1
          replace fh1 := frozen_far (b := X1.heap.size) (.int .i64 va.1) (.int .i64 va.2) fh1
          obtain ⟨l0, l1⟩ := set2 (.int .i64 va.1) (.int .i64 va.2) l0 l1
          replace fl0 := frozen_far (b := X1.heap.size) (.int .i64 va.1) (.int .i64 va.2) fl0
          replace fl1 := frozen_far (b := X1.heap.size) (.int .i64 va.1) (.int .i64 va.2) fl1
          replace nl := size_far (b := X1.heap.size) (.int .i64 va.1) (.int .i64 va.2) nl
          replace nh := size_far (b := X1.heap.size) (.int .i64 va.1) (.int .i64 va.2) nh
          generalize ((X13.setCell ⟨X1.heap.size, 0, none⟩ (.int .i64 va.1)).setCell ⟨X1.heap.size, 1, none⟩ (.int .i64 va.2)) = X14 at *
          try simp only [Act.put, sA, sB, sC]
          refine wpAnyH_ready (rs := [11]) (by kernel_rfl) (by simp) ?_
          refine AllReadyH.cons rfl (fun K hK => ?_) AllReadyH.nil
          go_simp
          replace hS := keep2_far (u := .int .i64 vb.1) (v := .int .i64 vb.2) (by omega : _ < X12.heap.size) (by omega) (by omega) hS
          refine hK.out _ _ hS (fun _ => ?_)
          clear hK K
          replace l0 := set2_far (b := X12.heap.size) (.int .i64 vb.1) (.int .i64 vb.2) (by omega) l0
          replace fl0 := frozen_far (b := X12.heap.size) (.int .i64 vb.1) (.int .i64 vb.2) fl0
          replace l1 := set2_far (b := X12.heap.size) (.int .i64 vb.1) (.int .i64 vb.2) (by omega) l1
          replace fl1 := frozen_far (b := X12.heap.size) (.int .i64 vb.1) (.int .i64 vb.2) fl1
          obtain ⟨h0, h1⟩ := set2 (.int .i64 vb.1) (.int .i64 vb.2) h0 h1
          replace fh0 := frozen_far (b := X12.heap.size) (.int .i64 vb.1) (.int .i64 vb.2) fh0
          replace fh1 := frozen_far (b := X12.heap.size) (.int .i64 vb.1) (.int .i64 vb.2) fh1
          replace nl := size_far (b := X12.heap.size) (.int .i64 vb.1) (.int .i64 vb.2) nl
          replace nh := size_far (b := X12.heap.size) (.int .i64 vb.1) (.int .i64 vb.2) nh
          generalize ((X14.setCell ⟨X12.heap.size, 0, none⟩ (.int .i64 vb.1)).setCell ⟨X12.heap.size, 1, none⟩ (.int .i64 vb.2)) = X15 at *
          try simp only [Act.put, sA, sB, sC]
          refine wpAnyH_done (by kernel_rfl) ?_ _
          go_wp2_with fail
          go_meet
          exact ⟨_, _, rfl, rfl, nl, nh, l0, l1, h0, h1, hS⟩
        refine AllReadyH.cons rfl (fun K hK => ?_) AllReadyH.nil
        go_simp
        have hb := (Below.refl X11.heap.size X11).alloc (Nat.le_refl _) (Obj.cells #[Value.int .i64 0, Value.int .i64 0] 24)
        have bh : w.heap.size + 1 < X11.heap.size := hS.2.2.2.1
        have dlh : X1.heap.size < X11.heap.size := nl
        replace l0 := cell_next hb nl l0
        replace fl0 := frozen_next hb nl fl0
        replace l1 := cell_next hb nl l1
        replace fl1 := frozen_next hb nl fl1
        replace nl := Nat.lt_of_lt_of_le nl hb.size
        replace hS := keep2 hb (Nat.le_succ _) hS
        have h0 : (X11.alloc (Obj.cells #[Value.int .i64 0, Value.int .i64 0] 24)).cell? ⟨X11.heap.size, 0, none⟩ = some (Value.int .i64 0) := cell_new _ _ _ 0
        have fh0 : (X11.alloc (Obj.cells #[Value.int .i64 0, Value.int .i64 0] 24)).frozen? ⟨X11.heap.size, 0, none⟩ = false := by simp [go_sem]
        have h1 : (X11.alloc (Obj.cells #[Value.int .i64 0, Value.int .i64 0] 24)).cell? ⟨X11.heap.size, 1, none⟩ = some (Value.int .i64 0) := cell_new _ _ _ 1
        have fh1 : (X11.alloc (Obj.cells #[Value.int .i64 0, Value.int .i64 0] 24)).frozen? ⟨X11.heap.size, 1, none⟩ = false := by simp [go_sem]
        have nh : X11.heap.size < (X11.alloc (Obj.cells #[Value.int .i64 0, Value.int .i64 0] 24)).heap.size := by simp
        refine hK.out _ _ hS (fun _ => ?_)
        clear hK K hb
        generalize X11.alloc (Obj.cells #[Value.int .i64 0, Value.int .i64 0] 24) = X16 at *
        try simp only [Act.put, sA, sB, sC]
        refine wpAnyH_ready (rs := [7]) (by kernel_rfl) (by simp) ?_
        refine AllReadyH.cons rfl (fun K hK => ?_) AllReadyH.nil
        go_simp
        refine (d4'.out _ hS).mono ?_
        rintro e X17 ⟨rfl, hb⟩
        replace hS := keep2 hb (Nat.le_succ _) hS
        replace l0 := cell_next hb nl l0
        replace fl0 := frozen_next hb nl fl0
        replace l1 := cell_next hb nl l1
        replace fl1 := frozen_next hb nl fl1
        replace nl := Nat.lt_of_lt_of_le nl hb.size
        replace h0 := cell_next hb nh h0
        replace fh0 := frozen_next hb nh fh0
        replace h1 := cell_next hb nh h1
        replace fh1 := frozen_next hb nh fh1
        replace nh := Nat.lt_of_lt_of_le nh hb.size
        refine hK.out _ _ hS (fun _ => ?_)
        clear hK K hb
        try simp only [Act.put, sA, sB, sC]
        refine wpAnyH_ready (rs := [10]) (by kernel_rfl) (by simp) ?_
        refine AllReadyH.cons rfl (fun K hK => ?_) AllReadyH.nil
        go_simp
        replace hS := keep2_far (u := .int .i64 va.1) (v := .int .i64 va.2) (by omega : _ < X1.heap.size) (by omega) (by omega) hS
        refine hK.out _ _ hS (fun _ => ?_)
        clear hK K
        replace h0 := set2_far (b := X1.heap.size) (.int .i64 va.1) (.int .i64 va.2) (by omega) h0
        replace fh0 := frozen_far (b := X1.heap.size) (.int .i64 va.1) (.int .i64 va.2) fh0
        replace h1 := set2_far (b := X1.heap.size) (.int .i64 va.1) (.int .i64 va.2) (by omega) h1
        replace fh1 := frozen_far (b := X1.heap.size) (.int .i64 va.1) (.int .i64 va.2) fh1
        obtain ⟨l0, l1⟩ := set2 (.int .i64 va.1) (.int .i64 va.2) l0 l1
        replace fl0 := frozen_far (b := X1.heap.size) (.int .i64 va.1) (.int .i64 va.2) fl0
        replace fl1 := frozen_far (b := X1.heap.size) (.int .i64 va.1) (.int .i64 va.2) fl1
        replace nl := size_far (b := X1.heap.size) (.int .i64 va.1) (.int .i64 va.2) nl
        replace nh := size_far (b := X1.heap.size) (.int .i64 va.1) (.int .i64 va.2) nh
        generalize ((X17.setCell ⟨X1.heap.size, 0, none⟩ (.int .i64 va.1)).setCell ⟨X1.heap.size, 1, none⟩ (.int .i64 va.2)) = X18 at *
        try simp only [Act.put, sA, sB, sC]
        refine wpAnyH_ready (rs := [11]) (by kernel_rfl) (by simp) ?_
        refine AllReadyH.cons rfl (fun K hK => ?_) AllReadyH.nil
        go_simp
        replace hS := keep2_far (u := .int .i64 vb.1) (v := .int .i64 vb.2) (by omega : _ < X11.heap.size) (by omega) (by omega) hS
        refine hK.out _ _ hS (fun _ => ?_)
        clear hK K
        replace l0 := set2_far (b := X11.heap.size) (.int .i64 vb.1) (.int .i64 vb.2) (by omega) l0
        replace fl0 := frozen_far (b := X11.heap.size) (.int .i64 vb.1) (.int .i64 vb.2) fl0
        replace l1 := set2_far (b := X11.heap.size) (.int .i64 vb.1) (.int .i64 vb.2) (by omega) l1
        replace fl1 := frozen_far (b := X11.heap.size) (.int .i64 vb.1) (.int .i64 vb.2) fl1
        obtain ⟨h0, h1⟩ := set2 (.int .i64 vb.1) (.int .i64 vb.2) h0 h1
        replace fh0 := frozen_far (b := X11.heap.size) (.int .i64 vb.1) (.int .i64 vb.2) fh0
        replace fh1 := frozen_far (b := X11.heap.size) (.int .i64 vb.1) (.int .i64 vb.2) fh1
        replace nl := size_far (b := X11.heap.size) (.int .i64 vb.1) (.int .i64 vb.2) nl
        replace nh := size_far (b := X11.heap.size) (.int .i64 vb.1) (.int .i64 vb.2) nh
        generalize ((X18.setCell ⟨X11.heap.size, 0, none⟩ (.int .i64 vb.1)).setCell ⟨X11.heap.size, 1, none⟩ (.int .i64 vb.2)) = X19 at *
        try simp only [Act.put, sA, sB, sC]
        refine wpAnyH_done (by kernel_rfl) ?_ _
        go_wp2_with fail
        go_meet
        exact ⟨_, _, rfl, rfl, nl, nh, l0, l1, h0, h1, hS⟩
      refine AllReadyH.cons rfl (fun K hK => ?_) AllReadyH.nil
      go_simp
      have hb := (Below.refl X1.heap.size X1).alloc (Nat.le_refl _) (Obj.cells #[Value.int .i64 0, Value.int .i64 0] 24)
      have bh : w.heap.size + 1 < X1.heap.size := hS.2.2.2.1
      replace hS := keep2 hb (Nat.le_succ _) hS
      have h0 : (X1.alloc (Obj.cells #[Value.int .i64 0, Value.int .i64 0] 24)).cell? ⟨X1.heap.size, 0, none⟩ = some (Value.int .i64 0) := cell_new _ _ _ 0
      have fh0 : (X1.alloc (Obj.cells #[Value.int .i64 0, Value.int .i64 0] 24)).frozen? ⟨X1.heap.size, 0, none⟩ = false := by simp [go_sem]
      have h1 : (X1.alloc (Obj.cells #[Value.int .i64 0, Value.int .i64 0] 24)).cell? ⟨X1.heap.size, 1, none⟩ = some (Value.int .i64 0) := cell_new _ _ _ 1
      have fh1 : (X1.alloc (Obj.cells #[Value.int .i64 0, Value.int .i64 0] 24)).frozen? ⟨X1.heap.size, 1, none⟩ = false := by simp [go_sem]
      have nh : X1.heap.size < (X1.alloc (Obj.cells #[Value.int .i64 0, Value.int .i64 0] 24)).heap.size := by simp
      refine hK.out _ _ hS (fun _ => ?_)
      clear hK K hb
      generalize X1.alloc (Obj.cells #[Value.int .i64 0, Value.int .i64 0] 24) = X20 at *
      try simp only [Act.put, sA, sB, sC]
      refine wpAnyH_ready (rs := [7, 8]) (by kernel_rfl) (by simp) ?_
      refine AllReadyH.cons rfl (fun K hK => ?_) ?_
      · go_simp
        refine (d4'.out _ hS).mono ?_
        rintro e X21 ⟨rfl, hb⟩
        replace hS := keep2 hb (Nat.le_succ _) hS
        replace h0 := cell_next hb nh h0
        replace fh0 := frozen_next hb nh fh0
        replace h1 := cell_next hb nh h1
        replace fh1 := frozen_next hb nh fh1
        replace nh := Nat.lt_of_lt_of_le nh hb.size
        refine hK.out _ _ hS (fun _ => ?_)
        clear hK K hb
        try simp only [Act.put, sA, sB, sC]
        refine wpAnyH_ready (rs := [8]) (by kernel_rfl) (by simp) ?_
        refine AllReadyH.cons rfl (fun K hK => ?_) AllReadyH.nil
        go_simp
        have hb := (Below.refl X21.heap.size X21).alloc (Nat.le_refl _) (Obj.cells #[Value.int .i64 0, Value.int .i64 0] 24)
        have bl : w.heap.size + 1 < X21.heap.size := hS.2.2.2.1
        have dhl : X1.heap.size < X21.heap.size := nh
        replace h0 := cell_next hb nh h0
        replace fh0 := frozen_next hb nh fh0
        replace h1 := cell_next hb nh h1
        replace fh1 := frozen_next hb nh fh1
        replace nh := Nat.lt_of_lt_of_le nh hb.size
        replace hS := keep2 hb (Nat.le_succ _) hS
        have l0 : (X21.alloc (Obj.cells #[Value.int .i64 0, Value.int .i64 0] 24)).cell? ⟨X21.heap.size, 0, none⟩ = some (Value.int .i64 0) := cell_new _ _ _ 0
        have fl0 : (X21.alloc (Obj.cells #[Value.int .i64 0, Value.int .i64 0] 24)).frozen? ⟨X21.heap.size, 0, none⟩ = false := by simp [go_sem]
        have l1 : (X21.alloc (Obj.cells #[Value.int .i64 0, Value.int .i64 0] 24)).cell? ⟨X21.heap.size, 1, none⟩ = some (Value.int .i64 0) := cell_new _ _ _ 1
        have fl1 : (X21.alloc (Obj.cells #[Value.int .i64 0, Value.int .i64 0] 24)).frozen? ⟨X21.heap.size, 1, none⟩ = false := by simp [go_sem]
        have nl : X21.heap.size < (X21.alloc (Obj.cells #[Value.int .i64 0, Value.int .i64 0] 24)).heap.size := by simp
        refine hK.out _ _ hS (fun _ => ?_)
        clear hK K hb
        generalize X21.alloc (Obj.cells #[Value.int .i64 0, Value.int .i64 0] 24) = X22 at *
        try simp only [Act.put, sA, sB, sC]
        refine wpAnyH_ready (rs := [10]) (by kernel_rfl) (by simp) ?_
        refine AllReadyH.cons rfl (fun K hK => ?_) AllReadyH.nil
        go_simp
        replace hS := keep2_far (u := .int .i64 va.1) (v := .int .i64 va.2) (by omega : _ < X21.heap.size) (by omega) (by omega) hS
        refine hK.out _ _ hS (fun _ => ?_)
        clear hK K
        replace h0 := set2_far (b := X21.heap.size) (.int .i64 va.1) (.int .i64 va.2) (by omega) h0
        replace fh0 := frozen_far (b := X21.heap.size) (.int .i64 va.1) (.int .i64 va.2) fh0
        replace h1 := set2_far (b := X21.heap.size) (.int .i64 va.1) (.int .i64 va.2) (by omega) h1
        replace fh1 := frozen_far (b := X21.heap.size) (.int .i64 va.1) (.int .i64 va.2) fh1
        obtain ⟨l0, l1⟩ := set2 (.int .i64 va.1) (.int .i64 va.2) l0 l1
        replace fl0 := frozen_far (b := X21.heap.size) (.int .i64 va.1) (.int .i64 va.2) fl0
        replace fl1 := frozen_far (b := X21.heap.size) (.int .i64 va.1) (.int .i64 va.2) fl1
        replace nh := size_far (b := X21.heap.size) (.int .i64 va.1) (.int .i64 va.2) nh
        replace nl := size_far (b := X21.heap.size) (.int .i64 va.1) (.int .i64 va.2) nl
        generalize ((X22.setCell ⟨X21.heap.size, 0, none⟩ (.int .i64 va.1)).setCell ⟨X21.heap.size, 1, none⟩ (.int .i64 va.2)) = X23 at *
        try simp only [Act.put, sA, sB, sC]
        refine wpAnyH_ready (rs := [11]) (by kernel_rfl) (by simp) ?_
        refine AllReadyH.cons rfl (fun K hK => ?_) AllReadyH.nil
        go_simp
        replace hS := keep2_far (u := .int .i64 vb.1) (v := .int .i64 vb.2) (by omega : _ < X1.heap.size) (by omega) (by omega) hS
        refine hK.out _ _ hS (fun _ => ?_)
        clear hK K
        replace l0 := set2_far (b := X1.heap.size) (.int .i64 vb.1) (.int .i64 vb.2) (by omega) l0
        replace fl0 := frozen_far (b := X1.heap.size) (.int .i64 vb.1) (.int .i64 vb.2) fl0
        replace l1 := set2_far (b := X1.heap.size) (.int .i64 vb.1) (.int .i64 vb.2) (by omega) l1
        replace fl1 := frozen_far (b := X1.heap.size) (.int .i64 vb.1) (.int .i64 vb.2) fl1
        obtain ⟨h0, h1⟩ := set2 (.int .i64 vb.1) (.int .i64 vb.2) h0 h1
        replace fh0 := frozen_far (b := X1.heap.size) (.int .i64 vb.1) (.int .i64 vb.2) fh0
        replace fh1 := frozen_far (b := X1.heap.size) (.int .i64 vb.1) (.int .i64 vb.2) fh1
        replace nh := size_far (b := X1.heap.size) (.int .i64 vb.1) (.int .i64 vb.2) nh
        replace nl := size_far (b := X1.heap.size) (.int .i64 vb.1) (.int .i64 vb.2) nl
        generalize ((X23.setCell ⟨X1.heap.size, 0, none⟩ (.int .i64 vb.1)).setCell ⟨X1.heap.size, 1, none⟩ (.int .i64 vb.2)) = X24 at *
        try simp only [Act.put, sA, sB, sC]
        refine wpAnyH_done (by kernel_rfl) ?_ _
        go_wp2_with fail
        go_meet
        exact ⟨_, _, rfl, rfl, nl, nh, l0, l1, h0, h1, hS⟩
      refine AllReadyH.cons rfl (fun K hK => ?_) AllReadyH.nil
      go_simp
      have hb := (Below.refl X20.heap.size X20).alloc (Nat.le_refl _) (Obj.cells #[Value.int .i64 0, Value.int .i64 0] 24)
      have bl : w.heap.size + 1 < X20.heap.size := hS.2.2.2.1
      have dhl : X1.heap.size < X20.heap.size := nh
      replace h0 := cell_next hb nh h0
      replace fh0 := frozen_next hb nh fh0
      replace h1 := cell_next hb nh h1
      replace fh1 := frozen_next hb nh fh1
      replace nh := Nat.lt_of_lt_of_le nh hb.size
      replace hS := keep2 hb (Nat.le_succ _) hS
      have l0 : (X20.alloc (Obj.cells #[Value.int .i64 0, Value.int .i64 0] 24)).cell? ⟨X20.heap.size, 0, none⟩ = some (Value.int .i64 0) := cell_new _ _ _ 0
      have fl0 : (X20.alloc (Obj.cells #[Value.int .i64 0, Value.int .i64 0] 24)).frozen? ⟨X20.heap.size, 0, none⟩ = false := by simp [go_sem]
      have l1 : (X20.alloc (Obj.cells #[Value.int .i64 0, Value.int .i64 0] 24)).cell? ⟨X20.heap.size, 1, none⟩ = some (Value.int .i64 0) := cell_new _ _ _ 1
      have fl1 : (X20.alloc (Obj.cells #[Value.int .i64 0, Value.int .i64 0] 24)).frozen? ⟨X20.heap.size, 1, none⟩ = false := by simp [go_sem]
      have nl : X20.heap.size < (X20.alloc (Obj.cells #[Value.int .i64 0, Value.int .i64 0] 24)).heap.size := by simp
      refine hK.out _ _ hS (fun _ => ?_)
      clear hK K hb
      generalize X20.alloc (Obj.cells #[Value.int .i64 0, Value.int .i64 0] 24) = X25 at *
      try simp only [Act.put, sA, sB, sC]
      refine wpAnyH_ready (rs := [7]) (by kernel_rfl) (by simp) ?_
      refine AllReadyH.cons rfl (fun K hK => ?_) AllReadyH.nil
      go_simp
      refine (d4'.out _ hS).mono ?_
      rintro e X26 ⟨rfl, hb⟩
      replace hS := keep2 hb (Nat.le_succ _) hS
      replace h0 := cell_next hb nh h0
      replace fh0 := frozen_next hb nh fh0
      replace h1 := cell_next hb nh h1
      replace fh1 := frozen_next hb nh fh1
      replace nh := Nat.lt_of_lt_of_le nh hb.size
      replace l0 := cell_next hb nl l0
      replace fl0 := frozen_next hb nl fl0
      replace l1 := cell_next hb nl l1
      replace fl1 := frozen_next hb nl fl1
      replace nl := Nat.lt_of_lt_of_le nl hb.size
      refine hK.out _ _ hS (fun _ => ?_)
      clear hK K hb
      try simp only [Act.put, sA, sB, sC]
      refine wpAnyH_ready (rs := [10]) (by kernel_rfl) (by simp) ?_
      refine AllReadyH.cons rfl (fun K hK => ?_) AllReadyH.nil
      go_simp
      replace hS := keep2_far (u := .int .i64 va.1) (v := .int .i64 va.2) (by omega : _ < X20.heap.size) (by omega) (by omega) hS
      refine hK.out _ _ hS (fun _ => ?_)
      clear hK K
      replace h0 := set2_far (b := X20.heap.size) (.int .i64 va.1) (.int .i64 va.2) (by omega) h0
      replace fh0 := frozen_far (b := X20.heap.size) (.int .i64 va.1) (.int .i64 va.2) fh0
      replace h1 := set2_far (b := X20.heap.size) (.int .i64 va.1) (.int .i64 va.2) (by omega) h1
      replace fh1 := frozen_far (b := X20.heap.size) (.int .i64 va.1) (.int .i64 va.2) fh1
      obtain ⟨l0, l1⟩ := set2 (.int .i64 va.1) (.int .i64 va.2) l0 l1
      replace fl0 := frozen_far (b := X20.heap.size) (.int .i64 va.1) (.int .i64 va.2) fl0
      replace fl1 := frozen_far (b := X20.heap.size) (.int .i64 va.1) (.int .i64 va.2) fl1
      replace nh := size_far (b := X20.heap.size) (.int .i64 va.1) (.int .i64 va.2) nh
      replace nl := size_far (b := X20.heap.size) (.int .i64 va.1) (.int .i64 va.2) nl
      generalize ((X26.setCell ⟨X20.heap.size, 0, none⟩ (.int .i64 va.1)).setCell ⟨X20.heap.size, 1, none⟩ (.int .i64 va.2)) = X27 at *
      try simp only [Act.put, sA, sB, sC]
      refine wpAnyH_ready (rs := [11]) (by kernel_rfl) (by simp) ?_
      refine AllReadyH.cons rfl (fun K hK => ?_) AllReadyH.nil
      go_simp
      replace hS := keep2_far (u := .int .i64 vb.1) (v := .int .i64 vb.2) (by omega : _ < X1.heap.size) (by omega) (by omega) hS
      refine hK.out _ _ hS (fun _ => ?_)
      clear hK K
      replace l0 := set2_far (b := X1.heap.size) (.int .i64 vb.1) (.int .i64 vb.2) (by omega) l0
      replace fl0 := frozen_far (b := X1.heap.size) (.int .i64 vb.1) (.int .i64 vb.2) fl0
      replace l1 := set2_far (b := X1.heap.size) (.int .i64 vb.1) (.int .i64 vb.2) (by omega) l1
      replace fl1 := frozen_far (b := X1.heap.size) (.int .i64 vb.1) (.int .i64 vb.2) fl1
      obtain ⟨h0, h1⟩ := set2 (.int .i64 vb.1) (.int .i64 vb.2) h0 h1
      replace fh0 := frozen_far (b := X1.heap.size) (.int .i64 vb.1) (.int .i64 vb.2) fh0
      replace fh1 := frozen_far (b := X1.heap.size) (.int .i64 vb.1) (.int .i64 vb.2) fh1
      replace nh := size_far (b := X1.heap.size) (.int .i64 vb.1) (.int .i64 vb.2) nh
      replace nl := size_far (b := X1.heap.size) (.int .i64 vb.1) (.int .i64 vb.2) nl
      generalize ((X27.setCell ⟨X1.heap.size, 0, none⟩ (.int .i64 vb.1)).setCell ⟨X1.heap.size, 1, none⟩ (.int .i64 vb.2)) = X28 at *
      try simp only [Act.put, sA, sB, sC]
      refine wpAnyH_done (by kernel_rfl) ?_ _
      go_wp2_with fail
      go_meet
      exact ⟨_, _, rfl, rfl, nl, nh, l0, l1, h0, h1, hS⟩
    refine AllReadyH.cons rfl (fun K hK => ?_) ?_
    · go_simp
      have hb := (Below.refl W0.heap.size W0).alloc (Nat.le_refl _) (Obj.cells #[Value.int .i64 0, Value.int .i64 0] 24)
      have bl : w.heap.size + 1 < W0.heap.size := hS.2.2.2.1
      replace hS := keep2 hb (Nat.le_succ _) hS
      have l0 : (W0.alloc (Obj.cells #[Value.int .i64 0, Value.int .i64 0] 24)).cell? ⟨W0.heap.size, 0, none⟩ = some (Value.int .i64 0) := cell_new _ _ _ 0
      have fl0 : (W0.alloc (Obj.cells #[Value.int .i64 0, Value.int .i64 0] 24)).frozen? ⟨W0.heap.size, 0, none⟩ = false := by simp [go_sem]
      have l1 : (W0.alloc (Obj.cells #[Value.int .i64 0, Value.int .i64 0] 24)).cell? ⟨W0.heap.size, 1, none⟩ = some (Value.int .i64 0) := cell_new _ _ _ 1
      have fl1 : (W0.alloc (Obj.cells #[Value.int .i64 0, Value.int .i64 0] 24)).frozen? ⟨W0.heap.size, 1, none⟩ = false := by simp [go_sem]
      have nl : W0.heap.size < (W0.alloc (Obj.cells #[Value.int .i64 0, Value.int .i64 0] 24)).heap.size := by simp
      refine hK.out _ _ hS (fun _ => ?_)
      clear hK K hb
      generalize W0.alloc (Obj.cells #[Value.int .i64 0, Value.int .i64 0] 24) = X29 at *
      try simp only [Act.put, sA, sB, sC]
      refine wpAnyH_ready (rs := [3, 9]) (by kernel_rfl) (by simp) ?_
      refine AllReadyH.cons rfl (fun K hK => ?_) ?_
      · go_simp
        refine (d4.out _ hS).mono ?_
        rintro e X30 ⟨rfl, hb⟩
        replace hS := keep2 hb (Nat.le_succ _) hS
        replace l0 := cell_next hb nl l0
        replace fl0 := frozen_next hb nl fl0
        replace l1 := cell_next hb nl l1
        replace fl1 := frozen_next hb nl fl1
        replace nl := Nat.lt_of_lt_of_le nl hb.size
        refine hK.out _ _ hS (fun _ => ?_)
        clear hK K hb
        try simp only [Act.put, sA, sB, sC]
        refine wpAnyH_ready (rs := [7, 9]) (by kernel_rfl) (by simp) ?_
        refine AllReadyH.cons rfl (fun K hK => ?_) ?_
        · go_simp
          refine (d4'.out _ hS).mono ?_
          rintro e X31 ⟨rfl, hb⟩
          replace hS := keep2 hb (Nat.le_succ _) hS
          replace l0 := cell_next hb nl l0
          replace fl0 := frozen_next hb nl fl0
          replace l1 := cell_next hb nl l1
          replace fl1 := frozen_next hb nl fl1
          replace nl := Nat.lt_of_lt_of_le nl hb.size
          refine hK.out _ _ hS (fun _ => ?_)
          clear hK K hb
          try simp only [Act.put, sA, sB, sC]
          refine wpAnyH_ready (rs := [9]) (by kernel_rfl) (by simp) ?_
          refine AllReadyH.cons rfl (fun K hK => ?_) AllReadyH.nil
          go_simp
          have hb := (Below.refl X31.heap.size X31).alloc (Nat.le_refl _) (Obj.cells #[Value.int .i64 0, Value.int .i64 0] 24)
          have bh : w.heap.size + 1 < X31.heap.size := hS.2.2.2.1
          have dlh : W0.heap.size < X31.heap.size := nl
          replace l0 := cell_next hb nl l0
          replace fl0 := frozen_next hb nl fl0
          replace l1 := cell_next hb nl l1
          replace fl1 := frozen_next hb nl fl1
          replace nl := Nat.lt_of_lt_of_le nl hb.size
          replace hS := keep2 hb (Nat.le_succ _) hS
          have h0 : (X31.alloc (Obj.cells #[Value.int .i64 0, Value.int .i64 0] 24)).cell? ⟨X31.heap.size, 0, none⟩ = some (Value.int .i64 0) := cell_new _ _ _ 0
          have fh0 : (X31.alloc (Obj.cells #[Value.int .i64 0, Value.int .i64 0] 24)).frozen? ⟨X31.heap.size, 0, none⟩ = false := by simp [go_sem]
          have h1 : (X31.alloc (Obj.cells #[Value.int .i64 0, Value.int .i64 0] 24)).cell? ⟨X31.heap.size, 1, none⟩ = some (Value.int .i64 0) := cell_new _ _ _ 1
          have fh1 : (X31.alloc (Obj.cells #[Value.int .i64 0, Value.int .i64 0] 24)).frozen? ⟨X31.heap.size, 1, none⟩ = false := by simp [go_sem]
          have nh : X31.heap.size < (X31.alloc (Obj.cells #[Value.int .i64 0, Value.int .i64 0] 24)).heap.size := by simp
          refine hK.out _ _ hS (fun _ => ?_)
          clear hK K hb
          generalize X31.alloc (Obj.cells #[Value.int .i64 0, Value.int .i64 0] 24) = X32 at *
          try simp only [Act.put, sA, sB, sC]
          refine wpAnyH_ready (rs := [10]) (by kernel_rfl) (by simp) ?_
          refine AllReadyH.cons rfl (fun K hK => ?_) AllReadyH.nil
          go_simp
          replace hS := keep2_far (u := .int .i64 va.1) (v := .int .i64 va.2) (by omega : _ < W0.heap.size) (by omega) (by omega) hS
          refine hK.out _ _ hS (fun _ => ?_)
          clear hK K
          replace h0 := set2_far (b := W0.heap.size) (.int .i64 va.1) (.int .i64 va.2) (by omega) h0
          replace fh0 := frozen_far (b := W0.heap.size) (.int .i64 va.1) (.int .i64 va.2) fh0
          replace h1 := set2_far (b := W0.heap.size) (.int .i64 va.1) (.int .i64 va.2) (by omega) h1
          replace fh1 := frozen_far (b := W0.heap.size) (.int .i64 va.1) (.int .i64 va.2) fh1
          obtain ⟨l0, l1⟩ := set2 (.int .i64 va.1) (.int .i64 va.2) l0 l1
          replace fl0 := frozen_far (b := W0.heap.size) (.int .i64 va.1) (.int .i64 va.2) fl0
          replace fl1 := frozen_far (b := W0.heap.size) (.int .i64 va.1) (.int .i64 va.2) fl1
          replace nl := size_far (b := W0.heap.size) (.int .i64 va.1) (.int .i64 va.2) nl
          replace nh := size_far (b := W0.heap.size) (.int .i64 va.1) (.int .i64 va.2) nh
          generalize ((X32.setCell ⟨W0.heap.size, 0, none⟩ (.int .i64 va.1)).setCell ⟨W0.heap.size, 1, none⟩ (.int .i64 va.2)) = X33 at *
          try simp only [Act.put, sA, sB, sC]
          refine wpAnyH_ready (rs := [11]) (by kernel_rfl) (by simp) ?_
          refine AllReadyH.cons rfl (fun K hK => ?_) AllReadyH.nil
          go_simp
          replace hS := keep2_far (u := .int .i64 vb.1) (v := .int .i64 vb.2) (by omega : _ < X31.heap.size) (by omega) (by omega) hS
          refine hK.out _ _ hS (fun _ => ?_)
          clear hK K
          replace l0 := set2_far (b := X31.heap.size) (.int .i64 vb.1) (.int .i64 vb.2) (by omega) l0
          replace fl0 := frozen_far (b := X31.heap.size) (.int .i64 vb.1) (.int .i64 vb.2) fl0
          replace l1 := set2_far (b := X31.heap.size) (.int .i64 vb.1) (.int .i64 vb.2) (by omega) l1
          replace fl1 := frozen_far (b := X31.heap.size) (.int .i64 vb.1) (.int .i64 vb.2) fl1
          obtain ⟨h0, h1⟩ := set2 (.int .i64 vb.1) (.int .i64 vb.2) h0 h1
          replace fh0 := frozen_far (b := X31.heap.size) (.int .i64 vb.1) (.int .i64 vb.2) fh0
          replace fh1 := frozen_far (b := X31.heap.size) (.int .i64 vb.1) (.int .i64 vb.2) fh1
          replace nl := size_far (b := X31.heap.size) (.int .i64 vb.1) (.int .i64 vb.2) nl
          replace nh := size_far (b := X31.heap.size) (.int .i64 vb.1) (.int .i64 vb.2) nh
          generalize ((X33.setCell ⟨X31.heap.size, 0, none⟩ (.int .i64 vb.1)).setCell ⟨X31.heap.size, 1, none⟩ (.int .i64 vb.2)) = X34 at *
          try simp only [Act.put, sA, sB, sC]
          refine wpAnyH_done (by kernel_rfl) ?_ _
          go_wp2_with fail
          go_meet
          exact ⟨_, _, rfl, rfl, nl, nh, l0, l1, h0, h1, hS⟩
        refine AllReadyH.cons rfl (fun K hK => ?_) AllReadyH.nil
        go_simp
        have hb := (Below.refl X30.heap.size X30).alloc (Nat.le_refl _) (Obj.cells #[Value.int .i64 0, Value.int .i64 0] 24)
        have bh : w.heap.size + 1 < X30.heap.size := hS.2.2.2.1
        have dlh : W0.heap.size < X30.heap.size := nl
        replace l0 := cell_next hb nl l0
        replace fl0 := frozen_next hb nl fl0
        replace l1 := cell_next hb nl l1
        replace fl1 := frozen_next hb nl fl1
        replace nl := Nat.lt_of_lt_of_le nl hb.size
        replace hS := keep2 hb (Nat.le_succ _) hS
        have h0 : (X30.alloc (Obj.cells #[Value.int .i64 0, Value.int .i64 0] 24)).cell? ⟨X30.heap.size, 0, none⟩ = some (Value.int .i64 0) := cell_new _ _ _ 0
        have fh0 : (X30.alloc (Obj.cells #[Value.int .i64 0, Value.int .i64 0] 24)).frozen? ⟨X30.heap.size, 0, none⟩ = false := by simp [go_sem]
        have h1 : (X30.alloc (Obj.cells #[Value.int .i64 0, Value.int .i64 0] 24)).cell? ⟨X30.heap.size, 1, none⟩ = some (Value.int .i64 0) := cell_new _ _ _ 1
        have fh1 : (X30.alloc (Obj.cells #[Value.int .i64 0, Value.int .i64 0] 24)).frozen? ⟨X30.heap.size, 1, none⟩ = false := by simp [go_sem]
        have nh : X30.heap.size < (X30.alloc (Obj.cells #[Value.int .i64 0, Value.int .i64 0] 24)).heap.size := by simp
        refine hK.out _ _ hS (fun _ => ?_)
        clear hK K hb
        generalize X30.alloc (Obj.cells #[Value.int .i64 0, Value.int .i64 0] 24) = X35 at *
        try simp only [Act.put, sA, sB, sC]
        refine wpAnyH_ready (rs := [7]) (by kernel_rfl) (by simp) ?_
        refine AllReadyH.cons rfl (fun K hK => ?_) AllReadyH.nil
        go_simp
        refine (d4'.out _ hS).mono ?_
        rintro e X36 ⟨rfl, hb⟩
        replace hS := keep2 hb (Nat.le_succ _) hS
        replace l0 := cell_next hb nl l0
        replace fl0 := frozen_next hb nl fl0
        replace l1 := cell_next hb nl l1
        replace fl1 := frozen_next hb nl fl1
        replace nl := Nat.lt_of_lt_of_le nl hb.size
        replace h0 := cell_next hb nh h0
        replace fh0 := frozen_next hb nh fh0
        replace h1 := cell_next hb nh h1
        replace fh1 := frozen_next hb nh fh1
        replace nh := Nat.lt_of_lt_of_le nh hb.size
        refine hK.out _ _ hS (fun _ => ?_)
        clear hK K hb
        try simp only [Act.put, sA, sB, sC]
        refine wpAnyH_ready (rs := [10]) (by kernel_rfl) (by simp) ?_
        refine AllReadyH.cons rfl (fun K hK => ?_) AllReadyH.nil
        go_simp
        replace hS := keep2_far (u := .int .i64 va.1) (v := .int .i64 va.2) (by omega : _ < W0.heap.size) (by omega) (by omega) hS
        refine hK.out _ _ hS (fun _ => ?_)
        clear hK K
        replace h0 := set2_far (b := W0.heap.size) (.int .i64 va.1) (.int .i64 va.2) (by omega) h0
        replace fh0 := frozen_far (b := W0.heap.size) (.int .i64 va.1) (.int .i64 va.2) fh0
        replace h1 := set2_far (b := W0.heap.size) (.int .i64 va.1) (.int .i64 va.2) (by omega) h1
        replace fh1 := frozen_far (b := W0.heap.size) (.int .i64 va.1) (.int .i64 va.2) fh1
        obtain ⟨l0, l1⟩ := set2 (.int .i64 va.1) (.int .i64 va.2) l0 l1
        replace fl0 := frozen_far (b := W0.heap.size) (.int .i64 va.1) (.int .i64 va.2) fl0
        replace fl1 := frozen_far (b := W0.heap.size) (.int .i64 va.1) (.int .i64 va.2) fl1
        replace nl := size_far (b := W0.heap.size) (.int .i64 va.1) (.int .i64 va.2) nl
        replace nh := size_far (b := W0.heap.size) (.int .i64 va.1) (.int .i64 va.2) nh
        generalize ((X36.setCell ⟨W0.heap.size, 0, none⟩ (.int .i64 va.1)).setCell ⟨W0.heap.size, 1, none⟩ (.int .i64 va.2)) = X37 at *
        try simp only [Act.put, sA, sB, sC]
        refine wpAnyH_ready (rs := [11]) (by kernel_rfl) (by simp) ?_
        refine AllReadyH.cons rfl (fun K hK => ?_) AllReadyH.nil
        go_simp
        replace hS := keep2_far (u := .int .i64 vb.1) (v := .int .i64 vb.2) (by omega : _ < X30.heap.size) (by omega) (by omega) hS
        refine hK.out _ _ hS (fun _ => ?_)
        clear hK K
        replace l0 := set2_far (b := X30.heap.size) (.int .i64 vb.1) (.int .i64 vb.2) (by omega) l0
        replace fl0 := frozen_far (b := X30.heap.size) (.int .i64 vb.1) (.int .i64 vb.2) fl0
        replace l1 := set2_far (b := X30.heap.size) (.int .i64 vb.1) (.int .i64 vb.2) (by omega) l1
        replace fl1 := frozen_far (b := X30.heap.size) (.int .i64 vb.1) (.int .i64 vb.2) fl1
        obtain ⟨h0, h1⟩ := set2 (.int .i64 vb.1) (.int .i64 vb.2) h0 h1
        replace fh0 := frozen_far (b := X30.heap.size) (.int .i64 vb.1) (.int .i64 vb.2) fh0
        replace fh1 := frozen_far (b := X30.heap.size) (.int .i64 vb.1) (.int .i64 vb.2) fh1
        replace nl := size_far (b := X30.heap.size) (.int .i64 vb.1) (.int .i64 vb.2) nl
        replace nh := size_far (b := X30.heap.size) (.int .i64 vb.1) (.int .i64 vb.2) nh
        generalize ((X37.setCell ⟨X30.heap.size, 0, none⟩ (.int .i64 vb.1)).setCell ⟨X30.heap.size, 1, none⟩ (.int .i64 vb.2)) = X38 at *
        try simp only [Act.put, sA, sB, sC]
        refine wpAnyH_done (by kernel_rfl) ?_ _
        go_wp2_with fail
        go_meet
        exact ⟨_, _, rfl, rfl, nl, nh, l0, l1, h0, h1, hS⟩
      refine AllReadyH.cons rfl (fun K hK => ?_) AllReadyH.nil
      go_simp
      have hb := (Below.refl X29.heap.size X29).alloc (Nat.le_refl _) (Obj.cells #[Value.int .i64 0, Value.int .i64 0] 24)
      have bh : w.heap.size + 1 < X29.heap.size := hS.2.2.2.1
      have dlh : W0.heap.size < X29.heap.size := nl
      replace l0 := cell_next hb nl l0
      replace fl0 := frozen_next hb nl fl0
      replace l1 := cell_next hb nl l1
      replace fl1 := frozen_next hb nl fl1
      replace nl := Nat.lt_of_lt_of_le nl hb.size
      replace hS := keep2 hb (Nat.le_succ _) hS
      have h0 : (X29.alloc (Obj.cells #[Value.int .i64 0, Value.int .i64 0] 24)).cell? ⟨X29.heap.size, 0, none⟩ = some (Value.int .i64 0) := cell_new _ _ _ 0
      have fh0 : (X29.alloc (Obj.cells #[Value.int .i64 0, Value.int .i64 0] 24)).frozen? ⟨X29.heap.size, 0, none⟩ = false := by simp [go_sem]
      have h1 : (X29.alloc (Obj.cells #[Value.int .i64 0, Value.int .i64 0] 24)).cell? ⟨X29.heap.size, 1, none⟩ = some (Value.int .i64 0) := cell_new _ _ _ 1
      have fh1 : (X29.alloc (Obj.cells #[Value.int .i64 0, Value.int .i64 0] 24)).frozen? ⟨X29.heap.size, 1, none⟩ = false := by simp [go_sem]
      have nh : X29.heap.size < (X29.alloc (Obj.cells #[Value.int .i64 0, Value.int .i64 0] 24)).heap.size := by simp
      refine hK.out _ _ hS (fun _ => ?_)
      clear hK K hb
      generalize X29.alloc (Obj.cells #[Value.int .i64 0, Value.int .i64 0] 24) = X39 at *
      try simp only [Act.put, sA, sB, sC]
      refine wpAnyH_ready (rs := [3]) (by kernel_rfl) (by simp) ?_
      refine AllReadyH.cons rfl (fun K hK => ?_) AllReadyH.nil
      go_simp
      refine (d4.out _ hS).mono ?_
      rintro e X40 ⟨rfl, hb⟩
      replace hS := keep2 hb (Nat.le_succ _) hS
      replace l0 := cell_next hb nl l0
      replace fl0 := frozen_next hb nl fl0
      replace l1 := cell_next hb nl l1
      replace fl1 := frozen_next hb nl fl1
      replace nl := Nat.lt_of_lt_of_le nl hb.size
      replace h0 := cell_next hb nh h0
      replace fh0 := frozen_next hb nh fh0
      replace h1 := cell_next hb nh h1
      replace fh1 := frozen_next hb nh fh1
      replace nh := Nat.lt_of_lt_of_le nh hb.size
      refine hK.out _ _ hS (fun _ => ?_)
      clear hK K hb
      try simp only [Act.put, sA, sB, sC]
      refine wpAnyH_ready (rs := [7]) (by kernel_rfl) (by simp) ?_
      refine AllReadyH.cons rfl (fun K hK => ?_) AllReadyH.nil
      go_simp
      refine (d4'.out _ hS).mono ?_
      rintro e X41 ⟨rfl, hb⟩
      replace hS := keep2 hb (Nat.le_succ _) hS
      replace l0 := cell_next hb nl l0
      replace fl0 := frozen_next hb nl fl0
      replace l1 := cell_next hb nl l1
      replace fl1 := frozen_next hb nl fl1
      replace nl := Nat.lt_of_lt_of_le nl hb.size
      replace h0 := cell_next hb nh h0
      replace fh0 := frozen_next hb nh fh0
      replace h1 := cell_next hb nh h1
      replace fh1 := frozen_next hb nh fh1
      replace nh := Nat.lt_of_lt_of_le nh hb.size
      refine hK.out _ _ hS (fun _ => ?_)
      clear hK K hb
      try simp only [Act.put, sA, sB, sC]
      refine wpAnyH_ready (rs := [10]) (by kernel_rfl) (by simp) ?_
      refine AllReadyH.cons rfl (fun K hK => ?_) AllReadyH.nil
      go_simp
      replace hS := keep2_far (u := .int .i64 va.1) (v := .int .i64 va.2) (by omega : _ < W0.heap.size) (by omega) (by omega) hS
      refine hK.out _ _ hS (fun _ => ?_)
      clear hK K
      replace h0 := set2_far (b := W0.heap.size) (.int .i64 va.1) (.int .i64 va.2) (by omega) h0
      replace fh0 := frozen_far (b := W0.heap.size) (.int .i64 va.1) (.int .i64 va.2) fh0
      replace h1 := set2_far (b := W0.heap.size) (.int .i64 va.1) (.int .i64 va.2) (by omega) h1
      replace fh1 := frozen_far (b := W0.heap.size) (.int .i64 va.1) (.int .i64 va.2) fh1
      obtain ⟨l0, l1⟩ := set2 (.int .i64 va.1) (.int .i64 va.2) l0 l1
      replace fl0 := frozen_far (b := W0.heap.size) (.int .i64 va.1) (.int .i64 va.2) fl0
      replace fl1 := frozen_far (b := W0.heap.size) (.int .i64 va.1) (.int .i64 va.2) fl1
      replace nl := size_far (b := W0.heap.size) (.int .i64 va.1) (.int .i64 va.2) nl
      replace nh := size_far (b := W0.heap.size) (.int .i64 va.1) (.int .i64 va.2) nh
      generalize ((X41.setCell ⟨W0.heap.size, 0, none⟩ (.int .i64 va.1)).setCell ⟨W0.heap.size, 1, none⟩ (.int .i64 va.2)) = X42 at *
      try simp only [Act.put, sA, sB, sC]
      refine wpAnyH_ready (rs := [11]) (by kernel_rfl) (by simp) ?_
      refine AllReadyH.cons rfl (fun K hK => ?_) AllReadyH.nil
      go_simp
      replace hS := keep2_far (u := .int .i64 vb.1) (v := .int .i64 vb.2) (by omega : _ < X29.heap.size) (by omega) (by omega) hS
      refine hK.out _ _ hS (fun _ => ?_)
      clear hK K
      replace l0 := set2_far (b := X29.heap.size) (.int .i64 vb.1) (.int .i64 vb.2) (by omega) l0
      replace fl0 := frozen_far (b := X29.heap.size) (.int .i64 vb.1) (.int .i64 vb.2) fl0
      replace l1 := set2_far (b := X29.heap.size) (.int .i64 vb.1) (.int .i64 vb.2) (by omega) l1
      replace fl1 := frozen_far (b := X29.heap.size) (.int .i64 vb.1) (.int .i64 vb.2) fl1
      obtain ⟨h0, h1⟩ := set2 (.int .i64 vb.1) (.int .i64 vb.2) h0 h1
      replace fh0 := frozen_far (b := X29.heap.size) (.int .i64 vb.1) (.int .i64 vb.2) fh0
      replace fh1 := frozen_far (b := X29.heap.size) (.int .i64 vb.1) (.int .i64 vb.2) fh1
      replace nl := size_far (b := X29.heap.size) (.int .i64 vb.1) (.int .i64 vb.2) nl
      replace nh := size_far (b := X29.heap.size) (.int .i64 vb.1) (.int .i64 vb.2) nh
      generalize ((X42.setCell ⟨X29.heap.size, 0, none⟩ (.int .i64 vb.1)).setCell ⟨X29.heap.size, 1, none⟩ (.int .i64 vb.2)) = X43 at *
      try simp only [Act.put, sA, sB, sC]
      refine wpAnyH_done (by kernel_rfl) ?_ _
      go_wp2_with fail
      go_meet
      exact ⟨_, _, rfl, rfl, nl, nh, l0, l1, h0, h1, hS⟩
    refine AllReadyH.cons rfl (fun K hK => ?_) AllReadyH.nil
    go_simp
    have hb := (Below.refl W0.heap.size W0).alloc (Nat.le_refl _) (Obj.cells #[Value.int .i64 0, Value.int .i64 0] 24)
    have bh : w.heap.size + 1 < W0.heap.size := hS.2.2.2.1
    replace hS := keep2 hb (Nat.le_succ _) hS
    have h0 : (W0.alloc (Obj.cells #[Value.int .i64 0, Value.int .i64 0] 24)).cell? ⟨W0.heap.size, 0, none⟩ = some (Value.int .i64 0) := cell_new _ _ _ 0
    have fh0 : (W0.alloc (Obj.cells #[Value.int .i64 0, Value.int .i64 0] 24)).frozen? ⟨W0.heap.size, 0, none⟩ = false := by simp [go_sem]
    have h1 : (W0.alloc (Obj.cells #[Value.int .i64 0, Value.int .i64 0] 24)).cell? ⟨W0.heap.size, 1, none⟩ = some (Value.int .i64 0) := cell_new _ _ _ 1
    have fh1 : (W0.alloc (Obj.cells #[Value.int .i64 0, Value.int .i64 0] 24)).frozen? ⟨W0.heap.size, 1, none⟩ = false := by simp [go_sem]
    have nh : W0.heap.size < (W0.alloc (Obj.cells #[Value.int .i64 0, Value.int .i64 0] 24)).heap.size := by simp
    refine hK.out _ _ hS (fun _ => ?_)
    clear hK K hb
    generalize W0.alloc (Obj.cells #[Value.int .i64 0, Value.int .i64 0] 24) = X44 at *
    try simp only [Act.put, sA, sB, sC]
    refine wpAnyH_ready (rs := [3, 8]) (by kernel_rfl) (by simp) ?_
    refine AllReadyH.cons rfl (fun K hK => ?_) ?_
    · go_simp
      refine (d4.out _ hS).mono ?_
      rintro e X45 ⟨rfl, hb⟩
      replace hS := keep2 hb (Nat.le_succ _) hS
      replace h0 := cell_next hb nh h0
      replace fh0 := frozen_next hb nh fh0
      replace h1 := cell_next hb nh h1
      replace fh1 := frozen_next hb nh fh1
      replace nh := Nat.lt_of_lt_of_le nh hb.size
      refine hK.out _ _ hS (fun _ => ?_)
      clear hK K hb
      try simp only [Act.put, sA, sB, sC]
      refine wpAnyH_ready (rs := [7, 8]) (by kernel_rfl) (by simp) ?_
      refine AllReadyH.cons rfl (fun K hK => ?_) ?_
      · go_simp
        refine (d4'.out _ hS).mono ?_
        rintro e X46 ⟨rfl, hb⟩
        replace hS := keep2 hb (Nat.le_succ _) hS
        replace h0 := cell_next hb nh h0
        replace fh0 := frozen_next hb nh fh0
        replace h1 := cell_next hb nh h1
        replace fh1 := frozen_next hb nh fh1
        replace nh := Nat.lt_of_lt_of_le nh hb.size
        refine hK.out _ _ hS (fun _ => ?_)
        clear hK K hb
        try simp only [Act.put, sA, sB, sC]
        refine wpAnyH_ready (rs := [8]) (by kernel_rfl) (by simp) ?_
        refine AllReadyH.cons rfl (fun K hK => ?_) AllReadyH.nil
        go_simp
        have hb := (Below.refl X46.heap.size X46).alloc (Nat.le_refl _) (Obj.cells #[Value.int .i64 0, Value.int .i64 0] 24)
        have bl : w.heap.size + 1 < X46.heap.size := hS.2.2.2.1
        have dhl : W0.heap.size < X46.heap.size := nh
        replace h0 := cell_next hb nh h0
        replace fh0 := frozen_next hb nh fh0
        replace h1 := cell_next hb nh h1
        replace fh1 := frozen_next hb nh fh1
        replace nh := Nat.lt_of_lt_of_le nh hb.size
        replace hS := keep2 hb (Nat.le_succ _) hS
        have l0 : (X46.alloc (Obj.cells #[Value.int .i64 0, Value.int .i64 0] 24)).cell? ⟨X46.heap.size, 0, none⟩ = some (Value.int .i64 0) := cell_new _ _ _ 0
        have fl0 : (X46.alloc (Obj.cells #[Value.int .i64 0, Value.int .i64 0] 24)).frozen? ⟨X46.heap.size, 0, none⟩ = false := by simp [go_sem]
        have l1 : (X46.alloc (Obj.cells #[Value.int .i64 0, Value.int .i64 0] 24)).cell? ⟨X46.heap.size, 1, none⟩ = some (Value.int .i64 0) := cell_new _ _ _ 1
        have fl1 : (X46.alloc (Obj.cells #[Value.int .i64 0, Value.int .i64 0] 24)).frozen? ⟨X46.heap.size, 1, none⟩ = false := by simp [go_sem]
        have nl : X46.heap.size < (X46.alloc (Obj.cells #[Value.int .i64 0, Value.int .i64 0] 24)).heap.size := by simp
        refine hK.out _ _ hS (fun _ => ?_)
        clear hK K hb
        generalize X46.alloc (Obj.cells #[Value.int .i64 0, Value.int .i64 0] 24) = X47 at *
        try simp only [Act.put, sA, sB, sC]
        refine wpAnyH_ready (rs := [10]) (by kernel_rfl) (by simp) ?_
        refine AllReadyH.cons rfl (fun K hK => ?_) AllReadyH.nil
        go_simp
        replace hS := keep2_far (u := .int .i64 va.1) (v := .int .i64 va.2) (by omega : _ < X46.heap.size) (by omega) (by omega) hS
        refine hK.out _ _ hS (fun _ => ?_)
        clear hK K
        replace h0 := set2_far (b := X46.heap.size) (.int .i64 va.1) (.int .i64 va.2) (by omega) h0
        replace fh0 := frozen_far (b := X46.heap.size) (.int .i64 va.1) (.int .i64 va.2) fh0
        replace h1 := set2_far (b := X46.heap.size) (.int .i64 va.1) (.int .i64 va.2) (by omega) h1
        replace fh1 := frozen_far (b := X46.heap.size) (.int .i64 va.1) (.int .i64 va.2) fh1
        obtain ⟨l0, l1⟩ := set2 (.int .i64 va.1) (.int .i64 va.2) l0 l1
        replace fl0 := frozen_far (b := X46.heap.size) (.int .i64 va.1) (.int .i64 va.2) fl0
        replace fl1 := frozen_far (b := X46.heap.size) (.int .i64 va.1) (.int .i64 va.2) fl1
        replace nh := size_far (b := X46.heap.size) (.int .i64 va.1) (.int .i64 va.2) nh
        replace nl := size_far (b := X46.heap.size) (.int .i64 va.1) (.int .i64 va.2) nl
        generalize ((X47.setCell ⟨X46.heap.size, 0, none⟩ (.int .i64 va.1)).setCell ⟨X46.heap.size, 1, none⟩ (.int .i64 va.2)) = X48 at *
        try simp only [Act.put, sA, sB, sC]
        refine wpAnyH_ready (rs := [11]) (by kernel_rfl) (by simp) ?_
        refine AllReadyH.cons rfl (fun K hK => ?_) AllReadyH.nil
        go_simp
        replace hS := keep2_far (u := .int .i64 vb.1) (v := .int .i64 vb.2) (by omega : _ < W0.heap.size) (by omega) (by omega) hS
        refine hK.out _ _ hS (fun _ => ?_)
        clear hK K
        replace l0 := set2_far (b := W0.heap.size) (.int .i64 vb.1) (.int .i64 vb.2) (by omega) l0
        replace fl0 := frozen_far (b := W0.heap.size) (.int .i64 vb.1) (.int .i64 vb.2) fl0
        replace l1 := set2_far (b := W0.heap.size) (.int .i64 vb.1) (.int .i64 vb.2) (by omega) l1
        replace fl1 := frozen_far (b := W0.heap.size) (.int .i64 vb.1) (.int .i64 vb.2) fl1
        obtain ⟨h0, h1⟩ := set2 (.int .i64 vb.1) (.int .i64 vb.2) h0 h1
        replace fh0 := frozen_far (b := W0.heap.size) (.int .i64 vb.1) (.int .i64 vb.2) fh0
        replace fh1 := frozen_far (b := W0.heap.size) (.int .i64 vb.1) (.int .i64 vb.2) fh1
        replace nh := size_far (b := W0.heap.size) (.int .i64 vb.1) (.int .i64 vb.2) nh
        replace nl := size_far (b := W0.heap.size) (.int .i64 vb.1) (.int .i64 vb.2) nl
        generalize ((X48.setCell ⟨W0.heap.size, 0, none⟩ (.int .i64 vb.1)).setCell ⟨W0.heap.size, 1, none⟩ (.int .i64 vb.2)) = X49 at *
        try simp only [Act.put, sA, sB, sC]
        refine wpAnyH_done (by kernel_rfl) ?_ _
        go_wp2_with fail
        go_meet
        exact ⟨_, _, rfl, rfl, nl, nh, l0, l1, h0, h1, hS⟩
      refine AllReadyH.cons rfl (fun K hK => ?_) AllReadyH.nil
      go_simp
      have hb := (Below.refl X45.heap.size X45).alloc (Nat.le_refl _) (Obj.cells #[Value.int .i64 0, Value.int .i64 0] 24)
      have bl : w.heap.size + 1 < X45.heap.size := hS.2.2.2.1
      have dhl : W0.heap.size < X45.heap.size := nh
      replace h0 := cell_next hb nh h0
      replace fh0 := frozen_next hb nh fh0
      replace h1 := cell_next hb nh h1
      replace fh1 := frozen_next hb nh fh1
      replace nh := Nat.lt_of_lt_of_le nh hb.size
      replace hS := keep2 hb (Nat.le_succ _) hS
      have l0 : (X45.alloc (Obj.cells #[Value.int .i64 0, Value.int .i64 0] 24)).cell? ⟨X45.heap.size, 0, none⟩ = some (Value.int .i64 0) := cell_new _ _ _ 0
      have fl0 : (X45.alloc (Obj.cells #[Value.int .i64 0, Value.int .i64 0] 24)).frozen? ⟨X45.heap.size, 0, none⟩ = false := by simp [go_sem]
      have l1 : (X45.alloc (Obj.cells #[Value.int .i64 0, Value.int .i64 0] 24)).cell? ⟨X45.heap.size, 1, none⟩ = some (Value.int .i64 0) := cell_new _ _ _ 1
      have fl1 : (X45.alloc (Obj.cells #[Value.int .i64 0, Value.int .i64 0] 24)).frozen? ⟨X45.heap.size, 1, none⟩ = false := by simp [go_sem]
      have nl : X45.heap.size < (X45.alloc (Obj.cells #[Value.int .i64 0, Value.int .i64 0] 24)).heap.size := by simp
      refine hK.out _ _ hS (fun _ => ?_)
      clear hK K hb
      generalize X45.alloc (Obj.cells #[Value.int .i64 0, Value.int .i64 0] 24) = X50 at *
      try simp only [Act.put, sA, sB, sC]
      refine wpAnyH_ready (rs := [7]) (by kernel_rfl) (by simp) ?_
      refine AllReadyH.cons rfl (fun K hK => ?_) AllReadyH.nil
      go_simp
      refine (d4'.out _ hS).mono ?_
      rintro e X51 ⟨rfl, hb⟩
      replace hS := keep2 hb (Nat.le_succ _) hS
      replace h0 := cell_next hb nh h0
      replace fh0 := frozen_next hb nh fh0
      replace h1 := cell_next hb nh h1
      replace fh1 := frozen_next hb nh fh1
      replace nh := Nat.lt_of_lt_of_le nh hb.size
      replace l0 := cell_next hb nl l0
      replace fl0 := frozen_next hb nl fl0
      replace l1 := cell_next hb nl l1
      replace fl1 := frozen_next hb nl fl1
      replace nl := Nat.lt_of_lt_of_le nl hb.size
      refine hK.out _ _ hS (fun _ => ?_)
      clear hK K hb
      try simp only [Act.put, sA, sB, sC]
      refine wpAnyH_ready (rs := [10]) (by kernel_rfl) (by simp) ?_
      refine AllReadyH.cons rfl (fun K hK => ?_) AllReadyH.nil
      go_simp
      replace hS := keep2_far (u := .int .i64 va.1) (v := .int .i64 va.2) (by omega : _ < X45.heap.size) (by omega) (by omega) hS
      refine hK.out _ _ hS (fun _ => ?_)
      clear hK K
      replace h0 := set2_far (b := X45.heap.size) (.int .i64 va.1) (.int .i64 va.2) (by omega) h0
      replace fh0 := frozen_far (b := X45.heap.size) (.int .i64 va.1) (.int .i64 va.2) fh0
      replace h1 := set2_far (b := X45.heap.size) (.int .i64 va.1) (.int .i64 va.2) (by omega) h1
      replace fh1 := frozen_far (b := X45.heap.size) (.int .i64 va.1) (.int .i64 va.2) fh1
      obtain ⟨l0, l1⟩ := set2 (.int .i64 va.1) (.int .i64 va.2) l0 l1
      replace fl0 := frozen_far (b := X45.heap.size) (.int .i64 va.1) (.int .i64 va.2) fl0
      replace fl1 := frozen_far (b := X45.heap.size) (.int .i64 va.1) (.int .i64 va.2) fl1
      replace nh := size_far (b := X45.heap.size) (.int .i64 va.1) (.int .i64 va.2) nh
      replace nl := size_far (b := X45.heap.size) (.int .i64 va.1) (.int .i64 va.2) nl
      generalize ((X51.setCell ⟨X45.heap.size, 0, none⟩ (.int .i64 va.1)).setCell ⟨X45.heap.size, 1, none⟩ (.int .i64 va.2)) = X52 at *
      try simp only [Act.put, sA, sB, sC]
      refine wpAnyH_ready (rs := [11]) (by kernel_rfl) (by simp) ?_
      refine AllReadyH.cons rfl (fun K hK => ?_) AllReadyH.nil
      go_simp
      replace hS := keep2_far (u := .int .i64 vb.1) (v := .int .i64 vb.2) (by omega : _ < W0.heap.size) (by omega) (by omega) hS
      refine hK.out _ _ hS (fun _ => ?_)
      clear hK K
      replace l0 := set2_far (b := W0.heap.size) (.int .i64 vb.1) (.int .i64 vb.2) (by omega) l0
      replace fl0 := frozen_far (b := W0.heap.size) (.int .i64 vb.1) (.int .i64 vb.2) fl0
      replace l1 := set2_far (b := W0.heap.size) (.int .i64 vb.1) (.int .i64 vb.2) (by omega) l1
      replace fl1 := frozen_far (b := W0.heap.size) (.int .i64 vb.1) (.int .i64 vb.2) fl1
      obtain ⟨h0, h1⟩ := set2 (.int .i64 vb.1) (.int .i64 vb.2) h0 h1
      replace fh0 := frozen_far (b := W0.heap.size) (.int .i64 vb.1) (.int .i64 vb.2) fh0
      replace fh1 := frozen_far (b := W0.heap.size) (.int .i64 vb.1) (.int .i64 vb.2) fh1
      replace nh := size_far (b := W0.heap.size) (.int .i64 vb.1) (.int .i64 vb.2) nh
      replace nl := size_far (b := W0.heap.size) (.int .i64 vb.1) (.int .i64 vb.2) nl
      generalize ((X52.setCell ⟨W0.heap.size, 0, none⟩ (.int .i64 vb.1)).setCell ⟨W0.heap.size, 1, none⟩ (.int .i64 vb.2)) = X53 at *
      try simp only [Act.put, sA, sB, sC]
      refine wpAnyH_done (by kernel_rfl) ?_ _
      go_wp2_with fail
      go_meet
      exact ⟨_, _, rfl, rfl, nl, nh, l0, l1, h0, h1, hS⟩
    refine AllReadyH.cons rfl (fun K hK => ?_) AllReadyH.nil
    go_simp
    have hb := (Below.refl X44.heap.size X44).alloc (Nat.le_refl _) (Obj.cells #[Value.int .i64 0, Value.int .i64 0] 24)
    have bl : w.heap.size + 1 < X44.heap.size := hS.2.2.2.1
    have dhl : W0.heap.size < X44.heap.size := nh
    replace h0 := cell_next hb nh h0
    replace fh0 := frozen_next hb nh fh0
    replace h1 := cell_next hb nh h1
    replace fh1 := frozen_next hb nh fh1
    replace nh := Nat.lt_of_lt_of_le nh hb.size
    replace hS := keep2 hb (Nat.le_succ _) hS
    have l0 : (X44.alloc (Obj.cells #[Value.int .i64 0, Value.int .i64 0] 24)).cell? ⟨X44.heap.size, 0, none⟩ = some (Value.int .i64 0) := cell_new _ _ _ 0
    have fl0 : (X44.alloc (Obj.cells #[Value.int .i64 0, Value.int .i64 0] 24)).frozen? ⟨X44.heap.size, 0, none⟩ = false := by simp [go_sem]
    have l1 : (X44.alloc (Obj.cells #[Value.int .i64 0, Value.int .i64 0] 24)).cell? ⟨X44.heap.size, 1, none⟩ = some (Value.int .i64 0) := cell_new _ _ _ 1
    have fl1 : (X44.alloc (Obj.cells #[Value.int .i64 0, Value.int .i64 0] 24)).frozen? ⟨X44.heap.size, 1, none⟩ = false := by simp [go_sem]
    have nl : X44.heap.size < (X44.alloc (Obj.cells #[Value.int .i64 0, Value.int .i64 0] 24)).heap.size := by simp
    refine hK.out _ _ hS (fun _ => ?_)
    clear hK K hb
    generalize X44.alloc (Obj.cells #[Value.int .i64 0, Value.int .i64 0] 24) = X54 at *
    try simp only [Act.put, sA, sB, sC]
    refine wpAnyH_ready (rs := [3]) (by kernel_rfl) (by simp) ?_
    refine AllReadyH.cons rfl (fun K hK => ?_) AllReadyH.nil
    go_simp
    refine (d4.out _ hS).mono ?_
    rintro e X55 ⟨rfl, hb⟩
    replace hS := keep2 hb (Nat.le_succ _) hS
    replace h0 := cell_next hb nh h0
    replace fh0 := frozen_next hb nh fh0
    replace h1 := cell_next hb nh h1
    replace fh1 := frozen_next hb nh fh1
    replace nh := Nat.lt_of_lt_of_le nh hb.size
    replace l0 := cell_next hb nl l0
    replace fl0 := frozen_next hb nl fl0
    replace l1 := cell_next hb nl l1
    replace fl1 := frozen_next hb nl fl1
    replace nl := Nat.lt_of_lt_of_le nl hb.size
    refine hK.out _ _ hS (fun _ => ?_)
    clear hK K hb
    try simp only [Act.put, sA, sB, sC]
    refine wpAnyH_ready (rs := [7]) (by kernel_rfl) (by simp) ?_
    refine AllReadyH.cons rfl (fun K hK => ?_) AllReadyH.nil
    go_simp
    refine (d4'.out _ hS).mono ?_
    rintro e X56 ⟨rfl, hb⟩
    replace hS := keep2 hb (Nat.le_succ _) hS
    replace h0 := cell_next hb nh h0
    replace fh0 := frozen_next hb nh fh0
    replace h1 := cell_next hb nh h1
    replace fh1 := frozen_next hb nh fh1
    replace nh := Nat.lt_of_lt_of_le nh hb.size
    replace l0 := cell_next hb nl l0
    replace fl0 := frozen_next hb nl fl0
    replace l1 := cell_next hb nl l1
    replace fl1 := frozen_next hb nl fl1
    replace nl := Nat.lt_of_lt_of_le nl hb.size
    refine hK.out _ _ hS (fun _ => ?_)
    clear hK K hb
    try simp only [Act.put, sA, sB, sC]
    refine wpAnyH_ready (rs := [10]) (by kernel_rfl) (by simp) ?_
    refine AllReadyH.cons rfl (fun K hK => ?_) AllReadyH.nil
    go_simp
    replace hS := keep2_far (u := .int .i64 va.1) (v := .int .i64 va.2) (by omega : _ < X44.heap.size) (by omega) (by omega) hS
    refine hK.out _ _ hS (fun _ => ?_)
    clear hK K
    replace h0 := set2_far (b := X44.heap.size) (.int .i64 va.1) (.int .i64 va.2) (by omega) h0
    replace fh0 := frozen_far (b := X44.heap.size) (.int .i64 va.1) (.int .i64 va.2) fh0
    replace h1 := set2_far (b := X44.heap.size) (.int .i64 va.1) (.int .i64 va.2) (by omega) h1
    replace fh1 := frozen_far (b := X44.heap.size) (.int .i64 va.1) (.int .i64 va.2) fh1
    obtain ⟨l0, l1⟩ := set2 (.int .i64 va.1) (.int .i64 va.2) l0 l1
    replace fl0 := frozen_far (b := X44.heap.size) (.int .i64 va.1) (.int .i64 va.2) fl0
    replace fl1 := frozen_far (b := X44.heap.size) (.int .i64 va.1) (.int .i64 va.2) fl1
    replace nh := size_far (b := X44.heap.size) (.int .i64 va.1) (.int .i64 va.2) nh
    replace nl := size_far (b := X44.heap.size) (.int .i64 va.1) (.int .i64 va.2) nl
    generalize ((X56.setCell ⟨X44.heap.size, 0, none⟩ (.int .i64 va.1)).setCell ⟨X44.heap.size, 1, none⟩ (.int .i64 va.2)) = X57 at *
    try simp only [Act.put, sA, sB, sC]
    refine wpAnyH_ready (rs := [11]) (by kernel_rfl) (by simp) ?_
    refine AllReadyH.cons rfl (fun K hK => ?_) AllReadyH.nil
    go_simp
    replace hS := keep2_far (u := .int .i64 vb.1) (v := .int .i64 vb.2) (by omega : _ < W0.heap.size) (by omega) (by omega) hS
    refine hK.out _ _ hS (fun _ => ?_)
    clear hK K
    replace l0 := set2_far (b := W0.heap.size) (.int .i64 vb.1) (.int .i64 vb.2) (by omega) l0
    replace fl0 := frozen_far (b := W0.heap.size) (.int .i64 vb.1) (.int .i64 vb.2) fl0
    replace l1 := set2_far (b := W0.heap.size) (.int .i64 vb.1) (.int .i64 vb.2) (by omega) l1
    replace fl1 := frozen_far (b := W0.heap.size) (.int .i64 vb.1) (.int .i64 vb.2) fl1
    obtain ⟨h0, h1⟩ := set2 (.int .i64 vb.1) (.int .i64 vb.2) h0 h1
    replace fh0 := frozen_far (b := W0.heap.size) (.int .i64 vb.1) (.int .i64 vb.2) fh0
    replace fh1 := frozen_far (b := W0.heap.size) (.int .i64 vb.1) (.int .i64 vb.2) fh1
    replace nh := size_far (b := W0.heap.size) (.int .i64 vb.1) (.int .i64 vb.2) nh
    replace nl := size_far (b := W0.heap.size) (.int .i64 vb.1) (.int .i64 vb.2) nl
    generalize ((X57.setCell ⟨W0.heap.size, 0, none⟩ (.int .i64 vb.1)).setCell ⟨W0.heap.size, 1, none⟩ (.int .i64 vb.2)) = X58 at *
    try simp only [Act.put, sA, sB, sC]
    refine wpAnyH_done (by kernel_rfl) ?_ _
    go_wp2_with fail
    go_meet
    exact ⟨_, _, rfl, rfl, nl, nh, l0, l1, h0, h1, hS⟩
  case rest =>
    clear HS c4 c4'
    obtain ⟨gx, hgx, hv0⟩ := vy_vx' hcut s0
    have HV0 := Lib.hid hv0
    have Hgx := Lib.hid hgx
    clear hv0 hgx
    obtain ⟨gl, gh, hsl, hsh, nl, nh, l0, l1, h0, h1, e0, e1, hk⟩ := hcut
    subst hsl hsh
    have M1 : ∀ tys ty w, (Builtin.min_ tys ty #[.int .i64 va.1, .int .i64 vb.1]).run Tryz.prog w = .ok (.int .i64 s0.1) w := fun tys ty w => (vrun_min2 tys ty .i64 _ _ w).trans (by rw [← HV.out])
    have M2 : ∀ tys ty w, (Builtin.max_ tys ty #[.int .i64 va.2, .int .i64 vb.2]).run Tryz.prog w = .ok (.int .i64 s0.2) w := fun tys ty w => (vrun_max2 tys ty .i64 _ _ w).trans (by rw [← HV.out])
    clear nl nh e0 e1 hk
    go_wp2_with fail
    clear M1 M2 l0 l1 h0 h1
    go_loopw [8] (fun i wr => ∃ k : Nat, k ≤ n ∧ i = .int .i64 k ∧ Vx a b w ((xs.take k).foldl (vsK a b) s0) (.pointer (some ⟨gx, 0, none⟩)) wr) (fun i _ => n - (RowKit.intOf i).toNat)
    case atStart => exact ⟨0, Nat.zero_le _, rfl, HV0.out⟩
    case round =>
      clear HV0
      rw [← Hgx.out]
      clear Hgx
      obtain ⟨k, hk, rfl, hvx⟩ := hrel
      have HX := Lib.hid hvx
      obtain ⟨gx', hge, hbx, hnx, x0, x1, fx0, fx1, e0, e1, hkp⟩ := hvx
      obtain rfl : gx = gx' := by injection hge with hge; injection hge with hge; injection hge
      clear hge
      by_cases hlt : (k : Int) < (n : Int)
      · obtain ⟨p, hp⟩ : ∃ p, xs[k]? = some p := ⟨_, List.getElem?_eq_getElem (by rw [Hn.out]; omega)⟩
        obtain ⟨p0, p1⟩ := (HR.out.below hkp.1 hg) k p hp
        have hnext : Hid ((xs.take (k + 1)).foldl (vsK a b) s0 = vsK a b ((xs.take k).foldl (vsK a b) s0) p) := Lib.hid (by rw [take_snocV xs k p hp, List.foldl_append]; rfl)
        generalize (xs.take k).foldl (vsK a b) s0 = s at *
        have cI := Lib.hid (rIn_any p.1 a b)
        have hk0 : (0 : Int) ≤ (k : Int) := by omega
        clear hp hkp
        by_cases hin : a ≤ p.1 ∧ p.1 ≤ b
        · have hn2 := Lib.hid (hnext.out.trans (show vsK a b s p = (min s.1 p.2, max s.2 p.2) from if_pos hin))
          rw [show (decide (a ≤ p.1) && decide (p.1 ≤ b)) = true from by simp; omega] at cI
          obtain ⟨q, hq⟩ : ∃ q : Int × Int, (min s.1 p.2, max s.2 p.2) = q := ⟨_, rfl⟩
          have M1 : ∀ tys ty w, (Builtin.min_ tys ty #[.int .i64 s.1, .int .i64 p.2]).run Tryz.prog w = .ok (.int .i64 q.1) w := fun tys ty w => (vrun_min2 tys ty .i64 _ _ w).trans (by rw [← hq])
          have M2 : ∀ tys ty w, (Builtin.max_ tys ty #[.int .i64 s.2, .int .i64 p.2]).run Tryz.prog w = .ok (.int .i64 q.2) w := fun tys ty w => (vrun_max2 tys ty .i64 _ _ w).trans (by rw [← hq])
          rw [hq] at hn2
          clear hnext hin hq
          go_wp2_with fail
          go_quiet ((go_at_call 53; (with_reducible exact quiet_left (cI.out _))))
          go_wp2_with fail
          go_region
          all_goals
            go_wp2_with fail
            go_roundw
            case rel => exact ⟨k + 1, by omega, by go_num, by rw [hn2.out]; first | exact vx_set (vx_drew (vx_drewN HX.out _)) _ | exact vx_drew (vx_set (vx_drewN HX.out _) _)⟩
            case measure => simp [RowKit.intOf]; omega
        · have hn2 := Lib.hid (hnext.out.trans (show vsK a b s p = s from if_neg hin))
          rw [show (decide (a ≤ p.1) && decide (p.1 ≤ b)) = false from by simp; omega] at cI
          clear hnext hin
          go_wp2_with fail
          go_quiet ((go_at_call 53; (with_reducible exact quiet_left (cI.out _))))
          go_wp2_with fail
          go_roundw
          case rel => exact ⟨k + 1, by omega, by go_num, by rw [hn2.out]; exact vx_drewN HX.out _⟩
          case measure => simp [RowKit.intOf]; omega
      · obtain rfl : k = n := by omega
        have hT : (xs.take k).foldl (vsK a b) s0 = res := by rw [HD.out, List.take_of_length_le (by rw [Hn.out]; exact Nat.le_refl _)]
        rw [hT] at x0 x1
        clear hT HX
        obtain ⟨hB, nz, ⟨u0, r0⟩, ⟨u1, r1⟩, f0, f1⟩ := hkp
        obtain ⟨t0, t1⟩ := set2 (.int .i64 res.1) (.int .i64 res.2) r0 r1
        have hB2 := Lib.hid ((hB.setCell (p := ⟨w.heap.size + 1, 0, none⟩) (Nat.le_succ _) (.int .i64 res.1)).setCell (p := ⟨w.heap.size + 1, 1, none⟩) (Nat.le_succ _) (.int .i64 res.2))
        clear hB
        go_wp2_with fail
        refine bodyPost_ret (v := .agg #[.int .i64 res.1, .int .i64 res.2]) (by simp [results, Tryz.results57, go_sem, t0, t1]) rfl ⟨rfl, hB2.out⟩
end Go.Proofs.YtjmgmjaeknanaaaGreat

