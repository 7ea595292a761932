/- Contracts: the reference's sets widened and narrowed. -/
import Derived.Test.YtiibbnbknmeplaaC18
import Derived.Deep.AppendLies
namespace Go.Proofs.Ytiibbnbknmeplaa
open Go.RowKit Go.Lib Go.Shelf
set_option linter.unusedVariables false
set_option linter.unusedSimpArgs false
attribute [local go_sem ↓] Go.wp_at_zero Go.wp_at_succ

theorem own_made (w : World) (T : TypeId) : (w.alloc (.cells #[] T)).ownsRow w.heap.size T 2 (.slice (some ⟨w.heap.size, 0, none⟩) 0 0) 0 [] :=
  ⟨rfl, .inr ⟨w.heap.size, 0, #[], rfl, Nat.le_refl _, heap_alloc_new w _, Nat.le_refl _, Nat.zero_le _, rfl, rfl⟩⟩
theorem flat_last' {ys : List (Int × Int)} {p : Int × Int} {m : Nat} (h : ys.length = m) : (flat (ys ++ [p]))[m * 2 + 1]? = some (.int .i64 p.2) := by rw [← h]; exact flat_last ys p
/-- what is left of a list that is returned -/
def List1Post (w : World) (ys : List (Int × Int)) (e : Ending) (w' : World) : Prop :=
  ∃ v, e = .returned v ∧ w'.ownsRow w.heap.size 24 2 v ys.length (flat ys) ∧ Below w.heap.size w w'

set_option maxRecDepth 20000 in
set_option maxHeartbeats 2000000 in
theorem rNarrow_any (v : Value) (xs : List (Int × Int)) (b : Int) (hs : setE xs = 0) (b0 : 0 ≤ b) (b1 : b ≤ 1000000000000000) (w : World) (hv : SetAt w.heap.size w v xs) :
    Calls Try.prog 83 #[v, .int .i64 b] w (List1Post w (nwL b xs)) := by
  obtain ⟨i0, hi0, hz0, hz1, hz2⟩ := info_parts infoRange
  obtain ⟨hl, hv0⟩ := setE_bd hs
  have HV := Lib.hid hv0
  obtain ⟨A, c, rfl, hr⟩ := hv
  obtain ⟨n, hn⟩ : ∃ n, xs.length = n := ⟨_, rfl⟩
  rw [hn] at hl hr ⊢
  have Hn := Lib.hid hn
  have HR := Lib.hid hr
  clear hr hn hs hv0
  have HM := Lib.hid (own_made w 24)
  go_enter Try.func83, Try.ntmps83
  go_wp2_with fail
  go_loopw [5, 6] (fun s i wr => ∃ k : Nat, k ≤ n ∧ i = .int .i64 k ∧ wr.ownsRow w.heap.size 24 2 s (nwL b (xs.take k)).length (flat (nwL b (xs.take k))) ∧ Below w.heap.size w wr) (fun _ i _ => n - (intOf i).toNat)
  case atStart => exact ⟨0, Nat.zero_le _, rfl, HM.out, (Below.refl _ _).alloc (Nat.le_refl _) _⟩
  case round =>
    clear HM
    obtain ⟨k, hk, rfl, hown, hbr⟩ := hrel
    by_cases hlt : (k : Int) < (n : Int)
    · obtain ⟨p, hp⟩ : ∃ p, xs[k]? = some p := ⟨_, List.getElem?_eq_getElem (by rw [Hn.out]; omega)⟩
      obtain ⟨g, off, rfl, hg, hc⟩ := HR.out (by omega)
      obtain ⟨q0, q1⟩ := (hc.below hbr hg) k p hp
      obtain ⟨p1, p2, p3⟩ := vrB_of (HV.out p (List.mem_of_getElem? hp))
      have hnext : Hid (nwL b (xs.take (k + 1)) = if p.1 + b ≤ p.2 - b then nwL b (xs.take k) ++ [(p.1 + b, p.2 - b)] else nwL b (xs.take k)) := Lib.hid (by rw [take_snoc'' xs k p hp, nwL_snoc])
      have hlen : (nwL b (xs.take k)).length ≤ k := Nat.le_trans (nwL_len _ _) (List.length_take_le _ _)
      have HO := Lib.hid hown
      have hz := hbr.size
      have hgw : g < wr.heap.size := Nat.lt_of_lt_of_le hg hz
      have hk0 : (0 : Int) ≤ (k : Int) := by omega
      have hw1 : IntKind.i64.wrap (p.1 + b) = p.1 + b := IntWalk.i64_in _ (by omega)
      have hw2 : IntKind.i64.wrap (p.2 - b) = p.2 - b := IntWalk.i64_in _ (by omega)
      clear hc hp hown
      generalize nwL b (xs.take k) = L at *
      by_cases hle : p.1 + b ≤ p.2 - b
      · have hn2 := Lib.hid (hnext.out.trans (if_pos hle))
        clear hnext
        go_wp2_with fail
        go_quiet (fail)
        go_wp2_with fail
        have hS : (wr.drewN nq).cell? ⟨g, off + k * 2, none⟩ = some (.int .i64 p.1) ∧ (wr.drewN nq).cell? ⟨g, off + k * 2 + 1, none⟩ = some (.int .i64 p.2) ∧ Fr g w (wr.drewN nq) := ⟨q0, q1, below_drewN hbr _, hgw⟩
        have HOX : Hid ((wr.drewN nq).drew.ownsRow w.heap.size 24 2 u5 L.length (flat L)) := Lib.hid HO.out
        refine wp_region_held_drew (S := fun w' => w'.cell? ⟨g, off + k * 2, none⟩ = some (.int .i64 p.1) ∧ w'.cell? ⟨g, off + k * 2 + 1, none⟩ = some (.int .i64 p.2) ∧ Fr g w w') (by kernel_rfl) ?_ (fun hHeld => ?_)
        focus (exact keepf (Below.drew (Below.refl _ _)) hS)
        refine take_slot (i := 0) (d := 29) (v := ?_) rfl rfl (by kernel_rfl) (by kernel_rfl) (by kernel_rfl) (fun _ _ _ h => h) (Or.inl ⟨by rfl, ?_⟩) (by assumption) ?_
        rotate_left 1
        focus (intro wS hSw; (try dsimp only at hSw); go_simp; try with_reducible rfl)
        try simp only [List.setIfInBounds_toArray, List.set_cons_zero, List.set_cons_succ]
        refine take_slot (i := 1) (d := 30) (v := ?_) rfl rfl (by kernel_rfl) (by kernel_rfl) (by kernel_rfl) (fun _ _ _ h => h) (Or.inl ⟨by rfl, ?_⟩) (by assumption) ?_
        rotate_left 1
        focus (intro wS hSw; (try dsimp only at hSw); go_simp; try with_reducible rfl)
        try simp only [List.setIfInBounds_toArray, List.set_cons_zero, List.set_cons_succ]
        refine take_slot (i := 2) (d := 31) (v := ?_) rfl rfl (by kernel_rfl) (by kernel_rfl) (by kernel_rfl) (fun _ _ _ h => h) (Or.inl ⟨by rfl, ?_⟩) (by assumption) ?_
        rotate_left 1
        focus (intro wS hSw; (try dsimp only at hSw); go_simp; try with_reducible rfl)
        try simp only [List.setIfInBounds_toArray, List.set_cons_zero, List.set_cons_succ]
        refine take_slot (i := 3) (d := 32) (v := ?_) rfl rfl (by kernel_rfl) (by kernel_rfl) (by kernel_rfl) (fun _ _ _ h => h) (Or.inl ⟨by rfl, ?_⟩) (by assumption) ?_
        rotate_left 1
        focus (intro wS hSw; (try dsimp only at hSw); go_simp; try with_reducible rfl)
        try simp only [List.setIfInBounds_toArray, List.set_cons_zero, List.set_cons_succ]
        refine take_slot (i := 4) (d := 33) (v := ?_) rfl rfl (by kernel_rfl) (by kernel_rfl) (by kernel_rfl) (fun _ _ _ h => h) (Or.inl ⟨by rfl, ?_⟩) (by assumption) ?_
        rotate_left 1
        focus (intro wS hSw; (try dsimp only at hSw); go_simp; try with_reducible rfl)
        try simp only [List.setIfInBounds_toArray, List.set_cons_zero, List.set_cons_succ]
        refine take_slot (i := 5) (d := 34) (v := ?_) rfl rfl (by kernel_rfl) (by kernel_rfl) (by kernel_rfl) (fun _ _ _ h => h) (Or.inl ⟨by rfl, ?_⟩) (by assumption) ?_
        rotate_left 1
        focus (intro wS hSw; (try dsimp only at hSw); go_simp; try with_reducible rfl)
        try simp only [List.setIfInBounds_toArray, List.set_cons_zero, List.set_cons_succ]
        refine take_slot (i := 6) (d := 35) (v := ?_) rfl rfl (by kernel_rfl) (by kernel_rfl) (by kernel_rfl) (fun _ _ _ h => h) (Or.inl ⟨by rfl, ?_⟩) (by assumption) ?_
        rotate_left 1
        focus (intro wS hSw; (try dsimp only at hSw); go_simp; try with_reducible rfl)
        try simp only [List.setIfInBounds_toArray, List.set_cons_zero, List.set_cons_succ]
        refine take_slot (i := 7) (d := 36) (v := ?_) rfl rfl (by kernel_rfl) (by kernel_rfl) (by kernel_rfl) (fun _ _ _ h => h) (Or.inl ⟨by rfl, ?_⟩) (by assumption) ?_
        rotate_left 1
        focus (intro wS hSw; (try dsimp only at hSw); go_simp; try with_reducible rfl)
        try simp only [List.setIfInBounds_toArray, List.set_cons_zero, List.set_cons_succ]
        refine take_slot (i := 8) (d := 37) (v := ?_) rfl rfl (by kernel_rfl) (by kernel_rfl) (by kernel_rfl) (fun _ _ _ h => h) (Or.inl ⟨by rfl, ?_⟩) (by assumption) ?_
        rotate_left 1
        focus (intro wS hSw; (try dsimp only at hSw); go_simp; try with_reducible rfl)
        try simp only [List.setIfInBounds_toArray, List.set_cons_zero, List.set_cons_succ]
        refine take_slot (i := 9) (d := 38) (v := ?_) rfl rfl (by kernel_rfl) (by kernel_rfl) (by kernel_rfl) (fun _ _ _ h => h) (Or.inl ⟨by rfl, ?_⟩) (by assumption) ?_
        rotate_left 1
        focus (intro wS hSw; (try dsimp only at hSw); go_simp; try with_reducible rfl)
        try simp only [List.setIfInBounds_toArray, List.set_cons_zero, List.set_cons_succ]
        refine take_slot (i := 10) (d := 39) (v := ?_) rfl rfl (by kernel_rfl) (by kernel_rfl) (by kernel_rfl) (fun _ _ _ h => h) (Or.inl ⟨by rfl, ?_⟩) (by assumption) ?_
        rotate_left 1
        focus (intro wS hSw; (try dsimp only at hSw); go_simp; try with_reducible rfl)
        try simp only [List.setIfInBounds_toArray, List.set_cons_zero, List.set_cons_succ]
        refine take_slot (i := 11) (d := 40) (v := ?_) rfl rfl (by kernel_rfl) (by kernel_rfl) (by kernel_rfl) (fun _ _ _ h => h) (Or.inl ⟨by rfl, ?_⟩) (by assumption) ?_
        rotate_left 1
        focus (intro wS hSw; (try dsimp only at hSw); go_simp; try with_reducible rfl)
        try simp only [List.setIfInBounds_toArray, List.set_cons_zero, List.set_cons_succ]
        refine take_slot (i := 12) (d := 41) (v := ?_) rfl rfl (by kernel_rfl) (by kernel_rfl) (by kernel_rfl) (fun _ _ _ h => h) (Or.inl ⟨by rfl, ?_⟩) (by assumption) ?_
        rotate_left 1
        focus (intro wS hSw; (try dsimp only at hSw); go_simp; try with_reducible rfl)
        try simp only [List.setIfInBounds_toArray, List.set_cons_zero, List.set_cons_succ]
        refine take_slot (i := 13) (d := 42) (v := ?_) rfl rfl (by kernel_rfl) (by kernel_rfl) (by kernel_rfl) (fun _ _ _ h => h) (Or.inl ⟨by rfl, ?_⟩) (by assumption) ?_
        rotate_left 1
        focus (intro wS hSw; (try dsimp only at hSw); go_simp; try with_reducible rfl)
        try simp only [List.setIfInBounds_toArray, List.set_cons_zero, List.set_cons_succ]
        refine take_slot (i := 14) (d := 43) (v := ?_) rfl rfl (by kernel_rfl) (by kernel_rfl) (by kernel_rfl) (fun _ _ _ h => h) (Or.inl ⟨by rfl, ?_⟩) (by assumption) ?_
        rotate_left 1
        focus (intro wS hSw; (try dsimp only at hSw); go_simp; try with_reducible rfl)
        try simp only [List.setIfInBounds_toArray, List.set_cons_zero, List.set_cons_succ]
        refine take_slot (i := 15) (d := 44) (v := ?_) rfl rfl (by kernel_rfl) (by kernel_rfl) (by kernel_rfl) (fun _ _ _ h => h) (Or.inl ⟨by rfl, ?_⟩) (by assumption) ?_
        rotate_left 1
        focus (intro wS hSw; (try dsimp only at hSw); go_simp; try with_reducible rfl)
        try simp only [List.setIfInBounds_toArray, List.set_cons_zero, List.set_cons_succ]
        refine wpAnyH_ready (rs := [16]) (by kernel_rfl) (by simp) ?_
        refine AllReadyH.cons rfl (fun K hK => ?_) AllReadyH.nil
        go_simp
        skip
        refine hK.out _ _ ?_ (fun hHeld => ?_)
        focus (exact keepf ((Below.refl _ _).alloc (Nat.le_refl _) _) (by assumption))
        clear hK K
        try simp only [Act.put, List.setIfInBounds_toArray, List.set_cons_zero, List.set_cons_succ]
        refine wpAnyH_ready (rs := [17]) (by kernel_rfl) (by simp) ?_
        refine AllReadyH.cons rfl (fun K hK => ?_) AllReadyH.nil
        refine step_append_lies _ rfl (.tmp 29) (.tmp 45) 22 rfl w.heap.size 24 i0 (.agg #[.int .i64 0, .int .i64 0]) 2 16 Try.underlying22 hi0 hz0 hz1 hz2 rfl (by decide) _ L.length (flat L) rfl (World.ownsRow.alloc HOX.out _) ⟨wr.heap.size, 0, none⟩ 1 1 [.int .i64 (p.1 + b), .int .i64 (p.2 - b)] rfl rfl ?_ ?_ (by decide) ?_ ?_ ?_ _ rfl ?_
        case refine_1 =>
          intro j u hj
          rcases j with _ | _ | j
          · simp at hj; subst hj; exact (cell_at _ _ _ _ _ (by simp [drew_size, drewN_size]))
          · simp at hj; subst hj; exact (cell_at _ _ _ _ _ (by simp [drew_size, drewN_size]))
          · simp at hj
        case refine_2 => simp [Value.oneCell']
        case refine_3 => unfold maxLen; omega
        case refine_4 => omega
        case refine_5 => simp [drew_size, drewN_size]; omega
        intro g7 c7 w7 own7 hgrow hat hlt7
        have hX := hHeld
        have hB7 := hX.2.2.1.grown hgrow hX.2.2.1.size (fun r hr => (World.ownsRow.lt HOX.out r hr).1)
        have HO7 := Lib.hid own7
        have e0 := grown_cell' hgrow hX.2.2.2 (fun r hr => by have := (World.ownsRow.lt HOX.out r hr).1; omega) hX.1
        have e1 := grown_cell' hgrow hX.2.2.2 (fun r hr => by have := (World.ownsRow.lt HOX.out r hr).1; omega) hX.2.1
        have e2 : Fr g w w7 := ⟨hB7, Nat.lt_of_lt_of_le hX.2.2.2 hgrow.size⟩
        clear hgrow hat own7 hX
        refine hK.out _ _ ⟨e0, e1, e2⟩ (fun hHeld => ?_)
        clear hK K e0 e1 e2
        try simp only [Act.put, List.setIfInBounds_toArray, List.set_cons_zero, List.set_cons_succ]
        refine take_slot (i := 18) (d := 5) (v := ?_) rfl rfl (by kernel_rfl) (by kernel_rfl) (by kernel_rfl) (fun _ _ _ h => h) (Or.inl ⟨by rfl, ?_⟩) (by assumption) ?_
        rotate_left 1
        focus (intro wS hSw; (try dsimp only at hSw); go_simp; try with_reducible rfl)
        try simp only [List.setIfInBounds_toArray, List.set_cons_zero, List.set_cons_succ]
        refine wpAnyH_done (by kernel_rfl) ?_ _
        go_wp2_with fail
        go_roundw
        case rel => exact ⟨k + 1, by omega, by go_num, by rw [hn2.out, flat_append, flat_one]; simpa using HO7.out, hB7⟩
        case measure => simp [intOf]; omega
      · have hn2 := Lib.hid (hnext.out.trans (if_neg hle))
        clear hnext
        have hle' : decide (p.1 + b ≤ p.2 - b) = false := by simpa using hle
        go_wp2_with fail
        go_quiet (fail)
        go_wp2_with fail
        go_roundw
        case rel => exact ⟨k + 1, by omega, by go_num, by rw [hn2.out]; exact ownsRow_drewN HO.out _, below_drewN hbr _⟩
        case measure => simp [intOf]; omega
    · obtain rfl : k = n := by omega
      have hT : xs.take k = xs := List.take_of_length_le (by rw [Hn.out]; exact Nat.le_refl _)
      rw [hT] at hown
      have HO := Lib.hid hown
      clear hT hown
      go_wp2_with fail
      go_ret
      exact ⟨_, rfl, HO.out, hbr⟩

set_option maxRecDepth 20000 in
set_option maxHeartbeats 4000000 in
theorem rWiden_any (v : Value) (xs : List (Int × Int)) (b : Int) (hs : setE xs = 0) (b0 : 0 ≤ b) (b1 : b ≤ 1000000000000000) (w : World) (hv : SetAt w.heap.size w v xs) :
    Calls Try.prog 82 #[v, .int .i64 b] w (List1Post w (widL b xs)) := by
  obtain ⟨i0, hi0, hz0, hz1, hz2⟩ := info_parts infoRange
  obtain ⟨hl, hv0⟩ := setE_bd hs
  have HV := Lib.hid hv0
  obtain ⟨A, c, rfl, hr⟩ := hv
  obtain ⟨n, hn⟩ : ∃ n, xs.length = n := ⟨_, rfl⟩
  rw [hn] at hl hr ⊢
  have Hn := Lib.hid hn
  have HR := Lib.hid hr
  clear hr hn hs hv0
  have HM := Lib.hid (own_made w 24)
  go_enter Try.func82, Try.ntmps82
  go_wp2_with fail
  go_loopw [5, 6] (fun s i wr => ∃ k : Nat, k ≤ n ∧ i = .int .i64 k ∧ wr.ownsRow w.heap.size 24 2 s (widL b (xs.take k)).length (flat (widL b (xs.take k))) ∧ Hid (∀ p ∈ widL b (xs.take k), -1000000000000000000 ≤ p.2 ∧ p.2 ≤ 1000000000000000000) ∧ Below w.heap.size w wr) (fun _ i _ => n - (intOf i).toNat)
  case atStart => exact ⟨0, Nat.zero_le _, rfl, HM.out, Lib.hid (by intro p hp; cases hp), (Below.refl _ _).alloc (Nat.le_refl _) _⟩
  case round =>
    clear HM
    obtain ⟨k, hk, rfl, hown, hbd, hbr⟩ := hrel
    by_cases hlt : (k : Int) < (n : Int)
    · obtain ⟨p, hp⟩ : ∃ p, xs[k]? = some p := ⟨_, List.getElem?_eq_getElem (by rw [Hn.out]; omega)⟩
      obtain ⟨g, off, rfl, hg, hc⟩ := HR.out (by omega)
      obtain ⟨q0, q1⟩ := (hc.below hbr hg) k p hp
      obtain ⟨p1, p2, p3⟩ := vrB_of (HV.out p (List.mem_of_getElem? hp))
      have hnext : Hid (widL b (xs.take (k + 1)) = extP (widL b (xs.take k)) (wdP b p)) := Lib.hid (by rw [take_snoc'' xs k p hp, widL_snoc])
      have hlen : (widL b (xs.take k)).length ≤ k := Nat.le_trans (widL_len _ _) (List.length_take_le _ _)
      have HO := Lib.hid hown
      have hz := hbr.size
      have hgw : g < wr.heap.size := Nat.lt_of_lt_of_le hg hz
      have hk0 : (0 : Int) ≤ (k : Int) := by omega
      have hw1 : IntKind.i64.wrap (p.1 - b) = p.1 - b := IntWalk.i64_in _ (by omega)
      have hw2 : IntKind.i64.wrap (p.2 + b) = p.2 + b := IntWalk.i64_in _ (by omega)
      have M1 : ∀ tys ty w, (Builtin.max_ tys ty #[.int .i64 (-1000000000000000), .int .i64 (p.1 - b)]).run Try.prog w = .ok (.int .i64 (wdP b p).1) w := fun tys ty w => (nrun_max2 tys ty .i64 _ _ w).trans (by simp only [wdP]; rw [Int.max_comm])
      have M2 : ∀ tys ty w, (Builtin.min_ tys ty #[.int .i64 1000000000000000, .int .i64 (p.2 + b)]).run Try.prog w = .ok (.int .i64 (wdP b p).2) w := fun tys ty w => (nrun_min2 tys ty .i64 _ _ w).trans (by simp only [wdP]; rw [Int.min_comm])
      have hwb : -1000000000000000000 ≤ (wdP b p).2 ∧ (wdP b p).2 ≤ 1000000000000000000 := by simp only [wdP]; omega
      have Hwb := Lib.hid hwb
      have hbd7 := Lib.hid (extP_bd (fun z => -1000000000000000000 ≤ z ∧ z ≤ 1000000000000000000) hbd.out (a := wdP b p) Hwb.out)
      clear hc hp hown hwb
      obtain ⟨L, hL⟩ : ∃ L, widL b (xs.take k) = L := ⟨_, rfl⟩
      rw [hL] at hnext hlen HO hbd hbd7
      clear hL
      generalize wdP b p = u at *
      have q0z : ∀ o, (wr.alloc o).cell? ⟨g, off + k * 2, none⟩ = _ := fun o => (((Below.refl wr.heap.size wr).alloc (Nat.le_refl _) o).cell (p := ⟨g, off + k * 2, none⟩) hgw).trans q0
      have q1z : ∀ o, (wr.alloc o).cell? ⟨g, off + k * 2 + 1, none⟩ = _ := fun o => (((Below.refl wr.heap.size wr).alloc (Nat.le_refl _) o).cell (p := ⟨g, off + k * 2 + 1, none⟩) hgw).trans q1
      rcases List.eq_nil_or_concat L with rfl | ⟨ys, q, rfl⟩
      · have hn2 : Hid (widL b (xs.take (k + 1)) = [u]) := Lib.hid (hnext.out.trans rfl)
        have hbd2 : Hid (∀ p ∈ [u], -1000000000000000000 ≤ p.2 ∧ p.2 ≤ 1000000000000000000) := Lib.hid (by simpa using Hwb.out)
        obtain ⟨c', A', rfl⟩ : ∃ (c : Nat) (A : Option Addr), u5 = .slice A 0 c := by
          rcases HO.out.2 with ⟨rfl, _⟩ | ⟨g, cap, cur, rfl, _⟩
          · exact ⟨_, _, rfl⟩
          · exact ⟨_, _, rfl⟩
        clear hnext hbd7
        go_wp2_with fail
        go_region
        have HO5 : Hid (((wr.alloc (.cells #[.int .i64 u.1, .int .i64 u.2] 24)).drew).ownsRow w.heap.size 24 2 (.slice A' 0 c') 0 (flat [])) := Lib.hid (HO.out.alloc _)
        have hB5 : Below w.heap.size w ((wr.alloc (.cells #[.int .i64 u.1, .int .i64 u.2] 24)).drew) := Below.drew (hbr.alloc hz _)
        have r0 : ((wr.alloc (.cells #[.int .i64 u.1, .int .i64 u.2] 24)).drew).cell? ⟨wr.heap.size, 0, none⟩ = some (.int .i64 u.1) := cell_new _ _ _ 0
        have r1 : ((wr.alloc (.cells #[.int .i64 u.1, .int .i64 u.2] 24)).drew).cell? ⟨wr.heap.size, 1, none⟩ = some (.int .i64 u.2) := cell_new _ _ _ 1
        clear q0 q1 q0z q1z
        generalize ((wr.alloc (.cells #[.int .i64 u.1, .int .i64 u.2] 24)).drew) = W5 at *
        go_wp2_with fail
        go_quiet (fail)
        have hz5 := hB5.size
        go_wp2_with (at_builtin; refine wpList_append_own_at _ rfl (.tmp 56) (.tmp 58) 22 rfl w.heap.size 24 i0 (.agg #[.int .i64 0, .int .i64 0]) 2 16 Try.underlying22 hi0 hz0 hz1 hz2 rfl (by decide) (.slice A' 0 c') 0 [] rfl ((ownsRow_drewN HO5.out nq).alloc _) ⟨W5.heap.size, 0, none⟩ 1 1 [.int .i64 u.1, .int .i64 u.2] rfl rfl ?_ ?_ ?_ ?_ ?_ ?_)
        case refine_1 =>
          intro j u hj
          rcases j with _ | _ | j
          · simp at hj; subst hj; exact (cell_at _ _ _ _ _ (by simp))
          · simp at hj; subst hj; exact (cell_at _ _ _ _ _ (by simp))
          · simp at hj
        case refine_2 => simp [Value.oneCell']
        case refine_3 => unfold maxLen; omega
        case refine_4 => omega
        case refine_5 => simp; omega
        case refine_6 =>
          intro v' w7 own7 hgrow _ hat
          have hB7 := ((below_drewN hB5 nq).alloc hz5 _).grown hgrow (by simp; omega) (fun r hr => (HO5.out.lt r hr).1)
          have HO7 := Lib.hid own7
          clear hgrow hat own7
          go_wp2_with fail
          go_roundw
          case rel => exact ⟨k + 1, by omega, by go_num, by rw [hn2.out, flat_one]; simpa using HO7.out, by rw [hn2.out]; exact hbd2, hB7⟩
          case measure => simp [intOf]; omega
      · rw [List.concat_eq_append] at *
        obtain ⟨qb1, qb2⟩ := hbd.out q (by simp)
        have hl2 : (ys ++ [q]).length = ys.length + 1 := by simp
        rw [hl2] at HO hlen
        obtain ⟨g5, cap5, rfl, hg5, hg5'⟩ := HO.out.form (by omega)
        have hcell := HO.out.cellAt (ys.length * 2 + 1) (by omega)
        rw [flat_last] at hcell
        have hg5w := (HO.out.lt g5 rfl).2
        have hg5b := (HO.out.lt g5 rfl).1
        have hset := Lib.hid (flat_set ys q u.2)
        obtain ⟨m, hm⟩ : ∃ m, ys.length = m := ⟨_, rfl⟩
        rw [hm] at hcell hset HO hlen ⊢
        have HM := Lib.hid hm
        clear hm hl2 hg5 hg5'
        have hm0 : (0 : Int) ≤ (m : Int) := by omega
        have hm1 : (m : Int) < (m : Int) + 1 := by omega
        have hwr : IntKind.i64.wrap (m : Int) = (m : Int) := IntWalk.i64_in _ (by omega)
        have hwp : IntKind.i64.wrap (q.2 + 1) = q.2 + 1 := IntWalk.i64_in _ (by omega)
        have hgd : (0 : Int) < (m : Int) + 1 := by omega
        have hne : g5 ≠ wr.heap.size := by omega
        have hcz : ∀ o, (wr.alloc o).cell? ⟨g5, m * 2 + 1, none⟩ = _ := fun o => (((Below.refl wr.heap.size wr).alloc (Nat.le_refl _) o).cell (p := ⟨g5, m * 2 + 1, none⟩) hg5w).trans hcell
        by_cases hle : u.1 ≤ q.2 + 1
        · have hn2 : Hid (widL b (xs.take (k + 1)) = ys ++ [(q.1, u.2)]) := Lib.hid (by rw [hnext.out]; simp [extP, hle])
          have hbd2 : Hid (∀ p ∈ ys ++ [(q.1, u.2)], -1000000000000000000 ≤ p.2 ∧ p.2 ≤ 1000000000000000000) := Lib.hid (by
            have h := hbd7.out
            rw [show extP (ys ++ [q]) u = ys ++ [(q.1, u.2)] from by simp [extP, hle]] at h
            exact h)
          clear hnext hbd7 hbd
          go_wp2_with fail
          go_region
          have HO5 : Hid (((wr.alloc (.cells #[.int .i64 u.1, .int .i64 u.2] 24)).drew).ownsRow w.heap.size 24 2 (.slice (some ⟨g5, 0, none⟩) (m + 1) cap5) (m + 1) (flat (ys ++ [q]))) := Lib.hid (HO.out.alloc _)
          have hB5 : Below w.heap.size w ((wr.alloc (.cells #[.int .i64 u.1, .int .i64 u.2] 24)).drew) := Below.drew (hbr.alloc hz _)
          have r0 : ((wr.alloc (.cells #[.int .i64 u.1, .int .i64 u.2] 24)).drew).cell? ⟨wr.heap.size, 0, none⟩ = some (.int .i64 u.1) := cell_new _ _ _ 0
          have r1 : ((wr.alloc (.cells #[.int .i64 u.1, .int .i64 u.2] 24)).drew).cell? ⟨wr.heap.size, 1, none⟩ = some (.int .i64 u.2) := cell_new _ _ _ 1
          clear q0 q1 q0z q1z hcell hcz
          generalize ((wr.alloc (.cells #[.int .i64 u.1, .int .i64 u.2] 24)).drew) = W5 at *
          have c5 := HO5.out.cellAt (m * 2 + 1) (by omega)
          rw [flat_last' HM.out] at c5
          go_wp2_with fail
          go_quiet (fail)
          have f5 := HO5.out.frozenAt (m * 2 + 1)
          have h1 := (ownsRow_drewN HO5.out nq).stored (m * 2 + 1) (.int .i64 u.2)
          rw [hset.out] at h1
          have hB6 := (below_drewN hB5 nq).setCell (p := ⟨g5, m * 2 + 1, none⟩) hg5b (.int .i64 u.2)
          have H1 := Lib.hid h1.1
          clear h1
          go_wp2_with fail
          go_roundw
          case rel => exact ⟨k + 1, by omega, by go_num, by rw [hn2.out]; simpa [HM.out] using H1.out, by rw [hn2.out]; exact hbd2, hB6⟩
          case measure => simp [intOf]; omega
        · have hn2 : Hid (widL b (xs.take (k + 1)) = ys ++ [q] ++ [u]) := Lib.hid (by rw [hnext.out]; simp [extP, hle])
          have hbd2 : Hid (∀ p ∈ ys ++ [q] ++ [u], -1000000000000000000 ≤ p.2 ∧ p.2 ≤ 1000000000000000000) := Lib.hid (by
            have h := hbd7.out
            rw [show extP (ys ++ [q]) u = ys ++ [q] ++ [u] from by simp [extP, hle]] at h
            exact h)
          clear hnext hbd7 hbd
          have hle' : decide (u.1 ≤ q.2 + 1) = false := by simpa using hle
          go_wp2_with fail
          go_region
          have HO5 : Hid (((wr.alloc (.cells #[.int .i64 u.1, .int .i64 u.2] 24)).drew).ownsRow w.heap.size 24 2 (.slice (some ⟨g5, 0, none⟩) (m + 1) cap5) (m + 1) (flat (ys ++ [q]))) := Lib.hid (HO.out.alloc _)
          have hB5 : Below w.heap.size w ((wr.alloc (.cells #[.int .i64 u.1, .int .i64 u.2] 24)).drew) := Below.drew (hbr.alloc hz _)
          have r0 : ((wr.alloc (.cells #[.int .i64 u.1, .int .i64 u.2] 24)).drew).cell? ⟨wr.heap.size, 0, none⟩ = some (.int .i64 u.1) := cell_new _ _ _ 0
          have r1 : ((wr.alloc (.cells #[.int .i64 u.1, .int .i64 u.2] 24)).drew).cell? ⟨wr.heap.size, 1, none⟩ = some (.int .i64 u.2) := cell_new _ _ _ 1
          clear q0 q1 q0z q1z hcell hcz
          generalize ((wr.alloc (.cells #[.int .i64 u.1, .int .i64 u.2] 24)).drew) = W5 at *
          have c5 := HO5.out.cellAt (m * 2 + 1) (by omega)
          rw [flat_last' HM.out] at c5
          go_wp2_with fail
          go_quiet (fail)
          have hz5 := hB5.size
          go_wp2_with (at_builtin; refine wpList_append_own_at _ rfl (.tmp 56) (.tmp 58) 22 rfl w.heap.size 24 i0 (.agg #[.int .i64 0, .int .i64 0]) 2 16 Try.underlying22 hi0 hz0 hz1 hz2 rfl (by decide) (.slice (some ⟨g5, 0, none⟩) (m + 1) cap5) (m + 1) (flat (ys ++ [q])) rfl ((ownsRow_drewN HO5.out nq).alloc _) ⟨W5.heap.size, 0, none⟩ 1 1 [.int .i64 u.1, .int .i64 u.2] rfl rfl ?_ ?_ ?_ ?_ ?_ ?_)
          case refine_1 =>
            intro j u hj
            rcases j with _ | _ | j
            · simp at hj; subst hj; exact (cell_at _ _ _ _ _ (by simp))
            · simp at hj; subst hj; exact (cell_at _ _ _ _ _ (by simp))
            · simp at hj
          case refine_2 => simp [Value.oneCell']
          case refine_3 => unfold maxLen; omega
          case refine_4 => omega
          case refine_5 => simp; omega
          case refine_6 =>
            intro v' w7 own7 hgrow _ hat
            have hB7 := ((below_drewN hB5 nq).alloc hz5 _).grown hgrow (by simp; omega) (fun r hr => (HO5.out.lt r hr).1)
            have HO7 := Lib.hid own7
            clear hgrow hat own7
            go_wp2_with fail
            go_roundw
            case rel => exact ⟨k + 1, by omega, by go_num, by rw [hn2.out, flat_append _ [u], flat_one]; simpa [HM.out] using HO7.out, by rw [hn2.out]; exact hbd2, hB7⟩
            case measure => simp [intOf]; omega
    · obtain rfl : k = n := by omega
      have hT : xs.take k = xs := List.take_of_length_le (by rw [Hn.out]; exact Nat.le_refl _)
      rw [hT] at hown
      have HO := Lib.hid hown
      clear hT hown
      go_wp2_with fail
      go_ret
      exact ⟨_, rfl, HO.out, hbr⟩
end Go.Proofs.Ytiibbnbknmeplaa
