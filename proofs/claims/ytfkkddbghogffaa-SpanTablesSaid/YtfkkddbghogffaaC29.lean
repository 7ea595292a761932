/- Contracts: the value of a table in the reference, rounded. -/
import Derived.Test.YtfkkddbghogffaaC28
namespace Go.Proofs.Ytfkkddbghogffaa
open Go.RowKit Go.Lib Go.Shelf
set_option linter.unusedVariables false
set_option linter.unusedSimpArgs false
attribute [local go_sem ↓] Go.wp_at_zero Go.wp_at_succ

theorem keepT {w W W' : World} {g o : Nat} {x : Option Value} (hg : g < w.heap.size) (hb : Below W.heap.size W W') (h : W.cell? ⟨g, o, none⟩ = x ∧ Kp w.heap.size w W) : W'.cell? ⟨g, o, none⟩ = x ∧ Kp w.heap.size w W' :=
  ⟨cell_next hb (Nat.lt_of_lt_of_le hg h.2.1.size) h.1, h.2.next h.2.1.size hb⟩
theorem keepT_set {w W : World} {g o : Nat} {x : Option Value} {u v : Value} (hg : g < w.heap.size) (h : W.cell? ⟨g, o, none⟩ = x ∧ Kp w.heap.size w W) :
    ((W.setCell ⟨w.heap.size, 0, none⟩ u).setCell ⟨w.heap.size, 1, none⟩ v).cell? ⟨g, o, none⟩ = x ∧ Kp w.heap.size w ((W.setCell ⟨w.heap.size, 0, none⟩ u).setCell ⟨w.heap.size, 1, none⟩ v) := by
  have hne : g ≠ w.heap.size := by omega
  refine ⟨?_, h.2.set (Nat.le_refl _) u v⟩
  rw [World.cell?_setCell_other _ _ _ _ (by intro e; injection e; omega), World.cell?_setCell_other _ _ _ _ (by intro e; injection e; omega)]; exact h.1
set_option maxRecDepth 20000 in
set_option maxHeartbeats 2000000 in
theorem rValue_any (xs : List (Int × Int)) (x : Int) (g off c : Nat) (ht : TabOk xs) (hcv : covB xs x = true) (w : World) (hg : g < w.heap.size) (hr : RRd w g off xs) :
    Calls Try.prog 68 #[.slice (some ⟨g, off, none⟩) xs.length c, .int .i64 x] w fun e w' => e = .returned (.agg #[.int .i64 (valV xs x).1, .int .i64 (valV xs x).2]) ∧ Below w.heap.size w w' := by
  have c0 := Lib.hid (fun (W : World) (h : Below w.heap.size w W) => rAt_any xs x g off c ht hcv W (Nat.lt_of_lt_of_le hg h.size) (hr.below h hg))
  have HV := Lib.hid (fun (k : Nat) (p q : Int × Int) (h1 : xs[k]? = some p) (h2 : xs[k + 1]? = some q) (h3 : p.1 ≤ x) (h4 : x ≤ q.1) => valV_is ht (x := x) ⟨k, p, q, h1, h2, h3, h4, rfl⟩)
  have HT := Lib.hid ht
  have HR := Lib.hid hr
  generalize valV xs x = r at *
  obtain ⟨n, hn⟩ : ∃ n, xs.length = n := ⟨_, rfl⟩
  have Hn := Lib.hid hn
  have hn60 := ht.2.1
  rw [hn] at c0 hn60 ⊢
  clear hn ht hr hcv
  go_enter Try.func68, Try.ntmps68
  go_wp2_with fail
  refine (c0.out _ ((Below.refl _ _).alloc (Nat.le_refl _) _)).mono ?_
  rintro e w1 ⟨k, p, q, hp, hq, hpx, hxq, rfl, hb⟩
  have hk : Kp w.heap.size w w1 := ⟨below1 hb, by have := hb.size; simp at this; omega, ⟨.int .i64 0, cell_next hb (by simp) (by simp [go_sem])⟩, ⟨.int .i64 0, cell_next hb (by simp) (by simp [go_sem])⟩, frozen_next hb (by simp) (by simp [go_sem]), frozen_next hb (by simp) (by simp [go_sem])⟩
  have hv := HV.out k p q hp hq hpx hxq
  have hkn : k < n := by rw [← Hn.out]; exact (List.getElem?_eq_some_iff.1 hp).1
  have hpq := HT.out.2.2.2 k (k + 1) _ _ (by omega) hp hq
  obtain ⟨r1, r2, r3, r4⟩ := rowB_of (HT.out.2.2.1 p (List.mem_of_getElem? hp))
  obtain ⟨s1, s2, s3, s4⟩ := rowB_of (HT.out.2.2.1 q (List.mem_of_getElem? hq))
  have hS := And.intro ((hk.1.cell (p := ⟨g, off + k * 2 + 1, none⟩) hg).trans (HR.out k p hp).2) hk
  have hA : ((q.2 - p.2) * (x - p.1)).natAbs ≤ 2000000000 * (q.1 - p.1).natAbs := by rw [Int.natAbs_mul]; exact Nat.mul_le_mul (by omega) (by omega)
  unfold segV at hv
  have hd : 0 < q.1 - p.1 := by omega
  have hd2 : q.1 - p.1 ≤ 2000000000 := by omega
  clear HV HT HR Hn c0 hb hk hp hq hpq
  generalize (q.2 - p.2) * (x - p.1) = A at *
  generalize q.1 - p.1 = d at *
  have hlo : -2000000000 ≤ A / d ∧ A / d ≤ 2000000000 ∧ -2000000000 ≤ -(-A / d) ∧ -(-A / d) ≤ 2000000000 := by
    have h1 := Int.le_ediv_of_mul_le (a := -2000000000) (b := A) hd (by omega)
    have h2 := Int.ediv_le_of_le_mul (a := A) (b := 2000000000) hd (by omega)
    have h3 := Int.le_ediv_of_mul_le (a := -2000000000) (b := -A) hd (by omega)
    have h4 := Int.ediv_le_of_le_mul (a := -A) (b := 2000000000) hd (by omega)
    omega
  have c1 := Lib.hid (rFloor_any A d ⟨by omega, by omega⟩ hd (by omega))
  have c2 := Lib.hid (rCeil_any A d ⟨by omega, by omega⟩ hd (by omega))
  generalize A / d = lo at *
  generalize -(-A / d) = hi at *
  obtain ⟨l1, l2, l3, l4⟩ := hlo
  have w4 : IntKind.i64.wrap (p.2 + lo) = p.2 + lo := IntWalk.i64_in _ (by omega)
  have w5 : IntKind.i64.wrap (p.2 + hi) = p.2 + hi := IntWalk.i64_in _ (by omega)
  have hk0 : (0 : Int) ≤ k := by omega
  have HVR := Lib.hid hv
  clear hv hA hd
  go_wp2_with fail
  refine wp_region_held_drew (S := fun w' => w'.cell? ⟨g, off + k * 2 + 1, none⟩ = some (.int .i64 p.2) ∧ Kp w.heap.size w w') (by kernel_rfl) ?_ (fun hHeld => ?_)
  focus (exact keepT hg (Below.drew (Below.refl _ _)) hS)
  refine take_slot (i := 0) (d := 15) (v := ?_) rfl rfl (by kernel_rfl) (by kernel_rfl) (by kernel_rfl) (fun _ _ _ h => h) (Or.inl ⟨by rfl, ?_⟩) (by assumption) ?_
  rotate_left 1
  focus (intro wS hSw; (try dsimp only at hSw); go_simp; try with_reducible rfl)
  try simp only [List.setIfInBounds_toArray, List.set_cons_zero, List.set_cons_succ]
  refine take_slot (i := 1) (d := 16) (v := ?_) rfl rfl (by kernel_rfl) (by kernel_rfl) (by kernel_rfl) (fun _ _ _ h => h) (Or.inl ⟨by rfl, ?_⟩) (by assumption) ?_
  rotate_left 1
  focus (intro wS hSw; (try dsimp only at hSw); go_simp; try with_reducible rfl)
  try simp only [List.setIfInBounds_toArray, List.set_cons_zero, List.set_cons_succ]
  refine take_slot (i := 2) (d := 17) (v := ?_) rfl rfl (by kernel_rfl) (by kernel_rfl) (by kernel_rfl) (fun _ _ _ h => h) (Or.inl ⟨by rfl, ?_⟩) (by assumption) ?_
  rotate_left 1
  focus (intro wS hSw; (try dsimp only at hSw); go_simp; try with_reducible rfl)
  try simp only [List.setIfInBounds_toArray, List.set_cons_zero, List.set_cons_succ]
  refine take_slot (i := 3) (d := 18) (v := ?_) rfl rfl (by kernel_rfl) (by kernel_rfl) (by kernel_rfl) (fun _ _ _ h => h) (Or.inl ⟨by rfl, ?_⟩) (by assumption) ?_
  rotate_left 1
  focus (intro wS hSw; (try dsimp only at hSw); go_simp; try with_reducible rfl)
  try simp only [List.setIfInBounds_toArray, List.set_cons_zero, List.set_cons_succ]
  refine take_slot (i := 4) (d := 19) (v := ?_) rfl rfl (by kernel_rfl) (by kernel_rfl) (by kernel_rfl) (fun _ _ _ h => h) (Or.inl ⟨by rfl, ?_⟩) (by assumption) ?_
  rotate_left 1
  focus (intro wS hSw; (try dsimp only at hSw); go_simp; try with_reducible rfl)
  try simp only [List.setIfInBounds_toArray, List.set_cons_zero, List.set_cons_succ]
  refine take_slot (i := 5) (d := 20) (v := ?_) rfl rfl (by kernel_rfl) (by kernel_rfl) (by kernel_rfl) (fun _ _ _ h => h) (Or.inl ⟨by rfl, ?_⟩) (by assumption) ?_
  rotate_left 1
  focus (intro wS hSw; (try dsimp only at hSw); go_simp; try with_reducible rfl)
  try simp only [List.setIfInBounds_toArray, List.set_cons_zero, List.set_cons_succ]
  refine take_slot (i := 6) (d := 21) (v := ?_) rfl rfl (by kernel_rfl) (by kernel_rfl) (by kernel_rfl) (fun _ _ _ h => h) (Or.inl ⟨by rfl, ?_⟩) (by assumption) ?_
  rotate_left 1
  focus (intro wS hSw; (try dsimp only at hSw); go_simp; try with_reducible rfl)
  try simp only [List.setIfInBounds_toArray, List.set_cons_zero, List.set_cons_succ]
  refine take_slot (i := 9) (d := 24) (v := ?_) rfl rfl (by kernel_rfl) (by kernel_rfl) (by kernel_rfl) (fun _ _ _ h => h) (Or.inl ⟨by rfl, ?_⟩) (by assumption) ?_
  rotate_left 1
  focus (intro wS hSw; (try dsimp only at hSw); go_simp; try with_reducible rfl)
  try simp only [List.setIfInBounds_toArray, List.set_cons_zero, List.set_cons_succ]
  refine take_slot (i := 10) (d := 25) (v := ?_) rfl rfl (by kernel_rfl) (by kernel_rfl) (by kernel_rfl) (fun _ _ _ h => h) (Or.inl ⟨by rfl, ?_⟩) (by assumption) ?_
  rotate_left 1
  focus (intro wS hSw; (try dsimp only at hSw); go_simp; try with_reducible rfl)
  try simp only [List.setIfInBounds_toArray, List.set_cons_zero, List.set_cons_succ]
  refine take_slot (i := 11) (d := 26) (v := ?_) rfl rfl (by kernel_rfl) (by kernel_rfl) (by kernel_rfl) (fun _ _ _ h => h) (Or.inl ⟨by rfl, ?_⟩) (by assumption) ?_
  rotate_left 1
  focus (intro wS hSw; (try dsimp only at hSw); go_simp; try with_reducible rfl)
  try simp only [List.setIfInBounds_toArray, List.set_cons_zero, List.set_cons_succ]
  refine take_slot (i := 12) (d := 27) (v := ?_) rfl rfl (by kernel_rfl) (by kernel_rfl) (by kernel_rfl) (fun _ _ _ h => h) (Or.inl ⟨by rfl, ?_⟩) (by assumption) ?_
  rotate_left 1
  focus (intro wS hSw; (try dsimp only at hSw); go_simp; try with_reducible rfl)
  try simp only [List.setIfInBounds_toArray, List.set_cons_zero, List.set_cons_succ]
  refine take_slot (i := 13) (d := 28) (v := ?_) rfl rfl (by kernel_rfl) (by kernel_rfl) (by kernel_rfl) (fun _ _ _ h => h) (Or.inl ⟨by rfl, ?_⟩) (by assumption) ?_
  rotate_left 1
  focus (intro wS hSw; (try dsimp only at hSw); go_simp; try with_reducible rfl)
  try simp only [List.setIfInBounds_toArray, List.set_cons_zero, List.set_cons_succ]
  refine take_slot (i := 14) (d := 29) (v := ?_) rfl rfl (by kernel_rfl) (by kernel_rfl) (by kernel_rfl) (fun _ _ _ h => h) (Or.inl ⟨by rfl, ?_⟩) (by assumption) ?_
  rotate_left 1
  focus (intro wS hSw; (try dsimp only at hSw); go_simp; try with_reducible rfl)
  try simp only [List.setIfInBounds_toArray, List.set_cons_zero, List.set_cons_succ]
  refine take_slot (i := 15) (d := 30) (v := ?_) rfl rfl (by kernel_rfl) (by kernel_rfl) (by kernel_rfl) (fun _ _ _ h => h) (Or.inl ⟨by rfl, ?_⟩) (by assumption) ?_
  rotate_left 1
  focus (intro wS hSw; (try dsimp only at hSw); go_simp; try with_reducible rfl)
  try simp only [List.setIfInBounds_toArray, List.set_cons_zero, List.set_cons_succ]
  refine wpAnyH_ready (rs := [7]) (by kernel_rfl) (by simp) ?_
  refine AllReadyH.cons rfl (fun K hK => ?_) AllReadyH.nil
  go_simp
  refine (c1.out _).mono ?_; rintro e w4 ⟨rfl, rfl⟩
  refine hK.out _ _ ?_ (fun hHeld => ?_)
  focus (assumption)
  clear hK K
  try simp only [Act.put, List.setIfInBounds_toArray, List.set_cons_zero, List.set_cons_succ]
  refine take_slot (i := 8) (d := 23) (v := ?_) rfl rfl (by kernel_rfl) (by kernel_rfl) (by kernel_rfl) (fun _ _ _ h => h) (Or.inl ⟨by rfl, ?_⟩) (by assumption) ?_
  rotate_left 1
  focus (intro wS hSw; (try dsimp only at hSw); go_simp; try with_reducible rfl)
  try simp only [List.setIfInBounds_toArray, List.set_cons_zero, List.set_cons_succ]
  refine wpAnyH_ready (rs := [16]) (by kernel_rfl) (by simp) ?_
  refine AllReadyH.cons rfl (fun K hK => ?_) AllReadyH.nil
  go_simp
  refine (c2.out _).mono ?_; rintro e w4 ⟨rfl, rfl⟩
  refine hK.out _ _ ?_ (fun hHeld => ?_)
  focus (assumption)
  clear hK K
  try simp only [Act.put, List.setIfInBounds_toArray, List.set_cons_zero, List.set_cons_succ]
  refine take_slot (i := 17) (d := 32) (v := ?_) rfl rfl (by kernel_rfl) (by kernel_rfl) (by kernel_rfl) (fun _ _ _ h => h) (Or.inl ⟨by rfl, ?_⟩) (by assumption) ?_
  rotate_left 1
  focus (intro wS hSw; (try dsimp only at hSw); go_simp; try with_reducible rfl)
  try simp only [List.setIfInBounds_toArray, List.set_cons_zero, List.set_cons_succ]
  refine take_slot (i := 18) (d := 33) (v := ?_) rfl rfl (by kernel_rfl) (by kernel_rfl) (by kernel_rfl) (fun _ _ _ h => h) (Or.inl ⟨by rfl, ?_⟩) (by assumption) ?_
  rotate_left 1
  focus (intro wS hSw; (try dsimp only at hSw); go_simp; try with_reducible rfl)
  try simp only [List.setIfInBounds_toArray, List.set_cons_zero, List.set_cons_succ]
  refine wpAnyH_ready (rs := [19]) (by kernel_rfl) (by simp) ?_
  refine AllReadyH.cons rfl (fun K hK => ?_) AllReadyH.nil
  have hS2 := hS
  obtain ⟨kg, kB, kn, ⟨_, k2⟩, ⟨_, k3⟩, k4, k5⟩ := hS
  go_simp
  refine hK.out _ _ ?_ (fun hHeld => ?_)
  focus (first | exact keepT_set hg hS2 | exact keepT hg (Below.drew (Below.refl _ _)) (keepT_set hg hS2))
  clear hK K hS2
  try simp only [Act.put, List.setIfInBounds_toArray, List.set_cons_zero, List.set_cons_succ]
  refine wpAnyH_done (by kernel_rfl) ?_ _
  go_wp2_with fail
  refine bodyPost_ret (v := .agg #[.int .i64 (p.2 + lo), .int .i64 (p.2 + hi)]) (by simp [results, Try.results68, go_sem, k2, k3]) rfl ⟨by rw [HVR.out], ?_⟩
  have hE := (kB.setCell (p := ⟨w.heap.size, 0, none⟩) (Nat.le_refl _) (.int .i64 (p.2 + lo))).setCell (p := ⟨w.heap.size, 1, none⟩) (Nat.le_refl _) (.int .i64 (p.2 + hi))
  first | exact hE | exact Below.drew hE
end Go.Proofs.Ytfkkddbghogffaa
