/- Contracts: U20, joined. -/
import Derived.Test.YtfdaiififoomoaaJB17
namespace Go.Proofs.Ytfdaiififoomoaa
open Go.RowKit Go.Lib Go.Shelf
set_option linter.unusedVariables false
set_option linter.unusedSimpArgs false
attribute [local go_sem ↓] Go.wp_at_zero Go.wp_at_succ

set_option maxRecDepth 20000 in
set_option maxHeartbeats 8000000 in
theorem tell_ok (base c tk k : Nat) (vb : Nat → Nat) (C : Cel) (sz fl fh : Int) (v : Value) (xs : List Lo) (w : World) (hk : k < C.n) (hn : C.n ≤ 1000) (hC : CelAt w c tk vb C) (hV : VesAt w (vb k) sz fl fh v) (hown : OwnL base w v xs)
    (hx : ∀ x ∈ xs, loB x ∧ 0 ≤ x.t ∧ x.t ≤ 1000000) (hl : xs.length ≤ 40) (hT : 0 ≤ C.T ∧ C.T ≤ 1000000) :
    Calls Try.prog 13 #[.pointer (some ⟨c, 0, none⟩), .int .i64 (k : Int)] w fun e w' =>
      e = .returned (.tuple #[.agg #[.int .i64 (lotSum xs).1, .int .i64 (lotSum xs).2, .int .i64 (xs.length : Int), .int .i64 (huL (xs.map gm)), .int .i64 (huH (xs.map gm)), .int .i64 (huL (xs.map (ag C.T))), .int .i64 (huH (xs.map (ag C.T))), .int .i64 fl, .int .i64 fh, .int .i64 (cntL (fun l => decide (C.lim ≤ l.hi)) xs), .int .i64 (cntL (fun l => decide (C.lim ≤ l.lo)) xs)], .int .i64 0]) ∧ Below w.heap.size w w' := by
  have CC := Lib.hid (fun (W : World) (h : CelAt W c tk vb C) (g cp : Nat) (hg : g < W.heap.size) (h0 : W.cell? ⟨g, 0, none⟩ = some (.int .i64 (k : Int))) => check_ok c tk vb C (.slice (some ⟨g, 0, none⟩) 1 cp) [(k : Int)] W h hn ((ns_one h0).mono (by omega)) (by simp) (by intro x hx; simp at hx; subst hx; omega))
  have CT := Lib.hid (fun (W : World) (h : LsAt W.heap.size W v xs) => together_lots v xs W (fun l hl => (hx l hl).1) h (by omega))
  have CG := Lib.hid (fun (W : World) (h : LsAt W.heap.size W v xs) => aroundG v xs W h hl)
  have CA := Lib.hid (fun (W : World) (h : LsAt W.heap.size W v xs) (hc : c < W.heap.size) (h5 : W.cell? ⟨c, 5, none⟩ = some (.int .i64 C.T)) => aroundA c C.T hT v xs W h hl (fun l hl => (hx l hl).2) hc h5)
  have CP := Lib.hid (fun (W : World) (pb : Nat) (h : LsAt W.heap.size W v xs) (hpb : pb < W.heap.size) (hc : c < W.heap.size) (h0 : W.cell? ⟨pb, 0, none⟩ = some (.pointer (some ⟨c, 0, none⟩))) (h1 : W.cell? ⟨c, 1, none⟩ = some (.int .i64 C.lim)) => count1_any pb c C.lim v xs W h hl hpb hc h0 h1)
  have CS := Lib.hid (fun (W : World) (pb : Nat) (h : LsAt W.heap.size W v xs) (hpb : pb < W.heap.size) (hc : c < W.heap.size) (h0 : W.cell? ⟨pb, 0, none⟩ = some (.pointer (some ⟨c, 0, none⟩))) (h1 : W.cell? ⟨c, 1, none⟩ = some (.int .i64 C.lim)) => count2_any pb c C.lim v xs W h hl hpb hc h0 h1)
  generalize (lotSum xs).1 = sa at *
  generalize (lotSum xs).2 = ss at *
  generalize huL (xs.map gm) = g1 at *
  generalize huH (xs.map gm) = g2 at *
  generalize huL (xs.map (ag C.T)) = a1 at *
  generalize huH (xs.map (ag C.T)) = a2 at *
  generalize cntL (fun l => decide (C.lim ≤ l.hi)) xs = p1 at *
  generalize cntL (fun l => decide (C.lim ≤ l.lo)) xs = p2 at *
  have HC := Lib.hid hC
  have HO := Lib.hid hown
  have HV := Lib.hid hV
  have hvn := hV.n
  obtain ⟨A, cc, rfl⟩ := hown.form
  have hk0 : (0 : Int) ≤ (k : Int) := by omega
  have hk1 : (k : Int) < (C.n : Int) := by omega
  obtain ⟨n, hnn⟩ : ∃ n, xs.length = n := ⟨_, rfl⟩
  rw [hnn] at HO HV CT CG CA CP CS ⊢
  clear hC hown hV hx hT hnn hl
  go_enter Try.func13, Try.ntmps13
  go_wp2_with fail
  refine (CC.out _ (HC.out.below (below_al3 w _ _ _)) _ _ (by simp) (by simp [go_sem])).mono ?_
  rintro e w1 ⟨rfl, hb⟩
  have hB := below3 hb
  have hz := hb.size
  simp at hz
  have b0 := cell_next hb (b := w.heap.size) (o := 0) (by simp <;> omega) (v := some (.pointer (some ⟨c, 0, none⟩))) (by simp [go_sem])
  have rr0 : ∀ o, o < 11 → w1.cell? ⟨w.heap.size + 1, o, none⟩ = some (.int .i64 0) := fun o ho => cell_next hb (by simp <;> omega) (by rcases o with _ | _ | _ | _ | _ | _ | _ | _ | _ | _ | _ | o <;> first | (simp [go_sem]; done) | omega)
  have rf : ∀ o, w1.frozen? ⟨w.heap.size + 1, o, none⟩ = false := fun o => frozen_next hb (by simp <;> omega) (by simp [go_sem])
  have nr : w.heap.size + 1 < w1.heap.size := by omega
  have nb : w.heap.size < w1.heap.size := by omega
  replace HC := Lib.hid (HC.out.below hB)
  replace HV := Lib.hid (HV.out.below hB)
  replace HO := Lib.hid (HO.out.below hB)
  have c4 := HC.out.c4
  have tpk := HC.out.tp k hk
  have nc := HC.out.nc
  have nt := HC.out.nt
  have v1 := HV.out.c1
  have v2 := HV.out.c2
  have v3 := HV.out.c3
  have nv := HV.out.n
  have r0 := rr0 0 (by omega)
  have q0 := rf 0
  have r1 := rr0 1 (by omega)
  have q1 := rf 1
  have r2 := rr0 2 (by omega)
  have q2 := rf 2
  have r3 := rr0 3 (by omega)
  have q3 := rf 3
  have r4 := rr0 4 (by omega)
  have q4 := rf 4
  have r5 := rr0 5 (by omega)
  have q5 := rf 5
  have r6 := rr0 6 (by omega)
  have q6 := rf 6
  have r7 := rr0 7 (by omega)
  have q7 := rf 7
  have r8 := rr0 8 (by omega)
  have q8 := rf 8
  have r9 := rr0 9 (by omega)
  have q9 := rf 9
  have r10 := rr0 10 (by omega)
  have q10 := rf 10
  have hBW := hB.size
  clear hb hz CC rr0 rf
  go_upto_region 7 with fail
  refine wp_region_held_drew (S := fun w' => w'.cell? ⟨w.heap.size, 0, none⟩ = some (.pointer (some ⟨c, 0, none⟩)) ∧ w'.cell? ⟨vb k, 1, none⟩ = some (.int .i64 fl) ∧ w'.cell? ⟨vb k, 2, none⟩ = some (.int .i64 fh) ∧ w'.cell? ⟨vb k, 3, none⟩ = some (.slice A n cc) ∧ True) (by kernel_rfl) ?_ (fun hHeld => ?_)
  focus (exact ⟨b0, v1, v2, v3, trivial⟩)
  have hL : Below w.heap.size w1 w1.drew := Below.drew (Below.refl _ _)
  replace r0 : w1.drew.cell? ⟨w.heap.size + 1, 0, none⟩ = some (.int .i64 0) := r0
  replace r1 : w1.drew.cell? ⟨w.heap.size + 1, 1, none⟩ = some (.int .i64 0) := r1
  replace r2 : w1.drew.cell? ⟨w.heap.size + 1, 2, none⟩ = some (.int .i64 0) := r2
  replace r3 : w1.drew.cell? ⟨w.heap.size + 1, 3, none⟩ = some (.int .i64 0) := r3
  replace r4 : w1.drew.cell? ⟨w.heap.size + 1, 4, none⟩ = some (.int .i64 0) := r4
  replace r5 : w1.drew.cell? ⟨w.heap.size + 1, 5, none⟩ = some (.int .i64 0) := r5
  replace r6 : w1.drew.cell? ⟨w.heap.size + 1, 6, none⟩ = some (.int .i64 0) := r6
  replace r7 : w1.drew.cell? ⟨w.heap.size + 1, 7, none⟩ = some (.int .i64 0) := r7
  replace r8 : w1.drew.cell? ⟨w.heap.size + 1, 8, none⟩ = some (.int .i64 0) := r8
  replace r9 : w1.drew.cell? ⟨w.heap.size + 1, 9, none⟩ = some (.int .i64 0) := r9
  replace r10 : w1.drew.cell? ⟨w.heap.size + 1, 10, none⟩ = some (.int .i64 0) := r10
  replace q0 : w1.drew.frozen? ⟨w.heap.size + 1, 0, none⟩ = false := q0
  replace q1 : w1.drew.frozen? ⟨w.heap.size + 1, 1, none⟩ = false := q1
  replace q2 : w1.drew.frozen? ⟨w.heap.size + 1, 2, none⟩ = false := q2
  replace q3 : w1.drew.frozen? ⟨w.heap.size + 1, 3, none⟩ = false := q3
  replace q4 : w1.drew.frozen? ⟨w.heap.size + 1, 4, none⟩ = false := q4
  replace q5 : w1.drew.frozen? ⟨w.heap.size + 1, 5, none⟩ = false := q5
  replace q6 : w1.drew.frozen? ⟨w.heap.size + 1, 6, none⟩ = false := q6
  replace q7 : w1.drew.frozen? ⟨w.heap.size + 1, 7, none⟩ = false := q7
  replace q8 : w1.drew.frozen? ⟨w.heap.size + 1, 8, none⟩ = false := q8
  replace q9 : w1.drew.frozen? ⟨w.heap.size + 1, 9, none⟩ = false := q9
  replace q10 : w1.drew.frozen? ⟨w.heap.size + 1, 10, none⟩ = false := q10
  replace b0 : w1.drew.cell? ⟨w.heap.size, 0, none⟩ = some (.pointer (some ⟨c, 0, none⟩)) := b0
  replace v1 : w1.drew.cell? ⟨vb k, 1, none⟩ = some (.int .i64 fl) := v1
  replace v2 : w1.drew.cell? ⟨vb k, 2, none⟩ = some (.int .i64 fh) := v2
  replace v3 : w1.drew.cell? ⟨vb k, 3, none⟩ = some (.slice A n cc) := v3
  replace nr : w.heap.size + 1 < w1.drew.heap.size := nr
  replace nb : w.heap.size < w1.drew.heap.size := nb
  replace nv : vb k < w1.drew.heap.size := nv
  replace HC := Lib.hid (HC.out.below (Below.drew (Below.refl _ _)))
  replace HO := Lib.hid (HO.out.below (Below.drew (Below.refl _ _)))
  generalize hWd : w1.drew = wd at hHeld hL r0 r1 r2 r3 r4 r5 r6 r7 r8 r9 r10 q0 q1 q2 q3 q4 q5 q6 q7 q8 q9 q10 b0 v1 v2 v3 nr nb nv HC HO ⊢
  clear hWd
  refine take_slot (i := 0) (d := 27) (v := ?_) rfl rfl (by kernel_rfl) (by kernel_rfl) (by kernel_rfl) (fun _ _ _ h => h) (Or.inl ⟨by rfl, ?_⟩) (by assumption) ?_
  rotate_left 1
  focus (intro wS hSw; (try dsimp only at hSw); go_simp; try with_reducible rfl)
  try simp only [List.setIfInBounds_toArray, List.set_cons_zero, List.set_cons_succ]
  refine take_slot (i := 1) (d := 28) (v := ?_) rfl rfl (by kernel_rfl) (by kernel_rfl) (by kernel_rfl) (fun _ _ _ h => h) (Or.inl ⟨by rfl, ?_⟩) (by assumption) ?_
  rotate_left 1
  focus (intro wS hSw; (try dsimp only at hSw); go_simp; try with_reducible rfl)
  try simp only [List.setIfInBounds_toArray, List.set_cons_zero, List.set_cons_succ]
  refine take_slot (i := 2) (d := 29) (v := ?_) rfl rfl (by kernel_rfl) (by kernel_rfl) (by kernel_rfl) (fun _ _ _ h => h) (Or.inl ⟨by rfl, ?_⟩) (by assumption) ?_
  rotate_left 1
  focus (intro wS hSw; (try dsimp only at hSw); go_simp; try with_reducible rfl)
  try simp only [List.setIfInBounds_toArray, List.set_cons_zero, List.set_cons_succ]
  refine take_slot (i := 3) (d := 30) (v := ?_) rfl rfl (by kernel_rfl) (by kernel_rfl) (by kernel_rfl) (fun _ _ _ h => h) (Or.inl ⟨by rfl, ?_⟩) (by assumption) ?_
  rotate_left 1
  focus (intro wS hSw; (try dsimp only at hSw); go_simp; try with_reducible rfl)
  try simp only [List.setIfInBounds_toArray, List.set_cons_zero, List.set_cons_succ]
  refine take_slot (i := 5) (d := 32) (v := ?_) rfl rfl (by kernel_rfl) (by kernel_rfl) (by kernel_rfl) (fun _ _ _ h => h) (Or.inl ⟨by rfl, ?_⟩) (by assumption) ?_
  rotate_left 1
  focus (intro wS hSw; (try dsimp only at hSw); go_simp; try with_reducible rfl)
  try simp only [List.setIfInBounds_toArray, List.set_cons_zero, List.set_cons_succ]
  refine take_slot (i := 6) (d := 33) (v := ?_) rfl rfl (by kernel_rfl) (by kernel_rfl) (by kernel_rfl) (fun _ _ _ h => h) (Or.inl ⟨by rfl, ?_⟩) (by assumption) ?_
  rotate_left 1
  focus (intro wS hSw; (try dsimp only at hSw); go_simp; try with_reducible rfl)
  try simp only [List.setIfInBounds_toArray, List.set_cons_zero, List.set_cons_succ]
  refine take_slot (i := 7) (d := 34) (v := ?_) rfl rfl (by kernel_rfl) (by kernel_rfl) (by kernel_rfl) (fun _ _ _ h => h) (Or.inl ⟨by rfl, ?_⟩) (by assumption) ?_
  rotate_left 1
  focus (intro wS hSw; (try dsimp only at hSw); go_simp; try with_reducible rfl)
  try simp only [List.setIfInBounds_toArray, List.set_cons_zero, List.set_cons_succ]
  refine take_slot (i := 8) (d := 35) (v := ?_) rfl rfl (by kernel_rfl) (by kernel_rfl) (by kernel_rfl) (fun _ _ _ h => h) (Or.inl ⟨by rfl, ?_⟩) (by assumption) ?_
  rotate_left 1
  focus (intro wS hSw; (try dsimp only at hSw); go_simp; try with_reducible rfl)
  try simp only [List.setIfInBounds_toArray, List.set_cons_zero, List.set_cons_succ]
  refine take_slot (i := 9) (d := 36) (v := ?_) rfl rfl (by kernel_rfl) (by kernel_rfl) (by kernel_rfl) (fun _ _ _ h => h) (Or.inl ⟨by rfl, ?_⟩) (by assumption) ?_
  rotate_left 1
  focus (intro wS hSw; (try dsimp only at hSw); go_simp; try with_reducible rfl)
  try simp only [List.setIfInBounds_toArray, List.set_cons_zero, List.set_cons_succ]
  refine take_slot (i := 10) (d := 37) (v := ?_) rfl rfl (by kernel_rfl) (by kernel_rfl) (by kernel_rfl) (fun _ _ _ h => h) (Or.inl ⟨by rfl, ?_⟩) (by assumption) ?_
  rotate_left 1
  focus (intro wS hSw; (try dsimp only at hSw); go_simp; try with_reducible rfl)
  try simp only [List.setIfInBounds_toArray, List.set_cons_zero, List.set_cons_succ]
  refine take_slot (i := 11) (d := 38) (v := ?_) rfl rfl (by kernel_rfl) (by kernel_rfl) (by kernel_rfl) (fun _ _ _ h => h) (Or.inl ⟨by rfl, ?_⟩) (by assumption) ?_
  rotate_left 1
  focus (intro wS hSw; (try dsimp only at hSw); go_simp; try with_reducible rfl)
  try simp only [List.setIfInBounds_toArray, List.set_cons_zero, List.set_cons_succ]
  refine take_slot (i := 12) (d := 39) (v := ?_) rfl rfl (by kernel_rfl) (by kernel_rfl) (by kernel_rfl) (fun _ _ _ h => h) (Or.inl ⟨by rfl, ?_⟩) (by assumption) ?_
  rotate_left 1
  focus (intro wS hSw; (try dsimp only at hSw); go_simp; try with_reducible rfl)
  try simp only [List.setIfInBounds_toArray, List.set_cons_zero, List.set_cons_succ]
  refine take_slot (i := 13) (d := 40) (v := ?_) rfl rfl (by kernel_rfl) (by kernel_rfl) (by kernel_rfl) (fun _ _ _ h => h) (Or.inl ⟨by rfl, ?_⟩) (by assumption) ?_
  rotate_left 1
  focus (intro wS hSw; (try dsimp only at hSw); go_simp; try with_reducible rfl)
  try simp only [List.setIfInBounds_toArray, List.set_cons_zero, List.set_cons_succ]
  refine take_slot (i := 15) (d := 42) (v := ?_) rfl rfl (by kernel_rfl) (by kernel_rfl) (by kernel_rfl) (fun _ _ _ h => h) (Or.inl ⟨by rfl, ?_⟩) (by assumption) ?_
  rotate_left 1
  focus (intro wS hSw; (try dsimp only at hSw); go_simp; try with_reducible rfl)
  try simp only [List.setIfInBounds_toArray, List.set_cons_zero, List.set_cons_succ]
  refine take_slot (i := 16) (d := 43) (v := ?_) rfl rfl (by kernel_rfl) (by kernel_rfl) (by kernel_rfl) (fun _ _ _ h => h) (Or.inl ⟨by rfl, ?_⟩) (by assumption) ?_
  rotate_left 1
  focus (intro wS hSw; (try dsimp only at hSw); go_simp; try with_reducible rfl)
  try simp only [List.setIfInBounds_toArray, List.set_cons_zero, List.set_cons_succ]
  refine take_slot (i := 17) (d := 44) (v := ?_) rfl rfl (by kernel_rfl) (by kernel_rfl) (by kernel_rfl) (fun _ _ _ h => h) (Or.inl ⟨by rfl, ?_⟩) (by assumption) ?_
  rotate_left 1
  focus (intro wS hSw; (try dsimp only at hSw); go_simp; try with_reducible rfl)
  try simp only [List.setIfInBounds_toArray, List.set_cons_zero, List.set_cons_succ]
  refine take_slot (i := 18) (d := 45) (v := ?_) rfl rfl (by kernel_rfl) (by kernel_rfl) (by kernel_rfl) (fun _ _ _ h => h) (Or.inl ⟨by rfl, ?_⟩) (by assumption) ?_
  rotate_left 1
  focus (intro wS hSw; (try dsimp only at hSw); go_simp; try with_reducible rfl)
  try simp only [List.setIfInBounds_toArray, List.set_cons_zero, List.set_cons_succ]
  refine take_slot (i := 19) (d := 46) (v := ?_) rfl rfl (by kernel_rfl) (by kernel_rfl) (by kernel_rfl) (fun _ _ _ h => h) (Or.inl ⟨by rfl, ?_⟩) (by assumption) ?_
  rotate_left 1
  focus (intro wS hSw; (try dsimp only at hSw); go_simp; try with_reducible rfl)
  try simp only [List.setIfInBounds_toArray, List.set_cons_zero, List.set_cons_succ]
  refine take_slot (i := 20) (d := 47) (v := ?_) rfl rfl (by kernel_rfl) (by kernel_rfl) (by kernel_rfl) (fun _ _ _ h => h) (Or.inl ⟨by rfl, ?_⟩) (by assumption) ?_
  rotate_left 1
  focus (intro wS hSw; (try dsimp only at hSw); go_simp; try with_reducible rfl)
  try simp only [List.setIfInBounds_toArray, List.set_cons_zero, List.set_cons_succ]
  refine take_slot (i := 22) (d := 49) (v := ?_) rfl rfl (by kernel_rfl) (by kernel_rfl) (by kernel_rfl) (fun _ _ _ h => h) (Or.inl ⟨by rfl, ?_⟩) (by assumption) ?_
  rotate_left 1
  focus (intro wS hSw; (try dsimp only at hSw); go_simp; try with_reducible rfl)
  try simp only [List.setIfInBounds_toArray, List.set_cons_zero, List.set_cons_succ]
  refine take_slot (i := 23) (d := 50) (v := ?_) rfl rfl (by kernel_rfl) (by kernel_rfl) (by kernel_rfl) (fun _ _ _ h => h) (Or.inl ⟨by rfl, ?_⟩) (by assumption) ?_
  rotate_left 1
  focus (intro wS hSw; (try dsimp only at hSw); go_simp; try with_reducible rfl)
  try simp only [List.setIfInBounds_toArray, List.set_cons_zero, List.set_cons_succ]
  refine take_slot (i := 24) (d := 51) (v := ?_) rfl rfl (by kernel_rfl) (by kernel_rfl) (by kernel_rfl) (fun _ _ _ h => h) (Or.inl ⟨by rfl, ?_⟩) (by assumption) ?_
  rotate_left 1
  focus (intro wS hSw; (try dsimp only at hSw); go_simp; try with_reducible rfl)
  try simp only [List.setIfInBounds_toArray, List.set_cons_zero, List.set_cons_succ]
  refine take_slot (i := 25) (d := 52) (v := ?_) rfl rfl (by kernel_rfl) (by kernel_rfl) (by kernel_rfl) (fun _ _ _ h => h) (Or.inl ⟨by rfl, ?_⟩) (by assumption) ?_
  rotate_left 1
  focus (intro wS hSw; (try dsimp only at hSw); go_simp; try with_reducible rfl)
  try simp only [List.setIfInBounds_toArray, List.set_cons_zero, List.set_cons_succ]
  refine take_slot (i := 26) (d := 53) (v := ?_) rfl rfl (by kernel_rfl) (by kernel_rfl) (by kernel_rfl) (fun _ _ _ h => h) (Or.inl ⟨by rfl, ?_⟩) (by assumption) ?_
  rotate_left 1
  focus (intro wS hSw; (try dsimp only at hSw); go_simp; try with_reducible rfl)
  try simp only [List.setIfInBounds_toArray, List.set_cons_zero, List.set_cons_succ]
  refine take_slot (i := 27) (d := 54) (v := ?_) rfl rfl (by kernel_rfl) (by kernel_rfl) (by kernel_rfl) (fun _ _ _ h => h) (Or.inl ⟨by rfl, ?_⟩) (by assumption) ?_
  rotate_left 1
  focus (intro wS hSw; (try dsimp only at hSw); go_simp; try with_reducible rfl)
  try simp only [List.setIfInBounds_toArray, List.set_cons_zero, List.set_cons_succ]
  refine take_slot (i := 28) (d := 55) (v := ?_) rfl rfl (by kernel_rfl) (by kernel_rfl) (by kernel_rfl) (fun _ _ _ h => h) (Or.inl ⟨by rfl, ?_⟩) (by assumption) ?_
  rotate_left 1
  focus (intro wS hSw; (try dsimp only at hSw); go_simp; try with_reducible rfl)
  try simp only [List.setIfInBounds_toArray, List.set_cons_zero, List.set_cons_succ]
  refine take_slot (i := 29) (d := 56) (v := ?_) rfl rfl (by kernel_rfl) (by kernel_rfl) (by kernel_rfl) (fun _ _ _ h => h) (Or.inl ⟨by rfl, ?_⟩) (by assumption) ?_
  rotate_left 1
  focus (intro wS hSw; (try dsimp only at hSw); go_simp; try with_reducible rfl)
  try simp only [List.setIfInBounds_toArray, List.set_cons_zero, List.set_cons_succ]
  refine take_slot (i := 30) (d := 57) (v := ?_) rfl rfl (by kernel_rfl) (by kernel_rfl) (by kernel_rfl) (fun _ _ _ h => h) (Or.inl ⟨by rfl, ?_⟩) (by assumption) ?_
  rotate_left 1
  focus (intro wS hSw; (try dsimp only at hSw); go_simp; try with_reducible rfl)
  try simp only [List.setIfInBounds_toArray, List.set_cons_zero, List.set_cons_succ]
  refine take_slot (i := 32) (d := 59) (v := ?_) rfl rfl (by kernel_rfl) (by kernel_rfl) (by kernel_rfl) (fun _ _ _ h => h) (Or.inl ⟨by rfl, ?_⟩) (by assumption) ?_
  rotate_left 1
  focus (intro wS hSw; (try dsimp only at hSw); go_simp; try with_reducible rfl)
  try simp only [List.setIfInBounds_toArray, List.set_cons_zero, List.set_cons_succ]
  refine take_slot (i := 33) (d := 60) (v := ?_) rfl rfl (by kernel_rfl) (by kernel_rfl) (by kernel_rfl) (fun _ _ _ h => h) (Or.inl ⟨by rfl, ?_⟩) (by assumption) ?_
  rotate_left 1
  focus (intro wS hSw; (try dsimp only at hSw); go_simp; try with_reducible rfl)
  try simp only [List.setIfInBounds_toArray, List.set_cons_zero, List.set_cons_succ]
  refine take_slot (i := 34) (d := 61) (v := ?_) rfl rfl (by kernel_rfl) (by kernel_rfl) (by kernel_rfl) (fun _ _ _ h => h) (Or.inl ⟨by rfl, ?_⟩) (by assumption) ?_
  rotate_left 1
  focus (intro wS hSw; (try dsimp only at hSw); go_simp; try with_reducible rfl)
  try simp only [List.setIfInBounds_toArray, List.set_cons_zero, List.set_cons_succ]
  refine take_slot (i := 35) (d := 62) (v := ?_) rfl rfl (by kernel_rfl) (by kernel_rfl) (by kernel_rfl) (fun _ _ _ h => h) (Or.inl ⟨by rfl, ?_⟩) (by assumption) ?_
  rotate_left 1
  focus (intro wS hSw; (try dsimp only at hSw); go_simp; try with_reducible rfl)
  try simp only [List.setIfInBounds_toArray, List.set_cons_zero, List.set_cons_succ]
  refine take_slot (i := 36) (d := 63) (v := ?_) rfl rfl (by kernel_rfl) (by kernel_rfl) (by kernel_rfl) (fun _ _ _ h => h) (Or.inl ⟨by rfl, ?_⟩) (by assumption) ?_
  rotate_left 1
  focus (intro wS hSw; (try dsimp only at hSw); go_simp; try with_reducible rfl)
  try simp only [List.setIfInBounds_toArray, List.set_cons_zero, List.set_cons_succ]
  refine wpAnyH_ready (rs := [4]) (by kernel_rfl) (by simp) ?_
  refine AllReadyH.cons rfl (fun K hK => ?_) AllReadyH.nil
  go_simp
  refine (CT.out _ HO.out.read).mono ?_
  rintro e Z1 ⟨rfl, hb⟩
  replace r0 := cell_next hb nr r0
  replace r1 := cell_next hb nr r1
  replace r2 := cell_next hb nr r2
  replace r3 := cell_next hb nr r3
  replace r4 := cell_next hb nr r4
  replace r5 := cell_next hb nr r5
  replace r6 := cell_next hb nr r6
  replace r7 := cell_next hb nr r7
  replace r8 := cell_next hb nr r8
  replace r9 := cell_next hb nr r9
  replace r10 := cell_next hb nr r10
  replace q0 := frozen_next hb nr q0
  replace q1 := frozen_next hb nr q1
  replace q2 := frozen_next hb nr q2
  replace q3 := frozen_next hb nr q3
  replace q4 := frozen_next hb nr q4
  replace q5 := frozen_next hb nr q5
  replace q6 := frozen_next hb nr q6
  replace q7 := frozen_next hb nr q7
  replace q8 := frozen_next hb nr q8
  replace q9 := frozen_next hb nr q9
  replace q10 := frozen_next hb nr q10
  replace b0 := cell_next hb nb b0
  replace v1 := cell_next hb nv v1
  replace v2 := cell_next hb nv v2
  replace v3 := cell_next hb nv v3
  replace nr := Nat.lt_of_lt_of_le nr hb.size
  replace nb := Nat.lt_of_lt_of_le nb hb.size
  replace nv := Nat.lt_of_lt_of_le nv hb.size
  replace hL := hL.trans (hb.mono (Nat.le_trans hBW hL.size))
  replace HC := Lib.hid (HC.out.below hb)
  replace HO := Lib.hid (HO.out.below hb)
  refine hK.out _ _ ⟨b0, v1, v2, v3, trivial⟩ (fun hHeld => ?_)
  clear hK K hb
  try simp only [Act.put, List.setIfInBounds_toArray, List.set_cons_zero, List.set_cons_succ]
  refine wpAnyH_ready (rs := [14]) (by kernel_rfl) (by simp) ?_
  refine AllReadyH.cons rfl (fun K hK => ?_) AllReadyH.nil
  go_simp
  refine (CG.out _ HO.out.read).mono ?_
  rintro e Z2 ⟨rfl, hb⟩
  replace r0 := cell_next hb nr r0
  replace r1 := cell_next hb nr r1
  replace r2 := cell_next hb nr r2
  replace r3 := cell_next hb nr r3
  replace r4 := cell_next hb nr r4
  replace r5 := cell_next hb nr r5
  replace r6 := cell_next hb nr r6
  replace r7 := cell_next hb nr r7
  replace r8 := cell_next hb nr r8
  replace r9 := cell_next hb nr r9
  replace r10 := cell_next hb nr r10
  replace q0 := frozen_next hb nr q0
  replace q1 := frozen_next hb nr q1
  replace q2 := frozen_next hb nr q2
  replace q3 := frozen_next hb nr q3
  replace q4 := frozen_next hb nr q4
  replace q5 := frozen_next hb nr q5
  replace q6 := frozen_next hb nr q6
  replace q7 := frozen_next hb nr q7
  replace q8 := frozen_next hb nr q8
  replace q9 := frozen_next hb nr q9
  replace q10 := frozen_next hb nr q10
  replace b0 := cell_next hb nb b0
  replace v1 := cell_next hb nv v1
  replace v2 := cell_next hb nv v2
  replace v3 := cell_next hb nv v3
  replace nr := Nat.lt_of_lt_of_le nr hb.size
  replace nb := Nat.lt_of_lt_of_le nb hb.size
  replace nv := Nat.lt_of_lt_of_le nv hb.size
  replace hL := hL.trans (hb.mono (Nat.le_trans hBW hL.size))
  replace HC := Lib.hid (HC.out.below hb)
  replace HO := Lib.hid (HO.out.below hb)
  refine hK.out _ _ ⟨b0, v1, v2, v3, trivial⟩ (fun hHeld => ?_)
  clear hK K hb
  try simp only [Act.put, List.setIfInBounds_toArray, List.set_cons_zero, List.set_cons_succ]
  refine wpAnyH_ready (rs := [21]) (by kernel_rfl) (by simp) ?_
  refine AllReadyH.cons rfl (fun K hK => ?_) AllReadyH.nil
  go_simp
  refine (CA.out _ HO.out.read HC.out.nc HC.out.c5).mono ?_
  rintro e Z3 ⟨rfl, hb⟩
  replace r0 := cell_next hb nr r0
  replace r1 := cell_next hb nr r1
  replace r2 := cell_next hb nr r2
  replace r3 := cell_next hb nr r3
  replace r4 := cell_next hb nr r4
  replace r5 := cell_next hb nr r5
  replace r6 := cell_next hb nr r6
  replace r7 := cell_next hb nr r7
  replace r8 := cell_next hb nr r8
  replace r9 := cell_next hb nr r9
  replace r10 := cell_next hb nr r10
  replace q0 := frozen_next hb nr q0
  replace q1 := frozen_next hb nr q1
  replace q2 := frozen_next hb nr q2
  replace q3 := frozen_next hb nr q3
  replace q4 := frozen_next hb nr q4
  replace q5 := frozen_next hb nr q5
  replace q6 := frozen_next hb nr q6
  replace q7 := frozen_next hb nr q7
  replace q8 := frozen_next hb nr q8
  replace q9 := frozen_next hb nr q9
  replace q10 := frozen_next hb nr q10
  replace b0 := cell_next hb nb b0
  replace v1 := cell_next hb nv v1
  replace v2 := cell_next hb nv v2
  replace v3 := cell_next hb nv v3
  replace nr := Nat.lt_of_lt_of_le nr hb.size
  replace nb := Nat.lt_of_lt_of_le nb hb.size
  replace nv := Nat.lt_of_lt_of_le nv hb.size
  replace hL := hL.trans (hb.mono (Nat.le_trans hBW hL.size))
  replace HC := Lib.hid (HC.out.below hb)
  replace HO := Lib.hid (HO.out.below hb)
  refine hK.out _ _ ⟨b0, v1, v2, v3, trivial⟩ (fun hHeld => ?_)
  clear hK K hb
  try simp only [Act.put, List.setIfInBounds_toArray, List.set_cons_zero, List.set_cons_succ]
  refine wpAnyH_ready (rs := [31]) (by kernel_rfl) (by simp) ?_
  refine AllReadyH.cons rfl (fun K hK => ?_) AllReadyH.nil
  go_simp
  refine (CP.out _ _ HO.out.read nb HC.out.nc b0 HC.out.c1).mono ?_
  rintro e Z4 ⟨rfl, hb⟩
  replace r0 := cell_next hb nr r0
  replace r1 := cell_next hb nr r1
  replace r2 := cell_next hb nr r2
  replace r3 := cell_next hb nr r3
  replace r4 := cell_next hb nr r4
  replace r5 := cell_next hb nr r5
  replace r6 := cell_next hb nr r6
  replace r7 := cell_next hb nr r7
  replace r8 := cell_next hb nr r8
  replace r9 := cell_next hb nr r9
  replace r10 := cell_next hb nr r10
  replace q0 := frozen_next hb nr q0
  replace q1 := frozen_next hb nr q1
  replace q2 := frozen_next hb nr q2
  replace q3 := frozen_next hb nr q3
  replace q4 := frozen_next hb nr q4
  replace q5 := frozen_next hb nr q5
  replace q6 := frozen_next hb nr q6
  replace q7 := frozen_next hb nr q7
  replace q8 := frozen_next hb nr q8
  replace q9 := frozen_next hb nr q9
  replace q10 := frozen_next hb nr q10
  replace b0 := cell_next hb nb b0
  replace v1 := cell_next hb nv v1
  replace v2 := cell_next hb nv v2
  replace v3 := cell_next hb nv v3
  replace nr := Nat.lt_of_lt_of_le nr hb.size
  replace nb := Nat.lt_of_lt_of_le nb hb.size
  replace nv := Nat.lt_of_lt_of_le nv hb.size
  replace hL := hL.trans (hb.mono (Nat.le_trans hBW hL.size))
  replace HC := Lib.hid (HC.out.below hb)
  replace HO := Lib.hid (HO.out.below hb)
  refine hK.out _ _ ⟨b0, v1, v2, v3, trivial⟩ (fun hHeld => ?_)
  clear hK K hb
  try simp only [Act.put, List.setIfInBounds_toArray, List.set_cons_zero, List.set_cons_succ]
  refine wpAnyH_ready (rs := [37]) (by kernel_rfl) (by simp) ?_
  refine AllReadyH.cons rfl (fun K hK => ?_) AllReadyH.nil
  go_simp
  refine (CS.out _ _ HO.out.read nb HC.out.nc b0 HC.out.c1).mono ?_
  rintro e Z5 ⟨rfl, hb⟩
  replace r0 := cell_next hb nr r0
  replace r1 := cell_next hb nr r1
  replace r2 := cell_next hb nr r2
  replace r3 := cell_next hb nr r3
  replace r4 := cell_next hb nr r4
  replace r5 := cell_next hb nr r5
  replace r6 := cell_next hb nr r6
  replace r7 := cell_next hb nr r7
  replace r8 := cell_next hb nr r8
  replace r9 := cell_next hb nr r9
  replace r10 := cell_next hb nr r10
  replace q0 := frozen_next hb nr q0
  replace q1 := frozen_next hb nr q1
  replace q2 := frozen_next hb nr q2
  replace q3 := frozen_next hb nr q3
  replace q4 := frozen_next hb nr q4
  replace q5 := frozen_next hb nr q5
  replace q6 := frozen_next hb nr q6
  replace q7 := frozen_next hb nr q7
  replace q8 := frozen_next hb nr q8
  replace q9 := frozen_next hb nr q9
  replace q10 := frozen_next hb nr q10
  replace b0 := cell_next hb nb b0
  replace v1 := cell_next hb nv v1
  replace v2 := cell_next hb nv v2
  replace v3 := cell_next hb nv v3
  replace nr := Nat.lt_of_lt_of_le nr hb.size
  replace nb := Nat.lt_of_lt_of_le nb hb.size
  replace nv := Nat.lt_of_lt_of_le nv hb.size
  replace hL := hL.trans (hb.mono (Nat.le_trans hBW hL.size))
  replace HC := Lib.hid (HC.out.below hb)
  replace HO := Lib.hid (HO.out.below hb)
  refine hK.out _ _ ⟨b0, v1, v2, v3, trivial⟩ (fun hHeld => ?_)
  clear hK K hb
  try simp only [Act.put, List.setIfInBounds_toArray, List.set_cons_zero, List.set_cons_succ]
  refine take_slot (i := 38) (d := 65) (v := ?_) rfl rfl (by kernel_rfl) (by kernel_rfl) (by kernel_rfl) (fun _ _ _ h => h) (Or.inl ⟨by rfl, ?_⟩) (by assumption) ?_
  rotate_left 1
  focus (intro wS hSw; (try dsimp only at hSw); go_simp; try with_reducible rfl)
  try simp only [List.setIfInBounds_toArray, List.set_cons_zero, List.set_cons_succ]
  refine wpAnyH_ready (rs := [39]) (by kernel_rfl) (by simp) ?_
  refine AllReadyH.cons rfl (fun K hK => ?_) AllReadyH.nil
  go_simp
  replace r0 : (((((((((((Z5.setCell ⟨w.heap.size + 1, 0, none⟩ (.int .i64 sa)).setCell ⟨w.heap.size + 1, 1, none⟩ (.int .i64 ss)).setCell ⟨w.heap.size + 1, 2, none⟩ (.int .i64 (n : Int))).setCell ⟨w.heap.size + 1, 3, none⟩ (.int .i64 g1)).setCell ⟨w.heap.size + 1, 4, none⟩ (.int .i64 g2)).setCell ⟨w.heap.size + 1, 5, none⟩ (.int .i64 a1)).setCell ⟨w.heap.size + 1, 6, none⟩ (.int .i64 a2)).setCell ⟨w.heap.size + 1, 7, none⟩ (.int .i64 fl)).setCell ⟨w.heap.size + 1, 8, none⟩ (.int .i64 fh)).setCell ⟨w.heap.size + 1, 9, none⟩ (.int .i64 p1)).setCell ⟨w.heap.size + 1, 10, none⟩ (.int .i64 p2)).cell? ⟨w.heap.size + 1, 0, none⟩ = some (.int .i64 sa) := by simp [go_sem, r0]
  replace r1 : (((((((((((Z5.setCell ⟨w.heap.size + 1, 0, none⟩ (.int .i64 sa)).setCell ⟨w.heap.size + 1, 1, none⟩ (.int .i64 ss)).setCell ⟨w.heap.size + 1, 2, none⟩ (.int .i64 (n : Int))).setCell ⟨w.heap.size + 1, 3, none⟩ (.int .i64 g1)).setCell ⟨w.heap.size + 1, 4, none⟩ (.int .i64 g2)).setCell ⟨w.heap.size + 1, 5, none⟩ (.int .i64 a1)).setCell ⟨w.heap.size + 1, 6, none⟩ (.int .i64 a2)).setCell ⟨w.heap.size + 1, 7, none⟩ (.int .i64 fl)).setCell ⟨w.heap.size + 1, 8, none⟩ (.int .i64 fh)).setCell ⟨w.heap.size + 1, 9, none⟩ (.int .i64 p1)).setCell ⟨w.heap.size + 1, 10, none⟩ (.int .i64 p2)).cell? ⟨w.heap.size + 1, 1, none⟩ = some (.int .i64 ss) := by simp [go_sem, r1]
  replace r2 : (((((((((((Z5.setCell ⟨w.heap.size + 1, 0, none⟩ (.int .i64 sa)).setCell ⟨w.heap.size + 1, 1, none⟩ (.int .i64 ss)).setCell ⟨w.heap.size + 1, 2, none⟩ (.int .i64 (n : Int))).setCell ⟨w.heap.size + 1, 3, none⟩ (.int .i64 g1)).setCell ⟨w.heap.size + 1, 4, none⟩ (.int .i64 g2)).setCell ⟨w.heap.size + 1, 5, none⟩ (.int .i64 a1)).setCell ⟨w.heap.size + 1, 6, none⟩ (.int .i64 a2)).setCell ⟨w.heap.size + 1, 7, none⟩ (.int .i64 fl)).setCell ⟨w.heap.size + 1, 8, none⟩ (.int .i64 fh)).setCell ⟨w.heap.size + 1, 9, none⟩ (.int .i64 p1)).setCell ⟨w.heap.size + 1, 10, none⟩ (.int .i64 p2)).cell? ⟨w.heap.size + 1, 2, none⟩ = some (.int .i64 (n : Int)) := by simp [go_sem, r2]
  replace r3 : (((((((((((Z5.setCell ⟨w.heap.size + 1, 0, none⟩ (.int .i64 sa)).setCell ⟨w.heap.size + 1, 1, none⟩ (.int .i64 ss)).setCell ⟨w.heap.size + 1, 2, none⟩ (.int .i64 (n : Int))).setCell ⟨w.heap.size + 1, 3, none⟩ (.int .i64 g1)).setCell ⟨w.heap.size + 1, 4, none⟩ (.int .i64 g2)).setCell ⟨w.heap.size + 1, 5, none⟩ (.int .i64 a1)).setCell ⟨w.heap.size + 1, 6, none⟩ (.int .i64 a2)).setCell ⟨w.heap.size + 1, 7, none⟩ (.int .i64 fl)).setCell ⟨w.heap.size + 1, 8, none⟩ (.int .i64 fh)).setCell ⟨w.heap.size + 1, 9, none⟩ (.int .i64 p1)).setCell ⟨w.heap.size + 1, 10, none⟩ (.int .i64 p2)).cell? ⟨w.heap.size + 1, 3, none⟩ = some (.int .i64 g1) := by simp [go_sem, r3]
  replace r4 : (((((((((((Z5.setCell ⟨w.heap.size + 1, 0, none⟩ (.int .i64 sa)).setCell ⟨w.heap.size + 1, 1, none⟩ (.int .i64 ss)).setCell ⟨w.heap.size + 1, 2, none⟩ (.int .i64 (n : Int))).setCell ⟨w.heap.size + 1, 3, none⟩ (.int .i64 g1)).setCell ⟨w.heap.size + 1, 4, none⟩ (.int .i64 g2)).setCell ⟨w.heap.size + 1, 5, none⟩ (.int .i64 a1)).setCell ⟨w.heap.size + 1, 6, none⟩ (.int .i64 a2)).setCell ⟨w.heap.size + 1, 7, none⟩ (.int .i64 fl)).setCell ⟨w.heap.size + 1, 8, none⟩ (.int .i64 fh)).setCell ⟨w.heap.size + 1, 9, none⟩ (.int .i64 p1)).setCell ⟨w.heap.size + 1, 10, none⟩ (.int .i64 p2)).cell? ⟨w.heap.size + 1, 4, none⟩ = some (.int .i64 g2) := by simp [go_sem, r4]
  replace r5 : (((((((((((Z5.setCell ⟨w.heap.size + 1, 0, none⟩ (.int .i64 sa)).setCell ⟨w.heap.size + 1, 1, none⟩ (.int .i64 ss)).setCell ⟨w.heap.size + 1, 2, none⟩ (.int .i64 (n : Int))).setCell ⟨w.heap.size + 1, 3, none⟩ (.int .i64 g1)).setCell ⟨w.heap.size + 1, 4, none⟩ (.int .i64 g2)).setCell ⟨w.heap.size + 1, 5, none⟩ (.int .i64 a1)).setCell ⟨w.heap.size + 1, 6, none⟩ (.int .i64 a2)).setCell ⟨w.heap.size + 1, 7, none⟩ (.int .i64 fl)).setCell ⟨w.heap.size + 1, 8, none⟩ (.int .i64 fh)).setCell ⟨w.heap.size + 1, 9, none⟩ (.int .i64 p1)).setCell ⟨w.heap.size + 1, 10, none⟩ (.int .i64 p2)).cell? ⟨w.heap.size + 1, 5, none⟩ = some (.int .i64 a1) := by simp [go_sem, r5]
  replace r6 : (((((((((((Z5.setCell ⟨w.heap.size + 1, 0, none⟩ (.int .i64 sa)).setCell ⟨w.heap.size + 1, 1, none⟩ (.int .i64 ss)).setCell ⟨w.heap.size + 1, 2, none⟩ (.int .i64 (n : Int))).setCell ⟨w.heap.size + 1, 3, none⟩ (.int .i64 g1)).setCell ⟨w.heap.size + 1, 4, none⟩ (.int .i64 g2)).setCell ⟨w.heap.size + 1, 5, none⟩ (.int .i64 a1)).setCell ⟨w.heap.size + 1, 6, none⟩ (.int .i64 a2)).setCell ⟨w.heap.size + 1, 7, none⟩ (.int .i64 fl)).setCell ⟨w.heap.size + 1, 8, none⟩ (.int .i64 fh)).setCell ⟨w.heap.size + 1, 9, none⟩ (.int .i64 p1)).setCell ⟨w.heap.size + 1, 10, none⟩ (.int .i64 p2)).cell? ⟨w.heap.size + 1, 6, none⟩ = some (.int .i64 a2) := by simp [go_sem, r6]
  replace r7 : (((((((((((Z5.setCell ⟨w.heap.size + 1, 0, none⟩ (.int .i64 sa)).setCell ⟨w.heap.size + 1, 1, none⟩ (.int .i64 ss)).setCell ⟨w.heap.size + 1, 2, none⟩ (.int .i64 (n : Int))).setCell ⟨w.heap.size + 1, 3, none⟩ (.int .i64 g1)).setCell ⟨w.heap.size + 1, 4, none⟩ (.int .i64 g2)).setCell ⟨w.heap.size + 1, 5, none⟩ (.int .i64 a1)).setCell ⟨w.heap.size + 1, 6, none⟩ (.int .i64 a2)).setCell ⟨w.heap.size + 1, 7, none⟩ (.int .i64 fl)).setCell ⟨w.heap.size + 1, 8, none⟩ (.int .i64 fh)).setCell ⟨w.heap.size + 1, 9, none⟩ (.int .i64 p1)).setCell ⟨w.heap.size + 1, 10, none⟩ (.int .i64 p2)).cell? ⟨w.heap.size + 1, 7, none⟩ = some (.int .i64 fl) := by simp [go_sem, r7]
  replace r8 : (((((((((((Z5.setCell ⟨w.heap.size + 1, 0, none⟩ (.int .i64 sa)).setCell ⟨w.heap.size + 1, 1, none⟩ (.int .i64 ss)).setCell ⟨w.heap.size + 1, 2, none⟩ (.int .i64 (n : Int))).setCell ⟨w.heap.size + 1, 3, none⟩ (.int .i64 g1)).setCell ⟨w.heap.size + 1, 4, none⟩ (.int .i64 g2)).setCell ⟨w.heap.size + 1, 5, none⟩ (.int .i64 a1)).setCell ⟨w.heap.size + 1, 6, none⟩ (.int .i64 a2)).setCell ⟨w.heap.size + 1, 7, none⟩ (.int .i64 fl)).setCell ⟨w.heap.size + 1, 8, none⟩ (.int .i64 fh)).setCell ⟨w.heap.size + 1, 9, none⟩ (.int .i64 p1)).setCell ⟨w.heap.size + 1, 10, none⟩ (.int .i64 p2)).cell? ⟨w.heap.size + 1, 8, none⟩ = some (.int .i64 fh) := by simp [go_sem, r8]
  replace r9 : (((((((((((Z5.setCell ⟨w.heap.size + 1, 0, none⟩ (.int .i64 sa)).setCell ⟨w.heap.size + 1, 1, none⟩ (.int .i64 ss)).setCell ⟨w.heap.size + 1, 2, none⟩ (.int .i64 (n : Int))).setCell ⟨w.heap.size + 1, 3, none⟩ (.int .i64 g1)).setCell ⟨w.heap.size + 1, 4, none⟩ (.int .i64 g2)).setCell ⟨w.heap.size + 1, 5, none⟩ (.int .i64 a1)).setCell ⟨w.heap.size + 1, 6, none⟩ (.int .i64 a2)).setCell ⟨w.heap.size + 1, 7, none⟩ (.int .i64 fl)).setCell ⟨w.heap.size + 1, 8, none⟩ (.int .i64 fh)).setCell ⟨w.heap.size + 1, 9, none⟩ (.int .i64 p1)).setCell ⟨w.heap.size + 1, 10, none⟩ (.int .i64 p2)).cell? ⟨w.heap.size + 1, 9, none⟩ = some (.int .i64 p1) := by simp [go_sem, r9]
  replace r10 : (((((((((((Z5.setCell ⟨w.heap.size + 1, 0, none⟩ (.int .i64 sa)).setCell ⟨w.heap.size + 1, 1, none⟩ (.int .i64 ss)).setCell ⟨w.heap.size + 1, 2, none⟩ (.int .i64 (n : Int))).setCell ⟨w.heap.size + 1, 3, none⟩ (.int .i64 g1)).setCell ⟨w.heap.size + 1, 4, none⟩ (.int .i64 g2)).setCell ⟨w.heap.size + 1, 5, none⟩ (.int .i64 a1)).setCell ⟨w.heap.size + 1, 6, none⟩ (.int .i64 a2)).setCell ⟨w.heap.size + 1, 7, none⟩ (.int .i64 fl)).setCell ⟨w.heap.size + 1, 8, none⟩ (.int .i64 fh)).setCell ⟨w.heap.size + 1, 9, none⟩ (.int .i64 p1)).setCell ⟨w.heap.size + 1, 10, none⟩ (.int .i64 p2)).cell? ⟨w.heap.size + 1, 10, none⟩ = some (.int .i64 p2) := by simp [go_sem, r10]
  replace q0 : (((((((((((Z5.setCell ⟨w.heap.size + 1, 0, none⟩ (.int .i64 sa)).setCell ⟨w.heap.size + 1, 1, none⟩ (.int .i64 ss)).setCell ⟨w.heap.size + 1, 2, none⟩ (.int .i64 (n : Int))).setCell ⟨w.heap.size + 1, 3, none⟩ (.int .i64 g1)).setCell ⟨w.heap.size + 1, 4, none⟩ (.int .i64 g2)).setCell ⟨w.heap.size + 1, 5, none⟩ (.int .i64 a1)).setCell ⟨w.heap.size + 1, 6, none⟩ (.int .i64 a2)).setCell ⟨w.heap.size + 1, 7, none⟩ (.int .i64 fl)).setCell ⟨w.heap.size + 1, 8, none⟩ (.int .i64 fh)).setCell ⟨w.heap.size + 1, 9, none⟩ (.int .i64 p1)).setCell ⟨w.heap.size + 1, 10, none⟩ (.int .i64 p2)).frozen? ⟨w.heap.size + 1, 0, none⟩ = false := by simp [go_sem, q0]
  replace q1 : (((((((((((Z5.setCell ⟨w.heap.size + 1, 0, none⟩ (.int .i64 sa)).setCell ⟨w.heap.size + 1, 1, none⟩ (.int .i64 ss)).setCell ⟨w.heap.size + 1, 2, none⟩ (.int .i64 (n : Int))).setCell ⟨w.heap.size + 1, 3, none⟩ (.int .i64 g1)).setCell ⟨w.heap.size + 1, 4, none⟩ (.int .i64 g2)).setCell ⟨w.heap.size + 1, 5, none⟩ (.int .i64 a1)).setCell ⟨w.heap.size + 1, 6, none⟩ (.int .i64 a2)).setCell ⟨w.heap.size + 1, 7, none⟩ (.int .i64 fl)).setCell ⟨w.heap.size + 1, 8, none⟩ (.int .i64 fh)).setCell ⟨w.heap.size + 1, 9, none⟩ (.int .i64 p1)).setCell ⟨w.heap.size + 1, 10, none⟩ (.int .i64 p2)).frozen? ⟨w.heap.size + 1, 1, none⟩ = false := by simp [go_sem, q1]
  replace q2 : (((((((((((Z5.setCell ⟨w.heap.size + 1, 0, none⟩ (.int .i64 sa)).setCell ⟨w.heap.size + 1, 1, none⟩ (.int .i64 ss)).setCell ⟨w.heap.size + 1, 2, none⟩ (.int .i64 (n : Int))).setCell ⟨w.heap.size + 1, 3, none⟩ (.int .i64 g1)).setCell ⟨w.heap.size + 1, 4, none⟩ (.int .i64 g2)).setCell ⟨w.heap.size + 1, 5, none⟩ (.int .i64 a1)).setCell ⟨w.heap.size + 1, 6, none⟩ (.int .i64 a2)).setCell ⟨w.heap.size + 1, 7, none⟩ (.int .i64 fl)).setCell ⟨w.heap.size + 1, 8, none⟩ (.int .i64 fh)).setCell ⟨w.heap.size + 1, 9, none⟩ (.int .i64 p1)).setCell ⟨w.heap.size + 1, 10, none⟩ (.int .i64 p2)).frozen? ⟨w.heap.size + 1, 2, none⟩ = false := by simp [go_sem, q2]
  replace q3 : (((((((((((Z5.setCell ⟨w.heap.size + 1, 0, none⟩ (.int .i64 sa)).setCell ⟨w.heap.size + 1, 1, none⟩ (.int .i64 ss)).setCell ⟨w.heap.size + 1, 2, none⟩ (.int .i64 (n : Int))).setCell ⟨w.heap.size + 1, 3, none⟩ (.int .i64 g1)).setCell ⟨w.heap.size + 1, 4, none⟩ (.int .i64 g2)).setCell ⟨w.heap.size + 1, 5, none⟩ (.int .i64 a1)).setCell ⟨w.heap.size + 1, 6, none⟩ (.int .i64 a2)).setCell ⟨w.heap.size + 1, 7, none⟩ (.int .i64 fl)).setCell ⟨w.heap.size + 1, 8, none⟩ (.int .i64 fh)).setCell ⟨w.heap.size + 1, 9, none⟩ (.int .i64 p1)).setCell ⟨w.heap.size + 1, 10, none⟩ (.int .i64 p2)).frozen? ⟨w.heap.size + 1, 3, none⟩ = false := by simp [go_sem, q3]
  replace q4 : (((((((((((Z5.setCell ⟨w.heap.size + 1, 0, none⟩ (.int .i64 sa)).setCell ⟨w.heap.size + 1, 1, none⟩ (.int .i64 ss)).setCell ⟨w.heap.size + 1, 2, none⟩ (.int .i64 (n : Int))).setCell ⟨w.heap.size + 1, 3, none⟩ (.int .i64 g1)).setCell ⟨w.heap.size + 1, 4, none⟩ (.int .i64 g2)).setCell ⟨w.heap.size + 1, 5, none⟩ (.int .i64 a1)).setCell ⟨w.heap.size + 1, 6, none⟩ (.int .i64 a2)).setCell ⟨w.heap.size + 1, 7, none⟩ (.int .i64 fl)).setCell ⟨w.heap.size + 1, 8, none⟩ (.int .i64 fh)).setCell ⟨w.heap.size + 1, 9, none⟩ (.int .i64 p1)).setCell ⟨w.heap.size + 1, 10, none⟩ (.int .i64 p2)).frozen? ⟨w.heap.size + 1, 4, none⟩ = false := by simp [go_sem, q4]
  replace q5 : (((((((((((Z5.setCell ⟨w.heap.size + 1, 0, none⟩ (.int .i64 sa)).setCell ⟨w.heap.size + 1, 1, none⟩ (.int .i64 ss)).setCell ⟨w.heap.size + 1, 2, none⟩ (.int .i64 (n : Int))).setCell ⟨w.heap.size + 1, 3, none⟩ (.int .i64 g1)).setCell ⟨w.heap.size + 1, 4, none⟩ (.int .i64 g2)).setCell ⟨w.heap.size + 1, 5, none⟩ (.int .i64 a1)).setCell ⟨w.heap.size + 1, 6, none⟩ (.int .i64 a2)).setCell ⟨w.heap.size + 1, 7, none⟩ (.int .i64 fl)).setCell ⟨w.heap.size + 1, 8, none⟩ (.int .i64 fh)).setCell ⟨w.heap.size + 1, 9, none⟩ (.int .i64 p1)).setCell ⟨w.heap.size + 1, 10, none⟩ (.int .i64 p2)).frozen? ⟨w.heap.size + 1, 5, none⟩ = false := by simp [go_sem, q5]
  replace q6 : (((((((((((Z5.setCell ⟨w.heap.size + 1, 0, none⟩ (.int .i64 sa)).setCell ⟨w.heap.size + 1, 1, none⟩ (.int .i64 ss)).setCell ⟨w.heap.size + 1, 2, none⟩ (.int .i64 (n : Int))).setCell ⟨w.heap.size + 1, 3, none⟩ (.int .i64 g1)).setCell ⟨w.heap.size + 1, 4, none⟩ (.int .i64 g2)).setCell ⟨w.heap.size + 1, 5, none⟩ (.int .i64 a1)).setCell ⟨w.heap.size + 1, 6, none⟩ (.int .i64 a2)).setCell ⟨w.heap.size + 1, 7, none⟩ (.int .i64 fl)).setCell ⟨w.heap.size + 1, 8, none⟩ (.int .i64 fh)).setCell ⟨w.heap.size + 1, 9, none⟩ (.int .i64 p1)).setCell ⟨w.heap.size + 1, 10, none⟩ (.int .i64 p2)).frozen? ⟨w.heap.size + 1, 6, none⟩ = false := by simp [go_sem, q6]
  replace q7 : (((((((((((Z5.setCell ⟨w.heap.size + 1, 0, none⟩ (.int .i64 sa)).setCell ⟨w.heap.size + 1, 1, none⟩ (.int .i64 ss)).setCell ⟨w.heap.size + 1, 2, none⟩ (.int .i64 (n : Int))).setCell ⟨w.heap.size + 1, 3, none⟩ (.int .i64 g1)).setCell ⟨w.heap.size + 1, 4, none⟩ (.int .i64 g2)).setCell ⟨w.heap.size + 1, 5, none⟩ (.int .i64 a1)).setCell ⟨w.heap.size + 1, 6, none⟩ (.int .i64 a2)).setCell ⟨w.heap.size + 1, 7, none⟩ (.int .i64 fl)).setCell ⟨w.heap.size + 1, 8, none⟩ (.int .i64 fh)).setCell ⟨w.heap.size + 1, 9, none⟩ (.int .i64 p1)).setCell ⟨w.heap.size + 1, 10, none⟩ (.int .i64 p2)).frozen? ⟨w.heap.size + 1, 7, none⟩ = false := by simp [go_sem, q7]
  replace q8 : (((((((((((Z5.setCell ⟨w.heap.size + 1, 0, none⟩ (.int .i64 sa)).setCell ⟨w.heap.size + 1, 1, none⟩ (.int .i64 ss)).setCell ⟨w.heap.size + 1, 2, none⟩ (.int .i64 (n : Int))).setCell ⟨w.heap.size + 1, 3, none⟩ (.int .i64 g1)).setCell ⟨w.heap.size + 1, 4, none⟩ (.int .i64 g2)).setCell ⟨w.heap.size + 1, 5, none⟩ (.int .i64 a1)).setCell ⟨w.heap.size + 1, 6, none⟩ (.int .i64 a2)).setCell ⟨w.heap.size + 1, 7, none⟩ (.int .i64 fl)).setCell ⟨w.heap.size + 1, 8, none⟩ (.int .i64 fh)).setCell ⟨w.heap.size + 1, 9, none⟩ (.int .i64 p1)).setCell ⟨w.heap.size + 1, 10, none⟩ (.int .i64 p2)).frozen? ⟨w.heap.size + 1, 8, none⟩ = false := by simp [go_sem, q8]
  replace q9 : (((((((((((Z5.setCell ⟨w.heap.size + 1, 0, none⟩ (.int .i64 sa)).setCell ⟨w.heap.size + 1, 1, none⟩ (.int .i64 ss)).setCell ⟨w.heap.size + 1, 2, none⟩ (.int .i64 (n : Int))).setCell ⟨w.heap.size + 1, 3, none⟩ (.int .i64 g1)).setCell ⟨w.heap.size + 1, 4, none⟩ (.int .i64 g2)).setCell ⟨w.heap.size + 1, 5, none⟩ (.int .i64 a1)).setCell ⟨w.heap.size + 1, 6, none⟩ (.int .i64 a2)).setCell ⟨w.heap.size + 1, 7, none⟩ (.int .i64 fl)).setCell ⟨w.heap.size + 1, 8, none⟩ (.int .i64 fh)).setCell ⟨w.heap.size + 1, 9, none⟩ (.int .i64 p1)).setCell ⟨w.heap.size + 1, 10, none⟩ (.int .i64 p2)).frozen? ⟨w.heap.size + 1, 9, none⟩ = false := by simp [go_sem, q9]
  replace q10 : (((((((((((Z5.setCell ⟨w.heap.size + 1, 0, none⟩ (.int .i64 sa)).setCell ⟨w.heap.size + 1, 1, none⟩ (.int .i64 ss)).setCell ⟨w.heap.size + 1, 2, none⟩ (.int .i64 (n : Int))).setCell ⟨w.heap.size + 1, 3, none⟩ (.int .i64 g1)).setCell ⟨w.heap.size + 1, 4, none⟩ (.int .i64 g2)).setCell ⟨w.heap.size + 1, 5, none⟩ (.int .i64 a1)).setCell ⟨w.heap.size + 1, 6, none⟩ (.int .i64 a2)).setCell ⟨w.heap.size + 1, 7, none⟩ (.int .i64 fl)).setCell ⟨w.heap.size + 1, 8, none⟩ (.int .i64 fh)).setCell ⟨w.heap.size + 1, 9, none⟩ (.int .i64 p1)).setCell ⟨w.heap.size + 1, 10, none⟩ (.int .i64 p2)).frozen? ⟨w.heap.size + 1, 10, none⟩ = false := by simp [go_sem, q10]
  replace b0 : (((((((((((Z5.setCell ⟨w.heap.size + 1, 0, none⟩ (.int .i64 sa)).setCell ⟨w.heap.size + 1, 1, none⟩ (.int .i64 ss)).setCell ⟨w.heap.size + 1, 2, none⟩ (.int .i64 (n : Int))).setCell ⟨w.heap.size + 1, 3, none⟩ (.int .i64 g1)).setCell ⟨w.heap.size + 1, 4, none⟩ (.int .i64 g2)).setCell ⟨w.heap.size + 1, 5, none⟩ (.int .i64 a1)).setCell ⟨w.heap.size + 1, 6, none⟩ (.int .i64 a2)).setCell ⟨w.heap.size + 1, 7, none⟩ (.int .i64 fl)).setCell ⟨w.heap.size + 1, 8, none⟩ (.int .i64 fh)).setCell ⟨w.heap.size + 1, 9, none⟩ (.int .i64 p1)).setCell ⟨w.heap.size + 1, 10, none⟩ (.int .i64 p2)).cell? ⟨w.heap.size, 0, none⟩ = some (.pointer (some ⟨c, 0, none⟩)) := ((World.cell?_setCell_other _ _ _ _ (by intro e; injection e with e1 e2; omega)).trans ((World.cell?_setCell_other _ _ _ _ (by intro e; injection e with e1 e2; omega)).trans ((World.cell?_setCell_other _ _ _ _ (by intro e; injection e with e1 e2; omega)).trans ((World.cell?_setCell_other _ _ _ _ (by intro e; injection e with e1 e2; omega)).trans ((World.cell?_setCell_other _ _ _ _ (by intro e; injection e with e1 e2; omega)).trans ((World.cell?_setCell_other _ _ _ _ (by intro e; injection e with e1 e2; omega)).trans ((World.cell?_setCell_other _ _ _ _ (by intro e; injection e with e1 e2; omega)).trans ((World.cell?_setCell_other _ _ _ _ (by intro e; injection e with e1 e2; omega)).trans ((World.cell?_setCell_other _ _ _ _ (by intro e; injection e with e1 e2; omega)).trans ((World.cell?_setCell_other _ _ _ _ (by intro e; injection e with e1 e2; omega)).trans ((World.cell?_setCell_other _ _ _ _ (by intro e; injection e with e1 e2; omega)).trans b0)))))))))))
  replace v1 : (((((((((((Z5.setCell ⟨w.heap.size + 1, 0, none⟩ (.int .i64 sa)).setCell ⟨w.heap.size + 1, 1, none⟩ (.int .i64 ss)).setCell ⟨w.heap.size + 1, 2, none⟩ (.int .i64 (n : Int))).setCell ⟨w.heap.size + 1, 3, none⟩ (.int .i64 g1)).setCell ⟨w.heap.size + 1, 4, none⟩ (.int .i64 g2)).setCell ⟨w.heap.size + 1, 5, none⟩ (.int .i64 a1)).setCell ⟨w.heap.size + 1, 6, none⟩ (.int .i64 a2)).setCell ⟨w.heap.size + 1, 7, none⟩ (.int .i64 fl)).setCell ⟨w.heap.size + 1, 8, none⟩ (.int .i64 fh)).setCell ⟨w.heap.size + 1, 9, none⟩ (.int .i64 p1)).setCell ⟨w.heap.size + 1, 10, none⟩ (.int .i64 p2)).cell? ⟨vb k, 1, none⟩ = some (.int .i64 fl) := ((World.cell?_setCell_other _ _ _ _ (by intro e; injection e with e1 e2; omega)).trans ((World.cell?_setCell_other _ _ _ _ (by intro e; injection e with e1 e2; omega)).trans ((World.cell?_setCell_other _ _ _ _ (by intro e; injection e with e1 e2; omega)).trans ((World.cell?_setCell_other _ _ _ _ (by intro e; injection e with e1 e2; omega)).trans ((World.cell?_setCell_other _ _ _ _ (by intro e; injection e with e1 e2; omega)).trans ((World.cell?_setCell_other _ _ _ _ (by intro e; injection e with e1 e2; omega)).trans ((World.cell?_setCell_other _ _ _ _ (by intro e; injection e with e1 e2; omega)).trans ((World.cell?_setCell_other _ _ _ _ (by intro e; injection e with e1 e2; omega)).trans ((World.cell?_setCell_other _ _ _ _ (by intro e; injection e with e1 e2; omega)).trans ((World.cell?_setCell_other _ _ _ _ (by intro e; injection e with e1 e2; omega)).trans ((World.cell?_setCell_other _ _ _ _ (by intro e; injection e with e1 e2; omega)).trans v1)))))))))))
  replace v2 : (((((((((((Z5.setCell ⟨w.heap.size + 1, 0, none⟩ (.int .i64 sa)).setCell ⟨w.heap.size + 1, 1, none⟩ (.int .i64 ss)).setCell ⟨w.heap.size + 1, 2, none⟩ (.int .i64 (n : Int))).setCell ⟨w.heap.size + 1, 3, none⟩ (.int .i64 g1)).setCell ⟨w.heap.size + 1, 4, none⟩ (.int .i64 g2)).setCell ⟨w.heap.size + 1, 5, none⟩ (.int .i64 a1)).setCell ⟨w.heap.size + 1, 6, none⟩ (.int .i64 a2)).setCell ⟨w.heap.size + 1, 7, none⟩ (.int .i64 fl)).setCell ⟨w.heap.size + 1, 8, none⟩ (.int .i64 fh)).setCell ⟨w.heap.size + 1, 9, none⟩ (.int .i64 p1)).setCell ⟨w.heap.size + 1, 10, none⟩ (.int .i64 p2)).cell? ⟨vb k, 2, none⟩ = some (.int .i64 fh) := ((World.cell?_setCell_other _ _ _ _ (by intro e; injection e with e1 e2; omega)).trans ((World.cell?_setCell_other _ _ _ _ (by intro e; injection e with e1 e2; omega)).trans ((World.cell?_setCell_other _ _ _ _ (by intro e; injection e with e1 e2; omega)).trans ((World.cell?_setCell_other _ _ _ _ (by intro e; injection e with e1 e2; omega)).trans ((World.cell?_setCell_other _ _ _ _ (by intro e; injection e with e1 e2; omega)).trans ((World.cell?_setCell_other _ _ _ _ (by intro e; injection e with e1 e2; omega)).trans ((World.cell?_setCell_other _ _ _ _ (by intro e; injection e with e1 e2; omega)).trans ((World.cell?_setCell_other _ _ _ _ (by intro e; injection e with e1 e2; omega)).trans ((World.cell?_setCell_other _ _ _ _ (by intro e; injection e with e1 e2; omega)).trans ((World.cell?_setCell_other _ _ _ _ (by intro e; injection e with e1 e2; omega)).trans ((World.cell?_setCell_other _ _ _ _ (by intro e; injection e with e1 e2; omega)).trans v2)))))))))))
  replace v3 : (((((((((((Z5.setCell ⟨w.heap.size + 1, 0, none⟩ (.int .i64 sa)).setCell ⟨w.heap.size + 1, 1, none⟩ (.int .i64 ss)).setCell ⟨w.heap.size + 1, 2, none⟩ (.int .i64 (n : Int))).setCell ⟨w.heap.size + 1, 3, none⟩ (.int .i64 g1)).setCell ⟨w.heap.size + 1, 4, none⟩ (.int .i64 g2)).setCell ⟨w.heap.size + 1, 5, none⟩ (.int .i64 a1)).setCell ⟨w.heap.size + 1, 6, none⟩ (.int .i64 a2)).setCell ⟨w.heap.size + 1, 7, none⟩ (.int .i64 fl)).setCell ⟨w.heap.size + 1, 8, none⟩ (.int .i64 fh)).setCell ⟨w.heap.size + 1, 9, none⟩ (.int .i64 p1)).setCell ⟨w.heap.size + 1, 10, none⟩ (.int .i64 p2)).cell? ⟨vb k, 3, none⟩ = some (.slice A n cc) := ((World.cell?_setCell_other _ _ _ _ (by intro e; injection e with e1 e2; omega)).trans ((World.cell?_setCell_other _ _ _ _ (by intro e; injection e with e1 e2; omega)).trans ((World.cell?_setCell_other _ _ _ _ (by intro e; injection e with e1 e2; omega)).trans ((World.cell?_setCell_other _ _ _ _ (by intro e; injection e with e1 e2; omega)).trans ((World.cell?_setCell_other _ _ _ _ (by intro e; injection e with e1 e2; omega)).trans ((World.cell?_setCell_other _ _ _ _ (by intro e; injection e with e1 e2; omega)).trans ((World.cell?_setCell_other _ _ _ _ (by intro e; injection e with e1 e2; omega)).trans ((World.cell?_setCell_other _ _ _ _ (by intro e; injection e with e1 e2; omega)).trans ((World.cell?_setCell_other _ _ _ _ (by intro e; injection e with e1 e2; omega)).trans ((World.cell?_setCell_other _ _ _ _ (by intro e; injection e with e1 e2; omega)).trans ((World.cell?_setCell_other _ _ _ _ (by intro e; injection e with e1 e2; omega)).trans v3)))))))))))
  replace nr : w.heap.size + 1 < (((((((((((Z5.setCell ⟨w.heap.size + 1, 0, none⟩ (.int .i64 sa)).setCell ⟨w.heap.size + 1, 1, none⟩ (.int .i64 ss)).setCell ⟨w.heap.size + 1, 2, none⟩ (.int .i64 (n : Int))).setCell ⟨w.heap.size + 1, 3, none⟩ (.int .i64 g1)).setCell ⟨w.heap.size + 1, 4, none⟩ (.int .i64 g2)).setCell ⟨w.heap.size + 1, 5, none⟩ (.int .i64 a1)).setCell ⟨w.heap.size + 1, 6, none⟩ (.int .i64 a2)).setCell ⟨w.heap.size + 1, 7, none⟩ (.int .i64 fl)).setCell ⟨w.heap.size + 1, 8, none⟩ (.int .i64 fh)).setCell ⟨w.heap.size + 1, 9, none⟩ (.int .i64 p1)).setCell ⟨w.heap.size + 1, 10, none⟩ (.int .i64 p2)).heap.size := by simpa [World.setCell] using nr
  replace nb : w.heap.size < (((((((((((Z5.setCell ⟨w.heap.size + 1, 0, none⟩ (.int .i64 sa)).setCell ⟨w.heap.size + 1, 1, none⟩ (.int .i64 ss)).setCell ⟨w.heap.size + 1, 2, none⟩ (.int .i64 (n : Int))).setCell ⟨w.heap.size + 1, 3, none⟩ (.int .i64 g1)).setCell ⟨w.heap.size + 1, 4, none⟩ (.int .i64 g2)).setCell ⟨w.heap.size + 1, 5, none⟩ (.int .i64 a1)).setCell ⟨w.heap.size + 1, 6, none⟩ (.int .i64 a2)).setCell ⟨w.heap.size + 1, 7, none⟩ (.int .i64 fl)).setCell ⟨w.heap.size + 1, 8, none⟩ (.int .i64 fh)).setCell ⟨w.heap.size + 1, 9, none⟩ (.int .i64 p1)).setCell ⟨w.heap.size + 1, 10, none⟩ (.int .i64 p2)).heap.size := by simpa [World.setCell] using nb
  replace nv : vb k < (((((((((((Z5.setCell ⟨w.heap.size + 1, 0, none⟩ (.int .i64 sa)).setCell ⟨w.heap.size + 1, 1, none⟩ (.int .i64 ss)).setCell ⟨w.heap.size + 1, 2, none⟩ (.int .i64 (n : Int))).setCell ⟨w.heap.size + 1, 3, none⟩ (.int .i64 g1)).setCell ⟨w.heap.size + 1, 4, none⟩ (.int .i64 g2)).setCell ⟨w.heap.size + 1, 5, none⟩ (.int .i64 a1)).setCell ⟨w.heap.size + 1, 6, none⟩ (.int .i64 a2)).setCell ⟨w.heap.size + 1, 7, none⟩ (.int .i64 fl)).setCell ⟨w.heap.size + 1, 8, none⟩ (.int .i64 fh)).setCell ⟨w.heap.size + 1, 9, none⟩ (.int .i64 p1)).setCell ⟨w.heap.size + 1, 10, none⟩ (.int .i64 p2)).heap.size := by simpa [World.setCell] using nv
  replace hL := hL.setCell (p := ⟨w.heap.size + 1, 0, none⟩) (by show w.heap.size ≤ w.heap.size + 1; omega) (.int .i64 sa)
  replace hL := hL.setCell (p := ⟨w.heap.size + 1, 1, none⟩) (by show w.heap.size ≤ w.heap.size + 1; omega) (.int .i64 ss)
  replace hL := hL.setCell (p := ⟨w.heap.size + 1, 2, none⟩) (by show w.heap.size ≤ w.heap.size + 1; omega) (.int .i64 (n : Int))
  replace hL := hL.setCell (p := ⟨w.heap.size + 1, 3, none⟩) (by show w.heap.size ≤ w.heap.size + 1; omega) (.int .i64 g1)
  replace hL := hL.setCell (p := ⟨w.heap.size + 1, 4, none⟩) (by show w.heap.size ≤ w.heap.size + 1; omega) (.int .i64 g2)
  replace hL := hL.setCell (p := ⟨w.heap.size + 1, 5, none⟩) (by show w.heap.size ≤ w.heap.size + 1; omega) (.int .i64 a1)
  replace hL := hL.setCell (p := ⟨w.heap.size + 1, 6, none⟩) (by show w.heap.size ≤ w.heap.size + 1; omega) (.int .i64 a2)
  replace hL := hL.setCell (p := ⟨w.heap.size + 1, 7, none⟩) (by show w.heap.size ≤ w.heap.size + 1; omega) (.int .i64 fl)
  replace hL := hL.setCell (p := ⟨w.heap.size + 1, 8, none⟩) (by show w.heap.size ≤ w.heap.size + 1; omega) (.int .i64 fh)
  replace hL := hL.setCell (p := ⟨w.heap.size + 1, 9, none⟩) (by show w.heap.size ≤ w.heap.size + 1; omega) (.int .i64 p1)
  replace hL := hL.setCell (p := ⟨w.heap.size + 1, 10, none⟩) (by show w.heap.size ≤ w.heap.size + 1; omega) (.int .i64 p2)
  refine hK.out _ _ ⟨b0, v1, v2, v3, trivial⟩ (fun hHeld => ?_)
  clear hK K
  generalize (((((((((((Z5.setCell ⟨w.heap.size + 1, 0, none⟩ (.int .i64 sa)).setCell ⟨w.heap.size + 1, 1, none⟩ (.int .i64 ss)).setCell ⟨w.heap.size + 1, 2, none⟩ (.int .i64 (n : Int))).setCell ⟨w.heap.size + 1, 3, none⟩ (.int .i64 g1)).setCell ⟨w.heap.size + 1, 4, none⟩ (.int .i64 g2)).setCell ⟨w.heap.size + 1, 5, none⟩ (.int .i64 a1)).setCell ⟨w.heap.size + 1, 6, none⟩ (.int .i64 a2)).setCell ⟨w.heap.size + 1, 7, none⟩ (.int .i64 fl)).setCell ⟨w.heap.size + 1, 8, none⟩ (.int .i64 fh)).setCell ⟨w.heap.size + 1, 9, none⟩ (.int .i64 p1)).setCell ⟨w.heap.size + 1, 10, none⟩ (.int .i64 p2)) = Z6 at *
  try simp only [Act.put, List.setIfInBounds_toArray, List.set_cons_zero, List.set_cons_succ]
  refine take_slot (i := 40) (d := 5) (v := ?_) rfl rfl (by kernel_rfl) (by kernel_rfl) (by kernel_rfl) (fun _ _ _ h => h) (Or.inl ⟨by rfl, ?_⟩) (by assumption) ?_
  rotate_left 1
  focus (intro wS hSw; (try dsimp only at hSw); go_simp; try with_reducible rfl)
  try simp only [List.setIfInBounds_toArray, List.set_cons_zero, List.set_cons_succ]
  refine wpAnyH_done (by kernel_rfl) ?_ _
  go_wp2_with fail
  refine bodyPost_ret (v := .tuple #[.agg #[.int .i64 sa, .int .i64 ss, .int .i64 (n : Int), .int .i64 g1, .int .i64 g2, .int .i64 a1, .int .i64 a2, .int .i64 fl, .int .i64 fh, .int .i64 p1, .int .i64 p2], .int .i64 0]) (by simp [results, Try.results13, go_sem, r0, r1, r2, r3, r4, r5, r6, r7, r8, r9, r10]) rfl ⟨rfl, hB.trans hL⟩
end Go.Proofs.Ytfdaiififoomoaa
