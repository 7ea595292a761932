/- Contracts: what an hour with a temperature can do. -/
import Derived.Test.YtfdaiififoomoaaY1
import Derived.Test.YtfdaiififoomoaaJB21
namespace Go.Proofs.Ytfdaiififoomoaa
open Go.RowKit Go.Lib Go.Shelf
set_option linter.unusedVariables false
set_option linter.unusedSimpArgs false
attribute [local go_sem ↓] Go.wp_at_zero Go.wp_at_succ

theorem infoKind : (Try.prog.info? 65).map (fun i => (i.zero, i.size, i.bytes)) = some (some (.int .i64 0), 1, 8) := by kernel_rfl
def intsV (zs : List Int) : List Value := zs.map fun z => .int .i64 z
theorem intsV_append (xs ys : List Int) : intsV (xs ++ ys) = intsV xs ++ intsV ys := by simp [intsV]
theorem ns_own {base n : Nat} {e : TypeId} {w : World} {v : Value} {xs : List Int} (h : w.ownsRow base e 1 v n (intsV xs)) (hn : xs.length = n) : NsAt w.heap.size w v xs := by
  subst hn
  rcases Nat.eq_zero_or_pos xs.length with h0 | h0
  · rcases h.2 with ⟨rfl, _⟩ | ⟨g, cap, cur, rfl, _⟩
    · exact ⟨none, 0, by rw [h0], fun h => by omega⟩
    · exact ⟨_, _, rfl, fun h => by omega⟩
  · obtain ⟨g, cap, rfl, hb, hg⟩ := World.ownsRow.form h h0
    refine ⟨_, _, rfl, fun _ => ⟨g, 0, rfl, hg, fun k z hz => ?_⟩⟩
    have hk : k < xs.length := (List.getElem?_eq_some_iff.1 hz).1
    rw [Nat.zero_add, World.ownsRow.cellAt h k (by omega)]
    simp [intsV, hz]
/-- what an hour can do -/
def kiB (p1 p2 p3 p4 : Bool) : List Int := (if p1 = true then [1] else []) ++ ((if p2 = true ∧ p3 = true then [2] else []) ++ if p4 = true then [3] else [])
def kiL (fr th a b : Int) : List Int := kiB (decide (a < fr)) (decide (a ≤ th)) (decide (fr ≤ b)) (decide (th < b))

set_option maxRecDepth 20000 in
set_option maxHeartbeats 8000000 in
theorem kinds_b (fr th a b : Int) (p1 p2 p3 p4 : Bool) (h1 : decide (a < fr) = p1) (h2 : decide (a ≤ th) = p2) (h3 : decide (fr ≤ b) = p3) (h4 : decide (th < b) = p4) (g1 : p1 = true → p2 = true) (g2 : p4 = true → p3 = true) (g3 : p2 = false → p4 = true) (g4 : p3 = false → p1 = true) (q : Nat) (w : World) (nC : q < w.heap.size) (C0 : w.cell? ⟨q, 0, none⟩ = some (.int .i64 fr)) (C1 : w.cell? ⟨q, 1, none⟩ = some (.int .i64 th)) :
    Calls Try.prog 47 #[.pointer (some ⟨q, 0, none⟩), .agg #[.int .i64 a, .int .i64 b]] w fun e w' => ∃ v, e = .returned v ∧ NsAt w'.heap.size w' v (kiB p1 p2 p3 p4) ∧ Below w.heap.size w w' := by
  obtain ⟨i0, hi0, hiz0, hiz1, hiz2⟩ := info_parts infoKind
  cases p1
  · cases p2
    · cases p3
      · cases p4
        · exact absurd (g3 rfl) (by decide)
        · exact absurd (g2 rfl) (by decide)
      · cases p4
        · exact absurd (g3 rfl) (by decide)
        · clear g1 g2 g3 g4
          go_enter Try.func47, Try.ntmps47
          go_wp2_with fail
          have T0 : (w.alloc (Obj.cells #[.int .i64 a, .int .i64 b] 31)).cell? ⟨w.heap.size, 0, none⟩ = some (.int .i64 a) := cell_new _ _ _ 0
          have T1 : (w.alloc (Obj.cells #[.int .i64 a, .int .i64 b] 31)).cell? ⟨w.heap.size, 1, none⟩ = some (.int .i64 b) := cell_new _ _ _ 1
          have nT : w.heap.size < (w.alloc (Obj.cells #[.int .i64 a, .int .i64 b] 31)).heap.size := by simp
          have hB : Below w.heap.size w (w.alloc (Obj.cells #[.int .i64 a, .int .i64 b] 31)) := (Below.refl _ _).alloc (Nat.le_refl _) _
          replace C0 := cell_next hB nC C0
          replace C1 := cell_next hB nC C1
          have nq := nC
          replace nC := Nat.lt_of_lt_of_le nC hB.size
          have HO : Hid ((w.alloc (Obj.cells #[.int .i64 a, .int .i64 b] 31)).ownsRow (w.heap.size + 1) 65 1 (.slice none 0 0) 0 (intsV [])) := Lib.hid (World.ownsRow_nil _ _ _ _)
          generalize w.alloc (Obj.cells #[.int .i64 a, .int .i64 b] 31) = X1 at *
          have hBW : X1.heap.size ≤ X1.heap.size := Nat.le_refl _
          refine wp_region_held_drew (S := fun w' => w'.cell? ⟨w.heap.size, 0, none⟩ = some (.int .i64 a) ∧ w'.cell? ⟨w.heap.size, 1, none⟩ = some (.int .i64 b) ∧ w'.cell? ⟨q, 0, none⟩ = some (.int .i64 fr) ∧ w'.cell? ⟨q, 1, none⟩ = some (.int .i64 th) ∧ True) (by kernel_rfl) ?_ (fun hHeld => ?_)
          focus (exact ⟨T0, T1, C0, C1, trivial⟩)
          have hL : Below X1.heap.size X1 X1.drew := Below.drew (Below.refl _ _)
          replace T0 : X1.drew.cell? ⟨w.heap.size, 0, none⟩ = some (.int .i64 a) := T0
          replace T1 : X1.drew.cell? ⟨w.heap.size, 1, none⟩ = some (.int .i64 b) := T1
          replace C0 : X1.drew.cell? ⟨q, 0, none⟩ = some (.int .i64 fr) := C0
          replace C1 : X1.drew.cell? ⟨q, 1, none⟩ = some (.int .i64 th) := C1
          replace nT : w.heap.size < X1.drew.heap.size := nT
          replace nC : q < X1.drew.heap.size := nC
          replace HO := Lib.hid HO.out.drew
          generalize hWd : X1.drew = wd2 at hHeld hL T0 T1 C0 C1 nT nC HO ⊢
          clear hWd
          refine take_slot (i := 0) (d := 6) (v := ?_) rfl rfl (by kernel_rfl) (by kernel_rfl) (by kernel_rfl) (fun _ _ _ h => h) (Or.inl ⟨by rfl, ?_⟩) (by assumption) ?_
          rotate_left 1
          focus (intro wS hSw; (try dsimp only at hSw); go_simp; try with_reducible rfl)
          try simp only [List.setIfInBounds_toArray, List.set_cons_zero, List.set_cons_succ]
          refine take_slot (i := 1) (d := 7) (v := ?_) rfl rfl (by kernel_rfl) (by kernel_rfl) (by kernel_rfl) (fun _ _ _ h => h) (Or.inl ⟨by rfl, ?_⟩) (by assumption) ?_
          rotate_left 1
          focus (intro wS hSw; (try dsimp only at hSw); go_simp; try with_reducible rfl)
          try simp only [List.setIfInBounds_toArray, List.set_cons_zero, List.set_cons_succ]
          refine take_slot (i := 2) (d := 8) (v := ?_) rfl rfl (by kernel_rfl) (by kernel_rfl) (by kernel_rfl) (fun _ _ _ h => h) (Or.inl ⟨by rfl, ?_⟩) (by assumption) ?_
          rotate_left 1
          focus (intro wS hSw; (try dsimp only at hSw); go_simp; try with_reducible rfl)
          try simp only [List.setIfInBounds_toArray, List.set_cons_zero, List.set_cons_succ]
          refine take_slot (i := 3) (d := 9) (v := ?_) rfl rfl (by kernel_rfl) (by kernel_rfl) (by kernel_rfl) (fun _ _ _ h => h) (Or.inl ⟨by rfl, ?_⟩) (by assumption) ?_
          rotate_left 1
          focus (intro wS hSw; (try dsimp only at hSw); go_simp; try with_reducible rfl)
          try simp only [List.setIfInBounds_toArray, List.set_cons_zero, List.set_cons_succ]
          refine take_slot (i := 4) (d := 10) (v := ?_) rfl rfl (by kernel_rfl) (by kernel_rfl) (by kernel_rfl) (fun _ _ _ h => h) (Or.inl ⟨by rfl, ?_⟩) (by assumption) ?_
          rotate_left 1
          focus (intro wS hSw; (try dsimp only at hSw); go_simp; try with_reducible rfl)
          try simp only [List.setIfInBounds_toArray, List.set_cons_zero, List.set_cons_succ]
          refine take_slot (i := 5) (d := 11) (v := ?_) rfl rfl (by kernel_rfl) (by kernel_rfl) (by kernel_rfl) (fun _ _ _ h => h) (Or.inl ⟨by rfl, ?_⟩) (by assumption) ?_
          rotate_left 1
          focus (intro wS hSw; (try dsimp only at hSw); go_simp; try with_reducible rfl)
          try simp only [List.setIfInBounds_toArray, List.set_cons_zero, List.set_cons_succ]
          refine take_slot (i := 6) (d := 12) (v := ?_) rfl rfl (by kernel_rfl) (by kernel_rfl) (by kernel_rfl) (fun _ _ _ h => h) (Or.inl ⟨by rfl, ?_⟩) (by assumption) ?_
          rotate_left 1
          focus (intro wS hSw; (try dsimp only at hSw); go_simp; try with_reducible rfl)
          try simp only [List.setIfInBounds_toArray, List.set_cons_zero, List.set_cons_succ]
          refine take_slot (i := 7) (d := 13) (v := ?_) rfl rfl (by kernel_rfl) (by kernel_rfl) (by kernel_rfl) (fun _ _ _ h => h) (Or.inl ⟨by rfl, ?_⟩) (by assumption) ?_
          rotate_left 1
          focus (intro wS hSw; (try dsimp only at hSw); go_simp; try with_reducible rfl)
          try simp only [List.setIfInBounds_toArray, List.set_cons_zero, List.set_cons_succ]
          refine wpAnyH_done (by kernel_rfl) ?_ _
          replace hB := hB.trans (hL.mono hB.size)
          clear hHeld hL hBW
          go_wp2_with fail
          have hBW : wd2.heap.size ≤ wd2.heap.size := Nat.le_refl _
          refine wp_region_held_drew (S := fun w' => w'.cell? ⟨w.heap.size, 0, none⟩ = some (.int .i64 a) ∧ w'.cell? ⟨w.heap.size, 1, none⟩ = some (.int .i64 b) ∧ w'.cell? ⟨q, 0, none⟩ = some (.int .i64 fr) ∧ w'.cell? ⟨q, 1, none⟩ = some (.int .i64 th) ∧ True) (by kernel_rfl) ?_ (fun hHeld => ?_)
          focus (exact ⟨T0, T1, C0, C1, trivial⟩)
          have hL : Below wd2.heap.size wd2 wd2.drew := Below.drew (Below.refl _ _)
          replace T0 : wd2.drew.cell? ⟨w.heap.size, 0, none⟩ = some (.int .i64 a) := T0
          replace T1 : wd2.drew.cell? ⟨w.heap.size, 1, none⟩ = some (.int .i64 b) := T1
          replace C0 : wd2.drew.cell? ⟨q, 0, none⟩ = some (.int .i64 fr) := C0
          replace C1 : wd2.drew.cell? ⟨q, 1, none⟩ = some (.int .i64 th) := C1
          replace nT : w.heap.size < wd2.drew.heap.size := nT
          replace nC : q < wd2.drew.heap.size := nC
          replace HO := Lib.hid HO.out.drew
          generalize hWd : wd2.drew = wd4 at hHeld hL T0 T1 C0 C1 nT nC HO ⊢
          clear hWd
          refine take_slot (i := 0) (d := 17) (v := ?_) rfl rfl (by kernel_rfl) (by kernel_rfl) (by kernel_rfl) (fun _ _ _ h => h) (Or.inl ⟨by rfl, ?_⟩) (by assumption) ?_
          rotate_left 1
          focus (intro wS hSw; (try dsimp only at hSw); go_simp; try with_reducible rfl)
          try simp only [List.setIfInBounds_toArray, List.set_cons_zero, List.set_cons_succ]
          refine take_slot (i := 1) (d := 18) (v := ?_) rfl rfl (by kernel_rfl) (by kernel_rfl) (by kernel_rfl) (fun _ _ _ h => h) (Or.inl ⟨by rfl, ?_⟩) (by assumption) ?_
          rotate_left 1
          focus (intro wS hSw; (try dsimp only at hSw); go_simp; try with_reducible rfl)
          try simp only [List.setIfInBounds_toArray, List.set_cons_zero, List.set_cons_succ]
          refine take_slot (i := 2) (d := 19) (v := ?_) rfl rfl (by kernel_rfl) (by kernel_rfl) (by kernel_rfl) (fun _ _ _ h => h) (Or.inl ⟨by rfl, ?_⟩) (by assumption) ?_
          rotate_left 1
          focus (intro wS hSw; (try dsimp only at hSw); go_simp; try with_reducible rfl)
          try simp only [List.setIfInBounds_toArray, List.set_cons_zero, List.set_cons_succ]
          refine take_slot (i := 3) (d := 20) (v := ?_) rfl rfl (by kernel_rfl) (by kernel_rfl) (by kernel_rfl) (fun _ _ _ h => h) (Or.inl ⟨by rfl, ?_⟩) (by assumption) ?_
          rotate_left 1
          focus (intro wS hSw; (try dsimp only at hSw); go_simp; try with_reducible rfl)
          try simp only [List.setIfInBounds_toArray, List.set_cons_zero, List.set_cons_succ]
          refine take_slot (i := 4) (d := 21) (v := ?_) rfl rfl (by kernel_rfl) (by kernel_rfl) (by kernel_rfl) (fun _ _ _ h => h) (Or.inl ⟨by rfl, ?_⟩) (by assumption) ?_
          rotate_left 1
          focus (intro wS hSw; (try dsimp only at hSw); go_simp; try with_reducible rfl)
          try simp only [List.setIfInBounds_toArray, List.set_cons_zero, List.set_cons_succ]
          refine take_slot (i := 5) (d := 22) (v := ?_) rfl rfl (by kernel_rfl) (by kernel_rfl) (by kernel_rfl) (fun _ _ _ h => h) (Or.inl ⟨by rfl, ?_⟩) (by assumption) ?_
          rotate_left 1
          focus (intro wS hSw; (try dsimp only at hSw); go_simp; try with_reducible rfl)
          try simp only [List.setIfInBounds_toArray, List.set_cons_zero, List.set_cons_succ]
          refine take_slot (i := 6) (d := 23) (v := ?_) rfl rfl (by kernel_rfl) (by kernel_rfl) (by kernel_rfl) (fun _ _ _ h => h) (Or.inl ⟨by rfl, ?_⟩) (by assumption) ?_
          rotate_left 1
          focus (intro wS hSw; (try dsimp only at hSw); go_simp; try with_reducible rfl)
          try simp only [List.setIfInBounds_toArray, List.set_cons_zero, List.set_cons_succ]
          refine take_slot (i := 7) (d := 24) (v := ?_) rfl rfl (by kernel_rfl) (by kernel_rfl) (by kernel_rfl) (fun _ _ _ h => h) (Or.inl ⟨by rfl, ?_⟩) (by assumption) ?_
          rotate_left 1
          focus (intro wS hSw; (try dsimp only at hSw); go_simp; try with_reducible rfl)
          try simp only [List.setIfInBounds_toArray, List.set_cons_zero, List.set_cons_succ]
          refine take_slot (i := 8) (d := 25) (v := ?_) rfl rfl (by kernel_rfl) (by kernel_rfl) (by kernel_rfl) (fun _ _ _ h => h) (Or.inl ⟨by rfl, ?_⟩) (by assumption) ?_
          rotate_left 1
          focus (intro wS hSw; (try dsimp only at hSw); go_simp; try with_reducible rfl)
          try simp only [List.setIfInBounds_toArray, List.set_cons_zero, List.set_cons_succ]
          refine take_slot (i := 9) (d := 26) (v := undef) rfl rfl (by kernel_rfl) (by kernel_rfl) (by kernel_rfl) (fun _ _ _ h => h) (Or.inr ⟨by rfl, rfl⟩) (by assumption) ?_
          try simp only [List.setIfInBounds_toArray, List.set_cons_zero, List.set_cons_succ]
          refine take_slot (i := 10) (d := 27) (v := undef) rfl rfl (by kernel_rfl) (by kernel_rfl) (by kernel_rfl) (fun _ _ _ h => h) (Or.inr ⟨by rfl, rfl⟩) (by assumption) ?_
          try simp only [List.setIfInBounds_toArray, List.set_cons_zero, List.set_cons_succ]
          refine take_slot (i := 11) (d := 28) (v := undef) rfl rfl (by kernel_rfl) (by kernel_rfl) (by kernel_rfl) (fun _ _ _ h => h) (Or.inr ⟨by rfl, rfl⟩) (by assumption) ?_
          try simp only [List.setIfInBounds_toArray, List.set_cons_zero, List.set_cons_succ]
          refine take_slot (i := 12) (d := 29) (v := undef) rfl rfl (by kernel_rfl) (by kernel_rfl) (by kernel_rfl) (fun _ _ _ h => h) (Or.inr ⟨by rfl, rfl⟩) (by assumption) ?_
          try simp only [List.setIfInBounds_toArray, List.set_cons_zero, List.set_cons_succ]
          refine take_slot (i := 13) (d := 30) (v := undef) rfl rfl (by kernel_rfl) (by kernel_rfl) (by kernel_rfl) (fun _ _ _ h => h) (Or.inr ⟨by rfl, rfl⟩) (by assumption) ?_
          try simp only [List.setIfInBounds_toArray, List.set_cons_zero, List.set_cons_succ]
          refine take_slot (i := 14) (d := 31) (v := undef) rfl rfl (by kernel_rfl) (by kernel_rfl) (by kernel_rfl) (fun _ _ _ h => h) (Or.inr ⟨by rfl, rfl⟩) (by assumption) ?_
          try simp only [List.setIfInBounds_toArray, List.set_cons_zero, List.set_cons_succ]
          refine take_slot (i := 15) (d := 32) (v := undef) rfl rfl (by kernel_rfl) (by kernel_rfl) (by kernel_rfl) (fun _ _ _ h => h) (Or.inr ⟨by rfl, rfl⟩) (by assumption) ?_
          try simp only [List.setIfInBounds_toArray, List.set_cons_zero, List.set_cons_succ]
          refine take_slot (i := 16) (d := 33) (v := undef) rfl rfl (by kernel_rfl) (by kernel_rfl) (by kernel_rfl) (fun _ _ _ h => h) (Or.inr ⟨by rfl, rfl⟩) (by assumption) ?_
          try simp only [List.setIfInBounds_toArray, List.set_cons_zero, List.set_cons_succ]
          refine take_slot (i := 17) (d := 34) (v := ?_) rfl rfl (by kernel_rfl) (by kernel_rfl) (by kernel_rfl) (fun _ _ _ h => h) (Or.inl ⟨by rfl, ?_⟩) (by assumption) ?_
          rotate_left 1
          focus (intro wS hSw; (try dsimp only at hSw); go_simp; try with_reducible rfl)
          try simp only [List.setIfInBounds_toArray, List.set_cons_zero, List.set_cons_succ]
          refine wpAnyH_done (by kernel_rfl) ?_ _
          replace hB := hB.trans (hL.mono hB.size)
          clear hHeld hL hBW
          go_wp2_with fail
          have hBW : wd4.heap.size ≤ wd4.heap.size := Nat.le_refl _
          refine wp_region_held_drew (S := fun w' => w'.cell? ⟨w.heap.size, 0, none⟩ = some (.int .i64 a) ∧ w'.cell? ⟨w.heap.size, 1, none⟩ = some (.int .i64 b) ∧ w'.cell? ⟨q, 0, none⟩ = some (.int .i64 fr) ∧ w'.cell? ⟨q, 1, none⟩ = some (.int .i64 th) ∧ True) (by kernel_rfl) ?_ (fun hHeld => ?_)
          focus (exact ⟨T0, T1, C0, C1, trivial⟩)
          have hL : Below wd4.heap.size wd4 wd4.drew := Below.drew (Below.refl _ _)
          replace T0 : wd4.drew.cell? ⟨w.heap.size, 0, none⟩ = some (.int .i64 a) := T0
          replace T1 : wd4.drew.cell? ⟨w.heap.size, 1, none⟩ = some (.int .i64 b) := T1
          replace C0 : wd4.drew.cell? ⟨q, 0, none⟩ = some (.int .i64 fr) := C0
          replace C1 : wd4.drew.cell? ⟨q, 1, none⟩ = some (.int .i64 th) := C1
          replace nT : w.heap.size < wd4.drew.heap.size := nT
          replace nC : q < wd4.drew.heap.size := nC
          replace HO := Lib.hid HO.out.drew
          generalize hWd : wd4.drew = wd6 at hHeld hL T0 T1 C0 C1 nT nC HO ⊢
          clear hWd
          refine take_slot (i := 0) (d := 38) (v := ?_) rfl rfl (by kernel_rfl) (by kernel_rfl) (by kernel_rfl) (fun _ _ _ h => h) (Or.inl ⟨by rfl, ?_⟩) (by assumption) ?_
          rotate_left 1
          focus (intro wS hSw; (try dsimp only at hSw); go_simp; try with_reducible rfl)
          try simp only [List.setIfInBounds_toArray, List.set_cons_zero, List.set_cons_succ]
          refine take_slot (i := 1) (d := 39) (v := ?_) rfl rfl (by kernel_rfl) (by kernel_rfl) (by kernel_rfl) (fun _ _ _ h => h) (Or.inl ⟨by rfl, ?_⟩) (by assumption) ?_
          rotate_left 1
          focus (intro wS hSw; (try dsimp only at hSw); go_simp; try with_reducible rfl)
          try simp only [List.setIfInBounds_toArray, List.set_cons_zero, List.set_cons_succ]
          refine take_slot (i := 2) (d := 40) (v := ?_) rfl rfl (by kernel_rfl) (by kernel_rfl) (by kernel_rfl) (fun _ _ _ h => h) (Or.inl ⟨by rfl, ?_⟩) (by assumption) ?_
          rotate_left 1
          focus (intro wS hSw; (try dsimp only at hSw); go_simp; try with_reducible rfl)
          try simp only [List.setIfInBounds_toArray, List.set_cons_zero, List.set_cons_succ]
          refine take_slot (i := 3) (d := 41) (v := ?_) rfl rfl (by kernel_rfl) (by kernel_rfl) (by kernel_rfl) (fun _ _ _ h => h) (Or.inl ⟨by rfl, ?_⟩) (by assumption) ?_
          rotate_left 1
          focus (intro wS hSw; (try dsimp only at hSw); go_simp; try with_reducible rfl)
          try simp only [List.setIfInBounds_toArray, List.set_cons_zero, List.set_cons_succ]
          refine take_slot (i := 4) (d := 42) (v := ?_) rfl rfl (by kernel_rfl) (by kernel_rfl) (by kernel_rfl) (fun _ _ _ h => h) (Or.inl ⟨by rfl, ?_⟩) (by assumption) ?_
          rotate_left 1
          focus (intro wS hSw; (try dsimp only at hSw); go_simp; try with_reducible rfl)
          try simp only [List.setIfInBounds_toArray, List.set_cons_zero, List.set_cons_succ]
          refine take_slot (i := 5) (d := 43) (v := ?_) rfl rfl (by kernel_rfl) (by kernel_rfl) (by kernel_rfl) (fun _ _ _ h => h) (Or.inl ⟨by rfl, ?_⟩) (by assumption) ?_
          rotate_left 1
          focus (intro wS hSw; (try dsimp only at hSw); go_simp; try with_reducible rfl)
          try simp only [List.setIfInBounds_toArray, List.set_cons_zero, List.set_cons_succ]
          refine take_slot (i := 6) (d := 44) (v := ?_) rfl rfl (by kernel_rfl) (by kernel_rfl) (by kernel_rfl) (fun _ _ _ h => h) (Or.inl ⟨by rfl, ?_⟩) (by assumption) ?_
          rotate_left 1
          focus (intro wS hSw; (try dsimp only at hSw); go_simp; try with_reducible rfl)
          try simp only [List.setIfInBounds_toArray, List.set_cons_zero, List.set_cons_succ]
          refine take_slot (i := 7) (d := 45) (v := ?_) rfl rfl (by kernel_rfl) (by kernel_rfl) (by kernel_rfl) (fun _ _ _ h => h) (Or.inl ⟨by rfl, ?_⟩) (by assumption) ?_
          rotate_left 1
          focus (intro wS hSw; (try dsimp only at hSw); go_simp; try with_reducible rfl)
          try simp only [List.setIfInBounds_toArray, List.set_cons_zero, List.set_cons_succ]
          refine wpAnyH_done (by kernel_rfl) ?_ _
          replace hB := hB.trans (hL.mono hB.size)
          clear hHeld hL hBW
          go_wp2_with (at_builtin; refine wpList_append_own_at _ rfl (.tmp 46) (.tmp 47) 60 rfl (w.heap.size + 1) 65 i0 (.int .i64 0) 1 8 Try.underlying60 hi0 hiz0 hiz1 hiz2 rfl (by decide) (.slice none 0 0) 0 (intsV []) rfl (World.ownsRow.alloc HO.out _) ⟨wd6.heap.size, 0, none⟩ 1 1 [.int .i64 3] rfl rfl ?_ ?_ ?_ ?_ ?_ ?_)
          case refine_6 =>
            intro V1 Y1 hown' hgrow _ hat
            have hb : Below (w.heap.size + 1) wd6 Y1 := ((Below.refl _ _).alloc nT _).grown hgrow (by simp; omega) (fun j hj => (World.ownsRow.lt HO.out j hj).1)
            replace T0 := cell_next hb (by omega) T0
            replace T1 := cell_next hb (by omega) T1
            replace C0 := cell_next hb (by omega) C0
            replace C1 := cell_next hb (by omega) C1
            replace hB := hB.trans (hb.mono (by omega))
            have hsz := hb.size
            replace nT : w.heap.size < Y1.heap.size := by omega
            replace nC : q < Y1.heap.size := by omega
            replace HO : Hid (Y1.ownsRow (w.heap.size + 1) 65 1 V1 (0 + 1) (intsV ([] ++ [3]))) := Lib.hid (by rw [intsV_append]; exact hown')
            clear hown' hgrow hat hb hsz
            go_wp2_with fail
            go_ret
            exact ⟨_, rfl, ns_own HO.out rfl, hB⟩
          all_goals first
            | (intro j u hj; rcases j with _ | j <;> simp at hj <;> subst hj <;> exact (cell_at _ _ _ _ _ (by simp)))
            | (simp [Value.oneCell']; done)
            | (unfold maxLen; omega)
            | omega
            | (simp; omega)
    · cases p3
      · cases p4
        · exact absurd (g4 rfl) (by decide)
        · exact absurd (g2 rfl) (by decide)
      · cases p4
        · clear g1 g2 g3 g4
          go_enter Try.func47, Try.ntmps47
          go_wp2_with fail
          have T0 : (w.alloc (Obj.cells #[.int .i64 a, .int .i64 b] 31)).cell? ⟨w.heap.size, 0, none⟩ = some (.int .i64 a) := cell_new _ _ _ 0
          have T1 : (w.alloc (Obj.cells #[.int .i64 a, .int .i64 b] 31)).cell? ⟨w.heap.size, 1, none⟩ = some (.int .i64 b) := cell_new _ _ _ 1
          have nT : w.heap.size < (w.alloc (Obj.cells #[.int .i64 a, .int .i64 b] 31)).heap.size := by simp
          have hB : Below w.heap.size w (w.alloc (Obj.cells #[.int .i64 a, .int .i64 b] 31)) := (Below.refl _ _).alloc (Nat.le_refl _) _
          replace C0 := cell_next hB nC C0
          replace C1 := cell_next hB nC C1
          have nq := nC
          replace nC := Nat.lt_of_lt_of_le nC hB.size
          have HO : Hid ((w.alloc (Obj.cells #[.int .i64 a, .int .i64 b] 31)).ownsRow (w.heap.size + 1) 65 1 (.slice none 0 0) 0 (intsV [])) := Lib.hid (World.ownsRow_nil _ _ _ _)
          generalize w.alloc (Obj.cells #[.int .i64 a, .int .i64 b] 31) = X1 at *
          have hBW : X1.heap.size ≤ X1.heap.size := Nat.le_refl _
          refine wp_region_held_drew (S := fun w' => w'.cell? ⟨w.heap.size, 0, none⟩ = some (.int .i64 a) ∧ w'.cell? ⟨w.heap.size, 1, none⟩ = some (.int .i64 b) ∧ w'.cell? ⟨q, 0, none⟩ = some (.int .i64 fr) ∧ w'.cell? ⟨q, 1, none⟩ = some (.int .i64 th) ∧ True) (by kernel_rfl) ?_ (fun hHeld => ?_)
          focus (exact ⟨T0, T1, C0, C1, trivial⟩)
          have hL : Below X1.heap.size X1 X1.drew := Below.drew (Below.refl _ _)
          replace T0 : X1.drew.cell? ⟨w.heap.size, 0, none⟩ = some (.int .i64 a) := T0
          replace T1 : X1.drew.cell? ⟨w.heap.size, 1, none⟩ = some (.int .i64 b) := T1
          replace C0 : X1.drew.cell? ⟨q, 0, none⟩ = some (.int .i64 fr) := C0
          replace C1 : X1.drew.cell? ⟨q, 1, none⟩ = some (.int .i64 th) := C1
          replace nT : w.heap.size < X1.drew.heap.size := nT
          replace nC : q < X1.drew.heap.size := nC
          replace HO := Lib.hid HO.out.drew
          generalize hWd : X1.drew = wd2 at hHeld hL T0 T1 C0 C1 nT nC HO ⊢
          clear hWd
          refine take_slot (i := 0) (d := 6) (v := ?_) rfl rfl (by kernel_rfl) (by kernel_rfl) (by kernel_rfl) (fun _ _ _ h => h) (Or.inl ⟨by rfl, ?_⟩) (by assumption) ?_
          rotate_left 1
          focus (intro wS hSw; (try dsimp only at hSw); go_simp; try with_reducible rfl)
          try simp only [List.setIfInBounds_toArray, List.set_cons_zero, List.set_cons_succ]
          refine take_slot (i := 1) (d := 7) (v := ?_) rfl rfl (by kernel_rfl) (by kernel_rfl) (by kernel_rfl) (fun _ _ _ h => h) (Or.inl ⟨by rfl, ?_⟩) (by assumption) ?_
          rotate_left 1
          focus (intro wS hSw; (try dsimp only at hSw); go_simp; try with_reducible rfl)
          try simp only [List.setIfInBounds_toArray, List.set_cons_zero, List.set_cons_succ]
          refine take_slot (i := 2) (d := 8) (v := ?_) rfl rfl (by kernel_rfl) (by kernel_rfl) (by kernel_rfl) (fun _ _ _ h => h) (Or.inl ⟨by rfl, ?_⟩) (by assumption) ?_
          rotate_left 1
          focus (intro wS hSw; (try dsimp only at hSw); go_simp; try with_reducible rfl)
          try simp only [List.setIfInBounds_toArray, List.set_cons_zero, List.set_cons_succ]
          refine take_slot (i := 3) (d := 9) (v := ?_) rfl rfl (by kernel_rfl) (by kernel_rfl) (by kernel_rfl) (fun _ _ _ h => h) (Or.inl ⟨by rfl, ?_⟩) (by assumption) ?_
          rotate_left 1
          focus (intro wS hSw; (try dsimp only at hSw); go_simp; try with_reducible rfl)
          try simp only [List.setIfInBounds_toArray, List.set_cons_zero, List.set_cons_succ]
          refine take_slot (i := 4) (d := 10) (v := ?_) rfl rfl (by kernel_rfl) (by kernel_rfl) (by kernel_rfl) (fun _ _ _ h => h) (Or.inl ⟨by rfl, ?_⟩) (by assumption) ?_
          rotate_left 1
          focus (intro wS hSw; (try dsimp only at hSw); go_simp; try with_reducible rfl)
          try simp only [List.setIfInBounds_toArray, List.set_cons_zero, List.set_cons_succ]
          refine take_slot (i := 5) (d := 11) (v := ?_) rfl rfl (by kernel_rfl) (by kernel_rfl) (by kernel_rfl) (fun _ _ _ h => h) (Or.inl ⟨by rfl, ?_⟩) (by assumption) ?_
          rotate_left 1
          focus (intro wS hSw; (try dsimp only at hSw); go_simp; try with_reducible rfl)
          try simp only [List.setIfInBounds_toArray, List.set_cons_zero, List.set_cons_succ]
          refine take_slot (i := 6) (d := 12) (v := ?_) rfl rfl (by kernel_rfl) (by kernel_rfl) (by kernel_rfl) (fun _ _ _ h => h) (Or.inl ⟨by rfl, ?_⟩) (by assumption) ?_
          rotate_left 1
          focus (intro wS hSw; (try dsimp only at hSw); go_simp; try with_reducible rfl)
          try simp only [List.setIfInBounds_toArray, List.set_cons_zero, List.set_cons_succ]
          refine take_slot (i := 7) (d := 13) (v := ?_) rfl rfl (by kernel_rfl) (by kernel_rfl) (by kernel_rfl) (fun _ _ _ h => h) (Or.inl ⟨by rfl, ?_⟩) (by assumption) ?_
          rotate_left 1
          focus (intro wS hSw; (try dsimp only at hSw); go_simp; try with_reducible rfl)
          try simp only [List.setIfInBounds_toArray, List.set_cons_zero, List.set_cons_succ]
          refine wpAnyH_done (by kernel_rfl) ?_ _
          replace hB := hB.trans (hL.mono hB.size)
          clear hHeld hL hBW
          go_wp2_with fail
          have hBW : wd2.heap.size ≤ wd2.heap.size := Nat.le_refl _
          refine wp_region_held_drew (S := fun w' => w'.cell? ⟨w.heap.size, 0, none⟩ = some (.int .i64 a) ∧ w'.cell? ⟨w.heap.size, 1, none⟩ = some (.int .i64 b) ∧ w'.cell? ⟨q, 0, none⟩ = some (.int .i64 fr) ∧ w'.cell? ⟨q, 1, none⟩ = some (.int .i64 th) ∧ True) (by kernel_rfl) ?_ (fun hHeld => ?_)
          focus (exact ⟨T0, T1, C0, C1, trivial⟩)
          have hL : Below wd2.heap.size wd2 wd2.drew := Below.drew (Below.refl _ _)
          replace T0 : wd2.drew.cell? ⟨w.heap.size, 0, none⟩ = some (.int .i64 a) := T0
          replace T1 : wd2.drew.cell? ⟨w.heap.size, 1, none⟩ = some (.int .i64 b) := T1
          replace C0 : wd2.drew.cell? ⟨q, 0, none⟩ = some (.int .i64 fr) := C0
          replace C1 : wd2.drew.cell? ⟨q, 1, none⟩ = some (.int .i64 th) := C1
          replace nT : w.heap.size < wd2.drew.heap.size := nT
          replace nC : q < wd2.drew.heap.size := nC
          replace HO := Lib.hid HO.out.drew
          generalize hWd : wd2.drew = wd4 at hHeld hL T0 T1 C0 C1 nT nC HO ⊢
          clear hWd
          refine take_slot (i := 0) (d := 17) (v := ?_) rfl rfl (by kernel_rfl) (by kernel_rfl) (by kernel_rfl) (fun _ _ _ h => h) (Or.inl ⟨by rfl, ?_⟩) (by assumption) ?_
          rotate_left 1
          focus (intro wS hSw; (try dsimp only at hSw); go_simp; try with_reducible rfl)
          try simp only [List.setIfInBounds_toArray, List.set_cons_zero, List.set_cons_succ]
          refine take_slot (i := 1) (d := 18) (v := ?_) rfl rfl (by kernel_rfl) (by kernel_rfl) (by kernel_rfl) (fun _ _ _ h => h) (Or.inl ⟨by rfl, ?_⟩) (by assumption) ?_
          rotate_left 1
          focus (intro wS hSw; (try dsimp only at hSw); go_simp; try with_reducible rfl)
          try simp only [List.setIfInBounds_toArray, List.set_cons_zero, List.set_cons_succ]
          refine take_slot (i := 2) (d := 19) (v := ?_) rfl rfl (by kernel_rfl) (by kernel_rfl) (by kernel_rfl) (fun _ _ _ h => h) (Or.inl ⟨by rfl, ?_⟩) (by assumption) ?_
          rotate_left 1
          focus (intro wS hSw; (try dsimp only at hSw); go_simp; try with_reducible rfl)
          try simp only [List.setIfInBounds_toArray, List.set_cons_zero, List.set_cons_succ]
          refine take_slot (i := 3) (d := 20) (v := ?_) rfl rfl (by kernel_rfl) (by kernel_rfl) (by kernel_rfl) (fun _ _ _ h => h) (Or.inl ⟨by rfl, ?_⟩) (by assumption) ?_
          rotate_left 1
          focus (intro wS hSw; (try dsimp only at hSw); go_simp; try with_reducible rfl)
          try simp only [List.setIfInBounds_toArray, List.set_cons_zero, List.set_cons_succ]
          refine take_slot (i := 4) (d := 21) (v := ?_) rfl rfl (by kernel_rfl) (by kernel_rfl) (by kernel_rfl) (fun _ _ _ h => h) (Or.inl ⟨by rfl, ?_⟩) (by assumption) ?_
          rotate_left 1
          focus (intro wS hSw; (try dsimp only at hSw); go_simp; try with_reducible rfl)
          try simp only [List.setIfInBounds_toArray, List.set_cons_zero, List.set_cons_succ]
          refine take_slot (i := 5) (d := 22) (v := ?_) rfl rfl (by kernel_rfl) (by kernel_rfl) (by kernel_rfl) (fun _ _ _ h => h) (Or.inl ⟨by rfl, ?_⟩) (by assumption) ?_
          rotate_left 1
          focus (intro wS hSw; (try dsimp only at hSw); go_simp; try with_reducible rfl)
          try simp only [List.setIfInBounds_toArray, List.set_cons_zero, List.set_cons_succ]
          refine take_slot (i := 6) (d := 23) (v := ?_) rfl rfl (by kernel_rfl) (by kernel_rfl) (by kernel_rfl) (fun _ _ _ h => h) (Or.inl ⟨by rfl, ?_⟩) (by assumption) ?_
          rotate_left 1
          focus (intro wS hSw; (try dsimp only at hSw); go_simp; try with_reducible rfl)
          try simp only [List.setIfInBounds_toArray, List.set_cons_zero, List.set_cons_succ]
          refine take_slot (i := 7) (d := 24) (v := ?_) rfl rfl (by kernel_rfl) (by kernel_rfl) (by kernel_rfl) (fun _ _ _ h => h) (Or.inl ⟨by rfl, ?_⟩) (by assumption) ?_
          rotate_left 1
          focus (intro wS hSw; (try dsimp only at hSw); go_simp; try with_reducible rfl)
          try simp only [List.setIfInBounds_toArray, List.set_cons_zero, List.set_cons_succ]
          refine take_slot (i := 8) (d := 25) (v := ?_) rfl rfl (by kernel_rfl) (by kernel_rfl) (by kernel_rfl) (fun _ _ _ h => h) (Or.inl ⟨by rfl, ?_⟩) (by assumption) ?_
          rotate_left 1
          focus (intro wS hSw; (try dsimp only at hSw); go_simp; try with_reducible rfl)
          try simp only [List.setIfInBounds_toArray, List.set_cons_zero, List.set_cons_succ]
          refine take_slot (i := 9) (d := 26) (v := ?_) rfl rfl (by kernel_rfl) (by kernel_rfl) (by kernel_rfl) (fun _ _ _ h => h) (Or.inl ⟨by rfl, ?_⟩) (by assumption) ?_
          rotate_left 1
          focus (intro wS hSw; (try dsimp only at hSw); go_simp; try with_reducible rfl)
          try simp only [List.setIfInBounds_toArray, List.set_cons_zero, List.set_cons_succ]
          refine take_slot (i := 10) (d := 27) (v := ?_) rfl rfl (by kernel_rfl) (by kernel_rfl) (by kernel_rfl) (fun _ _ _ h => h) (Or.inl ⟨by rfl, ?_⟩) (by assumption) ?_
          rotate_left 1
          focus (intro wS hSw; (try dsimp only at hSw); go_simp; try with_reducible rfl)
          try simp only [List.setIfInBounds_toArray, List.set_cons_zero, List.set_cons_succ]
          refine take_slot (i := 11) (d := 28) (v := ?_) rfl rfl (by kernel_rfl) (by kernel_rfl) (by kernel_rfl) (fun _ _ _ h => h) (Or.inl ⟨by rfl, ?_⟩) (by assumption) ?_
          rotate_left 1
          focus (intro wS hSw; (try dsimp only at hSw); go_simp; try with_reducible rfl)
          try simp only [List.setIfInBounds_toArray, List.set_cons_zero, List.set_cons_succ]
          refine take_slot (i := 12) (d := 29) (v := ?_) rfl rfl (by kernel_rfl) (by kernel_rfl) (by kernel_rfl) (fun _ _ _ h => h) (Or.inl ⟨by rfl, ?_⟩) (by assumption) ?_
          rotate_left 1
          focus (intro wS hSw; (try dsimp only at hSw); go_simp; try with_reducible rfl)
          try simp only [List.setIfInBounds_toArray, List.set_cons_zero, List.set_cons_succ]
          refine take_slot (i := 13) (d := 30) (v := ?_) rfl rfl (by kernel_rfl) (by kernel_rfl) (by kernel_rfl) (fun _ _ _ h => h) (Or.inl ⟨by rfl, ?_⟩) (by assumption) ?_
          rotate_left 1
          focus (intro wS hSw; (try dsimp only at hSw); go_simp; try with_reducible rfl)
          try simp only [List.setIfInBounds_toArray, List.set_cons_zero, List.set_cons_succ]
          refine take_slot (i := 14) (d := 31) (v := ?_) rfl rfl (by kernel_rfl) (by kernel_rfl) (by kernel_rfl) (fun _ _ _ h => h) (Or.inl ⟨by rfl, ?_⟩) (by assumption) ?_
          rotate_left 1
          focus (intro wS hSw; (try dsimp only at hSw); go_simp; try with_reducible rfl)
          try simp only [List.setIfInBounds_toArray, List.set_cons_zero, List.set_cons_succ]
          refine take_slot (i := 15) (d := 32) (v := ?_) rfl rfl (by kernel_rfl) (by kernel_rfl) (by kernel_rfl) (fun _ _ _ h => h) (Or.inl ⟨by rfl, ?_⟩) (by assumption) ?_
          rotate_left 1
          focus (intro wS hSw; (try dsimp only at hSw); go_simp; try with_reducible rfl)
          try simp only [List.setIfInBounds_toArray, List.set_cons_zero, List.set_cons_succ]
          refine take_slot (i := 16) (d := 33) (v := ?_) rfl rfl (by kernel_rfl) (by kernel_rfl) (by kernel_rfl) (fun _ _ _ h => h) (Or.inl ⟨by rfl, ?_⟩) (by assumption) ?_
          rotate_left 1
          focus (intro wS hSw; (try dsimp only at hSw); go_simp; try with_reducible rfl)
          try simp only [List.setIfInBounds_toArray, List.set_cons_zero, List.set_cons_succ]
          refine take_slot (i := 17) (d := 34) (v := ?_) rfl rfl (by kernel_rfl) (by kernel_rfl) (by kernel_rfl) (fun _ _ _ h => h) (Or.inl ⟨by rfl, ?_⟩) (by assumption) ?_
          rotate_left 1
          focus (intro wS hSw; (try dsimp only at hSw); go_simp; try with_reducible rfl)
          try simp only [List.setIfInBounds_toArray, List.set_cons_zero, List.set_cons_succ]
          refine wpAnyH_done (by kernel_rfl) ?_ _
          replace hB := hB.trans (hL.mono hB.size)
          clear hHeld hL hBW
          go_wp2_with (at_builtin; refine wpList_append_own_at _ rfl (.tmp 35) (.tmp 36) 60 rfl (w.heap.size + 1) 65 i0 (.int .i64 0) 1 8 Try.underlying60 hi0 hiz0 hiz1 hiz2 rfl (by decide) (.slice none 0 0) 0 (intsV []) rfl (World.ownsRow.alloc HO.out _) ⟨wd4.heap.size, 0, none⟩ 1 1 [.int .i64 2] rfl rfl ?_ ?_ ?_ ?_ ?_ ?_)
          case refine_6 =>
            intro V1 Y1 hown' hgrow _ hat
            have hb : Below (w.heap.size + 1) wd4 Y1 := ((Below.refl _ _).alloc nT _).grown hgrow (by simp; omega) (fun j hj => (World.ownsRow.lt HO.out j hj).1)
            replace T0 := cell_next hb (by omega) T0
            replace T1 := cell_next hb (by omega) T1
            replace C0 := cell_next hb (by omega) C0
            replace C1 := cell_next hb (by omega) C1
            replace hB := hB.trans (hb.mono (by omega))
            have hsz := hb.size
            replace nT : w.heap.size < Y1.heap.size := by omega
            replace nC : q < Y1.heap.size := by omega
            replace HO : Hid (Y1.ownsRow (w.heap.size + 1) 65 1 V1 (0 + 1) (intsV ([] ++ [2]))) := Lib.hid (by rw [intsV_append]; exact hown')
            clear hown' hgrow hat hb hsz
            go_wp2_with fail
            have hBW : Y1.heap.size ≤ Y1.heap.size := Nat.le_refl _
            refine wp_region_held_drew (S := fun w' => w'.cell? ⟨w.heap.size, 0, none⟩ = some (.int .i64 a) ∧ w'.cell? ⟨w.heap.size, 1, none⟩ = some (.int .i64 b) ∧ w'.cell? ⟨q, 0, none⟩ = some (.int .i64 fr) ∧ w'.cell? ⟨q, 1, none⟩ = some (.int .i64 th) ∧ True) (by kernel_rfl) ?_ (fun hHeld => ?_)
            focus (exact ⟨T0, T1, C0, C1, trivial⟩)
            have hL : Below Y1.heap.size Y1 Y1.drew := Below.drew (Below.refl _ _)
            replace T0 : Y1.drew.cell? ⟨w.heap.size, 0, none⟩ = some (.int .i64 a) := T0
            replace T1 : Y1.drew.cell? ⟨w.heap.size, 1, none⟩ = some (.int .i64 b) := T1
            replace C0 : Y1.drew.cell? ⟨q, 0, none⟩ = some (.int .i64 fr) := C0
            replace C1 : Y1.drew.cell? ⟨q, 1, none⟩ = some (.int .i64 th) := C1
            replace nT : w.heap.size < Y1.drew.heap.size := nT
            replace nC : q < Y1.drew.heap.size := nC
            replace HO := Lib.hid HO.out.drew
            generalize hWd : Y1.drew = wd6 at hHeld hL T0 T1 C0 C1 nT nC HO ⊢
            clear hWd
            refine take_slot (i := 0) (d := 38) (v := ?_) rfl rfl (by kernel_rfl) (by kernel_rfl) (by kernel_rfl) (fun _ _ _ h => h) (Or.inl ⟨by rfl, ?_⟩) (by assumption) ?_
            rotate_left 1
            focus (intro wS hSw; (try dsimp only at hSw); go_simp; try with_reducible rfl)
            try simp only [List.setIfInBounds_toArray, List.set_cons_zero, List.set_cons_succ]
            refine take_slot (i := 1) (d := 39) (v := ?_) rfl rfl (by kernel_rfl) (by kernel_rfl) (by kernel_rfl) (fun _ _ _ h => h) (Or.inl ⟨by rfl, ?_⟩) (by assumption) ?_
            rotate_left 1
            focus (intro wS hSw; (try dsimp only at hSw); go_simp; try with_reducible rfl)
            try simp only [List.setIfInBounds_toArray, List.set_cons_zero, List.set_cons_succ]
            refine take_slot (i := 2) (d := 40) (v := ?_) rfl rfl (by kernel_rfl) (by kernel_rfl) (by kernel_rfl) (fun _ _ _ h => h) (Or.inl ⟨by rfl, ?_⟩) (by assumption) ?_
            rotate_left 1
            focus (intro wS hSw; (try dsimp only at hSw); go_simp; try with_reducible rfl)
            try simp only [List.setIfInBounds_toArray, List.set_cons_zero, List.set_cons_succ]
            refine take_slot (i := 3) (d := 41) (v := ?_) rfl rfl (by kernel_rfl) (by kernel_rfl) (by kernel_rfl) (fun _ _ _ h => h) (Or.inl ⟨by rfl, ?_⟩) (by assumption) ?_
            rotate_left 1
            focus (intro wS hSw; (try dsimp only at hSw); go_simp; try with_reducible rfl)
            try simp only [List.setIfInBounds_toArray, List.set_cons_zero, List.set_cons_succ]
            refine take_slot (i := 4) (d := 42) (v := ?_) rfl rfl (by kernel_rfl) (by kernel_rfl) (by kernel_rfl) (fun _ _ _ h => h) (Or.inl ⟨by rfl, ?_⟩) (by assumption) ?_
            rotate_left 1
            focus (intro wS hSw; (try dsimp only at hSw); go_simp; try with_reducible rfl)
            try simp only [List.setIfInBounds_toArray, List.set_cons_zero, List.set_cons_succ]
            refine take_slot (i := 5) (d := 43) (v := ?_) rfl rfl (by kernel_rfl) (by kernel_rfl) (by kernel_rfl) (fun _ _ _ h => h) (Or.inl ⟨by rfl, ?_⟩) (by assumption) ?_
            rotate_left 1
            focus (intro wS hSw; (try dsimp only at hSw); go_simp; try with_reducible rfl)
            try simp only [List.setIfInBounds_toArray, List.set_cons_zero, List.set_cons_succ]
            refine take_slot (i := 6) (d := 44) (v := ?_) rfl rfl (by kernel_rfl) (by kernel_rfl) (by kernel_rfl) (fun _ _ _ h => h) (Or.inl ⟨by rfl, ?_⟩) (by assumption) ?_
            rotate_left 1
            focus (intro wS hSw; (try dsimp only at hSw); go_simp; try with_reducible rfl)
            try simp only [List.setIfInBounds_toArray, List.set_cons_zero, List.set_cons_succ]
            refine take_slot (i := 7) (d := 45) (v := ?_) rfl rfl (by kernel_rfl) (by kernel_rfl) (by kernel_rfl) (fun _ _ _ h => h) (Or.inl ⟨by rfl, ?_⟩) (by assumption) ?_
            rotate_left 1
            focus (intro wS hSw; (try dsimp only at hSw); go_simp; try with_reducible rfl)
            try simp only [List.setIfInBounds_toArray, List.set_cons_zero, List.set_cons_succ]
            refine wpAnyH_done (by kernel_rfl) ?_ _
            replace hB := hB.trans (hL.mono hB.size)
            clear hHeld hL hBW
            go_wp2_with fail
            go_ret
            exact ⟨_, rfl, ns_own HO.out rfl, hB⟩
          all_goals first
            | (intro j u hj; rcases j with _ | j <;> simp at hj <;> subst hj <;> exact (cell_at _ _ _ _ _ (by simp)))
            | (simp [Value.oneCell']; done)
            | (unfold maxLen; omega)
            | omega
            | (simp; omega)
        · clear g1 g2 g3 g4
          go_enter Try.func47, Try.ntmps47
          go_wp2_with fail
          have T0 : (w.alloc (Obj.cells #[.int .i64 a, .int .i64 b] 31)).cell? ⟨w.heap.size, 0, none⟩ = some (.int .i64 a) := cell_new _ _ _ 0
          have T1 : (w.alloc (Obj.cells #[.int .i64 a, .int .i64 b] 31)).cell? ⟨w.heap.size, 1, none⟩ = some (.int .i64 b) := cell_new _ _ _ 1
          have nT : w.heap.size < (w.alloc (Obj.cells #[.int .i64 a, .int .i64 b] 31)).heap.size := by simp
          have hB : Below w.heap.size w (w.alloc (Obj.cells #[.int .i64 a, .int .i64 b] 31)) := (Below.refl _ _).alloc (Nat.le_refl _) _
          replace C0 := cell_next hB nC C0
          replace C1 := cell_next hB nC C1
          have nq := nC
          replace nC := Nat.lt_of_lt_of_le nC hB.size
          have HO : Hid ((w.alloc (Obj.cells #[.int .i64 a, .int .i64 b] 31)).ownsRow (w.heap.size + 1) 65 1 (.slice none 0 0) 0 (intsV [])) := Lib.hid (World.ownsRow_nil _ _ _ _)
          generalize w.alloc (Obj.cells #[.int .i64 a, .int .i64 b] 31) = X1 at *
          have hBW : X1.heap.size ≤ X1.heap.size := Nat.le_refl _
          refine wp_region_held_drew (S := fun w' => w'.cell? ⟨w.heap.size, 0, none⟩ = some (.int .i64 a) ∧ w'.cell? ⟨w.heap.size, 1, none⟩ = some (.int .i64 b) ∧ w'.cell? ⟨q, 0, none⟩ = some (.int .i64 fr) ∧ w'.cell? ⟨q, 1, none⟩ = some (.int .i64 th) ∧ True) (by kernel_rfl) ?_ (fun hHeld => ?_)
          focus (exact ⟨T0, T1, C0, C1, trivial⟩)
          have hL : Below X1.heap.size X1 X1.drew := Below.drew (Below.refl _ _)
          replace T0 : X1.drew.cell? ⟨w.heap.size, 0, none⟩ = some (.int .i64 a) := T0
          replace T1 : X1.drew.cell? ⟨w.heap.size, 1, none⟩ = some (.int .i64 b) := T1
          replace C0 : X1.drew.cell? ⟨q, 0, none⟩ = some (.int .i64 fr) := C0
          replace C1 : X1.drew.cell? ⟨q, 1, none⟩ = some (.int .i64 th) := C1
          replace nT : w.heap.size < X1.drew.heap.size := nT
          replace nC : q < X1.drew.heap.size := nC
          replace HO := Lib.hid HO.out.drew
          generalize hWd : X1.drew = wd2 at hHeld hL T0 T1 C0 C1 nT nC HO ⊢
          clear hWd
          refine take_slot (i := 0) (d := 6) (v := ?_) rfl rfl (by kernel_rfl) (by kernel_rfl) (by kernel_rfl) (fun _ _ _ h => h) (Or.inl ⟨by rfl, ?_⟩) (by assumption) ?_
          rotate_left 1
          focus (intro wS hSw; (try dsimp only at hSw); go_simp; try with_reducible rfl)
          try simp only [List.setIfInBounds_toArray, List.set_cons_zero, List.set_cons_succ]
          refine take_slot (i := 1) (d := 7) (v := ?_) rfl rfl (by kernel_rfl) (by kernel_rfl) (by kernel_rfl) (fun _ _ _ h => h) (Or.inl ⟨by rfl, ?_⟩) (by assumption) ?_
          rotate_left 1
          focus (intro wS hSw; (try dsimp only at hSw); go_simp; try with_reducible rfl)
          try simp only [List.setIfInBounds_toArray, List.set_cons_zero, List.set_cons_succ]
          refine take_slot (i := 2) (d := 8) (v := ?_) rfl rfl (by kernel_rfl) (by kernel_rfl) (by kernel_rfl) (fun _ _ _ h => h) (Or.inl ⟨by rfl, ?_⟩) (by assumption) ?_
          rotate_left 1
          focus (intro wS hSw; (try dsimp only at hSw); go_simp; try with_reducible rfl)
          try simp only [List.setIfInBounds_toArray, List.set_cons_zero, List.set_cons_succ]
          refine take_slot (i := 3) (d := 9) (v := ?_) rfl rfl (by kernel_rfl) (by kernel_rfl) (by kernel_rfl) (fun _ _ _ h => h) (Or.inl ⟨by rfl, ?_⟩) (by assumption) ?_
          rotate_left 1
          focus (intro wS hSw; (try dsimp only at hSw); go_simp; try with_reducible rfl)
          try simp only [List.setIfInBounds_toArray, List.set_cons_zero, List.set_cons_succ]
          refine take_slot (i := 4) (d := 10) (v := ?_) rfl rfl (by kernel_rfl) (by kernel_rfl) (by kernel_rfl) (fun _ _ _ h => h) (Or.inl ⟨by rfl, ?_⟩) (by assumption) ?_
          rotate_left 1
          focus (intro wS hSw; (try dsimp only at hSw); go_simp; try with_reducible rfl)
          try simp only [List.setIfInBounds_toArray, List.set_cons_zero, List.set_cons_succ]
          refine take_slot (i := 5) (d := 11) (v := ?_) rfl rfl (by kernel_rfl) (by kernel_rfl) (by kernel_rfl) (fun _ _ _ h => h) (Or.inl ⟨by rfl, ?_⟩) (by assumption) ?_
          rotate_left 1
          focus (intro wS hSw; (try dsimp only at hSw); go_simp; try with_reducible rfl)
          try simp only [List.setIfInBounds_toArray, List.set_cons_zero, List.set_cons_succ]
          refine take_slot (i := 6) (d := 12) (v := ?_) rfl rfl (by kernel_rfl) (by kernel_rfl) (by kernel_rfl) (fun _ _ _ h => h) (Or.inl ⟨by rfl, ?_⟩) (by assumption) ?_
          rotate_left 1
          focus (intro wS hSw; (try dsimp only at hSw); go_simp; try with_reducible rfl)
          try simp only [List.setIfInBounds_toArray, List.set_cons_zero, List.set_cons_succ]
          refine take_slot (i := 7) (d := 13) (v := ?_) rfl rfl (by kernel_rfl) (by kernel_rfl) (by kernel_rfl) (fun _ _ _ h => h) (Or.inl ⟨by rfl, ?_⟩) (by assumption) ?_
          rotate_left 1
          focus (intro wS hSw; (try dsimp only at hSw); go_simp; try with_reducible rfl)
          try simp only [List.setIfInBounds_toArray, List.set_cons_zero, List.set_cons_succ]
          refine wpAnyH_done (by kernel_rfl) ?_ _
          replace hB := hB.trans (hL.mono hB.size)
          clear hHeld hL hBW
          go_wp2_with fail
          have hBW : wd2.heap.size ≤ wd2.heap.size := Nat.le_refl _
          refine wp_region_held_drew (S := fun w' => w'.cell? ⟨w.heap.size, 0, none⟩ = some (.int .i64 a) ∧ w'.cell? ⟨w.heap.size, 1, none⟩ = some (.int .i64 b) ∧ w'.cell? ⟨q, 0, none⟩ = some (.int .i64 fr) ∧ w'.cell? ⟨q, 1, none⟩ = some (.int .i64 th) ∧ True) (by kernel_rfl) ?_ (fun hHeld => ?_)
          focus (exact ⟨T0, T1, C0, C1, trivial⟩)
          have hL : Below wd2.heap.size wd2 wd2.drew := Below.drew (Below.refl _ _)
          replace T0 : wd2.drew.cell? ⟨w.heap.size, 0, none⟩ = some (.int .i64 a) := T0
          replace T1 : wd2.drew.cell? ⟨w.heap.size, 1, none⟩ = some (.int .i64 b) := T1
          replace C0 : wd2.drew.cell? ⟨q, 0, none⟩ = some (.int .i64 fr) := C0
          replace C1 : wd2.drew.cell? ⟨q, 1, none⟩ = some (.int .i64 th) := C1
          replace nT : w.heap.size < wd2.drew.heap.size := nT
          replace nC : q < wd2.drew.heap.size := nC
          replace HO := Lib.hid HO.out.drew
          generalize hWd : wd2.drew = wd4 at hHeld hL T0 T1 C0 C1 nT nC HO ⊢
          clear hWd
          refine take_slot (i := 0) (d := 17) (v := ?_) rfl rfl (by kernel_rfl) (by kernel_rfl) (by kernel_rfl) (fun _ _ _ h => h) (Or.inl ⟨by rfl, ?_⟩) (by assumption) ?_
          rotate_left 1
          focus (intro wS hSw; (try dsimp only at hSw); go_simp; try with_reducible rfl)
          try simp only [List.setIfInBounds_toArray, List.set_cons_zero, List.set_cons_succ]
          refine take_slot (i := 1) (d := 18) (v := ?_) rfl rfl (by kernel_rfl) (by kernel_rfl) (by kernel_rfl) (fun _ _ _ h => h) (Or.inl ⟨by rfl, ?_⟩) (by assumption) ?_
          rotate_left 1
          focus (intro wS hSw; (try dsimp only at hSw); go_simp; try with_reducible rfl)
          try simp only [List.setIfInBounds_toArray, List.set_cons_zero, List.set_cons_succ]
          refine take_slot (i := 2) (d := 19) (v := ?_) rfl rfl (by kernel_rfl) (by kernel_rfl) (by kernel_rfl) (fun _ _ _ h => h) (Or.inl ⟨by rfl, ?_⟩) (by assumption) ?_
          rotate_left 1
          focus (intro wS hSw; (try dsimp only at hSw); go_simp; try with_reducible rfl)
          try simp only [List.setIfInBounds_toArray, List.set_cons_zero, List.set_cons_succ]
          refine take_slot (i := 3) (d := 20) (v := ?_) rfl rfl (by kernel_rfl) (by kernel_rfl) (by kernel_rfl) (fun _ _ _ h => h) (Or.inl ⟨by rfl, ?_⟩) (by assumption) ?_
          rotate_left 1
          focus (intro wS hSw; (try dsimp only at hSw); go_simp; try with_reducible rfl)
          try simp only [List.setIfInBounds_toArray, List.set_cons_zero, List.set_cons_succ]
          refine take_slot (i := 4) (d := 21) (v := ?_) rfl rfl (by kernel_rfl) (by kernel_rfl) (by kernel_rfl) (fun _ _ _ h => h) (Or.inl ⟨by rfl, ?_⟩) (by assumption) ?_
          rotate_left 1
          focus (intro wS hSw; (try dsimp only at hSw); go_simp; try with_reducible rfl)
          try simp only [List.setIfInBounds_toArray, List.set_cons_zero, List.set_cons_succ]
          refine take_slot (i := 5) (d := 22) (v := ?_) rfl rfl (by kernel_rfl) (by kernel_rfl) (by kernel_rfl) (fun _ _ _ h => h) (Or.inl ⟨by rfl, ?_⟩) (by assumption) ?_
          rotate_left 1
          focus (intro wS hSw; (try dsimp only at hSw); go_simp; try with_reducible rfl)
          try simp only [List.setIfInBounds_toArray, List.set_cons_zero, List.set_cons_succ]
          refine take_slot (i := 6) (d := 23) (v := ?_) rfl rfl (by kernel_rfl) (by kernel_rfl) (by kernel_rfl) (fun _ _ _ h => h) (Or.inl ⟨by rfl, ?_⟩) (by assumption) ?_
          rotate_left 1
          focus (intro wS hSw; (try dsimp only at hSw); go_simp; try with_reducible rfl)
          try simp only [List.setIfInBounds_toArray, List.set_cons_zero, List.set_cons_succ]
          refine take_slot (i := 7) (d := 24) (v := ?_) rfl rfl (by kernel_rfl) (by kernel_rfl) (by kernel_rfl) (fun _ _ _ h => h) (Or.inl ⟨by rfl, ?_⟩) (by assumption) ?_
          rotate_left 1
          focus (intro wS hSw; (try dsimp only at hSw); go_simp; try with_reducible rfl)
          try simp only [List.setIfInBounds_toArray, List.set_cons_zero, List.set_cons_succ]
          refine take_slot (i := 8) (d := 25) (v := ?_) rfl rfl (by kernel_rfl) (by kernel_rfl) (by kernel_rfl) (fun _ _ _ h => h) (Or.inl ⟨by rfl, ?_⟩) (by assumption) ?_
          rotate_left 1
          focus (intro wS hSw; (try dsimp only at hSw); go_simp; try with_reducible rfl)
          try simp only [List.setIfInBounds_toArray, List.set_cons_zero, List.set_cons_succ]
          refine take_slot (i := 9) (d := 26) (v := ?_) rfl rfl (by kernel_rfl) (by kernel_rfl) (by kernel_rfl) (fun _ _ _ h => h) (Or.inl ⟨by rfl, ?_⟩) (by assumption) ?_
          rotate_left 1
          focus (intro wS hSw; (try dsimp only at hSw); go_simp; try with_reducible rfl)
          try simp only [List.setIfInBounds_toArray, List.set_cons_zero, List.set_cons_succ]
          refine take_slot (i := 10) (d := 27) (v := ?_) rfl rfl (by kernel_rfl) (by kernel_rfl) (by kernel_rfl) (fun _ _ _ h => h) (Or.inl ⟨by rfl, ?_⟩) (by assumption) ?_
          rotate_left 1
          focus (intro wS hSw; (try dsimp only at hSw); go_simp; try with_reducible rfl)
          try simp only [List.setIfInBounds_toArray, List.set_cons_zero, List.set_cons_succ]
          refine take_slot (i := 11) (d := 28) (v := ?_) rfl rfl (by kernel_rfl) (by kernel_rfl) (by kernel_rfl) (fun _ _ _ h => h) (Or.inl ⟨by rfl, ?_⟩) (by assumption) ?_
          rotate_left 1
          focus (intro wS hSw; (try dsimp only at hSw); go_simp; try with_reducible rfl)
          try simp only [List.setIfInBounds_toArray, List.set_cons_zero, List.set_cons_succ]
          refine take_slot (i := 12) (d := 29) (v := ?_) rfl rfl (by kernel_rfl) (by kernel_rfl) (by kernel_rfl) (fun _ _ _ h => h) (Or.inl ⟨by rfl, ?_⟩) (by assumption) ?_
          rotate_left 1
          focus (intro wS hSw; (try dsimp only at hSw); go_simp; try with_reducible rfl)
          try simp only [List.setIfInBounds_toArray, List.set_cons_zero, List.set_cons_succ]
          refine take_slot (i := 13) (d := 30) (v := ?_) rfl rfl (by kernel_rfl) (by kernel_rfl) (by kernel_rfl) (fun _ _ _ h => h) (Or.inl ⟨by rfl, ?_⟩) (by assumption) ?_
          rotate_left 1
          focus (intro wS hSw; (try dsimp only at hSw); go_simp; try with_reducible rfl)
          try simp only [List.setIfInBounds_toArray, List.set_cons_zero, List.set_cons_succ]
          refine take_slot (i := 14) (d := 31) (v := ?_) rfl rfl (by kernel_rfl) (by kernel_rfl) (by kernel_rfl) (fun _ _ _ h => h) (Or.inl ⟨by rfl, ?_⟩) (by assumption) ?_
          rotate_left 1
          focus (intro wS hSw; (try dsimp only at hSw); go_simp; try with_reducible rfl)
          try simp only [List.setIfInBounds_toArray, List.set_cons_zero, List.set_cons_succ]
          refine take_slot (i := 15) (d := 32) (v := ?_) rfl rfl (by kernel_rfl) (by kernel_rfl) (by kernel_rfl) (fun _ _ _ h => h) (Or.inl ⟨by rfl, ?_⟩) (by assumption) ?_
          rotate_left 1
          focus (intro wS hSw; (try dsimp only at hSw); go_simp; try with_reducible rfl)
          try simp only [List.setIfInBounds_toArray, List.set_cons_zero, List.set_cons_succ]
          refine take_slot (i := 16) (d := 33) (v := ?_) rfl rfl (by kernel_rfl) (by kernel_rfl) (by kernel_rfl) (fun _ _ _ h => h) (Or.inl ⟨by rfl, ?_⟩) (by assumption) ?_
          rotate_left 1
          focus (intro wS hSw; (try dsimp only at hSw); go_simp; try with_reducible rfl)
          try simp only [List.setIfInBounds_toArray, List.set_cons_zero, List.set_cons_succ]
          refine take_slot (i := 17) (d := 34) (v := ?_) rfl rfl (by kernel_rfl) (by kernel_rfl) (by kernel_rfl) (fun _ _ _ h => h) (Or.inl ⟨by rfl, ?_⟩) (by assumption) ?_
          rotate_left 1
          focus (intro wS hSw; (try dsimp only at hSw); go_simp; try with_reducible rfl)
          try simp only [List.setIfInBounds_toArray, List.set_cons_zero, List.set_cons_succ]
          refine wpAnyH_done (by kernel_rfl) ?_ _
          replace hB := hB.trans (hL.mono hB.size)
          clear hHeld hL hBW
          go_wp2_with (at_builtin; refine wpList_append_own_at _ rfl (.tmp 35) (.tmp 36) 60 rfl (w.heap.size + 1) 65 i0 (.int .i64 0) 1 8 Try.underlying60 hi0 hiz0 hiz1 hiz2 rfl (by decide) (.slice none 0 0) 0 (intsV []) rfl (World.ownsRow.alloc HO.out _) ⟨wd4.heap.size, 0, none⟩ 1 1 [.int .i64 2] rfl rfl ?_ ?_ ?_ ?_ ?_ ?_)
          case refine_6 =>
            intro V1 Y1 hown' hgrow _ hat
            have hb : Below (w.heap.size + 1) wd4 Y1 := ((Below.refl _ _).alloc nT _).grown hgrow (by simp; omega) (fun j hj => (World.ownsRow.lt HO.out j hj).1)
            replace T0 := cell_next hb (by omega) T0
            replace T1 := cell_next hb (by omega) T1
            replace C0 := cell_next hb (by omega) C0
            replace C1 := cell_next hb (by omega) C1
            replace hB := hB.trans (hb.mono (by omega))
            have hsz := hb.size
            replace nT : w.heap.size < Y1.heap.size := by omega
            replace nC : q < Y1.heap.size := by omega
            replace HO : Hid (Y1.ownsRow (w.heap.size + 1) 65 1 V1 (0 + 1) (intsV ([] ++ [2]))) := Lib.hid (by rw [intsV_append]; exact hown')
            clear hown' hgrow hat hb hsz
            go_wp2_with fail
            have hBW : Y1.heap.size ≤ Y1.heap.size := Nat.le_refl _
            refine wp_region_held_drew (S := fun w' => w'.cell? ⟨w.heap.size, 0, none⟩ = some (.int .i64 a) ∧ w'.cell? ⟨w.heap.size, 1, none⟩ = some (.int .i64 b) ∧ w'.cell? ⟨q, 0, none⟩ = some (.int .i64 fr) ∧ w'.cell? ⟨q, 1, none⟩ = some (.int .i64 th) ∧ True) (by kernel_rfl) ?_ (fun hHeld => ?_)
            focus (exact ⟨T0, T1, C0, C1, trivial⟩)
            have hL : Below Y1.heap.size Y1 Y1.drew := Below.drew (Below.refl _ _)
            replace T0 : Y1.drew.cell? ⟨w.heap.size, 0, none⟩ = some (.int .i64 a) := T0
            replace T1 : Y1.drew.cell? ⟨w.heap.size, 1, none⟩ = some (.int .i64 b) := T1
            replace C0 : Y1.drew.cell? ⟨q, 0, none⟩ = some (.int .i64 fr) := C0
            replace C1 : Y1.drew.cell? ⟨q, 1, none⟩ = some (.int .i64 th) := C1
            replace nT : w.heap.size < Y1.drew.heap.size := nT
            replace nC : q < Y1.drew.heap.size := nC
            replace HO := Lib.hid HO.out.drew
            generalize hWd : Y1.drew = wd6 at hHeld hL T0 T1 C0 C1 nT nC HO ⊢
            clear hWd
            refine take_slot (i := 0) (d := 38) (v := ?_) rfl rfl (by kernel_rfl) (by kernel_rfl) (by kernel_rfl) (fun _ _ _ h => h) (Or.inl ⟨by rfl, ?_⟩) (by assumption) ?_
            rotate_left 1
            focus (intro wS hSw; (try dsimp only at hSw); go_simp; try with_reducible rfl)
            try simp only [List.setIfInBounds_toArray, List.set_cons_zero, List.set_cons_succ]
            refine take_slot (i := 1) (d := 39) (v := ?_) rfl rfl (by kernel_rfl) (by kernel_rfl) (by kernel_rfl) (fun _ _ _ h => h) (Or.inl ⟨by rfl, ?_⟩) (by assumption) ?_
            rotate_left 1
            focus (intro wS hSw; (try dsimp only at hSw); go_simp; try with_reducible rfl)
            try simp only [List.setIfInBounds_toArray, List.set_cons_zero, List.set_cons_succ]
            refine take_slot (i := 2) (d := 40) (v := ?_) rfl rfl (by kernel_rfl) (by kernel_rfl) (by kernel_rfl) (fun _ _ _ h => h) (Or.inl ⟨by rfl, ?_⟩) (by assumption) ?_
            rotate_left 1
            focus (intro wS hSw; (try dsimp only at hSw); go_simp; try with_reducible rfl)
            try simp only [List.setIfInBounds_toArray, List.set_cons_zero, List.set_cons_succ]
            refine take_slot (i := 3) (d := 41) (v := ?_) rfl rfl (by kernel_rfl) (by kernel_rfl) (by kernel_rfl) (fun _ _ _ h => h) (Or.inl ⟨by rfl, ?_⟩) (by assumption) ?_
            rotate_left 1
            focus (intro wS hSw; (try dsimp only at hSw); go_simp; try with_reducible rfl)
            try simp only [List.setIfInBounds_toArray, List.set_cons_zero, List.set_cons_succ]
            refine take_slot (i := 4) (d := 42) (v := ?_) rfl rfl (by kernel_rfl) (by kernel_rfl) (by kernel_rfl) (fun _ _ _ h => h) (Or.inl ⟨by rfl, ?_⟩) (by assumption) ?_
            rotate_left 1
            focus (intro wS hSw; (try dsimp only at hSw); go_simp; try with_reducible rfl)
            try simp only [List.setIfInBounds_toArray, List.set_cons_zero, List.set_cons_succ]
            refine take_slot (i := 5) (d := 43) (v := ?_) rfl rfl (by kernel_rfl) (by kernel_rfl) (by kernel_rfl) (fun _ _ _ h => h) (Or.inl ⟨by rfl, ?_⟩) (by assumption) ?_
            rotate_left 1
            focus (intro wS hSw; (try dsimp only at hSw); go_simp; try with_reducible rfl)
            try simp only [List.setIfInBounds_toArray, List.set_cons_zero, List.set_cons_succ]
            refine take_slot (i := 6) (d := 44) (v := ?_) rfl rfl (by kernel_rfl) (by kernel_rfl) (by kernel_rfl) (fun _ _ _ h => h) (Or.inl ⟨by rfl, ?_⟩) (by assumption) ?_
            rotate_left 1
            focus (intro wS hSw; (try dsimp only at hSw); go_simp; try with_reducible rfl)
            try simp only [List.setIfInBounds_toArray, List.set_cons_zero, List.set_cons_succ]
            refine take_slot (i := 7) (d := 45) (v := ?_) rfl rfl (by kernel_rfl) (by kernel_rfl) (by kernel_rfl) (fun _ _ _ h => h) (Or.inl ⟨by rfl, ?_⟩) (by assumption) ?_
            rotate_left 1
            focus (intro wS hSw; (try dsimp only at hSw); go_simp; try with_reducible rfl)
            try simp only [List.setIfInBounds_toArray, List.set_cons_zero, List.set_cons_succ]
            refine wpAnyH_done (by kernel_rfl) ?_ _
            replace hB := hB.trans (hL.mono hB.size)
            clear hHeld hL hBW
            go_wp2_with (at_builtin; refine wpList_append_own_at _ rfl (.tmp 46) (.tmp 47) 60 rfl (w.heap.size + 1) 65 i0 (.int .i64 0) 1 8 Try.underlying60 hi0 hiz0 hiz1 hiz2 rfl (by decide) V1 (0 + 1) (intsV ([] ++ [2])) rfl (World.ownsRow.alloc HO.out _) ⟨wd6.heap.size, 0, none⟩ 1 1 [.int .i64 3] rfl rfl ?_ ?_ ?_ ?_ ?_ ?_)
            case refine_6 =>
              intro V2 Y2 hown' hgrow _ hat
              have hb : Below (w.heap.size + 1) wd6 Y2 := ((Below.refl _ _).alloc nT _).grown hgrow (by simp; omega) (fun j hj => (World.ownsRow.lt HO.out j hj).1)
              replace T0 := cell_next hb (by omega) T0
              replace T1 := cell_next hb (by omega) T1
              replace C0 := cell_next hb (by omega) C0
              replace C1 := cell_next hb (by omega) C1
              replace hB := hB.trans (hb.mono (by omega))
              have hsz := hb.size
              replace nT : w.heap.size < Y2.heap.size := by omega
              replace nC : q < Y2.heap.size := by omega
              replace HO : Hid (Y2.ownsRow (w.heap.size + 1) 65 1 V2 ((0 + 1) + 1) (intsV (([] ++ [2]) ++ [3]))) := Lib.hid (by rw [intsV_append]; exact hown')
              clear hown' hgrow hat hb hsz
              go_wp2_with fail
              go_ret
              exact ⟨_, rfl, ns_own HO.out rfl, hB⟩
            all_goals first
              | (intro j u hj; rcases j with _ | j <;> simp at hj <;> subst hj <;> exact (cell_at _ _ _ _ _ (by simp)))
              | (simp [Value.oneCell']; done)
              | (unfold maxLen; omega)
              | omega
              | (simp; omega)
          all_goals first
            | (intro j u hj; rcases j with _ | j <;> simp at hj <;> subst hj <;> exact (cell_at _ _ _ _ _ (by simp)))
            | (simp [Value.oneCell']; done)
            | (unfold maxLen; omega)
            | omega
            | (simp; omega)
  · cases p2
    · cases p3
      · cases p4
        · exact absurd (g1 rfl) (by decide)
        · exact absurd (g1 rfl) (by decide)
      · cases p4
        · exact absurd (g1 rfl) (by decide)
        · exact absurd (g1 rfl) (by decide)
    · cases p3
      · cases p4
        · clear g1 g2 g3 g4
          go_enter Try.func47, Try.ntmps47
          go_wp2_with fail
          have T0 : (w.alloc (Obj.cells #[.int .i64 a, .int .i64 b] 31)).cell? ⟨w.heap.size, 0, none⟩ = some (.int .i64 a) := cell_new _ _ _ 0
          have T1 : (w.alloc (Obj.cells #[.int .i64 a, .int .i64 b] 31)).cell? ⟨w.heap.size, 1, none⟩ = some (.int .i64 b) := cell_new _ _ _ 1
          have nT : w.heap.size < (w.alloc (Obj.cells #[.int .i64 a, .int .i64 b] 31)).heap.size := by simp
          have hB : Below w.heap.size w (w.alloc (Obj.cells #[.int .i64 a, .int .i64 b] 31)) := (Below.refl _ _).alloc (Nat.le_refl _) _
          replace C0 := cell_next hB nC C0
          replace C1 := cell_next hB nC C1
          have nq := nC
          replace nC := Nat.lt_of_lt_of_le nC hB.size
          have HO : Hid ((w.alloc (Obj.cells #[.int .i64 a, .int .i64 b] 31)).ownsRow (w.heap.size + 1) 65 1 (.slice none 0 0) 0 (intsV [])) := Lib.hid (World.ownsRow_nil _ _ _ _)
          generalize w.alloc (Obj.cells #[.int .i64 a, .int .i64 b] 31) = X1 at *
          have hBW : X1.heap.size ≤ X1.heap.size := Nat.le_refl _
          refine wp_region_held_drew (S := fun w' => w'.cell? ⟨w.heap.size, 0, none⟩ = some (.int .i64 a) ∧ w'.cell? ⟨w.heap.size, 1, none⟩ = some (.int .i64 b) ∧ w'.cell? ⟨q, 0, none⟩ = some (.int .i64 fr) ∧ w'.cell? ⟨q, 1, none⟩ = some (.int .i64 th) ∧ True) (by kernel_rfl) ?_ (fun hHeld => ?_)
          focus (exact ⟨T0, T1, C0, C1, trivial⟩)
          have hL : Below X1.heap.size X1 X1.drew := Below.drew (Below.refl _ _)
          replace T0 : X1.drew.cell? ⟨w.heap.size, 0, none⟩ = some (.int .i64 a) := T0
          replace T1 : X1.drew.cell? ⟨w.heap.size, 1, none⟩ = some (.int .i64 b) := T1
          replace C0 : X1.drew.cell? ⟨q, 0, none⟩ = some (.int .i64 fr) := C0
          replace C1 : X1.drew.cell? ⟨q, 1, none⟩ = some (.int .i64 th) := C1
          replace nT : w.heap.size < X1.drew.heap.size := nT
          replace nC : q < X1.drew.heap.size := nC
          replace HO := Lib.hid HO.out.drew
          generalize hWd : X1.drew = wd2 at hHeld hL T0 T1 C0 C1 nT nC HO ⊢
          clear hWd
          refine take_slot (i := 0) (d := 6) (v := ?_) rfl rfl (by kernel_rfl) (by kernel_rfl) (by kernel_rfl) (fun _ _ _ h => h) (Or.inl ⟨by rfl, ?_⟩) (by assumption) ?_
          rotate_left 1
          focus (intro wS hSw; (try dsimp only at hSw); go_simp; try with_reducible rfl)
          try simp only [List.setIfInBounds_toArray, List.set_cons_zero, List.set_cons_succ]
          refine take_slot (i := 1) (d := 7) (v := ?_) rfl rfl (by kernel_rfl) (by kernel_rfl) (by kernel_rfl) (fun _ _ _ h => h) (Or.inl ⟨by rfl, ?_⟩) (by assumption) ?_
          rotate_left 1
          focus (intro wS hSw; (try dsimp only at hSw); go_simp; try with_reducible rfl)
          try simp only [List.setIfInBounds_toArray, List.set_cons_zero, List.set_cons_succ]
          refine take_slot (i := 2) (d := 8) (v := ?_) rfl rfl (by kernel_rfl) (by kernel_rfl) (by kernel_rfl) (fun _ _ _ h => h) (Or.inl ⟨by rfl, ?_⟩) (by assumption) ?_
          rotate_left 1
          focus (intro wS hSw; (try dsimp only at hSw); go_simp; try with_reducible rfl)
          try simp only [List.setIfInBounds_toArray, List.set_cons_zero, List.set_cons_succ]
          refine take_slot (i := 3) (d := 9) (v := ?_) rfl rfl (by kernel_rfl) (by kernel_rfl) (by kernel_rfl) (fun _ _ _ h => h) (Or.inl ⟨by rfl, ?_⟩) (by assumption) ?_
          rotate_left 1
          focus (intro wS hSw; (try dsimp only at hSw); go_simp; try with_reducible rfl)
          try simp only [List.setIfInBounds_toArray, List.set_cons_zero, List.set_cons_succ]
          refine take_slot (i := 4) (d := 10) (v := ?_) rfl rfl (by kernel_rfl) (by kernel_rfl) (by kernel_rfl) (fun _ _ _ h => h) (Or.inl ⟨by rfl, ?_⟩) (by assumption) ?_
          rotate_left 1
          focus (intro wS hSw; (try dsimp only at hSw); go_simp; try with_reducible rfl)
          try simp only [List.setIfInBounds_toArray, List.set_cons_zero, List.set_cons_succ]
          refine take_slot (i := 5) (d := 11) (v := ?_) rfl rfl (by kernel_rfl) (by kernel_rfl) (by kernel_rfl) (fun _ _ _ h => h) (Or.inl ⟨by rfl, ?_⟩) (by assumption) ?_
          rotate_left 1
          focus (intro wS hSw; (try dsimp only at hSw); go_simp; try with_reducible rfl)
          try simp only [List.setIfInBounds_toArray, List.set_cons_zero, List.set_cons_succ]
          refine take_slot (i := 6) (d := 12) (v := ?_) rfl rfl (by kernel_rfl) (by kernel_rfl) (by kernel_rfl) (fun _ _ _ h => h) (Or.inl ⟨by rfl, ?_⟩) (by assumption) ?_
          rotate_left 1
          focus (intro wS hSw; (try dsimp only at hSw); go_simp; try with_reducible rfl)
          try simp only [List.setIfInBounds_toArray, List.set_cons_zero, List.set_cons_succ]
          refine take_slot (i := 7) (d := 13) (v := ?_) rfl rfl (by kernel_rfl) (by kernel_rfl) (by kernel_rfl) (fun _ _ _ h => h) (Or.inl ⟨by rfl, ?_⟩) (by assumption) ?_
          rotate_left 1
          focus (intro wS hSw; (try dsimp only at hSw); go_simp; try with_reducible rfl)
          try simp only [List.setIfInBounds_toArray, List.set_cons_zero, List.set_cons_succ]
          refine wpAnyH_done (by kernel_rfl) ?_ _
          replace hB := hB.trans (hL.mono hB.size)
          clear hHeld hL hBW
          go_wp2_with (at_builtin; refine wpList_append_own_at _ rfl (.tmp 14) (.tmp 15) 60 rfl (w.heap.size + 1) 65 i0 (.int .i64 0) 1 8 Try.underlying60 hi0 hiz0 hiz1 hiz2 rfl (by decide) (.slice none 0 0) 0 (intsV []) rfl (World.ownsRow.alloc HO.out _) ⟨wd2.heap.size, 0, none⟩ 1 1 [.int .i64 1] rfl rfl ?_ ?_ ?_ ?_ ?_ ?_)
          case refine_6 =>
            intro V1 Y1 hown' hgrow _ hat
            have hb : Below (w.heap.size + 1) wd2 Y1 := ((Below.refl _ _).alloc nT _).grown hgrow (by simp; omega) (fun j hj => (World.ownsRow.lt HO.out j hj).1)
            replace T0 := cell_next hb (by omega) T0
            replace T1 := cell_next hb (by omega) T1
            replace C0 := cell_next hb (by omega) C0
            replace C1 := cell_next hb (by omega) C1
            replace hB := hB.trans (hb.mono (by omega))
            have hsz := hb.size
            replace nT : w.heap.size < Y1.heap.size := by omega
            replace nC : q < Y1.heap.size := by omega
            replace HO : Hid (Y1.ownsRow (w.heap.size + 1) 65 1 V1 (0 + 1) (intsV ([] ++ [1]))) := Lib.hid (by rw [intsV_append]; exact hown')
            clear hown' hgrow hat hb hsz
            go_wp2_with fail
            have hBW : Y1.heap.size ≤ Y1.heap.size := Nat.le_refl _
            refine wp_region_held_drew (S := fun w' => w'.cell? ⟨w.heap.size, 0, none⟩ = some (.int .i64 a) ∧ w'.cell? ⟨w.heap.size, 1, none⟩ = some (.int .i64 b) ∧ w'.cell? ⟨q, 0, none⟩ = some (.int .i64 fr) ∧ w'.cell? ⟨q, 1, none⟩ = some (.int .i64 th) ∧ True) (by kernel_rfl) ?_ (fun hHeld => ?_)
            focus (exact ⟨T0, T1, C0, C1, trivial⟩)
            have hL : Below Y1.heap.size Y1 Y1.drew := Below.drew (Below.refl _ _)
            replace T0 : Y1.drew.cell? ⟨w.heap.size, 0, none⟩ = some (.int .i64 a) := T0
            replace T1 : Y1.drew.cell? ⟨w.heap.size, 1, none⟩ = some (.int .i64 b) := T1
            replace C0 : Y1.drew.cell? ⟨q, 0, none⟩ = some (.int .i64 fr) := C0
            replace C1 : Y1.drew.cell? ⟨q, 1, none⟩ = some (.int .i64 th) := C1
            replace nT : w.heap.size < Y1.drew.heap.size := nT
            replace nC : q < Y1.drew.heap.size := nC
            replace HO := Lib.hid HO.out.drew
            generalize hWd : Y1.drew = wd4 at hHeld hL T0 T1 C0 C1 nT nC HO ⊢
            clear hWd
            refine take_slot (i := 0) (d := 17) (v := ?_) rfl rfl (by kernel_rfl) (by kernel_rfl) (by kernel_rfl) (fun _ _ _ h => h) (Or.inl ⟨by rfl, ?_⟩) (by assumption) ?_
            rotate_left 1
            focus (intro wS hSw; (try dsimp only at hSw); go_simp; try with_reducible rfl)
            try simp only [List.setIfInBounds_toArray, List.set_cons_zero, List.set_cons_succ]
            refine take_slot (i := 1) (d := 18) (v := ?_) rfl rfl (by kernel_rfl) (by kernel_rfl) (by kernel_rfl) (fun _ _ _ h => h) (Or.inl ⟨by rfl, ?_⟩) (by assumption) ?_
            rotate_left 1
            focus (intro wS hSw; (try dsimp only at hSw); go_simp; try with_reducible rfl)
            try simp only [List.setIfInBounds_toArray, List.set_cons_zero, List.set_cons_succ]
            refine take_slot (i := 2) (d := 19) (v := ?_) rfl rfl (by kernel_rfl) (by kernel_rfl) (by kernel_rfl) (fun _ _ _ h => h) (Or.inl ⟨by rfl, ?_⟩) (by assumption) ?_
            rotate_left 1
            focus (intro wS hSw; (try dsimp only at hSw); go_simp; try with_reducible rfl)
            try simp only [List.setIfInBounds_toArray, List.set_cons_zero, List.set_cons_succ]
            refine take_slot (i := 3) (d := 20) (v := ?_) rfl rfl (by kernel_rfl) (by kernel_rfl) (by kernel_rfl) (fun _ _ _ h => h) (Or.inl ⟨by rfl, ?_⟩) (by assumption) ?_
            rotate_left 1
            focus (intro wS hSw; (try dsimp only at hSw); go_simp; try with_reducible rfl)
            try simp only [List.setIfInBounds_toArray, List.set_cons_zero, List.set_cons_succ]
            refine take_slot (i := 4) (d := 21) (v := ?_) rfl rfl (by kernel_rfl) (by kernel_rfl) (by kernel_rfl) (fun _ _ _ h => h) (Or.inl ⟨by rfl, ?_⟩) (by assumption) ?_
            rotate_left 1
            focus (intro wS hSw; (try dsimp only at hSw); go_simp; try with_reducible rfl)
            try simp only [List.setIfInBounds_toArray, List.set_cons_zero, List.set_cons_succ]
            refine take_slot (i := 5) (d := 22) (v := ?_) rfl rfl (by kernel_rfl) (by kernel_rfl) (by kernel_rfl) (fun _ _ _ h => h) (Or.inl ⟨by rfl, ?_⟩) (by assumption) ?_
            rotate_left 1
            focus (intro wS hSw; (try dsimp only at hSw); go_simp; try with_reducible rfl)
            try simp only [List.setIfInBounds_toArray, List.set_cons_zero, List.set_cons_succ]
            refine take_slot (i := 6) (d := 23) (v := ?_) rfl rfl (by kernel_rfl) (by kernel_rfl) (by kernel_rfl) (fun _ _ _ h => h) (Or.inl ⟨by rfl, ?_⟩) (by assumption) ?_
            rotate_left 1
            focus (intro wS hSw; (try dsimp only at hSw); go_simp; try with_reducible rfl)
            try simp only [List.setIfInBounds_toArray, List.set_cons_zero, List.set_cons_succ]
            refine take_slot (i := 7) (d := 24) (v := ?_) rfl rfl (by kernel_rfl) (by kernel_rfl) (by kernel_rfl) (fun _ _ _ h => h) (Or.inl ⟨by rfl, ?_⟩) (by assumption) ?_
            rotate_left 1
            focus (intro wS hSw; (try dsimp only at hSw); go_simp; try with_reducible rfl)
            try simp only [List.setIfInBounds_toArray, List.set_cons_zero, List.set_cons_succ]
            refine take_slot (i := 8) (d := 25) (v := ?_) rfl rfl (by kernel_rfl) (by kernel_rfl) (by kernel_rfl) (fun _ _ _ h => h) (Or.inl ⟨by rfl, ?_⟩) (by assumption) ?_
            rotate_left 1
            focus (intro wS hSw; (try dsimp only at hSw); go_simp; try with_reducible rfl)
            try simp only [List.setIfInBounds_toArray, List.set_cons_zero, List.set_cons_succ]
            refine take_slot (i := 9) (d := 26) (v := ?_) rfl rfl (by kernel_rfl) (by kernel_rfl) (by kernel_rfl) (fun _ _ _ h => h) (Or.inl ⟨by rfl, ?_⟩) (by assumption) ?_
            rotate_left 1
            focus (intro wS hSw; (try dsimp only at hSw); go_simp; try with_reducible rfl)
            try simp only [List.setIfInBounds_toArray, List.set_cons_zero, List.set_cons_succ]
            refine take_slot (i := 10) (d := 27) (v := ?_) rfl rfl (by kernel_rfl) (by kernel_rfl) (by kernel_rfl) (fun _ _ _ h => h) (Or.inl ⟨by rfl, ?_⟩) (by assumption) ?_
            rotate_left 1
            focus (intro wS hSw; (try dsimp only at hSw); go_simp; try with_reducible rfl)
            try simp only [List.setIfInBounds_toArray, List.set_cons_zero, List.set_cons_succ]
            refine take_slot (i := 11) (d := 28) (v := ?_) rfl rfl (by kernel_rfl) (by kernel_rfl) (by kernel_rfl) (fun _ _ _ h => h) (Or.inl ⟨by rfl, ?_⟩) (by assumption) ?_
            rotate_left 1
            focus (intro wS hSw; (try dsimp only at hSw); go_simp; try with_reducible rfl)
            try simp only [List.setIfInBounds_toArray, List.set_cons_zero, List.set_cons_succ]
            refine take_slot (i := 12) (d := 29) (v := ?_) rfl rfl (by kernel_rfl) (by kernel_rfl) (by kernel_rfl) (fun _ _ _ h => h) (Or.inl ⟨by rfl, ?_⟩) (by assumption) ?_
            rotate_left 1
            focus (intro wS hSw; (try dsimp only at hSw); go_simp; try with_reducible rfl)
            try simp only [List.setIfInBounds_toArray, List.set_cons_zero, List.set_cons_succ]
            refine take_slot (i := 13) (d := 30) (v := ?_) rfl rfl (by kernel_rfl) (by kernel_rfl) (by kernel_rfl) (fun _ _ _ h => h) (Or.inl ⟨by rfl, ?_⟩) (by assumption) ?_
            rotate_left 1
            focus (intro wS hSw; (try dsimp only at hSw); go_simp; try with_reducible rfl)
            try simp only [List.setIfInBounds_toArray, List.set_cons_zero, List.set_cons_succ]
            refine take_slot (i := 14) (d := 31) (v := ?_) rfl rfl (by kernel_rfl) (by kernel_rfl) (by kernel_rfl) (fun _ _ _ h => h) (Or.inl ⟨by rfl, ?_⟩) (by assumption) ?_
            rotate_left 1
            focus (intro wS hSw; (try dsimp only at hSw); go_simp; try with_reducible rfl)
            try simp only [List.setIfInBounds_toArray, List.set_cons_zero, List.set_cons_succ]
            refine take_slot (i := 15) (d := 32) (v := ?_) rfl rfl (by kernel_rfl) (by kernel_rfl) (by kernel_rfl) (fun _ _ _ h => h) (Or.inl ⟨by rfl, ?_⟩) (by assumption) ?_
            rotate_left 1
            focus (intro wS hSw; (try dsimp only at hSw); go_simp; try with_reducible rfl)
            try simp only [List.setIfInBounds_toArray, List.set_cons_zero, List.set_cons_succ]
            refine take_slot (i := 16) (d := 33) (v := ?_) rfl rfl (by kernel_rfl) (by kernel_rfl) (by kernel_rfl) (fun _ _ _ h => h) (Or.inl ⟨by rfl, ?_⟩) (by assumption) ?_
            rotate_left 1
            focus (intro wS hSw; (try dsimp only at hSw); go_simp; try with_reducible rfl)
            try simp only [List.setIfInBounds_toArray, List.set_cons_zero, List.set_cons_succ]
            refine take_slot (i := 17) (d := 34) (v := ?_) rfl rfl (by kernel_rfl) (by kernel_rfl) (by kernel_rfl) (fun _ _ _ h => h) (Or.inl ⟨by rfl, ?_⟩) (by assumption) ?_
            rotate_left 1
            focus (intro wS hSw; (try dsimp only at hSw); go_simp; try with_reducible rfl)
            try simp only [List.setIfInBounds_toArray, List.set_cons_zero, List.set_cons_succ]
            refine wpAnyH_done (by kernel_rfl) ?_ _
            replace hB := hB.trans (hL.mono hB.size)
            clear hHeld hL hBW
            go_wp2_with fail
            have hBW : wd4.heap.size ≤ wd4.heap.size := Nat.le_refl _
            refine wp_region_held_drew (S := fun w' => w'.cell? ⟨w.heap.size, 0, none⟩ = some (.int .i64 a) ∧ w'.cell? ⟨w.heap.size, 1, none⟩ = some (.int .i64 b) ∧ w'.cell? ⟨q, 0, none⟩ = some (.int .i64 fr) ∧ w'.cell? ⟨q, 1, none⟩ = some (.int .i64 th) ∧ True) (by kernel_rfl) ?_ (fun hHeld => ?_)
            focus (exact ⟨T0, T1, C0, C1, trivial⟩)
            have hL : Below wd4.heap.size wd4 wd4.drew := Below.drew (Below.refl _ _)
            replace T0 : wd4.drew.cell? ⟨w.heap.size, 0, none⟩ = some (.int .i64 a) := T0
            replace T1 : wd4.drew.cell? ⟨w.heap.size, 1, none⟩ = some (.int .i64 b) := T1
            replace C0 : wd4.drew.cell? ⟨q, 0, none⟩ = some (.int .i64 fr) := C0
            replace C1 : wd4.drew.cell? ⟨q, 1, none⟩ = some (.int .i64 th) := C1
            replace nT : w.heap.size < wd4.drew.heap.size := nT
            replace nC : q < wd4.drew.heap.size := nC
            replace HO := Lib.hid HO.out.drew
            generalize hWd : wd4.drew = wd6 at hHeld hL T0 T1 C0 C1 nT nC HO ⊢
            clear hWd
            refine take_slot (i := 0) (d := 38) (v := ?_) rfl rfl (by kernel_rfl) (by kernel_rfl) (by kernel_rfl) (fun _ _ _ h => h) (Or.inl ⟨by rfl, ?_⟩) (by assumption) ?_
            rotate_left 1
            focus (intro wS hSw; (try dsimp only at hSw); go_simp; try with_reducible rfl)
            try simp only [List.setIfInBounds_toArray, List.set_cons_zero, List.set_cons_succ]
            refine take_slot (i := 1) (d := 39) (v := ?_) rfl rfl (by kernel_rfl) (by kernel_rfl) (by kernel_rfl) (fun _ _ _ h => h) (Or.inl ⟨by rfl, ?_⟩) (by assumption) ?_
            rotate_left 1
            focus (intro wS hSw; (try dsimp only at hSw); go_simp; try with_reducible rfl)
            try simp only [List.setIfInBounds_toArray, List.set_cons_zero, List.set_cons_succ]
            refine take_slot (i := 2) (d := 40) (v := ?_) rfl rfl (by kernel_rfl) (by kernel_rfl) (by kernel_rfl) (fun _ _ _ h => h) (Or.inl ⟨by rfl, ?_⟩) (by assumption) ?_
            rotate_left 1
            focus (intro wS hSw; (try dsimp only at hSw); go_simp; try with_reducible rfl)
            try simp only [List.setIfInBounds_toArray, List.set_cons_zero, List.set_cons_succ]
            refine take_slot (i := 3) (d := 41) (v := ?_) rfl rfl (by kernel_rfl) (by kernel_rfl) (by kernel_rfl) (fun _ _ _ h => h) (Or.inl ⟨by rfl, ?_⟩) (by assumption) ?_
            rotate_left 1
            focus (intro wS hSw; (try dsimp only at hSw); go_simp; try with_reducible rfl)
            try simp only [List.setIfInBounds_toArray, List.set_cons_zero, List.set_cons_succ]
            refine take_slot (i := 4) (d := 42) (v := ?_) rfl rfl (by kernel_rfl) (by kernel_rfl) (by kernel_rfl) (fun _ _ _ h => h) (Or.inl ⟨by rfl, ?_⟩) (by assumption) ?_
            rotate_left 1
            focus (intro wS hSw; (try dsimp only at hSw); go_simp; try with_reducible rfl)
            try simp only [List.setIfInBounds_toArray, List.set_cons_zero, List.set_cons_succ]
            refine take_slot (i := 5) (d := 43) (v := ?_) rfl rfl (by kernel_rfl) (by kernel_rfl) (by kernel_rfl) (fun _ _ _ h => h) (Or.inl ⟨by rfl, ?_⟩) (by assumption) ?_
            rotate_left 1
            focus (intro wS hSw; (try dsimp only at hSw); go_simp; try with_reducible rfl)
            try simp only [List.setIfInBounds_toArray, List.set_cons_zero, List.set_cons_succ]
            refine take_slot (i := 6) (d := 44) (v := ?_) rfl rfl (by kernel_rfl) (by kernel_rfl) (by kernel_rfl) (fun _ _ _ h => h) (Or.inl ⟨by rfl, ?_⟩) (by assumption) ?_
            rotate_left 1
            focus (intro wS hSw; (try dsimp only at hSw); go_simp; try with_reducible rfl)
            try simp only [List.setIfInBounds_toArray, List.set_cons_zero, List.set_cons_succ]
            refine take_slot (i := 7) (d := 45) (v := ?_) rfl rfl (by kernel_rfl) (by kernel_rfl) (by kernel_rfl) (fun _ _ _ h => h) (Or.inl ⟨by rfl, ?_⟩) (by assumption) ?_
            rotate_left 1
            focus (intro wS hSw; (try dsimp only at hSw); go_simp; try with_reducible rfl)
            try simp only [List.setIfInBounds_toArray, List.set_cons_zero, List.set_cons_succ]
            refine wpAnyH_done (by kernel_rfl) ?_ _
            replace hB := hB.trans (hL.mono hB.size)
            clear hHeld hL hBW
            go_wp2_with fail
            go_ret
            exact ⟨_, rfl, ns_own HO.out rfl, hB⟩
          all_goals first
            | (intro j u hj; rcases j with _ | j <;> simp at hj <;> subst hj <;> exact (cell_at _ _ _ _ _ (by simp)))
            | (simp [Value.oneCell']; done)
            | (unfold maxLen; omega)
            | omega
            | (simp; omega)
        · exact absurd (g2 rfl) (by decide)
      · cases p4
        · clear g1 g2 g3 g4
          go_enter Try.func47, Try.ntmps47
          go_wp2_with fail
          have T0 : (w.alloc (Obj.cells #[.int .i64 a, .int .i64 b] 31)).cell? ⟨w.heap.size, 0, none⟩ = some (.int .i64 a) := cell_new _ _ _ 0
          have T1 : (w.alloc (Obj.cells #[.int .i64 a, .int .i64 b] 31)).cell? ⟨w.heap.size, 1, none⟩ = some (.int .i64 b) := cell_new _ _ _ 1
          have nT : w.heap.size < (w.alloc (Obj.cells #[.int .i64 a, .int .i64 b] 31)).heap.size := by simp
          have hB : Below w.heap.size w (w.alloc (Obj.cells #[.int .i64 a, .int .i64 b] 31)) := (Below.refl _ _).alloc (Nat.le_refl _) _
          replace C0 := cell_next hB nC C0
          replace C1 := cell_next hB nC C1
          have nq := nC
          replace nC := Nat.lt_of_lt_of_le nC hB.size
          have HO : Hid ((w.alloc (Obj.cells #[.int .i64 a, .int .i64 b] 31)).ownsRow (w.heap.size + 1) 65 1 (.slice none 0 0) 0 (intsV [])) := Lib.hid (World.ownsRow_nil _ _ _ _)
          generalize w.alloc (Obj.cells #[.int .i64 a, .int .i64 b] 31) = X1 at *
          have hBW : X1.heap.size ≤ X1.heap.size := Nat.le_refl _
          refine wp_region_held_drew (S := fun w' => w'.cell? ⟨w.heap.size, 0, none⟩ = some (.int .i64 a) ∧ w'.cell? ⟨w.heap.size, 1, none⟩ = some (.int .i64 b) ∧ w'.cell? ⟨q, 0, none⟩ = some (.int .i64 fr) ∧ w'.cell? ⟨q, 1, none⟩ = some (.int .i64 th) ∧ True) (by kernel_rfl) ?_ (fun hHeld => ?_)
          focus (exact ⟨T0, T1, C0, C1, trivial⟩)
          have hL : Below X1.heap.size X1 X1.drew := Below.drew (Below.refl _ _)
          replace T0 : X1.drew.cell? ⟨w.heap.size, 0, none⟩ = some (.int .i64 a) := T0
          replace T1 : X1.drew.cell? ⟨w.heap.size, 1, none⟩ = some (.int .i64 b) := T1
          replace C0 : X1.drew.cell? ⟨q, 0, none⟩ = some (.int .i64 fr) := C0
          replace C1 : X1.drew.cell? ⟨q, 1, none⟩ = some (.int .i64 th) := C1
          replace nT : w.heap.size < X1.drew.heap.size := nT
          replace nC : q < X1.drew.heap.size := nC
          replace HO := Lib.hid HO.out.drew
          generalize hWd : X1.drew = wd2 at hHeld hL T0 T1 C0 C1 nT nC HO ⊢
          clear hWd
          refine take_slot (i := 0) (d := 6) (v := ?_) rfl rfl (by kernel_rfl) (by kernel_rfl) (by kernel_rfl) (fun _ _ _ h => h) (Or.inl ⟨by rfl, ?_⟩) (by assumption) ?_
          rotate_left 1
          focus (intro wS hSw; (try dsimp only at hSw); go_simp; try with_reducible rfl)
          try simp only [List.setIfInBounds_toArray, List.set_cons_zero, List.set_cons_succ]
          refine take_slot (i := 1) (d := 7) (v := ?_) rfl rfl (by kernel_rfl) (by kernel_rfl) (by kernel_rfl) (fun _ _ _ h => h) (Or.inl ⟨by rfl, ?_⟩) (by assumption) ?_
          rotate_left 1
          focus (intro wS hSw; (try dsimp only at hSw); go_simp; try with_reducible rfl)
          try simp only [List.setIfInBounds_toArray, List.set_cons_zero, List.set_cons_succ]
          refine take_slot (i := 2) (d := 8) (v := ?_) rfl rfl (by kernel_rfl) (by kernel_rfl) (by kernel_rfl) (fun _ _ _ h => h) (Or.inl ⟨by rfl, ?_⟩) (by assumption) ?_
          rotate_left 1
          focus (intro wS hSw; (try dsimp only at hSw); go_simp; try with_reducible rfl)
          try simp only [List.setIfInBounds_toArray, List.set_cons_zero, List.set_cons_succ]
          refine take_slot (i := 3) (d := 9) (v := ?_) rfl rfl (by kernel_rfl) (by kernel_rfl) (by kernel_rfl) (fun _ _ _ h => h) (Or.inl ⟨by rfl, ?_⟩) (by assumption) ?_
          rotate_left 1
          focus (intro wS hSw; (try dsimp only at hSw); go_simp; try with_reducible rfl)
          try simp only [List.setIfInBounds_toArray, List.set_cons_zero, List.set_cons_succ]
          refine take_slot (i := 4) (d := 10) (v := ?_) rfl rfl (by kernel_rfl) (by kernel_rfl) (by kernel_rfl) (fun _ _ _ h => h) (Or.inl ⟨by rfl, ?_⟩) (by assumption) ?_
          rotate_left 1
          focus (intro wS hSw; (try dsimp only at hSw); go_simp; try with_reducible rfl)
          try simp only [List.setIfInBounds_toArray, List.set_cons_zero, List.set_cons_succ]
          refine take_slot (i := 5) (d := 11) (v := ?_) rfl rfl (by kernel_rfl) (by kernel_rfl) (by kernel_rfl) (fun _ _ _ h => h) (Or.inl ⟨by rfl, ?_⟩) (by assumption) ?_
          rotate_left 1
          focus (intro wS hSw; (try dsimp only at hSw); go_simp; try with_reducible rfl)
          try simp only [List.setIfInBounds_toArray, List.set_cons_zero, List.set_cons_succ]
          refine take_slot (i := 6) (d := 12) (v := ?_) rfl rfl (by kernel_rfl) (by kernel_rfl) (by kernel_rfl) (fun _ _ _ h => h) (Or.inl ⟨by rfl, ?_⟩) (by assumption) ?_
          rotate_left 1
          focus (intro wS hSw; (try dsimp only at hSw); go_simp; try with_reducible rfl)
          try simp only [List.setIfInBounds_toArray, List.set_cons_zero, List.set_cons_succ]
          refine take_slot (i := 7) (d := 13) (v := ?_) rfl rfl (by kernel_rfl) (by kernel_rfl) (by kernel_rfl) (fun _ _ _ h => h) (Or.inl ⟨by rfl, ?_⟩) (by assumption) ?_
          rotate_left 1
          focus (intro wS hSw; (try dsimp only at hSw); go_simp; try with_reducible rfl)
          try simp only [List.setIfInBounds_toArray, List.set_cons_zero, List.set_cons_succ]
          refine wpAnyH_done (by kernel_rfl) ?_ _
          replace hB := hB.trans (hL.mono hB.size)
          clear hHeld hL hBW
          go_wp2_with (at_builtin; refine wpList_append_own_at _ rfl (.tmp 14) (.tmp 15) 60 rfl (w.heap.size + 1) 65 i0 (.int .i64 0) 1 8 Try.underlying60 hi0 hiz0 hiz1 hiz2 rfl (by decide) (.slice none 0 0) 0 (intsV []) rfl (World.ownsRow.alloc HO.out _) ⟨wd2.heap.size, 0, none⟩ 1 1 [.int .i64 1] rfl rfl ?_ ?_ ?_ ?_ ?_ ?_)
          case refine_6 =>
            intro V1 Y1 hown' hgrow _ hat
            have hb : Below (w.heap.size + 1) wd2 Y1 := ((Below.refl _ _).alloc nT _).grown hgrow (by simp; omega) (fun j hj => (World.ownsRow.lt HO.out j hj).1)
            replace T0 := cell_next hb (by omega) T0
            replace T1 := cell_next hb (by omega) T1
            replace C0 := cell_next hb (by omega) C0
            replace C1 := cell_next hb (by omega) C1
            replace hB := hB.trans (hb.mono (by omega))
            have hsz := hb.size
            replace nT : w.heap.size < Y1.heap.size := by omega
            replace nC : q < Y1.heap.size := by omega
            replace HO : Hid (Y1.ownsRow (w.heap.size + 1) 65 1 V1 (0 + 1) (intsV ([] ++ [1]))) := Lib.hid (by rw [intsV_append]; exact hown')
            clear hown' hgrow hat hb hsz
            go_wp2_with fail
            have hBW : Y1.heap.size ≤ Y1.heap.size := Nat.le_refl _
            refine wp_region_held_drew (S := fun w' => w'.cell? ⟨w.heap.size, 0, none⟩ = some (.int .i64 a) ∧ w'.cell? ⟨w.heap.size, 1, none⟩ = some (.int .i64 b) ∧ w'.cell? ⟨q, 0, none⟩ = some (.int .i64 fr) ∧ w'.cell? ⟨q, 1, none⟩ = some (.int .i64 th) ∧ True) (by kernel_rfl) ?_ (fun hHeld => ?_)
            focus (exact ⟨T0, T1, C0, C1, trivial⟩)
            have hL : Below Y1.heap.size Y1 Y1.drew := Below.drew (Below.refl _ _)
            replace T0 : Y1.drew.cell? ⟨w.heap.size, 0, none⟩ = some (.int .i64 a) := T0
            replace T1 : Y1.drew.cell? ⟨w.heap.size, 1, none⟩ = some (.int .i64 b) := T1
            replace C0 : Y1.drew.cell? ⟨q, 0, none⟩ = some (.int .i64 fr) := C0
            replace C1 : Y1.drew.cell? ⟨q, 1, none⟩ = some (.int .i64 th) := C1
            replace nT : w.heap.size < Y1.drew.heap.size := nT
            replace nC : q < Y1.drew.heap.size := nC
            replace HO := Lib.hid HO.out.drew
            generalize hWd : Y1.drew = wd4 at hHeld hL T0 T1 C0 C1 nT nC HO ⊢
            clear hWd
            refine take_slot (i := 0) (d := 17) (v := ?_) rfl rfl (by kernel_rfl) (by kernel_rfl) (by kernel_rfl) (fun _ _ _ h => h) (Or.inl ⟨by rfl, ?_⟩) (by assumption) ?_
            rotate_left 1
            focus (intro wS hSw; (try dsimp only at hSw); go_simp; try with_reducible rfl)
            try simp only [List.setIfInBounds_toArray, List.set_cons_zero, List.set_cons_succ]
            refine take_slot (i := 1) (d := 18) (v := ?_) rfl rfl (by kernel_rfl) (by kernel_rfl) (by kernel_rfl) (fun _ _ _ h => h) (Or.inl ⟨by rfl, ?_⟩) (by assumption) ?_
            rotate_left 1
            focus (intro wS hSw; (try dsimp only at hSw); go_simp; try with_reducible rfl)
            try simp only [List.setIfInBounds_toArray, List.set_cons_zero, List.set_cons_succ]
            refine take_slot (i := 2) (d := 19) (v := ?_) rfl rfl (by kernel_rfl) (by kernel_rfl) (by kernel_rfl) (fun _ _ _ h => h) (Or.inl ⟨by rfl, ?_⟩) (by assumption) ?_
            rotate_left 1
            focus (intro wS hSw; (try dsimp only at hSw); go_simp; try with_reducible rfl)
            try simp only [List.setIfInBounds_toArray, List.set_cons_zero, List.set_cons_succ]
            refine take_slot (i := 3) (d := 20) (v := ?_) rfl rfl (by kernel_rfl) (by kernel_rfl) (by kernel_rfl) (fun _ _ _ h => h) (Or.inl ⟨by rfl, ?_⟩) (by assumption) ?_
            rotate_left 1
            focus (intro wS hSw; (try dsimp only at hSw); go_simp; try with_reducible rfl)
            try simp only [List.setIfInBounds_toArray, List.set_cons_zero, List.set_cons_succ]
            refine take_slot (i := 4) (d := 21) (v := ?_) rfl rfl (by kernel_rfl) (by kernel_rfl) (by kernel_rfl) (fun _ _ _ h => h) (Or.inl ⟨by rfl, ?_⟩) (by assumption) ?_
            rotate_left 1
            focus (intro wS hSw; (try dsimp only at hSw); go_simp; try with_reducible rfl)
            try simp only [List.setIfInBounds_toArray, List.set_cons_zero, List.set_cons_succ]
            refine take_slot (i := 5) (d := 22) (v := ?_) rfl rfl (by kernel_rfl) (by kernel_rfl) (by kernel_rfl) (fun _ _ _ h => h) (Or.inl ⟨by rfl, ?_⟩) (by assumption) ?_
            rotate_left 1
            focus (intro wS hSw; (try dsimp only at hSw); go_simp; try with_reducible rfl)
            try simp only [List.setIfInBounds_toArray, List.set_cons_zero, List.set_cons_succ]
            refine take_slot (i := 6) (d := 23) (v := ?_) rfl rfl (by kernel_rfl) (by kernel_rfl) (by kernel_rfl) (fun _ _ _ h => h) (Or.inl ⟨by rfl, ?_⟩) (by assumption) ?_
            rotate_left 1
            focus (intro wS hSw; (try dsimp only at hSw); go_simp; try with_reducible rfl)
            try simp only [List.setIfInBounds_toArray, List.set_cons_zero, List.set_cons_succ]
            refine take_slot (i := 7) (d := 24) (v := ?_) rfl rfl (by kernel_rfl) (by kernel_rfl) (by kernel_rfl) (fun _ _ _ h => h) (Or.inl ⟨by rfl, ?_⟩) (by assumption) ?_
            rotate_left 1
            focus (intro wS hSw; (try dsimp only at hSw); go_simp; try with_reducible rfl)
            try simp only [List.setIfInBounds_toArray, List.set_cons_zero, List.set_cons_succ]
            refine take_slot (i := 8) (d := 25) (v := ?_) rfl rfl (by kernel_rfl) (by kernel_rfl) (by kernel_rfl) (fun _ _ _ h => h) (Or.inl ⟨by rfl, ?_⟩) (by assumption) ?_
            rotate_left 1
            focus (intro wS hSw; (try dsimp only at hSw); go_simp; try with_reducible rfl)
            try simp only [List.setIfInBounds_toArray, List.set_cons_zero, List.set_cons_succ]
            refine take_slot (i := 9) (d := 26) (v := ?_) rfl rfl (by kernel_rfl) (by kernel_rfl) (by kernel_rfl) (fun _ _ _ h => h) (Or.inl ⟨by rfl, ?_⟩) (by assumption) ?_
            rotate_left 1
            focus (intro wS hSw; (try dsimp only at hSw); go_simp; try with_reducible rfl)
            try simp only [List.setIfInBounds_toArray, List.set_cons_zero, List.set_cons_succ]
            refine take_slot (i := 10) (d := 27) (v := ?_) rfl rfl (by kernel_rfl) (by kernel_rfl) (by kernel_rfl) (fun _ _ _ h => h) (Or.inl ⟨by rfl, ?_⟩) (by assumption) ?_
            rotate_left 1
            focus (intro wS hSw; (try dsimp only at hSw); go_simp; try with_reducible rfl)
            try simp only [List.setIfInBounds_toArray, List.set_cons_zero, List.set_cons_succ]
            refine take_slot (i := 11) (d := 28) (v := ?_) rfl rfl (by kernel_rfl) (by kernel_rfl) (by kernel_rfl) (fun _ _ _ h => h) (Or.inl ⟨by rfl, ?_⟩) (by assumption) ?_
            rotate_left 1
            focus (intro wS hSw; (try dsimp only at hSw); go_simp; try with_reducible rfl)
            try simp only [List.setIfInBounds_toArray, List.set_cons_zero, List.set_cons_succ]
            refine take_slot (i := 12) (d := 29) (v := ?_) rfl rfl (by kernel_rfl) (by kernel_rfl) (by kernel_rfl) (fun _ _ _ h => h) (Or.inl ⟨by rfl, ?_⟩) (by assumption) ?_
            rotate_left 1
            focus (intro wS hSw; (try dsimp only at hSw); go_simp; try with_reducible rfl)
            try simp only [List.setIfInBounds_toArray, List.set_cons_zero, List.set_cons_succ]
            refine take_slot (i := 13) (d := 30) (v := ?_) rfl rfl (by kernel_rfl) (by kernel_rfl) (by kernel_rfl) (fun _ _ _ h => h) (Or.inl ⟨by rfl, ?_⟩) (by assumption) ?_
            rotate_left 1
            focus (intro wS hSw; (try dsimp only at hSw); go_simp; try with_reducible rfl)
            try simp only [List.setIfInBounds_toArray, List.set_cons_zero, List.set_cons_succ]
            refine take_slot (i := 14) (d := 31) (v := ?_) rfl rfl (by kernel_rfl) (by kernel_rfl) (by kernel_rfl) (fun _ _ _ h => h) (Or.inl ⟨by rfl, ?_⟩) (by assumption) ?_
            rotate_left 1
            focus (intro wS hSw; (try dsimp only at hSw); go_simp; try with_reducible rfl)
            try simp only [List.setIfInBounds_toArray, List.set_cons_zero, List.set_cons_succ]
            refine take_slot (i := 15) (d := 32) (v := ?_) rfl rfl (by kernel_rfl) (by kernel_rfl) (by kernel_rfl) (fun _ _ _ h => h) (Or.inl ⟨by rfl, ?_⟩) (by assumption) ?_
            rotate_left 1
            focus (intro wS hSw; (try dsimp only at hSw); go_simp; try with_reducible rfl)
            try simp only [List.setIfInBounds_toArray, List.set_cons_zero, List.set_cons_succ]
            refine take_slot (i := 16) (d := 33) (v := ?_) rfl rfl (by kernel_rfl) (by kernel_rfl) (by kernel_rfl) (fun _ _ _ h => h) (Or.inl ⟨by rfl, ?_⟩) (by assumption) ?_
            rotate_left 1
            focus (intro wS hSw; (try dsimp only at hSw); go_simp; try with_reducible rfl)
            try simp only [List.setIfInBounds_toArray, List.set_cons_zero, List.set_cons_succ]
            refine take_slot (i := 17) (d := 34) (v := ?_) rfl rfl (by kernel_rfl) (by kernel_rfl) (by kernel_rfl) (fun _ _ _ h => h) (Or.inl ⟨by rfl, ?_⟩) (by assumption) ?_
            rotate_left 1
            focus (intro wS hSw; (try dsimp only at hSw); go_simp; try with_reducible rfl)
            try simp only [List.setIfInBounds_toArray, List.set_cons_zero, List.set_cons_succ]
            refine wpAnyH_done (by kernel_rfl) ?_ _
            replace hB := hB.trans (hL.mono hB.size)
            clear hHeld hL hBW
            go_wp2_with (at_builtin; refine wpList_append_own_at _ rfl (.tmp 35) (.tmp 36) 60 rfl (w.heap.size + 1) 65 i0 (.int .i64 0) 1 8 Try.underlying60 hi0 hiz0 hiz1 hiz2 rfl (by decide) V1 (0 + 1) (intsV ([] ++ [1])) rfl (World.ownsRow.alloc HO.out _) ⟨wd4.heap.size, 0, none⟩ 1 1 [.int .i64 2] rfl rfl ?_ ?_ ?_ ?_ ?_ ?_)
            case refine_6 =>
              intro V2 Y2 hown' hgrow _ hat
              have hb : Below (w.heap.size + 1) wd4 Y2 := ((Below.refl _ _).alloc nT _).grown hgrow (by simp; omega) (fun j hj => (World.ownsRow.lt HO.out j hj).1)
              replace T0 := cell_next hb (by omega) T0
              replace T1 := cell_next hb (by omega) T1
              replace C0 := cell_next hb (by omega) C0
              replace C1 := cell_next hb (by omega) C1
              replace hB := hB.trans (hb.mono (by omega))
              have hsz := hb.size
              replace nT : w.heap.size < Y2.heap.size := by omega
              replace nC : q < Y2.heap.size := by omega
              replace HO : Hid (Y2.ownsRow (w.heap.size + 1) 65 1 V2 ((0 + 1) + 1) (intsV (([] ++ [1]) ++ [2]))) := Lib.hid (by rw [intsV_append]; exact hown')
              clear hown' hgrow hat hb hsz
              go_wp2_with fail
              have hBW : Y2.heap.size ≤ Y2.heap.size := Nat.le_refl _
              refine wp_region_held_drew (S := fun w' => w'.cell? ⟨w.heap.size, 0, none⟩ = some (.int .i64 a) ∧ w'.cell? ⟨w.heap.size, 1, none⟩ = some (.int .i64 b) ∧ w'.cell? ⟨q, 0, none⟩ = some (.int .i64 fr) ∧ w'.cell? ⟨q, 1, none⟩ = some (.int .i64 th) ∧ True) (by kernel_rfl) ?_ (fun hHeld => ?_)
              focus (exact ⟨T0, T1, C0, C1, trivial⟩)
              have hL : Below Y2.heap.size Y2 Y2.drew := Below.drew (Below.refl _ _)
              replace T0 : Y2.drew.cell? ⟨w.heap.size, 0, none⟩ = some (.int .i64 a) := T0
              replace T1 : Y2.drew.cell? ⟨w.heap.size, 1, none⟩ = some (.int .i64 b) := T1
              replace C0 : Y2.drew.cell? ⟨q, 0, none⟩ = some (.int .i64 fr) := C0
              replace C1 : Y2.drew.cell? ⟨q, 1, none⟩ = some (.int .i64 th) := C1
              replace nT : w.heap.size < Y2.drew.heap.size := nT
              replace nC : q < Y2.drew.heap.size := nC
              replace HO := Lib.hid HO.out.drew
              generalize hWd : Y2.drew = wd6 at hHeld hL T0 T1 C0 C1 nT nC HO ⊢
              clear hWd
              refine take_slot (i := 0) (d := 38) (v := ?_) rfl rfl (by kernel_rfl) (by kernel_rfl) (by kernel_rfl) (fun _ _ _ h => h) (Or.inl ⟨by rfl, ?_⟩) (by assumption) ?_
              rotate_left 1
              focus (intro wS hSw; (try dsimp only at hSw); go_simp; try with_reducible rfl)
              try simp only [List.setIfInBounds_toArray, List.set_cons_zero, List.set_cons_succ]
              refine take_slot (i := 1) (d := 39) (v := ?_) rfl rfl (by kernel_rfl) (by kernel_rfl) (by kernel_rfl) (fun _ _ _ h => h) (Or.inl ⟨by rfl, ?_⟩) (by assumption) ?_
              rotate_left 1
              focus (intro wS hSw; (try dsimp only at hSw); go_simp; try with_reducible rfl)
              try simp only [List.setIfInBounds_toArray, List.set_cons_zero, List.set_cons_succ]
              refine take_slot (i := 2) (d := 40) (v := ?_) rfl rfl (by kernel_rfl) (by kernel_rfl) (by kernel_rfl) (fun _ _ _ h => h) (Or.inl ⟨by rfl, ?_⟩) (by assumption) ?_
              rotate_left 1
              focus (intro wS hSw; (try dsimp only at hSw); go_simp; try with_reducible rfl)
              try simp only [List.setIfInBounds_toArray, List.set_cons_zero, List.set_cons_succ]
              refine take_slot (i := 3) (d := 41) (v := ?_) rfl rfl (by kernel_rfl) (by kernel_rfl) (by kernel_rfl) (fun _ _ _ h => h) (Or.inl ⟨by rfl, ?_⟩) (by assumption) ?_
              rotate_left 1
              focus (intro wS hSw; (try dsimp only at hSw); go_simp; try with_reducible rfl)
              try simp only [List.setIfInBounds_toArray, List.set_cons_zero, List.set_cons_succ]
              refine take_slot (i := 4) (d := 42) (v := ?_) rfl rfl (by kernel_rfl) (by kernel_rfl) (by kernel_rfl) (fun _ _ _ h => h) (Or.inl ⟨by rfl, ?_⟩) (by assumption) ?_
              rotate_left 1
              focus (intro wS hSw; (try dsimp only at hSw); go_simp; try with_reducible rfl)
              try simp only [List.setIfInBounds_toArray, List.set_cons_zero, List.set_cons_succ]
              refine take_slot (i := 5) (d := 43) (v := ?_) rfl rfl (by kernel_rfl) (by kernel_rfl) (by kernel_rfl) (fun _ _ _ h => h) (Or.inl ⟨by rfl, ?_⟩) (by assumption) ?_
              rotate_left 1
              focus (intro wS hSw; (try dsimp only at hSw); go_simp; try with_reducible rfl)
              try simp only [List.setIfInBounds_toArray, List.set_cons_zero, List.set_cons_succ]
              refine take_slot (i := 6) (d := 44) (v := ?_) rfl rfl (by kernel_rfl) (by kernel_rfl) (by kernel_rfl) (fun _ _ _ h => h) (Or.inl ⟨by rfl, ?_⟩) (by assumption) ?_
              rotate_left 1
              focus (intro wS hSw; (try dsimp only at hSw); go_simp; try with_reducible rfl)
              try simp only [List.setIfInBounds_toArray, List.set_cons_zero, List.set_cons_succ]
              refine take_slot (i := 7) (d := 45) (v := ?_) rfl rfl (by kernel_rfl) (by kernel_rfl) (by kernel_rfl) (fun _ _ _ h => h) (Or.inl ⟨by rfl, ?_⟩) (by assumption) ?_
              rotate_left 1
              focus (intro wS hSw; (try dsimp only at hSw); go_simp; try with_reducible rfl)
              try simp only [List.setIfInBounds_toArray, List.set_cons_zero, List.set_cons_succ]
              refine wpAnyH_done (by kernel_rfl) ?_ _
              replace hB := hB.trans (hL.mono hB.size)
              clear hHeld hL hBW
              go_wp2_with fail
              go_ret
              exact ⟨_, rfl, ns_own HO.out rfl, hB⟩
            all_goals first
              | (intro j u hj; rcases j with _ | j <;> simp at hj <;> subst hj <;> exact (cell_at _ _ _ _ _ (by simp)))
              | (simp [Value.oneCell']; done)
              | (unfold maxLen; omega)
              | omega
              | (simp; omega)
          all_goals first
            | (intro j u hj; rcases j with _ | j <;> simp at hj <;> subst hj <;> exact (cell_at _ _ _ _ _ (by simp)))
            | (simp [Value.oneCell']; done)
            | (unfold maxLen; omega)
            | omega
            | (simp; omega)
        · clear g1 g2 g3 g4
          go_enter Try.func47, Try.ntmps47
          go_wp2_with fail
          have T0 : (w.alloc (Obj.cells #[.int .i64 a, .int .i64 b] 31)).cell? ⟨w.heap.size, 0, none⟩ = some (.int .i64 a) := cell_new _ _ _ 0
          have T1 : (w.alloc (Obj.cells #[.int .i64 a, .int .i64 b] 31)).cell? ⟨w.heap.size, 1, none⟩ = some (.int .i64 b) := cell_new _ _ _ 1
          have nT : w.heap.size < (w.alloc (Obj.cells #[.int .i64 a, .int .i64 b] 31)).heap.size := by simp
          have hB : Below w.heap.size w (w.alloc (Obj.cells #[.int .i64 a, .int .i64 b] 31)) := (Below.refl _ _).alloc (Nat.le_refl _) _
          replace C0 := cell_next hB nC C0
          replace C1 := cell_next hB nC C1
          have nq := nC
          replace nC := Nat.lt_of_lt_of_le nC hB.size
          have HO : Hid ((w.alloc (Obj.cells #[.int .i64 a, .int .i64 b] 31)).ownsRow (w.heap.size + 1) 65 1 (.slice none 0 0) 0 (intsV [])) := Lib.hid (World.ownsRow_nil _ _ _ _)
          generalize w.alloc (Obj.cells #[.int .i64 a, .int .i64 b] 31) = X1 at *
          have hBW : X1.heap.size ≤ X1.heap.size := Nat.le_refl _
          refine wp_region_held_drew (S := fun w' => w'.cell? ⟨w.heap.size, 0, none⟩ = some (.int .i64 a) ∧ w'.cell? ⟨w.heap.size, 1, none⟩ = some (.int .i64 b) ∧ w'.cell? ⟨q, 0, none⟩ = some (.int .i64 fr) ∧ w'.cell? ⟨q, 1, none⟩ = some (.int .i64 th) ∧ True) (by kernel_rfl) ?_ (fun hHeld => ?_)
          focus (exact ⟨T0, T1, C0, C1, trivial⟩)
          have hL : Below X1.heap.size X1 X1.drew := Below.drew (Below.refl _ _)
          replace T0 : X1.drew.cell? ⟨w.heap.size, 0, none⟩ = some (.int .i64 a) := T0
          replace T1 : X1.drew.cell? ⟨w.heap.size, 1, none⟩ = some (.int .i64 b) := T1
          replace C0 : X1.drew.cell? ⟨q, 0, none⟩ = some (.int .i64 fr) := C0
          replace C1 : X1.drew.cell? ⟨q, 1, none⟩ = some (.int .i64 th) := C1
          replace nT : w.heap.size < X1.drew.heap.size := nT
          replace nC : q < X1.drew.heap.size := nC
          replace HO := Lib.hid HO.out.drew
          generalize hWd : X1.drew = wd2 at hHeld hL T0 T1 C0 C1 nT nC HO ⊢
          clear hWd
          refine take_slot (i := 0) (d := 6) (v := ?_) rfl rfl (by kernel_rfl) (by kernel_rfl) (by kernel_rfl) (fun _ _ _ h => h) (Or.inl ⟨by rfl, ?_⟩) (by assumption) ?_
          rotate_left 1
          focus (intro wS hSw; (try dsimp only at hSw); go_simp; try with_reducible rfl)
          try simp only [List.setIfInBounds_toArray, List.set_cons_zero, List.set_cons_succ]
          refine take_slot (i := 1) (d := 7) (v := ?_) rfl rfl (by kernel_rfl) (by kernel_rfl) (by kernel_rfl) (fun _ _ _ h => h) (Or.inl ⟨by rfl, ?_⟩) (by assumption) ?_
          rotate_left 1
          focus (intro wS hSw; (try dsimp only at hSw); go_simp; try with_reducible rfl)
          try simp only [List.setIfInBounds_toArray, List.set_cons_zero, List.set_cons_succ]
          refine take_slot (i := 2) (d := 8) (v := ?_) rfl rfl (by kernel_rfl) (by kernel_rfl) (by kernel_rfl) (fun _ _ _ h => h) (Or.inl ⟨by rfl, ?_⟩) (by assumption) ?_
          rotate_left 1
          focus (intro wS hSw; (try dsimp only at hSw); go_simp; try with_reducible rfl)
          try simp only [List.setIfInBounds_toArray, List.set_cons_zero, List.set_cons_succ]
          refine take_slot (i := 3) (d := 9) (v := ?_) rfl rfl (by kernel_rfl) (by kernel_rfl) (by kernel_rfl) (fun _ _ _ h => h) (Or.inl ⟨by rfl, ?_⟩) (by assumption) ?_
          rotate_left 1
          focus (intro wS hSw; (try dsimp only at hSw); go_simp; try with_reducible rfl)
          try simp only [List.setIfInBounds_toArray, List.set_cons_zero, List.set_cons_succ]
          refine take_slot (i := 4) (d := 10) (v := ?_) rfl rfl (by kernel_rfl) (by kernel_rfl) (by kernel_rfl) (fun _ _ _ h => h) (Or.inl ⟨by rfl, ?_⟩) (by assumption) ?_
          rotate_left 1
          focus (intro wS hSw; (try dsimp only at hSw); go_simp; try with_reducible rfl)
          try simp only [List.setIfInBounds_toArray, List.set_cons_zero, List.set_cons_succ]
          refine take_slot (i := 5) (d := 11) (v := ?_) rfl rfl (by kernel_rfl) (by kernel_rfl) (by kernel_rfl) (fun _ _ _ h => h) (Or.inl ⟨by rfl, ?_⟩) (by assumption) ?_
          rotate_left 1
          focus (intro wS hSw; (try dsimp only at hSw); go_simp; try with_reducible rfl)
          try simp only [List.setIfInBounds_toArray, List.set_cons_zero, List.set_cons_succ]
          refine take_slot (i := 6) (d := 12) (v := ?_) rfl rfl (by kernel_rfl) (by kernel_rfl) (by kernel_rfl) (fun _ _ _ h => h) (Or.inl ⟨by rfl, ?_⟩) (by assumption) ?_
          rotate_left 1
          focus (intro wS hSw; (try dsimp only at hSw); go_simp; try with_reducible rfl)
          try simp only [List.setIfInBounds_toArray, List.set_cons_zero, List.set_cons_succ]
          refine take_slot (i := 7) (d := 13) (v := ?_) rfl rfl (by kernel_rfl) (by kernel_rfl) (by kernel_rfl) (fun _ _ _ h => h) (Or.inl ⟨by rfl, ?_⟩) (by assumption) ?_
          rotate_left 1
          focus (intro wS hSw; (try dsimp only at hSw); go_simp; try with_reducible rfl)
          try simp only [List.setIfInBounds_toArray, List.set_cons_zero, List.set_cons_succ]
          refine wpAnyH_done (by kernel_rfl) ?_ _
          replace hB := hB.trans (hL.mono hB.size)
          clear hHeld hL hBW
          go_wp2_with (at_builtin; refine wpList_append_own_at _ rfl (.tmp 14) (.tmp 15) 60 rfl (w.heap.size + 1) 65 i0 (.int .i64 0) 1 8 Try.underlying60 hi0 hiz0 hiz1 hiz2 rfl (by decide) (.slice none 0 0) 0 (intsV []) rfl (World.ownsRow.alloc HO.out _) ⟨wd2.heap.size, 0, none⟩ 1 1 [.int .i64 1] rfl rfl ?_ ?_ ?_ ?_ ?_ ?_)
          case refine_6 =>
            intro V1 Y1 hown' hgrow _ hat
            have hb : Below (w.heap.size + 1) wd2 Y1 := ((Below.refl _ _).alloc nT _).grown hgrow (by simp; omega) (fun j hj => (World.ownsRow.lt HO.out j hj).1)
            replace T0 := cell_next hb (by omega) T0
            replace T1 := cell_next hb (by omega) T1
            replace C0 := cell_next hb (by omega) C0
            replace C1 := cell_next hb (by omega) C1
            replace hB := hB.trans (hb.mono (by omega))
            have hsz := hb.size
            replace nT : w.heap.size < Y1.heap.size := by omega
            replace nC : q < Y1.heap.size := by omega
            replace HO : Hid (Y1.ownsRow (w.heap.size + 1) 65 1 V1 (0 + 1) (intsV ([] ++ [1]))) := Lib.hid (by rw [intsV_append]; exact hown')
            clear hown' hgrow hat hb hsz
            go_wp2_with fail
            have hBW : Y1.heap.size ≤ Y1.heap.size := Nat.le_refl _
            refine wp_region_held_drew (S := fun w' => w'.cell? ⟨w.heap.size, 0, none⟩ = some (.int .i64 a) ∧ w'.cell? ⟨w.heap.size, 1, none⟩ = some (.int .i64 b) ∧ w'.cell? ⟨q, 0, none⟩ = some (.int .i64 fr) ∧ w'.cell? ⟨q, 1, none⟩ = some (.int .i64 th) ∧ True) (by kernel_rfl) ?_ (fun hHeld => ?_)
            focus (exact ⟨T0, T1, C0, C1, trivial⟩)
            have hL : Below Y1.heap.size Y1 Y1.drew := Below.drew (Below.refl _ _)
            replace T0 : Y1.drew.cell? ⟨w.heap.size, 0, none⟩ = some (.int .i64 a) := T0
            replace T1 : Y1.drew.cell? ⟨w.heap.size, 1, none⟩ = some (.int .i64 b) := T1
            replace C0 : Y1.drew.cell? ⟨q, 0, none⟩ = some (.int .i64 fr) := C0
            replace C1 : Y1.drew.cell? ⟨q, 1, none⟩ = some (.int .i64 th) := C1
            replace nT : w.heap.size < Y1.drew.heap.size := nT
            replace nC : q < Y1.drew.heap.size := nC
            replace HO := Lib.hid HO.out.drew
            generalize hWd : Y1.drew = wd4 at hHeld hL T0 T1 C0 C1 nT nC HO ⊢
            clear hWd
            refine take_slot (i := 0) (d := 17) (v := ?_) rfl rfl (by kernel_rfl) (by kernel_rfl) (by kernel_rfl) (fun _ _ _ h => h) (Or.inl ⟨by rfl, ?_⟩) (by assumption) ?_
            rotate_left 1
            focus (intro wS hSw; (try dsimp only at hSw); go_simp; try with_reducible rfl)
            try simp only [List.setIfInBounds_toArray, List.set_cons_zero, List.set_cons_succ]
            refine take_slot (i := 1) (d := 18) (v := ?_) rfl rfl (by kernel_rfl) (by kernel_rfl) (by kernel_rfl) (fun _ _ _ h => h) (Or.inl ⟨by rfl, ?_⟩) (by assumption) ?_
            rotate_left 1
            focus (intro wS hSw; (try dsimp only at hSw); go_simp; try with_reducible rfl)
            try simp only [List.setIfInBounds_toArray, List.set_cons_zero, List.set_cons_succ]
            refine take_slot (i := 2) (d := 19) (v := ?_) rfl rfl (by kernel_rfl) (by kernel_rfl) (by kernel_rfl) (fun _ _ _ h => h) (Or.inl ⟨by rfl, ?_⟩) (by assumption) ?_
            rotate_left 1
            focus (intro wS hSw; (try dsimp only at hSw); go_simp; try with_reducible rfl)
            try simp only [List.setIfInBounds_toArray, List.set_cons_zero, List.set_cons_succ]
            refine take_slot (i := 3) (d := 20) (v := ?_) rfl rfl (by kernel_rfl) (by kernel_rfl) (by kernel_rfl) (fun _ _ _ h => h) (Or.inl ⟨by rfl, ?_⟩) (by assumption) ?_
            rotate_left 1
            focus (intro wS hSw; (try dsimp only at hSw); go_simp; try with_reducible rfl)
            try simp only [List.setIfInBounds_toArray, List.set_cons_zero, List.set_cons_succ]
            refine take_slot (i := 4) (d := 21) (v := ?_) rfl rfl (by kernel_rfl) (by kernel_rfl) (by kernel_rfl) (fun _ _ _ h => h) (Or.inl ⟨by rfl, ?_⟩) (by assumption) ?_
            rotate_left 1
            focus (intro wS hSw; (try dsimp only at hSw); go_simp; try with_reducible rfl)
            try simp only [List.setIfInBounds_toArray, List.set_cons_zero, List.set_cons_succ]
            refine take_slot (i := 5) (d := 22) (v := ?_) rfl rfl (by kernel_rfl) (by kernel_rfl) (by kernel_rfl) (fun _ _ _ h => h) (Or.inl ⟨by rfl, ?_⟩) (by assumption) ?_
            rotate_left 1
            focus (intro wS hSw; (try dsimp only at hSw); go_simp; try with_reducible rfl)
            try simp only [List.setIfInBounds_toArray, List.set_cons_zero, List.set_cons_succ]
            refine take_slot (i := 6) (d := 23) (v := ?_) rfl rfl (by kernel_rfl) (by kernel_rfl) (by kernel_rfl) (fun _ _ _ h => h) (Or.inl ⟨by rfl, ?_⟩) (by assumption) ?_
            rotate_left 1
            focus (intro wS hSw; (try dsimp only at hSw); go_simp; try with_reducible rfl)
            try simp only [List.setIfInBounds_toArray, List.set_cons_zero, List.set_cons_succ]
            refine take_slot (i := 7) (d := 24) (v := ?_) rfl rfl (by kernel_rfl) (by kernel_rfl) (by kernel_rfl) (fun _ _ _ h => h) (Or.inl ⟨by rfl, ?_⟩) (by assumption) ?_
            rotate_left 1
            focus (intro wS hSw; (try dsimp only at hSw); go_simp; try with_reducible rfl)
            try simp only [List.setIfInBounds_toArray, List.set_cons_zero, List.set_cons_succ]
            refine take_slot (i := 8) (d := 25) (v := ?_) rfl rfl (by kernel_rfl) (by kernel_rfl) (by kernel_rfl) (fun _ _ _ h => h) (Or.inl ⟨by rfl, ?_⟩) (by assumption) ?_
            rotate_left 1
            focus (intro wS hSw; (try dsimp only at hSw); go_simp; try with_reducible rfl)
            try simp only [List.setIfInBounds_toArray, List.set_cons_zero, List.set_cons_succ]
            refine take_slot (i := 9) (d := 26) (v := ?_) rfl rfl (by kernel_rfl) (by kernel_rfl) (by kernel_rfl) (fun _ _ _ h => h) (Or.inl ⟨by rfl, ?_⟩) (by assumption) ?_
            rotate_left 1
            focus (intro wS hSw; (try dsimp only at hSw); go_simp; try with_reducible rfl)
            try simp only [List.setIfInBounds_toArray, List.set_cons_zero, List.set_cons_succ]
            refine take_slot (i := 10) (d := 27) (v := ?_) rfl rfl (by kernel_rfl) (by kernel_rfl) (by kernel_rfl) (fun _ _ _ h => h) (Or.inl ⟨by rfl, ?_⟩) (by assumption) ?_
            rotate_left 1
            focus (intro wS hSw; (try dsimp only at hSw); go_simp; try with_reducible rfl)
            try simp only [List.setIfInBounds_toArray, List.set_cons_zero, List.set_cons_succ]
            refine take_slot (i := 11) (d := 28) (v := ?_) rfl rfl (by kernel_rfl) (by kernel_rfl) (by kernel_rfl) (fun _ _ _ h => h) (Or.inl ⟨by rfl, ?_⟩) (by assumption) ?_
            rotate_left 1
            focus (intro wS hSw; (try dsimp only at hSw); go_simp; try with_reducible rfl)
            try simp only [List.setIfInBounds_toArray, List.set_cons_zero, List.set_cons_succ]
            refine take_slot (i := 12) (d := 29) (v := ?_) rfl rfl (by kernel_rfl) (by kernel_rfl) (by kernel_rfl) (fun _ _ _ h => h) (Or.inl ⟨by rfl, ?_⟩) (by assumption) ?_
            rotate_left 1
            focus (intro wS hSw; (try dsimp only at hSw); go_simp; try with_reducible rfl)
            try simp only [List.setIfInBounds_toArray, List.set_cons_zero, List.set_cons_succ]
            refine take_slot (i := 13) (d := 30) (v := ?_) rfl rfl (by kernel_rfl) (by kernel_rfl) (by kernel_rfl) (fun _ _ _ h => h) (Or.inl ⟨by rfl, ?_⟩) (by assumption) ?_
            rotate_left 1
            focus (intro wS hSw; (try dsimp only at hSw); go_simp; try with_reducible rfl)
            try simp only [List.setIfInBounds_toArray, List.set_cons_zero, List.set_cons_succ]
            refine take_slot (i := 14) (d := 31) (v := ?_) rfl rfl (by kernel_rfl) (by kernel_rfl) (by kernel_rfl) (fun _ _ _ h => h) (Or.inl ⟨by rfl, ?_⟩) (by assumption) ?_
            rotate_left 1
            focus (intro wS hSw; (try dsimp only at hSw); go_simp; try with_reducible rfl)
            try simp only [List.setIfInBounds_toArray, List.set_cons_zero, List.set_cons_succ]
            refine take_slot (i := 15) (d := 32) (v := ?_) rfl rfl (by kernel_rfl) (by kernel_rfl) (by kernel_rfl) (fun _ _ _ h => h) (Or.inl ⟨by rfl, ?_⟩) (by assumption) ?_
            rotate_left 1
            focus (intro wS hSw; (try dsimp only at hSw); go_simp; try with_reducible rfl)
            try simp only [List.setIfInBounds_toArray, List.set_cons_zero, List.set_cons_succ]
            refine take_slot (i := 16) (d := 33) (v := ?_) rfl rfl (by kernel_rfl) (by kernel_rfl) (by kernel_rfl) (fun _ _ _ h => h) (Or.inl ⟨by rfl, ?_⟩) (by assumption) ?_
            rotate_left 1
            focus (intro wS hSw; (try dsimp only at hSw); go_simp; try with_reducible rfl)
            try simp only [List.setIfInBounds_toArray, List.set_cons_zero, List.set_cons_succ]
            refine take_slot (i := 17) (d := 34) (v := ?_) rfl rfl (by kernel_rfl) (by kernel_rfl) (by kernel_rfl) (fun _ _ _ h => h) (Or.inl ⟨by rfl, ?_⟩) (by assumption) ?_
            rotate_left 1
            focus (intro wS hSw; (try dsimp only at hSw); go_simp; try with_reducible rfl)
            try simp only [List.setIfInBounds_toArray, List.set_cons_zero, List.set_cons_succ]
            refine wpAnyH_done (by kernel_rfl) ?_ _
            replace hB := hB.trans (hL.mono hB.size)
            clear hHeld hL hBW
            go_wp2_with (at_builtin; refine wpList_append_own_at _ rfl (.tmp 35) (.tmp 36) 60 rfl (w.heap.size + 1) 65 i0 (.int .i64 0) 1 8 Try.underlying60 hi0 hiz0 hiz1 hiz2 rfl (by decide) V1 (0 + 1) (intsV ([] ++ [1])) rfl (World.ownsRow.alloc HO.out _) ⟨wd4.heap.size, 0, none⟩ 1 1 [.int .i64 2] rfl rfl ?_ ?_ ?_ ?_ ?_ ?_)
            case refine_6 =>
              intro V2 Y2 hown' hgrow _ hat
              have hb : Below (w.heap.size + 1) wd4 Y2 := ((Below.refl _ _).alloc nT _).grown hgrow (by simp; omega) (fun j hj => (World.ownsRow.lt HO.out j hj).1)
              replace T0 := cell_next hb (by omega) T0
              replace T1 := cell_next hb (by omega) T1
              replace C0 := cell_next hb (by omega) C0
              replace C1 := cell_next hb (by omega) C1
              replace hB := hB.trans (hb.mono (by omega))
              have hsz := hb.size
              replace nT : w.heap.size < Y2.heap.size := by omega
              replace nC : q < Y2.heap.size := by omega
              replace HO : Hid (Y2.ownsRow (w.heap.size + 1) 65 1 V2 ((0 + 1) + 1) (intsV (([] ++ [1]) ++ [2]))) := Lib.hid (by rw [intsV_append]; exact hown')
              clear hown' hgrow hat hb hsz
              go_wp2_with fail
              have hBW : Y2.heap.size ≤ Y2.heap.size := Nat.le_refl _
              refine wp_region_held_drew (S := fun w' => w'.cell? ⟨w.heap.size, 0, none⟩ = some (.int .i64 a) ∧ w'.cell? ⟨w.heap.size, 1, none⟩ = some (.int .i64 b) ∧ w'.cell? ⟨q, 0, none⟩ = some (.int .i64 fr) ∧ w'.cell? ⟨q, 1, none⟩ = some (.int .i64 th) ∧ True) (by kernel_rfl) ?_ (fun hHeld => ?_)
              focus (exact ⟨T0, T1, C0, C1, trivial⟩)
              have hL : Below Y2.heap.size Y2 Y2.drew := Below.drew (Below.refl _ _)
              replace T0 : Y2.drew.cell? ⟨w.heap.size, 0, none⟩ = some (.int .i64 a) := T0
              replace T1 : Y2.drew.cell? ⟨w.heap.size, 1, none⟩ = some (.int .i64 b) := T1
              replace C0 : Y2.drew.cell? ⟨q, 0, none⟩ = some (.int .i64 fr) := C0
              replace C1 : Y2.drew.cell? ⟨q, 1, none⟩ = some (.int .i64 th) := C1
              replace nT : w.heap.size < Y2.drew.heap.size := nT
              replace nC : q < Y2.drew.heap.size := nC
              replace HO := Lib.hid HO.out.drew
              generalize hWd : Y2.drew = wd6 at hHeld hL T0 T1 C0 C1 nT nC HO ⊢
              clear hWd
              refine take_slot (i := 0) (d := 38) (v := ?_) rfl rfl (by kernel_rfl) (by kernel_rfl) (by kernel_rfl) (fun _ _ _ h => h) (Or.inl ⟨by rfl, ?_⟩) (by assumption) ?_
              rotate_left 1
              focus (intro wS hSw; (try dsimp only at hSw); go_simp; try with_reducible rfl)
              try simp only [List.setIfInBounds_toArray, List.set_cons_zero, List.set_cons_succ]
              refine take_slot (i := 1) (d := 39) (v := ?_) rfl rfl (by kernel_rfl) (by kernel_rfl) (by kernel_rfl) (fun _ _ _ h => h) (Or.inl ⟨by rfl, ?_⟩) (by assumption) ?_
              rotate_left 1
              focus (intro wS hSw; (try dsimp only at hSw); go_simp; try with_reducible rfl)
              try simp only [List.setIfInBounds_toArray, List.set_cons_zero, List.set_cons_succ]
              refine take_slot (i := 2) (d := 40) (v := ?_) rfl rfl (by kernel_rfl) (by kernel_rfl) (by kernel_rfl) (fun _ _ _ h => h) (Or.inl ⟨by rfl, ?_⟩) (by assumption) ?_
              rotate_left 1
              focus (intro wS hSw; (try dsimp only at hSw); go_simp; try with_reducible rfl)
              try simp only [List.setIfInBounds_toArray, List.set_cons_zero, List.set_cons_succ]
              refine take_slot (i := 3) (d := 41) (v := ?_) rfl rfl (by kernel_rfl) (by kernel_rfl) (by kernel_rfl) (fun _ _ _ h => h) (Or.inl ⟨by rfl, ?_⟩) (by assumption) ?_
              rotate_left 1
              focus (intro wS hSw; (try dsimp only at hSw); go_simp; try with_reducible rfl)
              try simp only [List.setIfInBounds_toArray, List.set_cons_zero, List.set_cons_succ]
              refine take_slot (i := 4) (d := 42) (v := ?_) rfl rfl (by kernel_rfl) (by kernel_rfl) (by kernel_rfl) (fun _ _ _ h => h) (Or.inl ⟨by rfl, ?_⟩) (by assumption) ?_
              rotate_left 1
              focus (intro wS hSw; (try dsimp only at hSw); go_simp; try with_reducible rfl)
              try simp only [List.setIfInBounds_toArray, List.set_cons_zero, List.set_cons_succ]
              refine take_slot (i := 5) (d := 43) (v := ?_) rfl rfl (by kernel_rfl) (by kernel_rfl) (by kernel_rfl) (fun _ _ _ h => h) (Or.inl ⟨by rfl, ?_⟩) (by assumption) ?_
              rotate_left 1
              focus (intro wS hSw; (try dsimp only at hSw); go_simp; try with_reducible rfl)
              try simp only [List.setIfInBounds_toArray, List.set_cons_zero, List.set_cons_succ]
              refine take_slot (i := 6) (d := 44) (v := ?_) rfl rfl (by kernel_rfl) (by kernel_rfl) (by kernel_rfl) (fun _ _ _ h => h) (Or.inl ⟨by rfl, ?_⟩) (by assumption) ?_
              rotate_left 1
              focus (intro wS hSw; (try dsimp only at hSw); go_simp; try with_reducible rfl)
              try simp only [List.setIfInBounds_toArray, List.set_cons_zero, List.set_cons_succ]
              refine take_slot (i := 7) (d := 45) (v := ?_) rfl rfl (by kernel_rfl) (by kernel_rfl) (by kernel_rfl) (fun _ _ _ h => h) (Or.inl ⟨by rfl, ?_⟩) (by assumption) ?_
              rotate_left 1
              focus (intro wS hSw; (try dsimp only at hSw); go_simp; try with_reducible rfl)
              try simp only [List.setIfInBounds_toArray, List.set_cons_zero, List.set_cons_succ]
              refine wpAnyH_done (by kernel_rfl) ?_ _
              replace hB := hB.trans (hL.mono hB.size)
              clear hHeld hL hBW
              go_wp2_with (at_builtin; refine wpList_append_own_at _ rfl (.tmp 46) (.tmp 47) 60 rfl (w.heap.size + 1) 65 i0 (.int .i64 0) 1 8 Try.underlying60 hi0 hiz0 hiz1 hiz2 rfl (by decide) V2 ((0 + 1) + 1) (intsV (([] ++ [1]) ++ [2])) rfl (World.ownsRow.alloc HO.out _) ⟨wd6.heap.size, 0, none⟩ 1 1 [.int .i64 3] rfl rfl ?_ ?_ ?_ ?_ ?_ ?_)
              case refine_6 =>
                intro V3 Y3 hown' hgrow _ hat
                have hb : Below (w.heap.size + 1) wd6 Y3 := ((Below.refl _ _).alloc nT _).grown hgrow (by simp; omega) (fun j hj => (World.ownsRow.lt HO.out j hj).1)
                replace T0 := cell_next hb (by omega) T0
                replace T1 := cell_next hb (by omega) T1
                replace C0 := cell_next hb (by omega) C0
                replace C1 := cell_next hb (by omega) C1
                replace hB := hB.trans (hb.mono (by omega))
                have hsz := hb.size
                replace nT : w.heap.size < Y3.heap.size := by omega
                replace nC : q < Y3.heap.size := by omega
                replace HO : Hid (Y3.ownsRow (w.heap.size + 1) 65 1 V3 (((0 + 1) + 1) + 1) (intsV ((([] ++ [1]) ++ [2]) ++ [3]))) := Lib.hid (by rw [intsV_append]; exact hown')
                clear hown' hgrow hat hb hsz
                go_wp2_with fail
                go_ret
                exact ⟨_, rfl, ns_own HO.out rfl, hB⟩
              all_goals first
                | (intro j u hj; rcases j with _ | j <;> simp at hj <;> subst hj <;> exact (cell_at _ _ _ _ _ (by simp)))
                | (simp [Value.oneCell']; done)
                | (unfold maxLen; omega)
                | omega
                | (simp; omega)
            all_goals first
              | (intro j u hj; rcases j with _ | j <;> simp at hj <;> subst hj <;> exact (cell_at _ _ _ _ _ (by simp)))
              | (simp [Value.oneCell']; done)
              | (unfold maxLen; omega)
              | omega
              | (simp; omega)
          all_goals first
            | (intro j u hj; rcases j with _ | j <;> simp at hj <;> subst hj <;> exact (cell_at _ _ _ _ _ (by simp)))
            | (simp [Value.oneCell']; done)
            | (unfold maxLen; omega)
            | omega
            | (simp; omega)

set_option maxRecDepth 20000 in
set_option maxHeartbeats 2000000 in
theorem kinds_ok (r : Ru4) (a b : Int) (w : World) (hr : RuOk r) (ht : rgB (-600) 600 a b = true) :
    Calls Try.prog 17 #[.agg (cRu r), .agg #[.int .i64 a, .int .i64 b]] w fun e w' => ∃ v, e = .returned (.tuple #[v, .int .i64 0]) ∧ NsAt w'.heap.size w' v (kiL r.fr r.th a b) ∧ Below w.heap.size w w' := by
  have CV := Lib.hid (fun (b : Nat) (W : World) => valid_ok r b W hr)
  have CR := Lib.hid (fun (W : World) => trangeIn_any (-600) 600 a b W)
  rw [ht] at CR
  have hab : a ≤ b := by simp [rgB, inB] at ht; omega
  have hft := hr.h2
  simp only [decide_eq_true_eq] at hft
  have CK := Lib.hid (fun (q : Nat) (W : World) => kinds_b r.fr r.th a b _ _ _ _ rfl rfl rfl rfl (by simp; omega) (by simp; omega) (by simp; omega) (by simp; omega) q W)
  change Hid (∀ (q : Nat) (W : World), q < W.heap.size → _ → _ → Calls Try.prog 47 _ W fun e w' => ∃ v, e = .returned v ∧ NsAt w'.heap.size w' v (kiL r.fr r.th a b) ∧ Below W.heap.size W w') at CK
  generalize kiL r.fr r.th a b = ks at *
  obtain ⟨fr, th, ga, fu, ic, mo, me, rl, rh, pu⟩ := r
  clear hr ht hab hft
  simp only [cRu] at *
  try dsimp only at CV CK
  go_enter Try.func17, Try.ntmps17
  go_wp2_with fail
  refine (CV.out _ _ (by simp) (by simp [go_sem]) (by simp [go_sem]) (by simp [go_sem]) (by simp [go_sem]) (by simp [go_sem]) (by simp [go_sem]) (by simp [go_sem]) (by simp [go_sem]) (by simp [go_sem]) (by simp [go_sem])).mono ?_
  rintro e W1 ⟨rfl, hb⟩
  have nA : w.heap.size < W1.heap.size := by have := hb.size; simp at this; omega
  have S0 := cell_next hb (b := w.heap.size + 1) (o := 0) (by simp <;> omega) (v := some (.int .i64 a)) (by simp [go_sem])
  have S1 := cell_next hb (b := w.heap.size + 1) (o := 1) (by simp <;> omega) (v := some (.int .i64 b)) (by simp [go_sem])
  have nS : w.heap.size + 1 < W1.heap.size := by have := hb.size; simp at this; omega
  have C0 := cell_next hb (b := w.heap.size + 1 + 1) (o := 0) (by simp <;> omega) (v := some (.int .i64 fr)) (by simp [go_sem])
  have C1 := cell_next hb (b := w.heap.size + 1 + 1) (o := 1) (by simp <;> omega) (v := some (.int .i64 th)) (by simp [go_sem])
  have C2 := cell_next hb (b := w.heap.size + 1 + 1) (o := 2) (by simp <;> omega) (v := some (.int .i64 ga)) (by simp [go_sem])
  have C3 := cell_next hb (b := w.heap.size + 1 + 1) (o := 3) (by simp <;> omega) (v := some (.int .i64 fu)) (by simp [go_sem])
  have C4 := cell_next hb (b := w.heap.size + 1 + 1) (o := 4) (by simp <;> omega) (v := some (.int .i64 ic)) (by simp [go_sem])
  have C5 := cell_next hb (b := w.heap.size + 1 + 1) (o := 5) (by simp <;> omega) (v := some (.int .i64 mo)) (by simp [go_sem])
  have C6 := cell_next hb (b := w.heap.size + 1 + 1) (o := 6) (by simp <;> omega) (v := some (.int .i64 me)) (by simp [go_sem])
  have C7 := cell_next hb (b := w.heap.size + 1 + 1) (o := 7) (by simp <;> omega) (v := some (.int .i64 rl)) (by simp [go_sem])
  have C8 := cell_next hb (b := w.heap.size + 1 + 1) (o := 8) (by simp <;> omega) (v := some (.int .i64 rh)) (by simp [go_sem])
  have C9 := cell_next hb (b := w.heap.size + 1 + 1) (o := 9) (by simp <;> omega) (v := some (.int .i64 pu)) (by simp [go_sem])
  have nC : w.heap.size + 1 + 1 < W1.heap.size := by have := hb.size; simp at this; omega
  have hB := (below3 hb)
  clear hb
  go_wp2_with fail
  refine (CR.out _).mono ?_
  rintro e W2 ⟨rfl, hb⟩
  replace nA := Nat.lt_of_lt_of_le nA hb.size
  replace S0 := cell_next hb nS S0
  replace S1 := cell_next hb nS S1
  replace nS := Nat.lt_of_lt_of_le nS hb.size
  replace C0 := cell_next hb nC C0
  replace C1 := cell_next hb nC C1
  replace C2 := cell_next hb nC C2
  replace C3 := cell_next hb nC C3
  replace C4 := cell_next hb nC C4
  replace C5 := cell_next hb nC C5
  replace C6 := cell_next hb nC C6
  replace C7 := cell_next hb nC C7
  replace C8 := cell_next hb nC C8
  replace C9 := cell_next hb nC C9
  replace nC := Nat.lt_of_lt_of_le nC hb.size
  replace hB := hB.trans (hb.mono hB.size)
  clear hb
  go_wp2_with fail
  refine (CK.out _ _ nC C0 C1).mono ?_
  rintro e W3 ⟨v, rfl, hv, hb⟩
  replace nA := Nat.lt_of_lt_of_le nA hb.size
  replace S0 := cell_next hb nS S0
  replace S1 := cell_next hb nS S1
  replace nS := Nat.lt_of_lt_of_le nS hb.size
  replace C0 := cell_next hb nC C0
  replace C1 := cell_next hb nC C1
  replace C2 := cell_next hb nC C2
  replace C3 := cell_next hb nC C3
  replace C4 := cell_next hb nC C4
  replace C5 := cell_next hb nC C5
  replace C6 := cell_next hb nC C6
  replace C7 := cell_next hb nC C7
  replace C8 := cell_next hb nC C8
  replace C9 := cell_next hb nC C9
  replace nC := Nat.lt_of_lt_of_le nC hb.size
  replace hB := hB.trans (hb.mono hB.size)
  clear hb
  go_wp2_with fail
  go_ret2
  exact ⟨v, by simp, hv, hB⟩
end Go.Proofs.Ytfdaiififoomoaa
