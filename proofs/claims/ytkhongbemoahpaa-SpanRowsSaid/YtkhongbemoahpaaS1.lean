/- Contracts: a row that is in order stays as it is when it is sorted by slices.SortStableFunc (at most 20 elements); the numbers of values that never rise. -/
import Derived.Test.YtkhongbemoahpaaT5
import Derived.Test.YtkhongbemoahpaaC12
namespace Go.Proofs.Ytkhongbemoahpaa
open Go.RowKit Go.Lib Go.Shelf
set_option linter.unusedVariables false
set_option linter.unusedSimpArgs false
attribute [local go_sem ↓] Go.wp_at_zero Go.wp_at_succ

/-- comparing neighbours of a row 0, 1, 2 .. never says that the second one goes first -/
def NoSwap (F : Nat) (caps : Array Value) (n : Nat) (w : World) : Prop :=
  ∀ k, k + 1 < n → ∃ r : Int, 0 ≤ r ∧ r ≤ 4000000000000000000 ∧ ∀ W : World, Below w.heap.size w W → Calls Try.prog F (#[.int .i64 ((k : Int) + 1), .int .i64 (k : Int)] ++ caps) W fun e w' => e = .returned (.int .i64 r) ∧ Below W.heap.size W w'
def UpRow (w : World) (g off n : Nat) : Prop := ∀ j, j < n → w.cell? ⟨g, off + j, none⟩ = some (.int .i64 (j : Int))

set_option maxRecDepth 20000 in
set_option maxHeartbeats 1000000 in
theorem isort_noop (F : Nat) (c : Value) (hE : ∀ args w, (callFunc F args).run Try.prog w = .ok (.enter F args) w) (g off n cap : Nat) (hn : n ≤ 1000) (w : World) (hg : g < w.heap.size) (hu : UpRow w g off n) (hc : NoSwap F #[c] n w) :
    Calls Try.prog 64 #[.slice (some ⟨g, off, none⟩) n cap, .int .i64 0, .int .i64 n, .func (Fn.func F) #[] #[c]] w fun e w' => e = .returned (.tuple #[]) ∧ Below w.heap.size w w' := by
  have HU := Lib.hid hu
  have HC := Lib.hid hc
  clear hu hc
  go_enter Try.func64, Try.ntmps64
  go_wp2_with fail
  go_loopw [8, 9] (fun i j wr => ∃ k : Nat, (k + 1 ≤ n ∨ k = 0) ∧ i = .int .i64 ((k : Int) + 1) ∧ Below w.heap.size w wr) (fun i _ _ => n - (RowKit.intOf i).toNat)
  case atStart => exact ⟨0, .inr rfl, rfl, Below.refl _ _⟩
  case round =>
    obtain ⟨k, hk, rfl, hbr⟩ := hrel
    obtain ⟨wo, rfl⟩ : ∃ wo : World, wo = wr := ⟨_, rfl⟩
    by_cases hlt : (k : Int) + 1 < (n : Int)
    · obtain ⟨r, hr0, hr1, hcall⟩ := HC.out k (by omega)
      have hc1 : Hid (∀ W : World, Below wo.heap.size wo W → Calls Try.prog F #[.int .i64 ((k : Int) + 1), .int .i64 (k : Int), c] W fun e w' => e = .returned (.int .i64 r) ∧ Below W.heap.size W w') := Lib.hid fun W hW => hcall W (hbr.trans (hW.mono hbr.size))
      have z0 := cell_next hbr hg (HU.out (k + 1) (by omega))
      have z1 := cell_next hbr hg (HU.out k (by omega))
      rw [show ((k + 1 : Nat) : Int) = (k : Int) + 1 from rfl] at z0
      have hgr : g < wo.heap.size := Nat.lt_of_lt_of_le hg hbr.size
      have hk0 : (0 : Int) ≤ (k : Int) := by omega
      have hk1 : (k : Int) < (n : Int) := by omega
      have hk3 : (0 : Int) ≤ (k : Int) + 1 := by omega
      have hk4 : (0 : Int) < (k : Int) + 1 := by omega
      have hwk : IntKind.i64.wrap (k : Int) = (k : Int) := IntWalk.i64_in _ (by omega)
      have hwk1 : IntKind.i64.wrap ((k : Int) + 1) = (k : Int) + 1 := IntWalk.i64_in _ (by omega)
      have SB : Hid (∀ W' : World, Below wo.heap.size wo W' → W'.cell? ⟨g, off + (k + 1), none⟩ = some (.int .i64 ((k : Int) + 1)) ∧ W'.cell? ⟨g, off + k, none⟩ = some (.int .i64 (k : Int)) ∧ Below wo.heap.size wo W') := Lib.hid fun W' hb =>
        ⟨cell_next hb hgr z0, cell_next hb hgr z1, hb⟩
      clear z0 z1 hcall
      go_wp2_with fail
      go_loopw [9] (fun j wi => j = .int .i64 ((k : Int) + 1) ∧ Below wo.heap.size wo wi) (fun _ _ => 0)
      case atStart => exact ⟨rfl, Below.refl _ _⟩
      case round =>
        obtain ⟨rfl, hbi⟩ := hrel
        have SC : Hid (∀ W' : World, Below wr.heap.size wr W' → W'.cell? ⟨g, off + (k + 1), none⟩ = some (.int .i64 ((k : Int) + 1)) ∧ W'.cell? ⟨g, off + k, none⟩ = some (.int .i64 (k : Int)) ∧ Below wr.heap.size wr W') := Lib.hid fun W' hb =>
          have h := SB.out W' (hbi.trans (hb.mono hbi.size)); ⟨h.1, h.2.1, hb⟩
        have hc2 : Hid (∀ W : World, Below wr.heap.size wr W → Calls Try.prog F #[.int .i64 ((k : Int) + 1), .int .i64 (k : Int), c] W fun e w' => e = .returned (.int .i64 r) ∧ Below W.heap.size W w') := Lib.hid fun W hW => hc1.out W (hbi.trans (hW.mono hbi.size))
        have hS := SC.out wr (Below.refl _ _)
        go_wp2_with fail
        refine wp_region_held_drew (S := fun W' => W'.cell? ⟨g, off + (k + 1), none⟩ = some (.int .i64 ((k : Int) + 1)) ∧ W'.cell? ⟨g, off + k, none⟩ = some (.int .i64 (k : Int)) ∧ Below wr.heap.size wr W') (by kernel_rfl) ?_ (fun hHeld => ?_)
        focus (exact SC.out _ (Below.drew (Below.refl _ _)))
        refine take_slot (i := 0) (d := 18) (v := ?_) rfl rfl (by kernel_rfl) (by kernel_rfl) (by kernel_rfl) (fun _ _ _ h => h) (Or.inl ⟨by rfl, ?_⟩) (by assumption) ?_
        rotate_left 1
        focus (intro wS hSw; (try dsimp only at hSw); go_simp; try with_reducible rfl)
        try simp only [List.setIfInBounds_toArray, List.set_cons_zero, List.set_cons_succ]
        refine take_slot (i := 1) (d := 19) (v := ?_) rfl rfl (by kernel_rfl) (by kernel_rfl) (by kernel_rfl) (fun _ _ _ h => h) (Or.inl ⟨by rfl, ?_⟩) (by assumption) ?_
        rotate_left 1
        focus (intro wS hSw; (try dsimp only at hSw); go_simp; try with_reducible rfl)
        try simp only [List.setIfInBounds_toArray, List.set_cons_zero, List.set_cons_succ]
        refine take_slot (i := 2) (d := 20) (v := ?_) rfl rfl (by kernel_rfl) (by kernel_rfl) (by kernel_rfl) (fun _ _ _ h => h) (Or.inl ⟨by rfl, ?_⟩) (by assumption) ?_
        rotate_left 1
        focus (intro wS hSw; (try dsimp only at hSw); go_simp; try with_reducible rfl)
        try simp only [List.setIfInBounds_toArray, List.set_cons_zero, List.set_cons_succ]
        refine take_slot (i := 3) (d := 21) (v := ?_) rfl rfl (by kernel_rfl) (by kernel_rfl) (by kernel_rfl) (fun _ _ _ h => h) (Or.inl ⟨by rfl, ?_⟩) (by assumption) ?_
        rotate_left 1
        focus (intro wS hSw; (try dsimp only at hSw); go_simp; try with_reducible rfl)
        try simp only [List.setIfInBounds_toArray, List.set_cons_zero, List.set_cons_succ]
        refine take_slot (i := 4) (d := 22) (v := ?_) rfl rfl (by kernel_rfl) (by kernel_rfl) (by kernel_rfl) (fun _ _ _ h => h) (Or.inl ⟨by rfl, ?_⟩) (by assumption) ?_
        rotate_left 1
        focus (intro wS hSw; (try dsimp only at hSw); go_simp; try with_reducible rfl)
        try simp only [List.setIfInBounds_toArray, List.set_cons_zero, List.set_cons_succ]
        refine take_slot (i := 5) (d := 23) (v := ?_) rfl rfl (by kernel_rfl) (by kernel_rfl) (by kernel_rfl) (fun _ _ _ h => h) (Or.inl ⟨by rfl, ?_⟩) (by assumption) ?_
        rotate_left 1
        focus (intro wS hSw; (try dsimp only at hSw); go_simp; try with_reducible rfl)
        try simp only [List.setIfInBounds_toArray, List.set_cons_zero, List.set_cons_succ]
        refine take_slot (i := 6) (d := 24) (v := ?_) rfl rfl (by kernel_rfl) (by kernel_rfl) (by kernel_rfl) (fun _ _ _ h => h) (Or.inl ⟨by rfl, ?_⟩) (by assumption) ?_
        rotate_left 1
        focus (intro wS hSw; (try dsimp only at hSw); go_simp; try with_reducible rfl)
        try simp only [List.setIfInBounds_toArray, List.set_cons_zero, List.set_cons_succ]
        refine take_slot (i := 7) (d := 25) (v := ?_) rfl rfl (by kernel_rfl) (by kernel_rfl) (by kernel_rfl) (fun _ _ _ h => h) (Or.inl ⟨by rfl, ?_⟩) (by assumption) ?_
        rotate_left 1
        focus (intro wS hSw; (try dsimp only at hSw); go_simp; try with_reducible rfl)
        try simp only [List.setIfInBounds_toArray, List.set_cons_zero, List.set_cons_succ]
        refine take_slot (i := 8) (d := 26) (v := ?_) rfl rfl (by kernel_rfl) (by kernel_rfl) (by kernel_rfl) (fun _ _ _ h => h) (Or.inl ⟨by rfl, ?_⟩) (by assumption) ?_
        rotate_left 1
        focus (intro wS hSw; (try dsimp only at hSw); go_simp; try with_reducible rfl)
        try simp only [List.setIfInBounds_toArray, List.set_cons_zero, List.set_cons_succ]
        refine take_slot (i := 9) (d := 27) (v := ?_) rfl rfl (by kernel_rfl) (by kernel_rfl) (by kernel_rfl) (fun _ _ _ h => h) (Or.inl ⟨by rfl, ?_⟩) (by assumption) ?_
        rotate_left 1
        focus (intro wS hSw; (try dsimp only at hSw); go_simp; try with_reducible rfl)
        try simp only [List.setIfInBounds_toArray, List.set_cons_zero, List.set_cons_succ]
        refine take_slot (i := 10) (d := 28) (v := ?_) rfl rfl (by kernel_rfl) (by kernel_rfl) (by kernel_rfl) (fun _ _ _ h => h) (Or.inl ⟨by rfl, ?_⟩) (by assumption) ?_
        rotate_left 1
        focus (intro wS hSw; (try dsimp only at hSw); go_simp; try with_reducible rfl)
        try simp only [List.setIfInBounds_toArray, List.set_cons_zero, List.set_cons_succ]
        refine take_slot (i := 11) (d := 29) (v := ?_) rfl rfl (by kernel_rfl) (by kernel_rfl) (by kernel_rfl) (fun _ _ _ h => h) (Or.inl ⟨by rfl, ?_⟩) (by assumption) ?_
        rotate_left 1
        focus (intro wS hSw; (try dsimp only at hSw); go_simp; try with_reducible rfl)
        try simp only [List.setIfInBounds_toArray, List.set_cons_zero, List.set_cons_succ]
        refine take_slot (i := 12) (d := 30) (v := ?_) rfl rfl (by kernel_rfl) (by kernel_rfl) (by kernel_rfl) (fun _ _ _ h => h) (Or.inl ⟨by rfl, ?_⟩) (by assumption) ?_
        rotate_left 1
        focus (intro wS hSw; (try dsimp only at hSw); go_simp; try with_reducible rfl)
        try simp only [List.setIfInBounds_toArray, List.set_cons_zero, List.set_cons_succ]
        refine take_slot (i := 13) (d := 31) (v := ?_) rfl rfl (by kernel_rfl) (by kernel_rfl) (by kernel_rfl) (fun _ _ _ h => h) (Or.inl ⟨by rfl, ?_⟩) (by assumption) ?_
        rotate_left 1
        focus (intro wS hSw; (try dsimp only at hSw); go_simp; try with_reducible rfl)
        try simp only [List.setIfInBounds_toArray, List.set_cons_zero, List.set_cons_succ]
        refine wpAnyH_ready (rs := [14]) (by kernel_rfl) (by simp) ?_
        refine AllReadyH.cons rfl (fun K hK => ?_) AllReadyH.nil
        go_simp
        refine (hc2.out _ hHeld.2.2).mono ?_; rintro e w5 ⟨rfl, hb5⟩
        refine hK.out _ _ ?_ (fun hHeld => ?_)
        focus (exact SC.out _ (hHeld.2.2.trans (hb5.mono hHeld.2.2.size)))
        clear hK K
        try simp only [Act.put, List.setIfInBounds_toArray, List.set_cons_zero, List.set_cons_succ]
        refine take_slot (i := 15) (d := 33) (v := ?_) rfl rfl (by kernel_rfl) (by kernel_rfl) (by kernel_rfl) (fun _ _ _ h => h) (Or.inl ⟨by rfl, ?_⟩) (by assumption) ?_
        rotate_left 1
        focus (intro wS hSw; (try dsimp only at hSw); go_simp; try with_reducible rfl)
        try simp only [List.setIfInBounds_toArray, List.set_cons_zero, List.set_cons_succ]
        refine take_slot (i := 16) (d := 34) (v := ?_) rfl rfl (by kernel_rfl) (by kernel_rfl) (by kernel_rfl) (fun _ _ _ h => h) (Or.inl ⟨by rfl, ?_⟩) (by assumption) ?_
        rotate_left 1
        focus (intro wS hSw; (try dsimp only at hSw); go_simp; try with_reducible rfl)
        try simp only [List.setIfInBounds_toArray, List.set_cons_zero, List.set_cons_succ]
        refine wpAnyH_done (by kernel_rfl) ?_ _
        have hbz := hbr.trans ((hbi.trans (hHeld.2.2.mono hbi.size)).mono hbr.size)
        clear hS SC hc2
        go_wp2_with fail
        go_roundw
        case rel => exact ⟨k + 1, .inl (by omega), by go_num, hbz⟩
        case measure => simp [RowKit.intOf]; omega
    · go_wp2_with fail
      go_end0
      exact ⟨rfl, hbr⟩
end Go.Proofs.Ytkhongbemoahpaa

