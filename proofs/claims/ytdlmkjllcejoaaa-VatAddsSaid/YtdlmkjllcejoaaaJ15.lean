/- Contracts: U36, W24, U37, joined. -/
import Derived.Test.YtdlmkjllcejoaaaJ14
import Derived.Test.YtdlmkjllcejoaaaU25
namespace Go.Proofs.Ytdlmkjllcejoaaa
open Go.RowKit Go.Lib Go.Shelf
set_option linter.unusedVariables false
set_option linter.unusedSimpArgs false
attribute [local go_sem ↓] Go.wp_at_zero Go.wp_at_succ

set_option maxRecDepth 20000 in
set_option maxHeartbeats 1000000 in
theorem plusL_any (g off : Nat) (xs : List (Int × Int)) (c : Nat) (w : World) (hx : ∀ p ∈ xs, smB p) (hg : g < w.heap.size) (hr : RRd w g off xs) (hl : xs.length ≤ 1000) :
    Calls Try.prog 18 #[.slice (some ⟨g, off, none⟩) xs.length c] w fun e w' =>
      e = .returned (.agg #[.int .i64 (suU xs).1, .int .i64 (suU xs).2]) ∧ Below w.heap.size w w' := by
  obtain ⟨n, hn⟩ : ∃ n, xs.length = n := ⟨_, rfl⟩
  rw [hn] at hl ⊢
  have Hn := Lib.hid hn
  clear hn
  have HX := Lib.hid hx
  have HR := Lib.hid hr
  clear hx hr
  go_enter Try.func18, Try.ntmps18
  go_wp2_with fail
  go_loopw [4] (fun i wr => ∃ (k : Nat) (a : Int × Int), k ≤ n ∧ i = .int .i64 k ∧ Hid (a = suU (xs.take k)) ∧ Hid (0 ≤ a.1 ∧ a.1 ≤ 1000000000000000 * k ∧ 0 ≤ a.2 ∧ a.2 ≤ 1000000000000000 * k) ∧ wr.cell? ⟨w.heap.size + 1, 0, none⟩ = some (.int .i64 a.1) ∧ wr.cell? ⟨w.heap.size + 1, 1, none⟩ = some (.int .i64 a.2) ∧ wr.frozen? ⟨w.heap.size + 1, 0, none⟩ = false ∧ wr.frozen? ⟨w.heap.size + 1, 1, none⟩ = false ∧
      wr.cell? ⟨w.heap.size, 0, none⟩ = some (.int .i64 0) ∧ wr.cell? ⟨w.heap.size, 1, none⟩ = some (.int .i64 0) ∧ wr.frozen? ⟨w.heap.size, 0, none⟩ = false ∧ wr.frozen? ⟨w.heap.size, 1, none⟩ = false ∧ w.heap.size + 1 < wr.heap.size ∧ Below w.heap.size w wr) (fun i _ => n - (RowKit.intOf i).toNat)
  case atStart =>
    refine ⟨0, (0, 0), Nat.zero_le _, rfl, Lib.hid rfl, Lib.hid (by simp), ?_, ?_, ?_, ?_, ?_, ?_, ?_, ?_, ?_, ?_⟩
    all_goals first | (simp; done) | exact below_al2 w _ _
  case round =>
    obtain ⟨k, ⟨a0, a1⟩, hk, rfl, ha, hDa, c0, c1, f0, f1, d0, d1, e0, e1, hz, hbr⟩ := hrel
    have hz0 : w.heap.size < wr.heap.size := by omega
    have hgw : g < wr.heap.size := by omega
    dsimp only at c0 c1
    by_cases hlt : k < n
    · have hkl : k < xs.length := by rw [Hn.out]; exact hlt
      obtain ⟨⟨p0, p1⟩, hp⟩ : ∃ p, xs[k]? = some p := ⟨_, List.getElem?_eq_getElem hkl⟩
      have hpD : smB (p0, p1) := HX.out _ (List.mem_of_getElem? hp)
      obtain ⟨q0, q1⟩ := (HR.out.below hbr hg) k _ hp
      obtain ⟨r1, r2, r3, r4⟩ := hpD
      obtain ⟨r5, r6, r7, r8⟩ := hDa.out
      have haq : Hid ((a0 + p0, a1 + p1) = suU (xs.take (k + 1))) := Lib.hid (by rw [List.take_add_one, hp, show (some (p0, p1)).toList = [(p0, p1)] from rfl, suU_snoc, ← ha.out]; rfl)
      have hDq : Hid (0 ≤ a0 + p0 ∧ a0 + p0 ≤ 1000000000000000 * ((k + 1 : Nat) : Int) ∧ 0 ≤ a1 + p1 ∧ a1 + p1 ≤ 1000000000000000 * ((k + 1 : Nat) : Int)) := Lib.hid ⟨by omega, by omega, by omega, by omega⟩
      have s0 : IntKind.i64.wrap (a0 + p0) = a0 + p0 := IntWalk.i64_in _ (by omega)
      have s1 : IntKind.i64.wrap (a1 + p1) = a1 + p1 := IntWalk.i64_in _ (by omega)
      clear hp r1 r2 r3 r4 r5 r6 r7 r8 hDa ha
      dsimp only at q0 q1
      go_wp2_with fail
      have wk : IntKind.i64.wrap ((k : Int) + 1) = ((k + 1 : Nat) : Int) := IntWalk.i64_in _ (by omega)
      have hBW : w.heap.size ≤ wr.heap.size := by omega
      have hgn : g < w.heap.size := hg
      refine wp_region_held_drew (S := fun w' => w'.cell? ⟨g, off + k * 2, none⟩ = some (.int .i64 p0) ∧ w'.cell? ⟨g, off + k * 2 + 1, none⟩ = some (.int .i64 p1) ∧ True) (by kernel_rfl) ?_ (fun hHeld => ?_)
      focus (exact ⟨q0, q1, trivial⟩)
      have hL : Below w.heap.size wr wr.drew := Below.drew (Below.refl _ _)
      replace c0 : wr.drew.cell? ⟨w.heap.size + 1, 0, none⟩ = some (.int .i64 a0) := c0
      replace c1 : wr.drew.cell? ⟨w.heap.size + 1, 1, none⟩ = some (.int .i64 a1) := c1
      replace q0 : wr.drew.cell? ⟨g, off + k * 2, none⟩ = some (.int .i64 p0) := q0
      replace q1 : wr.drew.cell? ⟨g, off + k * 2 + 1, none⟩ = some (.int .i64 p1) := q1
      replace d0 : wr.drew.cell? ⟨w.heap.size, 0, none⟩ = some (.int .i64 0) := d0
      replace d1 : wr.drew.cell? ⟨w.heap.size, 1, none⟩ = some (.int .i64 0) := d1
      replace f0 : wr.drew.frozen? ⟨w.heap.size + 1, 0, none⟩ = false := f0
      replace f1 : wr.drew.frozen? ⟨w.heap.size + 1, 1, none⟩ = false := f1
      replace e0 : wr.drew.frozen? ⟨w.heap.size, 0, none⟩ = false := e0
      replace e1 : wr.drew.frozen? ⟨w.heap.size, 1, none⟩ = false := e1
      replace hz : w.heap.size + 1 < wr.drew.heap.size := hz
      replace hgw : g < wr.drew.heap.size := hgw
      replace hz0 : w.heap.size < wr.drew.heap.size := hz0
      generalize hWd : wr.drew = wd at hHeld hL c0 c1 q0 q1 d0 d1 f0 f1 e0 e1 hz hgw hz0  ⊢
      clear hWd
      refine take_slot (i := 0) (d := 12) (v := ?_) rfl rfl (by kernel_rfl) (by kernel_rfl) (by kernel_rfl) (fun _ _ _ h => h) (Or.inl ⟨by rfl, ?_⟩) (by assumption) ?_
      rotate_left 1
      focus (intro wS hSw; (try dsimp only at hSw); go_simp; try with_reducible rfl)
      try simp only [List.setIfInBounds_toArray, List.set_cons_zero, List.set_cons_succ]
      refine take_slot (i := 2) (d := 14) (v := ?_) rfl rfl (by kernel_rfl) (by kernel_rfl) (by kernel_rfl) (fun _ _ _ h => h) (Or.inl ⟨by rfl, ?_⟩) (by assumption) ?_
      rotate_left 1
      focus (intro wS hSw; (try dsimp only at hSw); go_simp; try with_reducible rfl)
      try simp only [List.setIfInBounds_toArray, List.set_cons_zero, List.set_cons_succ]
      refine take_slot (i := 3) (d := 15) (v := ?_) rfl rfl (by kernel_rfl) (by kernel_rfl) (by kernel_rfl) (fun _ _ _ h => h) (Or.inl ⟨by rfl, ?_⟩) (by assumption) ?_
      rotate_left 1
      focus (intro wS hSw; (try dsimp only at hSw); go_simp; try with_reducible rfl)
      try simp only [List.setIfInBounds_toArray, List.set_cons_zero, List.set_cons_succ]
      refine take_slot (i := 4) (d := 16) (v := ?_) rfl rfl (by kernel_rfl) (by kernel_rfl) (by kernel_rfl) (fun _ _ _ h => h) (Or.inl ⟨by rfl, ?_⟩) (by assumption) ?_
      rotate_left 1
      focus (intro wS hSw; (try dsimp only at hSw); go_simp; try with_reducible rfl)
      try simp only [List.setIfInBounds_toArray, List.set_cons_zero, List.set_cons_succ]
      refine take_slot (i := 5) (d := 17) (v := ?_) rfl rfl (by kernel_rfl) (by kernel_rfl) (by kernel_rfl) (fun _ _ _ h => h) (Or.inl ⟨by rfl, ?_⟩) (by assumption) ?_
      rotate_left 1
      focus (intro wS hSw; (try dsimp only at hSw); go_simp; try with_reducible rfl)
      try simp only [List.setIfInBounds_toArray, List.set_cons_zero, List.set_cons_succ]
      refine take_slot (i := 6) (d := 18) (v := ?_) rfl rfl (by kernel_rfl) (by kernel_rfl) (by kernel_rfl) (fun _ _ _ h => h) (Or.inl ⟨by rfl, ?_⟩) (by assumption) ?_
      rotate_left 1
      focus (intro wS hSw; (try dsimp only at hSw); go_simp; try with_reducible rfl)
      try simp only [List.setIfInBounds_toArray, List.set_cons_zero, List.set_cons_succ]
      refine take_slot (i := 8) (d := 20) (v := ?_) rfl rfl (by kernel_rfl) (by kernel_rfl) (by kernel_rfl) (fun _ _ _ h => h) (Or.inl ⟨by rfl, ?_⟩) (by assumption) ?_
      rotate_left 1
      focus (intro wS hSw; (try dsimp only at hSw); go_simp; try with_reducible rfl)
      try simp only [List.setIfInBounds_toArray, List.set_cons_zero, List.set_cons_succ]
      refine take_slot (i := 10) (d := 22) (v := ?_) rfl rfl (by kernel_rfl) (by kernel_rfl) (by kernel_rfl) (fun _ _ _ h => h) (Or.inl ⟨by rfl, ?_⟩) (by assumption) ?_
      rotate_left 1
      focus (intro wS hSw; (try dsimp only at hSw); go_simp; try with_reducible rfl)
      try simp only [List.setIfInBounds_toArray, List.set_cons_zero, List.set_cons_succ]
      refine take_slot (i := 11) (d := 23) (v := ?_) rfl rfl (by kernel_rfl) (by kernel_rfl) (by kernel_rfl) (fun _ _ _ h => h) (Or.inl ⟨by rfl, ?_⟩) (by assumption) ?_
      rotate_left 1
      focus (intro wS hSw; (try dsimp only at hSw); go_simp; try with_reducible rfl)
      try simp only [List.setIfInBounds_toArray, List.set_cons_zero, List.set_cons_succ]
      refine take_slot (i := 12) (d := 24) (v := ?_) rfl rfl (by kernel_rfl) (by kernel_rfl) (by kernel_rfl) (fun _ _ _ h => h) (Or.inl ⟨by rfl, ?_⟩) (by assumption) ?_
      rotate_left 1
      focus (intro wS hSw; (try dsimp only at hSw); go_simp; try with_reducible rfl)
      try simp only [List.setIfInBounds_toArray, List.set_cons_zero, List.set_cons_succ]
      refine take_slot (i := 13) (d := 25) (v := ?_) rfl rfl (by kernel_rfl) (by kernel_rfl) (by kernel_rfl) (fun _ _ _ h => h) (Or.inl ⟨by rfl, ?_⟩) (by assumption) ?_
      rotate_left 1
      focus (intro wS hSw; (try dsimp only at hSw); go_simp; try with_reducible rfl)
      try simp only [List.setIfInBounds_toArray, List.set_cons_zero, List.set_cons_succ]
      refine take_slot (i := 14) (d := 26) (v := ?_) rfl rfl (by kernel_rfl) (by kernel_rfl) (by kernel_rfl) (fun _ _ _ h => h) (Or.inl ⟨by rfl, ?_⟩) (by assumption) ?_
      rotate_left 1
      focus (intro wS hSw; (try dsimp only at hSw); go_simp; try with_reducible rfl)
      try simp only [List.setIfInBounds_toArray, List.set_cons_zero, List.set_cons_succ]
      refine wpAnyH_ready (rs := [1, 9]) (by kernel_rfl) (by simp) ?_
      refine AllReadyH.cons rfl (fun K hK => ?_) (AllReadyH.cons rfl (fun K hK => ?_) AllReadyH.nil)
      · go_simp
        refine hK.out _ _ ⟨q0, q1, trivial⟩ (fun hHeld => ?_)
        clear hK K
        try simp only [Act.put, List.setIfInBounds_toArray, List.set_cons_zero, List.set_cons_succ]
        refine take_slot (i := 7) (d := 19) (v := ?_) rfl rfl (by kernel_rfl) (by kernel_rfl) (by kernel_rfl) (fun _ _ _ h => h) (Or.inl ⟨by rfl, ?_⟩) (by assumption) ?_
        rotate_left 1
        focus (intro wS hSw; (try dsimp only at hSw); go_simp; try with_reducible rfl)
        try simp only [List.setIfInBounds_toArray, List.set_cons_zero, List.set_cons_succ]
        refine wpAnyH_ready (rs := [9]) (by kernel_rfl) (by simp) ?_
        refine AllReadyH.cons rfl (fun K hK => ?_) AllReadyH.nil
        go_simp
        refine hK.out _ _ ⟨q0, q1, trivial⟩ (fun hHeld => ?_)
        clear hK K
        try simp only [Act.put, List.setIfInBounds_toArray, List.set_cons_zero, List.set_cons_succ]
        refine take_slot (i := 15) (d := 27) (v := ?_) rfl rfl (by kernel_rfl) (by kernel_rfl) (by kernel_rfl) (fun _ _ _ h => h) (Or.inl ⟨by rfl, ?_⟩) (by assumption) ?_
        rotate_left 1
        focus (intro wS hSw; (try dsimp only at hSw); go_simp; try with_reducible rfl)
        try simp only [List.setIfInBounds_toArray, List.set_cons_zero, List.set_cons_succ]
        refine take_slot (i := 16) (d := 28) (v := ?_) rfl rfl (by kernel_rfl) (by kernel_rfl) (by kernel_rfl) (fun _ _ _ h => h) (Or.inl ⟨by rfl, ?_⟩) (by assumption) ?_
        rotate_left 1
        focus (intro wS hSw; (try dsimp only at hSw); go_simp; try with_reducible rfl)
        try simp only [List.setIfInBounds_toArray, List.set_cons_zero, List.set_cons_succ]
        refine wpAnyH_ready (rs := [17]) (by kernel_rfl) (by simp) ?_
        refine AllReadyH.cons rfl (fun K hK => ?_) AllReadyH.nil
        go_simp
        replace c0 : (wd.setCell ⟨w.heap.size + 1, 0, none⟩ (.int .i64 (a0 + p0))).cell? ⟨w.heap.size + 1, 0, none⟩ = some (.int .i64 (a0 + p0)) := by simp [go_sem, c0]
        replace c1 : (wd.setCell ⟨w.heap.size + 1, 0, none⟩ (.int .i64 (a0 + p0))).cell? ⟨w.heap.size + 1, 1, none⟩ = some (.int .i64 a1) := ((World.cell?_setCell_other _ _ _ _ (by intro e; injection e with e1 e2; omega)).trans c1)
        replace q0 : (wd.setCell ⟨w.heap.size + 1, 0, none⟩ (.int .i64 (a0 + p0))).cell? ⟨g, off + k * 2, none⟩ = some (.int .i64 p0) := ((World.cell?_setCell_other _ _ _ _ (by intro e; injection e with e1 e2; omega)).trans q0)
        replace q1 : (wd.setCell ⟨w.heap.size + 1, 0, none⟩ (.int .i64 (a0 + p0))).cell? ⟨g, off + k * 2 + 1, none⟩ = some (.int .i64 p1) := ((World.cell?_setCell_other _ _ _ _ (by intro e; injection e with e1 e2; omega)).trans q1)
        replace d0 : (wd.setCell ⟨w.heap.size + 1, 0, none⟩ (.int .i64 (a0 + p0))).cell? ⟨w.heap.size, 0, none⟩ = some (.int .i64 0) := ((World.cell?_setCell_other _ _ _ _ (by intro e; injection e with e1 e2; omega)).trans d0)
        replace d1 : (wd.setCell ⟨w.heap.size + 1, 0, none⟩ (.int .i64 (a0 + p0))).cell? ⟨w.heap.size, 1, none⟩ = some (.int .i64 0) := ((World.cell?_setCell_other _ _ _ _ (by intro e; injection e with e1 e2; omega)).trans d1)
        replace f0 : (wd.setCell ⟨w.heap.size + 1, 0, none⟩ (.int .i64 (a0 + p0))).frozen? ⟨w.heap.size + 1, 0, none⟩ = false := by simp [go_sem, f0]
        replace f1 : (wd.setCell ⟨w.heap.size + 1, 0, none⟩ (.int .i64 (a0 + p0))).frozen? ⟨w.heap.size + 1, 1, none⟩ = false := by simp [go_sem, f1]
        replace e0 : (wd.setCell ⟨w.heap.size + 1, 0, none⟩ (.int .i64 (a0 + p0))).frozen? ⟨w.heap.size, 0, none⟩ = false := by simp [go_sem, e0]
        replace e1 : (wd.setCell ⟨w.heap.size + 1, 0, none⟩ (.int .i64 (a0 + p0))).frozen? ⟨w.heap.size, 1, none⟩ = false := by simp [go_sem, e1]
        replace hz : w.heap.size + 1 < (wd.setCell ⟨w.heap.size + 1, 0, none⟩ (.int .i64 (a0 + p0))).heap.size := by simpa [World.setCell] using hz
        replace hgw : g < (wd.setCell ⟨w.heap.size + 1, 0, none⟩ (.int .i64 (a0 + p0))).heap.size := by simpa [World.setCell] using hgw
        replace hz0 : w.heap.size < (wd.setCell ⟨w.heap.size + 1, 0, none⟩ (.int .i64 (a0 + p0))).heap.size := by simpa [World.setCell] using hz0
        replace hL := hL.setCell (p := ⟨w.heap.size + 1, 0, none⟩) (by show w.heap.size ≤ w.heap.size + 1; omega) (.int .i64 (a0 + p0))
        refine hK.out _ _ ⟨q0, q1, trivial⟩ (fun hHeld => ?_)
        clear hK K
        generalize (wd.setCell ⟨w.heap.size + 1, 0, none⟩ (.int .i64 (a0 + p0))) = Z3 at *
        try simp only [Act.put, List.setIfInBounds_toArray, List.set_cons_zero, List.set_cons_succ]
        refine take_slot (i := 18) (d := 29) (v := ?_) rfl rfl (by kernel_rfl) (by kernel_rfl) (by kernel_rfl) (fun _ _ _ h => h) (Or.inl ⟨by rfl, ?_⟩) (by assumption) ?_
        rotate_left 1
        focus (intro wS hSw; (try dsimp only at hSw); go_simp; try with_reducible rfl)
        try simp only [List.setIfInBounds_toArray, List.set_cons_zero, List.set_cons_succ]
        refine wpAnyH_ready (rs := [19]) (by kernel_rfl) (by simp) ?_
        refine AllReadyH.cons rfl (fun K hK => ?_) AllReadyH.nil
        go_simp
        replace c0 : (Z3.setCell ⟨w.heap.size + 1, 1, none⟩ (.int .i64 (a1 + p1))).cell? ⟨w.heap.size + 1, 0, none⟩ = some (.int .i64 (a0 + p0)) := ((World.cell?_setCell_other _ _ _ _ (by intro e; injection e with e1 e2; omega)).trans c0)
        replace c1 : (Z3.setCell ⟨w.heap.size + 1, 1, none⟩ (.int .i64 (a1 + p1))).cell? ⟨w.heap.size + 1, 1, none⟩ = some (.int .i64 (a1 + p1)) := by simp [go_sem, c1]
        replace q0 : (Z3.setCell ⟨w.heap.size + 1, 1, none⟩ (.int .i64 (a1 + p1))).cell? ⟨g, off + k * 2, none⟩ = some (.int .i64 p0) := ((World.cell?_setCell_other _ _ _ _ (by intro e; injection e with e1 e2; omega)).trans q0)
        replace q1 : (Z3.setCell ⟨w.heap.size + 1, 1, none⟩ (.int .i64 (a1 + p1))).cell? ⟨g, off + k * 2 + 1, none⟩ = some (.int .i64 p1) := ((World.cell?_setCell_other _ _ _ _ (by intro e; injection e with e1 e2; omega)).trans q1)
        replace d0 : (Z3.setCell ⟨w.heap.size + 1, 1, none⟩ (.int .i64 (a1 + p1))).cell? ⟨w.heap.size, 0, none⟩ = some (.int .i64 0) := ((World.cell?_setCell_other _ _ _ _ (by intro e; injection e with e1 e2; omega)).trans d0)
        replace d1 : (Z3.setCell ⟨w.heap.size + 1, 1, none⟩ (.int .i64 (a1 + p1))).cell? ⟨w.heap.size, 1, none⟩ = some (.int .i64 0) := ((World.cell?_setCell_other _ _ _ _ (by intro e; injection e with e1 e2; omega)).trans d1)
        replace f0 : (Z3.setCell ⟨w.heap.size + 1, 1, none⟩ (.int .i64 (a1 + p1))).frozen? ⟨w.heap.size + 1, 0, none⟩ = false := by simp [go_sem, f0]
        replace f1 : (Z3.setCell ⟨w.heap.size + 1, 1, none⟩ (.int .i64 (a1 + p1))).frozen? ⟨w.heap.size + 1, 1, none⟩ = false := by simp [go_sem, f1]
        replace e0 : (Z3.setCell ⟨w.heap.size + 1, 1, none⟩ (.int .i64 (a1 + p1))).frozen? ⟨w.heap.size, 0, none⟩ = false := by simp [go_sem, e0]
        replace e1 : (Z3.setCell ⟨w.heap.size + 1, 1, none⟩ (.int .i64 (a1 + p1))).frozen? ⟨w.heap.size, 1, none⟩ = false := by simp [go_sem, e1]
        replace hz : w.heap.size + 1 < (Z3.setCell ⟨w.heap.size + 1, 1, none⟩ (.int .i64 (a1 + p1))).heap.size := by simpa [World.setCell] using hz
        replace hgw : g < (Z3.setCell ⟨w.heap.size + 1, 1, none⟩ (.int .i64 (a1 + p1))).heap.size := by simpa [World.setCell] using hgw
        replace hz0 : w.heap.size < (Z3.setCell ⟨w.heap.size + 1, 1, none⟩ (.int .i64 (a1 + p1))).heap.size := by simpa [World.setCell] using hz0
        replace hL := hL.setCell (p := ⟨w.heap.size + 1, 1, none⟩) (by show w.heap.size ≤ w.heap.size + 1; omega) (.int .i64 (a1 + p1))
        refine hK.out _ _ ⟨q0, q1, trivial⟩ (fun hHeld => ?_)
        clear hK K
        generalize (Z3.setCell ⟨w.heap.size + 1, 1, none⟩ (.int .i64 (a1 + p1))) = Z4 at *
        try simp only [Act.put, List.setIfInBounds_toArray, List.set_cons_zero, List.set_cons_succ]
        refine wpAnyH_done (by kernel_rfl) ?_ _
        replace hbr := hbr.trans (hL.mono (Nat.le_refl _))
        clear hHeld hL
        go_wp2_with fail
        go_roundw
        case rel =>
          exact ⟨k + 1, (a0 + p0, a1 + p1), by omega, by go_num, haq, hDq, c0, c1, f0, f1, d0, d1, e0, e1, hz, hbr⟩
        case measure => simp [RowKit.intOf]; omega
      · go_simp
        refine hK.out _ _ ⟨q0, q1, trivial⟩ (fun hHeld => ?_)
        clear hK K
        try simp only [Act.put, List.setIfInBounds_toArray, List.set_cons_zero, List.set_cons_succ]
        refine take_slot (i := 15) (d := 27) (v := ?_) rfl rfl (by kernel_rfl) (by kernel_rfl) (by kernel_rfl) (fun _ _ _ h => h) (Or.inl ⟨by rfl, ?_⟩) (by assumption) ?_
        rotate_left 1
        focus (intro wS hSw; (try dsimp only at hSw); go_simp; try with_reducible rfl)
        try simp only [List.setIfInBounds_toArray, List.set_cons_zero, List.set_cons_succ]
        refine wpAnyH_ready (rs := [1]) (by kernel_rfl) (by simp) ?_
        refine AllReadyH.cons rfl (fun K hK => ?_) AllReadyH.nil
        go_simp
        refine hK.out _ _ ⟨q0, q1, trivial⟩ (fun hHeld => ?_)
        clear hK K
        try simp only [Act.put, List.setIfInBounds_toArray, List.set_cons_zero, List.set_cons_succ]
        refine take_slot (i := 7) (d := 19) (v := ?_) rfl rfl (by kernel_rfl) (by kernel_rfl) (by kernel_rfl) (fun _ _ _ h => h) (Or.inl ⟨by rfl, ?_⟩) (by assumption) ?_
        rotate_left 1
        focus (intro wS hSw; (try dsimp only at hSw); go_simp; try with_reducible rfl)
        try simp only [List.setIfInBounds_toArray, List.set_cons_zero, List.set_cons_succ]
        refine take_slot (i := 16) (d := 28) (v := ?_) rfl rfl (by kernel_rfl) (by kernel_rfl) (by kernel_rfl) (fun _ _ _ h => h) (Or.inl ⟨by rfl, ?_⟩) (by assumption) ?_
        rotate_left 1
        focus (intro wS hSw; (try dsimp only at hSw); go_simp; try with_reducible rfl)
        try simp only [List.setIfInBounds_toArray, List.set_cons_zero, List.set_cons_succ]
        refine wpAnyH_ready (rs := [17]) (by kernel_rfl) (by simp) ?_
        refine AllReadyH.cons rfl (fun K hK => ?_) AllReadyH.nil
        go_simp
        replace c0 : (wd.setCell ⟨w.heap.size + 1, 0, none⟩ (.int .i64 (a0 + p0))).cell? ⟨w.heap.size + 1, 0, none⟩ = some (.int .i64 (a0 + p0)) := by simp [go_sem, c0]
        replace c1 : (wd.setCell ⟨w.heap.size + 1, 0, none⟩ (.int .i64 (a0 + p0))).cell? ⟨w.heap.size + 1, 1, none⟩ = some (.int .i64 a1) := ((World.cell?_setCell_other _ _ _ _ (by intro e; injection e with e1 e2; omega)).trans c1)
        replace q0 : (wd.setCell ⟨w.heap.size + 1, 0, none⟩ (.int .i64 (a0 + p0))).cell? ⟨g, off + k * 2, none⟩ = some (.int .i64 p0) := ((World.cell?_setCell_other _ _ _ _ (by intro e; injection e with e1 e2; omega)).trans q0)
        replace q1 : (wd.setCell ⟨w.heap.size + 1, 0, none⟩ (.int .i64 (a0 + p0))).cell? ⟨g, off + k * 2 + 1, none⟩ = some (.int .i64 p1) := ((World.cell?_setCell_other _ _ _ _ (by intro e; injection e with e1 e2; omega)).trans q1)
        replace d0 : (wd.setCell ⟨w.heap.size + 1, 0, none⟩ (.int .i64 (a0 + p0))).cell? ⟨w.heap.size, 0, none⟩ = some (.int .i64 0) := ((World.cell?_setCell_other _ _ _ _ (by intro e; injection e with e1 e2; omega)).trans d0)
        replace d1 : (wd.setCell ⟨w.heap.size + 1, 0, none⟩ (.int .i64 (a0 + p0))).cell? ⟨w.heap.size, 1, none⟩ = some (.int .i64 0) := ((World.cell?_setCell_other _ _ _ _ (by intro e; injection e with e1 e2; omega)).trans d1)
        replace f0 : (wd.setCell ⟨w.heap.size + 1, 0, none⟩ (.int .i64 (a0 + p0))).frozen? ⟨w.heap.size + 1, 0, none⟩ = false := by simp [go_sem, f0]
        replace f1 : (wd.setCell ⟨w.heap.size + 1, 0, none⟩ (.int .i64 (a0 + p0))).frozen? ⟨w.heap.size + 1, 1, none⟩ = false := by simp [go_sem, f1]
        replace e0 : (wd.setCell ⟨w.heap.size + 1, 0, none⟩ (.int .i64 (a0 + p0))).frozen? ⟨w.heap.size, 0, none⟩ = false := by simp [go_sem, e0]
        replace e1 : (wd.setCell ⟨w.heap.size + 1, 0, none⟩ (.int .i64 (a0 + p0))).frozen? ⟨w.heap.size, 1, none⟩ = false := by simp [go_sem, e1]
        replace hz : w.heap.size + 1 < (wd.setCell ⟨w.heap.size + 1, 0, none⟩ (.int .i64 (a0 + p0))).heap.size := by simpa [World.setCell] using hz
        replace hgw : g < (wd.setCell ⟨w.heap.size + 1, 0, none⟩ (.int .i64 (a0 + p0))).heap.size := by simpa [World.setCell] using hgw
        replace hz0 : w.heap.size < (wd.setCell ⟨w.heap.size + 1, 0, none⟩ (.int .i64 (a0 + p0))).heap.size := by simpa [World.setCell] using hz0
        replace hL := hL.setCell (p := ⟨w.heap.size + 1, 0, none⟩) (by show w.heap.size ≤ w.heap.size + 1; omega) (.int .i64 (a0 + p0))
        refine hK.out _ _ ⟨q0, q1, trivial⟩ (fun hHeld => ?_)
        clear hK K
        generalize (wd.setCell ⟨w.heap.size + 1, 0, none⟩ (.int .i64 (a0 + p0))) = Z7 at *
        try simp only [Act.put, List.setIfInBounds_toArray, List.set_cons_zero, List.set_cons_succ]
        refine take_slot (i := 18) (d := 29) (v := ?_) rfl rfl (by kernel_rfl) (by kernel_rfl) (by kernel_rfl) (fun _ _ _ h => h) (Or.inl ⟨by rfl, ?_⟩) (by assumption) ?_
        rotate_left 1
        focus (intro wS hSw; (try dsimp only at hSw); go_simp; try with_reducible rfl)
        try simp only [List.setIfInBounds_toArray, List.set_cons_zero, List.set_cons_succ]
        refine wpAnyH_ready (rs := [19]) (by kernel_rfl) (by simp) ?_
        refine AllReadyH.cons rfl (fun K hK => ?_) AllReadyH.nil
        go_simp
        replace c0 : (Z7.setCell ⟨w.heap.size + 1, 1, none⟩ (.int .i64 (a1 + p1))).cell? ⟨w.heap.size + 1, 0, none⟩ = some (.int .i64 (a0 + p0)) := ((World.cell?_setCell_other _ _ _ _ (by intro e; injection e with e1 e2; omega)).trans c0)
        replace c1 : (Z7.setCell ⟨w.heap.size + 1, 1, none⟩ (.int .i64 (a1 + p1))).cell? ⟨w.heap.size + 1, 1, none⟩ = some (.int .i64 (a1 + p1)) := by simp [go_sem, c1]
        replace q0 : (Z7.setCell ⟨w.heap.size + 1, 1, none⟩ (.int .i64 (a1 + p1))).cell? ⟨g, off + k * 2, none⟩ = some (.int .i64 p0) := ((World.cell?_setCell_other _ _ _ _ (by intro e; injection e with e1 e2; omega)).trans q0)
        replace q1 : (Z7.setCell ⟨w.heap.size + 1, 1, none⟩ (.int .i64 (a1 + p1))).cell? ⟨g, off + k * 2 + 1, none⟩ = some (.int .i64 p1) := ((World.cell?_setCell_other _ _ _ _ (by intro e; injection e with e1 e2; omega)).trans q1)
        replace d0 : (Z7.setCell ⟨w.heap.size + 1, 1, none⟩ (.int .i64 (a1 + p1))).cell? ⟨w.heap.size, 0, none⟩ = some (.int .i64 0) := ((World.cell?_setCell_other _ _ _ _ (by intro e; injection e with e1 e2; omega)).trans d0)
        replace d1 : (Z7.setCell ⟨w.heap.size + 1, 1, none⟩ (.int .i64 (a1 + p1))).cell? ⟨w.heap.size, 1, none⟩ = some (.int .i64 0) := ((World.cell?_setCell_other _ _ _ _ (by intro e; injection e with e1 e2; omega)).trans d1)
        replace f0 : (Z7.setCell ⟨w.heap.size + 1, 1, none⟩ (.int .i64 (a1 + p1))).frozen? ⟨w.heap.size + 1, 0, none⟩ = false := by simp [go_sem, f0]
        replace f1 : (Z7.setCell ⟨w.heap.size + 1, 1, none⟩ (.int .i64 (a1 + p1))).frozen? ⟨w.heap.size + 1, 1, none⟩ = false := by simp [go_sem, f1]
        replace e0 : (Z7.setCell ⟨w.heap.size + 1, 1, none⟩ (.int .i64 (a1 + p1))).frozen? ⟨w.heap.size, 0, none⟩ = false := by simp [go_sem, e0]
        replace e1 : (Z7.setCell ⟨w.heap.size + 1, 1, none⟩ (.int .i64 (a1 + p1))).frozen? ⟨w.heap.size, 1, none⟩ = false := by simp [go_sem, e1]
        replace hz : w.heap.size + 1 < (Z7.setCell ⟨w.heap.size + 1, 1, none⟩ (.int .i64 (a1 + p1))).heap.size := by simpa [World.setCell] using hz
        replace hgw : g < (Z7.setCell ⟨w.heap.size + 1, 1, none⟩ (.int .i64 (a1 + p1))).heap.size := by simpa [World.setCell] using hgw
        replace hz0 : w.heap.size < (Z7.setCell ⟨w.heap.size + 1, 1, none⟩ (.int .i64 (a1 + p1))).heap.size := by simpa [World.setCell] using hz0
        replace hL := hL.setCell (p := ⟨w.heap.size + 1, 1, none⟩) (by show w.heap.size ≤ w.heap.size + 1; omega) (.int .i64 (a1 + p1))
        refine hK.out _ _ ⟨q0, q1, trivial⟩ (fun hHeld => ?_)
        clear hK K
        generalize (Z7.setCell ⟨w.heap.size + 1, 1, none⟩ (.int .i64 (a1 + p1))) = Z8 at *
        try simp only [Act.put, List.setIfInBounds_toArray, List.set_cons_zero, List.set_cons_succ]
        refine wpAnyH_done (by kernel_rfl) ?_ _
        replace hbr := hbr.trans (hL.mono (Nat.le_refl _))
        clear hHeld hL
        go_wp2_with fail
        go_roundw
        case rel =>
          exact ⟨k + 1, (a0 + p0, a1 + p1), by omega, by go_num, haq, hDq, c0, c1, f0, f1, d0, d1, e0, e1, hz, hbr⟩
        case measure => simp [RowKit.intOf]; omega
    · obtain rfl : k = n := by omega
      have hfin : (a0, a1) = suU xs := by rw [ha.out, List.take_of_length_le (by rw [Hn.out]; omega)]
      have Hfin := Lib.hid hfin
      clear hfin ha hDa
      go_wp2_with fail
      refine bodyPost_ret (v := .agg #[.int .i64 a0, .int .i64 a1]) (by simp [results, Try.results18, go_sem, *]) rfl ⟨by rw [← Hfin.out], ?_⟩
      exact (hbr.setCell (by simp) _).setCell (by simp) _

theorem plus2_any (g cp : Nat) (a b c d x y : Int) (w : World) (hg : g < w.heap.size) (h1 : smB (a, b)) (h2 : smB (c, d)) (hx : a + c = x) (hy : b + d = y) (c0 : w.cell? ⟨g, 0, none⟩ = some (.int .i64 a)) (c1 : w.cell? ⟨g, 1, none⟩ = some (.int .i64 b)) (c2 : w.cell? ⟨g, 2, none⟩ = some (.int .i64 c)) (c3 : w.cell? ⟨g, 3, none⟩ = some (.int .i64 d)) :
    Calls Try.prog 18 #[.slice (some ⟨g, 0, none⟩) 2 cp] w fun e w' => e = .returned (.agg #[.int .i64 x, .int .i64 y]) ∧ Below w.heap.size w w' := by
  have h := plusL_any g 0 [(a, b), (c, d)] cp w (by intro p hp; rcases List.mem_cons.1 hp with rfl | hp; exact h1; rcases List.mem_cons.1 hp with rfl | hp; exact h2; cases hp) hg (by
    intro k p hp
    rcases k with _ | _ | k
    · simp at hp; subst hp; exact ⟨c0, c1⟩
    · simp at hp; subst hp; exact ⟨c2, c3⟩
    · simp at hp) (by simp)
  have e : suU [(a, b), (c, d)] = (x, y) := by simp [suU, addP, hx, hy]
  rw [e] at h
  exact h

open Go.RowKit Go.Lib Go.Shelf
set_option linter.unusedVariables false
set_option linter.unusedSimpArgs false
attribute [local go_sem ↓] Go.wp_at_zero Go.wp_at_succ

set_option maxRecDepth 40000 in
set_option maxHeartbeats 8000000 in
theorem adds_bad (A S v0 v1 v2 v3 m0 m1 : Int) (h : (decide (A < 0) || decide (1000000000000 < A) || decide (S < 0) || decide (1000000000000 < S)) = true) (w : World) :
    Calls Try.prog 5 #[.agg #[.int .i64 A, .int .i64 S], .agg #[.int .u16 v0, .int .u16 v1, .int .u16 v2, .int .u16 v3], .agg #[.int .u8 m0, .int .u8 m1]] w fun e w' => e = .returned (.bool true) ∧ Below w.heap.size w w' := by
  have CK := Lib.hid known_any
  obtain ⟨u1, h1⟩ : ∃ u, decide (A < 0) = u := ⟨_, rfl⟩
  obtain ⟨u2, h2⟩ : ∃ u, decide (1000000000000 < A) = u := ⟨_, rfl⟩
  obtain ⟨u3, h3⟩ : ∃ u, decide (S < 0) = u := ⟨_, rfl⟩
  obtain ⟨u4, h4⟩ : ∃ u, decide (1000000000000 < S) = u := ⟨_, rfl⟩
  rw [h1, h2, h3, h4] at h
  cases u1
  · cases u2
    · cases u3
      · cases u4
        · cases h
        · clear h
          go_enter Try.func5, Try.ntmps5
          go_wp2_with fail
          refine (CK.out _).mono ?_
          rintro e W1 ⟨rfl, hb⟩
          have Bs0 := cell_next hb (b := w.heap.size) (o := 0) (by simp <;> omega) (v := some (.int .i64 A)) (by simp [go_sem])
          have Bs1 := cell_next hb (b := w.heap.size) (o := 1) (by simp <;> omega) (v := some (.int .i64 S)) (by simp [go_sem])
          have nBs : w.heap.size < W1.heap.size := by have := hb.size; simp at this; omega
          have Bx0 := cell_next hb (b := w.heap.size + 1) (o := 0) (by simp <;> omega) (v := some (.int .u16 v0)) (by simp [go_sem])
          have nBx : w.heap.size + 1 < W1.heap.size := by have := hb.size; simp at this; omega
          have Bm0 := cell_next hb (b := w.heap.size + 1 + 1) (o := 0) (by simp <;> omega) (v := some (.int .u8 m0)) (by simp [go_sem])
          have nBm : w.heap.size + 1 + 1 < W1.heap.size := by have := hb.size; simp at this; omega
          have hB := (below3 hb)
          clear hb
          go_wp2_with fail
          go_ret
          exact ⟨rfl, hB⟩
      · clear h
        go_enter Try.func5, Try.ntmps5
        go_wp2_with fail
        refine (CK.out _).mono ?_
        rintro e W1 ⟨rfl, hb⟩
        have Bs0 := cell_next hb (b := w.heap.size) (o := 0) (by simp <;> omega) (v := some (.int .i64 A)) (by simp [go_sem])
        have Bs1 := cell_next hb (b := w.heap.size) (o := 1) (by simp <;> omega) (v := some (.int .i64 S)) (by simp [go_sem])
        have nBs : w.heap.size < W1.heap.size := by have := hb.size; simp at this; omega
        have Bx0 := cell_next hb (b := w.heap.size + 1) (o := 0) (by simp <;> omega) (v := some (.int .u16 v0)) (by simp [go_sem])
        have nBx : w.heap.size + 1 < W1.heap.size := by have := hb.size; simp at this; omega
        have Bm0 := cell_next hb (b := w.heap.size + 1 + 1) (o := 0) (by simp <;> omega) (v := some (.int .u8 m0)) (by simp [go_sem])
        have nBm : w.heap.size + 1 + 1 < W1.heap.size := by have := hb.size; simp at this; omega
        have hB := (below3 hb)
        clear hb
        go_wp2_with fail
        go_ret
        exact ⟨rfl, hB⟩
    · clear h
      go_enter Try.func5, Try.ntmps5
      go_wp2_with fail
      refine (CK.out _).mono ?_
      rintro e W1 ⟨rfl, hb⟩
      have Bs0 := cell_next hb (b := w.heap.size) (o := 0) (by simp <;> omega) (v := some (.int .i64 A)) (by simp [go_sem])
      have Bs1 := cell_next hb (b := w.heap.size) (o := 1) (by simp <;> omega) (v := some (.int .i64 S)) (by simp [go_sem])
      have nBs : w.heap.size < W1.heap.size := by have := hb.size; simp at this; omega
      have Bx0 := cell_next hb (b := w.heap.size + 1) (o := 0) (by simp <;> omega) (v := some (.int .u16 v0)) (by simp [go_sem])
      have nBx : w.heap.size + 1 < W1.heap.size := by have := hb.size; simp at this; omega
      have Bm0 := cell_next hb (b := w.heap.size + 1 + 1) (o := 0) (by simp <;> omega) (v := some (.int .u8 m0)) (by simp [go_sem])
      have nBm : w.heap.size + 1 + 1 < W1.heap.size := by have := hb.size; simp at this; omega
      have hB := (below3 hb)
      clear hb
      go_wp2_with fail
      go_ret
      exact ⟨rfl, hB⟩
  · clear h
    go_enter Try.func5, Try.ntmps5
    go_wp2_with fail
    refine (CK.out _).mono ?_
    rintro e W1 ⟨rfl, hb⟩
    have Bs0 := cell_next hb (b := w.heap.size) (o := 0) (by simp <;> omega) (v := some (.int .i64 A)) (by simp [go_sem])
    have Bs1 := cell_next hb (b := w.heap.size) (o := 1) (by simp <;> omega) (v := some (.int .i64 S)) (by simp [go_sem])
    have nBs : w.heap.size < W1.heap.size := by have := hb.size; simp at this; omega
    have Bx0 := cell_next hb (b := w.heap.size + 1) (o := 0) (by simp <;> omega) (v := some (.int .u16 v0)) (by simp [go_sem])
    have nBx : w.heap.size + 1 < W1.heap.size := by have := hb.size; simp at this; omega
    have Bm0 := cell_next hb (b := w.heap.size + 1 + 1) (o := 0) (by simp <;> omega) (v := some (.int .u8 m0)) (by simp [go_sem])
    have nBm : w.heap.size + 1 + 1 < W1.heap.size := by have := hb.size; simp at this; omega
    have hB := (below3 hb)
    clear hb
    go_wp2_with fail
    go_ret
    exact ⟨rfl, hB⟩

/-- what the calls of VatAdds answer -/
structure AdC (A S T P I J IJ P2 k1 k2 g1 g2 a1 a2 w1 w2 o1 o2 x1 x2 l1 l2 y2 z1 z2 : Int) : Prop where
  c1 : ∀ w : World, Calls Try.prog 17 #[.agg #[.int .i64 A, .int .i64 S], .int .i64 T, .int .i64 P, .int .i64 I] w fun e w' => e = .returned (.tuple #[.agg #[.int .i64 k1, .int .i64 k2], .agg #[.int .i64 g1, .int .i64 g2], .int .i64 0]) ∧ Below w.heap.size w w'
  c2 : ∀ w : World, Calls Try.prog 17 #[.agg #[.int .i64 k1, .int .i64 k2], .int .i64 T, .int .i64 P, .int .i64 J] w fun e w' => e = .returned (.tuple #[.agg #[.int .i64 a1, .int .i64 a2], .agg #[.int .i64 w1, .int .i64 w2], .int .i64 0]) ∧ Below w.heap.size w w'
  c3 : ∀ w : World, Calls Try.prog 17 #[.agg #[.int .i64 A, .int .i64 S], .int .i64 T, .int .i64 P, .int .i64 IJ] w fun e w' => e = .returned (.tuple #[.agg #[.int .i64 a1, .int .i64 a2], .agg #[.int .i64 o1, .int .i64 o2], .int .i64 0]) ∧ Below w.heap.size w w'
  c4 : ∀ w : World, Calls Try.prog 19 #[.agg #[.int .i64 A, .int .i64 S], .int .i64 T, .int .i64 P] w fun e w' => e = .returned (.tuple #[.agg #[.int .i64 x1, .int .i64 x2], .agg #[.int .i64 l1, .int .i64 l2], .int .i64 0]) ∧ Below w.heap.size w w'
  c5 : ∀ w : World, Calls Try.prog 19 #[.agg #[.int .i64 A, .int .i64 S], .int .i64 T, .int .i64 P2] w fun e w' => e = .returned (.tuple #[.agg #[.int .i64 x1, .int .i64 y2], .agg #[.int .i64 z1, .int .i64 z2], .int .i64 0]) ∧ Below w.heap.size w w'
/-- how the numbers of VatAdds lie -/
structure AdN (A S T P I J IJ P2 k1 k2 g1 g2 a1 a2 w1 w2 o1 o2 x1 x2 l1 l2 y2 z1 z2 v0 v1 v2 m0 m1 b : Int) : Prop where
  Al : 0 ≤ A
  Ah : A ≤ 1000000000000
  Sl : 0 ≤ S
  Sh : S ≤ 1000000000000
  k1l : 0 ≤ k1
  k1h : k1 ≤ 1000000000000
  k2l : 0 ≤ k2
  k2h : k2 ≤ 1000000000000
  g1l : 0 ≤ g1
  g1h : g1 ≤ 1000000000000
  g2l : 0 ≤ g2
  g2h : g2 ≤ 1000000000000
  a1l : 0 ≤ a1
  a1h : a1 ≤ 1000000000000
  a2l : 0 ≤ a2
  a2h : a2 ≤ 1000000000000
  w1l : 0 ≤ w1
  w1h : w1 ≤ 1000000000000
  w2l : 0 ≤ w2
  w2h : w2 ≤ 1000000000000
  o1l : 0 ≤ o1
  o1h : o1 ≤ 1000000000000
  o2l : 0 ≤ o2
  o2h : o2 ≤ 1000000000000
  x1l : 0 ≤ x1
  x1h : x1 ≤ 1000000000000
  x2l : 0 ≤ x2
  x2h : x2 ≤ 1000000000000
  l1l : 0 ≤ l1
  l1h : l1 ≤ 1000000000000
  l2l : 0 ≤ l2
  l2h : l2 ≤ 1000000000000
  y2l : 0 ≤ y2
  y2h : y2 ≤ 1000000000000
  z1l : 0 ≤ z1
  z1h : z1 ≤ 1000000000000
  z2l : 0 ≤ z2
  z2h : z2 ≤ 1000000000000
  e1 : k1 + g1 = A
  e2 : k2 + g2 = S
  e3 : a1 + o1 = A
  e4 : a2 + o2 = S
  e5 : g1 + w1 = o1
  e6 : g2 + w2 = o2
  e7 : x1 + l1 = A
  e8 : x2 + l2 = S
  e9 : x2 ≤ y2
  q0 : IntKind.i64.wrap v0 = v0
  q1 : IntKind.i64.wrap v1 = v1
  q2 : IntKind.i64.wrap v2 = v2
  q3 : IntKind.i64.wrap m0 = m0
  q4 : IntKind.i64.wrap m1 = m1
  r0 : Int.tmod v0 10001 = T
  r1 : Int.tmod v1 10001 = P
  r2 : Int.tmod v2 10000 = b - 1
  r3 : Int.tmod m0 60 = I
  r4 : Int.tmod m1 60 = J
  s0 : IntKind.i64.wrap T = T
  s1 : IntKind.i64.wrap P = P
  s2 : IntKind.i64.wrap (b - 1) = b - 1
  s3 : IntKind.i64.wrap I = I
  s4 : IntKind.i64.wrap J = J
  s5 : IntKind.i64.wrap (1 + (b - 1)) = b
  ij : IntKind.i64.wrap (I + J) = IJ
  p2 : Int.tdiv P 2 = P2
  p3 : IntKind.i64.wrap P2 = P2
  d1 : Int.tdiv (IntKind.i64.wrap (A * T)) 10000 = l1
  d2 : IntKind.i64.wrap l1 = l1

/-- the concentration is not reached -/
def AdF0 (A S T P b : Int) : Prop := ∃ e1 e2 f1 f2 : Int, (∀ w : World, Calls Try.prog 15 #[.agg #[.int .i64 A, .int .i64 S], .agg #[.int .i64 T, .int .i64 P, .int .i64 P], .int .i64 b, .int .i64 60] w fun e w' => e = .returned (.tuple #[.agg #[.int .i64 0, .int .i64 0], .int .i64 7]) ∧ Below w.heap.size w w') ∧ (∀ w : World, Calls Try.prog 17 #[.agg #[.int .i64 A, .int .i64 S], .int .i64 T, .int .i64 P, .int .i64 60] w fun e w' => e = .returned (.tuple #[.agg #[.int .i64 e1, .int .i64 e2], .agg #[.int .i64 f1, .int .i64 f2], .int .i64 0]) ∧ Below w.heap.size w w') ∧
  (e2 = 0 ∨ (decide (e2 = 0) = false ∧ ∃ Q1 Q2 Q3 : Int, IntKind.i64.wrap (e2 * 10000) = Q1 ∧ IntKind.i64.wrap (e1 + e2) = Q2 ∧ IntKind.i64.wrap (b * Q2) = Q3 ∧ decide (Q1 < Q3) = true))
/-- it is reached behind n rounds -/
def AdF1 (A S T P b : Int) : Prop := ∃ n t1 t2 f1 f2 Q1 Q2 Q3 : Int, (∀ w : World, Calls Try.prog 15 #[.agg #[.int .i64 A, .int .i64 S], .agg #[.int .i64 T, .int .i64 P, .int .i64 P], .int .i64 b, .int .i64 60] w fun e w' => e = .returned (.tuple #[.agg #[.int .i64 n, .int .i64 n], .int .i64 0]) ∧ Below w.heap.size w w') ∧ (∀ w : World, Calls Try.prog 17 #[.agg #[.int .i64 A, .int .i64 S], .int .i64 T, .int .i64 P, .int .i64 n] w fun e w' => e = .returned (.tuple #[.agg #[.int .i64 t1, .int .i64 t2], .agg #[.int .i64 f1, .int .i64 f2], .int .i64 0]) ∧ Below w.heap.size w w') ∧ decide (n < 0) = false ∧ decide (60 < n) = false ∧ decide (t2 < 1) = false ∧
  IntKind.i64.wrap (t2 * 10000) = Q1 ∧ IntKind.i64.wrap (t1 + t2) = Q2 ∧ IntKind.i64.wrap (b * Q2) = Q3 ∧ decide (Q1 < Q3) = false ∧
  (decide (0 < n) = false ∨ (decide (0 < n) = true ∧ ∃ m : Int, IntKind.i64.wrap (n - 1) = m ∧ ∃ r1 r2 h1 h2 : Int, (∀ w : World, Calls Try.prog 17 #[.agg #[.int .i64 A, .int .i64 S], .int .i64 T, .int .i64 P, .int .i64 m] w fun e w' => e = .returned (.tuple #[.agg #[.int .i64 r1, .int .i64 r2], .agg #[.int .i64 h1, .int .i64 h2], .int .i64 0]) ∧ Below w.heap.size w w') ∧
    ((decide (0 < r2) = false ∧ True) ∨ (decide (0 < r2) = true ∧ ∃ R1 R2 R3 : Int, IntKind.i64.wrap (r2 * 10000) = R1 ∧ IntKind.i64.wrap (r1 + r2) = R2 ∧ IntKind.i64.wrap (b * R2) = R3 ∧ decide (R3 ≤ R1) = false))))

set_option maxRecDepth 40000 in
set_option maxHeartbeats 8000000 in
theorem adds_walk (A S T P I J IJ P2 k1 k2 g1 g2 a1 a2 w1 w2 o1 o2 x1 x2 l1 l2 y2 z1 z2 v0 v1 v2 v3 m0 m1 b : Int) (w : World) (hC : AdC A S T P I J IJ P2 k1 k2 g1 g2 a1 a2 w1 w2 o1 o2 x1 x2 l1 l2 y2 z1 z2) (hN : AdN A S T P I J IJ P2 k1 k2 g1 g2 a1 a2 w1 w2 o1 o2 x1 x2 l1 l2 y2 z1 z2 v0 v1 v2 m0 m1 b) (hQ : Hid (AdF0 A S T P b) ∨ Hid (AdF1 A S T P b)) :
    Calls Try.prog 5 #[.agg #[.int .i64 A, .int .i64 S], .agg #[.int .u16 v0, .int .u16 v1, .int .u16 v2, .int .u16 v3], .agg #[.int .u8 m0, .int .u8 m1]] w fun e w' => e = .returned (.bool true) ∧ Below w.heap.size w w' := by
  obtain ⟨Al, Ah, Sl, Sh, k1l, k1h, k2l, k2h, g1l, g1h, g2l, g2h, a1l, a1h, a2l, a2h, w1l, w1h, w2l, w2h, o1l, o1h, o2l, o2h, x1l, x1h, x2l, x2h, l1l, l1h, l2l, l2h, y2l, y2h, z1l, z1h, z2l, z2h, e1, e2, e3, e4, e5, e6, e7, e8, e9, q0, q1, q2, q3, q4, r0, r1, r2, r3, r4, s0, s1, s2, s3, s4, s5, ij, p2, p3, d1, d2⟩ := hN
  have tA : decide (A < 0) = false := by simp; omega
  have tS : decide (S < 0) = false := by simp; omega
  have tk1 : decide (k1 < 0) = false := by simp; omega
  have tk2 : decide (k2 < 0) = false := by simp; omega
  have tg1 : decide (g1 < 0) = false := by simp; omega
  have tg2 : decide (g2 < 0) = false := by simp; omega
  have TA : decide (1000000000000 < A) = false := by simp; omega
  have TS : decide (1000000000000 < S) = false := by simp; omega
  have to1 : decide (o1 < g1) = false := by simp; omega
  have to2 : decide (o2 < g2) = false := by simp; omega
  have ty2 : decide (y2 < x2) = false := by simp; omega
  have smk1 : Hid (smB (k1, k2)) := Lib.hid ⟨by omega, by omega, by omega, by omega⟩
  have smg1 : Hid (smB (g1, g2)) := Lib.hid ⟨by omega, by omega, by omega, by omega⟩
  have sma1 : Hid (smB (a1, a2)) := Lib.hid ⟨by omega, by omega, by omega, by omega⟩
  have smo1 : Hid (smB (o1, o2)) := Lib.hid ⟨by omega, by omega, by omega, by omega⟩
  have smw1 : Hid (smB (w1, w2)) := Lib.hid ⟨by omega, by omega, by omega, by omega⟩
  have smx1 : Hid (smB (x1, x2)) := Lib.hid ⟨by omega, by omega, by omega, by omega⟩
  have sml1 : Hid (smB (l1, l2)) := Lib.hid ⟨by omega, by omega, by omega, by omega⟩
  have E1 := Lib.hid e1
  have E2 := Lib.hid e2
  have E3 := Lib.hid e3
  have E4 := Lib.hid e4
  have E5 := Lib.hid e5
  have E6 := Lib.hid e6
  have E7 := Lib.hid e7
  have E8 := Lib.hid e8
  clear Al Ah Sl Sh k1l k1h k2l k2h g1l g1h g2l g2h a1l a1h a2l a2h w1l w1h w2l w2h o1l o1h o2l o2h x1l x1h x2l x2h l1l l1h l2l l2h y2l y2h z1l z1h z2l z2h e1 e2 e3 e4 e5 e6 e7 e8 e9
  have HC := Lib.hid hC
  have CK := Lib.hid known_any
  clear hC
  go_enter Try.func5, Try.ntmps5
  go_wp2_with fail
  have hb : Below w.heap.size w (((w.alloc (Obj.cells #[.int .i64 A, .int .i64 S] 36)).alloc (Obj.cells #[.int .u16 v0, .int .u16 v1, .int .u16 v2, .int .u16 v3] 45)).alloc (Obj.cells #[.int .u8 m0, .int .u8 m1] 46)) := ((((Below.refl _ _).alloc (Nat.le_refl _) _).alloc (by simp <;> omega) _).alloc (by simp <;> omega) _)
  have Bs0 : (((w.alloc (Obj.cells #[.int .i64 A, .int .i64 S] 36)).alloc (Obj.cells #[.int .u16 v0, .int .u16 v1, .int .u16 v2, .int .u16 v3] 45)).alloc (Obj.cells #[.int .u8 m0, .int .u8 m1] 46)).cell? ⟨w.heap.size, 0, none⟩ = some (.int .i64 A) := by simp [go_sem]
  have Bs1 : (((w.alloc (Obj.cells #[.int .i64 A, .int .i64 S] 36)).alloc (Obj.cells #[.int .u16 v0, .int .u16 v1, .int .u16 v2, .int .u16 v3] 45)).alloc (Obj.cells #[.int .u8 m0, .int .u8 m1] 46)).cell? ⟨w.heap.size, 1, none⟩ = some (.int .i64 S) := by simp [go_sem]
  have nBs : w.heap.size < (((w.alloc (Obj.cells #[.int .i64 A, .int .i64 S] 36)).alloc (Obj.cells #[.int .u16 v0, .int .u16 v1, .int .u16 v2, .int .u16 v3] 45)).alloc (Obj.cells #[.int .u8 m0, .int .u8 m1] 46)).heap.size := by simp <;> omega
  have Bx0 : (((w.alloc (Obj.cells #[.int .i64 A, .int .i64 S] 36)).alloc (Obj.cells #[.int .u16 v0, .int .u16 v1, .int .u16 v2, .int .u16 v3] 45)).alloc (Obj.cells #[.int .u8 m0, .int .u8 m1] 46)).cell? ⟨w.heap.size + 1, 0, none⟩ = some (.int .u16 v0) := by simp [go_sem]
  have Bx1 : (((w.alloc (Obj.cells #[.int .i64 A, .int .i64 S] 36)).alloc (Obj.cells #[.int .u16 v0, .int .u16 v1, .int .u16 v2, .int .u16 v3] 45)).alloc (Obj.cells #[.int .u8 m0, .int .u8 m1] 46)).cell? ⟨w.heap.size + 1, 1, none⟩ = some (.int .u16 v1) := by simp [go_sem]
  have Bx2 : (((w.alloc (Obj.cells #[.int .i64 A, .int .i64 S] 36)).alloc (Obj.cells #[.int .u16 v0, .int .u16 v1, .int .u16 v2, .int .u16 v3] 45)).alloc (Obj.cells #[.int .u8 m0, .int .u8 m1] 46)).cell? ⟨w.heap.size + 1, 2, none⟩ = some (.int .u16 v2) := by simp [go_sem]
  have Bx3 : (((w.alloc (Obj.cells #[.int .i64 A, .int .i64 S] 36)).alloc (Obj.cells #[.int .u16 v0, .int .u16 v1, .int .u16 v2, .int .u16 v3] 45)).alloc (Obj.cells #[.int .u8 m0, .int .u8 m1] 46)).cell? ⟨w.heap.size + 1, 3, none⟩ = some (.int .u16 v3) := by simp [go_sem]
  have nBx : w.heap.size + 1 < (((w.alloc (Obj.cells #[.int .i64 A, .int .i64 S] 36)).alloc (Obj.cells #[.int .u16 v0, .int .u16 v1, .int .u16 v2, .int .u16 v3] 45)).alloc (Obj.cells #[.int .u8 m0, .int .u8 m1] 46)).heap.size := by simp <;> omega
  have Bm0 : (((w.alloc (Obj.cells #[.int .i64 A, .int .i64 S] 36)).alloc (Obj.cells #[.int .u16 v0, .int .u16 v1, .int .u16 v2, .int .u16 v3] 45)).alloc (Obj.cells #[.int .u8 m0, .int .u8 m1] 46)).cell? ⟨w.heap.size + 1 + 1, 0, none⟩ = some (.int .u8 m0) := by simp [go_sem]
  have Bm1 : (((w.alloc (Obj.cells #[.int .i64 A, .int .i64 S] 36)).alloc (Obj.cells #[.int .u16 v0, .int .u16 v1, .int .u16 v2, .int .u16 v3] 45)).alloc (Obj.cells #[.int .u8 m0, .int .u8 m1] 46)).cell? ⟨w.heap.size + 1 + 1, 1, none⟩ = some (.int .u8 m1) := by simp [go_sem]
  have nBm : w.heap.size + 1 + 1 < (((w.alloc (Obj.cells #[.int .i64 A, .int .i64 S] 36)).alloc (Obj.cells #[.int .u16 v0, .int .u16 v1, .int .u16 v2, .int .u16 v3] 45)).alloc (Obj.cells #[.int .u8 m0, .int .u8 m1] 46)).heap.size := by simp <;> omega
  have hB := hb
  clear hb
  generalize (((w.alloc (Obj.cells #[.int .i64 A, .int .i64 S] 36)).alloc (Obj.cells #[.int .u16 v0, .int .u16 v1, .int .u16 v2, .int .u16 v3] 45)).alloc (Obj.cells #[.int .u8 m0, .int .u8 m1] 46)) = W1 at *
  have hBW : W1.heap.size ≤ W1.heap.size := Nat.le_refl _
  refine wp_region_held_drew (S := fun w' => w'.cell? ⟨w.heap.size + 1, 0, none⟩ = some (.int .u16 v0) ∧ w'.cell? ⟨w.heap.size + 1, 1, none⟩ = some (.int .u16 v1) ∧ w'.cell? ⟨w.heap.size + 1 + 1, 0, none⟩ = some (.int .u8 m0) ∧ w'.cell? ⟨w.heap.size + 1 + 1, 1, none⟩ = some (.int .u8 m1) ∧ True) (by kernel_rfl) ?_ (fun hHeld => ?_)
  focus (exact ⟨Bx0, Bx1, Bm0, Bm1, trivial⟩)
  have hL : Below W1.heap.size W1 W1.drew := Below.drew (Below.refl _ _)
  replace Bs0 : W1.drew.cell? ⟨w.heap.size, 0, none⟩ = some (.int .i64 A) := Bs0
  replace Bs1 : W1.drew.cell? ⟨w.heap.size, 1, none⟩ = some (.int .i64 S) := Bs1
  replace Bx0 : W1.drew.cell? ⟨w.heap.size + 1, 0, none⟩ = some (.int .u16 v0) := Bx0
  replace Bx1 : W1.drew.cell? ⟨w.heap.size + 1, 1, none⟩ = some (.int .u16 v1) := Bx1
  replace Bx2 : W1.drew.cell? ⟨w.heap.size + 1, 2, none⟩ = some (.int .u16 v2) := Bx2
  replace Bx3 : W1.drew.cell? ⟨w.heap.size + 1, 3, none⟩ = some (.int .u16 v3) := Bx3
  replace Bm0 : W1.drew.cell? ⟨w.heap.size + 1 + 1, 0, none⟩ = some (.int .u8 m0) := Bm0
  replace Bm1 : W1.drew.cell? ⟨w.heap.size + 1 + 1, 1, none⟩ = some (.int .u8 m1) := Bm1
  replace nBs : w.heap.size < W1.drew.heap.size := nBs
  replace nBx : w.heap.size + 1 < W1.drew.heap.size := nBx
  replace nBm : w.heap.size + 1 + 1 < W1.drew.heap.size := nBm
  generalize hWd : W1.drew = wd2 at hHeld hL Bs0 Bs1 Bx0 Bx1 Bx2 Bx3 Bm0 Bm1 nBs nBx nBm  ⊢
  clear hWd
  refine take_slot (i := 0) (d := 50) (v := ?_) rfl rfl (by kernel_rfl) (by kernel_rfl) (by kernel_rfl) (fun _ _ _ h => h) (Or.inl ⟨by rfl, ?_⟩) (by assumption) ?_
  rotate_left 1
  focus (intro wS hSw; (try dsimp only at hSw); go_simp; try with_reducible rfl)
  try simp only [List.setIfInBounds_toArray, List.set_cons_zero, List.set_cons_succ]
  refine take_slot (i := 1) (d := 51) (v := ?_) rfl rfl (by kernel_rfl) (by kernel_rfl) (by kernel_rfl) (fun _ _ _ h => h) (Or.inl ⟨by rfl, ?_⟩) (by assumption) ?_
  rotate_left 1
  focus (intro wS hSw; (try dsimp only at hSw); go_simp; try with_reducible rfl)
  try simp only [List.setIfInBounds_toArray, List.set_cons_zero, List.set_cons_succ]
  refine take_slot (i := 2) (d := 52) (v := ?_) rfl rfl (by kernel_rfl) (by kernel_rfl) (by kernel_rfl) (fun _ _ _ h => h) (Or.inl ⟨by rfl, ?_⟩) (by assumption) ?_
  rotate_left 1
  focus (intro wS hSw; (try dsimp only at hSw); go_simp; try with_reducible rfl)
  try simp only [List.setIfInBounds_toArray, List.set_cons_zero, List.set_cons_succ]
  refine take_slot (i := 3) (d := 53) (v := ?_) rfl rfl (by kernel_rfl) (by kernel_rfl) (by kernel_rfl) (fun _ _ _ h => h) (Or.inl ⟨by rfl, ?_⟩) (by assumption) ?_
  rotate_left 1
  focus (intro wS hSw; (try dsimp only at hSw); go_simp; try with_reducible rfl)
  try simp only [List.setIfInBounds_toArray, List.set_cons_zero, List.set_cons_succ]
  refine take_slot (i := 4) (d := 54) (v := ?_) rfl rfl (by kernel_rfl) (by kernel_rfl) (by kernel_rfl) (fun _ _ _ h => h) (Or.inl ⟨by rfl, ?_⟩) (by assumption) ?_
  rotate_left 1
  focus (intro wS hSw; (try dsimp only at hSw); go_simp; try with_reducible rfl)
  try simp only [List.setIfInBounds_toArray, List.set_cons_zero, List.set_cons_succ]
  refine take_slot (i := 5) (d := 55) (v := ?_) rfl rfl (by kernel_rfl) (by kernel_rfl) (by kernel_rfl) (fun _ _ _ h => h) (Or.inl ⟨by rfl, ?_⟩) (by assumption) ?_
  rotate_left 1
  focus (intro wS hSw; (try dsimp only at hSw); go_simp; try with_reducible rfl)
  try simp only [List.setIfInBounds_toArray, List.set_cons_zero, List.set_cons_succ]
  refine take_slot (i := 6) (d := 56) (v := ?_) rfl rfl (by kernel_rfl) (by kernel_rfl) (by kernel_rfl) (fun _ _ _ h => h) (Or.inl ⟨by rfl, ?_⟩) (by assumption) ?_
  rotate_left 1
  focus (intro wS hSw; (try dsimp only at hSw); go_simp; try with_reducible rfl)
  try simp only [List.setIfInBounds_toArray, List.set_cons_zero, List.set_cons_succ]
  refine take_slot (i := 7) (d := 57) (v := ?_) rfl rfl (by kernel_rfl) (by kernel_rfl) (by kernel_rfl) (fun _ _ _ h => h) (Or.inl ⟨by rfl, ?_⟩) (by assumption) ?_
  rotate_left 1
  focus (intro wS hSw; (try dsimp only at hSw); go_simp; try with_reducible rfl)
  try simp only [List.setIfInBounds_toArray, List.set_cons_zero, List.set_cons_succ]
  refine take_slot (i := 8) (d := 58) (v := ?_) rfl rfl (by kernel_rfl) (by kernel_rfl) (by kernel_rfl) (fun _ _ _ h => h) (Or.inl ⟨by rfl, ?_⟩) (by assumption) ?_
  rotate_left 1
  focus (intro wS hSw; (try dsimp only at hSw); go_simp; try with_reducible rfl)
  try simp only [List.setIfInBounds_toArray, List.set_cons_zero, List.set_cons_succ]
  refine take_slot (i := 9) (d := 59) (v := ?_) rfl rfl (by kernel_rfl) (by kernel_rfl) (by kernel_rfl) (fun _ _ _ h => h) (Or.inl ⟨by rfl, ?_⟩) (by assumption) ?_
  rotate_left 1
  focus (intro wS hSw; (try dsimp only at hSw); go_simp; try with_reducible rfl)
  try simp only [List.setIfInBounds_toArray, List.set_cons_zero, List.set_cons_succ]
  refine take_slot (i := 10) (d := 60) (v := ?_) rfl rfl (by kernel_rfl) (by kernel_rfl) (by kernel_rfl) (fun _ _ _ h => h) (Or.inl ⟨by rfl, ?_⟩) (by assumption) ?_
  rotate_left 1
  focus (intro wS hSw; (try dsimp only at hSw); go_simp; try with_reducible rfl)
  try simp only [List.setIfInBounds_toArray, List.set_cons_zero, List.set_cons_succ]
  refine take_slot (i := 11) (d := 61) (v := ?_) rfl rfl (by kernel_rfl) (by kernel_rfl) (by kernel_rfl) (fun _ _ _ h => h) (Or.inl ⟨by rfl, ?_⟩) (by assumption) ?_
  rotate_left 1
  focus (intro wS hSw; (try dsimp only at hSw); go_simp; try with_reducible rfl)
  try simp only [List.setIfInBounds_toArray, List.set_cons_zero, List.set_cons_succ]
  refine take_slot (i := 12) (d := 62) (v := ?_) rfl rfl (by kernel_rfl) (by kernel_rfl) (by kernel_rfl) (fun _ _ _ h => h) (Or.inl ⟨by rfl, ?_⟩) (by assumption) ?_
  rotate_left 1
  focus (intro wS hSw; (try dsimp only at hSw); go_simp; try with_reducible rfl)
  try simp only [List.setIfInBounds_toArray, List.set_cons_zero, List.set_cons_succ]
  refine take_slot (i := 13) (d := 63) (v := ?_) rfl rfl (by kernel_rfl) (by kernel_rfl) (by kernel_rfl) (fun _ _ _ h => h) (Or.inl ⟨by rfl, ?_⟩) (by assumption) ?_
  rotate_left 1
  focus (intro wS hSw; (try dsimp only at hSw); go_simp; try with_reducible rfl)
  try simp only [List.setIfInBounds_toArray, List.set_cons_zero, List.set_cons_succ]
  refine take_slot (i := 14) (d := 64) (v := ?_) rfl rfl (by kernel_rfl) (by kernel_rfl) (by kernel_rfl) (fun _ _ _ h => h) (Or.inl ⟨by rfl, ?_⟩) (by assumption) ?_
  rotate_left 1
  focus (intro wS hSw; (try dsimp only at hSw); go_simp; try with_reducible rfl)
  try simp only [List.setIfInBounds_toArray, List.set_cons_zero, List.set_cons_succ]
  refine take_slot (i := 15) (d := 65) (v := ?_) rfl rfl (by kernel_rfl) (by kernel_rfl) (by kernel_rfl) (fun _ _ _ h => h) (Or.inl ⟨by rfl, ?_⟩) (by assumption) ?_
  rotate_left 1
  focus (intro wS hSw; (try dsimp only at hSw); go_simp; try with_reducible rfl)
  try simp only [List.setIfInBounds_toArray, List.set_cons_zero, List.set_cons_succ]
  refine take_slot (i := 16) (d := 7) (v := ?_) rfl rfl (by kernel_rfl) (by kernel_rfl) (by kernel_rfl) (fun _ _ _ h => h) (Or.inl ⟨by rfl, ?_⟩) (by assumption) ?_
  rotate_left 1
  focus (intro wS hSw; (try dsimp only at hSw); go_simp; try with_reducible rfl)
  try simp only [List.setIfInBounds_toArray, List.set_cons_zero, List.set_cons_succ]
  refine take_slot (i := 17) (d := 8) (v := ?_) rfl rfl (by kernel_rfl) (by kernel_rfl) (by kernel_rfl) (fun _ _ _ h => h) (Or.inl ⟨by rfl, ?_⟩) (by assumption) ?_
  rotate_left 1
  focus (intro wS hSw; (try dsimp only at hSw); go_simp; try with_reducible rfl)
  try simp only [List.setIfInBounds_toArray, List.set_cons_zero, List.set_cons_succ]
  refine take_slot (i := 18) (d := 9) (v := ?_) rfl rfl (by kernel_rfl) (by kernel_rfl) (by kernel_rfl) (fun _ _ _ h => h) (Or.inl ⟨by rfl, ?_⟩) (by assumption) ?_
  rotate_left 1
  focus (intro wS hSw; (try dsimp only at hSw); go_simp; try with_reducible rfl)
  try simp only [List.setIfInBounds_toArray, List.set_cons_zero, List.set_cons_succ]
  refine take_slot (i := 19) (d := 10) (v := ?_) rfl rfl (by kernel_rfl) (by kernel_rfl) (by kernel_rfl) (fun _ _ _ h => h) (Or.inl ⟨by rfl, ?_⟩) (by assumption) ?_
  rotate_left 1
  focus (intro wS hSw; (try dsimp only at hSw); go_simp; try with_reducible rfl)
  try simp only [List.setIfInBounds_toArray, List.set_cons_zero, List.set_cons_succ]
  refine wpAnyH_done (by kernel_rfl) ?_ _
  replace hB := hB.trans (hL.mono hB.size)
  clear hHeld hL hBW
  go_wp2_with fail
  refine (HC.out.c1 _).mono ?_
  rintro e W3 ⟨rfl, hb⟩
  replace Bs0 := cell_next hb nBs Bs0
  replace Bs1 := cell_next hb nBs Bs1
  replace nBs := Nat.lt_of_lt_of_le nBs hb.size
  replace Bx0 := cell_next hb nBx Bx0
  replace Bx1 := cell_next hb nBx Bx1
  replace Bx2 := cell_next hb nBx Bx2
  replace Bx3 := cell_next hb nBx Bx3
  replace nBx := Nat.lt_of_lt_of_le nBx hb.size
  replace Bm0 := cell_next hb nBm Bm0
  replace Bm1 := cell_next hb nBm Bm1
  replace nBm := Nat.lt_of_lt_of_le nBm hb.size
  replace hB := hB.trans (hb.mono hB.size)
  clear hb
  go_wp2_with fail
  refine (HC.out.c2 _).mono ?_
  rintro e W4 ⟨rfl, hb⟩
  replace Bs0 := cell_next (below2 hb) nBs Bs0
  replace Bs1 := cell_next (below2 hb) nBs Bs1
  replace nBs := Nat.lt_of_lt_of_le nBs (below2 hb).size
  replace Bx0 := cell_next (below2 hb) nBx Bx0
  replace Bx1 := cell_next (below2 hb) nBx Bx1
  replace Bx2 := cell_next (below2 hb) nBx Bx2
  replace Bx3 := cell_next (below2 hb) nBx Bx3
  replace nBx := Nat.lt_of_lt_of_le nBx (below2 hb).size
  replace Bm0 := cell_next (below2 hb) nBm Bm0
  replace Bm1 := cell_next (below2 hb) nBm Bm1
  replace nBm := Nat.lt_of_lt_of_le nBm (below2 hb).size
  have Bk0 := cell_next hb (b := W3.heap.size) (o := 0) (by simp <;> omega) (v := some (.int .i64 k1)) (by simp [go_sem])
  have Bk1 := cell_next hb (b := W3.heap.size) (o := 1) (by simp <;> omega) (v := some (.int .i64 k2)) (by simp [go_sem])
  have nBk : W3.heap.size < W4.heap.size := by have := hb.size; simp at this; omega
  have Bg0 := cell_next hb (b := W3.heap.size + 1) (o := 0) (by simp <;> omega) (v := some (.int .i64 g1)) (by simp [go_sem])
  have Bg1 := cell_next hb (b := W3.heap.size + 1) (o := 1) (by simp <;> omega) (v := some (.int .i64 g2)) (by simp [go_sem])
  have nBg : W3.heap.size + 1 < W4.heap.size := by have := hb.size; simp at this; omega
  replace hB := hB.trans ((below2 hb).mono hB.size)
  clear hb
  generalize W3.heap.size = q4 at *
  go_wp2_with fail
  refine (HC.out.c3 _).mono ?_
  rintro e W5 ⟨rfl, hb⟩
  replace Bs0 := cell_next (below2 hb) nBs Bs0
  replace Bs1 := cell_next (below2 hb) nBs Bs1
  replace nBs := Nat.lt_of_lt_of_le nBs (below2 hb).size
  replace Bx0 := cell_next (below2 hb) nBx Bx0
  replace Bx1 := cell_next (below2 hb) nBx Bx1
  replace Bx2 := cell_next (below2 hb) nBx Bx2
  replace Bx3 := cell_next (below2 hb) nBx Bx3
  replace nBx := Nat.lt_of_lt_of_le nBx (below2 hb).size
  replace Bm0 := cell_next (below2 hb) nBm Bm0
  replace Bm1 := cell_next (below2 hb) nBm Bm1
  replace nBm := Nat.lt_of_lt_of_le nBm (below2 hb).size
  replace Bk0 := cell_next (below2 hb) nBk Bk0
  replace Bk1 := cell_next (below2 hb) nBk Bk1
  replace nBk := Nat.lt_of_lt_of_le nBk (below2 hb).size
  replace Bg0 := cell_next (below2 hb) nBg Bg0
  replace Bg1 := cell_next (below2 hb) nBg Bg1
  replace nBg := Nat.lt_of_lt_of_le nBg (below2 hb).size
  have Ba0 := cell_next hb (b := W4.heap.size) (o := 0) (by simp <;> omega) (v := some (.int .i64 a1)) (by simp [go_sem])
  have Ba1 := cell_next hb (b := W4.heap.size) (o := 1) (by simp <;> omega) (v := some (.int .i64 a2)) (by simp [go_sem])
  have nBa : W4.heap.size < W5.heap.size := by have := hb.size; simp at this; omega
  have Bw0 := cell_next hb (b := W4.heap.size + 1) (o := 0) (by simp <;> omega) (v := some (.int .i64 w1)) (by simp [go_sem])
  have Bw1 := cell_next hb (b := W4.heap.size + 1) (o := 1) (by simp <;> omega) (v := some (.int .i64 w2)) (by simp [go_sem])
  have nBw : W4.heap.size + 1 < W5.heap.size := by have := hb.size; simp at this; omega
  replace hB := hB.trans ((below2 hb).mono hB.size)
  clear hb
  generalize W4.heap.size = q5 at *
  go_wp2_with fail
  have hb : Below W5.heap.size W5 ((W5.alloc (Obj.cells #[.int .i64 a1, .int .i64 a2] 36)).alloc (Obj.cells #[.int .i64 o1, .int .i64 o2] 36)) := (((Below.refl _ _).alloc (Nat.le_refl _) _).alloc (by simp <;> omega) _)
  replace Bs0 := cell_next hb nBs Bs0
  replace Bs1 := cell_next hb nBs Bs1
  replace nBs := Nat.lt_of_lt_of_le nBs hb.size
  replace Bx0 := cell_next hb nBx Bx0
  replace Bx1 := cell_next hb nBx Bx1
  replace Bx2 := cell_next hb nBx Bx2
  replace Bx3 := cell_next hb nBx Bx3
  replace nBx := Nat.lt_of_lt_of_le nBx hb.size
  replace Bm0 := cell_next hb nBm Bm0
  replace Bm1 := cell_next hb nBm Bm1
  replace nBm := Nat.lt_of_lt_of_le nBm hb.size
  replace Bk0 := cell_next hb nBk Bk0
  replace Bk1 := cell_next hb nBk Bk1
  replace nBk := Nat.lt_of_lt_of_le nBk hb.size
  replace Bg0 := cell_next hb nBg Bg0
  replace Bg1 := cell_next hb nBg Bg1
  replace nBg := Nat.lt_of_lt_of_le nBg hb.size
  replace Ba0 := cell_next hb nBa Ba0
  replace Ba1 := cell_next hb nBa Ba1
  replace nBa := Nat.lt_of_lt_of_le nBa hb.size
  replace Bw0 := cell_next hb nBw Bw0
  replace Bw1 := cell_next hb nBw Bw1
  replace nBw := Nat.lt_of_lt_of_le nBw hb.size
  have Bc0 : ((W5.alloc (Obj.cells #[.int .i64 a1, .int .i64 a2] 36)).alloc (Obj.cells #[.int .i64 o1, .int .i64 o2] 36)).cell? ⟨W5.heap.size, 0, none⟩ = some (.int .i64 a1) := by simp [go_sem]
  have Bc1 : ((W5.alloc (Obj.cells #[.int .i64 a1, .int .i64 a2] 36)).alloc (Obj.cells #[.int .i64 o1, .int .i64 o2] 36)).cell? ⟨W5.heap.size, 1, none⟩ = some (.int .i64 a2) := by simp [go_sem]
  have nBc : W5.heap.size < ((W5.alloc (Obj.cells #[.int .i64 a1, .int .i64 a2] 36)).alloc (Obj.cells #[.int .i64 o1, .int .i64 o2] 36)).heap.size := by simp <;> omega
  have Bo0 : ((W5.alloc (Obj.cells #[.int .i64 a1, .int .i64 a2] 36)).alloc (Obj.cells #[.int .i64 o1, .int .i64 o2] 36)).cell? ⟨W5.heap.size + 1, 0, none⟩ = some (.int .i64 o1) := by simp [go_sem]
  have Bo1 : ((W5.alloc (Obj.cells #[.int .i64 a1, .int .i64 a2] 36)).alloc (Obj.cells #[.int .i64 o1, .int .i64 o2] 36)).cell? ⟨W5.heap.size + 1, 1, none⟩ = some (.int .i64 o2) := by simp [go_sem]
  have nBo : W5.heap.size + 1 < ((W5.alloc (Obj.cells #[.int .i64 a1, .int .i64 a2] 36)).alloc (Obj.cells #[.int .i64 o1, .int .i64 o2] 36)).heap.size := by simp <;> omega
  replace hB := hB.trans (hb.mono hB.size)
  clear hb
  generalize ((W5.alloc (Obj.cells #[.int .i64 a1, .int .i64 a2] 36)).alloc (Obj.cells #[.int .i64 o1, .int .i64 o2] 36)) = W6 at *
  generalize W5.heap.size = q6 at *
  have hBW : W6.heap.size ≤ W6.heap.size := Nat.le_refl _
  refine wp_region_held_drew (S := fun w' => w'.cell? ⟨w.heap.size, 0, none⟩ = some (.int .i64 A) ∧ w'.cell? ⟨w.heap.size, 1, none⟩ = some (.int .i64 S) ∧ w'.cell? ⟨q4, 0, none⟩ = some (.int .i64 k1) ∧ w'.cell? ⟨q4, 1, none⟩ = some (.int .i64 k2) ∧ w'.cell? ⟨q4 + 1, 0, none⟩ = some (.int .i64 g1) ∧ w'.cell? ⟨q4 + 1, 1, none⟩ = some (.int .i64 g2) ∧ w'.cell? ⟨q5, 0, none⟩ = some (.int .i64 a1) ∧ w'.cell? ⟨q5, 1, none⟩ = some (.int .i64 a2) ∧ w'.cell? ⟨q5 + 1, 0, none⟩ = some (.int .i64 w1) ∧ w'.cell? ⟨q5 + 1, 1, none⟩ = some (.int .i64 w2) ∧ w'.cell? ⟨q6, 0, none⟩ = some (.int .i64 a1) ∧ w'.cell? ⟨q6, 1, none⟩ = some (.int .i64 a2) ∧ w'.cell? ⟨q6 + 1, 0, none⟩ = some (.int .i64 o1) ∧ w'.cell? ⟨q6 + 1, 1, none⟩ = some (.int .i64 o2) ∧ True) (by kernel_rfl) ?_ (fun hHeld => ?_)
  focus (exact ⟨Bs0, Bs1, Bk0, Bk1, Bg0, Bg1, Ba0, Ba1, Bw0, Bw1, Bc0, Bc1, Bo0, Bo1, trivial⟩)
  have hL : Below W6.heap.size W6 W6.drew := Below.drew (Below.refl _ _)
  replace Bs0 : W6.drew.cell? ⟨w.heap.size, 0, none⟩ = some (.int .i64 A) := Bs0
  replace Bs1 : W6.drew.cell? ⟨w.heap.size, 1, none⟩ = some (.int .i64 S) := Bs1
  replace Bx0 : W6.drew.cell? ⟨w.heap.size + 1, 0, none⟩ = some (.int .u16 v0) := Bx0
  replace Bx1 : W6.drew.cell? ⟨w.heap.size + 1, 1, none⟩ = some (.int .u16 v1) := Bx1
  replace Bx2 : W6.drew.cell? ⟨w.heap.size + 1, 2, none⟩ = some (.int .u16 v2) := Bx2
  replace Bx3 : W6.drew.cell? ⟨w.heap.size + 1, 3, none⟩ = some (.int .u16 v3) := Bx3
  replace Bm0 : W6.drew.cell? ⟨w.heap.size + 1 + 1, 0, none⟩ = some (.int .u8 m0) := Bm0
  replace Bm1 : W6.drew.cell? ⟨w.heap.size + 1 + 1, 1, none⟩ = some (.int .u8 m1) := Bm1
  replace Bk0 : W6.drew.cell? ⟨q4, 0, none⟩ = some (.int .i64 k1) := Bk0
  replace Bk1 : W6.drew.cell? ⟨q4, 1, none⟩ = some (.int .i64 k2) := Bk1
  replace Bg0 : W6.drew.cell? ⟨q4 + 1, 0, none⟩ = some (.int .i64 g1) := Bg0
  replace Bg1 : W6.drew.cell? ⟨q4 + 1, 1, none⟩ = some (.int .i64 g2) := Bg1
  replace Ba0 : W6.drew.cell? ⟨q5, 0, none⟩ = some (.int .i64 a1) := Ba0
  replace Ba1 : W6.drew.cell? ⟨q5, 1, none⟩ = some (.int .i64 a2) := Ba1
  replace Bw0 : W6.drew.cell? ⟨q5 + 1, 0, none⟩ = some (.int .i64 w1) := Bw0
  replace Bw1 : W6.drew.cell? ⟨q5 + 1, 1, none⟩ = some (.int .i64 w2) := Bw1
  replace Bc0 : W6.drew.cell? ⟨q6, 0, none⟩ = some (.int .i64 a1) := Bc0
  replace Bc1 : W6.drew.cell? ⟨q6, 1, none⟩ = some (.int .i64 a2) := Bc1
  replace Bo0 : W6.drew.cell? ⟨q6 + 1, 0, none⟩ = some (.int .i64 o1) := Bo0
  replace Bo1 : W6.drew.cell? ⟨q6 + 1, 1, none⟩ = some (.int .i64 o2) := Bo1
  replace nBs : w.heap.size < W6.drew.heap.size := nBs
  replace nBx : w.heap.size + 1 < W6.drew.heap.size := nBx
  replace nBm : w.heap.size + 1 + 1 < W6.drew.heap.size := nBm
  replace nBk : q4 < W6.drew.heap.size := nBk
  replace nBg : q4 + 1 < W6.drew.heap.size := nBg
  replace nBa : q5 < W6.drew.heap.size := nBa
  replace nBw : q5 + 1 < W6.drew.heap.size := nBw
  replace nBc : q6 < W6.drew.heap.size := nBc
  replace nBo : q6 + 1 < W6.drew.heap.size := nBo
  generalize hWd : W6.drew = wd7 at hHeld hL Bs0 Bs1 Bx0 Bx1 Bx2 Bx3 Bm0 Bm1 Bk0 Bk1 Bg0 Bg1 Ba0 Ba1 Bw0 Bw1 Bc0 Bc1 Bo0 Bo1 nBs nBx nBm nBk nBg nBa nBw nBc nBo  ⊢
  clear hWd
  refine take_slot (i := 0) (d := 95) (v := ?_) rfl rfl (by kernel_rfl) (by kernel_rfl) (by kernel_rfl) (fun _ _ _ h => h) (Or.inl ⟨by rfl, ?_⟩) (by assumption) ?_
  rotate_left 1
  focus (intro wS hSw; (try dsimp only at hSw); go_simp; try with_reducible rfl)
  try simp only [List.setIfInBounds_toArray, List.set_cons_zero, List.set_cons_succ]
  refine take_slot (i := 1) (d := 96) (v := ?_) rfl rfl (by kernel_rfl) (by kernel_rfl) (by kernel_rfl) (fun _ _ _ h => h) (Or.inl ⟨by rfl, ?_⟩) (by assumption) ?_
  rotate_left 1
  focus (intro wS hSw; (try dsimp only at hSw); go_simp; try with_reducible rfl)
  try simp only [List.setIfInBounds_toArray, List.set_cons_zero, List.set_cons_succ]
  refine take_slot (i := 2) (d := 97) (v := ?_) rfl rfl (by kernel_rfl) (by kernel_rfl) (by kernel_rfl) (fun _ _ _ h => h) (Or.inl ⟨by rfl, ?_⟩) (by assumption) ?_
  rotate_left 1
  focus (intro wS hSw; (try dsimp only at hSw); go_simp; try with_reducible rfl)
  try simp only [List.setIfInBounds_toArray, List.set_cons_zero, List.set_cons_succ]
  refine take_slot (i := 3) (d := 98) (v := ?_) rfl rfl (by kernel_rfl) (by kernel_rfl) (by kernel_rfl) (fun _ _ _ h => h) (Or.inl ⟨by rfl, ?_⟩) (by assumption) ?_
  rotate_left 1
  focus (intro wS hSw; (try dsimp only at hSw); go_simp; try with_reducible rfl)
  try simp only [List.setIfInBounds_toArray, List.set_cons_zero, List.set_cons_succ]
  refine take_slot (i := 4) (d := 99) (v := ?_) rfl rfl (by kernel_rfl) (by kernel_rfl) (by kernel_rfl) (fun _ _ _ h => h) (Or.inl ⟨by rfl, ?_⟩) (by assumption) ?_
  rotate_left 1
  focus (intro wS hSw; (try dsimp only at hSw); go_simp; try with_reducible rfl)
  try simp only [List.setIfInBounds_toArray, List.set_cons_zero, List.set_cons_succ]
  refine take_slot (i := 5) (d := 100) (v := ?_) rfl rfl (by kernel_rfl) (by kernel_rfl) (by kernel_rfl) (fun _ _ _ h => h) (Or.inl ⟨by rfl, ?_⟩) (by assumption) ?_
  rotate_left 1
  focus (intro wS hSw; (try dsimp only at hSw); go_simp; try with_reducible rfl)
  try simp only [List.setIfInBounds_toArray, List.set_cons_zero, List.set_cons_succ]
  refine take_slot (i := 6) (d := 101) (v := ?_) rfl rfl (by kernel_rfl) (by kernel_rfl) (by kernel_rfl) (fun _ _ _ h => h) (Or.inl ⟨by rfl, ?_⟩) (by assumption) ?_
  rotate_left 1
  focus (intro wS hSw; (try dsimp only at hSw); go_simp; try with_reducible rfl)
  try simp only [List.setIfInBounds_toArray, List.set_cons_zero, List.set_cons_succ]
  refine take_slot (i := 7) (d := 102) (v := ?_) rfl rfl (by kernel_rfl) (by kernel_rfl) (by kernel_rfl) (fun _ _ _ h => h) (Or.inl ⟨by rfl, ?_⟩) (by assumption) ?_
  rotate_left 1
  focus (intro wS hSw; (try dsimp only at hSw); go_simp; try with_reducible rfl)
  try simp only [List.setIfInBounds_toArray, List.set_cons_zero, List.set_cons_succ]
  refine take_slot (i := 8) (d := 103) (v := ?_) rfl rfl (by kernel_rfl) (by kernel_rfl) (by kernel_rfl) (fun _ _ _ h => h) (Or.inl ⟨by rfl, ?_⟩) (by assumption) ?_
  rotate_left 1
  focus (intro wS hSw; (try dsimp only at hSw); go_simp; try with_reducible rfl)
  try simp only [List.setIfInBounds_toArray, List.set_cons_zero, List.set_cons_succ]
  refine take_slot (i := 9) (d := 104) (v := ?_) rfl rfl (by kernel_rfl) (by kernel_rfl) (by kernel_rfl) (fun _ _ _ h => h) (Or.inl ⟨by rfl, ?_⟩) (by assumption) ?_
  rotate_left 1
  focus (intro wS hSw; (try dsimp only at hSw); go_simp; try with_reducible rfl)
  try simp only [List.setIfInBounds_toArray, List.set_cons_zero, List.set_cons_succ]
  refine take_slot (i := 10) (d := 105) (v := ?_) rfl rfl (by kernel_rfl) (by kernel_rfl) (by kernel_rfl) (fun _ _ _ h => h) (Or.inl ⟨by rfl, ?_⟩) (by assumption) ?_
  rotate_left 1
  focus (intro wS hSw; (try dsimp only at hSw); go_simp; try with_reducible rfl)
  try simp only [List.setIfInBounds_toArray, List.set_cons_zero, List.set_cons_succ]
  refine take_slot (i := 11) (d := 106) (v := ?_) rfl rfl (by kernel_rfl) (by kernel_rfl) (by kernel_rfl) (fun _ _ _ h => h) (Or.inl ⟨by rfl, ?_⟩) (by assumption) ?_
  rotate_left 1
  focus (intro wS hSw; (try dsimp only at hSw); go_simp; try with_reducible rfl)
  try simp only [List.setIfInBounds_toArray, List.set_cons_zero, List.set_cons_succ]
  refine take_slot (i := 12) (d := 107) (v := ?_) rfl rfl (by kernel_rfl) (by kernel_rfl) (by kernel_rfl) (fun _ _ _ h => h) (Or.inl ⟨by rfl, ?_⟩) (by assumption) ?_
  rotate_left 1
  focus (intro wS hSw; (try dsimp only at hSw); go_simp; try with_reducible rfl)
  try simp only [List.setIfInBounds_toArray, List.set_cons_zero, List.set_cons_succ]
  refine take_slot (i := 15) (d := 110) (v := ?_) rfl rfl (by kernel_rfl) (by kernel_rfl) (by kernel_rfl) (fun _ _ _ h => h) (Or.inl ⟨by rfl, ?_⟩) (by assumption) ?_
  rotate_left 1
  focus (intro wS hSw; (try dsimp only at hSw); go_simp; try with_reducible rfl)
  try simp only [List.setIfInBounds_toArray, List.set_cons_zero, List.set_cons_succ]
  refine wpAnyH_ready (rs := [13]) (by kernel_rfl) (by simp) ?_
  refine AllReadyH.cons rfl (fun K hK => ?_) AllReadyH.nil
  go_simp
  have hb := (Below.refl wd7.heap.size wd7).alloc (Nat.le_refl _) (Obj.cells #[.int .i64 k1, .int .i64 k2, .int .i64 g1, .int .i64 g2] 36)
  have szZ7x1 := hL.size
  have ord1nBs := nBs
  have ord1nBx := nBx
  have ord1nBm := nBm
  have ord1nBk := nBk
  have ord1nBg := nBg
  have ord1nBa := nBa
  have ord1nBw := nBw
  have ord1nBc := nBc
  have ord1nBo := nBo
  replace Bs0 := cell_next hb nBs Bs0
  replace Bs1 := cell_next hb nBs Bs1
  replace Bx0 := cell_next hb nBx Bx0
  replace Bx1 := cell_next hb nBx Bx1
  replace Bx2 := cell_next hb nBx Bx2
  replace Bx3 := cell_next hb nBx Bx3
  replace Bm0 := cell_next hb nBm Bm0
  replace Bm1 := cell_next hb nBm Bm1
  replace Bk0 := cell_next hb nBk Bk0
  replace Bk1 := cell_next hb nBk Bk1
  replace Bg0 := cell_next hb nBg Bg0
  replace Bg1 := cell_next hb nBg Bg1
  replace Ba0 := cell_next hb nBa Ba0
  replace Ba1 := cell_next hb nBa Ba1
  replace Bw0 := cell_next hb nBw Bw0
  replace Bw1 := cell_next hb nBw Bw1
  replace Bc0 := cell_next hb nBc Bc0
  replace Bc1 := cell_next hb nBc Bc1
  replace Bo0 := cell_next hb nBo Bo0
  replace Bo1 := cell_next hb nBo Bo1
  replace nBs := Nat.lt_of_lt_of_le nBs hb.size
  replace nBx := Nat.lt_of_lt_of_le nBx hb.size
  replace nBm := Nat.lt_of_lt_of_le nBm hb.size
  replace nBk := Nat.lt_of_lt_of_le nBk hb.size
  replace nBg := Nat.lt_of_lt_of_le nBg hb.size
  replace nBa := Nat.lt_of_lt_of_le nBa hb.size
  replace nBw := Nat.lt_of_lt_of_le nBw hb.size
  replace nBc := Nat.lt_of_lt_of_le nBc hb.size
  replace nBo := Nat.lt_of_lt_of_le nBo hb.size
  replace hL := hL.trans (hb.mono (Nat.le_trans hBW hL.size))
  have Pa0 : (wd7.alloc (Obj.cells #[.int .i64 k1, .int .i64 k2, .int .i64 g1, .int .i64 g2] 36)).cell? ⟨wd7.heap.size, 0, none⟩ = some (.int .i64 k1) := cell_new _ _ _ 0
  have Pa1 : (wd7.alloc (Obj.cells #[.int .i64 k1, .int .i64 k2, .int .i64 g1, .int .i64 g2] 36)).cell? ⟨wd7.heap.size, 1, none⟩ = some (.int .i64 k2) := cell_new _ _ _ 1
  have Pa2 : (wd7.alloc (Obj.cells #[.int .i64 k1, .int .i64 k2, .int .i64 g1, .int .i64 g2] 36)).cell? ⟨wd7.heap.size, 2, none⟩ = some (.int .i64 g1) := cell_new _ _ _ 2
  have Pa3 : (wd7.alloc (Obj.cells #[.int .i64 k1, .int .i64 k2, .int .i64 g1, .int .i64 g2] 36)).cell? ⟨wd7.heap.size, 3, none⟩ = some (.int .i64 g2) := cell_new _ _ _ 3
  have nPa : wd7.heap.size < (wd7.alloc (Obj.cells #[.int .i64 k1, .int .i64 k2, .int .i64 g1, .int .i64 g2] 36)).heap.size := by simp
  refine hK.out _ _ ⟨Bs0, Bs1, Bk0, Bk1, Bg0, Bg1, Ba0, Ba1, Bw0, Bw1, Bc0, Bc1, Bo0, Bo1, trivial⟩ (fun hHeld => ?_)
  clear hK K hb
  generalize wd7.alloc (Obj.cells #[.int .i64 k1, .int .i64 k2, .int .i64 g1, .int .i64 g2] 36) = Z7x1 at *
  try simp only [Act.put, List.setIfInBounds_toArray, List.set_cons_zero, List.set_cons_succ]
  refine wpAnyH_ready (rs := [14]) (by kernel_rfl) (by simp) ?_
  refine AllReadyH.cons rfl (fun K hK => ?_) AllReadyH.nil
  go_simp
  refine (plus2_any _ _ _ _ _ _ _ _ _ nPa smk1.out smg1.out E1.out E2.out Pa0 Pa1 Pa2 Pa3).mono ?_
  rintro e Z7x2 ⟨rfl, hb⟩
  replace Bs0 := cell_next hb nBs Bs0
  replace Bs1 := cell_next hb nBs Bs1
  replace Bx0 := cell_next hb nBx Bx0
  replace Bx1 := cell_next hb nBx Bx1
  replace Bx2 := cell_next hb nBx Bx2
  replace Bx3 := cell_next hb nBx Bx3
  replace Bm0 := cell_next hb nBm Bm0
  replace Bm1 := cell_next hb nBm Bm1
  replace Bk0 := cell_next hb nBk Bk0
  replace Bk1 := cell_next hb nBk Bk1
  replace Bg0 := cell_next hb nBg Bg0
  replace Bg1 := cell_next hb nBg Bg1
  replace Ba0 := cell_next hb nBa Ba0
  replace Ba1 := cell_next hb nBa Ba1
  replace Bw0 := cell_next hb nBw Bw0
  replace Bw1 := cell_next hb nBw Bw1
  replace Bc0 := cell_next hb nBc Bc0
  replace Bc1 := cell_next hb nBc Bc1
  replace Bo0 := cell_next hb nBo Bo0
  replace Bo1 := cell_next hb nBo Bo1
  replace Pa0 := cell_next hb nPa Pa0
  replace Pa1 := cell_next hb nPa Pa1
  replace Pa2 := cell_next hb nPa Pa2
  replace Pa3 := cell_next hb nPa Pa3
  replace nBs := Nat.lt_of_lt_of_le nBs hb.size
  replace nBx := Nat.lt_of_lt_of_le nBx hb.size
  replace nBm := Nat.lt_of_lt_of_le nBm hb.size
  replace nBk := Nat.lt_of_lt_of_le nBk hb.size
  replace nBg := Nat.lt_of_lt_of_le nBg hb.size
  replace nBa := Nat.lt_of_lt_of_le nBa hb.size
  replace nBw := Nat.lt_of_lt_of_le nBw hb.size
  replace nBc := Nat.lt_of_lt_of_le nBc hb.size
  replace nBo := Nat.lt_of_lt_of_le nBo hb.size
  replace nPa := Nat.lt_of_lt_of_le nPa hb.size
  replace hL := hL.trans (hb.mono (Nat.le_trans hBW hL.size))
  refine hK.out _ _ ⟨Bs0, Bs1, Bk0, Bk1, Bg0, Bg1, Ba0, Ba1, Bw0, Bw1, Bc0, Bc1, Bo0, Bo1, trivial⟩ (fun hHeld => ?_)
  clear hK K hb
  try simp only [Act.put, List.setIfInBounds_toArray, List.set_cons_zero, List.set_cons_succ]
  refine take_slot (i := 16) (d := 111) (v := ?_) rfl rfl (by kernel_rfl) (by kernel_rfl) (by kernel_rfl) (fun _ _ _ h => h) (Or.inl ⟨by rfl, ?_⟩) (by assumption) ?_
  rotate_left 1
  focus (intro wS hSw; (try dsimp only at hSw); go_simp; try with_reducible rfl)
  try simp only [List.setIfInBounds_toArray, List.set_cons_zero, List.set_cons_succ]
  refine take_slot (i := 17) (d := 112) (v := ?_) rfl rfl (by kernel_rfl) (by kernel_rfl) (by kernel_rfl) (fun _ _ _ h => h) (Or.inl ⟨by rfl, ?_⟩) (by assumption) ?_
  rotate_left 1
  focus (intro wS hSw; (try dsimp only at hSw); go_simp; try with_reducible rfl)
  try simp only [List.setIfInBounds_toArray, List.set_cons_zero, List.set_cons_succ]
  refine take_slot (i := 18) (d := 113) (v := ?_) rfl rfl (by kernel_rfl) (by kernel_rfl) (by kernel_rfl) (fun _ _ _ h => h) (Or.inl ⟨by rfl, ?_⟩) (by assumption) ?_
  rotate_left 1
  focus (intro wS hSw; (try dsimp only at hSw); go_simp; try with_reducible rfl)
  try simp only [List.setIfInBounds_toArray, List.set_cons_zero, List.set_cons_succ]
  refine take_slot (i := 19) (d := 114) (v := ?_) rfl rfl (by kernel_rfl) (by kernel_rfl) (by kernel_rfl) (fun _ _ _ h => h) (Or.inl ⟨by rfl, ?_⟩) (by assumption) ?_
  rotate_left 1
  focus (intro wS hSw; (try dsimp only at hSw); go_simp; try with_reducible rfl)
  try simp only [List.setIfInBounds_toArray, List.set_cons_zero, List.set_cons_succ]
  refine take_slot (i := 20) (d := 115) (v := ?_) rfl rfl (by kernel_rfl) (by kernel_rfl) (by kernel_rfl) (fun _ _ _ h => h) (Or.inl ⟨by rfl, ?_⟩) (by assumption) ?_
  rotate_left 1
  focus (intro wS hSw; (try dsimp only at hSw); go_simp; try with_reducible rfl)
  try simp only [List.setIfInBounds_toArray, List.set_cons_zero, List.set_cons_succ]
  refine take_slot (i := 23) (d := 118) (v := ?_) rfl rfl (by kernel_rfl) (by kernel_rfl) (by kernel_rfl) (fun _ _ _ h => h) (Or.inl ⟨by rfl, ?_⟩) (by assumption) ?_
  rotate_left 1
  focus (intro wS hSw; (try dsimp only at hSw); go_simp; try with_reducible rfl)
  try simp only [List.setIfInBounds_toArray, List.set_cons_zero, List.set_cons_succ]
  refine wpAnyH_ready (rs := [21]) (by kernel_rfl) (by simp) ?_
  refine AllReadyH.cons rfl (fun K hK => ?_) AllReadyH.nil
  go_simp
  have hb := (Below.refl Z7x2.heap.size Z7x2).alloc (Nat.le_refl _) (Obj.cells #[.int .i64 a1, .int .i64 a2, .int .i64 o1, .int .i64 o2] 36)
  have szZ7x3 := hL.size
  have ord3nBs := nBs
  have ord3nBx := nBx
  have ord3nBm := nBm
  have ord3nBk := nBk
  have ord3nBg := nBg
  have ord3nBa := nBa
  have ord3nBw := nBw
  have ord3nBc := nBc
  have ord3nBo := nBo
  have ord3nPa := nPa
  replace Bs0 := cell_next hb nBs Bs0
  replace Bs1 := cell_next hb nBs Bs1
  replace Bx0 := cell_next hb nBx Bx0
  replace Bx1 := cell_next hb nBx Bx1
  replace Bx2 := cell_next hb nBx Bx2
  replace Bx3 := cell_next hb nBx Bx3
  replace Bm0 := cell_next hb nBm Bm0
  replace Bm1 := cell_next hb nBm Bm1
  replace Bk0 := cell_next hb nBk Bk0
  replace Bk1 := cell_next hb nBk Bk1
  replace Bg0 := cell_next hb nBg Bg0
  replace Bg1 := cell_next hb nBg Bg1
  replace Ba0 := cell_next hb nBa Ba0
  replace Ba1 := cell_next hb nBa Ba1
  replace Bw0 := cell_next hb nBw Bw0
  replace Bw1 := cell_next hb nBw Bw1
  replace Bc0 := cell_next hb nBc Bc0
  replace Bc1 := cell_next hb nBc Bc1
  replace Bo0 := cell_next hb nBo Bo0
  replace Bo1 := cell_next hb nBo Bo1
  replace Pa0 := cell_next hb nPa Pa0
  replace Pa1 := cell_next hb nPa Pa1
  replace Pa2 := cell_next hb nPa Pa2
  replace Pa3 := cell_next hb nPa Pa3
  replace nBs := Nat.lt_of_lt_of_le nBs hb.size
  replace nBx := Nat.lt_of_lt_of_le nBx hb.size
  replace nBm := Nat.lt_of_lt_of_le nBm hb.size
  replace nBk := Nat.lt_of_lt_of_le nBk hb.size
  replace nBg := Nat.lt_of_lt_of_le nBg hb.size
  replace nBa := Nat.lt_of_lt_of_le nBa hb.size
  replace nBw := Nat.lt_of_lt_of_le nBw hb.size
  replace nBc := Nat.lt_of_lt_of_le nBc hb.size
  replace nBo := Nat.lt_of_lt_of_le nBo hb.size
  replace nPa := Nat.lt_of_lt_of_le nPa hb.size
  replace hL := hL.trans (hb.mono (Nat.le_trans hBW hL.size))
  have Pb0 : (Z7x2.alloc (Obj.cells #[.int .i64 a1, .int .i64 a2, .int .i64 o1, .int .i64 o2] 36)).cell? ⟨Z7x2.heap.size, 0, none⟩ = some (.int .i64 a1) := cell_new _ _ _ 0
  have Pb1 : (Z7x2.alloc (Obj.cells #[.int .i64 a1, .int .i64 a2, .int .i64 o1, .int .i64 o2] 36)).cell? ⟨Z7x2.heap.size, 1, none⟩ = some (.int .i64 a2) := cell_new _ _ _ 1
  have Pb2 : (Z7x2.alloc (Obj.cells #[.int .i64 a1, .int .i64 a2, .int .i64 o1, .int .i64 o2] 36)).cell? ⟨Z7x2.heap.size, 2, none⟩ = some (.int .i64 o1) := cell_new _ _ _ 2
  have Pb3 : (Z7x2.alloc (Obj.cells #[.int .i64 a1, .int .i64 a2, .int .i64 o1, .int .i64 o2] 36)).cell? ⟨Z7x2.heap.size, 3, none⟩ = some (.int .i64 o2) := cell_new _ _ _ 3
  have nPb : Z7x2.heap.size < (Z7x2.alloc (Obj.cells #[.int .i64 a1, .int .i64 a2, .int .i64 o1, .int .i64 o2] 36)).heap.size := by simp
  refine hK.out _ _ ⟨Bs0, Bs1, Bk0, Bk1, Bg0, Bg1, Ba0, Ba1, Bw0, Bw1, Bc0, Bc1, Bo0, Bo1, trivial⟩ (fun hHeld => ?_)
  clear hK K hb
  generalize Z7x2.alloc (Obj.cells #[.int .i64 a1, .int .i64 a2, .int .i64 o1, .int .i64 o2] 36) = Z7x3 at *
  try simp only [Act.put, List.setIfInBounds_toArray, List.set_cons_zero, List.set_cons_succ]
  refine wpAnyH_ready (rs := [22]) (by kernel_rfl) (by simp) ?_
  refine AllReadyH.cons rfl (fun K hK => ?_) AllReadyH.nil
  go_simp
  refine (plus2_any _ _ _ _ _ _ _ _ _ nPb sma1.out smo1.out E3.out E4.out Pb0 Pb1 Pb2 Pb3).mono ?_
  rintro e Z7x4 ⟨rfl, hb⟩
  replace Bs0 := cell_next hb nBs Bs0
  replace Bs1 := cell_next hb nBs Bs1
  replace Bx0 := cell_next hb nBx Bx0
  replace Bx1 := cell_next hb nBx Bx1
  replace Bx2 := cell_next hb nBx Bx2
  replace Bx3 := cell_next hb nBx Bx3
  replace Bm0 := cell_next hb nBm Bm0
  replace Bm1 := cell_next hb nBm Bm1
  replace Bk0 := cell_next hb nBk Bk0
  replace Bk1 := cell_next hb nBk Bk1
  replace Bg0 := cell_next hb nBg Bg0
  replace Bg1 := cell_next hb nBg Bg1
  replace Ba0 := cell_next hb nBa Ba0
  replace Ba1 := cell_next hb nBa Ba1
  replace Bw0 := cell_next hb nBw Bw0
  replace Bw1 := cell_next hb nBw Bw1
  replace Bc0 := cell_next hb nBc Bc0
  replace Bc1 := cell_next hb nBc Bc1
  replace Bo0 := cell_next hb nBo Bo0
  replace Bo1 := cell_next hb nBo Bo1
  replace Pa0 := cell_next hb nPa Pa0
  replace Pa1 := cell_next hb nPa Pa1
  replace Pa2 := cell_next hb nPa Pa2
  replace Pa3 := cell_next hb nPa Pa3
  replace Pb0 := cell_next hb nPb Pb0
  replace Pb1 := cell_next hb nPb Pb1
  replace Pb2 := cell_next hb nPb Pb2
  replace Pb3 := cell_next hb nPb Pb3
  replace nBs := Nat.lt_of_lt_of_le nBs hb.size
  replace nBx := Nat.lt_of_lt_of_le nBx hb.size
  replace nBm := Nat.lt_of_lt_of_le nBm hb.size
  replace nBk := Nat.lt_of_lt_of_le nBk hb.size
  replace nBg := Nat.lt_of_lt_of_le nBg hb.size
  replace nBa := Nat.lt_of_lt_of_le nBa hb.size
  replace nBw := Nat.lt_of_lt_of_le nBw hb.size
  replace nBc := Nat.lt_of_lt_of_le nBc hb.size
  replace nBo := Nat.lt_of_lt_of_le nBo hb.size
  replace nPa := Nat.lt_of_lt_of_le nPa hb.size
  replace nPb := Nat.lt_of_lt_of_le nPb hb.size
  replace hL := hL.trans (hb.mono (Nat.le_trans hBW hL.size))
  refine hK.out _ _ ⟨Bs0, Bs1, Bk0, Bk1, Bg0, Bg1, Ba0, Ba1, Bw0, Bw1, Bc0, Bc1, Bo0, Bo1, trivial⟩ (fun hHeld => ?_)
  clear hK K hb
  try simp only [Act.put, List.setIfInBounds_toArray, List.set_cons_zero, List.set_cons_succ]
  refine take_slot (i := 24) (d := 119) (v := ?_) rfl rfl (by kernel_rfl) (by kernel_rfl) (by kernel_rfl) (fun _ _ _ h => h) (Or.inl ⟨by rfl, ?_⟩) (by assumption) ?_
  rotate_left 1
  focus (intro wS hSw; (try dsimp only at hSw); go_simp; try with_reducible rfl)
  try simp only [List.setIfInBounds_toArray, List.set_cons_zero, List.set_cons_succ]
  refine take_slot (i := 25) (d := 120) (v := ?_) rfl rfl (by kernel_rfl) (by kernel_rfl) (by kernel_rfl) (fun _ _ _ h => h) (Or.inl ⟨by rfl, ?_⟩) (by assumption) ?_
  rotate_left 1
  focus (intro wS hSw; (try dsimp only at hSw); go_simp; try with_reducible rfl)
  try simp only [List.setIfInBounds_toArray, List.set_cons_zero, List.set_cons_succ]
  refine take_slot (i := 26) (d := 121) (v := ?_) rfl rfl (by kernel_rfl) (by kernel_rfl) (by kernel_rfl) (fun _ _ _ h => h) (Or.inl ⟨by rfl, ?_⟩) (by assumption) ?_
  rotate_left 1
  focus (intro wS hSw; (try dsimp only at hSw); go_simp; try with_reducible rfl)
  try simp only [List.setIfInBounds_toArray, List.set_cons_zero, List.set_cons_succ]
  refine take_slot (i := 27) (d := 122) (v := ?_) rfl rfl (by kernel_rfl) (by kernel_rfl) (by kernel_rfl) (fun _ _ _ h => h) (Or.inl ⟨by rfl, ?_⟩) (by assumption) ?_
  rotate_left 1
  focus (intro wS hSw; (try dsimp only at hSw); go_simp; try with_reducible rfl)
  try simp only [List.setIfInBounds_toArray, List.set_cons_zero, List.set_cons_succ]
  refine take_slot (i := 28) (d := 123) (v := ?_) rfl rfl (by kernel_rfl) (by kernel_rfl) (by kernel_rfl) (fun _ _ _ h => h) (Or.inl ⟨by rfl, ?_⟩) (by assumption) ?_
  rotate_left 1
  focus (intro wS hSw; (try dsimp only at hSw); go_simp; try with_reducible rfl)
  try simp only [List.setIfInBounds_toArray, List.set_cons_zero, List.set_cons_succ]
  refine take_slot (i := 29) (d := 124) (v := ?_) rfl rfl (by kernel_rfl) (by kernel_rfl) (by kernel_rfl) (fun _ _ _ h => h) (Or.inl ⟨by rfl, ?_⟩) (by assumption) ?_
  rotate_left 1
  focus (intro wS hSw; (try dsimp only at hSw); go_simp; try with_reducible rfl)
  try simp only [List.setIfInBounds_toArray, List.set_cons_zero, List.set_cons_succ]
  refine take_slot (i := 30) (d := 125) (v := ?_) rfl rfl (by kernel_rfl) (by kernel_rfl) (by kernel_rfl) (fun _ _ _ h => h) (Or.inl ⟨by rfl, ?_⟩) (by assumption) ?_
  rotate_left 1
  focus (intro wS hSw; (try dsimp only at hSw); go_simp; try with_reducible rfl)
  try simp only [List.setIfInBounds_toArray, List.set_cons_zero, List.set_cons_succ]
  refine take_slot (i := 31) (d := 126) (v := ?_) rfl rfl (by kernel_rfl) (by kernel_rfl) (by kernel_rfl) (fun _ _ _ h => h) (Or.inl ⟨by rfl, ?_⟩) (by assumption) ?_
  rotate_left 1
  focus (intro wS hSw; (try dsimp only at hSw); go_simp; try with_reducible rfl)
  try simp only [List.setIfInBounds_toArray, List.set_cons_zero, List.set_cons_succ]
  refine take_slot (i := 32) (d := 127) (v := ?_) rfl rfl (by kernel_rfl) (by kernel_rfl) (by kernel_rfl) (fun _ _ _ h => h) (Or.inl ⟨by rfl, ?_⟩) (by assumption) ?_
  rotate_left 1
  focus (intro wS hSw; (try dsimp only at hSw); go_simp; try with_reducible rfl)
  try simp only [List.setIfInBounds_toArray, List.set_cons_zero, List.set_cons_succ]
  refine take_slot (i := 33) (d := 128) (v := ?_) rfl rfl (by kernel_rfl) (by kernel_rfl) (by kernel_rfl) (fun _ _ _ h => h) (Or.inl ⟨by rfl, ?_⟩) (by assumption) ?_
  rotate_left 1
  focus (intro wS hSw; (try dsimp only at hSw); go_simp; try with_reducible rfl)
  try simp only [List.setIfInBounds_toArray, List.set_cons_zero, List.set_cons_succ]
  refine take_slot (i := 36) (d := 131) (v := ?_) rfl rfl (by kernel_rfl) (by kernel_rfl) (by kernel_rfl) (fun _ _ _ h => h) (Or.inl ⟨by rfl, ?_⟩) (by assumption) ?_
  rotate_left 1
  focus (intro wS hSw; (try dsimp only at hSw); go_simp; try with_reducible rfl)
  try simp only [List.setIfInBounds_toArray, List.set_cons_zero, List.set_cons_succ]
  refine wpAnyH_ready (rs := [34]) (by kernel_rfl) (by simp) ?_
  refine AllReadyH.cons rfl (fun K hK => ?_) AllReadyH.nil
  go_simp
  have hb := (Below.refl Z7x4.heap.size Z7x4).alloc (Nat.le_refl _) (Obj.cells #[.int .i64 g1, .int .i64 g2, .int .i64 w1, .int .i64 w2] 36)
  have szZ7x5 := hL.size
  have ord5nBs := nBs
  have ord5nBx := nBx
  have ord5nBm := nBm
  have ord5nBk := nBk
  have ord5nBg := nBg
  have ord5nBa := nBa
  have ord5nBw := nBw
  have ord5nBc := nBc
  have ord5nBo := nBo
  have ord5nPa := nPa
  have ord5nPb := nPb
  replace Bs0 := cell_next hb nBs Bs0
  replace Bs1 := cell_next hb nBs Bs1
  replace Bx0 := cell_next hb nBx Bx0
  replace Bx1 := cell_next hb nBx Bx1
  replace Bx2 := cell_next hb nBx Bx2
  replace Bx3 := cell_next hb nBx Bx3
  replace Bm0 := cell_next hb nBm Bm0
  replace Bm1 := cell_next hb nBm Bm1
  replace Bk0 := cell_next hb nBk Bk0
  replace Bk1 := cell_next hb nBk Bk1
  replace Bg0 := cell_next hb nBg Bg0
  replace Bg1 := cell_next hb nBg Bg1
  replace Ba0 := cell_next hb nBa Ba0
  replace Ba1 := cell_next hb nBa Ba1
  replace Bw0 := cell_next hb nBw Bw0
  replace Bw1 := cell_next hb nBw Bw1
  replace Bc0 := cell_next hb nBc Bc0
  replace Bc1 := cell_next hb nBc Bc1
  replace Bo0 := cell_next hb nBo Bo0
  replace Bo1 := cell_next hb nBo Bo1
  replace Pa0 := cell_next hb nPa Pa0
  replace Pa1 := cell_next hb nPa Pa1
  replace Pa2 := cell_next hb nPa Pa2
  replace Pa3 := cell_next hb nPa Pa3
  replace Pb0 := cell_next hb nPb Pb0
  replace Pb1 := cell_next hb nPb Pb1
  replace Pb2 := cell_next hb nPb Pb2
  replace Pb3 := cell_next hb nPb Pb3
  replace nBs := Nat.lt_of_lt_of_le nBs hb.size
  replace nBx := Nat.lt_of_lt_of_le nBx hb.size
  replace nBm := Nat.lt_of_lt_of_le nBm hb.size
  replace nBk := Nat.lt_of_lt_of_le nBk hb.size
  replace nBg := Nat.lt_of_lt_of_le nBg hb.size
  replace nBa := Nat.lt_of_lt_of_le nBa hb.size
  replace nBw := Nat.lt_of_lt_of_le nBw hb.size
  replace nBc := Nat.lt_of_lt_of_le nBc hb.size
  replace nBo := Nat.lt_of_lt_of_le nBo hb.size
  replace nPa := Nat.lt_of_lt_of_le nPa hb.size
  replace nPb := Nat.lt_of_lt_of_le nPb hb.size
  replace hL := hL.trans (hb.mono (Nat.le_trans hBW hL.size))
  have Pc0 : (Z7x4.alloc (Obj.cells #[.int .i64 g1, .int .i64 g2, .int .i64 w1, .int .i64 w2] 36)).cell? ⟨Z7x4.heap.size, 0, none⟩ = some (.int .i64 g1) := cell_new _ _ _ 0
  have Pc1 : (Z7x4.alloc (Obj.cells #[.int .i64 g1, .int .i64 g2, .int .i64 w1, .int .i64 w2] 36)).cell? ⟨Z7x4.heap.size, 1, none⟩ = some (.int .i64 g2) := cell_new _ _ _ 1
  have Pc2 : (Z7x4.alloc (Obj.cells #[.int .i64 g1, .int .i64 g2, .int .i64 w1, .int .i64 w2] 36)).cell? ⟨Z7x4.heap.size, 2, none⟩ = some (.int .i64 w1) := cell_new _ _ _ 2
  have Pc3 : (Z7x4.alloc (Obj.cells #[.int .i64 g1, .int .i64 g2, .int .i64 w1, .int .i64 w2] 36)).cell? ⟨Z7x4.heap.size, 3, none⟩ = some (.int .i64 w2) := cell_new _ _ _ 3
  have nPc : Z7x4.heap.size < (Z7x4.alloc (Obj.cells #[.int .i64 g1, .int .i64 g2, .int .i64 w1, .int .i64 w2] 36)).heap.size := by simp
  refine hK.out _ _ ⟨Bs0, Bs1, Bk0, Bk1, Bg0, Bg1, Ba0, Ba1, Bw0, Bw1, Bc0, Bc1, Bo0, Bo1, trivial⟩ (fun hHeld => ?_)
  clear hK K hb
  generalize Z7x4.alloc (Obj.cells #[.int .i64 g1, .int .i64 g2, .int .i64 w1, .int .i64 w2] 36) = Z7x5 at *
  try simp only [Act.put, List.setIfInBounds_toArray, List.set_cons_zero, List.set_cons_succ]
  refine wpAnyH_ready (rs := [35]) (by kernel_rfl) (by simp) ?_
  refine AllReadyH.cons rfl (fun K hK => ?_) AllReadyH.nil
  go_simp
  refine (plus2_any _ _ _ _ _ _ _ _ _ nPc smg1.out smw1.out E5.out E6.out Pc0 Pc1 Pc2 Pc3).mono ?_
  rintro e Z7x6 ⟨rfl, hb⟩
  replace Bs0 := cell_next hb nBs Bs0
  replace Bs1 := cell_next hb nBs Bs1
  replace Bx0 := cell_next hb nBx Bx0
  replace Bx1 := cell_next hb nBx Bx1
  replace Bx2 := cell_next hb nBx Bx2
  replace Bx3 := cell_next hb nBx Bx3
  replace Bm0 := cell_next hb nBm Bm0
  replace Bm1 := cell_next hb nBm Bm1
  replace Bk0 := cell_next hb nBk Bk0
  replace Bk1 := cell_next hb nBk Bk1
  replace Bg0 := cell_next hb nBg Bg0
  replace Bg1 := cell_next hb nBg Bg1
  replace Ba0 := cell_next hb nBa Ba0
  replace Ba1 := cell_next hb nBa Ba1
  replace Bw0 := cell_next hb nBw Bw0
  replace Bw1 := cell_next hb nBw Bw1
  replace Bc0 := cell_next hb nBc Bc0
  replace Bc1 := cell_next hb nBc Bc1
  replace Bo0 := cell_next hb nBo Bo0
  replace Bo1 := cell_next hb nBo Bo1
  replace Pa0 := cell_next hb nPa Pa0
  replace Pa1 := cell_next hb nPa Pa1
  replace Pa2 := cell_next hb nPa Pa2
  replace Pa3 := cell_next hb nPa Pa3
  replace Pb0 := cell_next hb nPb Pb0
  replace Pb1 := cell_next hb nPb Pb1
  replace Pb2 := cell_next hb nPb Pb2
  replace Pb3 := cell_next hb nPb Pb3
  replace Pc0 := cell_next hb nPc Pc0
  replace Pc1 := cell_next hb nPc Pc1
  replace Pc2 := cell_next hb nPc Pc2
  replace Pc3 := cell_next hb nPc Pc3
  replace nBs := Nat.lt_of_lt_of_le nBs hb.size
  replace nBx := Nat.lt_of_lt_of_le nBx hb.size
  replace nBm := Nat.lt_of_lt_of_le nBm hb.size
  replace nBk := Nat.lt_of_lt_of_le nBk hb.size
  replace nBg := Nat.lt_of_lt_of_le nBg hb.size
  replace nBa := Nat.lt_of_lt_of_le nBa hb.size
  replace nBw := Nat.lt_of_lt_of_le nBw hb.size
  replace nBc := Nat.lt_of_lt_of_le nBc hb.size
  replace nBo := Nat.lt_of_lt_of_le nBo hb.size
  replace nPa := Nat.lt_of_lt_of_le nPa hb.size
  replace nPb := Nat.lt_of_lt_of_le nPb hb.size
  replace nPc := Nat.lt_of_lt_of_le nPc hb.size
  replace hL := hL.trans (hb.mono (Nat.le_trans hBW hL.size))
  refine hK.out _ _ ⟨Bs0, Bs1, Bk0, Bk1, Bg0, Bg1, Ba0, Ba1, Bw0, Bw1, Bc0, Bc1, Bo0, Bo1, trivial⟩ (fun hHeld => ?_)
  clear hK K hb
  try simp only [Act.put, List.setIfInBounds_toArray, List.set_cons_zero, List.set_cons_succ]
  refine take_slot (i := 37) (d := 132) (v := ?_) rfl rfl (by kernel_rfl) (by kernel_rfl) (by kernel_rfl) (fun _ _ _ h => h) (Or.inl ⟨by rfl, ?_⟩) (by assumption) ?_
  rotate_left 1
  focus (intro wS hSw; (try dsimp only at hSw); go_simp; try with_reducible rfl)
  try simp only [List.setIfInBounds_toArray, List.set_cons_zero, List.set_cons_succ]
  refine take_slot (i := 38) (d := 133) (v := ?_) rfl rfl (by kernel_rfl) (by kernel_rfl) (by kernel_rfl) (fun _ _ _ h => h) (Or.inl ⟨by rfl, ?_⟩) (by assumption) ?_
  rotate_left 1
  focus (intro wS hSw; (try dsimp only at hSw); go_simp; try with_reducible rfl)
  try simp only [List.setIfInBounds_toArray, List.set_cons_zero, List.set_cons_succ]
  refine wpAnyH_done (by kernel_rfl) ?_ _
  replace hB := hB.trans (hL.mono hB.size)
  clear hHeld hL hBW
  clear Pa0 Pa1 Pa2 Pa3 nPa Pb0 Pb1 Pb2 Pb3 nPb Pc0 Pc1 Pc2 Pc3 nPc
  go_wp2_with fail
  refine (HC.out.c4 _).mono ?_
  rintro e W8 ⟨rfl, hb⟩
  replace Bs0 := cell_next hb nBs Bs0
  replace Bs1 := cell_next hb nBs Bs1
  replace nBs := Nat.lt_of_lt_of_le nBs hb.size
  replace Bx0 := cell_next hb nBx Bx0
  replace Bx1 := cell_next hb nBx Bx1
  replace Bx2 := cell_next hb nBx Bx2
  replace Bx3 := cell_next hb nBx Bx3
  replace nBx := Nat.lt_of_lt_of_le nBx hb.size
  replace Bm0 := cell_next hb nBm Bm0
  replace Bm1 := cell_next hb nBm Bm1
  replace nBm := Nat.lt_of_lt_of_le nBm hb.size
  replace Bk0 := cell_next hb nBk Bk0
  replace Bk1 := cell_next hb nBk Bk1
  replace nBk := Nat.lt_of_lt_of_le nBk hb.size
  replace Bg0 := cell_next hb nBg Bg0
  replace Bg1 := cell_next hb nBg Bg1
  replace nBg := Nat.lt_of_lt_of_le nBg hb.size
  replace Ba0 := cell_next hb nBa Ba0
  replace Ba1 := cell_next hb nBa Ba1
  replace nBa := Nat.lt_of_lt_of_le nBa hb.size
  replace Bw0 := cell_next hb nBw Bw0
  replace Bw1 := cell_next hb nBw Bw1
  replace nBw := Nat.lt_of_lt_of_le nBw hb.size
  replace Bc0 := cell_next hb nBc Bc0
  replace Bc1 := cell_next hb nBc Bc1
  replace nBc := Nat.lt_of_lt_of_le nBc hb.size
  replace Bo0 := cell_next hb nBo Bo0
  replace Bo1 := cell_next hb nBo Bo1
  replace nBo := Nat.lt_of_lt_of_le nBo hb.size
  replace hB := hB.trans (hb.mono hB.size)
  clear hb
  clear Bk0 Bk1 nBk
  clear Ba0 Ba1 nBa
  clear Bw0 Bw1 nBw
  clear Bc0 Bc1 nBc
  clear Bg0 Bg1 nBg
  clear Bo0 Bo1 nBo
  go_wp2_with fail
  refine (HC.out.c5 _).mono ?_
  rintro e W9 ⟨rfl, hb⟩
  replace Bs0 := cell_next (below2 hb) nBs Bs0
  replace Bs1 := cell_next (below2 hb) nBs Bs1
  replace nBs := Nat.lt_of_lt_of_le nBs (below2 hb).size
  replace Bx0 := cell_next (below2 hb) nBx Bx0
  replace Bx1 := cell_next (below2 hb) nBx Bx1
  replace Bx2 := cell_next (below2 hb) nBx Bx2
  replace Bx3 := cell_next (below2 hb) nBx Bx3
  replace nBx := Nat.lt_of_lt_of_le nBx (below2 hb).size
  replace Bm0 := cell_next (below2 hb) nBm Bm0
  replace Bm1 := cell_next (below2 hb) nBm Bm1
  replace nBm := Nat.lt_of_lt_of_le nBm (below2 hb).size
  have BX0 := cell_next hb (b := W8.heap.size) (o := 0) (by simp <;> omega) (v := some (.int .i64 x1)) (by simp [go_sem])
  have BX1 := cell_next hb (b := W8.heap.size) (o := 1) (by simp <;> omega) (v := some (.int .i64 x2)) (by simp [go_sem])
  have nBX : W8.heap.size < W9.heap.size := by have := hb.size; simp at this; omega
  have BL0 := cell_next hb (b := W8.heap.size + 1) (o := 0) (by simp <;> omega) (v := some (.int .i64 l1)) (by simp [go_sem])
  have BL1 := cell_next hb (b := W8.heap.size + 1) (o := 1) (by simp <;> omega) (v := some (.int .i64 l2)) (by simp [go_sem])
  have nBL : W8.heap.size + 1 < W9.heap.size := by have := hb.size; simp at this; omega
  replace hB := hB.trans ((below2 hb).mono hB.size)
  clear hb
  generalize W8.heap.size = q9 at *
  go_wp2_with fail
  have hb : Below W9.heap.size W9 ((W9.alloc (Obj.cells #[.int .i64 x1, .int .i64 y2] 36)).alloc (Obj.cells #[.int .i64 z1, .int .i64 z2] 36)) := (((Below.refl _ _).alloc (Nat.le_refl _) _).alloc (by simp <;> omega) _)
  replace Bs0 := cell_next hb nBs Bs0
  replace Bs1 := cell_next hb nBs Bs1
  replace nBs := Nat.lt_of_lt_of_le nBs hb.size
  replace Bx0 := cell_next hb nBx Bx0
  replace Bx1 := cell_next hb nBx Bx1
  replace Bx2 := cell_next hb nBx Bx2
  replace Bx3 := cell_next hb nBx Bx3
  replace nBx := Nat.lt_of_lt_of_le nBx hb.size
  replace Bm0 := cell_next hb nBm Bm0
  replace Bm1 := cell_next hb nBm Bm1
  replace nBm := Nat.lt_of_lt_of_le nBm hb.size
  replace BX0 := cell_next hb nBX BX0
  replace BX1 := cell_next hb nBX BX1
  replace nBX := Nat.lt_of_lt_of_le nBX hb.size
  replace BL0 := cell_next hb nBL BL0
  replace BL1 := cell_next hb nBL BL1
  replace nBL := Nat.lt_of_lt_of_le nBL hb.size
  have BY0 : ((W9.alloc (Obj.cells #[.int .i64 x1, .int .i64 y2] 36)).alloc (Obj.cells #[.int .i64 z1, .int .i64 z2] 36)).cell? ⟨W9.heap.size, 0, none⟩ = some (.int .i64 x1) := by simp [go_sem]
  have BY1 : ((W9.alloc (Obj.cells #[.int .i64 x1, .int .i64 y2] 36)).alloc (Obj.cells #[.int .i64 z1, .int .i64 z2] 36)).cell? ⟨W9.heap.size, 1, none⟩ = some (.int .i64 y2) := by simp [go_sem]
  have nBY : W9.heap.size < ((W9.alloc (Obj.cells #[.int .i64 x1, .int .i64 y2] 36)).alloc (Obj.cells #[.int .i64 z1, .int .i64 z2] 36)).heap.size := by simp <;> omega
  have BZz0 : ((W9.alloc (Obj.cells #[.int .i64 x1, .int .i64 y2] 36)).alloc (Obj.cells #[.int .i64 z1, .int .i64 z2] 36)).cell? ⟨W9.heap.size + 1, 0, none⟩ = some (.int .i64 z1) := by simp [go_sem]
  have BZz1 : ((W9.alloc (Obj.cells #[.int .i64 x1, .int .i64 y2] 36)).alloc (Obj.cells #[.int .i64 z1, .int .i64 z2] 36)).cell? ⟨W9.heap.size + 1, 1, none⟩ = some (.int .i64 z2) := by simp [go_sem]
  have nBZz : W9.heap.size + 1 < ((W9.alloc (Obj.cells #[.int .i64 x1, .int .i64 y2] 36)).alloc (Obj.cells #[.int .i64 z1, .int .i64 z2] 36)).heap.size := by simp <;> omega
  replace hB := hB.trans (hb.mono hB.size)
  clear hb
  generalize ((W9.alloc (Obj.cells #[.int .i64 x1, .int .i64 y2] 36)).alloc (Obj.cells #[.int .i64 z1, .int .i64 z2] 36)) = W10 at *
  generalize W9.heap.size = q10 at *
  have hBW : W10.heap.size ≤ W10.heap.size := Nat.le_refl _
  refine wp_region_held_drew (S := fun w' => w'.cell? ⟨w.heap.size, 0, none⟩ = some (.int .i64 A) ∧ w'.cell? ⟨w.heap.size, 1, none⟩ = some (.int .i64 S) ∧ w'.cell? ⟨q9, 0, none⟩ = some (.int .i64 x1) ∧ w'.cell? ⟨q9, 1, none⟩ = some (.int .i64 x2) ∧ w'.cell? ⟨q9 + 1, 0, none⟩ = some (.int .i64 l1) ∧ w'.cell? ⟨q9 + 1, 1, none⟩ = some (.int .i64 l2) ∧ w'.cell? ⟨q10, 0, none⟩ = some (.int .i64 x1) ∧ w'.cell? ⟨q10, 1, none⟩ = some (.int .i64 y2) ∧ True) (by kernel_rfl) ?_ (fun hHeld => ?_)
  focus (exact ⟨Bs0, Bs1, BX0, BX1, BL0, BL1, BY0, BY1, trivial⟩)
  have hL : Below W10.heap.size W10 W10.drew := Below.drew (Below.refl _ _)
  replace Bs0 : W10.drew.cell? ⟨w.heap.size, 0, none⟩ = some (.int .i64 A) := Bs0
  replace Bs1 : W10.drew.cell? ⟨w.heap.size, 1, none⟩ = some (.int .i64 S) := Bs1
  replace Bx0 : W10.drew.cell? ⟨w.heap.size + 1, 0, none⟩ = some (.int .u16 v0) := Bx0
  replace Bx1 : W10.drew.cell? ⟨w.heap.size + 1, 1, none⟩ = some (.int .u16 v1) := Bx1
  replace Bx2 : W10.drew.cell? ⟨w.heap.size + 1, 2, none⟩ = some (.int .u16 v2) := Bx2
  replace Bx3 : W10.drew.cell? ⟨w.heap.size + 1, 3, none⟩ = some (.int .u16 v3) := Bx3
  replace Bm0 : W10.drew.cell? ⟨w.heap.size + 1 + 1, 0, none⟩ = some (.int .u8 m0) := Bm0
  replace Bm1 : W10.drew.cell? ⟨w.heap.size + 1 + 1, 1, none⟩ = some (.int .u8 m1) := Bm1
  replace BX0 : W10.drew.cell? ⟨q9, 0, none⟩ = some (.int .i64 x1) := BX0
  replace BX1 : W10.drew.cell? ⟨q9, 1, none⟩ = some (.int .i64 x2) := BX1
  replace BL0 : W10.drew.cell? ⟨q9 + 1, 0, none⟩ = some (.int .i64 l1) := BL0
  replace BL1 : W10.drew.cell? ⟨q9 + 1, 1, none⟩ = some (.int .i64 l2) := BL1
  replace BY0 : W10.drew.cell? ⟨q10, 0, none⟩ = some (.int .i64 x1) := BY0
  replace BY1 : W10.drew.cell? ⟨q10, 1, none⟩ = some (.int .i64 y2) := BY1
  replace BZz0 : W10.drew.cell? ⟨q10 + 1, 0, none⟩ = some (.int .i64 z1) := BZz0
  replace BZz1 : W10.drew.cell? ⟨q10 + 1, 1, none⟩ = some (.int .i64 z2) := BZz1
  replace nBs : w.heap.size < W10.drew.heap.size := nBs
  replace nBx : w.heap.size + 1 < W10.drew.heap.size := nBx
  replace nBm : w.heap.size + 1 + 1 < W10.drew.heap.size := nBm
  replace nBX : q9 < W10.drew.heap.size := nBX
  replace nBL : q9 + 1 < W10.drew.heap.size := nBL
  replace nBY : q10 < W10.drew.heap.size := nBY
  replace nBZz : q10 + 1 < W10.drew.heap.size := nBZz
  generalize hWd : W10.drew = wd11 at hHeld hL Bs0 Bs1 Bx0 Bx1 Bx2 Bx3 Bm0 Bm1 BX0 BX1 BL0 BL1 BY0 BY1 BZz0 BZz1 nBs nBx nBm nBX nBL nBY nBZz  ⊢
  clear hWd
  refine take_slot (i := 0) (d := 183) (v := ?_) rfl rfl (by kernel_rfl) (by kernel_rfl) (by kernel_rfl) (fun _ _ _ h => h) (Or.inl ⟨by rfl, ?_⟩) (by assumption) ?_
  rotate_left 1
  focus (intro wS hSw; (try dsimp only at hSw); go_simp; try with_reducible rfl)
  try simp only [List.setIfInBounds_toArray, List.set_cons_zero, List.set_cons_succ]
  refine take_slot (i := 1) (d := 184) (v := ?_) rfl rfl (by kernel_rfl) (by kernel_rfl) (by kernel_rfl) (fun _ _ _ h => h) (Or.inl ⟨by rfl, ?_⟩) (by assumption) ?_
  rotate_left 1
  focus (intro wS hSw; (try dsimp only at hSw); go_simp; try with_reducible rfl)
  try simp only [List.setIfInBounds_toArray, List.set_cons_zero, List.set_cons_succ]
  refine take_slot (i := 2) (d := 185) (v := ?_) rfl rfl (by kernel_rfl) (by kernel_rfl) (by kernel_rfl) (fun _ _ _ h => h) (Or.inl ⟨by rfl, ?_⟩) (by assumption) ?_
  rotate_left 1
  focus (intro wS hSw; (try dsimp only at hSw); go_simp; try with_reducible rfl)
  try simp only [List.setIfInBounds_toArray, List.set_cons_zero, List.set_cons_succ]
  refine take_slot (i := 3) (d := 186) (v := ?_) rfl rfl (by kernel_rfl) (by kernel_rfl) (by kernel_rfl) (fun _ _ _ h => h) (Or.inl ⟨by rfl, ?_⟩) (by assumption) ?_
  rotate_left 1
  focus (intro wS hSw; (try dsimp only at hSw); go_simp; try with_reducible rfl)
  try simp only [List.setIfInBounds_toArray, List.set_cons_zero, List.set_cons_succ]
  refine take_slot (i := 4) (d := 187) (v := ?_) rfl rfl (by kernel_rfl) (by kernel_rfl) (by kernel_rfl) (fun _ _ _ h => h) (Or.inl ⟨by rfl, ?_⟩) (by assumption) ?_
  rotate_left 1
  focus (intro wS hSw; (try dsimp only at hSw); go_simp; try with_reducible rfl)
  try simp only [List.setIfInBounds_toArray, List.set_cons_zero, List.set_cons_succ]
  refine take_slot (i := 5) (d := 188) (v := ?_) rfl rfl (by kernel_rfl) (by kernel_rfl) (by kernel_rfl) (fun _ _ _ h => h) (Or.inl ⟨by rfl, ?_⟩) (by assumption) ?_
  rotate_left 1
  focus (intro wS hSw; (try dsimp only at hSw); go_simp; try with_reducible rfl)
  try simp only [List.setIfInBounds_toArray, List.set_cons_zero, List.set_cons_succ]
  refine take_slot (i := 6) (d := 189) (v := ?_) rfl rfl (by kernel_rfl) (by kernel_rfl) (by kernel_rfl) (fun _ _ _ h => h) (Or.inl ⟨by rfl, ?_⟩) (by assumption) ?_
  rotate_left 1
  focus (intro wS hSw; (try dsimp only at hSw); go_simp; try with_reducible rfl)
  try simp only [List.setIfInBounds_toArray, List.set_cons_zero, List.set_cons_succ]
  refine take_slot (i := 7) (d := 190) (v := ?_) rfl rfl (by kernel_rfl) (by kernel_rfl) (by kernel_rfl) (fun _ _ _ h => h) (Or.inl ⟨by rfl, ?_⟩) (by assumption) ?_
  rotate_left 1
  focus (intro wS hSw; (try dsimp only at hSw); go_simp; try with_reducible rfl)
  try simp only [List.setIfInBounds_toArray, List.set_cons_zero, List.set_cons_succ]
  refine take_slot (i := 8) (d := 191) (v := ?_) rfl rfl (by kernel_rfl) (by kernel_rfl) (by kernel_rfl) (fun _ _ _ h => h) (Or.inl ⟨by rfl, ?_⟩) (by assumption) ?_
  rotate_left 1
  focus (intro wS hSw; (try dsimp only at hSw); go_simp; try with_reducible rfl)
  try simp only [List.setIfInBounds_toArray, List.set_cons_zero, List.set_cons_succ]
  refine take_slot (i := 11) (d := 194) (v := ?_) rfl rfl (by kernel_rfl) (by kernel_rfl) (by kernel_rfl) (fun _ _ _ h => h) (Or.inl ⟨by rfl, ?_⟩) (by assumption) ?_
  rotate_left 1
  focus (intro wS hSw; (try dsimp only at hSw); go_simp; try with_reducible rfl)
  try simp only [List.setIfInBounds_toArray, List.set_cons_zero, List.set_cons_succ]
  refine wpAnyH_ready (rs := [9]) (by kernel_rfl) (by simp) ?_
  refine AllReadyH.cons rfl (fun K hK => ?_) AllReadyH.nil
  go_simp
  have hb := (Below.refl wd11.heap.size wd11).alloc (Nat.le_refl _) (Obj.cells #[.int .i64 x1, .int .i64 x2, .int .i64 l1, .int .i64 l2] 36)
  have szZ11x1 := hL.size
  have ord1nBs := nBs
  have ord1nBx := nBx
  have ord1nBm := nBm
  have ord1nBX := nBX
  have ord1nBL := nBL
  have ord1nBY := nBY
  have ord1nBZz := nBZz
  replace Bs0 := cell_next hb nBs Bs0
  replace Bs1 := cell_next hb nBs Bs1
  replace Bx0 := cell_next hb nBx Bx0
  replace Bx1 := cell_next hb nBx Bx1
  replace Bx2 := cell_next hb nBx Bx2
  replace Bx3 := cell_next hb nBx Bx3
  replace Bm0 := cell_next hb nBm Bm0
  replace Bm1 := cell_next hb nBm Bm1
  replace BX0 := cell_next hb nBX BX0
  replace BX1 := cell_next hb nBX BX1
  replace BL0 := cell_next hb nBL BL0
  replace BL1 := cell_next hb nBL BL1
  replace BY0 := cell_next hb nBY BY0
  replace BY1 := cell_next hb nBY BY1
  replace BZz0 := cell_next hb nBZz BZz0
  replace BZz1 := cell_next hb nBZz BZz1
  replace nBs := Nat.lt_of_lt_of_le nBs hb.size
  replace nBx := Nat.lt_of_lt_of_le nBx hb.size
  replace nBm := Nat.lt_of_lt_of_le nBm hb.size
  replace nBX := Nat.lt_of_lt_of_le nBX hb.size
  replace nBL := Nat.lt_of_lt_of_le nBL hb.size
  replace nBY := Nat.lt_of_lt_of_le nBY hb.size
  replace nBZz := Nat.lt_of_lt_of_le nBZz hb.size
  replace hL := hL.trans (hb.mono (Nat.le_trans hBW hL.size))
  have Pd0 : (wd11.alloc (Obj.cells #[.int .i64 x1, .int .i64 x2, .int .i64 l1, .int .i64 l2] 36)).cell? ⟨wd11.heap.size, 0, none⟩ = some (.int .i64 x1) := cell_new _ _ _ 0
  have Pd1 : (wd11.alloc (Obj.cells #[.int .i64 x1, .int .i64 x2, .int .i64 l1, .int .i64 l2] 36)).cell? ⟨wd11.heap.size, 1, none⟩ = some (.int .i64 x2) := cell_new _ _ _ 1
  have Pd2 : (wd11.alloc (Obj.cells #[.int .i64 x1, .int .i64 x2, .int .i64 l1, .int .i64 l2] 36)).cell? ⟨wd11.heap.size, 2, none⟩ = some (.int .i64 l1) := cell_new _ _ _ 2
  have Pd3 : (wd11.alloc (Obj.cells #[.int .i64 x1, .int .i64 x2, .int .i64 l1, .int .i64 l2] 36)).cell? ⟨wd11.heap.size, 3, none⟩ = some (.int .i64 l2) := cell_new _ _ _ 3
  have nPd : wd11.heap.size < (wd11.alloc (Obj.cells #[.int .i64 x1, .int .i64 x2, .int .i64 l1, .int .i64 l2] 36)).heap.size := by simp
  refine hK.out _ _ ⟨Bs0, Bs1, BX0, BX1, BL0, BL1, BY0, BY1, trivial⟩ (fun hHeld => ?_)
  clear hK K hb
  generalize wd11.alloc (Obj.cells #[.int .i64 x1, .int .i64 x2, .int .i64 l1, .int .i64 l2] 36) = Z11x1 at *
  try simp only [Act.put, List.setIfInBounds_toArray, List.set_cons_zero, List.set_cons_succ]
  refine wpAnyH_ready (rs := [10]) (by kernel_rfl) (by simp) ?_
  refine AllReadyH.cons rfl (fun K hK => ?_) AllReadyH.nil
  go_simp
  refine (plus2_any _ _ _ _ _ _ _ _ _ nPd smx1.out sml1.out E7.out E8.out Pd0 Pd1 Pd2 Pd3).mono ?_
  rintro e Z11x2 ⟨rfl, hb⟩
  replace Bs0 := cell_next hb nBs Bs0
  replace Bs1 := cell_next hb nBs Bs1
  replace Bx0 := cell_next hb nBx Bx0
  replace Bx1 := cell_next hb nBx Bx1
  replace Bx2 := cell_next hb nBx Bx2
  replace Bx3 := cell_next hb nBx Bx3
  replace Bm0 := cell_next hb nBm Bm0
  replace Bm1 := cell_next hb nBm Bm1
  replace BX0 := cell_next hb nBX BX0
  replace BX1 := cell_next hb nBX BX1
  replace BL0 := cell_next hb nBL BL0
  replace BL1 := cell_next hb nBL BL1
  replace BY0 := cell_next hb nBY BY0
  replace BY1 := cell_next hb nBY BY1
  replace BZz0 := cell_next hb nBZz BZz0
  replace BZz1 := cell_next hb nBZz BZz1
  replace Pd0 := cell_next hb nPd Pd0
  replace Pd1 := cell_next hb nPd Pd1
  replace Pd2 := cell_next hb nPd Pd2
  replace Pd3 := cell_next hb nPd Pd3
  replace nBs := Nat.lt_of_lt_of_le nBs hb.size
  replace nBx := Nat.lt_of_lt_of_le nBx hb.size
  replace nBm := Nat.lt_of_lt_of_le nBm hb.size
  replace nBX := Nat.lt_of_lt_of_le nBX hb.size
  replace nBL := Nat.lt_of_lt_of_le nBL hb.size
  replace nBY := Nat.lt_of_lt_of_le nBY hb.size
  replace nBZz := Nat.lt_of_lt_of_le nBZz hb.size
  replace nPd := Nat.lt_of_lt_of_le nPd hb.size
  replace hL := hL.trans (hb.mono (Nat.le_trans hBW hL.size))
  refine hK.out _ _ ⟨Bs0, Bs1, BX0, BX1, BL0, BL1, BY0, BY1, trivial⟩ (fun hHeld => ?_)
  clear hK K hb
  try simp only [Act.put, List.setIfInBounds_toArray, List.set_cons_zero, List.set_cons_succ]
  refine take_slot (i := 12) (d := 195) (v := ?_) rfl rfl (by kernel_rfl) (by kernel_rfl) (by kernel_rfl) (fun _ _ _ h => h) (Or.inl ⟨by rfl, ?_⟩) (by assumption) ?_
  rotate_left 1
  focus (intro wS hSw; (try dsimp only at hSw); go_simp; try with_reducible rfl)
  try simp only [List.setIfInBounds_toArray, List.set_cons_zero, List.set_cons_succ]
  refine take_slot (i := 13) (d := 196) (v := ?_) rfl rfl (by kernel_rfl) (by kernel_rfl) (by kernel_rfl) (fun _ _ _ h => h) (Or.inl ⟨by rfl, ?_⟩) (by assumption) ?_
  rotate_left 1
  focus (intro wS hSw; (try dsimp only at hSw); go_simp; try with_reducible rfl)
  try simp only [List.setIfInBounds_toArray, List.set_cons_zero, List.set_cons_succ]
  refine take_slot (i := 14) (d := 197) (v := ?_) rfl rfl (by kernel_rfl) (by kernel_rfl) (by kernel_rfl) (fun _ _ _ h => h) (Or.inl ⟨by rfl, ?_⟩) (by assumption) ?_
  rotate_left 1
  focus (intro wS hSw; (try dsimp only at hSw); go_simp; try with_reducible rfl)
  try simp only [List.setIfInBounds_toArray, List.set_cons_zero, List.set_cons_succ]
  refine take_slot (i := 15) (d := 198) (v := ?_) rfl rfl (by kernel_rfl) (by kernel_rfl) (by kernel_rfl) (fun _ _ _ h => h) (Or.inl ⟨by rfl, ?_⟩) (by assumption) ?_
  rotate_left 1
  focus (intro wS hSw; (try dsimp only at hSw); go_simp; try with_reducible rfl)
  try simp only [List.setIfInBounds_toArray, List.set_cons_zero, List.set_cons_succ]
  refine take_slot (i := 16) (d := 199) (v := ?_) rfl rfl (by kernel_rfl) (by kernel_rfl) (by kernel_rfl) (fun _ _ _ h => h) (Or.inl ⟨by rfl, ?_⟩) (by assumption) ?_
  rotate_left 1
  focus (intro wS hSw; (try dsimp only at hSw); go_simp; try with_reducible rfl)
  try simp only [List.setIfInBounds_toArray, List.set_cons_zero, List.set_cons_succ]
  refine take_slot (i := 17) (d := 200) (v := ?_) rfl rfl (by kernel_rfl) (by kernel_rfl) (by kernel_rfl) (fun _ _ _ h => h) (Or.inl ⟨by rfl, ?_⟩) (by assumption) ?_
  rotate_left 1
  focus (intro wS hSw; (try dsimp only at hSw); go_simp; try with_reducible rfl)
  try simp only [List.setIfInBounds_toArray, List.set_cons_zero, List.set_cons_succ]
  refine take_slot (i := 18) (d := 201) (v := ?_) rfl rfl (by kernel_rfl) (by kernel_rfl) (by kernel_rfl) (fun _ _ _ h => h) (Or.inl ⟨by rfl, ?_⟩) (by assumption) ?_
  rotate_left 1
  focus (intro wS hSw; (try dsimp only at hSw); go_simp; try with_reducible rfl)
  try simp only [List.setIfInBounds_toArray, List.set_cons_zero, List.set_cons_succ]
  refine take_slot (i := 19) (d := 202) (v := ?_) rfl rfl (by kernel_rfl) (by kernel_rfl) (by kernel_rfl) (fun _ _ _ h => h) (Or.inl ⟨by rfl, ?_⟩) (by assumption) ?_
  rotate_left 1
  focus (intro wS hSw; (try dsimp only at hSw); go_simp; try with_reducible rfl)
  try simp only [List.setIfInBounds_toArray, List.set_cons_zero, List.set_cons_succ]
  refine take_slot (i := 20) (d := 203) (v := ?_) rfl rfl (by kernel_rfl) (by kernel_rfl) (by kernel_rfl) (fun _ _ _ h => h) (Or.inl ⟨by rfl, ?_⟩) (by assumption) ?_
  rotate_left 1
  focus (intro wS hSw; (try dsimp only at hSw); go_simp; try with_reducible rfl)
  try simp only [List.setIfInBounds_toArray, List.set_cons_zero, List.set_cons_succ]
  refine take_slot (i := 21) (d := 204) (v := ?_) rfl rfl (by kernel_rfl) (by kernel_rfl) (by kernel_rfl) (fun _ _ _ h => h) (Or.inl ⟨by rfl, ?_⟩) (by assumption) ?_
  rotate_left 1
  focus (intro wS hSw; (try dsimp only at hSw); go_simp; try with_reducible rfl)
  try simp only [List.setIfInBounds_toArray, List.set_cons_zero, List.set_cons_succ]
  refine take_slot (i := 22) (d := 205) (v := ?_) rfl rfl (by kernel_rfl) (by kernel_rfl) (by kernel_rfl) (fun _ _ _ h => h) (Or.inl ⟨by rfl, ?_⟩) (by assumption) ?_
  rotate_left 1
  focus (intro wS hSw; (try dsimp only at hSw); go_simp; try with_reducible rfl)
  try simp only [List.setIfInBounds_toArray, List.set_cons_zero, List.set_cons_succ]
  refine take_slot (i := 23) (d := 206) (v := ?_) rfl rfl (by kernel_rfl) (by kernel_rfl) (by kernel_rfl) (fun _ _ _ h => h) (Or.inl ⟨by rfl, ?_⟩) (by assumption) ?_
  rotate_left 1
  focus (intro wS hSw; (try dsimp only at hSw); go_simp; try with_reducible rfl)
  try simp only [List.setIfInBounds_toArray, List.set_cons_zero, List.set_cons_succ]
  refine take_slot (i := 24) (d := 207) (v := ?_) rfl rfl (by kernel_rfl) (by kernel_rfl) (by kernel_rfl) (fun _ _ _ h => h) (Or.inl ⟨by rfl, ?_⟩) (by assumption) ?_
  rotate_left 1
  focus (intro wS hSw; (try dsimp only at hSw); go_simp; try with_reducible rfl)
  try simp only [List.setIfInBounds_toArray, List.set_cons_zero, List.set_cons_succ]
  refine take_slot (i := 25) (d := 208) (v := ?_) rfl rfl (by kernel_rfl) (by kernel_rfl) (by kernel_rfl) (fun _ _ _ h => h) (Or.inl ⟨by rfl, ?_⟩) (by assumption) ?_
  rotate_left 1
  focus (intro wS hSw; (try dsimp only at hSw); go_simp; try with_reducible rfl)
  try simp only [List.setIfInBounds_toArray, List.set_cons_zero, List.set_cons_succ]
  refine take_slot (i := 26) (d := 209) (v := ?_) rfl rfl (by kernel_rfl) (by kernel_rfl) (by kernel_rfl) (fun _ _ _ h => h) (Or.inl ⟨by rfl, ?_⟩) (by assumption) ?_
  rotate_left 1
  focus (intro wS hSw; (try dsimp only at hSw); go_simp; try with_reducible rfl)
  try simp only [List.setIfInBounds_toArray, List.set_cons_zero, List.set_cons_succ]
  refine take_slot (i := 27) (d := 210) (v := ?_) rfl rfl (by kernel_rfl) (by kernel_rfl) (by kernel_rfl) (fun _ _ _ h => h) (Or.inl ⟨by rfl, ?_⟩) (by assumption) ?_
  rotate_left 1
  focus (intro wS hSw; (try dsimp only at hSw); go_simp; try with_reducible rfl)
  try simp only [List.setIfInBounds_toArray, List.set_cons_zero, List.set_cons_succ]
  refine take_slot (i := 28) (d := 211) (v := ?_) rfl rfl (by kernel_rfl) (by kernel_rfl) (by kernel_rfl) (fun _ _ _ h => h) (Or.inl ⟨by rfl, ?_⟩) (by assumption) ?_
  rotate_left 1
  focus (intro wS hSw; (try dsimp only at hSw); go_simp; try with_reducible rfl)
  try simp only [List.setIfInBounds_toArray, List.set_cons_zero, List.set_cons_succ]
  refine take_slot (i := 29) (d := 212) (v := ?_) rfl rfl (by kernel_rfl) (by kernel_rfl) (by kernel_rfl) (fun _ _ _ h => h) (Or.inl ⟨by rfl, ?_⟩) (by assumption) ?_
  rotate_left 1
  focus (intro wS hSw; (try dsimp only at hSw); go_simp; try with_reducible rfl)
  try simp only [List.setIfInBounds_toArray, List.set_cons_zero, List.set_cons_succ]
  refine take_slot (i := 30) (d := 213) (v := ?_) rfl rfl (by kernel_rfl) (by kernel_rfl) (by kernel_rfl) (fun _ _ _ h => h) (Or.inl ⟨by rfl, ?_⟩) (by assumption) ?_
  rotate_left 1
  focus (intro wS hSw; (try dsimp only at hSw); go_simp; try with_reducible rfl)
  try simp only [List.setIfInBounds_toArray, List.set_cons_zero, List.set_cons_succ]
  refine take_slot (i := 31) (d := 214) (v := ?_) rfl rfl (by kernel_rfl) (by kernel_rfl) (by kernel_rfl) (fun _ _ _ h => h) (Or.inl ⟨by rfl, ?_⟩) (by assumption) ?_
  rotate_left 1
  focus (intro wS hSw; (try dsimp only at hSw); go_simp; try with_reducible rfl)
  try simp only [List.setIfInBounds_toArray, List.set_cons_zero, List.set_cons_succ]
  refine take_slot (i := 32) (d := 215) (v := ?_) rfl rfl (by kernel_rfl) (by kernel_rfl) (by kernel_rfl) (fun _ _ _ h => h) (Or.inl ⟨by rfl, ?_⟩) (by assumption) ?_
  rotate_left 1
  focus (intro wS hSw; (try dsimp only at hSw); go_simp; try with_reducible rfl)
  try simp only [List.setIfInBounds_toArray, List.set_cons_zero, List.set_cons_succ]
  refine take_slot (i := 33) (d := 216) (v := ?_) rfl rfl (by kernel_rfl) (by kernel_rfl) (by kernel_rfl) (fun _ _ _ h => h) (Or.inl ⟨by rfl, ?_⟩) (by assumption) ?_
  rotate_left 1
  focus (intro wS hSw; (try dsimp only at hSw); go_simp; try with_reducible rfl)
  try simp only [List.setIfInBounds_toArray, List.set_cons_zero, List.set_cons_succ]
  refine take_slot (i := 34) (d := 217) (v := ?_) rfl rfl (by kernel_rfl) (by kernel_rfl) (by kernel_rfl) (fun _ _ _ h => h) (Or.inl ⟨by rfl, ?_⟩) (by assumption) ?_
  rotate_left 1
  focus (intro wS hSw; (try dsimp only at hSw); go_simp; try with_reducible rfl)
  try simp only [List.setIfInBounds_toArray, List.set_cons_zero, List.set_cons_succ]
  refine take_slot (i := 35) (d := 218) (v := ?_) rfl rfl (by kernel_rfl) (by kernel_rfl) (by kernel_rfl) (fun _ _ _ h => h) (Or.inl ⟨by rfl, ?_⟩) (by assumption) ?_
  rotate_left 1
  focus (intro wS hSw; (try dsimp only at hSw); go_simp; try with_reducible rfl)
  try simp only [List.setIfInBounds_toArray, List.set_cons_zero, List.set_cons_succ]
  refine take_slot (i := 36) (d := 219) (v := ?_) rfl rfl (by kernel_rfl) (by kernel_rfl) (by kernel_rfl) (fun _ _ _ h => h) (Or.inl ⟨by rfl, ?_⟩) (by assumption) ?_
  rotate_left 1
  focus (intro wS hSw; (try dsimp only at hSw); go_simp; try with_reducible rfl)
  try simp only [List.setIfInBounds_toArray, List.set_cons_zero, List.set_cons_succ]
  refine take_slot (i := 37) (d := 220) (v := ?_) rfl rfl (by kernel_rfl) (by kernel_rfl) (by kernel_rfl) (fun _ _ _ h => h) (Or.inl ⟨by rfl, ?_⟩) (by assumption) ?_
  rotate_left 1
  focus (intro wS hSw; (try dsimp only at hSw); go_simp; try with_reducible rfl)
  try simp only [List.setIfInBounds_toArray, List.set_cons_zero, List.set_cons_succ]
  refine wpAnyH_done (by kernel_rfl) ?_ _
  replace hB := hB.trans (hL.mono hB.size)
  clear hHeld hL hBW
  clear Pd0 Pd1 Pd2 Pd3 nPd
  clear E1 E2 E3 E4 E5 E6 E7 E8 HC smk1 smg1 sma1 smo1 smw1 smx1 sml1 tA tS tk1 tk2 tg1 tg2 TA TS to1 to2 ty2
  clear Bm0 Bm1 nBm
  clear BX0 BX1 nBX
  clear BL0 BL1 nBL
  clear BY0 BY1 nBY
  clear BZz0 BZz1 nBZz
  rcases hQ with HQ | HQ
  · obtain ⟨e1, e2, f1, f2, c6, c7, hx⟩ := HQ.out
    have C6 := Lib.hid c6
    have C7 := Lib.hid c7
    clear c6 c7 HQ
    go_wp2_with fail
    refine (C6.out _).mono ?_
    rintro e W12 ⟨rfl, hb⟩
    replace Bs0 := cell_next hb nBs Bs0
    replace Bs1 := cell_next hb nBs Bs1
    replace nBs := Nat.lt_of_lt_of_le nBs hb.size
    replace Bx0 := cell_next hb nBx Bx0
    replace Bx1 := cell_next hb nBx Bx1
    replace Bx2 := cell_next hb nBx Bx2
    replace Bx3 := cell_next hb nBx Bx3
    replace nBx := Nat.lt_of_lt_of_le nBx hb.size
    replace hB := hB.trans (hb.mono hB.size)
    clear hb
    go_wp2_with fail
    refine (C7.out _).mono ?_
    rintro e W13 ⟨rfl, hb⟩
    replace Bs0 := cell_next (below1 hb) nBs Bs0
    replace Bs1 := cell_next (below1 hb) nBs Bs1
    replace nBs := Nat.lt_of_lt_of_le nBs (below1 hb).size
    replace Bx0 := cell_next (below1 hb) nBx Bx0
    replace Bx1 := cell_next (below1 hb) nBx Bx1
    replace Bx2 := cell_next (below1 hb) nBx Bx2
    replace Bx3 := cell_next (below1 hb) nBx Bx3
    replace nBx := Nat.lt_of_lt_of_le nBx (below1 hb).size
    have Bn0 := cell_next hb (b := W12.heap.size) (o := 0) (by simp <;> omega) (v := some (.int .i64 0)) (by simp [go_sem])
    have Bn1 := cell_next hb (b := W12.heap.size) (o := 1) (by simp <;> omega) (v := some (.int .i64 0)) (by simp [go_sem])
    have nBn : W12.heap.size < W13.heap.size := by have := hb.size; simp at this; omega
    replace hB := hB.trans ((below1 hb).mono hB.size)
    clear hb
    generalize W12.heap.size = q13 at *
    clear C6 C7
    rcases hx with hx | hx
    · have hz1 : decide (e2 = 0) = true := by simpa using hx
      have hz2 : (e2 == 0) = true := by simpa using hx
      clear hx
      go_wp2_with fail
      refine (CK.out _).mono ?_
      rintro e W14 ⟨rfl, hb⟩
      replace Bs0 := cell_next (below2 hb) nBs Bs0
      replace Bs1 := cell_next (below2 hb) nBs Bs1
      replace nBs := Nat.lt_of_lt_of_le nBs (below2 hb).size
      replace Bx0 := cell_next (below2 hb) nBx Bx0
      replace Bx1 := cell_next (below2 hb) nBx Bx1
      replace Bx2 := cell_next (below2 hb) nBx Bx2
      replace Bx3 := cell_next (below2 hb) nBx Bx3
      replace nBx := Nat.lt_of_lt_of_le nBx (below2 hb).size
      replace Bn0 := cell_next (below2 hb) nBn Bn0
      replace Bn1 := cell_next (below2 hb) nBn Bn1
      replace nBn := Nat.lt_of_lt_of_le nBn (below2 hb).size
      have Be0 := cell_next hb (b := W13.heap.size) (o := 0) (by simp <;> omega) (v := some (.int .i64 e1)) (by simp [go_sem])
      have Be1 := cell_next hb (b := W13.heap.size) (o := 1) (by simp <;> omega) (v := some (.int .i64 e2)) (by simp [go_sem])
      have nBe : W13.heap.size < W14.heap.size := by have := hb.size; simp at this; omega
      have Bf0 := cell_next hb (b := W13.heap.size + 1) (o := 0) (by simp <;> omega) (v := some (.int .i64 f1)) (by simp [go_sem])
      have Bf1 := cell_next hb (b := W13.heap.size + 1) (o := 1) (by simp <;> omega) (v := some (.int .i64 f2)) (by simp [go_sem])
      have nBf : W13.heap.size + 1 < W14.heap.size := by have := hb.size; simp at this; omega
      replace hB := hB.trans ((below2 hb).mono hB.size)
      clear hb
      generalize W13.heap.size = q14 at *
      go_wp2_with fail
      go_ret
      exact ⟨by simp, hB⟩
    · obtain ⟨hz, Q1, Q2, Q3, j1, j2, j3, j4⟩ := hx
      have hz2 : (e2 == 0) = false := by simpa using hz
      go_wp2_with fail
      refine (CK.out _).mono ?_
      rintro e W14 ⟨rfl, hb⟩
      replace Bs0 := cell_next (below2 hb) nBs Bs0
      replace Bs1 := cell_next (below2 hb) nBs Bs1
      replace nBs := Nat.lt_of_lt_of_le nBs (below2 hb).size
      replace Bx0 := cell_next (below2 hb) nBx Bx0
      replace Bx1 := cell_next (below2 hb) nBx Bx1
      replace Bx2 := cell_next (below2 hb) nBx Bx2
      replace Bx3 := cell_next (below2 hb) nBx Bx3
      replace nBx := Nat.lt_of_lt_of_le nBx (below2 hb).size
      replace Bn0 := cell_next (below2 hb) nBn Bn0
      replace Bn1 := cell_next (below2 hb) nBn Bn1
      replace nBn := Nat.lt_of_lt_of_le nBn (below2 hb).size
      have Be0 := cell_next hb (b := W13.heap.size) (o := 0) (by simp <;> omega) (v := some (.int .i64 e1)) (by simp [go_sem])
      have Be1 := cell_next hb (b := W13.heap.size) (o := 1) (by simp <;> omega) (v := some (.int .i64 e2)) (by simp [go_sem])
      have nBe : W13.heap.size < W14.heap.size := by have := hb.size; simp at this; omega
      have Bf0 := cell_next hb (b := W13.heap.size + 1) (o := 0) (by simp <;> omega) (v := some (.int .i64 f1)) (by simp [go_sem])
      have Bf1 := cell_next hb (b := W13.heap.size + 1) (o := 1) (by simp <;> omega) (v := some (.int .i64 f2)) (by simp [go_sem])
      have nBf : W13.heap.size + 1 < W14.heap.size := by have := hb.size; simp at this; omega
      replace hB := hB.trans ((below2 hb).mono hB.size)
      clear hb
      generalize W13.heap.size = q14 at *
      go_wp2_with fail
      go_ret
      exact ⟨by simp, hB⟩
  · obtain ⟨n, t1, t2, f1, f2, Q1, Q2, Q3, c6, c8, n0, n1, j0, j1, j2, j3, j4, hx⟩ := HQ.out
    have C6 := Lib.hid c6
    have C8 := Lib.hid c8
    have HX := Lib.hid hx
    clear c6 c8 hx HQ
    go_wp2_with fail
    refine (C6.out _).mono ?_
    rintro e W12 ⟨rfl, hb⟩
    replace Bs0 := cell_next hb nBs Bs0
    replace Bs1 := cell_next hb nBs Bs1
    replace nBs := Nat.lt_of_lt_of_le nBs hb.size
    replace Bx0 := cell_next hb nBx Bx0
    replace Bx1 := cell_next hb nBx Bx1
    replace Bx2 := cell_next hb nBx Bx2
    replace Bx3 := cell_next hb nBx Bx3
    replace nBx := Nat.lt_of_lt_of_le nBx hb.size
    replace hB := hB.trans (hb.mono hB.size)
    clear hb
    go_wp2_with fail
    refine (C8.out _).mono ?_
    rintro e W13 ⟨rfl, hb⟩
    replace Bs0 := cell_next (below1 hb) nBs Bs0
    replace Bs1 := cell_next (below1 hb) nBs Bs1
    replace nBs := Nat.lt_of_lt_of_le nBs (below1 hb).size
    replace Bx0 := cell_next (below1 hb) nBx Bx0
    replace Bx1 := cell_next (below1 hb) nBx Bx1
    replace Bx2 := cell_next (below1 hb) nBx Bx2
    replace Bx3 := cell_next (below1 hb) nBx Bx3
    replace nBx := Nat.lt_of_lt_of_le nBx (below1 hb).size
    have Bn0 := cell_next hb (b := W12.heap.size) (o := 0) (by simp <;> omega) (v := some (.int .i64 n)) (by simp [go_sem])
    have Bn1 := cell_next hb (b := W12.heap.size) (o := 1) (by simp <;> omega) (v := some (.int .i64 n)) (by simp [go_sem])
    have nBn : W12.heap.size < W13.heap.size := by have := hb.size; simp at this; omega
    replace hB := hB.trans ((below1 hb).mono hB.size)
    clear hb
    generalize W12.heap.size = q13 at *
    have hle := hB.size
    clear C6 C8
    rcases HX.out with hx | hx
    · go_wp2_with fail
      refine (CK.out _).mono ?_
      rintro e W14 ⟨rfl, hb⟩
      replace Bs0 := cell_next (below2 hb) nBs Bs0
      replace Bs1 := cell_next (below2 hb) nBs Bs1
      replace nBs := Nat.lt_of_lt_of_le nBs (below2 hb).size
      replace Bx0 := cell_next (below2 hb) nBx Bx0
      replace Bx1 := cell_next (below2 hb) nBx Bx1
      replace Bx2 := cell_next (below2 hb) nBx Bx2
      replace Bx3 := cell_next (below2 hb) nBx Bx3
      replace nBx := Nat.lt_of_lt_of_le nBx (below2 hb).size
      replace Bn0 := cell_next (below2 hb) nBn Bn0
      replace Bn1 := cell_next (below2 hb) nBn Bn1
      replace nBn := Nat.lt_of_lt_of_le nBn (below2 hb).size
      have Bt0 := cell_next hb (b := W13.heap.size) (o := 0) (by simp <;> omega) (v := some (.int .i64 t1)) (by simp [go_sem])
      have fBt0 := frozen_next hb (b := W13.heap.size) (o := 0) (by simp <;> omega) (v := false) (by simp [go_sem])
      have Bt1 := cell_next hb (b := W13.heap.size) (o := 1) (by simp <;> omega) (v := some (.int .i64 t2)) (by simp [go_sem])
      have fBt1 := frozen_next hb (b := W13.heap.size) (o := 1) (by simp <;> omega) (v := false) (by simp [go_sem])
      have nBt : W13.heap.size < W14.heap.size := by have := hb.size; simp at this; omega
      have Bf0 := cell_next hb (b := W13.heap.size + 1) (o := 0) (by simp <;> omega) (v := some (.int .i64 f1)) (by simp [go_sem])
      have Bf1 := cell_next hb (b := W13.heap.size + 1) (o := 1) (by simp <;> omega) (v := some (.int .i64 f2)) (by simp [go_sem])
      have nBf : W13.heap.size + 1 < W14.heap.size := by have := hb.size; simp at this; omega
      replace hB := hB.trans ((below2 hb).mono hB.size)
      clear hb
      generalize W13.heap.size = q14 at *
      go_wp2_with fail
      go_ret
      exact ⟨by simp, hB⟩
    · obtain ⟨k0, m, k1, r1, r2, h1, h2, c9, hy⟩ := hx
      have C9 := Lib.hid c9
      have HY := Lib.hid hy
      clear c9 hy
      go_wp2_with fail
      refine (C9.out _).mono ?_
      rintro e W14 ⟨rfl, hb⟩
      replace Bs0 := cell_next (below2 hb) nBs Bs0
      replace Bs1 := cell_next (below2 hb) nBs Bs1
      replace nBs := Nat.lt_of_lt_of_le nBs (below2 hb).size
      replace Bx0 := cell_next (below2 hb) nBx Bx0
      replace Bx1 := cell_next (below2 hb) nBx Bx1
      replace Bx2 := cell_next (below2 hb) nBx Bx2
      replace Bx3 := cell_next (below2 hb) nBx Bx3
      replace nBx := Nat.lt_of_lt_of_le nBx (below2 hb).size
      replace Bn0 := cell_next (below2 hb) nBn Bn0
      replace Bn1 := cell_next (below2 hb) nBn Bn1
      replace nBn := Nat.lt_of_lt_of_le nBn (below2 hb).size
      have Bt0 := cell_next hb (b := W13.heap.size) (o := 0) (by simp <;> omega) (v := some (.int .i64 t1)) (by simp [go_sem])
      have fBt0 := frozen_next hb (b := W13.heap.size) (o := 0) (by simp <;> omega) (v := false) (by simp [go_sem])
      have Bt1 := cell_next hb (b := W13.heap.size) (o := 1) (by simp <;> omega) (v := some (.int .i64 t2)) (by simp [go_sem])
      have fBt1 := frozen_next hb (b := W13.heap.size) (o := 1) (by simp <;> omega) (v := false) (by simp [go_sem])
      have nBt : W13.heap.size < W14.heap.size := by have := hb.size; simp at this; omega
      have Bf0 := cell_next hb (b := W13.heap.size + 1) (o := 0) (by simp <;> omega) (v := some (.int .i64 f1)) (by simp [go_sem])
      have Bf1 := cell_next hb (b := W13.heap.size + 1) (o := 1) (by simp <;> omega) (v := some (.int .i64 f2)) (by simp [go_sem])
      have nBf : W13.heap.size + 1 < W14.heap.size := by have := hb.size; simp at this; omega
      replace hB := hB.trans ((below2 hb).mono hB.size)
      clear hb
      generalize W13.heap.size = q14 at *
      clear C9
      obtain ⟨y0, y1⟩ | ⟨y0, R1, R2, R3, y1, y2, y3, y4⟩ := HY.out
      all_goals
        clear HY
        go_wp2_with fail
        have hX := (hB.setCell (p := ⟨q14, 0, none⟩) (by show w.heap.size ≤ q14; omega) (.int .i64 r1)).setCell (p := ⟨q14, 1, none⟩) (by show w.heap.size ≤ q14; omega) (.int .i64 r2)
        refine (CK.out _).mono ?_
        rintro e w5 ⟨rfl, hb⟩
        have hBe := hX.trans (hb.mono hX.size)
        clear hb hX CK
        go_wp2_with fail
        go_ret
        exact ⟨by simp, hBe⟩

open Go.RowKit Go.Lib Go.Shelf
set_option linter.unusedVariables false
set_option linter.unusedSimpArgs false

theorem wr3 (b x1 x2 : Nat) (hb : b ≤ 10000) (h1 : x1 ≤ 1000000000000) (h2 : x2 ≤ 1000000000000) :
    IntKind.i64.wrap ((x2 : Int) * 10000) = ((x2 * 10000 : Nat) : Int) ∧ IntKind.i64.wrap ((x1 : Int) + (x2 : Int)) = ((x1 + x2 : Nat) : Int) ∧ IntKind.i64.wrap ((b : Int) * ((x1 + x2 : Nat) : Int)) = ((b * (x1 + x2) : Nat) : Int) := by
  have hm : b * (x1 + x2) ≤ 10000 * 2000000000000 := Nat.mul_le_mul hb (by omega)
  refine ⟨?_, ?_, ?_⟩
  · rw [show (x2 : Int) * 10000 = ((x2 * 10000 : Nat) : Int) from by omega]; exact IntWalk.i64_in _ (by omega)
  · rw [← Int.natCast_add]; exact IntWalk.i64_in _ (by omega)
  · rw [← Int.natCast_mul]; exact IntWalk.i64_in _ (by omega)
theorem dn_no (b x1 x2 : Nat) (h : dnB b (x1, x2) = false) : x2 = 0 ∨ (¬ x2 = 0 ∧ x2 * 10000 < b * (x1 + x2)) := by
  rcases Nat.eq_zero_or_pos x2 with h0 | h0
  · exact .inl h0
  · refine .inr ⟨by omega, ?_⟩
    simp only [dnB, Bool.and_eq_false_iff, decide_eq_false_iff_not] at h
    rcases h with h | h
    · exact absurd h0 h
    · omega
theorem dn_yes (b x1 x2 : Nat) (h : dnB b (x1, x2) = true) : 0 < x2 ∧ b * (x1 + x2) ≤ x2 * 10000 := by
  simpa [dnB] using h

theorem adF_any (a s t p b : Nat) (ha : a ≤ 1000000000000) (hs : s ≤ 1000000000000) (ht : t ≤ 10000) (hp : p ≤ 10000) (hb1 : 1 ≤ b) (hb2 : b ≤ 10000) : AdF0 a s t p b ∨ AdF1 a s t p b := by
  have hR := fun w => reach_ok a s t p p b 60 ha hs ht (Nat.le_refl _) hp hb1 hb2 (by omega) w
  have hle := fun k => rk_le t p (a, s) k
  rcases fstI_spec (fun k => dnB b (rk t p (a, s) k)) (60 + 1) with ⟨h1, h2⟩ | ⟨n, hn, h1, h2, h3⟩
  · have e1 : lsI b t p (a, s) 60 = -1 := h1
    simp only [e1, show ((-1 : Int) < 0) = True from by simp, if_true] at hR
    left
    have hE := h2 60 (by omega)
    have hl := hle 60
    have hO := fun w => rounds_ok a s t p 60 ha hs ht hp (by omega) w
    generalize rk t p (a, s) 60 = E at *
    obtain ⟨x1, x2⟩ := E
    dsimp only at hl hO
    obtain ⟨w1, w2, w3⟩ := wr3 b x1 x2 hb2 (by omega) (by omega)
    refine ⟨(x1 : Int), (x2 : Int), _, _, fun w => hR w, fun w => hO w, ?_⟩
    rcases dn_no b x1 x2 hE with h | ⟨h, h'⟩
    · exact .inl (by omega)
    · refine .inr ⟨decide_eq_false (by omega), _, _, _, w1, w2, w3, decide_eq_true (Int.ofNat_lt.2 h')⟩
  · have e1 : lsI b t p (a, s) 60 = (n : Int) := h1
    simp only [e1, show ((n : Int) < 0) = False from by simp, if_false] at hR
    right
    have hl := hle n
    have hO := fun w => rounds_ok a s t p n ha hs ht hp (by omega) w
    have hE : dnB b (rk t p (a, s) n) = true := h2
    have hP : 0 < n → dnB b (rk t p (a, s) (n - 1)) = false := fun h => h3 (n - 1) (by omega)
    have hl' := hle (n - 1)
    have hO' := fun w => rounds_ok a s t p (n - 1) ha hs ht hp (by omega) w
    generalize rk t p (a, s) n = E at *
    generalize rk t p (a, s) (n - 1) = D at *
    obtain ⟨x1, x2⟩ := E
    obtain ⟨y1, y2⟩ := D
    dsimp only at hl hO hl' hO'
    obtain ⟨w1, w2, w3⟩ := wr3 b x1 x2 hb2 (by omega) (by omega)
    obtain ⟨z1, z2, z3⟩ := wr3 b y1 y2 hb2 (by omega) (by omega)
    obtain ⟨d1, d2⟩ := dn_yes b x1 x2 hE
    refine ⟨(n : Int), (x1 : Int), (x2 : Int), _, _, _, _, _, fun w => hR w, fun w => hO w, decide_eq_false (by omega), decide_eq_false (by omega), decide_eq_false (by omega), w1, w2, w3, decide_eq_false (fun h => absurd (Int.ofNat_lt.1 h) (by omega)), ?_⟩
    rcases Nat.eq_zero_or_pos n with h0 | h0
    · exact .inl (by simp; omega)
    · refine .inr ⟨by simp; omega, ((n - 1 : Nat) : Int), ?_, (y1 : Int), (y2 : Int), _, _, fun w => hO' w, ?_⟩
      · rw [show (n : Int) - 1 = ((n - 1 : Nat) : Int) from by omega]; exact IntWalk.i64_in _ (by omega)
      · rcases dn_no b y1 y2 (hP h0) with h | ⟨h, h'⟩
        · exact .inl ⟨by simp; omega, trivial⟩
        · exact .inr ⟨decide_eq_true (by omega), _, _, _, z1, z2, z3, decide_eq_false (fun h => absurd (Int.ofNat_le.1 h) (by omega))⟩

set_option maxHeartbeats 1000000 in
theorem vatAdds_true (A S v0 v1 v2 v3 m0 m1 : Int) (h0 : 0 ≤ v0 ∧ v0 ≤ 65535) (h1 : 0 ≤ v1 ∧ v1 ≤ 65535) (h2 : 0 ≤ v2 ∧ v2 ≤ 65535) (h4 : 0 ≤ m0 ∧ m0 ≤ 255) (h5 : 0 ≤ m1 ∧ m1 ≤ 255) (w : World) :
    Calls Try.prog 5 #[.agg #[.int .i64 A, .int .i64 S], .agg #[.int .u16 v0, .int .u16 v1, .int .u16 v2, .int .u16 v3], .agg #[.int .u8 m0, .int .u8 m1]] w fun e w' => e = .returned (.bool true) ∧ Below w.heap.size w w' := by
  by_cases hbad : (decide (A < 0) || decide (1000000000000 < A) || decide (S < 0) || decide (1000000000000 < S)) = true
  · exact adds_bad A S v0 v1 v2 v3 m0 m1 hbad w
  · simp at hbad
    obtain ⟨a, rfl⟩ := nat_of' (show 0 ≤ A by omega)
    obtain ⟨s, rfl⟩ := nat_of' (show 0 ≤ S by omega)
    obtain ⟨v0, rfl⟩ := nat_of' h0.1
    obtain ⟨v1, rfl⟩ := nat_of' h1.1
    obtain ⟨v2, rfl⟩ := nat_of' h2.1
    obtain ⟨m0, rfl⟩ := nat_of' h4.1
    obtain ⟨m1, rfl⟩ := nat_of' h5.1
    have ha : a ≤ 1000000000000 := by omega
    have hs : s ≤ 1000000000000 := by omega
    obtain ⟨t, ht⟩ : ∃ t, v0 % 10001 = t := ⟨_, rfl⟩
    obtain ⟨p, hp⟩ : ∃ p, v1 % 10001 = p := ⟨_, rfl⟩
    obtain ⟨b, hb⟩ : ∃ b, 1 + v2 % 10000 = b := ⟨_, rfl⟩
    obtain ⟨i, hi⟩ : ∃ i, m0 % 60 = i := ⟨_, rfl⟩
    obtain ⟨j, hj⟩ : ∃ j, m1 % 60 = j := ⟨_, rfl⟩
    have ht' : t ≤ 10000 := by omega
    have hp' : p ≤ 10000 := by omega
    have hF := adF_any a s t p b ha hs ht' hp' (by omega) (by omega)
    have hM := rk_add t p (a, s) i j
    have l1 := rk_le t p (a, s) i
    have l2 := rk_le t p (rk t p (a, s) i) j
    have l3 := rk_le t p (a, s) 1
    have l4 := rk_le t (p / 2) (a, s) 1
    obtain ⟨l5, l6⟩ := rk_pass t (p / 2) p (a, s) ht' (by omega) hp' 1
    have c1 := rounds_ok a s t p i ha hs ht' hp' (by omega)
    have c2 := rounds_ok (rk t p (a, s) i).1 (rk t p (a, s) i).2 t p j (by have := l1.1; dsimp only at this; omega) (by have := l1.2; dsimp only at this; omega) ht' hp' (by omega)
    have c3 := rounds_ok a s t p (i + j) ha hs ht' hp' (by omega)
    have c4 := squeeze_ok a s t p ha hs ht' hp'
    have c5 := squeeze_ok a s t (p / 2) ha hs ht' (by omega)
    rw [hM] at c3
    change ∀ w, Calls _ _ _ w (fun e w' => e = .returned (.tuple #[.agg #[.int .i64 ((rk t p (rk t p (a, s) i) j).1 : Nat), .int .i64 ((rk t p (rk t p (a, s) i) j).2 : Nat)], .agg #[.int .i64 (((rk t p (a, s) i).1 - (rk t p (rk t p (a, s) i) j).1 : Nat) : Int), .int .i64 (((rk t p (a, s) i).2 - (rk t p (rk t p (a, s) i) j).2 : Nat) : Int)], .int .i64 0]) ∧ Below w.heap.size w w') at c2
    have hx1 : (rk t p (a, s) 1).1 = a - offW a t := rfl
    have hol := offW_le a t ht'
    have hoff : Int.tdiv ((a * t : Nat) : Int) 10000 = ((offW a t : Nat) : Int) := by
      rw [Int.tdiv_eq_ediv_of_nonneg (by omega)]; unfold offW; omega
    have hat : a * t ≤ 1000000000000 * 10000 := Nat.mul_le_mul ha ht'
    have hw : IntKind.i64.wrap ((a : Int) * (t : Int)) = ((a * t : Nat) : Int) := by rw [← Int.natCast_mul]; exact IntWalk.i64_in _ (by omega)
    rw [← l5] at c5
    clear hM l5
    generalize rk t p (rk t p (a, s) i) j = M at *
    generalize rk t p (a, s) i = K at *
    generalize rk t p (a, s) 1 = X at *
    generalize rk t (p / 2) (a, s) 1 = Y at *
    generalize offW a t = o at *
    obtain ⟨k1, k2⟩ := K
    obtain ⟨a1, a2⟩ := M
    obtain ⟨x1, x2⟩ := X
    obtain ⟨y1, y2⟩ := Y
    dsimp only at *
    refine adds_walk (a : Int) (s : Int) (t : Int) (p : Int) (i : Int) (j : Int) ((i + j : Nat) : Int) ((p / 2 : Nat) : Int) k1 k2 ((a - k1 : Nat) : Int) ((s - k2 : Nat) : Int) a1 a2 ((k1 - a1 : Nat) : Int) ((k2 - a2 : Nat) : Int) ((a - a1 : Nat) : Int) ((s - a2 : Nat) : Int) x1 x2 ((a - x1 : Nat) : Int) ((s - x2 : Nat) : Int) y2 ((a - x1 : Nat) : Int) ((s - y2 : Nat) : Int) v0 v1 v2 v3 m0 m1 (b : Int) w ⟨c1, c2, c3, c4, c5⟩ ?_ ?_
    · constructor
      case q0 => exact wrapI _ (by omega)
      case q1 => exact wrapI _ (by omega)
      case q2 => exact wrapI _ (by omega)
      case q3 => exact wrapI _ (by omega)
      case q4 => exact wrapI _ (by omega)
      case r0 => rw [Int.tmod_eq_emod_of_nonneg (by omega)]; omega
      case r1 => rw [Int.tmod_eq_emod_of_nonneg (by omega)]; omega
      case r2 => rw [Int.tmod_eq_emod_of_nonneg (by omega)]; omega
      case r3 => rw [Int.tmod_eq_emod_of_nonneg (by omega)]; omega
      case r4 => rw [Int.tmod_eq_emod_of_nonneg (by omega)]; omega
      case s0 => exact wrapI _ (by omega)
      case s1 => exact wrapI _ (by omega)
      case s2 => exact IntWalk.i64_in _ (by omega)
      case s3 => exact wrapI _ (by omega)
      case s4 => exact wrapI _ (by omega)
      case s5 => rw [show (1 : Int) + ((b : Int) - 1) = (b : Int) from by omega]; exact wrapI _ (by omega)
      case ij => rw [← Int.natCast_add]; exact wrapI _ (by omega)
      case p2 => rw [Int.tdiv_eq_ediv_of_nonneg (by omega)]; omega
      case p3 => exact wrapI _ (by omega)
      case d1 => rw [hw, hoff]; omega
      case d2 => exact wrapI _ (by omega)
      all_goals omega
    · rcases hF with h | h
      · exact .inl (Lib.hid h)
      · exact .inr (Lib.hid h)
end Go.Proofs.Ytdlmkjllcejoaaa
