/- Contracts: what ranges have in common, and the least one with all of them. -/
import Derived.Test.YtdlmkjllcejoaaaD4
import Derived.Test.YtdlmkjllcejoaaaC12
namespace Go.Proofs.Ytdlmkjllcejoaaa
open Go.RowKit Go.Lib Go.Shelf
set_option linter.unusedVariables false
set_option linter.unusedSimpArgs false
attribute [local go_sem ↓] Go.wp_at_zero Go.wp_at_succ

theorem chkS_ok {xs : List (Int × Int)} (h : chkS xs = 0) : 0 < xs.length ∧ xs.length ≤ 100 ∧ vrsB xs = true := by
  unfold chkS at h
  split at h
  · split at h
    · cases h
    · have := chkL_ok (xs := xs) (by assumption)
      exact ⟨by omega, this⟩
  · exact (by assumption : ¬ chkL xs = 0) h |>.elim

theorem hull_at (p : Int × Int) (ys : List (Int × Int)) (n : Nat) (hn : ys.length = n) (hl : n ≤ 100) (w : World) (g off : Nat) (zs : List (Int × Int)) (c : Nat) (W : World) (hb : Below w.heap.size w W) (hg : g < W.heap.size) (hz : zs.length ≤ 100) (hr : RRd W g off zs) :
    Calls Try.prog 108 #[.agg #[.int .i64 p.1, .int .i64 p.2], .slice (some ⟨g, off, none⟩) zs.length c] W fun e w' => e = .returned (.agg #[.int .i64 (zs.foldl hullJ (p.1, p.2)).1, .int .i64 (zs.foldl hullJ (p.1, p.2)).2]) ∧ Below W.heap.size W w' :=
  hull_any p.1 p.2 g off zs c W hg hr (by omega)
theorem keepg_far {w W : World} {g c o1 o2 : Nat} {x y : Option Value} {u v : Value} (hg : g < w.heap.size) (hc : w.heap.size < c) (h : W.cell? ⟨g, o1, none⟩ = x ∧ W.cell? ⟨g, o2, none⟩ = y ∧ Kp w.heap.size w W) :
    ((W.setCell ⟨c, 0, none⟩ u).setCell ⟨c, 1, none⟩ v).cell? ⟨g, o1, none⟩ = x ∧ ((W.setCell ⟨c, 0, none⟩ u).setCell ⟨c, 1, none⟩ v).cell? ⟨g, o2, none⟩ = y ∧ Kp w.heap.size w ((W.setCell ⟨c, 0, none⟩ u).setCell ⟨c, 1, none⟩ v) := by
  obtain ⟨h1, h2, k1, k2, ⟨v0, k3⟩, ⟨v1, k4⟩, k5, k6⟩ := h
  have hne : c ≠ w.heap.size := by omega
  refine ⟨set2_far _ _ (by omega) h1, set2_far _ _ (by omega) h2, (k1.setCell (p := ⟨c, 0, none⟩) (Nat.le_of_lt hc) _).setCell (p := ⟨c, 1, none⟩) (Nat.le_of_lt hc) _, by simpa using k2, ⟨v0, set2_far _ _ hne k3⟩, ⟨v1, set2_far _ _ hne k4⟩, ?_, ?_⟩
  · rw [World.frozen?_setCell, World.frozen?_setCell]; exact k5
  · rw [World.frozen?_setCell, World.frozen?_setCell]; exact k6
def hullP (xs : List (Int × Int)) : Int × Int := match xs with | [] => (0, 0) | p :: ys => ys.foldl hullJ (p.1, p.2)
def meetP (xs : List (Int × Int)) : Int × Int := match xs with | [] => (0, 0) | p :: ys => ys.foldl meetJ (p.1, p.2)
def huL (xs : List (Int × Int)) : Int := if chkS xs = 0 then (hullP xs).1 else 0
def huH (xs : List (Int × Int)) : Int := if chkS xs = 0 then (hullP xs).2 else 0
def huE (xs : List (Int × Int)) : Int := if chkS xs = 0 then 0 else chkS xs
def meL (xs : List (Int × Int)) : Int := if chkS xs = 0 then (if (meetP xs).2 < (meetP xs).1 then 0 else (meetP xs).1) else 0
def meH (xs : List (Int × Int)) : Int := if chkS xs = 0 then (if (meetP xs).2 < (meetP xs).1 then 0 else (meetP xs).2) else 0
def meE (xs : List (Int × Int)) : Int := if chkS xs = 0 then (if (meetP xs).2 < (meetP xs).1 then 7 else 0) else chkS xs

set_option maxRecDepth 20000 in
set_option maxHeartbeats 2000000 in
theorem hullAll_any (v : Value) (xs : List (Int × Int)) (w : World) (hv : RowAt w.heap.size w v xs) :
    Calls Try.prog 147 #[v] w fun e w' => e = .returned (.tuple #[.agg #[.int .i64 (huL xs), .int .i64 (huH xs)], .int .i64 (huE xs)]) ∧ Below w.heap.size w w' := by
  have HC : Hid (∀ W : World, Below w.heap.size w W → Calls Try.prog 180 #[v] W fun e w' => e = .returned (.int .i64 (chkS xs)) ∧ Below W.heap.size W w') := Lib.hid fun W hb => checkSome_any v xs W ((hv.set.below hb (Nat.le_refl _)).mono hb.size)
  obtain ⟨A, c, rfl, hcap, hr⟩ := hv
  by_cases h0 : chkS xs = 0
  · obtain ⟨hne, hl, hvs⟩ := chkS_ok h0
    obtain ⟨g, off, rfl, hgw, hrr⟩ := hr (by omega)
    obtain ⟨p, ys, rfl⟩ : ∃ p ys, xs = p :: ys := by
      cases xs with
      | nil => simp at hne
      | cons p ys => exact ⟨p, ys, rfl⟩
    have E0 : Hid (huE (p :: ys) = 0) := Lib.hid (by unfold huE; rw [if_pos h0])
    have E1 : Hid (huL (p :: ys) = (hullP (p :: ys)).1) := Lib.hid (by unfold huL; rw [if_pos h0])
    have E2 : Hid (huH (p :: ys) = (hullP (p :: ys)).2) := Lib.hid (by unfold huH; rw [if_pos h0])
    have hc0 := (hrr 0 p rfl).1
    have hc1 := (hrr 0 p rfl).2
    simp only [Nat.zero_mul, Nat.add_zero] at hc0 hc1
    rw [h0] at HC
    have HR := Lib.hid hrr
    obtain ⟨n, hn⟩ : ∃ n, ys.length = n := ⟨_, rfl⟩
    have hl1 : (p :: ys).length = n + 1 := by simp [hn]
    rw [hl1] at hcap HC hl ⊢
    have Hn := Lib.hid hn
    clear hne hvs hr hrr hn hl1 h0
    have hg0 : (0 : Int) < (n : Int) + 1 := by omega
    have hwn : IntKind.i64.wrap ((n : Int) + 1) = (n : Int) + 1 := IntWalk.i64_in _ (by omega)
    have h1n : (1 : Int) ≤ (n : Int) + 1 := by omega
    have hca : (1 : Int) ≤ (c : Int) := by omega
    have hcb : (n : Int) + 1 ≤ (c : Int) := by omega
    obtain ⟨A2, c2, hsl, HT⟩ : ∃ (A2 : Option Addr) (c2 : Nat), (c = 1 ∧ n = 0 ∧ A2 = some ⟨g, off, none⟩ ∧ c2 = 0 ∨ 1 < c ∧ A2 = some ⟨g, off + 2, none⟩ ∧ c2 = c - 1) ∧
        Hid (∀ W : World, Below w.heap.size w W → Calls Try.prog 108 #[.agg #[.int .i64 p.1, .int .i64 p.2], .slice A2 n c2] W fun e w' => e = .returned (.agg #[.int .i64 (hullP (p :: ys)).1, .int .i64 (hullP (p :: ys)).2]) ∧ Below W.heap.size W w') := by
      by_cases hc1' : c = 1
      · have hn0 : n = 0 := by omega
        have hys : ys = [] := List.eq_nil_of_length_eq_zero (by rw [Hn.out]; exact hn0)
        refine ⟨_, _, .inl ⟨hc1', hn0, rfl, rfl⟩, Lib.hid fun W hb => ?_⟩
        have hz := hb.size
        have h := hull_at p ys n Hn.out (by omega) w g off [] 0 W hb (by omega) (by simp) (fun k q hq => by simp at hq)
        rw [hn0]
        simpa [hys, hullP] using h
      · refine ⟨_, _, .inr ⟨by omega, rfl, rfl⟩, Lib.hid fun W hb => ?_⟩
        have hz := hb.size
        have h := hull_at p ys n Hn.out (by omega) w g (off + 2) ys (c - 1) W hb (by omega) (by rw [Hn.out]; omega) (RRd.tail (HR.out.below hb hgw))
        rw [Hn.out] at h
        exact h
    generalize hPP : (hullP (p :: ys)) = P at *
    have HPP := Lib.hid hPP
    clear hPP
    rcases hsl with ⟨rfl, rfl, rfl, rfl⟩ | ⟨hc2, rfl, rfl⟩
    · skip
      go_enter Try.func147, Try.ntmps147
      go_wp2_with fail
      refine (HC.out _ ((Below.refl _ _).alloc (Nat.le_refl _) _)).mono ?_
      rintro e w1 ⟨rfl, hb⟩
      have r0 := cell_next hb (b := w.heap.size) (o := 0) (by simp <;> omega) (v := some (.int .i64 0)) (by simp [go_sem])
      have r1 := cell_next hb (b := w.heap.size) (o := 1) (by simp <;> omega) (v := some (.int .i64 0)) (by simp [go_sem])
      have f0 := frozen_next hb (b := w.heap.size) (o := 0) (by simp <;> omega) (v := false) (by simp [go_sem])
      have f1 := frozen_next hb (b := w.heap.size) (o := 1) (by simp <;> omega) (v := false) (by simp [go_sem])
      have nz : w.heap.size < w1.heap.size := by have := hb.size; simp at this; omega
      have hB := below1 hb
      clear hb
      replace hc0 := cell_next hB hgw hc0
      replace hc1 := cell_next hB hgw hc1
      have hKp : Kp w.heap.size w w1 := ⟨hB, nz, ⟨_, r0⟩, ⟨_, r1⟩, f0, f1⟩
      have HKp := Lib.hid hKp
      clear hKp r0 r1 f0 f1 hB
      go_wp2_with fail
      have hS := And.intro hc0 (And.intro hc1 HKp.out)
      clear hc0 hc1
      refine wp_region_held_drew (S := fun W' => W'.cell? ⟨g, off, none⟩ = some (.int .i64 p.1) ∧ W'.cell? ⟨g, off + 1, none⟩ = some (.int .i64 p.2) ∧ Kp w.heap.size w W') (by kernel_rfl) ?_ (fun hHeld => ?_)
      focus (exact keepg hgw (Below.drew (Below.refl _ _)) hS)
      refine take_slot (i := 0) (d := 11) (v := ?_) rfl rfl (by kernel_rfl) (by kernel_rfl) (by kernel_rfl) (fun _ _ _ h => h) (Or.inl ⟨by rfl, ?_⟩) (by assumption) ?_
      rotate_left 1
      focus (intro wS hSw; (try dsimp only at hSw); go_simp; try with_reducible rfl)
      try simp only [List.setIfInBounds_toArray, List.set_cons_zero, List.set_cons_succ]
      refine take_slot (i := 1) (d := 12) (v := ?_) rfl rfl (by kernel_rfl) (by kernel_rfl) (by kernel_rfl) (fun _ _ _ h => h) (Or.inl ⟨by rfl, ?_⟩) (by assumption) ?_
      rotate_left 1
      focus (intro wS hSw; (try dsimp only at hSw); go_simp; try with_reducible rfl)
      try simp only [List.setIfInBounds_toArray, List.set_cons_zero, List.set_cons_succ]
      refine take_slot (i := 2) (d := 13) (v := ?_) rfl rfl (by kernel_rfl) (by kernel_rfl) (by kernel_rfl) (fun _ _ _ h => h) (Or.inl ⟨by rfl, ?_⟩) (by assumption) ?_
      rotate_left 1
      focus (intro wS hSw; (try dsimp only at hSw); go_simp; try with_reducible rfl)
      try simp only [List.setIfInBounds_toArray, List.set_cons_zero, List.set_cons_succ]
      refine take_slot (i := 3) (d := 14) (v := ?_) rfl rfl (by kernel_rfl) (by kernel_rfl) (by kernel_rfl) (fun _ _ _ h => h) (Or.inl ⟨by rfl, ?_⟩) (by assumption) ?_
      rotate_left 1
      focus (intro wS hSw; (try dsimp only at hSw); go_simp; try with_reducible rfl)
      try simp only [List.setIfInBounds_toArray, List.set_cons_zero, List.set_cons_succ]
      refine take_slot (i := 4) (d := 15) (v := ?_) rfl rfl (by kernel_rfl) (by kernel_rfl) (by kernel_rfl) (fun _ _ _ h => h) (Or.inl ⟨by rfl, ?_⟩) (by assumption) ?_
      rotate_left 1
      focus (intro wS hSw; (try dsimp only at hSw); go_simp; try with_reducible rfl)
      try simp only [List.setIfInBounds_toArray, List.set_cons_zero, List.set_cons_succ]
      refine wpAnyH_ready (rs := [5]) (by kernel_rfl) (by simp) ?_
      refine AllReadyH.cons rfl (fun K hK => ?_) AllReadyH.nil
      skip
      go_simp
      refine (HT.out _ hHeld.2.2.1).mono ?_; rintro e w5 ⟨rfl, hb5⟩
      refine hK.out _ _ ?_ (fun hHeld => ?_)
      focus (exact keepg hgw hb5 hHeld)
      clear hK K
      try simp only [Act.put, List.setIfInBounds_toArray, List.set_cons_zero, List.set_cons_succ]
      refine wpAnyH_ready (rs := [6]) (by kernel_rfl) (by simp) ?_
      refine AllReadyH.cons rfl (fun K hK => ?_) AllReadyH.nil
      have hKeep := hHeld; obtain ⟨_, _, kb, ksz, ⟨v0, k0⟩, ⟨v1, k1⟩, kf0, kf1⟩ := hHeld
      go_simp
      skip
      refine hK.out _ _ ?_ (fun hHeld => ?_)
      focus (exact keepg_res hgw hKeep)
      clear hK K
      try simp only [Act.put, List.setIfInBounds_toArray, List.set_cons_zero, List.set_cons_succ]
      refine take_slot (i := 7) (d := 3) (v := ?_) rfl rfl (by kernel_rfl) (by kernel_rfl) (by kernel_rfl) (fun _ _ _ h => h) (Or.inl ⟨by rfl, ?_⟩) (by assumption) ?_
      rotate_left 1
      focus (intro wS hSw; (try dsimp only at hSw); go_simp; try with_reducible rfl)
      try simp only [List.setIfInBounds_toArray, List.set_cons_zero, List.set_cons_succ]
      refine wpAnyH_done (by kernel_rfl) ?_ _
      obtain ⟨_, _, hkk, _⟩ := hHeld
      go_wp2_with fail
      refine bodyPost_ret (v := .tuple #[.agg #[.int .i64 P.1, .int .i64 P.2], .int .i64 0]) (by simp [results, Try.results147, go_sem, k0, k1]) rfl ⟨by rw [E0.out, E1.out, E2.out], hkk⟩

    · have hcne : ¬ c = 1 := by omega
      go_enter Try.func147, Try.ntmps147
      go_wp2_with fail
      refine (HC.out _ ((Below.refl _ _).alloc (Nat.le_refl _) _)).mono ?_
      rintro e w1 ⟨rfl, hb⟩
      have r0 := cell_next hb (b := w.heap.size) (o := 0) (by simp <;> omega) (v := some (.int .i64 0)) (by simp [go_sem])
      have r1 := cell_next hb (b := w.heap.size) (o := 1) (by simp <;> omega) (v := some (.int .i64 0)) (by simp [go_sem])
      have f0 := frozen_next hb (b := w.heap.size) (o := 0) (by simp <;> omega) (v := false) (by simp [go_sem])
      have f1 := frozen_next hb (b := w.heap.size) (o := 1) (by simp <;> omega) (v := false) (by simp [go_sem])
      have nz : w.heap.size < w1.heap.size := by have := hb.size; simp at this; omega
      have hB := below1 hb
      clear hb
      replace hc0 := cell_next hB hgw hc0
      replace hc1 := cell_next hB hgw hc1
      have hKp : Kp w.heap.size w w1 := ⟨hB, nz, ⟨_, r0⟩, ⟨_, r1⟩, f0, f1⟩
      have HKp := Lib.hid hKp
      clear hKp r0 r1 f0 f1 hB
      go_wp2_with fail
      have hS := And.intro hc0 (And.intro hc1 HKp.out)
      clear hc0 hc1
      refine wp_region_held_drew (S := fun W' => W'.cell? ⟨g, off, none⟩ = some (.int .i64 p.1) ∧ W'.cell? ⟨g, off + 1, none⟩ = some (.int .i64 p.2) ∧ Kp w.heap.size w W') (by kernel_rfl) ?_ (fun hHeld => ?_)
      focus (exact keepg hgw (Below.drew (Below.refl _ _)) hS)
      refine take_slot (i := 0) (d := 11) (v := ?_) rfl rfl (by kernel_rfl) (by kernel_rfl) (by kernel_rfl) (fun _ _ _ h => h) (Or.inl ⟨by rfl, ?_⟩) (by assumption) ?_
      rotate_left 1
      focus (intro wS hSw; (try dsimp only at hSw); go_simp; try with_reducible rfl)
      try simp only [List.setIfInBounds_toArray, List.set_cons_zero, List.set_cons_succ]
      refine take_slot (i := 1) (d := 12) (v := ?_) rfl rfl (by kernel_rfl) (by kernel_rfl) (by kernel_rfl) (fun _ _ _ h => h) (Or.inl ⟨by rfl, ?_⟩) (by assumption) ?_
      rotate_left 1
      focus (intro wS hSw; (try dsimp only at hSw); go_simp; try with_reducible rfl)
      try simp only [List.setIfInBounds_toArray, List.set_cons_zero, List.set_cons_succ]
      refine take_slot (i := 2) (d := 13) (v := ?_) rfl rfl (by kernel_rfl) (by kernel_rfl) (by kernel_rfl) (fun _ _ _ h => h) (Or.inl ⟨by rfl, ?_⟩) (by assumption) ?_
      rotate_left 1
      focus (intro wS hSw; (try dsimp only at hSw); go_simp; try with_reducible rfl)
      try simp only [List.setIfInBounds_toArray, List.set_cons_zero, List.set_cons_succ]
      refine take_slot (i := 3) (d := 14) (v := ?_) rfl rfl (by kernel_rfl) (by kernel_rfl) (by kernel_rfl) (fun _ _ _ h => h) (Or.inl ⟨by rfl, ?_⟩) (by assumption) ?_
      rotate_left 1
      focus (intro wS hSw; (try dsimp only at hSw); go_simp; try with_reducible rfl)
      try simp only [List.setIfInBounds_toArray, List.set_cons_zero, List.set_cons_succ]
      refine take_slot (i := 4) (d := 15) (v := ?_) rfl rfl (by kernel_rfl) (by kernel_rfl) (by kernel_rfl) (fun _ _ _ h => h) (Or.inl ⟨by rfl, ?_⟩) (by assumption) ?_
      rotate_left 1
      focus (intro wS hSw; (try dsimp only at hSw); go_simp; try with_reducible rfl)
      try simp only [List.setIfInBounds_toArray, List.set_cons_zero, List.set_cons_succ]
      refine wpAnyH_ready (rs := [5]) (by kernel_rfl) (by simp) ?_
      refine AllReadyH.cons rfl (fun K hK => ?_) AllReadyH.nil
      skip
      go_simp
      refine (HT.out _ hHeld.2.2.1).mono ?_; rintro e w5 ⟨rfl, hb5⟩
      refine hK.out _ _ ?_ (fun hHeld => ?_)
      focus (exact keepg hgw hb5 hHeld)
      clear hK K
      try simp only [Act.put, List.setIfInBounds_toArray, List.set_cons_zero, List.set_cons_succ]
      refine wpAnyH_ready (rs := [6]) (by kernel_rfl) (by simp) ?_
      refine AllReadyH.cons rfl (fun K hK => ?_) AllReadyH.nil
      have hKeep := hHeld; obtain ⟨_, _, kb, ksz, ⟨v0, k0⟩, ⟨v1, k1⟩, kf0, kf1⟩ := hHeld
      go_simp
      skip
      refine hK.out _ _ ?_ (fun hHeld => ?_)
      focus (exact keepg_res hgw hKeep)
      clear hK K
      try simp only [Act.put, List.setIfInBounds_toArray, List.set_cons_zero, List.set_cons_succ]
      refine take_slot (i := 7) (d := 3) (v := ?_) rfl rfl (by kernel_rfl) (by kernel_rfl) (by kernel_rfl) (fun _ _ _ h => h) (Or.inl ⟨by rfl, ?_⟩) (by assumption) ?_
      rotate_left 1
      focus (intro wS hSw; (try dsimp only at hSw); go_simp; try with_reducible rfl)
      try simp only [List.setIfInBounds_toArray, List.set_cons_zero, List.set_cons_succ]
      refine wpAnyH_done (by kernel_rfl) ?_ _
      obtain ⟨_, _, hkk, _⟩ := hHeld
      go_wp2_with fail
      refine bodyPost_ret (v := .tuple #[.agg #[.int .i64 P.1, .int .i64 P.2], .int .i64 0]) (by simp [results, Try.results147, go_sem, k0, k1]) rfl ⟨by rw [E0.out, E1.out, E2.out], hkk⟩

  · have HN := Lib.hid h0
    have hne : (chkS xs != 0) = true := by simpa using h0
    have E0' : Hid (huE xs = chkS xs) := Lib.hid (by unfold huE; rw [if_neg h0])
    have E1' : Hid (huL xs = 0) := Lib.hid (by unfold huL; rw [if_neg h0])
    have E2' : Hid (huH xs = 0) := Lib.hid (by unfold huH; rw [if_neg h0])
    generalize chkS xs = ce at *
    generalize xs.length = n at *
    clear h0 hr
    go_enter Try.func147, Try.ntmps147
    go_wp2_with fail
    refine (HC.out _ ((Below.refl _ _).alloc (Nat.le_refl _) _)).mono ?_
    rintro e w1 ⟨rfl, hb⟩
    have r0 := cell_next hb (b := w.heap.size) (o := 0) (by simp <;> omega) (v := some (.int .i64 0)) (by simp [go_sem])
    have r1 := cell_next hb (b := w.heap.size) (o := 1) (by simp <;> omega) (v := some (.int .i64 0)) (by simp [go_sem])
    have f0 := frozen_next hb (b := w.heap.size) (o := 0) (by simp <;> omega) (v := false) (by simp [go_sem])
    have f1 := frozen_next hb (b := w.heap.size) (o := 1) (by simp <;> omega) (v := false) (by simp [go_sem])
    have nz : w.heap.size < w1.heap.size := by have := hb.size; simp at this; omega
    have hB := below1 hb
    clear hb
    go_wp2_with fail
    refine bodyPost_ret (v := .tuple #[.agg #[.int .i64 0, .int .i64 0], .int .i64 ce]) (by simp [results, Try.results147, go_sem, r0, r1, f0, f1]) rfl ⟨by rw [E0'.out, E1'.out, E2'.out], ?_⟩
    exact (hB.setCell (p := ⟨w.heap.size, 0, none⟩) (Nat.le_refl _) _).setCell (p := ⟨w.heap.size, 1, none⟩) (Nat.le_refl _) _

end Go.Proofs.Ytdlmkjllcejoaaa

