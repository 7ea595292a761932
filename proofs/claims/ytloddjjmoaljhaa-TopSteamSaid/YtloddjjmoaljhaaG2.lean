/- Contracts of package barrel: NewLedger; a thing that is added; Gather; Left. -/
import Derived.Test.YtloddjjmoaljhaaG1
namespace Go.Proofs.Ytloddjjmoaljhaa
open Go.RowKit Go.Lib Go.Shelf
set_option linter.unusedVariables false
set_option linter.unusedSimpArgs false
attribute [local go_sem ↓] Go.wp_at_zero Go.wp_at_succ

/-- a ledger of some things -/
def LgE (B b : Nat) (W : World) (ths : List Th) : Prop := ∃ V hs, hs.map Prod.snd = ths ∧ Lg B b W V hs
theorem LgE.below {B b : Nat} {W W' : World} {ths : List Th} (h : LgE B b W ths) (hb : Below W.heap.size W W') : LgE B b W' ths := by
  obtain ⟨V, hs, h1, h2⟩ := h
  exact ⟨V, hs, h1, h2.below hb⟩
set_option maxHeartbeats 400000 in
theorem newLedger_ok (w : World) :
    Calls Try.prog 13 #[] w fun e w' => e = .returned (.pointer (some ⟨w.heap.size, 0, none⟩)) ∧ LgE w.heap.size w.heap.size w' [] ∧ Below w.heap.size w w' := by
  go_enter Try.func13, Try.ntmps13
  go_wp2_with fail
  go_ret
  refine ⟨rfl, ⟨.slice none 0 0, [], rfl, ⟨Nat.le_refl _, by simp, by simp [go_sem], by simp [go_sem], by simp [Value.ownBlock], World.ownsRow_nil _ _ _ _, fun p hp => by cases hp⟩⟩, (Below.refl _ _).alloc (Nat.le_refl _) _⟩

theorem TkAt.kept {w w' : World} {v : Value} {tk : List (Int × Int)} {N N' : Nat → Prop} (h : TkAt w v tk N) (hk : Kept N w w') (hN : ∀ g, g < w.heap.size → ¬ N g → ¬ N' g) : TkAt w' v tk N' := by
  obtain ⟨A, c, rfl, hc, h⟩ := h
  refine ⟨A, c, rfl, hc, fun hn => ?_⟩
  obtain ⟨g, off, rfl, hg, hNg, hr⟩ := h hn
  exact ⟨g, off, rfl, Nat.lt_of_lt_of_le hg hk.1, hN g hg hNg, hr.keep fun o => hk.cell (p := ⟨g, o, none⟩) hg hNg⟩

set_option maxRecDepth 40000 in
set_option maxHeartbeats 4000000 in
theorem ladd_ok (B b : Nat) (V tv : Value) (th : Th) (hs : List (Value × Th)) (w : World) (hl : hs.length ≤ 1000) (hL0 : Lg B b w V hs) (ht : TkAt w tv th.tk (fun g => g = b ∨ V.ownBlock = some g)) :
    Calls Try.prog 36 #[.pointer (some ⟨b, 0, none⟩), vTh (tv, th)] w fun e w' => e = .returned (.int .i64 hs.length) ∧ ∃ V', Lg B b w' V' (hs ++ [(tv, th)]) ∧ Below B w w' := by
  obtain ⟨i0, hi0, hz0, hz1, hz2⟩ := info_parts infoThing
  have HV := Lib.hid ht
  have HT := Lib.hid hL0.tk
  have hBb := hL0.le
  have nb0 := hL0.lt
  have cb0 := hL0.cell
  have fb0 := hL0.fr
  have hne := hL0.ne
  have hrow0 := hL0.row
  have hob0 := World.ownsRow.lt hL0.row
  have htv : ∃ A n c, tv = .slice A n c := by obtain ⟨A, c, h, _⟩ := ht; exact ⟨A, _, c, h⟩
  obtain ⟨n, hn⟩ : ∃ n, hs.length = n := ⟨_, rfl⟩
  have Hn := Lib.hid hn
  rw [hn] at hl hrow0 ⊢
  have hwn : IntKind.i64.wrap (((n : Int) + 1) - 1) = (n : Int) := by rw [show ((n : Int) + 1) - 1 = (n : Int) from by omega]; exact IntWalk.i64_in _ (by omega)
  have hHS : flatH (hs ++ [(tv, th)]) = flatH hs ++ [tv, .int .i64 th.m, .int .i64 th.l] := by rw [flatH_append]; rfl
  clear hL0 ht hn
  obtain ⟨tk, m, l⟩ := th
  dsimp only [vTh] at HV hHS ⊢
  obtain ⟨tA, tn, tc, rfl⟩ := htv
  generalize htv0 : Value.slice tA tn tc = tv at *
  have htv : tv.oneCell' = true := by rw [← htv0]; rfl
  clear htv0
  go_enter Try.func36, Try.ntmps36
  go_wp2_with fail
  have hb1 : Below w.heap.size w (w.alloc (.cells #[tv, .int .i64 m, .int .i64 l] 89)) := (Below.refl _ _).alloc (Nat.le_refl _) _
  have T0 : (w.alloc (.cells #[tv, .int .i64 m, .int .i64 l] 89)).cell? ⟨w.heap.size, 0, none⟩ = some tv := cell_new _ _ _ 0
  have T1 : (w.alloc (.cells #[tv, .int .i64 m, .int .i64 l] 89)).cell? ⟨w.heap.size, 1, none⟩ = some (.int .i64 m) := cell_new _ _ _ 1
  have T2 : (w.alloc (.cells #[tv, .int .i64 m, .int .i64 l] 89)).cell? ⟨w.heap.size, 2, none⟩ = some (.int .i64 l) := cell_new _ _ _ 2
  have nT : w.heap.size < (w.alloc (.cells #[tv, .int .i64 m, .int .i64 l] 89)).heap.size := by simp
  have c0 := cell_next hb1 nb0 cb0
  have fb := frozen_next hb1 nb0 fb0
  have nb := Nat.lt_of_lt_of_le nb0 hb1.size
  have HO := Lib.hid (own_below hrow0 hb1)
  have hob : ∀ g, V.ownBlock = some g → B ≤ g ∧ g < w.heap.size := hob0
  have hQ0 : Hid (Kept (fun _ => False) w (w.alloc (.cells #[tv, .int .i64 m, .int .i64 l] 89))) := Lib.hid (Kept.of_below' hb1 _)
  have hB : Below B w (w.alloc (.cells #[tv, .int .i64 m, .int .i64 l] 89)) := hb1.mono (by omega)
  have hwW := hb1.size
  clear hb1 cb0 fb0 hrow0 hob0
  generalize w.alloc (.cells #[tv, .int .i64 m, .int .i64 l] 89) = W1 at *
  have hBW : B ≤ W1.heap.size := by omega
  refine wp_region_held_drew (S := fun w' => w'.cell? ⟨w.heap.size, 0, none⟩ = some (tv) ∧ w'.cell? ⟨w.heap.size, 1, none⟩ = some (.int .i64 m) ∧ w'.cell? ⟨w.heap.size, 2, none⟩ = some (.int .i64 l) ∧ True) (by kernel_rfl) ?_ (fun hHeld => ?_)
  focus (exact ⟨T0, T1, T2, trivial⟩)
  have hL : Below B W1 W1.drew := Below.drew (Below.refl _ _)
  replace c0 : W1.drew.cell? ⟨b, 0, none⟩ = some (V) := c0
  replace fb : W1.drew.frozen? ⟨b, 0, none⟩ = false := fb
  replace T0 : W1.drew.cell? ⟨w.heap.size, 0, none⟩ = some (tv) := T0
  replace T1 : W1.drew.cell? ⟨w.heap.size, 1, none⟩ = some (.int .i64 m) := T1
  replace T2 : W1.drew.cell? ⟨w.heap.size, 2, none⟩ = some (.int .i64 l) := T2
  replace nb : b < W1.drew.heap.size := nb
  replace nT : w.heap.size < W1.drew.heap.size := nT
  have hQ : Hid (Kept (fun _ => False) W1 W1.drew) := Lib.hid (Kept.of_below' (Below.drew (Below.refl _ _)) _)
  generalize hWd : W1.drew = wd at hHeld hL c0 fb T0 T1 T2 nb nT hQ ⊢
  clear hWd
  refine take_slot (i := 0) (d := 5) (v := ?_) rfl rfl (by kernel_rfl) (by kernel_rfl) (by kernel_rfl) (fun _ _ _ h => h) (Or.inl ⟨by rfl, ?_⟩) (by assumption) ?_
  rotate_left 1
  focus (intro wS hSw; (try dsimp only at hSw); go_simp; try with_reducible rfl)
  try simp only [List.setIfInBounds_toArray, List.set_cons_zero, List.set_cons_succ]
  refine take_slot (i := 1) (d := 6) (v := ?_) rfl rfl (by kernel_rfl) (by kernel_rfl) (by kernel_rfl) (fun _ _ _ h => h) (Or.inl ⟨by rfl, ?_⟩) (by assumption) ?_
  rotate_left 1
  focus (intro wS hSw; (try dsimp only at hSw); go_simp; try with_reducible rfl)
  try simp only [List.setIfInBounds_toArray, List.set_cons_zero, List.set_cons_succ]
  refine take_slot (i := 2) (d := 7) (v := ?_) rfl rfl (by kernel_rfl) (by kernel_rfl) (by kernel_rfl) (fun _ _ _ h => h) (Or.inl ⟨by rfl, ?_⟩) (by assumption) ?_
  rotate_left 1
  focus (intro wS hSw; (try dsimp only at hSw); go_simp; try with_reducible rfl)
  try simp only [List.setIfInBounds_toArray, List.set_cons_zero, List.set_cons_succ]
  refine take_slot (i := 3) (d := 8) (v := ?_) rfl rfl (by kernel_rfl) (by kernel_rfl) (by kernel_rfl) (fun _ _ _ h => h) (Or.inl ⟨by rfl, ?_⟩) (by assumption) ?_
  rotate_left 1
  focus (intro wS hSw; (try dsimp only at hSw); go_simp; try with_reducible rfl)
  try simp only [List.setIfInBounds_toArray, List.set_cons_zero, List.set_cons_succ]
  refine take_slot (i := 5) (d := 10) (v := ?_) rfl rfl (by kernel_rfl) (by kernel_rfl) (by kernel_rfl) (fun _ _ _ h => h) (Or.inl ⟨by rfl, ?_⟩) (by assumption) ?_
  rotate_left 1
  focus (intro wS hSw; (try dsimp only at hSw); go_simp; try with_reducible rfl)
  try simp only [List.setIfInBounds_toArray, List.set_cons_zero, List.set_cons_succ]
  refine wpAnyH_ready (rs := [4, 6]) (by kernel_rfl) (by simp) ?_
  refine AllReadyH.cons rfl (fun K hK => ?_) (AllReadyH.cons rfl (fun K hK => ?_) AllReadyH.nil)
  · go_simp
    refine hK.out _ _ ⟨T0, T1, T2, trivial⟩ (fun hHeld => ?_)
    clear hK K
    try simp only [Act.put, List.setIfInBounds_toArray, List.set_cons_zero, List.set_cons_succ]
    refine wpAnyH_ready (rs := [6]) (by kernel_rfl) (by simp) ?_
    refine AllReadyH.cons rfl (fun K hK => ?_) AllReadyH.nil
    go_simp
    have hb := (Below.refl wd.heap.size wd).alloc (Nat.le_refl _) (Obj.cells #[tv, .int .i64 m, .int .i64 l] 89)
    have szZ2 := hL.size
    have ord2nb := nb
    have ord2nT := nT
    replace c0 := cell_next hb nb c0
    replace fb := frozen_next hb nb fb
    replace T0 := cell_next hb nT T0
    replace T1 := cell_next hb nT T1
    replace T2 := cell_next hb nT T2
    replace nb := Nat.lt_of_lt_of_le nb hb.size
    replace nT := Nat.lt_of_lt_of_le nT hb.size
    replace hL := hL.trans (hb.mono (Nat.le_trans hBW hL.size))
    replace hQ := Lib.hid (hQ.out.trans (Kept.of_below' hb _))
    have K0 : (wd.alloc (Obj.cells #[tv, .int .i64 m, .int .i64 l] 89)).cell? ⟨wd.heap.size, 0, none⟩ = some (tv) := cell_new _ _ _ 0
    have K1 : (wd.alloc (Obj.cells #[tv, .int .i64 m, .int .i64 l] 89)).cell? ⟨wd.heap.size, 1, none⟩ = some (.int .i64 m) := cell_new _ _ _ 1
    have K2 : (wd.alloc (Obj.cells #[tv, .int .i64 m, .int .i64 l] 89)).cell? ⟨wd.heap.size, 2, none⟩ = some (.int .i64 l) := cell_new _ _ _ 2
    have nK : wd.heap.size < (wd.alloc (Obj.cells #[tv, .int .i64 m, .int .i64 l] 89)).heap.size := by simp
    refine hK.out _ _ ⟨T0, T1, T2, trivial⟩ (fun hHeld => ?_)
    clear hK K hb
    generalize wd.alloc (Obj.cells #[tv, .int .i64 m, .int .i64 l] 89) = Z2 at *
    try simp only [Act.put, List.setIfInBounds_toArray, List.set_cons_zero, List.set_cons_succ]
    refine wpAnyH_ready (rs := [7]) (by kernel_rfl) (by simp) ?_
    refine AllReadyH.cons rfl (fun K hK => ?_) AllReadyH.nil
    refine step_append_d _ 12 rfl rfl (.tmp 9) (.tmp 11) 83 rfl B 89 i0 (.agg #[.slice none 0 0, .int .i64 0, .int .i64 0]) 3 40 Try.underlying83 hi0 hz0 hz1 hz2 rfl (by decide) V n (flatH hs) rfl (ownsRow_kept HO.out hQ.out (fun g h hu => hu)) ⟨wd.heap.size, 0, none⟩ 1 1 [tv, .int .i64 m, .int .i64 l] rfl rfl ?_ ?_ (by decide) ?_ ?_ ?_ _ rfl ?_
    · intro j u hj
      rcases j with _ | _ | _ | j
      · simp at hj; subst hj; exact K0
      · simp at hj; subst hj; exact K1
      · simp at hj; subst hj; exact K2
      · simp at hj
    · intro u hu; simp at hu; rcases hu with rfl | rfl | rfl; exact htv; rfl; rfl
    · unfold maxLen; omega
    · omega
    · have := hL.size; omega
    intro g5 c5 Z3 hown' hgrow hat hlt'
    have hsL := hL.size
    have hKg := Kept.of_grown hgrow
    replace c0 := grown_keep hgrow nb (fun e => hne e) c0
    replace fb := grown_keepf hgrow nb (fun e => hne e) fb
    replace T0 := grown_keep hgrow nT (fun e => by have := (hob _ e).2; omega) T0
    replace T1 := grown_keep hgrow nT (fun e => by have := (hob _ e).2; omega) T1
    replace T2 := grown_keep hgrow nT (fun e => by have := (hob _ e).2; omega) T2
    replace K0 := grown_keep hgrow nK (fun e => by have := (hob _ e).2; omega) K0
    replace K1 := grown_keep hgrow nK (fun e => by have := (hob _ e).2; omega) K1
    replace K2 := grown_keep hgrow nK (fun e => by have := (hob _ e).2; omega) K2
    replace nb := Nat.lt_of_lt_of_le nb hgrow.size
    replace nT := Nat.lt_of_lt_of_le nT hgrow.size
    replace nK := Nat.lt_of_lt_of_le nK hgrow.size
    replace hL := hL.grown hgrow (by omega) (fun g h => (hob g h).1)
    have hQ2 : Hid (Kept (fun g => g = b ∨ V.ownBlock = some g) w Z3) := Lib.hid ((hQ0.out.mono (fun g h => h.elim)).trans ((hQ.out.mono (fun g h => h.elim)).trans (hKg.mono (fun g h => .inr h))))
    refine hK.out _ _ ⟨T0, T1, T2, trivial⟩ (fun hHeld => ?_)
    clear hK K hgrow hlt' hKg hQ
    try simp only [Act.put, List.setIfInBounds_toArray, List.set_cons_zero, List.set_cons_succ]
    refine take_slot (i := 8) (d := 13) (v := ?_) rfl rfl (by kernel_rfl) (by kernel_rfl) (by kernel_rfl) (fun _ _ _ h => h) (Or.inl ⟨by rfl, ?_⟩) (by assumption) ?_
    rotate_left 1
    focus (intro wS hSw; (try dsimp only at hSw); go_simp; try with_reducible rfl)
    try simp only [List.setIfInBounds_toArray, List.set_cons_zero, List.set_cons_succ]
    refine take_slot (i := 9) (d := 14) (v := ?_) rfl rfl (by kernel_rfl) (by kernel_rfl) (by kernel_rfl) (fun _ _ _ h => h) (Or.inl ⟨by rfl, ?_⟩) (by assumption) ?_
    rotate_left 1
    focus (intro wS hSw; (try dsimp only at hSw); go_simp; try with_reducible rfl)
    try simp only [List.setIfInBounds_toArray, List.set_cons_zero, List.set_cons_succ]
    refine wpAnyH_ready (rs := [10]) (by kernel_rfl) (by simp) ?_
    refine AllReadyH.cons rfl (fun K hK => ?_) AllReadyH.nil
    go_simp
    have e5 : (Value.slice (some ⟨g5, 0, none⟩) (n + 1) c5).ownBlock = some g5 := rfl
    have hne5 : (Value.slice (some ⟨g5, 0, none⟩) (n + 1) c5).ownBlock ≠ some b := fun e => by
      rw [e5] at e
      injection e with e
      rcases hat with h | h
      · exact hne (by rw [h, e])
      · omega
    have hRow := own_set1 hown' hne5 0 (.slice (some ⟨g5, 0, none⟩) (n + 1) c5)
    have hK3 := hQ2.out.trans (Kept.set (U := fun g => g = b ∨ V.ownBlock = some g) _ (p := ⟨b, 0, none⟩) (.inl rfl) (.slice (some ⟨g5, 0, none⟩) (n + 1) c5))
    clear hQ2
    replace c0 : (Z3.setCell ⟨b, 0, none⟩ (.slice (some ⟨g5, 0, none⟩) (n + 1) c5)).cell? ⟨b, 0, none⟩ = some (.slice (some ⟨g5, 0, none⟩) (n + 1) c5) := by simp [go_sem, c0]
    replace fb : (Z3.setCell ⟨b, 0, none⟩ (.slice (some ⟨g5, 0, none⟩) (n + 1) c5)).frozen? ⟨b, 0, none⟩ = false := by simp [go_sem, fb]
    replace T0 : (Z3.setCell ⟨b, 0, none⟩ (.slice (some ⟨g5, 0, none⟩) (n + 1) c5)).cell? ⟨w.heap.size, 0, none⟩ = some (tv) := ((World.cell?_setCell_other _ _ _ _ (by intro e; injection e with e1 e2; omega)).trans T0)
    replace T1 : (Z3.setCell ⟨b, 0, none⟩ (.slice (some ⟨g5, 0, none⟩) (n + 1) c5)).cell? ⟨w.heap.size, 1, none⟩ = some (.int .i64 m) := ((World.cell?_setCell_other _ _ _ _ (by intro e; injection e with e1 e2; omega)).trans T1)
    replace T2 : (Z3.setCell ⟨b, 0, none⟩ (.slice (some ⟨g5, 0, none⟩) (n + 1) c5)).cell? ⟨w.heap.size, 2, none⟩ = some (.int .i64 l) := ((World.cell?_setCell_other _ _ _ _ (by intro e; injection e with e1 e2; omega)).trans T2)
    replace K0 : (Z3.setCell ⟨b, 0, none⟩ (.slice (some ⟨g5, 0, none⟩) (n + 1) c5)).cell? ⟨wd.heap.size, 0, none⟩ = some (tv) := ((World.cell?_setCell_other _ _ _ _ (by intro e; injection e with e1 e2; omega)).trans K0)
    replace K1 : (Z3.setCell ⟨b, 0, none⟩ (.slice (some ⟨g5, 0, none⟩) (n + 1) c5)).cell? ⟨wd.heap.size, 1, none⟩ = some (.int .i64 m) := ((World.cell?_setCell_other _ _ _ _ (by intro e; injection e with e1 e2; omega)).trans K1)
    replace K2 : (Z3.setCell ⟨b, 0, none⟩ (.slice (some ⟨g5, 0, none⟩) (n + 1) c5)).cell? ⟨wd.heap.size, 2, none⟩ = some (.int .i64 l) := ((World.cell?_setCell_other _ _ _ _ (by intro e; injection e with e1 e2; omega)).trans K2)
    replace nb : b < (Z3.setCell ⟨b, 0, none⟩ (.slice (some ⟨g5, 0, none⟩) (n + 1) c5)).heap.size := by simpa [World.setCell] using nb
    replace nT : w.heap.size < (Z3.setCell ⟨b, 0, none⟩ (.slice (some ⟨g5, 0, none⟩) (n + 1) c5)).heap.size := by simpa [World.setCell] using nT
    replace nK : wd.heap.size < (Z3.setCell ⟨b, 0, none⟩ (.slice (some ⟨g5, 0, none⟩) (n + 1) c5)).heap.size := by simpa [World.setCell] using nK
    replace hL := hL.setCell (p := ⟨b, 0, none⟩) (by show B ≤ b; omega) (.slice (some ⟨g5, 0, none⟩) (n + 1) c5)
    refine hK.out _ _ ⟨T0, T1, T2, trivial⟩ (fun hHeld => ?_)
    clear hK K
    generalize (Z3.setCell ⟨b, 0, none⟩ (.slice (some ⟨g5, 0, none⟩) (n + 1) c5)) = Z4 at *
    try simp only [Act.put, List.setIfInBounds_toArray, List.set_cons_zero, List.set_cons_succ]
    refine wpAnyH_done (by kernel_rfl) ?_ _
    have hB3 := hB.trans hL
    have HRow := Lib.hid hRow
    have HK3 := Lib.hid hK3
    clear hRow hK3
    clear hHeld hL hBW
    go_wp2_with fail
    go_ret
    refine ⟨rfl, _, ⟨hBb, nb, c0, fb, hne5, ?_, ?_⟩, hB3⟩
    · rw [List.length_append, Hn.out, hHS]
      exact HRow.out
    · have hN : ∀ g, g < w.heap.size → ¬ (g = b ∨ V.ownBlock = some g) → ¬ (g = b ∨ (Value.slice (some ⟨g5, 0, none⟩) (n + 1) c5).ownBlock = some g) := fun g hg h1 h2 => by
        rcases h2 with h2 | h2
        · exact h1 (.inl h2)
        · rw [e5] at h2
          injection h2 with h2
          subst h2
          rcases hat with h | h
          · exact h1 (.inr h)
          · omega
      intro p hp
      rcases List.mem_append.1 hp with hp | hp
      · exact (HT.out p hp).kept HK3.out hN
      · simp at hp
        subst hp
        exact HV.out.kept HK3.out hN
  · go_simp
    have hb := (Below.refl wd.heap.size wd).alloc (Nat.le_refl _) (Obj.cells #[tv, .int .i64 m, .int .i64 l] 89)
    have szZ5 := hL.size
    have ord5nb := nb
    have ord5nT := nT
    replace c0 := cell_next hb nb c0
    replace fb := frozen_next hb nb fb
    replace T0 := cell_next hb nT T0
    replace T1 := cell_next hb nT T1
    replace T2 := cell_next hb nT T2
    replace nb := Nat.lt_of_lt_of_le nb hb.size
    replace nT := Nat.lt_of_lt_of_le nT hb.size
    replace hL := hL.trans (hb.mono (Nat.le_trans hBW hL.size))
    replace hQ := Lib.hid (hQ.out.trans (Kept.of_below' hb _))
    have K0 : (wd.alloc (Obj.cells #[tv, .int .i64 m, .int .i64 l] 89)).cell? ⟨wd.heap.size, 0, none⟩ = some (tv) := cell_new _ _ _ 0
    have K1 : (wd.alloc (Obj.cells #[tv, .int .i64 m, .int .i64 l] 89)).cell? ⟨wd.heap.size, 1, none⟩ = some (.int .i64 m) := cell_new _ _ _ 1
    have K2 : (wd.alloc (Obj.cells #[tv, .int .i64 m, .int .i64 l] 89)).cell? ⟨wd.heap.size, 2, none⟩ = some (.int .i64 l) := cell_new _ _ _ 2
    have nK : wd.heap.size < (wd.alloc (Obj.cells #[tv, .int .i64 m, .int .i64 l] 89)).heap.size := by simp
    refine hK.out _ _ ⟨T0, T1, T2, trivial⟩ (fun hHeld => ?_)
    clear hK K hb
    generalize wd.alloc (Obj.cells #[tv, .int .i64 m, .int .i64 l] 89) = Z5 at *
    try simp only [Act.put, List.setIfInBounds_toArray, List.set_cons_zero, List.set_cons_succ]
    refine wpAnyH_ready (rs := [4]) (by kernel_rfl) (by simp) ?_
    refine AllReadyH.cons rfl (fun K hK => ?_) AllReadyH.nil
    go_simp
    refine hK.out _ _ ⟨T0, T1, T2, trivial⟩ (fun hHeld => ?_)
    clear hK K
    try simp only [Act.put, List.setIfInBounds_toArray, List.set_cons_zero, List.set_cons_succ]
    refine wpAnyH_ready (rs := [7]) (by kernel_rfl) (by simp) ?_
    refine AllReadyH.cons rfl (fun K hK => ?_) AllReadyH.nil
    refine step_append_d _ 12 rfl rfl (.tmp 9) (.tmp 11) 83 rfl B 89 i0 (.agg #[.slice none 0 0, .int .i64 0, .int .i64 0]) 3 40 Try.underlying83 hi0 hz0 hz1 hz2 rfl (by decide) V n (flatH hs) rfl (ownsRow_kept HO.out hQ.out (fun g h hu => hu)) ⟨wd.heap.size, 0, none⟩ 1 1 [tv, .int .i64 m, .int .i64 l] rfl rfl ?_ ?_ (by decide) ?_ ?_ ?_ _ rfl ?_
    · intro j u hj
      rcases j with _ | _ | _ | j
      · simp at hj; subst hj; exact K0
      · simp at hj; subst hj; exact K1
      · simp at hj; subst hj; exact K2
      · simp at hj
    · intro u hu; simp at hu; rcases hu with rfl | rfl | rfl; exact htv; rfl; rfl
    · unfold maxLen; omega
    · omega
    · have := hL.size; omega
    intro g5 c5 Z7 hown' hgrow hat hlt'
    have hsL := hL.size
    have hKg := Kept.of_grown hgrow
    replace c0 := grown_keep hgrow nb (fun e => hne e) c0
    replace fb := grown_keepf hgrow nb (fun e => hne e) fb
    replace T0 := grown_keep hgrow nT (fun e => by have := (hob _ e).2; omega) T0
    replace T1 := grown_keep hgrow nT (fun e => by have := (hob _ e).2; omega) T1
    replace T2 := grown_keep hgrow nT (fun e => by have := (hob _ e).2; omega) T2
    replace K0 := grown_keep hgrow nK (fun e => by have := (hob _ e).2; omega) K0
    replace K1 := grown_keep hgrow nK (fun e => by have := (hob _ e).2; omega) K1
    replace K2 := grown_keep hgrow nK (fun e => by have := (hob _ e).2; omega) K2
    replace nb := Nat.lt_of_lt_of_le nb hgrow.size
    replace nT := Nat.lt_of_lt_of_le nT hgrow.size
    replace nK := Nat.lt_of_lt_of_le nK hgrow.size
    replace hL := hL.grown hgrow (by omega) (fun g h => (hob g h).1)
    have hQ2 : Hid (Kept (fun g => g = b ∨ V.ownBlock = some g) w Z7) := Lib.hid ((hQ0.out.mono (fun g h => h.elim)).trans ((hQ.out.mono (fun g h => h.elim)).trans (hKg.mono (fun g h => .inr h))))
    refine hK.out _ _ ⟨T0, T1, T2, trivial⟩ (fun hHeld => ?_)
    clear hK K hgrow hlt' hKg hQ
    try simp only [Act.put, List.setIfInBounds_toArray, List.set_cons_zero, List.set_cons_succ]
    refine take_slot (i := 8) (d := 13) (v := ?_) rfl rfl (by kernel_rfl) (by kernel_rfl) (by kernel_rfl) (fun _ _ _ h => h) (Or.inl ⟨by rfl, ?_⟩) (by assumption) ?_
    rotate_left 1
    focus (intro wS hSw; (try dsimp only at hSw); go_simp; try with_reducible rfl)
    try simp only [List.setIfInBounds_toArray, List.set_cons_zero, List.set_cons_succ]
    refine take_slot (i := 9) (d := 14) (v := ?_) rfl rfl (by kernel_rfl) (by kernel_rfl) (by kernel_rfl) (fun _ _ _ h => h) (Or.inl ⟨by rfl, ?_⟩) (by assumption) ?_
    rotate_left 1
    focus (intro wS hSw; (try dsimp only at hSw); go_simp; try with_reducible rfl)
    try simp only [List.setIfInBounds_toArray, List.set_cons_zero, List.set_cons_succ]
    refine wpAnyH_ready (rs := [10]) (by kernel_rfl) (by simp) ?_
    refine AllReadyH.cons rfl (fun K hK => ?_) AllReadyH.nil
    go_simp
    have e5 : (Value.slice (some ⟨g5, 0, none⟩) (n + 1) c5).ownBlock = some g5 := rfl
    have hne5 : (Value.slice (some ⟨g5, 0, none⟩) (n + 1) c5).ownBlock ≠ some b := fun e => by
      rw [e5] at e
      injection e with e
      rcases hat with h | h
      · exact hne (by rw [h, e])
      · omega
    have hRow := own_set1 hown' hne5 0 (.slice (some ⟨g5, 0, none⟩) (n + 1) c5)
    have hK3 := hQ2.out.trans (Kept.set (U := fun g => g = b ∨ V.ownBlock = some g) _ (p := ⟨b, 0, none⟩) (.inl rfl) (.slice (some ⟨g5, 0, none⟩) (n + 1) c5))
    clear hQ2
    replace c0 : (Z7.setCell ⟨b, 0, none⟩ (.slice (some ⟨g5, 0, none⟩) (n + 1) c5)).cell? ⟨b, 0, none⟩ = some (.slice (some ⟨g5, 0, none⟩) (n + 1) c5) := by simp [go_sem, c0]
    replace fb : (Z7.setCell ⟨b, 0, none⟩ (.slice (some ⟨g5, 0, none⟩) (n + 1) c5)).frozen? ⟨b, 0, none⟩ = false := by simp [go_sem, fb]
    replace T0 : (Z7.setCell ⟨b, 0, none⟩ (.slice (some ⟨g5, 0, none⟩) (n + 1) c5)).cell? ⟨w.heap.size, 0, none⟩ = some (tv) := ((World.cell?_setCell_other _ _ _ _ (by intro e; injection e with e1 e2; omega)).trans T0)
    replace T1 : (Z7.setCell ⟨b, 0, none⟩ (.slice (some ⟨g5, 0, none⟩) (n + 1) c5)).cell? ⟨w.heap.size, 1, none⟩ = some (.int .i64 m) := ((World.cell?_setCell_other _ _ _ _ (by intro e; injection e with e1 e2; omega)).trans T1)
    replace T2 : (Z7.setCell ⟨b, 0, none⟩ (.slice (some ⟨g5, 0, none⟩) (n + 1) c5)).cell? ⟨w.heap.size, 2, none⟩ = some (.int .i64 l) := ((World.cell?_setCell_other _ _ _ _ (by intro e; injection e with e1 e2; omega)).trans T2)
    replace K0 : (Z7.setCell ⟨b, 0, none⟩ (.slice (some ⟨g5, 0, none⟩) (n + 1) c5)).cell? ⟨wd.heap.size, 0, none⟩ = some (tv) := ((World.cell?_setCell_other _ _ _ _ (by intro e; injection e with e1 e2; omega)).trans K0)
    replace K1 : (Z7.setCell ⟨b, 0, none⟩ (.slice (some ⟨g5, 0, none⟩) (n + 1) c5)).cell? ⟨wd.heap.size, 1, none⟩ = some (.int .i64 m) := ((World.cell?_setCell_other _ _ _ _ (by intro e; injection e with e1 e2; omega)).trans K1)
    replace K2 : (Z7.setCell ⟨b, 0, none⟩ (.slice (some ⟨g5, 0, none⟩) (n + 1) c5)).cell? ⟨wd.heap.size, 2, none⟩ = some (.int .i64 l) := ((World.cell?_setCell_other _ _ _ _ (by intro e; injection e with e1 e2; omega)).trans K2)
    replace nb : b < (Z7.setCell ⟨b, 0, none⟩ (.slice (some ⟨g5, 0, none⟩) (n + 1) c5)).heap.size := by simpa [World.setCell] using nb
    replace nT : w.heap.size < (Z7.setCell ⟨b, 0, none⟩ (.slice (some ⟨g5, 0, none⟩) (n + 1) c5)).heap.size := by simpa [World.setCell] using nT
    replace nK : wd.heap.size < (Z7.setCell ⟨b, 0, none⟩ (.slice (some ⟨g5, 0, none⟩) (n + 1) c5)).heap.size := by simpa [World.setCell] using nK
    replace hL := hL.setCell (p := ⟨b, 0, none⟩) (by show B ≤ b; omega) (.slice (some ⟨g5, 0, none⟩) (n + 1) c5)
    refine hK.out _ _ ⟨T0, T1, T2, trivial⟩ (fun hHeld => ?_)
    clear hK K
    generalize (Z7.setCell ⟨b, 0, none⟩ (.slice (some ⟨g5, 0, none⟩) (n + 1) c5)) = Z8 at *
    try simp only [Act.put, List.setIfInBounds_toArray, List.set_cons_zero, List.set_cons_succ]
    refine wpAnyH_done (by kernel_rfl) ?_ _
    have hB3 := hB.trans hL
    have HRow := Lib.hid hRow
    have HK3 := Lib.hid hK3
    clear hRow hK3
    clear hHeld hL hBW
    go_wp2_with fail
    go_ret
    refine ⟨rfl, _, ⟨hBb, nb, c0, fb, hne5, ?_, ?_⟩, hB3⟩
    · rw [List.length_append, Hn.out, hHS]
      exact HRow.out
    · have hN : ∀ g, g < w.heap.size → ¬ (g = b ∨ V.ownBlock = some g) → ¬ (g = b ∨ (Value.slice (some ⟨g5, 0, none⟩) (n + 1) c5).ownBlock = some g) := fun g hg h1 h2 => by
        rcases h2 with h2 | h2
        · exact h1 (.inl h2)
        · rw [e5] at h2
          injection h2 with h2
          subst h2
          rcases hat with h | h
          · exact h1 (.inr h)
          · omega
      intro p hp
      rcases List.mem_append.1 hp with hp | hp
      · exact (HT.out p hp).kept HK3.out hN
      · simp at hp
        subst hp
        exact HV.out.kept HK3.out hN

set_option maxRecDepth 20000 in
set_option maxHeartbeats 2000000 in
theorem gather_ok (B b : Nat) (ths : List Th) (m : Int) (w : World) (hm : 1 ≤ m ∧ m ≤ 1000000000) (hn : ths.length < 200) (hL : LgE B b w ths) :
    Calls Try.prog 14 #[.pointer (some ⟨b, 0, none⟩), .int .i64 m] w fun e w' => e = .returned (.tuple #[.int .i64 ths.length, .int .i64 0]) ∧ LgE B b w' (ths ++ [⟨[], m, m⟩]) ∧ Below B w w' := by
  obtain ⟨V, hs, hh, hL⟩ := hL
  have hlen : hs.length = ths.length := by rw [← hh]; simp
  have CR := Lib.hid (lroom_ok B b V hs w (by omega) hL)
  have CI := Lib.hid (fun (W : World) (g c : Nat) => bin1v_any 1 1000000000 m g c W)
  rw [show inB 1 1000000000 m = true from by simp [inB]; omega] at CI
  have CA : Hid (∀ W, Below w.heap.size w W → Calls Try.prog 36 #[.pointer (some ⟨b, 0, none⟩), .agg #[.slice none 0 0, .int .i64 m, .int .i64 m]] W fun e w' => e = .returned (.int .i64 ths.length) ∧ (LgE B b w' (ths ++ [⟨[], m, m⟩])) ∧ Below B W w') := Lib.hid (fun W h => (ladd_ok B b V (.slice none 0 0) ⟨[], m, m⟩ hs W (by omega) (hL.below h) ⟨none, 0, rfl, Nat.le_refl _, fun h => by simp at h⟩).mono (fun e w' hh2 => by
    obtain ⟨h1, V', h2, h3⟩ := hh2
    exact ⟨by rw [h1, hlen], ⟨V', _, by rw [List.map_append, hh]; rfl, h2⟩, h3⟩))
  have hBw : B ≤ w.heap.size := Nat.le_trans hL.le (Nat.le_of_lt hL.lt)
  clear hL hh hlen
  go_enter Try.func14, Try.ntmps14
  go_wp2_with fail
  refine (CR.out).mono ?_
  rintro e W1 ⟨rfl, hb⟩
  have hB := hb
  clear hb
  go_wp2_with fail
  refine (CI.out _ _ _ (by simp) (by simp [go_sem])).mono ?_
  rintro e W2 ⟨rfl, hb⟩
  replace hB := hB.trans ((below1 hb).mono hB.size)
  clear hb
  go_wp2_with fail
  refine (CA.out _ hB).mono ?_
  rintro e W3 ⟨rfl, hE, hb⟩
  have hB2 := (hB.mono hBw).trans hb
  clear hb CA CI CR hB
  go_wp2_with fail
  go_ret2
  exact ⟨by rfl, hE, hB2⟩

set_option maxRecDepth 20000 in
set_option maxHeartbeats 2000000 in
theorem left_ok (B b : Nat) (ths : List Th) (k : Nat) (p : Th) (w : World) (hn : ths.length ≤ 200) (hk : ths[k]? = some p) (hB1 : tkB p.tk) (hB2 : 0 ≤ p.m ∧ p.m ≤ 1000000000) (hL : LgE B b w ths) :
    Calls Try.prog 16 #[.pointer (some ⟨b, 0, none⟩), .int .i64 (k : Int)] w fun e w' => e = .returned (.tuple #[.int .i64 p.l, .int .i64 (loT p), .int .i64 0]) ∧ Below w.heap.size w w' := by
  obtain ⟨V, hs, hh, hL⟩ := hL
  have hlen : hs.length = ths.length := by rw [← hh]; simp
  obtain ⟨⟨tv, th⟩, hp⟩ : ∃ p, hs[k]? = some p := ⟨_, List.getElem?_eq_getElem (by have := (List.getElem?_eq_some_iff.1 hk).1; omega)⟩
  have hth : th = p := by
    have h1 : (hs.map Prod.snd)[k]? = some th := by rw [List.getElem?_map, hp]; rfl
    rw [hh, hk] at h1; injection h1 with h1; exact h1.symm
  subst hth
  have hklt := (List.getElem?_eq_some_iff.1 hp).1
  have CK : Hid (∀ (W : World) (g c : Nat), Below w.heap.size w W → g < W.heap.size → W.cell? ⟨g, 0, none⟩ = some (.int .i64 (k : Int)) → Calls Try.prog 40 #[.pointer (some ⟨b, 0, none⟩), .slice (some ⟨g, 0, none⟩) 1 c] W fun e w' => e = .returned (.int .i64 0) ∧ Below W.heap.size W w') := Lib.hid (fun W g c h hg hc => lcheck_ok B b V _ hs [(k : Int)] W (by omega) (by simp) (hL.below h) ((ns_one hc).mono (by omega)) (by simp [insB, inB]; omega))
  have CL : Hid (∀ W, Below w.heap.size w W → Calls Try.prog 41 #[.agg #[tv, .int .i64 th.m, .int .i64 th.l]] W fun e w' => e = .returned (.int .i64 (loT th)) ∧ Below W.heap.size W w') := Lib.hid (fun W h => lost_ok tv th W hB1 hB2 (((hL.tk _ (List.mem_of_getElem? hp)).row.below h (Nat.le_refl _)).mono h.size))
  obtain ⟨tA, tn, tc, rfl⟩ : ∃ A n c, tv = .slice A n c := by obtain ⟨A, c, h, _⟩ := hL.tk _ (List.mem_of_getElem? hp); exact ⟨A, _, c, h⟩
  obtain ⟨g, c, rfl, hc1, hc2, hc3, hc4, q0, q1, q2, _⟩ := hL.at hp
  have cb := hL.cell
  have nb := hL.lt
  dsimp only at q0 q1 q2
  generalize hs.length = n at *
  have hk2 : (k : Int) < (n : Int) := by omega
  clear hL hh hp hk hB1 hB2 hc2 hc4
  obtain ⟨tk, m, l⟩ := th
  dsimp only at q0 q1 q2 CL ⊢
  generalize loT ⟨tk, m, l⟩ = lo at *
  go_enter Try.func16, Try.ntmps16
  go_wp2_with fail
  refine (CK.out _ _ _ ((Below.refl _ _).alloc (Nat.le_refl _) _) (by simp) (by simp [go_sem])).mono ?_
  rintro e W1 ⟨rfl, hb⟩
  have hB := below1 hb
  replace q0 := cell_next hB hc3 q0
  replace q1 := cell_next hB hc3 q1
  replace q2 := cell_next hB hc3 q2
  replace cb := cell_next hB nb cb
  replace hc3 := Nat.lt_of_lt_of_le hc3 hB.size
  replace nb := Nat.lt_of_lt_of_le nb hB.size
  clear hb CK
  go_wp2_with fail
  have hb : Below W1.heap.size W1 (W1.alloc (Obj.cells #[.slice tA tn tc, .int .i64 m, .int .i64 l] 89)) := ((Below.refl _ _).alloc (Nat.le_refl _) _)
  have T0 : (W1.alloc (Obj.cells #[.slice tA tn tc, .int .i64 m, .int .i64 l] 89)).cell? ⟨W1.heap.size, 0, none⟩ = some (.slice tA tn tc) := by simp [go_sem]
  have T1 : (W1.alloc (Obj.cells #[.slice tA tn tc, .int .i64 m, .int .i64 l] 89)).cell? ⟨W1.heap.size, 1, none⟩ = some (.int .i64 m) := by simp [go_sem]
  have T2 : (W1.alloc (Obj.cells #[.slice tA tn tc, .int .i64 m, .int .i64 l] 89)).cell? ⟨W1.heap.size, 2, none⟩ = some (.int .i64 l) := by simp [go_sem]
  have nT : W1.heap.size < (W1.alloc (Obj.cells #[.slice tA tn tc, .int .i64 m, .int .i64 l] 89)).heap.size := by simp <;> omega
  replace hB := hB.trans (hb.mono hB.size)
  clear hb
  generalize (W1.alloc (Obj.cells #[.slice tA tn tc, .int .i64 m, .int .i64 l] 89)) = W6 at *
  generalize W1.heap.size = q6 at *
  have hBW := hB.size
  refine wp_region_held_drew (S := fun w' => w'.cell? ⟨q6, 0, none⟩ = some (.slice tA tn tc) ∧ w'.cell? ⟨q6, 1, none⟩ = some (.int .i64 m) ∧ w'.cell? ⟨q6, 2, none⟩ = some (.int .i64 l) ∧ True) (by kernel_rfl) ?_ (fun hHeld => ?_)
  focus (exact ⟨T0, T1, T2, trivial⟩)
  have hL : Below w.heap.size W6 W6.drew := Below.drew (Below.refl _ _)
  replace T0 : W6.drew.cell? ⟨q6, 0, none⟩ = some (.slice tA tn tc) := T0
  replace T1 : W6.drew.cell? ⟨q6, 1, none⟩ = some (.int .i64 m) := T1
  replace T2 : W6.drew.cell? ⟨q6, 2, none⟩ = some (.int .i64 l) := T2
  replace nT : q6 < W6.drew.heap.size := nT
  generalize hWd : W6.drew = yd3 at hHeld hL T0 T1 T2 nT  ⊢
  clear hWd
  refine take_slot (i := 0) (d := 23) (v := ?_) rfl rfl (by kernel_rfl) (by kernel_rfl) (by kernel_rfl) (fun _ _ _ h => h) (Or.inl ⟨by rfl, ?_⟩) (by assumption) ?_
  rotate_left 1
  focus (intro wS hSw; (try dsimp only at hSw); go_simp; try with_reducible rfl)
  try simp only [List.setIfInBounds_toArray, List.set_cons_zero, List.set_cons_succ]
  refine take_slot (i := 1) (d := 24) (v := ?_) rfl rfl (by kernel_rfl) (by kernel_rfl) (by kernel_rfl) (fun _ _ _ h => h) (Or.inl ⟨by rfl, ?_⟩) (by assumption) ?_
  rotate_left 1
  focus (intro wS hSw; (try dsimp only at hSw); go_simp; try with_reducible rfl)
  try simp only [List.setIfInBounds_toArray, List.set_cons_zero, List.set_cons_succ]
  refine take_slot (i := 2) (d := 25) (v := ?_) rfl rfl (by kernel_rfl) (by kernel_rfl) (by kernel_rfl) (fun _ _ _ h => h) (Or.inl ⟨by rfl, ?_⟩) (by assumption) ?_
  rotate_left 1
  focus (intro wS hSw; (try dsimp only at hSw); go_simp; try with_reducible rfl)
  try simp only [List.setIfInBounds_toArray, List.set_cons_zero, List.set_cons_succ]
  refine wpAnyH_ready (rs := [3]) (by kernel_rfl) (by simp) ?_
  refine AllReadyH.cons rfl (fun K hK => ?_) AllReadyH.nil
  go_simp
  refine (CL.out _ (hB.trans hL)).mono ?_
  rintro e Y3x1 ⟨rfl, hb⟩
  replace T0 := cell_next hb nT T0
  replace T1 := cell_next hb nT T1
  replace T2 := cell_next hb nT T2
  replace nT := Nat.lt_of_lt_of_le nT hb.size
  replace hL := hL.trans (hb.mono (Nat.le_trans hBW hL.size))
  refine hK.out _ _ ⟨T0, T1, T2, trivial⟩ (fun hHeld => ?_)
  clear hK K hb
  try simp only [Act.put, List.setIfInBounds_toArray, List.set_cons_zero, List.set_cons_succ]
  refine take_slot (i := 4) (d := 4) (v := ?_) rfl rfl (by kernel_rfl) (by kernel_rfl) (by kernel_rfl) (fun _ _ _ h => h) (Or.inl ⟨by rfl, ?_⟩) (by assumption) ?_
  rotate_left 1
  focus (intro wS hSw; (try dsimp only at hSw); go_simp; try with_reducible rfl)
  try simp only [List.setIfInBounds_toArray, List.set_cons_zero, List.set_cons_succ]
  refine take_slot (i := 5) (d := 5) (v := ?_) rfl rfl (by kernel_rfl) (by kernel_rfl) (by kernel_rfl) (fun _ _ _ h => h) (Or.inl ⟨by rfl, ?_⟩) (by assumption) ?_
  rotate_left 1
  focus (intro wS hSw; (try dsimp only at hSw); go_simp; try with_reducible rfl)
  try simp only [List.setIfInBounds_toArray, List.set_cons_zero, List.set_cons_succ]
  refine take_slot (i := 6) (d := 6) (v := ?_) rfl rfl (by kernel_rfl) (by kernel_rfl) (by kernel_rfl) (fun _ _ _ h => h) (Or.inl ⟨by rfl, ?_⟩) (by assumption) ?_
  rotate_left 1
  focus (intro wS hSw; (try dsimp only at hSw); go_simp; try with_reducible rfl)
  try simp only [List.setIfInBounds_toArray, List.set_cons_zero, List.set_cons_succ]
  refine wpAnyH_done (by kernel_rfl) ?_ _
  replace hB := hB.trans hL
  clear hHeld hL hBW
  go_wp2_with fail
  refine bodyPost_ret (v := .tuple #[.int .i64 l, .int .i64 lo, .int .i64 0]) (by simp [results, Try.results16, go_sem]) rfl ⟨rfl, hB⟩
end Go.Proofs.Ytloddjjmoaljhaa
