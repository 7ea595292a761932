/- Contract: the loads of tubing, as they are asked for, no pipe frozen. -/
import Derived.Test.YtpphchbokphkdaaDoorN7
namespace Go.Proofs.YtpphchbokphkdaaDoor
open Go.RowKit Go.Lib Go.Shelf
set_option linter.unusedVariables false
set_option linter.unusedSimpArgs false
attribute [local go_sem ↓] Go.wp_at_zero Go.wp_at_succ

theorem own_mono {w : World} {base base' : Nat} {e : TypeId} {size : Nat} {v : Value} {n : Nat} {xs : List Value} (h : w.ownsRow base e size v n xs) (hb : base' ≤ base) : w.ownsRow base' e size v n xs :=
  ⟨h.1, h.2.imp id fun ⟨g, cap, cur, h1, h2, h3⟩ => ⟨g, cap, cur, h1, Nat.le_trans hb h2, h3⟩⟩
theorem flE_yes {pump : Int} {ps : List Pp} {fl : List (Int × Int)} (hn : netB pump ps = true) (hl : fl.length = ps.length) (hf : flsB fl = true) : flE pump ps fl = 0 := by
  unfold flE
  rw [netE_yes hn, if_neg (by simp), if_neg (by simpa using hl), hf]
  rfl

set_option maxRecDepth 20000 in
set_option maxHeartbeats 1000000 in
theorem loadsCall_ok (pump : Int) (v fv : Value) (ps : List Pp) (fl : List (Int × Int)) (w : World) (h : flE pump ps fl = 0) (hv : PipesAt w.heap.size w v ps) (hG : Gp w) (hfv : SetAt w.heap.size w fv fl) :
    Calls Tryd.prog 6 #[.agg #[.int .i64 pump, v], fv, .slice none 0 0] w fun e w' => ∃ v', e = .returned (.tuple #[v', .int .i64 0]) ∧ NewRow (w.heap.size + 1) w' v' (loadsL ps fl) ∧ Below w.heap.size w w' := by
  obtain ⟨h1, h2, h3⟩ := flE_ok h
  have h4 := h1.1
  have c1 : Hid (∀ W, Below w.heap.size w W → Calls Tryd.prog 16 #[.agg #[.int .i64 pump, v], fv, .slice none 0 0] W fun e w' => e = .returned (.int .i64 0) ∧ Below W.heap.size W w') :=
    Lib.hid fun W hb => by
      have := checkFlows_any pump v fv ps fl W (by omega) ((hv.below hb (Nat.le_refl _)).mono hb.size) (hG.below hb (Nat.le_refl _)) ((hfv.below hb (Nat.le_refl _)).mono hb.size)
      rw [h] at this
      exact this
  have c2 : Hid (∀ W, Below w.heap.size w W → w.heap.size < W.heap.size → Calls Tryd.prog 17 #[.agg #[.int .i64 pump, v], fv, .slice none 0 0] W fun e w' => ∃ v', e = .returned v' ∧ NewRow (w.heap.size + 1) w' v' (loadsL ps fl) ∧ Below W.heap.size W w') :=
    Lib.hid fun W hb hlt => (loads_ok pump v fv ps fl W h1 h2 h3 ((hv.below hb (Nat.le_refl _)).mono hb.size) ((hfv.below hb (Nat.le_refl _)).mono hb.size)).mono fun e w' ⟨v', he, ⟨g, cap, hv', ho⟩, hB⟩ => ⟨v', he, ⟨g, cap, hv', own_mono ho (by omega)⟩, hB⟩
  obtain ⟨A, c, rfl, _, _⟩ := hv
  generalize ps.length = n at *
  clear h h1 h2 h3 h4 hG hfv
  go_enter Tryd.func6, Tryd.ntmps6
  go_wp2_with fail
  refine (c1.out _ ((Below.refl _ _).alloc (Nat.le_refl _) _)).mono ?_
  rintro e w1 ⟨rfl, hb⟩
  have r0 := cell_next hb (b := w.heap.size) (o := 0) (by simp) (v := some (.int .i64 pump)) (by simp [go_sem])
  have r1 := cell_next hb (b := w.heap.size) (o := 1) (by simp) (v := some (.slice A n c)) (by simp [go_sem])
  have hlt : w.heap.size < w1.heap.size := by have := hb.size; simp at this; omega
  have hB := below1 hb
  clear hb
  go_wp2_with fail
  refine (c2.out _ hB hlt).mono ?_
  rintro e w2 ⟨v', rfl, hR, hb⟩
  replace hB := hB.trans (hb.mono hB.size)
  have HR := Lib.hid hR
  clear hb hR
  go_wp2_with fail
  go_ret2
  exact ⟨v', rfl, HR.out, hB⟩
end Go.Proofs.YtpphchbokphkdaaDoor
