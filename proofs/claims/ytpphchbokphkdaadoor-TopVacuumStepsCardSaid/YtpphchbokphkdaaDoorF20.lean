/-
  For all tubing and all flows the Go function TopVacuumSteps returns true, and its arguments read afterwards as they read before; the package's variable line.pump reads when the call begins as the program's own text lays it.
  Conditions: the listed variable reads as it is laid (tied to the program's text by the card).
-/
import Derived.Test.YtpphchbokphkdaaDoorL6
import Derived.Test.YtpphchbokphkdaaDoorW20
import Derived.Test.YtpphchbokphkdaaDoorTie
import Derived.Test.YtpphchbokphkdaaDoorCards
import Derived.LaidMore
import Derived.Stop.Joined
import Derived.SevenTiedAt
namespace Go.Proofs.YtpphchbokphkdaaDoor
open Go.ChangeShapes Go.WideShapes Go.ChangeAt Go.RowKit
set_option linter.unusedVariables false
set_option linter.unusedSimpArgs false

theorem gPump : Tryd.prog.globalNamed "spile/line.pump" = some 0 := by kernel_rfl
theorem tPump : (Tryd.prog.globals[0]?).map (·.type) = some 36 := by kernel_rfl
/-- The door's own heap meets the condition. -/
theorem door_met (os : Os) (args : Array Value) : laidMetH Tryd.prog [("spile/line.pump", Rows.laid_spile_line_pump)] ((World.doorLaid Tryd.prog 400 os).forCall (fun _ _ => 0) ⟨#[], args, []⟩).memory :=
  laidMetH_of_parts3 (fuel := 8) (laidMet_of_run' 8 (by kernel_rfl) (by kernel_rfl)) (by kernel_rfl) (by kernel_rfl)
theorem trod_key {H : Type} {enc : TypeId × Value → H} {W : World} {base : Nat} {spare : Nat → Bool} {held : Bool} {n : Nat} (u : Value) (y : DataW H × List MemPlace) (z : Int) (ht : DataW.trod enc Tryd.prog W base spare held n 3 [u] = some y) (he : DataW.lit (.int .i64 z) = y.1) : u = .int .i64 z := by
  obtain ⟨k, e, e', _⟩ := DataW.trod_int Tryd.underlying3 ht
  simp at e
  rw [e'] at he
  simp at he
  rw [e, he]
theorem gp_of_laid {W : World} (h : laidMetH Tryd.prog [("spile/line.pump", Rows.laid_spile_line_pump)] W) : Gp W := by
  rw [MakeChecks.laidMetH_plain _ _ _ (by kernel_rfl)] at h
  obtain ⟨ps, ⟨g0, t0, cs0, f0, p0, q0, hg0, ht0, hv0, hd0, _, _⟩, _, _⟩ := h
  obtain rfl := Option.some.inj (gPump.symm.trans hg0)
  obtain rfl := Option.some.inj (tPump.symm.trans ht0)
  have hc := fun j => World.var?_cell hg0 hv0 j
  obtain ⟨ys, n', _, hd, hlen, hyl, hf⟩ := DataW.trod_struct Tryd.underlying36 hd0
  rw [pipeCells] at hlen
  obtain ⟨l0⟩ := cs0
  match l0, hlen with
  | [v0, v1, v2, v3, v4], _ =>
    simp only [Prod.mk.injEq] at hd
    obtain ⟨hd1, _⟩ := hd
    match ys, hyl with
    | [y0, y1, y2, y3, y4], _ =>
      unfold Rows.laid_spile_line_pump at hd1
      simp only [List.map_cons, List.map_nil, DataW.agg.injEq, List.cons.injEq] at hd1
      obtain ⟨e0, e1, e2, e3, e4, _⟩ := hd1
      have k0 := trod_key v0 y0 (-1) (by simpa [cells_int1] using hf 0 _ rfl) e0
      have k1 := trod_key v1 y1 0 (by simpa [cells_int1] using hf 1 _ rfl) e1
      have k2 := trod_key v2 y2 0 (by simpa [cells_int1] using hf 2 _ rfl) e2
      have k3 := trod_key v3 y3 0 (by simpa [cells_int1] using hf 3 _ rfl) e3
      have k4 := trod_key v4 y4 0 (by simpa [cells_int1] using hf 4 _ rfl) e4
      subst k0 k1 k2 k3 k4
      have h0 : W.cell? ⟨0, 0, none⟩ = some (.int .i64 (-1)) := by simpa using hc 0
      exact ⟨World.block_lt_of_cell? W _ h0, h0, by simpa using hc 1, by simpa using hc 2, by simpa using hc 3, by simpa using hc 4⟩

set_option maxRecDepth 100000 in
theorem steps_lifted (os : Os) (started : os.Started) (H : Type) (enc : TypeId × Value → H) :
    ReturnsInHanded {} Tryd.checked os 3 .any (fun w args => (Rows.topVacuumStepsSpec.pre enc Tryd.prog Tryd.f3 [] false w args ∧ laidMetH Tryd.prog [("spile/line.pump", Rows.laid_spile_line_pump)] w) ∧ sizedMet enc Tryd.prog Tryd.f3 (OpenSpec.ofChange Rows.topVacuumStepsSpec) false w args)
      (Rows.topVacuumStepsSpec.post enc Tryd.prog Tryd.f3 false true false false) := by
  refine returnsInHanded_of_change_and (C := Tryd.checked) (X := fun w _ => laidMetH Tryd.prog [("spile/line.pump", Rows.laid_spile_line_pump)] w) (fun _ _ _ hh h => h.of_heap hh) ownKnobs started (by kernel_rfl) Tryd.func3
    (ChangeSpec.witness_shaped (enc := enc) (C := Tryd.checked) (os := os) (X := fun w _ => laidMetH Tryd.prog [("spile/line.pump", Rows.laid_spile_line_pump)] w) false (World.doorLaid Tryd.prog 400 os) #[.agg #[.int .i64 0, .slice none 0 0], .slice none 0 0] 8 rfl (World.shaped_of_RefB (by kernel_rfl) (by kernel_rfl)) (by kernel_rfl) (by kernel_rfl) (by kernel_rfl) (door_met os _)) ?_
  intro W base args ds gs before hval0 hW _ _ hL _
  have hval : ∀ (j : Nat) t v, Tryd.f3.params[j]? = some t → args[j]? = some v → Value.okWide Tryd.prog W .any base t v := hval0
  have hW' := hW
  obtain ⟨p, q, hA0, hV, rfl, hfz, hnd⟩ := hW
  have hA : DataW.TrodAll enc Tryd.prog W 0 (fun _ => true) true Tryd.f3.params.toList args.toList ds p := hA0
  rw [Tryd.params3] at hA hval
  obtain ⟨v0, vs0, d0, ds0, p0, q0, hargs, rfl, rfl, h0, r0⟩ := trodAll_cons hA
  obtain ⟨v1, vs1, d1, ds1, p1, q1, rfl, rfl, rfl, h1, r1⟩ := trodAll_cons r0
  obtain ⟨rfl, rfl, rfl⟩ := trodAll_nil r1
  obtain rfl : args = #[v0, v1] := by cases args; simp_all
  obtain ⟨rfl, rfl⟩ := trodVars_none hV
  obtain ⟨pump, vp, ps, rfl, hps⟩ := open_net (hval 0 24 v0 rfl rfl) h0
  obtain ⟨xs, hx⟩ := open_rs (hval 1 25 v1 rfl rfl) h1
  have hG := gp_of_laid hL
  clear hA0 hval0
  simp only [List.append_nil] at hW'
  have hlt0 : ∀ x ∈ p0, x.block < W.heap.size := fun x hx' => by have := hW'.lt x (by simp [hx']); simpa using this
  have hlt1 : ∀ x ∈ p1, x.block < W.heap.size := fun x hx' => by have := hW'.lt x (by simp [hx']); simpa using this
  refine (steps_any pump vp v1 ps xs W hps hx.row.set hG).mono fun e W' ⟨he, hg⟩ => ?_
  subst he
  exact ⟨_, rfl, post_law hW' hg (trodAll_cons_mk (shut_bool Tryd.underlying4 _) trodAll_mk0) (by have key := trodAll_cons_mk (Below.trod laidOut (by kernel_rfl) (of_decide_eq_true (by kernel_rfl)) h0 hg hlt0) (trodAll_cons_mk (Below.trod laidOut (by kernel_rfl) (of_decide_eq_true (by kernel_rfl)) h1 hg hlt1) trodAll_mk0); simp only [List.append_nil, List.append_assoc] at key ⊢; exact key) rfl⟩

theorem steps_over : Rows.topVacuumStepsRow.holds Tryd.pinned (OpenSpec.ofChange Rows.topVacuumStepsSpec) :=
  OpenClaim.holds_of_wide 3 Tryd.f3 rfl rfl rfl rfl rfl rfl rfl ⟨rfl, rfl, rfl, rfl, rfl⟩ rfl rfl rfl rfl rfl (by kernel_rfl) Tryd.func3 (by kernel_rfl)
    (of_decide_eq_true (by kernel_rfl)) (by unfold Func.isWrapper; first | (rw [if_pos (by decide +kernel)]; kernel_rfl) | (rw [if_neg (by decide +kernel)]; exact ⟨rfl, rfl⟩))
    (fun os started H enc _ => steps_lifted os started H enc)

theorem steps_card : Rows.TopVacuumStepsCardSaid :=
  Claim7.holds_tied_plain_at .later [] [.data] true Rows.topVacuumStepsCard.stood.harness false
    steps_over (fun _ h => by cases h) (by kernel_rfl) (fun _ h => by cases h) topVacuumSteps_row_tie rfl ⟨rfl, rfl⟩ (by kernel_rfl) rfl
    (fun f fn hf hfn => by
      obtain rfl : f = 3 := Option.some.inj ((show Tryd.prog.funcNamed "spile/spiletop.TopVacuumSteps" = some 3 by kernel_rfl).symm.trans hf) |>.symm
      obtain rfl : fn = Tryd.f3 := (Option.some.inj (Tryd.func3.symm.trans hfn)).symm
      exact ⟨by kernel_rfl, fun j t ht => by
        rw [Tryd.params3] at ht
        have h3 : t = 24 ∨ t = 25 := by
          rcases j with _ | _ | j
          · left; simpa using ht.symm
          · right; simpa using ht.symm
          · simp at ht
        rcases h3 with rfl | rfl
        · exact (show Tryd.prog.wantsStandIn 24 = false by kernel_rfl)
        · exact (show Tryd.prog.wantsStandIn 25 = false by kernel_rfl)⟩)
    (by kernel_rfl)
end Go.Proofs.YtpphchbokphkdaaDoor
