/- Contracts: the document's tubing, and what is known of it. -/
import Derived.Test.YtpphchbokphkdaaDoorN10
namespace Go.Proofs.YtpphchbokphkdaaDoor
open Go.RowKit Go.Lib Go.Shelf
set_option linter.unusedVariables false
set_option linter.unusedSimpArgs false
attribute [local go_sem ↓] Go.wp_at_zero Go.wp_at_succ

def bushP : List Pp := [⟨-1, 0, 0, 0, 0⟩, ⟨0, 1000, 20, 500, 0⟩, ⟨1, 400, 8, -30, 5⟩, ⟨1, 300, 8, 100, 4⟩, ⟨3, 200, 8, 50, 2⟩]
def bushF : List (Int × Int) := [(0, 0), (0, 0), (5000, 6000), (4000, 4000), (2000, 2000)]
theorem bush_flE : flE 8000 bushP bushF = 0 := by decide +kernel
theorem bush_vac : (vacsL 8000 bushP bushF)[2]? = some (7693, 7693) := by decide +kernel
theorem bush_vlen : (vacsL 8000 bushP bushF).length = 5 := by decide +kernel
theorem bush_sum : smL bushF = 11000 ∧ smH bushF = 12000 ∧ smE bushF = 0 := by decide +kernel

set_option maxRecDepth 20000 in
set_option maxHeartbeats 1000000 in
theorem meetBush_any (w : World) :
    Calls Tryd.prog 15 #[] w fun e w' => ∃ A B, e = .returned (.tuple #[.agg #[.int .i64 8000, .slice A 5 5], .slice B 5 5]) ∧ PipesAt w'.heap.size w' (.slice A 5 5) bushP ∧ RowAt w'.heap.size w' (.slice B 5 5) bushF ∧ Below w.heap.size w w' := by
  go_enter Tryd.func15, Tryd.ntmps15
  go_wp2_with fail
  refine bodyPost_ret (v := .tuple #[.agg #[.int .i64 8000, .slice (some ⟨w.heap.size + 1, 0, none⟩) 5 5], .slice (some ⟨w.heap.size + 1 + 1 + 1, 0, none⟩) 5 5]) (by simp [results, Tryd.results15, go_sem]) rfl ⟨_, _, rfl, ?_, ?_, ?_⟩
  · refine ⟨_, _, rfl, Nat.le_refl _, fun _ => ⟨_, _, rfl, by simp <;> omega, ?_⟩⟩
    intro k p hp
    rcases k with _ | _ | _ | _ | _ | k
    · obtain rfl := Option.some.inj hp; exact ⟨by simp [go_sem], by simp [go_sem], by simp [go_sem], by simp [go_sem], by simp [go_sem]⟩
    · obtain rfl := Option.some.inj hp; exact ⟨by simp [go_sem], by simp [go_sem], by simp [go_sem], by simp [go_sem], by simp [go_sem]⟩
    · obtain rfl := Option.some.inj hp; exact ⟨by simp [go_sem], by simp [go_sem], by simp [go_sem], by simp [go_sem], by simp [go_sem]⟩
    · obtain rfl := Option.some.inj hp; exact ⟨by simp [go_sem], by simp [go_sem], by simp [go_sem], by simp [go_sem], by simp [go_sem]⟩
    · obtain rfl := Option.some.inj hp; exact ⟨by simp [go_sem], by simp [go_sem], by simp [go_sem], by simp [go_sem], by simp [go_sem]⟩
    · simp [bushP] at hp
  · refine ⟨_, _, rfl, Nat.le_refl _, fun _ => ⟨_, _, rfl, by simp <;> omega, ?_⟩⟩
    intro k p hp
    rcases k with _ | _ | _ | _ | _ | k
    · obtain rfl := Option.some.inj hp; exact ⟨by simp [go_sem], by simp [go_sem]⟩
    · obtain rfl := Option.some.inj hp; exact ⟨by simp [go_sem], by simp [go_sem]⟩
    · obtain rfl := Option.some.inj hp; exact ⟨by simp [go_sem], by simp [go_sem]⟩
    · obtain rfl := Option.some.inj hp; exact ⟨by simp [go_sem], by simp [go_sem]⟩
    · obtain rfl := Option.some.inj hp; exact ⟨by simp [go_sem], by simp [go_sem]⟩
    · simp [bushF] at hp
  · repeat (first | exact Below.refl _ _ | (with_reducible refine Below.setCell ?_ (by simp <;> omega) _) | (with_reducible refine Below.alloc ?_ (by simp <;> omega) _))

set_option maxRecDepth 20000 in
set_option maxHeartbeats 1000000 in
theorem knownLine_any (w : World) (hG : Gp w) :
    Calls Tryd.prog 5 #[] w fun e w' => e = .returned (.bool true) ∧ Below w.heap.size w w' := by
  have c1 := Lib.hid (meetBush_any w)
  have c2 : Hid (∀ (v fv : Value) W, Below w.heap.size w W → PipesAt W.heap.size W v bushP → SetAt W.heap.size W fv bushF → Calls Tryd.prog 9 #[.agg #[.int .i64 8000, v], fv, .slice none 0 0] W fun e w' => ∃ v', e = .returned (.tuple #[v', .int .i64 0]) ∧ RowAt w'.heap.size w' v' (vacsL 8000 bushP bushF) ∧ Below W.heap.size W w') :=
    Lib.hid fun v fv W hb hv hf => vacuum_ok 8000 v fv bushP bushF W bush_flE hv (hG.below hb (Nat.le_refl _)) hf
  have c3 : Hid (∀ (fv : Value) W, SetAt W.heap.size W fv bushF → Calls Tryd.prog 10 #[fv] W fun e w' => e = .returned (.tuple #[.agg #[.int .i64 11000, .int .i64 12000], .int .i64 0]) ∧ Below W.heap.size W w') :=
    Lib.hid fun fv W hf => by
      have h := sum_any fv bushF W hf
      rw [bush_sum.1, bush_sum.2.1, bush_sum.2.2] at h
      exact h
  have hsz : w.heap.size < w.heap.size + 1 := Nat.lt_succ_self _
  clear hG
  go_enter Tryd.func5, Tryd.ntmps5
  go_wp2_with fail
  refine (c1.out).mono ?_
  rintro e w1 ⟨A, B, rfl, hP, hF, hb⟩
  have hB := hb
  have HP := Lib.hid hP
  have HF := Lib.hid hF
  clear hb hP hF
  go_wp2_with fail
  refine (c2.out _ _ _ (hB.alloc hB.size _) ((HP.out.below ((Below.refl w1.heap.size w1).alloc (Nat.le_refl _) _) (Nat.le_refl _)).mono (by simp)) ((HF.out.set.below ((Below.refl w1.heap.size w1).alloc (Nat.le_refl _) _) (Nat.le_refl _)).mono (by simp))).mono ?_
  rintro e w2 ⟨v', rfl, hV, hb⟩
  have hB2 := below1 hb
  clear hb
  replace hB := hB.trans (hB2.mono hB.size)
  have HF2 : Hid (SetAt w2.heap.size w2 (.slice B 5 5) bushF) := Lib.hid ((HF.out.set.below hB2 (Nat.le_refl _)).mono hB2.size)
  obtain ⟨Av, cv, rfl, _, hv⟩ := hV
  obtain ⟨gv, ov, rfl, hgv, hrv⟩ := hv (by rw [bush_vlen]; omega)
  obtain ⟨x0, x1⟩ := hrv 2 _ bush_vac
  rw [bush_vlen]
  clear hv hrv hB2 HF HP
  go_wp2_with fail
  refine (c3.out _ _ HF2.out).mono ?_
  rintro e w3 ⟨rfl, hb⟩
  replace x0 := cell_next hb hgv x0
  replace x1 := cell_next hb hgv x1
  replace hB := hB.trans (hb.mono hB.size)
  have hgv3 : gv < w3.heap.size := Nat.lt_of_lt_of_le hgv hb.size
  clear hb
  go_wp2_with fail
  go_ret
  exact ⟨rfl, hB.alloc hB.size _⟩
end Go.Proofs.YtpphchbokphkdaaDoor
