/- Contracts: the numbers of one set or the other, of both, and of the first one alone. -/
import Derived.Test.YtkhongbemoahpaaT10
namespace Go.Proofs.Ytkhongbemoahpaa
open Go.RowKit Go.Lib Go.Shelf Go.Sort
set_option linter.unusedVariables false
set_option linter.unusedSimpArgs false
attribute [local go_sem ↓] Go.wp_at_zero Go.wp_at_succ

theorem enters_without1 : ∀ args w, (callFunc 36 args).run Try.prog w = .ok (.enter 36 args) w := enters_of Try.func36 (by kernel_rfl) rfl

set_option maxHeartbeats 400000 in
theorem keep_without : KeepAt 36 (fun p q => p && !q) := fun p q w => by
  cases p <;> cases q
  all_goals
    go_enter Try.func36, Try.ntmps36
    go_wp2
    go_ret
    exact ⟨rfl, Below.refl _ _⟩

set_option maxHeartbeats 400000 in
theorem without_ok (va vb : Value) (xs ys : List (Int × Int)) (w : World) (ha : SetAt w.heap.size w va xs) (hb : SetAt w.heap.size w vb ys) (hea : setE xs = 0) (heb : setE ys = 0) :
    Calls Try.prog 17 #[va, vb] w (ChoosePost w (joinL (fun p q => p && !q) xs ys)) := by
  have h := Lib.hid (choose_ok 36 _ enters_without1 keep_without va vb xs ys w ha hb hea heb)
  clear ha hb hea heb
  generalize joinL (fun p q => p && !q) xs ys = L at *
  go_enter Try.func17, Try.ntmps17
  go_wp2_with fail
  refine h.out.mono ?_
  rintro e w1 ⟨v, rfl, hown, hb⟩
  have HO := Lib.hid hown
  clear hown
  obtain ⟨r, hr⟩ : ∃ r, (if 200 < L.length then (8 : Int) else 0) = r := ⟨_, rfl⟩
  rw [hr]
  have HR := Lib.hid hr
  clear hr
  go_wp2_with fail
  go_ret2
  exact ⟨v, by rw [HR.out]; rfl, HO.out, hb⟩

/-- the fixed sets -/
theorem known_steps : stepsUp (stepsOf [(0, 9)] ++ stepsOf [(3, 4)]) = [0, 3, 5, 10] := by
  have e : (stepsOf [(0, 9)] ++ stepsOf [(3, 4)]).mergeSort (fun x y => decide (x ≤ y)) = [0, 3, 5, 10] := by
    simp [stepsOf, List.mergeSort, List.merge, List.MergeSort.Internal.splitInTwo, List.splitAt, List.splitAt.go]
  unfold stepsUp
  rw [e]
  decide +kernel
theorem known_join : joinL (fun p q => p && !q) [(0, 9)] [(3, 4)] = [(0, 2), (5, 9)] := by
  unfold joinL
  rw [known_steps]
  decide +kernel
theorem known_setE : setE [(0, 9)] = 0 ∧ setE [(3, 4)] = 0 := by decide +kernel
end Go.Proofs.Ytkhongbemoahpaa

