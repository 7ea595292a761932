/- Contracts: union, common numbers, and what is left, errors too. -/
import Derived.Test.YtiibbnbknmeplaaT11
import Derived.Test.YtiibbnbknmeplaaC17
namespace Go.Proofs.Ytiibbnbknmeplaa
open Go.RowKit Go.Lib Go.Shelf Go.Sort
set_option linter.unusedVariables false
set_option linter.unusedSimpArgs false
attribute [local go_sem ↓] Go.wp_at_zero Go.wp_at_succ

def jnE (K : Bool → Bool → Bool) (xs ys : List (Int × Int)) : Int := if setE xs = 0 then (if setE ys = 0 then (if 200 < (joinL K xs ys).length then 8 else 0) else setE ys) else setE xs
def jnR (K : Bool → Bool → Bool) (xs ys : List (Int × Int)) : List (Int × Int) := if setE xs = 0 then (if setE ys = 0 then (if 200 < (joinL K xs ys).length then [] else joinL K xs ys) else []) else []
theorem jnR_len (K : Bool → Bool → Bool) (xs ys : List (Int × Int)) : (jnR K xs ys).length ≤ 200 := by
  unfold jnR
  split
  · split
    · split
      · simp
      · omega
    · simp
  · simp

set_option maxRecDepth 20000 in
set_option maxHeartbeats 1000000 in
theorem choose_any (F : Nat) (K : Bool → Bool → Bool) (hE : ∀ args w, (callFunc F args).run Try.prog w = .ok (.enter F args) w) (hK : KeepAt F K) (va vb : Value) (xs ys : List (Int × Int)) (w : World)
    (ha : SetAt w.heap.size w va xs) (hb : SetAt w.heap.size w vb ys) :
    Calls Try.prog 129 #[va, vb, .func (Fn.func F) #[] #[]] w (ListPost w (jnR K xs ys) (jnE K xs ys)) := by
  by_cases hx : setE xs = 0
  · by_cases hy : setE ys = 0
    · have e1 : jnE K xs ys = if 200 < (joinL K xs ys).length then 8 else 0 := by unfold jnE; rw [if_pos hx, if_pos hy]
      have e2 : jnR K xs ys = if 200 < (joinL K xs ys).length then [] else joinL K xs ys := by unfold jnR; rw [if_pos hx, if_pos hy]
      rw [e1, e2]
      exact choose_ok F K hE hK va vb xs ys w ha hb hx hy
    · have E1 : Hid (jnE K xs ys = setE ys) := Lib.hid (by unfold jnE; rw [if_pos hx, if_neg hy])
      have E2 : Hid (jnR K xs ys = []) := Lib.hid (by unfold jnR; rw [if_pos hx, if_neg hy])
      have c1 := Lib.hid (checkSet_any va xs w ha)
      have c2 := Lib.hid (fun (W : World) (h : Below w.heap.size w W) => checkSet_any vb ys W ((hb.below h (Nat.le_refl _)).mono h.size))
      rw [hx] at c1
      have hne : (setE ys != 0) = true := by simpa using hy
      generalize jnE K xs ys = je at *
      generalize jnR K xs ys = jr at *
      generalize setE ys = s at *
      clear ha hb hx hy
      go_enter Try.func129, Try.ntmps129
      go_wp2_with fail
      refine c1.out.mono ?_
      rintro e w1 ⟨rfl, hB⟩
      go_wp2_with fail
      refine (c2.out _ hB).mono ?_
      rintro e w2 ⟨rfl, hb⟩
      replace hB := hB.trans (hb.mono hB.size)
      clear hb
      go_wp2_with fail
      go_ret2
      exact ⟨_, by rw [E1.out]; rfl, by rw [E2.out]; exact World.ownsRow_nil _ _ _ _, hB⟩
  · have E1 : Hid (jnE K xs ys = setE xs) := Lib.hid (by unfold jnE; rw [if_neg hx])
    have E2 : Hid (jnR K xs ys = []) := Lib.hid (by unfold jnR; rw [if_neg hx])
    have c1 := Lib.hid (checkSet_any va xs w ha)
    have hne : (setE xs != 0) = true := by simpa using hx
    generalize jnE K xs ys = je at *
    generalize jnR K xs ys = jr at *
    generalize setE xs = s at *
    clear ha hb hx
    go_enter Try.func129, Try.ntmps129
    go_wp2_with fail
    refine c1.out.mono ?_
    rintro e w1 ⟨rfl, hB⟩
    go_wp2_with fail
    go_ret2
    exact ⟨_, by rw [E1.out]; rfl, by rw [E2.out]; exact World.ownsRow_nil _ _ _ _, hB⟩

set_option maxHeartbeats 400000 in
theorem union_any (va vb : Value) (xs ys : List (Int × Int)) (w : World) (ha : SetAt w.heap.size w va xs) (hb : SetAt w.heap.size w vb ys) :
    Calls Try.prog 72 #[va, vb] w (ListPost w (jnR (fun p q => p || q) xs ys) (jnE (fun p q => p || q) xs ys)) := by
  have h := Lib.hid (choose_any 130 _ enters_union1 keep_union va vb xs ys w ha hb)
  clear ha hb
  generalize jnR (fun p q => p || q) xs ys = L at *
  generalize jnE (fun p q => p || q) xs ys = E at *
  go_enter Try.func72, Try.ntmps72
  go_wp2_with fail
  refine h.out.mono ?_
  rintro e w1 ⟨v, rfl, hown, hb⟩
  have HO := Lib.hid hown
  clear hown
  go_wp2_with fail
  go_ret2
  exact ⟨v, rfl, HO.out, hb⟩

set_option maxHeartbeats 400000 in
theorem common_any (va vb : Value) (xs ys : List (Int × Int)) (w : World) (ha : SetAt w.heap.size w va xs) (hb : SetAt w.heap.size w vb ys) :
    Calls Try.prog 73 #[va, vb] w (ListPost w (jnR (fun p q => p && q) xs ys) (jnE (fun p q => p && q) xs ys)) := by
  have h := Lib.hid (choose_any 131 _ enters_common1 keep_common va vb xs ys w ha hb)
  clear ha hb
  generalize jnR (fun p q => p && q) xs ys = L at *
  generalize jnE (fun p q => p && q) xs ys = E at *
  go_enter Try.func73, Try.ntmps73
  go_wp2_with fail
  refine h.out.mono ?_
  rintro e w1 ⟨v, rfl, hown, hb⟩
  have HO := Lib.hid hown
  clear hown
  go_wp2_with fail
  go_ret2
  exact ⟨v, rfl, HO.out, hb⟩

set_option maxHeartbeats 400000 in
theorem without_any (va vb : Value) (xs ys : List (Int × Int)) (w : World) (ha : SetAt w.heap.size w va xs) (hb : SetAt w.heap.size w vb ys) :
    Calls Try.prog 74 #[va, vb] w (ListPost w (jnR (fun p q => p && !q) xs ys) (jnE (fun p q => p && !q) xs ys)) := by
  have h := Lib.hid (choose_any 132 _ enters_without1 keep_without va vb xs ys w ha hb)
  clear ha hb
  generalize jnR (fun p q => p && !q) xs ys = L at *
  generalize jnE (fun p q => p && !q) xs ys = E at *
  go_enter Try.func74, Try.ntmps74
  go_wp2_with fail
  refine h.out.mono ?_
  rintro e w1 ⟨v, rfl, hown, hb⟩
  have HO := Lib.hid hown
  clear hown
  go_wp2_with fail
  go_ret2
  exact ⟨v, rfl, HO.out, hb⟩
end Go.Proofs.Ytiibbnbknmeplaa
