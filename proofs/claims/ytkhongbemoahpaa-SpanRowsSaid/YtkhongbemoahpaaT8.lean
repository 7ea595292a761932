/- Contracts: CheckSet and has, the empty and the nil set let in. -/
import Derived.Test.YtkhongbemoahpaaT7
namespace Go.Proofs.Ytkhongbemoahpaa
open Go.RowKit Go.Lib Go.Shelf
set_option linter.unusedVariables false
set_option linter.unusedSimpArgs false
attribute [local go_sem ↓] Go.wp_at_zero Go.wp_at_succ

/-- the slice value v reads as the pairs xs; it lies below block B -/
def SetAt (B : Nat) (w : World) (v : Value) (xs : List (Int × Int)) : Prop :=
  ∃ A c, v = .slice A xs.length c ∧ (0 < xs.length → ∃ g off, A = some ⟨g, off, none⟩ ∧ g < B ∧ RRd w g off xs)
theorem SetAt.below {B B' : Nat} {w w' : World} {v : Value} {xs : List (Int × Int)} (h : SetAt B w v xs) (hb : Below B' w w') (hB : B ≤ B') : SetAt B w' v xs := by
  obtain ⟨A, c, rfl, h⟩ := h
  refine ⟨A, c, rfl, fun hn => ?_⟩
  obtain ⟨g, off, rfl, hg, hr⟩ := h hn
  exact ⟨g, off, rfl, hg, hr.below hb (by omega)⟩
theorem SetAt.mono {B B' : Nat} {w : World} {v : Value} {xs : List (Int × Int)} (h : SetAt B w v xs) (hB : B ≤ B') : SetAt B' w v xs := by
  obtain ⟨A, c, rfl, h⟩ := h
  refine ⟨A, c, rfl, fun hn => ?_⟩
  obtain ⟨g, off, rfl, hg, hr⟩ := h hn
  exact ⟨g, off, rfl, by omega, hr⟩

set_option maxHeartbeats 400000 in
theorem checkSet_empty (A : Option Addr) (c : Nat) (w : World) :
    Calls Try.prog 9 #[.slice A 0 c] w fun e w' => e = .returned (.int .i64 0) ∧ Below w.heap.size w w' := by
  go_enter Try.func9, Try.ntmps9
  go_wp2_with fail
  go_loopw [10] (fun i wr => i = .int .i64 0 ∧ Below w.heap.size w wr) (fun _ _ => 0)
  case atStart => exact ⟨rfl, Below.refl _ _⟩
  case round =>
    obtain ⟨rfl, hbr⟩ := hrel
    go_wp2_with fail
    go_ret
    exact ⟨rfl, hbr⟩

set_option maxHeartbeats 400000 in
theorem checkSet_big (A : Option Addr) (n c : Nat) (h : 200 < n) (w : World) :
    Calls Try.prog 9 #[.slice A n c] w fun e w' => e = .returned (.int .i64 5) ∧ Below w.heap.size w w' := by
  go_enter Try.func9, Try.ntmps9
  go_wp2_with fail
  go_ret
  exact ⟨rfl, Below.refl _ _⟩

theorem checkSet_any (v : Value) (xs : List (Int × Int)) (w : World) (hv : SetAt w.heap.size w v xs) :
    Calls Try.prog 9 #[v] w fun e w' => e = .returned (.int .i64 (setE xs)) ∧ Below w.heap.size w w' := by
  obtain ⟨A, c, rfl, h⟩ := hv
  rcases Nat.lt_or_ge 200 xs.length with h2 | h2
  · rw [show setE xs = 5 from by unfold setE; rw [if_pos h2]]
    exact checkSet_big A _ c h2 w
  · rcases Nat.eq_zero_or_pos xs.length with h0 | h0
    · obtain rfl := List.eq_nil_of_length_eq_zero h0
      exact checkSet_empty A c w
    · obtain ⟨g, off, rfl, hg, hr⟩ := h h0
      exact checkSet_at g off xs c w hg hr h2

set_option maxHeartbeats 400000 in
theorem search_empty (A : Option Addr) (c : Nat) (x : Int) (w : World) :
    Calls Try.prog 58 #[.slice A 0 c, .int .i64 x, .func (Fn.func 59) #[] #[]] w (BsPost w false) := by
  have HE := enters_has1
  go_enter Try.func58, Try.ntmps58
  go_wp2_with fail
  go_loopw [9, 10] (fun s t wr => s = .int .i64 0 ∧ t = .int .i64 0 ∧ Below w.heap.size w wr) (fun _ _ _ => 0)
  case atStart => exact ⟨rfl, rfl, Below.refl _ _⟩
  case round =>
    obtain ⟨rfl, rfl, hbr⟩ := hrel
    go_wp2_with fail
    go_ret2
    exact ⟨_, rfl, hbr⟩

set_option maxHeartbeats 400000 in
theorem has_set (v : Value) (xs : List (Int × Int)) (x : Int) (hs : IsSet xs) (hl : xs.length ≤ 1000) (w : World) (hv : SetAt w.heap.size w v xs) :
    Calls Try.prog 48 #[v, .int .i64 x] w fun e w' => e = .returned (.bool (memB xs x)) ∧ Below w.heap.size w w' := by
  obtain ⟨A, c, rfl, h⟩ := hv
  rcases Nat.eq_zero_or_pos xs.length with h0 | h0
  · obtain rfl := List.eq_nil_of_length_eq_zero h0
    have c1 := Lib.hid (search_empty A c x)
    go_enter Try.func48, Try.ntmps48
    go_wp2_with fail
    refine (c1.out _).mono ?_
    rintro e w1 ⟨i, rfl, hb⟩
    go_wp2_with fail
    go_ret
    exact ⟨rfl, hb⟩
  · obtain ⟨g, off, rfl, hg, hr⟩ := h h0
    exact has_any g off xs c x hs hl w hg hr
end Go.Proofs.Ytkhongbemoahpaa

