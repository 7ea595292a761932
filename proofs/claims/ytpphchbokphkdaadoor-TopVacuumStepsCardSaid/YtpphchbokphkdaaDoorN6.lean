/- Contracts: a copy of flows, and the loads of valid tubing. -/
import Derived.Test.YtpphchbokphkdaaDoorN5
import Derived.Lib.SliceRun
namespace Go.Proofs.YtpphchbokphkdaaDoor
open Go.RowKit Go.Lib Go.Shelf
set_option linter.unusedVariables false
set_option linter.unusedSimpArgs false
attribute [local go_sem ↓] Go.wp_at_zero Go.wp_at_succ

/-- a list of ranges that the call made itself -/
def NewRow (B : Nat) (w : World) (v : Value) (xs : List (Int × Int)) : Prop := ∃ g cap, v = .slice (some ⟨g, 0, none⟩) xs.length cap ∧ w.ownsRow B 34 2 v xs.length (flat xs)
theorem NewRow.row {B : Nat} {w : World} {v : Value} {xs : List (Int × Int)} (h : NewRow B w v xs) : RowAt w.heap.size w v xs := by
  obtain ⟨g, cap, rfl, h⟩ := h
  exact own_row xs _ rfl _ w h
theorem flat_at : ∀ (xs : List (Int × Int)) (k : Nat) (p : Int × Int), xs[k]? = some p → (flat xs)[k * 2]? = some (.int .i64 p.1) ∧ (flat xs)[k * 2 + 1]? = some (.int .i64 p.2) := by
  intro xs
  induction xs with
  | nil => intro k p h; simp at h
  | cons q xs ih =>
    intro k p h
    have e : flat (q :: xs) = .int .i64 q.1 :: .int .i64 q.2 :: flat xs := rfl
    rw [e]
    rcases k with _ | k
    · simp at h; subst h; exact ⟨rfl, rfl⟩
    · obtain ⟨h1, h2⟩ := ih k p (by simpa using h)
      rw [show (k + 1) * 2 = k * 2 + 1 + 1 from by omega]
      exact ⟨by simpa using h1, by simpa using h2⟩
theorem flat_put : ∀ (xs : List (Int × Int)) (k : Nat) (a b : Int), ((flat xs).set (k * 2) (.int .i64 a)).set (k * 2 + 1) (.int .i64 b) = flat (xs.set k (a, b)) := by
  intro xs
  induction xs with
  | nil => intro k a b; simp [flat]
  | cons q xs ih =>
    intro k a b
    have e : ∀ (q : Int × Int) ys, flat (q :: ys) = .int .i64 q.1 :: .int .i64 q.2 :: flat ys := fun _ _ => rfl
    rcases k with _ | k
    · rw [e]; rfl
    · rw [e, show (k + 1) * 2 = k * 2 + 1 + 1 from by omega, List.set_cons_succ, List.set_cons_succ, List.set_cons_succ, List.set_cons_succ, ih k a b, List.set_cons_succ, e]

set_option maxRecDepth 20000 in
set_option maxHeartbeats 1000000 in
theorem clone_some (xs : List (Int × Int)) (g off c : Nat) (hl : xs.length ≤ 1000) (h0 : 0 < xs.length) (w : World) (hg : g < w.heap.size) (hr : RRd w g off xs) :
    Calls Tryd.prog 30 #[.slice (some ⟨g, off, none⟩) xs.length c] w fun e w' => ∃ v', e = .returned v' ∧ NewRow w.heap.size w' v' xs ∧ Below w.heap.size w w' := by
  obtain ⟨i0, hi0, hz0, hz1, hz2⟩ := info_parts infoRange
  obtain ⟨n, hn⟩ : ∃ n, xs.length = n := ⟨_, rfl⟩
  have HNR : Hid (∀ (B : Nat) (w : World) v, w.ownsRow B 34 2 v n (flat xs) → NewRow B w v xs) := Lib.hid fun B w v h => by
    have h' := h
    obtain ⟨_, ⟨rfl, h0'⟩ | ⟨g, cap, cur, rfl, _⟩⟩ := h
    · omega
    · exact ⟨g, cap, by rw [hn], by rw [hn]; exact h'⟩
  rw [hn] at hl h0 ⊢
  have Hn := Lib.hid hn
  have HR := Lib.hid hr
  clear hn hr
  have hnil : ∀ W : World, (binOp .eql 25 (.slice (some ⟨g, off, none⟩) n c) (.slice none 0 0)).run Tryd.prog W = .ok (.bool false) W := fun W => by
    have := Lib.run_eql_slice_nil W 25 34 (some ⟨g, off, none⟩) n c 0 0 Tryd.underlying25
    simpa using this
  go_enter Tryd.func30, Tryd.ntmps30
  have hown0 : (w.alloc (.cells #[] 34)).ownsRow w.heap.size 34 2 (.slice (some ⟨w.heap.size, 0, none⟩) 0 0) 0 [] :=
    ⟨rfl, .inr ⟨w.heap.size, 0, #[], rfl, Nat.le_refl _, heap_alloc_new w _, Nat.le_refl _, Nat.zero_le _, rfl, rfl⟩⟩
  have HO := Lib.hid hown0
  clear hown0
  go_wp2_with (at_builtin; refine wpList_append_own _ rfl (.tmp 5) (.tmp 6) 25 rfl w.heap.size 34 i0 (.agg #[.int .i64 0, .int .i64 0]) 2 16 Tryd.underlying25 hi0 hz0 hz1 hz2 rfl (by decide) (.slice (some ⟨w.heap.size, 0, none⟩) 0 0) 0 [] rfl HO.out ⟨g, off, none⟩ n c (flat xs) rfl ?_ ?_ ?_ ?_ ?_ ?_ ?_)
  case refine_1 => rw [flat_length, Hn.out]
  case refine_2 =>
    intro j u hj
    rw [Addr.add_lit]
    exact (((Below.refl _ _).alloc (Nat.le_refl _) _).cell (p := ⟨g, off + j, none⟩) hg).trans (rrd_flat xs off HR.out j u hj)
  case refine_3 =>
    intro u hu
    simp only [flat, List.mem_flatMap] at hu
    obtain ⟨p, _, hp⟩ := hu
    simp at hp
    rcases hp with rfl | rfl <;> rfl
  case refine_4 => unfold maxLen; omega
  case refine_5 => omega
  case refine_6 => simp
  case refine_7 =>
    intro v' w1 hown' hgrow _
    have hB : Below w.heap.size w w1 := ((Below.refl _ _).alloc (Nat.le_refl _) _).grown hgrow (by simp) (fun k hk => by simp [Value.ownBlock] at hk; omega)
    have hR := Lib.hid (HNR.out _ w1 v' (by simpa using hown'))
    clear hown' hgrow
    go_wp2_with fail
    go_ret
    exact ⟨v', rfl, hR.out, hB⟩

set_option maxHeartbeats 400000 in
theorem contains_nil (n : Int) (w : World) :
    Calls Tryd.prog 18 #[.slice none 0 0, .int .i64 n] w fun e w' => e = .returned (.bool false) ∧ w = w' := by
  have c1 : ∀ w : World, Calls Tryd.prog 31 #[.slice none 0 0, .int .i64 n] w fun e w' => e = .returned (.int .i64 (-1)) ∧ w = w' := by
    intro w
    go_enter Tryd.func31, Tryd.ntmps31
    go_wp2_with fail
    go_loop [8] (fun i => i = .int .i64 0) (fun _ => 0)
    case atStart => rfl
    case round =>
      subst hrel
      go_wp2_with fail
      go_ret
      exact ⟨rfl, rfl⟩
  have C1 := Lib.hid c1
  clear c1
  go_enter Tryd.func18, Tryd.ntmps18
  go_wp2_with fail
  refine (C1.out _).mono ?_
  rintro e w' ⟨rfl, rfl⟩
  go_wp2_with fail
  go_ret
  exact ⟨rfl, rfl⟩
end Go.Proofs.YtpphchbokphkdaaDoor
