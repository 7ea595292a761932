/- Contracts: a range is added to a set that the call made itself. -/
import Derived.Test.YtgklpbgdimkhaaaGreatKA2
import Derived.Maps.AppendAt
import Derived.Laws.OwnMore
import Derived.Deep.AppendLies
namespace Go.Proofs.YtgklpbgdimkhaaaGreat
open Go.RowKit Go.Lib Go.Shelf
set_option linter.unusedVariables false
set_option linter.unusedSimpArgs false
attribute [local go_sem ↓] Go.wp_at_zero Go.wp_at_succ

/-- the cells of some ranges, one after another -/
def flat (xs : List (Int × Int)) : List Value := xs.flatMap fun p => [.int .i64 p.1, .int .i64 p.2]
theorem flat_append (xs ys : List (Int × Int)) : flat (xs ++ ys) = flat xs ++ flat ys := by simp [flat]
theorem flat_one (p : Int × Int) : flat [p] = [.int .i64 p.1, .int .i64 p.2] := rfl
theorem flat_length (xs : List (Int × Int)) : (flat xs).length = xs.length * 2 := by
  induction xs with
  | nil => rfl
  | cons p xs ih => rw [← List.singleton_append, flat_append, List.length_append, ih, flat_one]; simp; omega
theorem flat_last (ys : List (Int × Int)) (p : Int × Int) : (flat (ys ++ [p]))[ys.length * 2 + 1]? = some (.int .i64 p.2) := by
  rw [flat_append, flat_one, List.getElem?_append_right (by rw [flat_length]; omega), flat_length, show ys.length * 2 + 1 - ys.length * 2 = 1 from by omega]; rfl
theorem flat_set (ys : List (Int × Int)) (p : Int × Int) (h : Int) : (flat (ys ++ [p])).set (ys.length * 2 + 1) (.int .i64 h) = flat (ys ++ [(p.1, h)]) := by
  rw [flat_append, flat_append, flat_one, flat_one, List.set_append_right _ _ (by rw [flat_length]; omega), flat_length, show ys.length * 2 + 1 - ys.length * 2 = 1 from by omega]; rfl

theorem ownsRow_drewN {w : World} {base : Nat} {e : TypeId} {size : Nat} {v : Value} {n : Nat} {xs : List Value} (h : w.ownsRow base e size v n xs) (k : Nat) : (w.drewN k).ownsRow base e size v n xs := h
theorem grown_after {w W w' : World} {row : Option Nat} (hB : Below w.heap.size w W) (h : W.grownBy w' row) : w.grownBy w' row :=
  ⟨h.os.trans hB.os, h.tape.trans hB.tape, h.output.trans hB.output, Nat.le_trans hB.size h.size, fun i hi hne => (h.block i (Nat.lt_of_lt_of_le hi hB.size) hne).trans (hB.block i hi)⟩
theorem below_drewN_alloc {B : Nat} {a w : World} (h : Below B a w) (hB : B ≤ w.heap.size) (o p : Obj) (n : Nat) : Below B a (((w.alloc o).drewN n).alloc p) :=
  (below_drewN (h.alloc hB o) n).alloc (by rw [drewN_size]; simp; omega) p
theorem only_drewN' {a w : World} {row : Option Nat} (h : a.grownBy w row) (n : Nat) : a.grownBy (w.drewN n) row := ⟨h.os, h.tape, h.output, h.size, h.block⟩
theorem only_setCell' {a w : World} {g : Nat} (h : a.grownBy w (some g)) {p : Addr} (hp : p.block = g) (u : Value) : a.grownBy (w.setCell p u) (some g) :=
  ⟨h.os, h.tape, h.output, by simpa [World.setCell] using h.size, fun i hi hne => (Below.heap_setCell w p u i (by rintro rfl; exact hne (by rw [hp]))).trans (h.block i hi hne)⟩
theorem only_of_below' {a w : World} {row : Option Nat} (h : Below a.heap.size a w) : a.grownBy w row := ⟨h.os, h.tape, h.output, h.size, fun i hi _ => h.block i hi⟩

set_option maxRecDepth 20000 in
set_option maxHeartbeats 1000000 in
theorem extend_last (ys : List (Int × Int)) (p : Int × Int) (lo hi : Int) (g cap base : Nat) (hle : lo ≤ p.2 + 1) (hp1 : -1000000000000000000 ≤ p.2) (hp2 : p.2 ≤ 1000000000000000000) (hn : ys.length ≤ 1000000) (w : World) (hbase : base ≤ w.heap.size)
    (hown : w.ownsRow base 24 2 (.slice (some ⟨g, 0, none⟩) (ys.length + 1) cap) (ys.length + 1) (flat (ys ++ [p]))) :
    Calls Tryz.prog 136 #[.slice (some ⟨g, 0, none⟩) (ys.length + 1) cap, .agg #[.int .i64 lo, .int .i64 hi]] w fun e w' =>
      e = .returned (.slice (some ⟨g, 0, none⟩) (ys.length + 1) cap) ∧ w'.ownsRow base 24 2 (.slice (some ⟨g, 0, none⟩) (ys.length + 1) cap) (ys.length + 1) (flat (ys ++ [(p.1, hi)])) ∧ w.grownBy w' (some g) := by
  have hlt := (hown.lt g rfl).2
  have hcell := hown.cellAt (ys.length * 2 + 1) (by omega)
  rw [flat_last] at hcell
  have hfr := hown.frozenAt (ys.length * 2 + 1)
  have hset := Lib.hid (flat_set ys p hi)
  have HO := Lib.hid hown
  clear hown
  obtain ⟨m, hm⟩ : ∃ m, ys.length = m := ⟨_, rfl⟩
  rw [hm] at hcell hfr hset HO hn ⊢
  clear hm
  generalize flat (ys ++ [p]) = L at *
  generalize flat (ys ++ [(p.1, hi)]) = L' at *
  have hm0 : (0 : Int) ≤ (m : Int) := by omega
  have hm1 : (m : Int) < (m : Int) + 1 := by omega
  have hwr : IntKind.i64.wrap (m : Int) = (m : Int) := IntWalk.i64_in _ (by omega)
  have hwp : IntKind.i64.wrap (p.2 + 1) = p.2 + 1 := IntWalk.i64_in _ (by omega)
  have hgd : (0 : Int) < (m : Int) + 1 := by omega
  have hne : g ≠ w.heap.size := by omega
  go_enter Tryz.func136, Tryz.ntmps136
  go_wp2_with fail
  go_quiet (fail)
  go_wp2_with fail
  go_ret
  have h1 := (HO.out.alloc (.cells #[.int .i64 lo, .int .i64 hi] 24)).stored (m * 2 + 1) (.int .i64 hi)
  rw [hset.out] at h1
  refine ⟨rfl, h1.1, ?_⟩
  exact only_drewN' (only_setCell' (only_of_below' ((Below.refl _ _).alloc (Nat.le_refl _) _)) rfl _) _

theorem infoRange : (Tryz.prog.info? 24).map (fun i => (i.zero, i.size, i.bytes)) = some (some (.agg #[.int .i64 0, .int .i64 0]), 2, 16) := by kernel_rfl

/-- what extend leaves when it appends -/
def ExtApp (w : World) (base : Nat) (v : Value) (n : Nat) (L : List Value) (e : Ending) (w' : World) : Prop :=
  ∃ v', e = .returned v' ∧ w'.ownsRow base 24 2 v' (n + 1) L ∧ w.grownBy w' v.ownBlock ∧ (v'.ownBlock = v.ownBlock ∨ ∃ g, v'.ownBlock = some g ∧ w.heap.size ≤ g)

set_option maxRecDepth 20000 in
set_option maxHeartbeats 1000000 in
theorem extend_nil (lo hi : Int) (v : Value) (base : Nat) (w : World) (hbase : base ≤ w.heap.size) (hown : w.ownsRow base 24 2 v 0 []) :
    Calls Tryz.prog 136 #[v, .agg #[.int .i64 lo, .int .i64 hi]] w (ExtApp w base v 0 [.int .i64 lo, .int .i64 hi]) := by
  obtain ⟨i0, hi0, hz0, hz1, hz2⟩ := info_parts infoRange
  have HO := Lib.hid hown
  obtain ⟨c, A, rfl⟩ : ∃ (c : Nat) (A : Option Addr), v = .slice A 0 c := by
    rcases hown.2 with ⟨rfl, _⟩ | ⟨g, cap, cur, rfl, _⟩
    · exact ⟨_, _, rfl⟩
    · exact ⟨_, _, rfl⟩
  clear hown
  go_enter Tryz.func136, Tryz.ntmps136
  go_wp2_with fail
  go_quiet (fail)
  go_wp2_with (at_builtin; refine wpList_append_own_at _ rfl (.tmp 30) (.tmp 32) 141 rfl base 24 i0 (.agg #[.int .i64 0, .int .i64 0]) 2 16 Tryz.underlying141 hi0 hz0 hz1 hz2 rfl (by decide) (.slice A 0 c) 0 [] rfl (ownsRow_drewN ((HO.out.alloc _).alloc _) _) ⟨w.heap.size + 1, 0, none⟩ 1 1 [.int .i64 lo, .int .i64 hi] rfl rfl ?_ ?_ ?_ ?_ ?_ ?_)
  case refine_1 =>
    intro j u hj
    rcases j with _ | _ | j
    · simp at hj; subst hj; exact (cell_at _ _ _ _ _ (by simp [drewN_size]))
    · simp at hj; subst hj; exact (cell_at _ _ _ _ _ (by simp [drewN_size]))
    · simp at hj
  case refine_2 => simp [Value.oneCell']
  case refine_3 => unfold maxLen; omega
  case refine_4 => omega
  case refine_5 => simp [drewN_size]; omega
  case refine_6 =>
    intro v' w1 hown' hgrow _ hat
    have hg := grown_after (w := w) (below_drewN_alloc (Below.refl _ _) (Nat.le_refl _) _ _ _) hgrow
    clear hgrow
    go_wp2_with fail
    go_ret
    refine ⟨v', rfl, by simpa using hown', hg, ?_⟩
    rcases hat with h | h
    · exact .inl h
    · exact .inr ⟨_, h, by omega⟩

set_option maxRecDepth 20000 in
set_option maxHeartbeats 1000000 in
theorem extend_more (ys : List (Int × Int)) (p : Int × Int) (lo hi : Int) (g cap base : Nat) (hgt : p.2 + 1 < lo) (hp1 : -1000000000000000000 ≤ p.2) (hp2 : p.2 ≤ 1000000000000000000) (hn : ys.length ≤ 1000000) (w : World) (hbase : base ≤ w.heap.size)
    (hown : w.ownsRow base 24 2 (.slice (some ⟨g, 0, none⟩) (ys.length + 1) cap) (ys.length + 1) (flat (ys ++ [p]))) :
    Calls Tryz.prog 136 #[.slice (some ⟨g, 0, none⟩) (ys.length + 1) cap, .agg #[.int .i64 lo, .int .i64 hi]] w (ExtApp w base (.slice (some ⟨g, 0, none⟩) (ys.length + 1) cap) (ys.length + 1) (flat (ys ++ [p]) ++ [.int .i64 lo, .int .i64 hi])) := by
  obtain ⟨i0, hi0, hz0, hz1, hz2⟩ := info_parts infoRange
  have hlt := (hown.lt g rfl).2
  have hcell := hown.cellAt (ys.length * 2 + 1) (by omega)
  rw [flat_last] at hcell
  have HO := Lib.hid hown
  clear hown
  obtain ⟨m, hm⟩ : ∃ m, ys.length = m := ⟨_, rfl⟩
  rw [hm] at hcell HO hn ⊢
  clear hm
  generalize flat (ys ++ [p]) = L at *
  have hm0 : (0 : Int) ≤ (m : Int) := by omega
  have hm1 : (m : Int) < (m : Int) + 1 := by omega
  have hwr : IntKind.i64.wrap (m : Int) = (m : Int) := IntWalk.i64_in _ (by omega)
  have hwp : IntKind.i64.wrap (p.2 + 1) = p.2 + 1 := IntWalk.i64_in _ (by omega)
  have hgd : (0 : Int) < (m : Int) + 1 := by omega
  have hne : g ≠ w.heap.size := by omega
  go_enter Tryz.func136, Tryz.ntmps136
  go_wp2_with fail
  go_quiet (fail)
  go_wp2_with (at_builtin; refine wpList_append_own_at _ rfl (.tmp 30) (.tmp 32) 141 rfl base 24 i0 (.agg #[.int .i64 0, .int .i64 0]) 2 16 Tryz.underlying141 hi0 hz0 hz1 hz2 rfl (by decide) (.slice (some ⟨g, 0, none⟩) (m + 1) cap) (m + 1) L rfl (ownsRow_drewN ((HO.out.alloc _).alloc _) _) ⟨w.heap.size + 1, 0, none⟩ 1 1 [.int .i64 lo, .int .i64 hi] rfl rfl ?_ ?_ ?_ ?_ ?_ ?_)
  case refine_1 =>
    intro j u hj
    rcases j with _ | _ | j
    · simp at hj; subst hj; exact (cell_at _ _ _ _ _ (by simp [drewN_size]))
    · simp at hj; subst hj; exact (cell_at _ _ _ _ _ (by simp [drewN_size]))
    · simp at hj
  case refine_2 => simp [Value.oneCell']
  case refine_3 => unfold maxLen; omega
  case refine_4 => omega
  case refine_5 => simp [drewN_size]; omega
  case refine_6 =>
    intro v' w1 hown' hgrow _ hat
    have hg := grown_after (w := w) (below_drewN_alloc (Below.refl _ _) (Nat.le_refl _) _ _ _) hgrow
    clear hgrow
    go_wp2_with fail
    go_ret
    refine ⟨v', rfl, by simpa using hown', hg, ?_⟩
    rcases hat with h | h
    · exact .inl h
    · exact .inr ⟨_, h, by omega⟩
end Go.Proofs.YtgklpbgdimkhaaaGreat

