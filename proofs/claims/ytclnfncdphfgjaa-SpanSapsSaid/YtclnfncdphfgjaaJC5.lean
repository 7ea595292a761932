/- Contracts: T8, RI, T3, R11, C10, C11, joined. -/
import Derived.Test.YtclnfncdphfgjaaJC4
import Derived.Deep.QuietTactic
import Derived.BigQuiet
import Derived.Test.YtclnfncdphfgjaaJC2
import Derived.Maps.AppendAt
import Derived.Laws.OwnMore
import Derived.Deep.AppendLies
import Derived.Laws.AppendOwnNone
namespace Go.Proofs.Ytclnfncdphfgjaa
open Go.RowKit Go.Lib Go.Shelf
set_option linter.unusedVariables false
set_option linter.unusedSimpArgs false
attribute [local go_sem ↓] Go.wp_at_zero Go.wp_at_succ

/-- the slice value v reads as the pairs xs; it lies below block B -/
def SetAt (B : Nat) (w : World) (v : Value) (xs : List (Int × Int)) : Prop :=
  ∃ A c, v = .slice A xs.length c ∧ (0 < xs.length → ∃ g off, A = some ⟨g, off, none⟩ ∧ g < B ∧ RRd w g off xs)
theorem SetAt.below {B B' : Nat} {w w' : World} {v : Value} {xs : List (Int × Int)} (h : SetAt B w v xs) (hb : Below B' w w') (hB : B ≤ B') : SetAt B w' v xs := by
  obtain ⟨A, c, rfl, h⟩ := h
  refine ⟨A, c, rfl, fun hn => ?_⟩
  obtain ⟨g, off, rfl, hg, hr⟩ := h hn
  exact ⟨g, off, rfl, hg, hr.below hb (by omega)⟩
theorem SetAt.mono {B B' : Nat} {w : World} {v : Value} {xs : List (Int × Int)} (h : SetAt B w v xs) (hB : B ≤ B') : SetAt B' w v xs := by
  obtain ⟨A, c, rfl, h⟩ := h
  refine ⟨A, c, rfl, fun hn => ?_⟩
  obtain ⟨g, off, rfl, hg, hr⟩ := h hn
  exact ⟨g, off, rfl, by omega, hr⟩

set_option maxHeartbeats 400000 in
theorem checkSet_empty (A : Option Addr) (c : Nat) (w : World) :
    Calls Try.prog 129 #[.slice A 0 c] w fun e w' => e = .returned (.int .i64 0) ∧ Below w.heap.size w w' := by
  go_enter Try.func129, Try.ntmps129
  go_wp2_with fail
  go_loopw [10] (fun i wr => i = .int .i64 0 ∧ Below w.heap.size w wr) (fun _ _ => 0)
  case atStart => exact ⟨rfl, Below.refl _ _⟩
  case round =>
    obtain ⟨rfl, hbr⟩ := hrel
    go_wp2_with fail
    go_ret
    exact ⟨rfl, hbr⟩

set_option maxHeartbeats 400000 in
theorem checkSet_big (A : Option Addr) (n c : Nat) (h : 200 < n) (w : World) :
    Calls Try.prog 129 #[.slice A n c] w fun e w' => e = .returned (.int .i64 5) ∧ Below w.heap.size w w' := by
  go_enter Try.func129, Try.ntmps129
  go_wp2_with fail
  go_ret
  exact ⟨rfl, Below.refl _ _⟩

theorem checkSet_any (v : Value) (xs : List (Int × Int)) (w : World) (hv : SetAt w.heap.size w v xs) :
    Calls Try.prog 129 #[v] w fun e w' => e = .returned (.int .i64 (setE xs)) ∧ Below w.heap.size w w' := by
  obtain ⟨A, c, rfl, h⟩ := hv
  rcases Nat.lt_or_ge 200 xs.length with h2 | h2
  · rw [show setE xs = 5 from by unfold setE; rw [if_pos h2]]
    exact checkSet_big A _ c h2 w
  · rcases Nat.eq_zero_or_pos xs.length with h0 | h0
    · obtain rfl := List.eq_nil_of_length_eq_zero h0
      exact checkSet_empty A c w
    · obtain ⟨g, off, rfl, hg, hr⟩ := h h0
      exact checkSet_at g off xs c w hg hr h2

set_option maxHeartbeats 400000 in
theorem search_empty (A : Option Addr) (c : Nat) (x : Int) (w : World) :
    Calls Try.prog 149 #[.slice A 0 c, .int .i64 x, .func (Fn.func 150) #[] #[]] w (BsPost w false) := by
  have HE := enters_has1
  go_enter Try.func149, Try.ntmps149
  go_wp2_with fail
  go_loopw [9, 10] (fun s t wr => s = .int .i64 0 ∧ t = .int .i64 0 ∧ Below w.heap.size w wr) (fun _ _ _ => 0)
  case atStart => exact ⟨rfl, rfl, Below.refl _ _⟩
  case round =>
    obtain ⟨rfl, rfl, hbr⟩ := hrel
    go_wp2_with fail
    go_ret2
    exact ⟨_, rfl, hbr⟩

set_option maxHeartbeats 400000 in
theorem has_set (v : Value) (xs : List (Int × Int)) (x : Int) (hs : IsSet xs) (hl : xs.length ≤ 1000) (w : World) (hv : SetAt w.heap.size w v xs) :
    Calls Try.prog 131 #[v, .int .i64 x] w fun e w' => e = .returned (.bool (memB xs x)) ∧ Below w.heap.size w w' := by
  obtain ⟨A, c, rfl, h⟩ := hv
  rcases Nat.eq_zero_or_pos xs.length with h0 | h0
  · obtain rfl := List.eq_nil_of_length_eq_zero h0
    have c1 := Lib.hid (search_empty A c x)
    go_enter Try.func131, Try.ntmps131
    go_wp2_with fail
    refine (c1.out _).mono ?_
    rintro e w1 ⟨i, rfl, hb⟩
    go_wp2_with fail
    go_ret
    exact ⟨rfl, hb⟩
  · obtain ⟨g, off, rfl, hg, hr⟩ := h h0
    exact has_any g off xs c x hs hl w hg hr

open Go.RowKit Go.Lib Go.Shelf
set_option linter.unusedVariables false
set_option linter.unusedSimpArgs false
attribute [local go_sem ↓] Go.wp_at_zero Go.wp_at_succ

set_option maxHeartbeats 400000 in
theorem rIn_any (n a b : Int) (w : World) :
    Calls Try.prog 62 #[.int .i64 n, .int .i64 a, .int .i64 b] w fun e w' => e = .returned (.bool (decide (a ≤ n) && decide (n ≤ b))) ∧ w = w' := by
  by_cases h1 : a ≤ n <;> by_cases h2 : n ≤ b
  all_goals
    go_enter Try.func62, Try.ntmps62
    go_wp2
    go_ret
    exact ⟨by simp [*], rfl⟩

theorem rrun_max2 {P : Program} (tys : Array TypeId) (ty : TypeId) (k : IntKind) (x y : Int) (w : World) : (Builtin.max_ tys ty #[.int k x, .int k y]).run P w = .ok (.int k (max x y)) w := by
  simp [Builtin.max_, Builtin.max2]
  split <;> omega
/-- a slice value that reads as ranges, and has room for them -/
def RowAt (B : Nat) (w : World) (v : Value) (xs : List (Int × Int)) : Prop :=
  ∃ A c, v = .slice A xs.length c ∧ xs.length ≤ c ∧ (0 < xs.length → ∃ g off, A = some ⟨g, off, none⟩ ∧ g < B ∧ RRd w g off xs)
theorem RowAt.set {B : Nat} {w : World} {v : Value} {xs : List (Int × Int)} (h : RowAt B w v xs) : SetAt B w v xs := by
  obtain ⟨A, c, rfl, _, h⟩ := h
  exact ⟨A, c, rfl, h⟩
theorem RowAt.below {B B' : Nat} {w w' : World} {v : Value} {xs : List (Int × Int)} (h : RowAt B w v xs) (hb : Below B' w w') (hB : B ≤ B') : RowAt B w' v xs := by
  obtain ⟨A, c, rfl, hc, h⟩ := h
  refine ⟨A, c, rfl, hc, fun hn => ?_⟩
  obtain ⟨g, off, rfl, hg, hr⟩ := h hn
  exact ⟨g, off, rfl, hg, hr.below hb (by omega)⟩
theorem RowAt.mono {B B' : Nat} {w : World} {v : Value} {xs : List (Int × Int)} (h : RowAt B w v xs) (hB : B ≤ B') : RowAt B' w v xs := by
  obtain ⟨A, c, rfl, hc, h⟩ := h
  refine ⟨A, c, rfl, hc, fun hn => ?_⟩
  obtain ⟨g, off, rfl, hg, hr⟩ := h hn
  exact ⟨g, off, rfl, by omega, hr⟩
theorem RRd.tail {w : World} {g off : Nat} {p : Int × Int} {xs : List (Int × Int)} (h : RRd w g off (p :: xs)) : RRd w g (off + 2) xs := fun k q hq => by
  have := h (k + 1) q (by simpa using hq)
  rw [show off + 2 + k * 2 = off + (k + 1) * 2 from by omega]
  exact this

open Go.RowKit Go.Lib Go.Shelf
set_option linter.unusedVariables false
set_option linter.unusedSimpArgs false
attribute [local go_sem ↓] Go.wp_at_zero Go.wp_at_succ

/-- the cells of some ranges, one after another -/
def flat (xs : List (Int × Int)) : List Value := xs.flatMap fun p => [.int .i64 p.1, .int .i64 p.2]
theorem flat_nil : flat [] = [] := rfl
theorem flat_append (xs ys : List (Int × Int)) : flat (xs ++ ys) = flat xs ++ flat ys := by simp [flat]
theorem flat_one (p : Int × Int) : flat [p] = [.int .i64 p.1, .int .i64 p.2] := rfl
theorem flat_length (xs : List (Int × Int)) : (flat xs).length = xs.length * 2 := by
  induction xs with
  | nil => rfl
  | cons p xs ih => rw [← List.singleton_append, flat_append, List.length_append, ih, flat_one]; simp; omega
theorem flat_last (ys : List (Int × Int)) (p : Int × Int) : (flat (ys ++ [p]))[ys.length * 2 + 1]? = some (.int .i64 p.2) := by
  rw [flat_append, flat_one, List.getElem?_append_right (by rw [flat_length]; omega), flat_length, show ys.length * 2 + 1 - ys.length * 2 = 1 from by omega]; rfl
theorem flat_set (ys : List (Int × Int)) (p : Int × Int) (h : Int) : (flat (ys ++ [p])).set (ys.length * 2 + 1) (.int .i64 h) = flat (ys ++ [(p.1, h)]) := by
  rw [flat_append, flat_append, flat_one, flat_one, List.set_append_right _ _ (by rw [flat_length]; omega), flat_length, show ys.length * 2 + 1 - ys.length * 2 = 1 from by omega]; rfl

theorem ownsRow_drewN {w : World} {base : Nat} {e : TypeId} {size : Nat} {v : Value} {n : Nat} {xs : List Value} (h : w.ownsRow base e size v n xs) (k : Nat) : (w.drewN k).ownsRow base e size v n xs := h
theorem grown_after {w W w' : World} {row : Option Nat} (hB : Below w.heap.size w W) (h : W.grownBy w' row) : w.grownBy w' row :=
  ⟨h.os.trans hB.os, h.tape.trans hB.tape, h.output.trans hB.output, Nat.le_trans hB.size h.size, fun i hi hne => (h.block i (Nat.lt_of_lt_of_le hi hB.size) hne).trans (hB.block i hi)⟩
theorem below_drewN_alloc {B : Nat} {a w : World} (h : Below B a w) (hB : B ≤ w.heap.size) (o p : Obj) (n : Nat) : Below B a (((w.alloc o).drewN n).alloc p) :=
  (below_drewN (h.alloc hB o) n).alloc (by rw [drewN_size]; simp; omega) p
theorem only_drewN' {a w : World} {row : Option Nat} (h : a.grownBy w row) (n : Nat) : a.grownBy (w.drewN n) row := ⟨h.os, h.tape, h.output, h.size, h.block⟩
theorem only_setCell' {a w : World} {g : Nat} (h : a.grownBy w (some g)) {p : Addr} (hp : p.block = g) (u : Value) : a.grownBy (w.setCell p u) (some g) :=
  ⟨h.os, h.tape, h.output, by simpa [World.setCell] using h.size, fun i hi hne => (Below.heap_setCell w p u i (by rintro rfl; exact hne (by rw [hp]))).trans (h.block i hi hne)⟩
theorem only_of_below' {a w : World} {row : Option Nat} (h : Below a.heap.size a w) : a.grownBy w row := ⟨h.os, h.tape, h.output, h.size, fun i hi _ => h.block i hi⟩

set_option maxRecDepth 20000 in
set_option maxHeartbeats 1000000 in
theorem extend_last (ys : List (Int × Int)) (p : Int × Int) (lo hi : Int) (g cap base : Nat) (hle : lo ≤ p.2 + 1) (hp1 : -1000000000000000000 ≤ p.2) (hp2 : p.2 ≤ 1000000000000000000) (hn : ys.length ≤ 1000000) (w : World) (hbase : base ≤ w.heap.size)
    (hown : w.ownsRow base 107 2 (.slice (some ⟨g, 0, none⟩) (ys.length + 1) cap) (ys.length + 1) (flat (ys ++ [p]))) :
    Calls Try.prog 100 #[.slice (some ⟨g, 0, none⟩) (ys.length + 1) cap, .agg #[.int .i64 lo, .int .i64 hi]] w fun e w' =>
      e = .returned (.slice (some ⟨g, 0, none⟩) (ys.length + 1) cap) ∧ w'.ownsRow base 107 2 (.slice (some ⟨g, 0, none⟩) (ys.length + 1) cap) (ys.length + 1) (flat (ys ++ [(p.1, hi)])) ∧ w.grownBy w' (some g) := by
  have hlt := (hown.lt g rfl).2
  have hcell := hown.cellAt (ys.length * 2 + 1) (by omega)
  rw [flat_last] at hcell
  have hfr := hown.frozenAt (ys.length * 2 + 1)
  have hset := Lib.hid (flat_set ys p hi)
  have HO := Lib.hid hown
  clear hown
  obtain ⟨m, hm⟩ : ∃ m, ys.length = m := ⟨_, rfl⟩
  rw [hm] at hcell hfr hset HO hn ⊢
  clear hm
  generalize flat (ys ++ [p]) = L at *
  generalize flat (ys ++ [(p.1, hi)]) = L' at *
  have hm0 : (0 : Int) ≤ (m : Int) := by omega
  have hm1 : (m : Int) < (m : Int) + 1 := by omega
  have hwr : IntKind.i64.wrap (m : Int) = (m : Int) := IntWalk.i64_in _ (by omega)
  have hwp : IntKind.i64.wrap (p.2 + 1) = p.2 + 1 := IntWalk.i64_in _ (by omega)
  have hgd : (0 : Int) < (m : Int) + 1 := by omega
  have hne : g ≠ w.heap.size := by omega
  go_enter Try.func100, Try.ntmps100
  go_wp2_with fail
  go_quiet (fail)
  go_wp2_with fail
  go_ret
  have h1 := (HO.out.alloc (.cells #[.int .i64 lo, .int .i64 hi] 107)).stored (m * 2 + 1) (.int .i64 hi)
  rw [hset.out] at h1
  refine ⟨rfl, h1.1, ?_⟩
  exact only_drewN' (only_setCell' (only_of_below' ((Below.refl _ _).alloc (Nat.le_refl _) _)) rfl _) _

/-- what is added when the new range stands by itself -/
theorem flat_snoc (xs : List (Int × Int)) (a : Int × Int) : flat xs ++ [.int .i64 a.1, .int .i64 a.2] = flat (xs ++ [a]) := by rw [flat_append, flat_one]

theorem infoRange : (Try.prog.info? 107).map (fun i => (i.zero, i.size, i.bytes)) = some (some (.agg #[.int .i64 0, .int .i64 0]), 2, 16) := by kernel_rfl

/-- what extend leaves when it appends -/
def ExtApp (w : World) (base : Nat) (v : Value) (n : Nat) (L : List Value) (e : Ending) (w' : World) : Prop :=
  ∃ v', e = .returned v' ∧ w'.ownsRow base 107 2 v' (n + 1) L ∧ w.grownBy w' v.ownBlock ∧ (v'.ownBlock = v.ownBlock ∨ ∃ g, v'.ownBlock = some g ∧ w.heap.size ≤ g)

set_option maxRecDepth 20000 in
set_option maxHeartbeats 1000000 in
theorem extend_nil (lo hi : Int) (v : Value) (base : Nat) (w : World) (hbase : base ≤ w.heap.size) (hown : w.ownsRow base 107 2 v 0 []) :
    Calls Try.prog 100 #[v, .agg #[.int .i64 lo, .int .i64 hi]] w (ExtApp w base v 0 [.int .i64 lo, .int .i64 hi]) := by
  obtain ⟨i0, hi0, hz0, hz1, hz2⟩ := info_parts infoRange
  have HO := Lib.hid hown
  obtain ⟨c, A, rfl⟩ : ∃ (c : Nat) (A : Option Addr), v = .slice A 0 c := by
    rcases hown.2 with ⟨rfl, _⟩ | ⟨g, cap, cur, rfl, _⟩
    · exact ⟨_, _, rfl⟩
    · exact ⟨_, _, rfl⟩
  clear hown
  go_enter Try.func100, Try.ntmps100
  go_wp2_with fail
  go_quiet (fail)
  go_wp2_with (at_builtin; refine wpList_append_own_at _ rfl (.tmp 30) (.tmp 32) 111 rfl base 107 i0 (.agg #[.int .i64 0, .int .i64 0]) 2 16 Try.underlying111 hi0 hz0 hz1 hz2 rfl (by decide) (.slice A 0 c) 0 [] rfl (ownsRow_drewN ((HO.out.alloc _).alloc _) _) ⟨w.heap.size + 1, 0, none⟩ 1 1 [.int .i64 lo, .int .i64 hi] rfl rfl ?_ ?_ ?_ ?_ ?_ ?_)
  case refine_1 =>
    intro j u hj
    rcases j with _ | _ | j
    · simp at hj; subst hj; exact (cell_at _ _ _ _ _ (by simp [drewN_size]))
    · simp at hj; subst hj; exact (cell_at _ _ _ _ _ (by simp [drewN_size]))
    · simp at hj
  case refine_2 => simp [Value.oneCell']
  case refine_3 => unfold maxLen; omega
  case refine_4 => omega
  case refine_5 => simp [drewN_size]; omega
  case refine_6 =>
    intro v' w1 hown' hgrow _ hat
    have hg := grown_after (w := w) (below_drewN_alloc (Below.refl _ _) (Nat.le_refl _) _ _ _) hgrow
    clear hgrow
    go_wp2_with fail
    go_ret
    refine ⟨v', rfl, by simpa using hown', hg, ?_⟩
    rcases hat with h | h
    · exact .inl h
    · exact .inr ⟨_, h, by omega⟩

set_option maxRecDepth 20000 in
set_option maxHeartbeats 1000000 in
theorem extend_more (ys : List (Int × Int)) (p : Int × Int) (lo hi : Int) (g cap base : Nat) (hgt : p.2 + 1 < lo) (hp1 : -1000000000000000000 ≤ p.2) (hp2 : p.2 ≤ 1000000000000000000) (hn : ys.length ≤ 1000000) (w : World) (hbase : base ≤ w.heap.size)
    (hown : w.ownsRow base 107 2 (.slice (some ⟨g, 0, none⟩) (ys.length + 1) cap) (ys.length + 1) (flat (ys ++ [p]))) :
    Calls Try.prog 100 #[.slice (some ⟨g, 0, none⟩) (ys.length + 1) cap, .agg #[.int .i64 lo, .int .i64 hi]] w (ExtApp w base (.slice (some ⟨g, 0, none⟩) (ys.length + 1) cap) (ys.length + 1) (flat (ys ++ [p]) ++ [.int .i64 lo, .int .i64 hi])) := by
  obtain ⟨i0, hi0, hz0, hz1, hz2⟩ := info_parts infoRange
  have hlt := (hown.lt g rfl).2
  have hcell := hown.cellAt (ys.length * 2 + 1) (by omega)
  rw [flat_last] at hcell
  have HO := Lib.hid hown
  clear hown
  obtain ⟨m, hm⟩ : ∃ m, ys.length = m := ⟨_, rfl⟩
  rw [hm] at hcell HO hn ⊢
  clear hm
  generalize flat (ys ++ [p]) = L at *
  have hm0 : (0 : Int) ≤ (m : Int) := by omega
  have hm1 : (m : Int) < (m : Int) + 1 := by omega
  have hwr : IntKind.i64.wrap (m : Int) = (m : Int) := IntWalk.i64_in _ (by omega)
  have hwp : IntKind.i64.wrap (p.2 + 1) = p.2 + 1 := IntWalk.i64_in _ (by omega)
  have hgd : (0 : Int) < (m : Int) + 1 := by omega
  have hne : g ≠ w.heap.size := by omega
  go_enter Try.func100, Try.ntmps100
  go_wp2_with fail
  go_quiet (fail)
  go_wp2_with (at_builtin; refine wpList_append_own_at _ rfl (.tmp 30) (.tmp 32) 111 rfl base 107 i0 (.agg #[.int .i64 0, .int .i64 0]) 2 16 Try.underlying111 hi0 hz0 hz1 hz2 rfl (by decide) (.slice (some ⟨g, 0, none⟩) (m + 1) cap) (m + 1) L rfl (ownsRow_drewN ((HO.out.alloc _).alloc _) _) ⟨w.heap.size + 1, 0, none⟩ 1 1 [.int .i64 lo, .int .i64 hi] rfl rfl ?_ ?_ ?_ ?_ ?_ ?_)
  case refine_1 =>
    intro j u hj
    rcases j with _ | _ | j
    · simp at hj; subst hj; exact (cell_at _ _ _ _ _ (by simp [drewN_size]))
    · simp at hj; subst hj; exact (cell_at _ _ _ _ _ (by simp [drewN_size]))
    · simp at hj
  case refine_2 => simp [Value.oneCell']
  case refine_3 => unfold maxLen; omega
  case refine_4 => omega
  case refine_5 => simp [drewN_size]; omega
  case refine_6 =>
    intro v' w1 hown' hgrow _ hat
    have hg := grown_after (w := w) (below_drewN_alloc (Below.refl _ _) (Nat.le_refl _) _ _ _) hgrow
    clear hgrow
    go_wp2_with fail
    go_ret
    refine ⟨v', rfl, by simpa using hown', hg, ?_⟩
    rcases hat with h | h
    · exact .inl h
    · exact .inr ⟨_, h, by omega⟩

open Go.RowKit Go.Lib Go.Shelf
set_option linter.unusedVariables false
set_option linter.unusedSimpArgs false
attribute [local go_sem ↓] Go.wp_at_zero Go.wp_at_succ

theorem rrd_flat {w : World} {g : Nat} : ∀ (xs : List (Int × Int)) (off : Nat), RRd w g off xs → ∀ j u, (flat xs)[j]? = some u → w.cell? ⟨g, off + j, none⟩ = some u := by
  intro xs
  induction xs with
  | nil => intro off _ j u h; simp [flat] at h
  | cons p xs ih =>
    intro off hr j u h
    have e : flat (p :: xs) = .int .i64 p.1 :: .int .i64 p.2 :: flat xs := rfl
    rw [e] at h
    obtain ⟨h0, h1⟩ := hr 0 p rfl
    rcases j with _ | _ | j
    · simp at h; subst h; simpa using h0
    · simp at h; subst h; simpa using h1
    · have := ih (off + 2) hr.tail j u (by simpa using h)
      rw [show off + (j + 1 + 1) = off + 2 + j from by omega]
      exact this
theorem flat_rrd {w : World} {g : Nat} : ∀ (xs : List (Int × Int)) (off : Nat), (∀ j u, (flat xs)[j]? = some u → w.cell? ⟨g, off + j, none⟩ = some u) → RRd w g off xs := by
  intro xs off h k p hp
  have key : ∀ (ys : List (Int × Int)) (k : Nat) (p : Int × Int), ys[k]? = some p → (flat ys)[2 * k]? = some (.int .i64 p.1) ∧ (flat ys)[2 * k + 1]? = some (.int .i64 p.2) := by
    intro ys
    induction ys with
    | nil => intro k p h; simp at h
    | cons q ys ih =>
      intro k p h
      have e : flat (q :: ys) = .int .i64 q.1 :: .int .i64 q.2 :: flat ys := rfl
      rw [e]
      rcases k with _ | k
      · simp at h; subst h; exact ⟨rfl, rfl⟩
      · obtain ⟨h1, h2⟩ := ih k p (by simpa using h)
        rw [show 2 * (k + 1) = 2 * k + 1 + 1 from by omega]
        exact ⟨by simpa using h1, by simpa using h2⟩
  obtain ⟨h1, h2⟩ := key xs k p hp
  have a := h _ _ h1
  have b := h _ _ h2
  first
    | exact ⟨a, b⟩
    | (constructor
       · simpa [Nat.mul_comm] using a
       · simpa [Nat.mul_comm, Nat.add_assoc] using b)

theorem own_row (xs : List (Int × Int)) (n : Nat) (hn : xs.length = n) (v : Value) (w : World) {base : Nat} (h : w.ownsRow base 107 2 v n (flat xs)) : RowAt w.heap.size w v xs := by
  subst hn
  have hc := h
  obtain ⟨_, ⟨rfl, h0⟩ | ⟨g, cap, cur, rfl, _, hh, hnc, _, _, _⟩⟩ := h
  · have : xs = [] := List.eq_nil_of_length_eq_zero h0
    subst this
    exact ⟨none, 0, rfl, Nat.le_refl _, fun h => by simp at h⟩
  · refine ⟨_, cap, rfl, hnc, fun _ => ⟨g, 0, rfl, ?_, flat_rrd xs 0 fun j u hj => ?_⟩⟩
    · rcases Nat.lt_or_ge g w.heap.size with h | h
      · exact h
      · rw [Array.getElem?_eq_none h] at hh; cases hh
    · have := hc.cells (g := g) rfl j u hj
      simpa [Addr.add_lit] using this
/-- a list argument: nil, or a row below the world's end -/
def ArgAt (w : World) (v : Value) (xs : List (Int × Int)) : Prop :=
  ((∃ A c, v = .slice A 0 c) ∧ xs = []) ∨ ∃ g off c, v = .slice (some ⟨g, off, none⟩) xs.length c ∧ xs.length ≤ c ∧ g < w.heap.size ∧ RRd w g off xs
theorem ArgAt.row {w : World} {v : Value} {xs : List (Int × Int)} (h : ArgAt w v xs) : RowAt w.heap.size w v xs := by
  rcases h with ⟨⟨A, c, rfl⟩, rfl⟩ | ⟨g, off, c, rfl, hc, hg, hr⟩
  · exact ⟨A, c, rfl, Nat.zero_le _, fun h => by simp at h⟩
  · exact ⟨_, c, rfl, hc, fun _ => ⟨g, off, rfl, hg, hr⟩⟩

open Go.RowKit Go.Lib Go.Shelf
set_option linter.unusedVariables false
set_option linter.unusedSimpArgs false
attribute [local go_sem ↓] Go.wp_at_zero Go.wp_at_succ

/-- since w nothing below has turned, and block b is there -/
def Kq (b : Nat) (w w' : World) : Prop := Below w.heap.size w w' ∧ b < w'.heap.size
theorem keepq {w W W' : World} {b : Nat} {x y : Option Value} (hb : Below W.heap.size W W') (h : W.cell? ⟨b, 0, none⟩ = x ∧ W.cell? ⟨b, 1, none⟩ = y ∧ Kq b w W) :
    W'.cell? ⟨b, 0, none⟩ = x ∧ W'.cell? ⟨b, 1, none⟩ = y ∧ Kq b w W' := by
  obtain ⟨h1, h2, h3, h4⟩ := h
  exact ⟨cell_next hb h4 h1, cell_next hb h4 h2, h3.trans (hb.mono h3.size), Nat.lt_of_lt_of_le h4 hb.size⟩

theorem cbE_ok {a s brix : Int} (h : cbE a s brix = 0) : spB a s = true ∧ 1 ≤ brix ∧ brix ≤ 10000 ∧ s ≠ 0 := by
  unfold cbE at h
  split at h
  · rename_i hs
    split at h
    · omega
    · split at h
      · omega
      · exact ⟨hs, by omega, by omega, by assumption⟩
  · omega

def boilW (a s brix : Int) : Int := if cbE a s brix = 0 then max 0 (a + s - s * 10000 / brix) else 0
def boilE (a s brix : Int) : Int := cbE a s brix

set_option maxRecDepth 20000 in
set_option maxHeartbeats 400000 in
theorem boil_any (a s brix : Int) (w : World) :
    Calls Try.prog 54 #[.agg #[.int .i64 a, .int .i64 s], .int .i64 brix] w fun e w' => e = .returned (.tuple #[.int .i64 (boilW a s brix), .int .i64 (boilE a s brix)]) ∧ Below w.heap.size w w' := by
  have c1 := Lib.hid (checkBrix_any a s brix)
  have eW : Hid (boilW a s brix = if cbE a s brix = 0 then max 0 (a + s - s * 10000 / brix) else 0) := Lib.hid rfl
  have eE : Hid (boilE a s brix = cbE a s brix) := Lib.hid rfl
  generalize boilW a s brix = rw_ at *
  generalize boilE a s brix = re at *
  have c2 : Hid (cbE a s brix = 0 → ∀ w, Calls Try.prog 60 #[.agg #[.int .i64 a, .int .i64 s]] w fun e w' => e = .returned (.int .i64 (a + s)) ∧ Below w.heap.size w w') := fun h w => sapMass_any a s (cbE_ok h).1 w
  have c3 : Hid (cbE a s brix = 0 → ∀ w, Calls Try.prog 97 #[.agg #[.int .i64 a, .int .i64 s], .int .i64 brix] w fun e w' => e = .returned (.int .i64 (s * 10000 / brix)) ∧ Below w.heap.size w w') := fun h w => by
    obtain ⟨h1, h2, h3, h4⟩ := cbE_ok h
    have := spB_of h1
    exact massAt_any a s brix (by omega) (by omega) h2 h3 w
  have hbd : cbE a s brix = 0 → 0 ≤ a + s ∧ a + s ≤ 2000000000000 ∧ 0 ≤ s * 10000 / brix ∧ s * 10000 / brix ≤ 10000000000000000 := fun h => by
    obtain ⟨h1, h2, h3, h4⟩ := cbE_ok h
    have := spB_of h1
    obtain ⟨_, _, p, q⟩ := massAt_q s brix (by omega) (by omega) h2 h3
    exact ⟨by omega, by omega, p, q⟩
  generalize cbE a s brix = r at *
  generalize s * 10000 / brix = q at *
  generalize a + s = m at *
  by_cases hr : r = 0
  · subst hr
    obtain ⟨m1, m2, q1, q2⟩ := hbd rfl
    have d2 := Lib.hid (c2.out rfl)
    have d3 := Lib.hid (c3.out rfl)
    clear hbd c2 c3
    go_enter Try.func54, Try.ntmps54
    go_wp2_with fail
    refine (c1.out _).mono ?_
    rintro e w1 ⟨rfl, hb1⟩
    have hS : w1.cell? ⟨w.heap.size + 1, 0, none⟩ = some (.int .i64 a) ∧ w1.cell? ⟨w.heap.size + 1, 1, none⟩ = some (.int .i64 s) ∧ Kq (w.heap.size + 1) w w1 :=
      ⟨cell_next hb1 (by simp) (by simp [go_sem]), cell_next hb1 (by simp) (by simp [go_sem]), below2 hb1, by have := hb1.size; simp at this; omega⟩
    clear hb1
    obtain ⟨s0, s1, k⟩ := hS
    go_wp2_with fail
    have hwr : IntKind.i64.wrap (m - q) = m - q := IntWalk.i64_in _ (by omega)
    have hS := And.intro s0 (And.intro s1 k)
    clear s0 s1 k
    go_region_held3 (fun w' => w'.cell? ⟨w.heap.size + 1, 0, none⟩ = some (.int .i64 a) ∧ w'.cell? ⟨w.heap.size + 1, 1, none⟩ = some (.int .i64 s) ∧ Kq (w.heap.size + 1) w w')
      (first | exact keepq (Below.drew (Below.refl _ _)) (by assumption) | exact keepq hb6 (by assumption) | exact keepq hb5 (by assumption) | assumption)
      (first
        | (go_at_call 60; (with_reducible refine (d2.out _).mono ?_); rintro e w5 ⟨rfl, hb5⟩)
        | (go_at_call 97; (with_reducible refine (d3.out _).mono ?_); rintro e w6 ⟨rfl, hb6⟩))
    all_goals
      have hk := (‹_ ∧ _ ∧ Kq _ _ _›).2.2.1
      clear hwr
      go_wp2_with fail
      all_goals
        go_ret2
        refine ⟨ret_ints2 ?_ eE.out.symm, hk⟩
        have e := eW.out
        simp only [if_true] at e
        omega
  · have hrb : (r != 0) = true := by simp [hr]
    rw [if_neg hr] at eW
    have hr' := Lib.hid hr
    clear hr c2 c3 hbd
    go_enter Try.func54, Try.ntmps54
    go_wp2_with fail
    refine (c1.out _).mono ?_
    rintro e w1 ⟨rfl, hb1⟩
    have hB := below2 hb1
    clear hb1
    go_wp2_with fail
    go_ret2
    exact ⟨ret_ints2 eW.out.symm eE.out.symm, hB⟩

/-- what Thin returns -/
def thinM (a s brix : Int) : Int := s * 10000 / brix - (a + s)
def thinE (a s brix : Int) : Int := if cbE a s brix = 0 then (if thinM a s brix < 0 then 7 else if 1000000000000 < a + thinM a s brix then 10 else 0) else cbE a s brix
def thinW (a s brix : Int) : Int := if thinE a s brix = 0 then thinM a s brix else 0

open Go.RowKit Go.Lib Go.Shelf
set_option linter.unusedVariables false
set_option linter.unusedSimpArgs false
attribute [local go_sem ↓] Go.wp_at_zero Go.wp_at_succ

theorem only_setCell {a w : World} {g : Nat} (h : a.grownBy w (some g)) {p : Addr} (hp : p.block = g ∨ a.heap.size ≤ p.block) (u : Value) : a.grownBy (w.setCell p u) (some g) :=
  ⟨h.os, h.tape, h.output, by simpa [World.setCell] using h.size, fun i hi hne => (Below.heap_setCell w p u i (by
    rintro rfl
    rcases hp with hp | hp
    · exact hne (by rw [hp])
    · omega)).trans (h.block i hi hne)⟩
theorem only_of_below {a w : World} (h : Below a.heap.size a w) (row : Option Nat) : a.grownBy w row := ⟨h.os, h.tape, h.output, h.size, fun i hi _ => h.block i hi⟩

set_option maxRecDepth 20000 in
set_option maxHeartbeats 400000 in
theorem bdraw_zero (g : Nat) (w : World) (hg : g < w.heap.size) :
    Calls Try.prog 61 #[.pointer (some ⟨g, 0, none⟩), .int .i64 0] w fun e w' => e = .returned (.agg #[.int .i64 0, .int .i64 0]) ∧ Below w.heap.size w w' := by
  go_enter Try.func61, Try.ntmps61
  go_wp2
  refine bodyPost_ret (v := .agg #[.int .i64 0, .int .i64 0]) (by simp [results, Try.results61, go_sem]) rfl ⟨rfl, ?_⟩
  exact (Below.refl _ _).alloc (Nat.le_refl _) _

set_option maxRecDepth 20000 in
set_option maxHeartbeats 1000000 in
theorem bdraw_any (a s mass q : Int) (g : Nat) (hv : spB a s = true) (m1 : 0 < mass) (m2 : mass ≤ a + s) (hd : Divides s mass (a + s)) (hq : qLo s mass (a + s) = q) (q1 : 0 ≤ q) (q2 : q ≤ 1000000000000) (w : World) (hg : g < w.heap.size)
    (h0 : w.cell? ⟨g, 0, none⟩ = some (.int .i64 a)) (h1 : w.cell? ⟨g, 1, none⟩ = some (.int .i64 s)) (f0 : w.frozen? ⟨g, 0, none⟩ = false) (f1 : w.frozen? ⟨g, 1, none⟩ = false) :
    Calls Try.prog 61 #[.pointer (some ⟨g, 0, none⟩), .int .i64 mass] w fun e w' =>
      e = .returned (.agg #[.int .i64 (mass - q), .int .i64 q]) ∧ w.grownBy w' (some g) ∧ w'.cell? ⟨g, 0, none⟩ = some (.int .i64 (a - (mass - q))) ∧ w'.cell? ⟨g, 1, none⟩ = some (.int .i64 (s - q)) := by
  obtain ⟨p1, p2, p3, p4⟩ := spB_of hv
  have c1 := Lib.hid (sapMass_any a s hv)
  have c2 := Lib.hid (around_of s mass (a + s) hd)
  rw [hq] at c2
  clear hv hd hq
  generalize qHi s mass (a + s) = u at *
  have mb : (mass == 0) = false := by simp; omega
  have hf := field_lo
  obtain ⟨t, ht⟩ : ∃ t, a + s = t := ⟨_, rfl⟩
  rw [ht] at c1 c2
  have tb : t ≤ 2000000000000 := by omega
  have m2' : mass ≤ t := by omega
  clear ht m2
  have hS : w.cell? ⟨g, 0, none⟩ = some (.int .i64 a) ∧ w.cell? ⟨g, 1, none⟩ = some (.int .i64 s) ∧ Kq g w w := ⟨h0, h1, Below.refl _ _, hg⟩
  go_enter Try.func61, Try.ntmps61
  go_wp2_with fail
  obtain ⟨s0, s1, _⟩ := keepq ((Below.refl _ _).alloc (Nat.le_refl _) (.cells #[.int .i64 0, .int .i64 0] 28)) hS
  have hS' := And.intro s0 (And.intro s1 (show Kq g (w.alloc (.cells #[.int .i64 0, .int .i64 0] 28)) (w.alloc (.cells #[.int .i64 0, .int .i64 0] 28)) from ⟨Below.refl _ _, by simp; omega⟩))
  clear hS s0 s1
  go_region_held3 (fun w' => w'.cell? ⟨g, 0, none⟩ = some (.int .i64 a) ∧ w'.cell? ⟨g, 1, none⟩ = some (.int .i64 s) ∧ Kq g (w.alloc (.cells #[.int .i64 0, .int .i64 0] 28)) w')
      (first | exact keepq (Below.drew (Below.refl _ _)) (by assumption) | exact keepq ((Below.refl _ _).alloc (Nat.le_refl _) _) (by assumption) | exact keepq hb5 (by assumption) | exact keepq hb6 (by assumption) | exact keepq hb7 (by assumption) | assumption)
      (first
        | (go_at_call 60; (with_reducible refine (c1.out _).mono ?_); rintro e w5 ⟨rfl, hb5⟩)
        | (go_at_call 65; refine (quotientOf3 s mass t _ _ ?_ ?_ ?_ ?_).mono ?_; (focus (simp [drew_size, drewN_size])); (focus (simp [drew_cell, cell_new])); (focus (simp [drew_cell, cell_new])); (focus (simp [drew_cell, cell_new])); rintro e w6 ⟨rfl, hb6⟩)
        | (go_at_call 66; (with_reducible refine (c2.out _).mono ?_); rintro e w7 ⟨rfl, hb7⟩))
  all_goals
    obtain ⟨s0, s1, k, kz⟩ := ‹_ ∧ _ ∧ Kq _ _ _›
    have k0 := cell_next k (b := w.heap.size) (o := 0) (by simp) (v := some (.int .i64 0)) (by simp)
    have k1 := cell_next k (b := w.heap.size) (o := 1) (by simp) (v := some (.int .i64 0)) (by simp)
    have k2 := frozen_next k (b := w.heap.size) (o := 0) (by simp) (v := false) (by simp)
    have k3 := frozen_next k (b := w.heap.size) (o := 1) (by simp) (v := false) (by simp)
    have kB := below1 k
    replace f0 := frozen_next kB hg f0
    replace f1 := frozen_next kB hg f1
    have hne : g ≠ w.heap.size := by omega
    have hne' : w.heap.size ≠ g := by omega
    clear k h0 h1
    go_wp2_with fail
    refine bodyPost_ret (v := .agg #[.int .i64 (mass - q), .int .i64 q]) (by simp [results, Try.results61, go_sem, k0, k1, hne, hne']) rfl ⟨rfl, ?_, ?_, ?_⟩
    · exact only_setCell (p := ⟨w.heap.size, 1, none⟩) (only_setCell (p := ⟨w.heap.size, 0, none⟩) (only_setCell (p := ⟨g, 0, none⟩) (only_setCell (p := ⟨g, 1, none⟩) (only_of_below kB _) (.inl rfl) _) (.inl rfl) _) (.inr (Nat.le_refl _)) _) (.inr (Nat.le_refl _)) _
    · simp [go_sem, hne, hne', s0, s1, k0, k1]
    · simp [go_sem, hne, hne', s0, s1, k0, k1]
end Go.Proofs.Ytclnfncdphfgjaa
