/- Contracts: T3, R11, C24, C10, C11, C12, C25, joined. -/
import Derived.Test.YtfdaiififoomoaaJB2
import Derived.Maps.AppendAt
import Derived.Laws.OwnMore
import Derived.Deep.AppendLies
import Derived.Test.YtfdaiififoomoaaJB3
import Derived.Laws.AppendOwnNone
import Derived.BigRegion
import Derived.Test.YtfdaiififoomoaaJB1
import Derived.Deep.DeepCutAuto
namespace Go.Proofs.Ytfdaiififoomoaa
open Go.RowKit Go.Lib Go.Shelf
set_option linter.unusedVariables false
set_option linter.unusedSimpArgs false
attribute [local go_sem ↓] Go.wp_at_zero Go.wp_at_succ

/-- the cells of some ranges, one after another -/
def flat (xs : List (Int × Int)) : List Value := xs.flatMap fun p => [.int .i64 p.1, .int .i64 p.2]
theorem flat_nil : flat [] = [] := rfl
theorem flat_append (xs ys : List (Int × Int)) : flat (xs ++ ys) = flat xs ++ flat ys := by simp [flat]
theorem flat_one (p : Int × Int) : flat [p] = [.int .i64 p.1, .int .i64 p.2] := rfl
theorem flat_length (xs : List (Int × Int)) : (flat xs).length = xs.length * 2 := by
  induction xs with
  | nil => rfl
  | cons p xs ih => rw [← List.singleton_append, flat_append, List.length_append, ih, flat_one]; simp; omega
theorem flat_last (ys : List (Int × Int)) (p : Int × Int) : (flat (ys ++ [p]))[ys.length * 2 + 1]? = some (.int .i64 p.2) := by
  rw [flat_append, flat_one, List.getElem?_append_right (by rw [flat_length]; omega), flat_length, show ys.length * 2 + 1 - ys.length * 2 = 1 from by omega]; rfl
theorem flat_set (ys : List (Int × Int)) (p : Int × Int) (h : Int) : (flat (ys ++ [p])).set (ys.length * 2 + 1) (.int .i64 h) = flat (ys ++ [(p.1, h)]) := by
  rw [flat_append, flat_append, flat_one, flat_one, List.set_append_right _ _ (by rw [flat_length]; omega), flat_length, show ys.length * 2 + 1 - ys.length * 2 = 1 from by omega]; rfl

theorem ownsRow_drewN {w : World} {base : Nat} {e : TypeId} {size : Nat} {v : Value} {n : Nat} {xs : List Value} (h : w.ownsRow base e size v n xs) (k : Nat) : (w.drewN k).ownsRow base e size v n xs := h
theorem grown_after {w W w' : World} {row : Option Nat} (hB : Below w.heap.size w W) (h : W.grownBy w' row) : w.grownBy w' row :=
  ⟨h.os.trans hB.os, h.tape.trans hB.tape, h.output.trans hB.output, Nat.le_trans hB.size h.size, fun i hi hne => (h.block i (Nat.lt_of_lt_of_le hi hB.size) hne).trans (hB.block i hi)⟩
theorem below_drewN_alloc {B : Nat} {a w : World} (h : Below B a w) (hB : B ≤ w.heap.size) (o p : Obj) (n : Nat) : Below B a (((w.alloc o).drewN n).alloc p) :=
  (below_drewN (h.alloc hB o) n).alloc (by rw [drewN_size]; simp; omega) p
theorem only_drewN' {a w : World} {row : Option Nat} (h : a.grownBy w row) (n : Nat) : a.grownBy (w.drewN n) row := ⟨h.os, h.tape, h.output, h.size, h.block⟩
theorem only_setCell' {a w : World} {g : Nat} (h : a.grownBy w (some g)) {p : Addr} (hp : p.block = g) (u : Value) : a.grownBy (w.setCell p u) (some g) :=
  ⟨h.os, h.tape, h.output, by simpa [World.setCell] using h.size, fun i hi hne => (Below.heap_setCell w p u i (by rintro rfl; exact hne (by rw [hp]))).trans (h.block i hi hne)⟩
theorem only_of_below' {a w : World} {row : Option Nat} (h : Below a.heap.size a w) : a.grownBy w row := ⟨h.os, h.tape, h.output, h.size, fun i hi _ => h.block i hi⟩

/-- what is added when the new range stands by itself -/
theorem flat_snoc (xs : List (Int × Int)) (a : Int × Int) : flat xs ++ [.int .i64 a.1, .int .i64 a.2] = flat (xs ++ [a]) := by rw [flat_append, flat_one]

theorem infoRange : (Try.prog.info? 31).map (fun i => (i.zero, i.size, i.bytes)) = some (some (.agg #[.int .i64 0, .int .i64 0]), 2, 16) := by kernel_rfl

/-- what extend leaves when it appends -/
def ExtApp (w : World) (base : Nat) (v : Value) (n : Nat) (L : List Value) (e : Ending) (w' : World) : Prop :=
  ∃ v', e = .returned v' ∧ w'.ownsRow base 31 2 v' (n + 1) L ∧ w.grownBy w' v.ownBlock ∧ (v'.ownBlock = v.ownBlock ∨ ∃ g, v'.ownBlock = some g ∧ w.heap.size ≤ g)

open Go.RowKit Go.Lib Go.Shelf
set_option linter.unusedVariables false
set_option linter.unusedSimpArgs false
attribute [local go_sem ↓] Go.wp_at_zero Go.wp_at_succ

theorem rrd_flat {w : World} {g : Nat} : ∀ (xs : List (Int × Int)) (off : Nat), RRd w g off xs → ∀ j u, (flat xs)[j]? = some u → w.cell? ⟨g, off + j, none⟩ = some u := by
  intro xs
  induction xs with
  | nil => intro off _ j u h; simp [flat] at h
  | cons p xs ih =>
    intro off hr j u h
    have e : flat (p :: xs) = .int .i64 p.1 :: .int .i64 p.2 :: flat xs := rfl
    rw [e] at h
    obtain ⟨h0, h1⟩ := hr 0 p rfl
    rcases j with _ | _ | j
    · simp at h; subst h; simpa using h0
    · simp at h; subst h; simpa using h1
    · have := ih (off + 2) hr.tail j u (by simpa using h)
      rw [show off + (j + 1 + 1) = off + 2 + j from by omega]
      exact this
theorem flat_rrd {w : World} {g : Nat} : ∀ (xs : List (Int × Int)) (off : Nat), (∀ j u, (flat xs)[j]? = some u → w.cell? ⟨g, off + j, none⟩ = some u) → RRd w g off xs := by
  intro xs off h k p hp
  have key : ∀ (ys : List (Int × Int)) (k : Nat) (p : Int × Int), ys[k]? = some p → (flat ys)[2 * k]? = some (.int .i64 p.1) ∧ (flat ys)[2 * k + 1]? = some (.int .i64 p.2) := by
    intro ys
    induction ys with
    | nil => intro k p h; simp at h
    | cons q ys ih =>
      intro k p h
      have e : flat (q :: ys) = .int .i64 q.1 :: .int .i64 q.2 :: flat ys := rfl
      rw [e]
      rcases k with _ | k
      · simp at h; subst h; exact ⟨rfl, rfl⟩
      · obtain ⟨h1, h2⟩ := ih k p (by simpa using h)
        rw [show 2 * (k + 1) = 2 * k + 1 + 1 from by omega]
        exact ⟨by simpa using h1, by simpa using h2⟩
  obtain ⟨h1, h2⟩ := key xs k p hp
  have a := h _ _ h1
  have b := h _ _ h2
  first
    | exact ⟨a, b⟩
    | (constructor
       · simpa [Nat.mul_comm] using a
       · simpa [Nat.mul_comm, Nat.add_assoc] using b)

theorem own_row (xs : List (Int × Int)) (n : Nat) (hn : xs.length = n) (v : Value) (w : World) {base : Nat} (h : w.ownsRow base 31 2 v n (flat xs)) : RowAt w.heap.size w v xs := by
  subst hn
  have hc := h
  obtain ⟨_, ⟨rfl, h0⟩ | ⟨g, cap, cur, rfl, _, hh, hnc, _, _, _⟩⟩ := h
  · have : xs = [] := List.eq_nil_of_length_eq_zero h0
    subst this
    exact ⟨none, 0, rfl, Nat.le_refl _, fun h => by simp at h⟩
  · refine ⟨_, cap, rfl, hnc, fun _ => ⟨g, 0, rfl, ?_, flat_rrd xs 0 fun j u hj => ?_⟩⟩
    · rcases Nat.lt_or_ge g w.heap.size with h | h
      · exact h
      · rw [Array.getElem?_eq_none h] at hh; cases hh
    · have := hc.cells (g := g) rfl j u hj
      simpa [Addr.add_lit] using this
/-- a list argument: nil, or a row below the world's end -/
def ArgAt (w : World) (v : Value) (xs : List (Int × Int)) : Prop :=
  ((∃ A c, v = .slice A 0 c) ∧ xs = []) ∨ ∃ g off c, v = .slice (some ⟨g, off, none⟩) xs.length c ∧ xs.length ≤ c ∧ g < w.heap.size ∧ RRd w g off xs
theorem ArgAt.row {w : World} {v : Value} {xs : List (Int × Int)} (h : ArgAt w v xs) : RowAt w.heap.size w v xs := by
  rcases h with ⟨⟨A, c, rfl⟩, rfl⟩ | ⟨g, off, c, rfl, hc, hg, hr⟩
  · exact ⟨A, c, rfl, Nat.zero_le _, fun h => by simp at h⟩
  · exact ⟨_, c, rfl, hc, fun _ => ⟨g, off, rfl, hg, hr⟩⟩

open Go.RowKit Go.Lib Go.Shelf
set_option linter.unusedVariables false
set_option linter.unusedSimpArgs false
attribute [local go_sem ↓] Go.wp_at_zero Go.wp_at_succ

theorem infoRow : (Try.prog.info? 82).map (fun i => (i.zero, i.size, i.bytes)) = some (some (.agg #[.int .i64 0, .int .i64 0]), 2, 16) := by kernel_rfl

theorem own_rowR (xs : List (Int × Int)) (n : Nat) (hn : xs.length = n) (v : Value) (w : World) {base : Nat} (h : w.ownsRow base 82 2 v n (flat xs)) : RowAt w.heap.size w v xs := by
  subst hn
  have hc := h
  obtain ⟨_, ⟨rfl, h0⟩ | ⟨g, cap, cur, rfl, _, hh, hnc, _, _, _⟩⟩ := h
  · have : xs = [] := List.eq_nil_of_length_eq_zero h0
    subst this
    exact ⟨none, 0, rfl, Nat.le_refl _, fun h => by simp at h⟩
  · refine ⟨_, cap, rfl, hnc, fun _ => ⟨g, 0, rfl, ?_, flat_rrd xs 0 fun j u hj => ?_⟩⟩
    · rcases Nat.lt_or_ge g w.heap.size with h | h
      · exact h
      · rw [Array.getElem?_eq_none h] at hh; cases hh
    · have := hc.cells (g := g) rfl j u hj
      simpa [Addr.add_lit] using this
/-- whether a table with rows has a value at x -/
def covB (xs : List (Int × Int)) (x : Int) : Bool := match xs.head?, xs.getLast? with
  | some p, some q => decide (p.1 ≤ x) && decide (x ≤ q.1)
  | _, _ => false
theorem covB_of {xs : List (Int × Int)} {m : Nat} {p q : Int × Int} (x : Int) (hm : xs.length = m + 1) (hp : xs[0]? = some p) (hq : xs[m]? = some q) : covB xs x = (decide (p.1 ≤ x) && decide (x ≤ q.1)) := by
  unfold covB
  rw [List.head?_eq_getElem?, List.getLast?_eq_getElem?, hm, hp, show m + 1 - 1 = m from rfl, hq]
set_option maxRecDepth 20000 in
set_option maxHeartbeats 1000000 in
theorem covers_any (xs : List (Int × Int)) (x : Int) (g off c : Nat) (h1 : 2 ≤ xs.length) (h2 : xs.length ≤ 60) (w : World) (hg : g < w.heap.size) (hr : RRd w g off xs) :
    Calls Try.prog 32 #[.slice (some ⟨g, off, none⟩) xs.length c, .int .i64 x] w fun e w' => e = .returned (.bool (covB xs x)) ∧ Below w.heap.size w w' := by
  obtain ⟨m, hm⟩ : ∃ m, xs.length = m + 1 := ⟨xs.length - 1, by omega⟩
  obtain ⟨p, hp⟩ : ∃ p, xs[0]? = some p := ⟨_, List.getElem?_eq_getElem (by omega)⟩
  obtain ⟨q, hq⟩ : ∃ q, xs[m]? = some q := ⟨_, List.getElem?_eq_getElem (by omega)⟩
  rw [covB_of x hm hp hq]
  obtain ⟨p0, p1⟩ := hr 0 p hp
  obtain ⟨q0, q1⟩ := hr m q hq
  rw [hm] at h1 h2 ⊢
  have wm : IntKind.i64.wrap ((m + 1 : Nat) - 1 : Int) = m := by rw [show ((m + 1 : Nat) - 1 : Int) = m from by omega]; exact IntWalk.i64_in _ (by omega)
  have wm' : IntKind.i64.wrap ((m : Int) + 1 - 1) = m := by rw [show ((m : Int) + 1 - 1) = m from by omega]; exact IntWalk.i64_in _ (by omega)
  have hm0 : (0 : Int) ≤ m := by omega
  simp only [Nat.zero_mul, Nat.add_zero] at p0 p1
  clear hr hp hq hm
  obtain ⟨a, ha⟩ : ∃ a, decide (p.1 ≤ x) = a := ⟨_, rfl⟩
  obtain ⟨b, hb⟩ : ∃ b, decide (x ≤ q.1) = b := ⟨_, rfl⟩
  rw [ha, hb]
  cases a <;> cases b
  all_goals
    go_enter Try.func32, Try.ntmps32
    go_wp2_with fail
    go_ret
    exact ⟨rfl, Below.refl _ _⟩

open Go.RowKit Go.Lib Go.Shelf
set_option linter.unusedVariables false
set_option linter.unusedSimpArgs false
attribute [local go_sem ↓] Go.wp_at_zero Go.wp_at_succ

/-- since w nothing below has turned, and block b is there -/
def Kq (b : Nat) (w w' : World) : Prop := Below w.heap.size w w' ∧ b < w'.heap.size
theorem keepq {w W W' : World} {b : Nat} {x y : Option Value} (hb : Below W.heap.size W W') (h : W.cell? ⟨b, 0, none⟩ = x ∧ W.cell? ⟨b, 1, none⟩ = y ∧ Kq b w W) :
    W'.cell? ⟨b, 0, none⟩ = x ∧ W'.cell? ⟨b, 1, none⟩ = y ∧ Kq b w W' := by
  obtain ⟨h1, h2, h3, h4⟩ := h
  exact ⟨cell_next hb h4 h1, cell_next hb h4 h2, h3.trans (hb.mono h3.size), Nat.lt_of_lt_of_le h4 hb.size⟩

theorem cbE_ok {a s brix : Int} (h : cbE a s brix = 0) : spB a s = true ∧ 1 ≤ brix ∧ brix ≤ 10000 ∧ s ≠ 0 := by
  unfold cbE at h
  split at h
  · rename_i hs
    split at h
    · omega
    · split at h
      · omega
      · exact ⟨hs, by omega, by omega, by assumption⟩
  · omega

def boilW (a s brix : Int) : Int := if cbE a s brix = 0 then max 0 (a + s - s * 10000 / brix) else 0
def boilE (a s brix : Int) : Int := cbE a s brix

set_option maxRecDepth 20000 in
set_option maxHeartbeats 400000 in
theorem boil_any (a s brix : Int) (w : World) :
    Calls Try.prog 44 #[.agg #[.int .i64 a, .int .i64 s], .int .i64 brix] w fun e w' => e = .returned (.tuple #[.int .i64 (boilW a s brix), .int .i64 (boilE a s brix)]) ∧ Below w.heap.size w w' := by
  have c1 := Lib.hid (checkBrix_any a s brix)
  have eW : Hid (boilW a s brix = if cbE a s brix = 0 then max 0 (a + s - s * 10000 / brix) else 0) := Lib.hid rfl
  have eE : Hid (boilE a s brix = cbE a s brix) := Lib.hid rfl
  generalize boilW a s brix = rw_ at *
  generalize boilE a s brix = re at *
  have c2 : Hid (cbE a s brix = 0 → ∀ w, Calls Try.prog 72 #[.agg #[.int .i64 a, .int .i64 s]] w fun e w' => e = .returned (.int .i64 (a + s)) ∧ Below w.heap.size w w') := fun h w => sapMass_any a s (cbE_ok h).1 w
  have c3 : Hid (cbE a s brix = 0 → ∀ w, Calls Try.prog 73 #[.agg #[.int .i64 a, .int .i64 s], .int .i64 brix] w fun e w' => e = .returned (.int .i64 (s * 10000 / brix)) ∧ Below w.heap.size w w') := fun h w => by
    obtain ⟨h1, h2, h3, h4⟩ := cbE_ok h
    have := spB_of h1
    exact massAt_any a s brix (by omega) (by omega) h2 h3 w
  have hbd : cbE a s brix = 0 → 0 ≤ a + s ∧ a + s ≤ 2000000000000 ∧ 0 ≤ s * 10000 / brix ∧ s * 10000 / brix ≤ 10000000000000000 := fun h => by
    obtain ⟨h1, h2, h3, h4⟩ := cbE_ok h
    have := spB_of h1
    obtain ⟨_, _, p, q⟩ := massAt_q s brix (by omega) (by omega) h2 h3
    exact ⟨by omega, by omega, p, q⟩
  generalize cbE a s brix = r at *
  generalize s * 10000 / brix = q at *
  generalize a + s = m at *
  by_cases hr : r = 0
  · subst hr
    obtain ⟨m1, m2, q1, q2⟩ := hbd rfl
    have d2 := Lib.hid (c2.out rfl)
    have d3 := Lib.hid (c3.out rfl)
    clear hbd c2 c3
    go_enter Try.func44, Try.ntmps44
    go_wp2_with fail
    refine (c1.out _).mono ?_
    rintro e w1 ⟨rfl, hb1⟩
    have hS : w1.cell? ⟨w.heap.size + 1, 0, none⟩ = some (.int .i64 a) ∧ w1.cell? ⟨w.heap.size + 1, 1, none⟩ = some (.int .i64 s) ∧ Kq (w.heap.size + 1) w w1 :=
      ⟨cell_next hb1 (by simp) (by simp [go_sem]), cell_next hb1 (by simp) (by simp [go_sem]), below2 hb1, by have := hb1.size; simp at this; omega⟩
    clear hb1
    obtain ⟨s0, s1, k⟩ := hS
    go_wp2_with fail
    have hwr : IntKind.i64.wrap (m - q) = m - q := IntWalk.i64_in _ (by omega)
    have hS := And.intro s0 (And.intro s1 k)
    clear s0 s1 k
    go_region_held3 (fun w' => w'.cell? ⟨w.heap.size + 1, 0, none⟩ = some (.int .i64 a) ∧ w'.cell? ⟨w.heap.size + 1, 1, none⟩ = some (.int .i64 s) ∧ Kq (w.heap.size + 1) w w')
      (first | exact keepq (Below.drew (Below.refl _ _)) (by assumption) | exact keepq hb6 (by assumption) | exact keepq hb5 (by assumption) | assumption)
      (first
        | (go_at_call 72; (with_reducible refine (d2.out _).mono ?_); rintro e w5 ⟨rfl, hb5⟩)
        | (go_at_call 73; (with_reducible refine (d3.out _).mono ?_); rintro e w6 ⟨rfl, hb6⟩))
    all_goals
      have hk := (‹_ ∧ _ ∧ Kq _ _ _›).2.2.1
      clear hwr
      go_wp2_with fail
      all_goals
        go_ret2
        refine ⟨ret_ints2 ?_ eE.out.symm, hk⟩
        have e := eW.out
        simp only [if_true] at e
        omega
  · have hrb : (r != 0) = true := by simp [hr]
    rw [if_neg hr] at eW
    have hr' := Lib.hid hr
    clear hr c2 c3 hbd
    go_enter Try.func44, Try.ntmps44
    go_wp2_with fail
    refine (c1.out _).mono ?_
    rintro e w1 ⟨rfl, hb1⟩
    have hB := below2 hb1
    clear hb1
    go_wp2_with fail
    go_ret2
    exact ⟨ret_ints2 eW.out.symm eE.out.symm, hB⟩

/-- what Thin returns -/
def thinM (a s brix : Int) : Int := s * 10000 / brix - (a + s)
def thinE (a s brix : Int) : Int := if cbE a s brix = 0 then (if thinM a s brix < 0 then 7 else if 1000000000000 < a + thinM a s brix then 10 else 0) else cbE a s brix
def thinW (a s brix : Int) : Int := if thinE a s brix = 0 then thinM a s brix else 0

open Go.RowKit Go.Lib Go.Shelf
set_option linter.unusedVariables false
set_option linter.unusedSimpArgs false
attribute [local go_sem ↓] Go.wp_at_zero Go.wp_at_succ

theorem only_setCell {a w : World} {g : Nat} (h : a.grownBy w (some g)) {p : Addr} (hp : p.block = g ∨ a.heap.size ≤ p.block) (u : Value) : a.grownBy (w.setCell p u) (some g) :=
  ⟨h.os, h.tape, h.output, by simpa [World.setCell] using h.size, fun i hi hne => (Below.heap_setCell w p u i (by
    rintro rfl
    rcases hp with hp | hp
    · exact hne (by rw [hp])
    · omega)).trans (h.block i hi hne)⟩
theorem only_of_below {a w : World} (h : Below a.heap.size a w) (row : Option Nat) : a.grownBy w row := ⟨h.os, h.tape, h.output, h.size, fun i hi _ => h.block i hi⟩

set_option maxRecDepth 20000 in
set_option maxHeartbeats 400000 in
theorem bdraw_zero (g : Nat) (w : World) (hg : g < w.heap.size) :
    Calls Try.prog 89 #[.pointer (some ⟨g, 0, none⟩), .int .i64 0] w fun e w' => e = .returned (.agg #[.int .i64 0, .int .i64 0]) ∧ Below w.heap.size w w' := by
  go_enter Try.func89, Try.ntmps89
  go_wp2
  refine bodyPost_ret (v := .agg #[.int .i64 0, .int .i64 0]) (by simp [results, Try.results89, go_sem]) rfl ⟨rfl, ?_⟩
  exact (Below.refl _ _).alloc (Nat.le_refl _) _

set_option maxRecDepth 20000 in
set_option maxHeartbeats 1000000 in
theorem bdraw_any (a s mass q : Int) (g : Nat) (hv : spB a s = true) (m1 : 0 < mass) (m2 : mass ≤ a + s) (hd : Divides s mass (a + s)) (hq : qLo s mass (a + s) = q) (q1 : 0 ≤ q) (q2 : q ≤ 1000000000000) (w : World) (hg : g < w.heap.size)
    (h0 : w.cell? ⟨g, 0, none⟩ = some (.int .i64 a)) (h1 : w.cell? ⟨g, 1, none⟩ = some (.int .i64 s)) (f0 : w.frozen? ⟨g, 0, none⟩ = false) (f1 : w.frozen? ⟨g, 1, none⟩ = false) :
    Calls Try.prog 89 #[.pointer (some ⟨g, 0, none⟩), .int .i64 mass] w fun e w' =>
      e = .returned (.agg #[.int .i64 (mass - q), .int .i64 q]) ∧ w.grownBy w' (some g) ∧ w'.cell? ⟨g, 0, none⟩ = some (.int .i64 (a - (mass - q))) ∧ w'.cell? ⟨g, 1, none⟩ = some (.int .i64 (s - q)) := by
  obtain ⟨p1, p2, p3, p4⟩ := spB_of hv
  have c1 := Lib.hid (sapMass_any a s hv)
  have c2 := Lib.hid (around_of s mass (a + s) hd)
  rw [hq] at c2
  clear hv hd hq
  generalize qHi s mass (a + s) = u at *
  have mb : (mass == 0) = false := by simp; omega
  have hf := field_lo
  obtain ⟨t, ht⟩ : ∃ t, a + s = t := ⟨_, rfl⟩
  rw [ht] at c1 c2
  have tb : t ≤ 2000000000000 := by omega
  have m2' : mass ≤ t := by omega
  clear ht m2
  have hS : w.cell? ⟨g, 0, none⟩ = some (.int .i64 a) ∧ w.cell? ⟨g, 1, none⟩ = some (.int .i64 s) ∧ Kq g w w := ⟨h0, h1, Below.refl _ _, hg⟩
  go_enter Try.func89, Try.ntmps89
  go_wp2_with fail
  obtain ⟨s0, s1, _⟩ := keepq ((Below.refl _ _).alloc (Nat.le_refl _) (.cells #[.int .i64 0, .int .i64 0] 45)) hS
  have hS' := And.intro s0 (And.intro s1 (show Kq g (w.alloc (.cells #[.int .i64 0, .int .i64 0] 45)) (w.alloc (.cells #[.int .i64 0, .int .i64 0] 45)) from ⟨Below.refl _ _, by simp; omega⟩))
  clear hS s0 s1
  go_region_held3 (fun w' => w'.cell? ⟨g, 0, none⟩ = some (.int .i64 a) ∧ w'.cell? ⟨g, 1, none⟩ = some (.int .i64 s) ∧ Kq g (w.alloc (.cells #[.int .i64 0, .int .i64 0] 45)) w')
      (first | exact keepq (Below.drew (Below.refl _ _)) (by assumption) | exact keepq ((Below.refl _ _).alloc (Nat.le_refl _) _) (by assumption) | exact keepq hb5 (by assumption) | exact keepq hb6 (by assumption) | exact keepq hb7 (by assumption) | assumption)
      (first
        | (go_at_call 72; (with_reducible refine (c1.out _).mono ?_); rintro e w5 ⟨rfl, hb5⟩)
        | (go_at_call 66; refine (quotientOf3 s mass t _ _ ?_ ?_ ?_ ?_).mono ?_; (focus (simp [drew_size, drewN_size])); (focus (simp [drew_cell, cell_new])); (focus (simp [drew_cell, cell_new])); (focus (simp [drew_cell, cell_new])); rintro e w6 ⟨rfl, hb6⟩)
        | (go_at_call 67; (with_reducible refine (c2.out _).mono ?_); rintro e w7 ⟨rfl, hb7⟩))
  all_goals
    obtain ⟨s0, s1, k, kz⟩ := ‹_ ∧ _ ∧ Kq _ _ _›
    have k0 := cell_next k (b := w.heap.size) (o := 0) (by simp) (v := some (.int .i64 0)) (by simp)
    have k1 := cell_next k (b := w.heap.size) (o := 1) (by simp) (v := some (.int .i64 0)) (by simp)
    have k2 := frozen_next k (b := w.heap.size) (o := 0) (by simp) (v := false) (by simp)
    have k3 := frozen_next k (b := w.heap.size) (o := 1) (by simp) (v := false) (by simp)
    have kB := below1 k
    replace f0 := frozen_next kB hg f0
    replace f1 := frozen_next kB hg f1
    have hne : g ≠ w.heap.size := by omega
    have hne' : w.heap.size ≠ g := by omega
    clear k h0 h1
    go_wp2_with fail
    refine bodyPost_ret (v := .agg #[.int .i64 (mass - q), .int .i64 q]) (by simp [results, Try.results89, go_sem, k0, k1, hne, hne']) rfl ⟨rfl, ?_, ?_, ?_⟩
    · exact only_setCell (p := ⟨w.heap.size, 1, none⟩) (only_setCell (p := ⟨w.heap.size, 0, none⟩) (only_setCell (p := ⟨g, 0, none⟩) (only_setCell (p := ⟨g, 1, none⟩) (only_of_below kB _) (.inl rfl) _) (.inl rfl) _) (.inr (Nat.le_refl _)) _) (.inr (Nat.le_refl _)) _
    · simp [go_sem, hne, hne', s0, s1, k0, k1]
    · simp [go_sem, hne, hne', s0, s1, k0, k1]

open Go.RowKit Go.Lib Go.Shelf
set_option linter.unusedVariables false
set_option linter.unusedSimpArgs false
attribute [local go_sem ↓] Go.wp_at_zero Go.wp_at_succ

/-- what batch.draw does at block g: mass m is taken, of which q is sugar -/
def DrawsAt (a s m q : Int) : Prop := ∀ (g : Nat) (w : World), g < w.heap.size → w.cell? ⟨g, 0, none⟩ = some (.int .i64 a) → w.cell? ⟨g, 1, none⟩ = some (.int .i64 s) → w.frozen? ⟨g, 0, none⟩ = false → w.frozen? ⟨g, 1, none⟩ = false →
    Calls Try.prog 89 #[.pointer (some ⟨g, 0, none⟩), .int .i64 m] w fun e w' =>
      e = .returned (.agg #[.int .i64 (m - q), .int .i64 q]) ∧ w.grownBy w' (some g) ∧ w'.cell? ⟨g, 0, none⟩ = some (.int .i64 (a - (m - q))) ∧ w'.cell? ⟨g, 1, none⟩ = some (.int .i64 (s - q))

theorem drawsAt_zero (a s : Int) : DrawsAt a s 0 0 := fun g w hg h0 h1 _ _ => by
  refine (bdraw_zero g w hg).mono ?_
  rintro e w' ⟨rfl, hb⟩
  exact ⟨by simp, only_of_below hb _, by rw [cell_next hb hg h0]; simp, by rw [cell_next hb hg h1]; simp⟩
theorem drawsAt_pos (a s m q : Int) (hv : spB a s = true) (m1 : 0 < m) (m2 : m ≤ a + s) (hd : Divides s m (a + s)) (hq : qLo s m (a + s) = q) (q1 : 0 ≤ q) (q2 : q ≤ 1000000000000) : DrawsAt a s m q :=
  fun g w hg h0 h1 f0 f1 => bdraw_any a s m q g hv m1 m2 hd hq q1 q2 w hg h0 h1 f0 f1

theorem set2 {w : World} {b : Nat} {u v : Value} (x y : Value) (h0 : w.cell? ⟨b, 0, none⟩ = some u) (h1 : w.cell? ⟨b, 1, none⟩ = some v) :
    ((w.setCell ⟨b, 0, none⟩ x).setCell ⟨b, 1, none⟩ y).cell? ⟨b, 0, none⟩ = some x ∧ ((w.setCell ⟨b, 0, none⟩ x).setCell ⟨b, 1, none⟩ y).cell? ⟨b, 1, none⟩ = some y := by
  have e1 : (w.setCell ⟨b, 0, none⟩ x).cell? ⟨b, 1, none⟩ = some v := by rw [World.cell?_setCell_other _ _ _ _ (by intro h; injection h; omega)]; exact h1
  refine ⟨?_, World.cell?_setCell_same _ _ _ e1⟩
  rw [World.cell?_setCell_other _ _ _ _ (by intro h; injection h; omega)]
  exact World.cell?_setCell_same _ _ _ h0
theorem set2_far {w : World} {b c o : Nat} {v : Option Value} (x y : Value) (hne : b ≠ c) (h : w.cell? ⟨c, o, none⟩ = v) : ((w.setCell ⟨b, 0, none⟩ x).setCell ⟨b, 1, none⟩ y).cell? ⟨c, o, none⟩ = v := by
  rw [World.cell?_setCell_other _ _ _ _ (by intro h; injection h; omega), World.cell?_setCell_other _ _ _ _ (by intro h; injection h; omega)]
  exact h
theorem res_Draw {W : World} {tmps : Array Value} {g1 g2 : Nat} {x y u v e : Int} (t4 : tmps.getD 4 undef = .pointer (some ⟨g1, 0, none⟩)) (t5 : tmps.getD 5 undef = .pointer (some ⟨g2, 0, none⟩)) (t6 : tmps.getD 6 undef = .int .i64 e)
    (h1 : W.cell? ⟨g1, 0, none⟩ = some (.int .i64 x)) (h2 : W.cell? ⟨g1, 1, none⟩ = some (.int .i64 y)) (h3 : W.cell? ⟨g2, 0, none⟩ = some (.int .i64 u)) (h4 : W.cell? ⟨g2, 1, none⟩ = some (.int .i64 v)) :
    (results Try.f77 tmps).run Try.prog W = .ok (.tuple #[.agg #[.int .i64 x, .int .i64 y], .agg #[.int .i64 u, .int .i64 v], .int .i64 e]) W := by
  rw [Array.getD_eq_getD_getElem?] at t4 t5 t6
  simp [results, Try.results77, go_sem, t4, t5, t6, h1, h2, h3, h4]
theorem grown_cell {w w' : World} {g b o : Nat} {v : Option Value} (h : w.grownBy w' (some g)) (hb : b < w.heap.size) (hne : b ≠ g) (hc : w.cell? ⟨b, o, none⟩ = v) : w'.cell? ⟨b, o, none⟩ = v :=
  (World.cell?_of_block (h.block b hb (by simpa using hne))).trans hc
theorem grown_frozen {w w' : World} {g b o : Nat} {v : Bool} (h : w.grownBy w' (some g)) (hb : b < w.heap.size) (hne : b ≠ g) (hc : w.frozen? ⟨b, o, none⟩ = v) : w'.frozen? ⟨b, o, none⟩ = v :=
  (World.frozen?_of_block (h.block b hb (by simpa using hne))).trans hc

set_option maxRecDepth 20000 in
set_option maxHeartbeats 600000 in
theorem draw_ok (a s m q : Int) (hv : spB a s = true) (m1 : 0 ≤ m) (m2 : m ≤ a + s) (hd : DrawsAt a s m q) (w : World) :
    Calls Try.prog 77 #[.agg #[.int .i64 a, .int .i64 s], .int .i64 m] w fun e w' =>
      e = .returned (.tuple #[.agg #[.int .i64 (m - q), .int .i64 q], .agg #[.int .i64 (a - (m - q)), .int .i64 (s - q)], .int .i64 0]) ∧ Below w.heap.size w w' := by
  have c0 : Hid (∀ w, Calls Try.prog 61 #[.agg #[.int .i64 a, .int .i64 s]] w fun e w' => e = .returned (.bool true) ∧ Below w.heap.size w w') := fun w => by
    refine (sapValid_any a s w).mono ?_
    rintro e w' ⟨rfl, hb⟩
    exact ⟨by rw [hv], hb⟩
  have c1 := Lib.hid (sapMass_any a s hv)
  have c2 := Lib.hid hd
  clear hd hv
  generalize a + s = t at *
  have mb : (decide (m < 0)) = false := by simp; omega
  have hm : ¬ t < m := by omega
  go_enter Try.func77, Try.ntmps77
  go_wp2_with fail
  refine (c0.out _).mono ?_
  rintro e w1 ⟨rfl, hb1⟩
  have c10 := cell_next hb1 (b := w.heap.size + 1) (o := 0) (by simp <;> omega) (v := some (.int .i64 0)) (by simp [go_sem])
  have f10 := frozen_next hb1 (b := w.heap.size + 1) (o := 0) (by simp <;> omega) (v := false) (by simp [go_sem])
  have c11 := cell_next hb1 (b := w.heap.size + 1) (o := 1) (by simp <;> omega) (v := some (.int .i64 0)) (by simp [go_sem])
  have f11 := frozen_next hb1 (b := w.heap.size + 1) (o := 1) (by simp <;> omega) (v := false) (by simp [go_sem])
  have c20 := cell_next hb1 (b := w.heap.size + 1 + 1) (o := 0) (by simp <;> omega) (v := some (.int .i64 0)) (by simp [go_sem])
  have f20 := frozen_next hb1 (b := w.heap.size + 1 + 1) (o := 0) (by simp <;> omega) (v := false) (by simp [go_sem])
  have c21 := cell_next hb1 (b := w.heap.size + 1 + 1) (o := 1) (by simp <;> omega) (v := some (.int .i64 0)) (by simp [go_sem])
  have f21 := frozen_next hb1 (b := w.heap.size + 1 + 1) (o := 1) (by simp <;> omega) (v := false) (by simp [go_sem])
  have c30 := cell_next hb1 (b := w.heap.size + 1 + 1 + 1) (o := 0) (by simp <;> omega) (v := some (.int .i64 a)) (by simp [go_sem])
  have f30 := frozen_next hb1 (b := w.heap.size + 1 + 1 + 1) (o := 0) (by simp <;> omega) (v := false) (by simp [go_sem])
  have c31 := cell_next hb1 (b := w.heap.size + 1 + 1 + 1) (o := 1) (by simp <;> omega) (v := some (.int .i64 s)) (by simp [go_sem])
  have f31 := frozen_next hb1 (b := w.heap.size + 1 + 1 + 1) (o := 1) (by simp <;> omega) (v := false) (by simp [go_sem])
  have hz := hb1.size
  simp at hz
  have z1 : w.heap.size + 1 < w1.heap.size := by omega
  have z2 : w.heap.size + 1 + 1 < w1.heap.size := by omega
  have z3 : w.heap.size + 1 + 1 + 1 < w1.heap.size := by omega
  have hB := below4 hb1
  clear hb1 hz
  go_wp2_with fail
  refine (c1.out _).mono ?_
  rintro e w2 ⟨rfl, hb2⟩
  replace c10 := cell_next hb2 z1 c10
  replace f10 := frozen_next hb2 z1 f10
  replace c11 := cell_next hb2 z1 c11
  replace f11 := frozen_next hb2 z1 f11
  replace c20 := cell_next hb2 z2 c20
  replace f20 := frozen_next hb2 z2 f20
  replace c21 := cell_next hb2 z2 c21
  replace f21 := frozen_next hb2 z2 f21
  replace c30 := cell_next hb2 z3 c30
  replace f30 := frozen_next hb2 z3 f30
  replace c31 := cell_next hb2 z3 c31
  replace f31 := frozen_next hb2 z3 f31
  replace z1 := Nat.lt_of_lt_of_le z1 hb2.size
  replace z2 := Nat.lt_of_lt_of_le z2 hb2.size
  replace z3 := Nat.lt_of_lt_of_le z3 hb2.size
  replace hB := hB.trans (hb2.mono hB.size)
  clear hb2
  go_wp2_with fail
  refine (c2.out _ _ z3 c30 c31 f30 f31).mono ?_
  rintro e w3 ⟨rfl, hg, e0, e1⟩
  replace c10 := grown_cell hg z1 (by omega) c10
  replace f10 := grown_frozen hg z1 (by omega) f10
  replace c11 := grown_cell hg z1 (by omega) c11
  replace f11 := grown_frozen hg z1 (by omega) f11
  replace c20 := grown_cell hg z2 (by omega) c20
  replace f20 := grown_frozen hg z2 (by omega) f20
  replace c21 := grown_cell hg z2 (by omega) c21
  replace f21 := grown_frozen hg z2 (by omega) f21
  replace z1 := Nat.lt_of_lt_of_le z1 hg.size
  replace z2 := Nat.lt_of_lt_of_le z2 hg.size
  replace z3 := Nat.lt_of_lt_of_le z3 hg.size
  replace hB := hB.grown hg hB.size (fun k hk => by injection hk; omega)
  clear c30 c31 f30 f31 hg
  go_wp2_with fail
  go_region
  all_goals
    go_wp2_with fail
    have p1 := set2 (.int .i64 (m - q)) (.int .i64 q) c10 c11
    have p2 := set2 (.int .i64 (m - q)) (.int .i64 q) p1.1 p1.2
    have l0 := set2_far (.int .i64 (m - q)) (.int .i64 q) (by omega : w.heap.size + 1 ≠ w.heap.size + 1 + 1) (set2_far (.int .i64 (m - q)) (.int .i64 q) (by omega : w.heap.size + 1 ≠ w.heap.size + 1 + 1) c20)
    have l1 := set2_far (.int .i64 (m - q)) (.int .i64 q) (by omega : w.heap.size + 1 ≠ w.heap.size + 1 + 1) (set2_far (.int .i64 (m - q)) (.int .i64 q) (by omega : w.heap.size + 1 ≠ w.heap.size + 1 + 1) c21)
    have p3 := set2 (.int .i64 (a - (m - q))) (.int .i64 (s - q)) l0 l1
    have p4 := set2_far (.int .i64 (a - (m - q))) (.int .i64 (s - q)) (by omega : w.heap.size + 1 + 1 ≠ w.heap.size + 1) p2.1
    have p5 := set2_far (.int .i64 (a - (m - q))) (.int .i64 (s - q)) (by omega : w.heap.size + 1 + 1 ≠ w.heap.size + 1) p2.2
    refine bodyPost_ret (res_Draw (g1 := w.heap.size + 1) (g2 := w.heap.size + 1 + 1) (by rfl) (by rfl) (by rfl) ((drew_cell _ _).trans p4) ((drew_cell _ _).trans p5) ((drew_cell _ _).trans p3.1) ((drew_cell _ _).trans p3.2)) rfl ⟨rfl, ?_⟩
    repeat (first | with_reducible exact hB | with_reducible refine Below.drew ?_ | (with_reducible refine Below.setCell ?_ ?hp _; case hp => simp <;> omega))

open Go.RowKit Go.Lib Go.Shelf
set_option linter.unusedVariables false
set_option linter.unusedSimpArgs false
attribute [local go_sem ↓] Go.wp_at_zero Go.wp_at_succ

/-- the value between two rows, rounded down and up -/
def segV (p q : Int × Int) (x : Int) : Int × Int := (p.2 + (q.2 - p.2) * (x - p.1) / (q.1 - p.1), p.2 + -(-((q.2 - p.2) * (x - p.1)) / (q.1 - p.1)))
def IsVal (xs : List (Int × Int)) (x : Int) (v : Int × Int) : Prop := ∃ k p q, xs[k]? = some p ∧ xs[k + 1]? = some q ∧ p.1 ≤ x ∧ x ≤ q.1 ∧ v = segV p q x
/-- a valid table -/
def TabOk (xs : List (Int × Int)) : Prop := 2 ≤ xs.length ∧ xs.length ≤ 60 ∧ (∀ p ∈ xs, rowB p.1 p.2 = true) ∧ ∀ (i j : Nat) (p q : Int × Int), i < j → xs[i]? = some p → xs[j]? = some q → p.1 < q.1
theorem segV_left {p q : Int × Int} (h : p.1 < q.1) : segV p q p.1 = (p.2, p.2) := by simp [segV]
theorem segV_right {p q : Int × Int} (h : p.1 < q.1) : segV p q q.1 = (q.2, q.2) := by
  have e1 : (q.2 - p.2) * (q.1 - p.1) / (q.1 - p.1) = q.2 - p.2 := Int.mul_ediv_cancel _ (by omega)
  have e2 : -((q.2 - p.2) * (q.1 - p.1)) / (q.1 - p.1) = -(q.2 - p.2) := by rw [← Int.neg_mul]; exact Int.mul_ediv_cancel _ (by omega)
  unfold segV
  rw [e1, e2]
  ext <;> simp <;> omega
theorem isVal_one {xs : List (Int × Int)} {x : Int} {u v : Int × Int} (ht : TabOk xs) (hu : IsVal xs x u) (hv : IsVal xs x v) : u = v := by
  have key : ∀ (k l : Nat) (p q p' q' : Int × Int), k < l → xs[k]? = some p → xs[k + 1]? = some q → xs[l]? = some p' → xs[l + 1]? = some q' → p.1 ≤ x → x ≤ q.1 → p'.1 ≤ x → x ≤ q'.1 → segV p q x = segV p' q' x := by
    intro k l p q p' q' hkl h1 h2 h3 h4 h5 h6 h7 h8
    have a1 := ht.2.2.2 k (k + 1) _ _ (by omega) h1 h2
    have a2 := ht.2.2.2 l (l + 1) _ _ (by omega) h3 h4
    by_cases e : l = k + 1
    · subst e
      rw [h2] at h3
      injection h3 with h3
      subst h3
      obtain rfl : x = q.1 := by omega
      rw [segV_right a1, segV_left a2]
    · have a3 := ht.2.2.2 (k + 1) l _ _ (by omega) h2 h3
      omega
  obtain ⟨k, p, q, h1, h2, h3, h4, rfl⟩ := hu
  obtain ⟨l, p', q', g1, g2, g3, g4, rfl⟩ := hv
  rcases Nat.lt_trichotomy k l with h | h | h
  · exact key k l p q p' q' h h1 h2 g1 g2 h3 h4 g3 g4
  · subst h
    rw [h1] at g1; rw [h2] at g2
    injection g1 with g1; injection g2 with g2
    subst g1 g2; rfl
  · exact (key l k p' q' p q h g1 g2 h1 h2 g3 g4 h3 h4).symm
open Classical in
noncomputable def valV (xs : List (Int × Int)) (x : Int) : Int × Int := if h : ∃ v, IsVal xs x v then h.choose else (0, 0)
theorem valV_is {xs : List (Int × Int)} {x : Int} {v : Int × Int} (ht : TabOk xs) (h : IsVal xs x v) : valV xs x = v := by
  have he : ∃ v, IsVal xs x v := ⟨v, h⟩
  unfold valV
  rw [dif_pos he]
  exact isVal_one ht he.choose_spec h
/-- the stretch that valueAt comes to -/
theorem seg_first {xs : List (Int × Int)} {x : Int} (ht : TabOk xs) (hc : covB xs x = true) : ∃ k p q, xs[k]? = some p ∧ xs[k + 1]? = some q ∧ p.1 ≤ x ∧ x ≤ q.1 ∧ ∀ j r, j < k → xs[j + 1]? = some r → r.1 < x := by
  obtain ⟨m, hm⟩ : ∃ m, xs.length = m + 1 := ⟨xs.length - 1, by have := ht.1; omega⟩
  have hm1 : 1 ≤ m := by have := ht.1; omega
  obtain ⟨p, hp⟩ : ∃ p, xs[0]? = some p := ⟨_, List.getElem?_eq_getElem (by omega)⟩
  obtain ⟨q, hq⟩ : ∃ q, xs[m]? = some q := ⟨_, List.getElem?_eq_getElem (by omega)⟩
  rw [covB_of x hm hp hq] at hc
  simp at hc
  have key : ∀ d k p, k + d = m → 1 ≤ d → xs[k]? = some p → p.1 ≤ x → (∀ j r, j < k → xs[j + 1]? = some r → r.1 < x) → ∃ k p q, xs[k]? = some p ∧ xs[k + 1]? = some q ∧ p.1 ≤ x ∧ x ≤ q.1 ∧ ∀ j r, j < k → xs[j + 1]? = some r → r.1 < x := by
    intro d
    induction d with
    | zero => intro k p _ h; omega
    | succ d ih =>
      intro k p hk _ hp hpx hj
      obtain ⟨r, hr⟩ : ∃ r, xs[k + 1]? = some r := ⟨_, List.getElem?_eq_getElem (by omega)⟩
      by_cases hx : x ≤ r.1
      · exact ⟨k, p, r, hp, hr, hpx, hx, hj⟩
      · refine ih (k + 1) r (by omega) ?_ hr (by omega) (fun j s hj' hs => ?_)
        · rcases Nat.eq_zero_or_pos d with h | h
          · subst h
            rw [show k + 1 = m from by omega, hq] at hr
            injection hr with hr; subst hr; omega
          · exact h
        · by_cases e : j = k
          · subst e; rw [hr] at hs; injection hs with hs; subst hs; omega
          · exact hj j s (by omega) hs
  exact key m 0 p (by omega) hm1 hp hc.1 (fun j r h => by omega)

set_option maxRecDepth 20000 in
set_option maxHeartbeats 4000000 in
theorem valueAt_any (xs : List (Int × Int)) (x : Int) (g off c : Nat) (ht : TabOk xs) (hcv : covB xs x = true) (w : World) (hg : g < w.heap.size) (hr : RRd w g off xs) :
    Calls Try.prog 33 #[.slice (some ⟨g, off, none⟩) xs.length c, .int .i64 x] w fun e w' => e = .returned (.agg #[.int .i64 (valV xs x).1, .int .i64 (valV xs x).2]) ∧ Below w.heap.size w w' := by
  obtain ⟨k, p, q, hp, hq, hpx, hxq, hbef⟩ := seg_first ht hcv
  have hv := valV_is ht ⟨k, p, q, hp, hq, hpx, hxq, rfl⟩
  rw [hv]
  have hpq := ht.2.2.2 k (k + 1) _ _ (by omega) hp hq
  obtain ⟨r1, r2, r3, r4⟩ := rowB_of (ht.2.2.1 p (List.mem_of_getElem? hp))
  obtain ⟨s1, s2, s3, s4⟩ := rowB_of (ht.2.2.1 q (List.mem_of_getElem? hq))
  have hq0 : (q.2 - p.2).natAbs * (x - p.1).natAbs / (q.1 - p.1).natAbs ≤ 1000000000000000000 := by
    have h1 : (q.2 - p.2).natAbs * (x - p.1).natAbs / (q.1 - p.1).natAbs ≤ (q.2 - p.2).natAbs := Nat.div_le_of_le_mul (by
      rw [Nat.mul_comm (q.1 - p.1).natAbs]
      exact Nat.mul_le_mul_left _ (by omega))
    omega
  have hq1 := q_pos (by omega) hq0
  have hmul : (q.2 - p.2).natAbs * (x - p.1).natAbs < 18446744073709551616 := by
    have : (q.2 - p.2).natAbs * (x - p.1).natAbs ≤ 2000000000 * 2000000000 := Nat.mul_le_mul (by omega) (by omega)
    omega
  have c1 := Lib.hid (around_of (q.2 - p.2) (x - p.1) (q.1 - p.1) (divide_small _ _ _ ⟨by omega, by omega⟩ ⟨by omega, by omega⟩ ⟨by omega, by omega⟩ (by omega) hmul))
  rw [hq1.1, hq1.2] at c1
  have hlo : -2000000000 ≤ (q.2 - p.2) * (x - p.1) / (q.1 - p.1) ∧ (q.2 - p.2) * (x - p.1) / (q.1 - p.1) ≤ 2000000000 ∧ -2000000000 ≤ -(-((q.2 - p.2) * (x - p.1)) / (q.1 - p.1)) ∧ -(-((q.2 - p.2) * (x - p.1)) / (q.1 - p.1)) ≤ 2000000000 := by
    have hA : ((q.2 - p.2) * (x - p.1)).natAbs ≤ 2000000000 * (q.1 - p.1).natAbs := by rw [Int.natAbs_mul]; exact Nat.mul_le_mul (by omega) (by omega)
    generalize (q.2 - p.2) * (x - p.1) = A at *
    have hd : 0 < q.1 - p.1 := by omega
    generalize q.1 - p.1 = d at *
    have h1 := Int.le_ediv_of_mul_le (a := -2000000000) (b := A) hd (by omega)
    have h2 := Int.ediv_le_of_le_mul (a := A) (b := 2000000000) hd (by omega)
    have h3 := Int.le_ediv_of_mul_le (a := -2000000000) (b := -A) hd (by omega)
    have h4 := Int.ediv_le_of_le_mul (a := -A) (b := 2000000000) hd (by omega)
    omega
  unfold segV
  generalize (q.2 - p.2) * (x - p.1) / (q.1 - p.1) = lo at *
  generalize -(-((q.2 - p.2) * (x - p.1)) / (q.1 - p.1)) = hi at *
  obtain ⟨l1, l2, l3, l4⟩ := hlo
  have hkn : k + 1 < xs.length := (List.getElem?_eq_some_iff.1 hq).1
  have hn60 := ht.2.1
  obtain ⟨p0, p1⟩ := hr k p hp
  obtain ⟨q0, q1⟩ := hr (k + 1) q hq
  have HR := Lib.hid hr
  have HB := Lib.hid hbef
  obtain ⟨n, hn⟩ : ∃ n, xs.length = n := ⟨_, rfl⟩
  rw [hn] at hkn hn60 ⊢
  have Hn := Lib.hid hn
  have w1 : IntKind.i64.wrap (q.2 - p.2) = q.2 - p.2 := IntWalk.i64_in _ (by omega)
  have w2 : IntKind.i64.wrap (x - p.1) = x - p.1 := IntWalk.i64_in _ (by omega)
  have w3 : IntKind.i64.wrap (q.1 - p.1) = q.1 - p.1 := IntWalk.i64_in _ (by omega)
  have w4 : IntKind.i64.wrap (p.2 + lo) = p.2 + lo := IntWalk.i64_in _ (by omega)
  have w5 : IntKind.i64.wrap (p.2 + hi) = p.2 + hi := IntWalk.i64_in _ (by omega)
  have HC : Hid (∀ W : World, Below w.heap.size w W → W.cell? ⟨g, off + k * 2, none⟩ = some (.int .i64 p.1) ∧ W.cell? ⟨g, off + k * 2 + 1, none⟩ = some (.int .i64 p.2) ∧ W.cell? ⟨g, off + (k + 1) * 2, none⟩ = some (.int .i64 q.1) ∧ W.cell? ⟨g, off + (k + 1) * 2 + 1, none⟩ = some (.int .i64 q.2)) :=
    Lib.hid (fun W h => ⟨(h.cell hg).trans p0, (h.cell hg).trans p1, (h.cell hg).trans q0, (h.cell hg).trans q1⟩)
  clear hn hr hbef hq0 hq1 hmul hv hcv ht hp hq p0 p1 q0 q1
  go_enter Try.func33, Try.ntmps33
  go_wp2_with fail
  have hK0 : Kp w.heap.size w (w.alloc (.cells #[.int .i64 0, .int .i64 0] 31)) := ⟨(Below.refl _ _).alloc (Nat.le_refl _) _, by simp, ⟨.int .i64 0, by simp [go_sem]⟩, ⟨.int .i64 0, by simp [go_sem]⟩, by simp [go_sem], by simp [go_sem]⟩
  generalize w.alloc (.cells #[.int .i64 0, .int .i64 0] 31) = w2 at *
  have HK := Lib.hid hK0
  clear hK0
  go_loop [5] (fun i => ∃ j : Nat, j ≤ k ∧ i = .int .i64 j) (fun i => k - (RowKit.intOf i).toNat)
  case atStart => exact ⟨0, Nat.zero_le _, rfl⟩
  case round =>
    obtain ⟨j, hj, rfl⟩ := hrel
    have hj0 : (0 : Int) ≤ j := by omega
    by_cases hlt : j < k
    · obtain ⟨r, hr⟩ : ∃ r, xs[j + 1]? = some r := ⟨_, List.getElem?_eq_getElem (by rw [Hn.out]; omega)⟩
      have hrx := HB.out j r hlt hr
      have e0 : w2.cell? ⟨g, off + (j + 1) * 2, none⟩ = some (.int .i64 r.1) := (HK.out.1.cell hg).trans (HR.out (j + 1) r hr).1
      go_wp2_with fail
      go_round
      case rel => exact ⟨j + 1, by omega, by go_num⟩
      case measure => simp [RowKit.intOf]; omega
    · obtain rfl : j = k := by omega
      obtain ⟨e0, e1, e2, e3⟩ := HC.out w2 HK.out.1
      have hsz := HK.out.1.size
      have hg2 : g < w2.heap.size := Nat.lt_of_lt_of_le hg hsz
      have z0 : ∀ o, (w2.alloc o).cell? ⟨g, off + j * 2, none⟩ = _ := fun o => (((Below.refl w2.heap.size w2).alloc (Nat.le_refl _) o).cell (p := ⟨g, off + j * 2, none⟩) hg2).trans e0
      have y0 : ∀ o o', ((w2.alloc o).alloc o').cell? ⟨g, off + j * 2, none⟩ = _ := fun o o' => ((((Below.refl w2.heap.size w2).alloc (Nat.le_refl _) o).alloc (by simp) o').cell (p := ⟨g, off + j * 2, none⟩) hg2).trans e0
      have z1 : ∀ o, (w2.alloc o).cell? ⟨g, off + j * 2 + 1, none⟩ = _ := fun o => (((Below.refl w2.heap.size w2).alloc (Nat.le_refl _) o).cell (p := ⟨g, off + j * 2 + 1, none⟩) hg2).trans e1
      have y1 : ∀ o o', ((w2.alloc o).alloc o').cell? ⟨g, off + j * 2 + 1, none⟩ = _ := fun o o' => ((((Below.refl w2.heap.size w2).alloc (Nat.le_refl _) o).alloc (by simp) o').cell (p := ⟨g, off + j * 2 + 1, none⟩) hg2).trans e1
      have z2 : ∀ o, (w2.alloc o).cell? ⟨g, off + (j + 1) * 2, none⟩ = _ := fun o => (((Below.refl w2.heap.size w2).alloc (Nat.le_refl _) o).cell (p := ⟨g, off + (j + 1) * 2, none⟩) hg2).trans e2
      have y2 : ∀ o o', ((w2.alloc o).alloc o').cell? ⟨g, off + (j + 1) * 2, none⟩ = _ := fun o o' => ((((Below.refl w2.heap.size w2).alloc (Nat.le_refl _) o).alloc (by simp) o').cell (p := ⟨g, off + (j + 1) * 2, none⟩) hg2).trans e2
      have z3 : ∀ o, (w2.alloc o).cell? ⟨g, off + (j + 1) * 2 + 1, none⟩ = _ := fun o => (((Below.refl w2.heap.size w2).alloc (Nat.le_refl _) o).cell (p := ⟨g, off + (j + 1) * 2 + 1, none⟩) hg2).trans e3
      have y3 : ∀ o o', ((w2.alloc o).alloc o').cell? ⟨g, off + (j + 1) * 2 + 1, none⟩ = _ := fun o o' => ((((Below.refl w2.heap.size w2).alloc (Nat.le_refl _) o).alloc (by simp) o').cell (p := ⟨g, off + (j + 1) * 2 + 1, none⟩) hg2).trans e3
      go_upto_region 4 with fail
      go_cut [6, 7] (fun s6 s7 wx => ∃ gx gy : Nat, s6 = .pointer (some ⟨gx, 0, none⟩) ∧ s7 = .pointer (some ⟨gy, 0, none⟩) ∧ wx.cell? ⟨gx, 0, none⟩ = some (.int .i64 p.1) ∧ wx.cell? ⟨gx, 1, none⟩ = some (.int .i64 p.2) ∧ wx.cell? ⟨gy, 0, none⟩ = some (.int .i64 q.1) ∧ wx.cell? ⟨gy, 1, none⟩ = some (.int .i64 q.2) ∧ Kp w.heap.size w wx)
      case first =>
        go_region
        all_goals
          go_wp2_with fail
          go_meet
          first
            | refine ⟨w2.heap.size, w2.heap.size + 1, rfl, rfl, by simp [go_sem], by simp [go_sem], by simp [go_sem], by simp [go_sem], HK.out.next hsz ?_⟩
            | refine ⟨w2.heap.size + 1, w2.heap.size, rfl, rfl, by simp [go_sem], by simp [go_sem], by simp [go_sem], by simp [go_sem], HK.out.next hsz ?_⟩
          repeat (first | exact Below.refl _ _ | (with_reducible refine Below.setCell ?_ (by simp) _) | (with_reducible refine Below.alloc ?_ (by simp) _) | (with_reducible refine Below.drew ?_))
      case rest =>
        clear z0 z1 z2 z3 y0 y1 y2 y3 e0 e1 e2 e3 HK hsz hg2 HC HB HR
        obtain ⟨gx, gy, rfl, rfl, x0, x1, y0, y1, hk⟩ := hcut
        have nx := World.block_lt_of_cell? _ _ x0
        have ny := World.block_lt_of_cell? _ _ y0
        simp only at nx ny
        go_wp2_with fail
        refine (quotientOf3 (q.2 - p.2) (x - p.1) (q.1 - p.1) _ _ (by simp) (by simp [go_sem]) (by simp [go_sem]) (by simp [go_sem])).mono ?_
        rintro e w3 ⟨rfl, hb⟩
        replace hb := below1 hb
        replace x0 := cell_next hb nx x0
        replace x1 := cell_next hb nx x1
        replace y0 := cell_next hb ny y0
        replace y1 := cell_next hb ny y1
        replace hk := hk.next hk.1.size hb
        replace nx := Nat.lt_of_lt_of_le nx hb.size
        replace ny := Nat.lt_of_lt_of_le ny hb.size
        clear hb
        go_wp2_with fail
        refine (c1.out _).mono ?_
        rintro e w4 ⟨rfl, hb⟩
        replace x0 := cell_next hb nx x0
        replace x1 := cell_next hb nx x1
        replace hk := hk.next hk.1.size hb
        replace nx := Nat.lt_of_lt_of_le nx hb.size
        clear hb y0 y1 ny
        obtain ⟨hB, nz, ⟨u0, r0⟩, ⟨u1, r1⟩, f0, f1⟩ := hk
        have k0 : ∀ o, (w4.alloc o).cell? ⟨gx, 0, none⟩ = _ := fun o => (((Below.refl w4.heap.size w4).alloc (Nat.le_refl _) o).cell (p := ⟨gx, 0, none⟩) nx).trans x0
        have k1 : ∀ o, (w4.alloc o).cell? ⟨gx, 1, none⟩ = _ := fun o => (((Below.refl w4.heap.size w4).alloc (Nat.le_refl _) o).cell (p := ⟨gx, 1, none⟩) nx).trans x1
        obtain ⟨t0, t1⟩ := set2 (.int .i64 (p.2 + lo)) (.int .i64 (p.2 + hi)) r0 r1
        have nzS : w.heap.size < ((w4.setCell ⟨w.heap.size, 0, none⟩ (.int .i64 (p.2 + lo))).setCell ⟨w.heap.size, 1, none⟩ (.int .i64 (p.2 + hi))).heap.size := by simpa [World.setCell] using nz
        have t0' : ∀ o, (((w4.setCell ⟨w.heap.size, 0, none⟩ (.int .i64 (p.2 + lo))).setCell ⟨w.heap.size, 1, none⟩ (.int .i64 (p.2 + hi))).alloc o).cell? ⟨w.heap.size, 0, none⟩ = _ := fun o => (((Below.refl _ _).alloc (Nat.le_refl _) o).cell (p := ⟨w.heap.size, 0, none⟩) nzS).trans t0
        have t1' : ∀ o, (((w4.setCell ⟨w.heap.size, 0, none⟩ (.int .i64 (p.2 + lo))).setCell ⟨w.heap.size, 1, none⟩ (.int .i64 (p.2 + hi))).alloc o).cell? ⟨w.heap.size, 1, none⟩ = _ := fun o => (((Below.refl _ _).alloc (Nat.le_refl _) o).cell (p := ⟨w.heap.size, 1, none⟩) nzS).trans t1
        have hB2 := (hB.setCell (p := ⟨w.heap.size, 0, none⟩) (Nat.le_refl _) (.int .i64 (p.2 + lo))).setCell (p := ⟨w.heap.size, 1, none⟩) (Nat.le_refl _) (.int .i64 (p.2 + hi))
        have hB3 := hB2.alloc hB2.size (.cells #[.int .i64 lo, .int .i64 hi] 31)
        clear t0 t1 nzS hB2
        go_wp2_with fail
        refine bodyPost_ret (v := .agg #[.int .i64 (p.2 + lo), .int .i64 (p.2 + hi)]) (by simp [results, Try.results33, go_sem, t0', t1']) rfl ⟨rfl, hB3⟩
end Go.Proofs.Ytfdaiififoomoaa
