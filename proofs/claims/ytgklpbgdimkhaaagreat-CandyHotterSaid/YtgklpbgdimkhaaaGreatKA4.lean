/- Contracts: C24, C10, C11, C12, C25, C26, joined. -/
import Derived.Test.YtgklpbgdimkhaaaGreatKA3
import Derived.Test.YtgklpbgdimkhaaaGreatKA2
import Derived.BigRegion
import Derived.Test.YtgklpbgdimkhaaaGreatKA1
import Derived.Test.YtgklpbgdimkhaaaGreatT1
import Derived.Deep.DeepCutAuto
namespace Go.Proofs.YtgklpbgdimkhaaaGreat
open Go.RowKit Go.Lib Go.Shelf
set_option linter.unusedVariables false
set_option linter.unusedSimpArgs false
attribute [local go_sem ↓] Go.wp_at_zero Go.wp_at_succ

theorem infoRow : (Tryz.prog.info? 39).map (fun i => (i.zero, i.size, i.bytes)) = some (some (.agg #[.int .i64 0, .int .i64 0]), 2, 16) := by kernel_rfl

/-- whether a table with rows has a value at x -/
def covB (xs : List (Int × Int)) (x : Int) : Bool := match xs.head?, xs.getLast? with
  | some p, some q => decide (p.1 ≤ x) && decide (x ≤ q.1)
  | _, _ => false
theorem covB_of {xs : List (Int × Int)} {m : Nat} {p q : Int × Int} (x : Int) (hm : xs.length = m + 1) (hp : xs[0]? = some p) (hq : xs[m]? = some q) : covB xs x = (decide (p.1 ≤ x) && decide (x ≤ q.1)) := by
  unfold covB
  rw [List.head?_eq_getElem?, List.getLast?_eq_getElem?, hm, hp, show m + 1 - 1 = m from rfl, hq]
set_option maxRecDepth 20000 in
set_option maxHeartbeats 1000000 in
theorem covers_any (xs : List (Int × Int)) (x : Int) (g off c : Nat) (h1 : 2 ≤ xs.length) (h2 : xs.length ≤ 60) (w : World) (hg : g < w.heap.size) (hr : RRd w g off xs) :
    Calls Tryz.prog 79 #[.slice (some ⟨g, off, none⟩) xs.length c, .int .i64 x] w fun e w' => e = .returned (.bool (covB xs x)) ∧ Below w.heap.size w w' := by
  obtain ⟨m, hm⟩ : ∃ m, xs.length = m + 1 := ⟨xs.length - 1, by omega⟩
  obtain ⟨p, hp⟩ : ∃ p, xs[0]? = some p := ⟨_, List.getElem?_eq_getElem (by omega)⟩
  obtain ⟨q, hq⟩ : ∃ q, xs[m]? = some q := ⟨_, List.getElem?_eq_getElem (by omega)⟩
  rw [covB_of x hm hp hq]
  obtain ⟨p0, p1⟩ := hr 0 p hp
  obtain ⟨q0, q1⟩ := hr m q hq
  rw [hm] at h1 h2 ⊢
  have wm : IntKind.i64.wrap ((m + 1 : Nat) - 1 : Int) = m := by rw [show ((m + 1 : Nat) - 1 : Int) = m from by omega]; exact IntWalk.i64_in _ (by omega)
  have wm' : IntKind.i64.wrap ((m : Int) + 1 - 1) = m := by rw [show ((m : Int) + 1 - 1) = m from by omega]; exact IntWalk.i64_in _ (by omega)
  have hm0 : (0 : Int) ≤ m := by omega
  simp only [Nat.zero_mul, Nat.add_zero] at p0 p1
  clear hr hp hq hm
  obtain ⟨a, ha⟩ : ∃ a, decide (p.1 ≤ x) = a := ⟨_, rfl⟩
  obtain ⟨b, hb⟩ : ∃ b, decide (x ≤ q.1) = b := ⟨_, rfl⟩
  rw [ha, hb]
  cases a <;> cases b
  all_goals
    go_enter Tryz.func79, Tryz.ntmps79
    go_wp2_with fail
    go_ret
    exact ⟨rfl, Below.refl _ _⟩

open Go.RowKit Go.Lib Go.Shelf
set_option linter.unusedVariables false
set_option linter.unusedSimpArgs false
attribute [local go_sem ↓] Go.wp_at_zero Go.wp_at_succ

/-- since w nothing below has turned, and block b is there -/
def Kq (b : Nat) (w w' : World) : Prop := Below w.heap.size w w' ∧ b < w'.heap.size
theorem keepq {w W W' : World} {b : Nat} {x y : Option Value} (hb : Below W.heap.size W W') (h : W.cell? ⟨b, 0, none⟩ = x ∧ W.cell? ⟨b, 1, none⟩ = y ∧ Kq b w W) :
    W'.cell? ⟨b, 0, none⟩ = x ∧ W'.cell? ⟨b, 1, none⟩ = y ∧ Kq b w W' := by
  obtain ⟨h1, h2, h3, h4⟩ := h
  exact ⟨cell_next hb h4 h1, cell_next hb h4 h2, h3.trans (hb.mono h3.size), Nat.lt_of_lt_of_le h4 hb.size⟩

theorem cbE_ok {a s brix : Int} (h : cbE a s brix = 0) : spB a s = true ∧ 1 ≤ brix ∧ brix ≤ 10000 ∧ s ≠ 0 := by
  unfold cbE at h
  split at h
  · rename_i hs
    split at h
    · omega
    · split at h
      · omega
      · exact ⟨hs, by omega, by omega, by assumption⟩
  · omega

def boilW (a s brix : Int) : Int := if cbE a s brix = 0 then max 0 (a + s - s * 10000 / brix) else 0
def boilE (a s brix : Int) : Int := cbE a s brix

set_option maxRecDepth 20000 in
set_option maxHeartbeats 400000 in
theorem boil_any (a s brix : Int) (w : World) :
    Calls Tryz.prog 102 #[.agg #[.int .i64 a, .int .i64 s], .int .i64 brix] w fun e w' => e = .returned (.tuple #[.int .i64 (boilW a s brix), .int .i64 (boilE a s brix)]) ∧ Below w.heap.size w w' := by
  have c1 := Lib.hid (checkBrix_any a s brix)
  have eW : Hid (boilW a s brix = if cbE a s brix = 0 then max 0 (a + s - s * 10000 / brix) else 0) := Lib.hid rfl
  have eE : Hid (boilE a s brix = cbE a s brix) := Lib.hid rfl
  generalize boilW a s brix = rw_ at *
  generalize boilE a s brix = re at *
  have c2 : Hid (cbE a s brix = 0 → ∀ w, Calls Tryz.prog 118 #[.agg #[.int .i64 a, .int .i64 s]] w fun e w' => e = .returned (.int .i64 (a + s)) ∧ Below w.heap.size w w') := fun h w => sapMass_any a s (cbE_ok h).1 w
  have c3 : Hid (cbE a s brix = 0 → ∀ w, Calls Tryz.prog 132 #[.agg #[.int .i64 a, .int .i64 s], .int .i64 brix] w fun e w' => e = .returned (.int .i64 (s * 10000 / brix)) ∧ Below w.heap.size w w') := fun h w => by
    obtain ⟨h1, h2, h3, h4⟩ := cbE_ok h
    have := spB_of h1
    exact massAt_any a s brix (by omega) (by omega) h2 h3 w
  have hbd : cbE a s brix = 0 → 0 ≤ a + s ∧ a + s ≤ 2000000000000 ∧ 0 ≤ s * 10000 / brix ∧ s * 10000 / brix ≤ 10000000000000000 := fun h => by
    obtain ⟨h1, h2, h3, h4⟩ := cbE_ok h
    have := spB_of h1
    obtain ⟨_, _, p, q⟩ := massAt_q s brix (by omega) (by omega) h2 h3
    exact ⟨by omega, by omega, p, q⟩
  generalize cbE a s brix = r at *
  generalize s * 10000 / brix = q at *
  generalize a + s = m at *
  by_cases hr : r = 0
  · subst hr
    obtain ⟨m1, m2, q1, q2⟩ := hbd rfl
    have d2 := Lib.hid (c2.out rfl)
    have d3 := Lib.hid (c3.out rfl)
    clear hbd c2 c3
    go_enter Tryz.func102, Tryz.ntmps102
    go_wp2_with fail
    refine (c1.out _).mono ?_
    rintro e w1 ⟨rfl, hb1⟩
    have hS : w1.cell? ⟨w.heap.size + 1, 0, none⟩ = some (.int .i64 a) ∧ w1.cell? ⟨w.heap.size + 1, 1, none⟩ = some (.int .i64 s) ∧ Kq (w.heap.size + 1) w w1 :=
      ⟨cell_next hb1 (by simp) (by simp [go_sem]), cell_next hb1 (by simp) (by simp [go_sem]), below2 hb1, by have := hb1.size; simp at this; omega⟩
    clear hb1
    obtain ⟨s0, s1, k⟩ := hS
    go_wp2_with fail
    have hwr : IntKind.i64.wrap (m - q) = m - q := IntWalk.i64_in _ (by omega)
    have hS := And.intro s0 (And.intro s1 k)
    clear s0 s1 k
    go_region_held3 (fun w' => w'.cell? ⟨w.heap.size + 1, 0, none⟩ = some (.int .i64 a) ∧ w'.cell? ⟨w.heap.size + 1, 1, none⟩ = some (.int .i64 s) ∧ Kq (w.heap.size + 1) w w')
      (first | exact keepq (Below.drew (Below.refl _ _)) (by assumption) | exact keepq hb6 (by assumption) | exact keepq hb5 (by assumption) | assumption)
      (first
        | (go_at_call 118; (with_reducible refine (d2.out _).mono ?_); rintro e w5 ⟨rfl, hb5⟩)
        | (go_at_call 132; (with_reducible refine (d3.out _).mono ?_); rintro e w6 ⟨rfl, hb6⟩))
    all_goals
      have hk := (‹_ ∧ _ ∧ Kq _ _ _›).2.2.1
      clear hwr
      go_wp2_with fail
      all_goals
        go_ret2
        refine ⟨ret_ints2 ?_ eE.out.symm, hk⟩
        have e := eW.out
        simp only [if_true] at e
        omega
  · have hrb : (r != 0) = true := by simp [hr]
    rw [if_neg hr] at eW
    have hr' := Lib.hid hr
    clear hr c2 c3 hbd
    go_enter Tryz.func102, Tryz.ntmps102
    go_wp2_with fail
    refine (c1.out _).mono ?_
    rintro e w1 ⟨rfl, hb1⟩
    have hB := below2 hb1
    clear hb1
    go_wp2_with fail
    go_ret2
    exact ⟨ret_ints2 eW.out.symm eE.out.symm, hB⟩

open Go.RowKit Go.Lib Go.Shelf
set_option linter.unusedVariables false
set_option linter.unusedSimpArgs false
attribute [local go_sem ↓] Go.wp_at_zero Go.wp_at_succ

open Go.RowKit Go.Lib Go.Shelf
set_option linter.unusedVariables false
set_option linter.unusedSimpArgs false
attribute [local go_sem ↓] Go.wp_at_zero Go.wp_at_succ

theorem set2 {w : World} {b : Nat} {u v : Value} (x y : Value) (h0 : w.cell? ⟨b, 0, none⟩ = some u) (h1 : w.cell? ⟨b, 1, none⟩ = some v) :
    ((w.setCell ⟨b, 0, none⟩ x).setCell ⟨b, 1, none⟩ y).cell? ⟨b, 0, none⟩ = some x ∧ ((w.setCell ⟨b, 0, none⟩ x).setCell ⟨b, 1, none⟩ y).cell? ⟨b, 1, none⟩ = some y := by
  have e1 : (w.setCell ⟨b, 0, none⟩ x).cell? ⟨b, 1, none⟩ = some v := by rw [World.cell?_setCell_other _ _ _ _ (by intro h; injection h; omega)]; exact h1
  refine ⟨?_, World.cell?_setCell_same _ _ _ e1⟩
  rw [World.cell?_setCell_other _ _ _ _ (by intro h; injection h; omega)]
  exact World.cell?_setCell_same _ _ _ h0
theorem set2_far {w : World} {b c o : Nat} {v : Option Value} (x y : Value) (hne : b ≠ c) (h : w.cell? ⟨c, o, none⟩ = v) : ((w.setCell ⟨b, 0, none⟩ x).setCell ⟨b, 1, none⟩ y).cell? ⟨c, o, none⟩ = v := by
  rw [World.cell?_setCell_other _ _ _ _ (by intro h; injection h; omega), World.cell?_setCell_other _ _ _ _ (by intro h; injection h; omega)]
  exact h

open Go.RowKit Go.Lib Go.Shelf
set_option linter.unusedVariables false
set_option linter.unusedSimpArgs false
attribute [local go_sem ↓] Go.wp_at_zero Go.wp_at_succ

/-- the value between two rows, rounded down and up -/
def segV (p q : Int × Int) (x : Int) : Int × Int := (p.2 + (q.2 - p.2) * (x - p.1) / (q.1 - p.1), p.2 + -(-((q.2 - p.2) * (x - p.1)) / (q.1 - p.1)))
def IsVal (xs : List (Int × Int)) (x : Int) (v : Int × Int) : Prop := ∃ k p q, xs[k]? = some p ∧ xs[k + 1]? = some q ∧ p.1 ≤ x ∧ x ≤ q.1 ∧ v = segV p q x
/-- a valid table -/
def TabOk (xs : List (Int × Int)) : Prop := 2 ≤ xs.length ∧ xs.length ≤ 60 ∧ (∀ p ∈ xs, rowB p.1 p.2 = true) ∧ ∀ (i j : Nat) (p q : Int × Int), i < j → xs[i]? = some p → xs[j]? = some q → p.1 < q.1
theorem segV_left {p q : Int × Int} (h : p.1 < q.1) : segV p q p.1 = (p.2, p.2) := by simp [segV]
theorem segV_right {p q : Int × Int} (h : p.1 < q.1) : segV p q q.1 = (q.2, q.2) := by
  have e1 : (q.2 - p.2) * (q.1 - p.1) / (q.1 - p.1) = q.2 - p.2 := Int.mul_ediv_cancel _ (by omega)
  have e2 : -((q.2 - p.2) * (q.1 - p.1)) / (q.1 - p.1) = -(q.2 - p.2) := by rw [← Int.neg_mul]; exact Int.mul_ediv_cancel _ (by omega)
  unfold segV
  rw [e1, e2]
  ext <;> simp <;> omega
theorem isVal_one {xs : List (Int × Int)} {x : Int} {u v : Int × Int} (ht : TabOk xs) (hu : IsVal xs x u) (hv : IsVal xs x v) : u = v := by
  have key : ∀ (k l : Nat) (p q p' q' : Int × Int), k < l → xs[k]? = some p → xs[k + 1]? = some q → xs[l]? = some p' → xs[l + 1]? = some q' → p.1 ≤ x → x ≤ q.1 → p'.1 ≤ x → x ≤ q'.1 → segV p q x = segV p' q' x := by
    intro k l p q p' q' hkl h1 h2 h3 h4 h5 h6 h7 h8
    have a1 := ht.2.2.2 k (k + 1) _ _ (by omega) h1 h2
    have a2 := ht.2.2.2 l (l + 1) _ _ (by omega) h3 h4
    by_cases e : l = k + 1
    · subst e
      rw [h2] at h3
      injection h3 with h3
      subst h3
      obtain rfl : x = q.1 := by omega
      rw [segV_right a1, segV_left a2]
    · have a3 := ht.2.2.2 (k + 1) l _ _ (by omega) h2 h3
      omega
  obtain ⟨k, p, q, h1, h2, h3, h4, rfl⟩ := hu
  obtain ⟨l, p', q', g1, g2, g3, g4, rfl⟩ := hv
  rcases Nat.lt_trichotomy k l with h | h | h
  · exact key k l p q p' q' h h1 h2 g1 g2 h3 h4 g3 g4
  · subst h
    rw [h1] at g1; rw [h2] at g2
    injection g1 with g1; injection g2 with g2
    subst g1 g2; rfl
  · exact (key l k p' q' p q h g1 g2 h1 h2 g3 g4 h3 h4).symm
open Classical in
noncomputable def valV (xs : List (Int × Int)) (x : Int) : Int × Int := if h : ∃ v, IsVal xs x v then h.choose else (0, 0)
theorem valV_is {xs : List (Int × Int)} {x : Int} {v : Int × Int} (ht : TabOk xs) (h : IsVal xs x v) : valV xs x = v := by
  have he : ∃ v, IsVal xs x v := ⟨v, h⟩
  unfold valV
  rw [dif_pos he]
  exact isVal_one ht he.choose_spec h
/-- the stretch that valueAt comes to -/
theorem seg_first {xs : List (Int × Int)} {x : Int} (ht : TabOk xs) (hc : covB xs x = true) : ∃ k p q, xs[k]? = some p ∧ xs[k + 1]? = some q ∧ p.1 ≤ x ∧ x ≤ q.1 ∧ ∀ j r, j < k → xs[j + 1]? = some r → r.1 < x := by
  obtain ⟨m, hm⟩ : ∃ m, xs.length = m + 1 := ⟨xs.length - 1, by have := ht.1; omega⟩
  have hm1 : 1 ≤ m := by have := ht.1; omega
  obtain ⟨p, hp⟩ : ∃ p, xs[0]? = some p := ⟨_, List.getElem?_eq_getElem (by omega)⟩
  obtain ⟨q, hq⟩ : ∃ q, xs[m]? = some q := ⟨_, List.getElem?_eq_getElem (by omega)⟩
  rw [covB_of x hm hp hq] at hc
  simp at hc
  have key : ∀ d k p, k + d = m → 1 ≤ d → xs[k]? = some p → p.1 ≤ x → (∀ j r, j < k → xs[j + 1]? = some r → r.1 < x) → ∃ k p q, xs[k]? = some p ∧ xs[k + 1]? = some q ∧ p.1 ≤ x ∧ x ≤ q.1 ∧ ∀ j r, j < k → xs[j + 1]? = some r → r.1 < x := by
    intro d
    induction d with
    | zero => intro k p _ h; omega
    | succ d ih =>
      intro k p hk _ hp hpx hj
      obtain ⟨r, hr⟩ : ∃ r, xs[k + 1]? = some r := ⟨_, List.getElem?_eq_getElem (by omega)⟩
      by_cases hx : x ≤ r.1
      · exact ⟨k, p, r, hp, hr, hpx, hx, hj⟩
      · refine ih (k + 1) r (by omega) ?_ hr (by omega) (fun j s hj' hs => ?_)
        · rcases Nat.eq_zero_or_pos d with h | h
          · subst h
            rw [show k + 1 = m from by omega, hq] at hr
            injection hr with hr; subst hr; omega
          · exact h
        · by_cases e : j = k
          · subst e; rw [hr] at hs; injection hs with hs; subst hs; omega
          · exact hj j s (by omega) hs
  exact key m 0 p (by omega) hm1 hp hc.1 (fun j r h => by omega)

set_option maxRecDepth 20000 in
set_option maxHeartbeats 4000000 in
theorem valueAt_any (xs : List (Int × Int)) (x : Int) (g off c : Nat) (ht : TabOk xs) (hcv : covB xs x = true) (w : World) (hg : g < w.heap.size) (hr : RRd w g off xs) :
    Calls Tryz.prog 80 #[.slice (some ⟨g, off, none⟩) xs.length c, .int .i64 x] w fun e w' => e = .returned (.agg #[.int .i64 (valV xs x).1, .int .i64 (valV xs x).2]) ∧ Below w.heap.size w w' := by
  obtain ⟨k, p, q, hp, hq, hpx, hxq, hbef⟩ := seg_first ht hcv
  have hv := valV_is ht ⟨k, p, q, hp, hq, hpx, hxq, rfl⟩
  rw [hv]
  have hpq := ht.2.2.2 k (k + 1) _ _ (by omega) hp hq
  obtain ⟨r1, r2, r3, r4⟩ := rowB_of (ht.2.2.1 p (List.mem_of_getElem? hp))
  obtain ⟨s1, s2, s3, s4⟩ := rowB_of (ht.2.2.1 q (List.mem_of_getElem? hq))
  have hq0 : (q.2 - p.2).natAbs * (x - p.1).natAbs / (q.1 - p.1).natAbs ≤ 1000000000000000000 := by
    have h1 : (q.2 - p.2).natAbs * (x - p.1).natAbs / (q.1 - p.1).natAbs ≤ (q.2 - p.2).natAbs := Nat.div_le_of_le_mul (by
      rw [Nat.mul_comm (q.1 - p.1).natAbs]
      exact Nat.mul_le_mul_left _ (by omega))
    omega
  have hq1 := q_pos (by omega) hq0
  have hmul : (q.2 - p.2).natAbs * (x - p.1).natAbs < 18446744073709551616 := by
    have : (q.2 - p.2).natAbs * (x - p.1).natAbs ≤ 2000000000 * 2000000000 := Nat.mul_le_mul (by omega) (by omega)
    omega
  have c1 := Lib.hid (around_of (q.2 - p.2) (x - p.1) (q.1 - p.1) (divide_small _ _ _ ⟨by omega, by omega⟩ ⟨by omega, by omega⟩ ⟨by omega, by omega⟩ (by omega) hmul))
  rw [hq1.1, hq1.2] at c1
  have hlo : -2000000000 ≤ (q.2 - p.2) * (x - p.1) / (q.1 - p.1) ∧ (q.2 - p.2) * (x - p.1) / (q.1 - p.1) ≤ 2000000000 ∧ -2000000000 ≤ -(-((q.2 - p.2) * (x - p.1)) / (q.1 - p.1)) ∧ -(-((q.2 - p.2) * (x - p.1)) / (q.1 - p.1)) ≤ 2000000000 := by
    have hA : ((q.2 - p.2) * (x - p.1)).natAbs ≤ 2000000000 * (q.1 - p.1).natAbs := by rw [Int.natAbs_mul]; exact Nat.mul_le_mul (by omega) (by omega)
    generalize (q.2 - p.2) * (x - p.1) = A at *
    have hd : 0 < q.1 - p.1 := by omega
    generalize q.1 - p.1 = d at *
    have h1 := Int.le_ediv_of_mul_le (a := -2000000000) (b := A) hd (by omega)
    have h2 := Int.ediv_le_of_le_mul (a := A) (b := 2000000000) hd (by omega)
    have h3 := Int.le_ediv_of_mul_le (a := -2000000000) (b := -A) hd (by omega)
    have h4 := Int.ediv_le_of_le_mul (a := -A) (b := 2000000000) hd (by omega)
    omega
  unfold segV
  generalize (q.2 - p.2) * (x - p.1) / (q.1 - p.1) = lo at *
  generalize -(-((q.2 - p.2) * (x - p.1)) / (q.1 - p.1)) = hi at *
  obtain ⟨l1, l2, l3, l4⟩ := hlo
  have hkn : k + 1 < xs.length := (List.getElem?_eq_some_iff.1 hq).1
  have hn60 := ht.2.1
  obtain ⟨p0, p1⟩ := hr k p hp
  obtain ⟨q0, q1⟩ := hr (k + 1) q hq
  have HR := Lib.hid hr
  have HB := Lib.hid hbef
  obtain ⟨n, hn⟩ : ∃ n, xs.length = n := ⟨_, rfl⟩
  rw [hn] at hkn hn60 ⊢
  have Hn := Lib.hid hn
  have w1 : IntKind.i64.wrap (q.2 - p.2) = q.2 - p.2 := IntWalk.i64_in _ (by omega)
  have w2 : IntKind.i64.wrap (x - p.1) = x - p.1 := IntWalk.i64_in _ (by omega)
  have w3 : IntKind.i64.wrap (q.1 - p.1) = q.1 - p.1 := IntWalk.i64_in _ (by omega)
  have w4 : IntKind.i64.wrap (p.2 + lo) = p.2 + lo := IntWalk.i64_in _ (by omega)
  have w5 : IntKind.i64.wrap (p.2 + hi) = p.2 + hi := IntWalk.i64_in _ (by omega)
  have HC : Hid (∀ W : World, Below w.heap.size w W → W.cell? ⟨g, off + k * 2, none⟩ = some (.int .i64 p.1) ∧ W.cell? ⟨g, off + k * 2 + 1, none⟩ = some (.int .i64 p.2) ∧ W.cell? ⟨g, off + (k + 1) * 2, none⟩ = some (.int .i64 q.1) ∧ W.cell? ⟨g, off + (k + 1) * 2 + 1, none⟩ = some (.int .i64 q.2)) :=
    Lib.hid (fun W h => ⟨(h.cell hg).trans p0, (h.cell hg).trans p1, (h.cell hg).trans q0, (h.cell hg).trans q1⟩)
  clear hn hr hbef hq0 hq1 hmul hv hcv ht hp hq p0 p1 q0 q1
  go_enter Tryz.func80, Tryz.ntmps80
  go_wp2_with fail
  have hK0 : Kp w.heap.size w (w.alloc (.cells #[.int .i64 0, .int .i64 0] 24)) := ⟨(Below.refl _ _).alloc (Nat.le_refl _) _, by simp, ⟨.int .i64 0, by simp [go_sem]⟩, ⟨.int .i64 0, by simp [go_sem]⟩, by simp [go_sem], by simp [go_sem]⟩
  generalize w.alloc (.cells #[.int .i64 0, .int .i64 0] 24) = w2 at *
  have HK := Lib.hid hK0
  clear hK0
  go_loop [5] (fun i => ∃ j : Nat, j ≤ k ∧ i = .int .i64 j) (fun i => k - (RowKit.intOf i).toNat)
  case atStart => exact ⟨0, Nat.zero_le _, rfl⟩
  case round =>
    obtain ⟨j, hj, rfl⟩ := hrel
    have hj0 : (0 : Int) ≤ j := by omega
    by_cases hlt : j < k
    · obtain ⟨r, hr⟩ : ∃ r, xs[j + 1]? = some r := ⟨_, List.getElem?_eq_getElem (by rw [Hn.out]; omega)⟩
      have hrx := HB.out j r hlt hr
      have e0 : w2.cell? ⟨g, off + (j + 1) * 2, none⟩ = some (.int .i64 r.1) := (HK.out.1.cell hg).trans (HR.out (j + 1) r hr).1
      go_wp2_with fail
      go_round
      case rel => exact ⟨j + 1, by omega, by go_num⟩
      case measure => simp [RowKit.intOf]; omega
    · obtain rfl : j = k := by omega
      obtain ⟨e0, e1, e2, e3⟩ := HC.out w2 HK.out.1
      have hsz := HK.out.1.size
      have hg2 : g < w2.heap.size := Nat.lt_of_lt_of_le hg hsz
      have z0 : ∀ o, (w2.alloc o).cell? ⟨g, off + j * 2, none⟩ = _ := fun o => (((Below.refl w2.heap.size w2).alloc (Nat.le_refl _) o).cell (p := ⟨g, off + j * 2, none⟩) hg2).trans e0
      have y0 : ∀ o o', ((w2.alloc o).alloc o').cell? ⟨g, off + j * 2, none⟩ = _ := fun o o' => ((((Below.refl w2.heap.size w2).alloc (Nat.le_refl _) o).alloc (by simp) o').cell (p := ⟨g, off + j * 2, none⟩) hg2).trans e0
      have z1 : ∀ o, (w2.alloc o).cell? ⟨g, off + j * 2 + 1, none⟩ = _ := fun o => (((Below.refl w2.heap.size w2).alloc (Nat.le_refl _) o).cell (p := ⟨g, off + j * 2 + 1, none⟩) hg2).trans e1
      have y1 : ∀ o o', ((w2.alloc o).alloc o').cell? ⟨g, off + j * 2 + 1, none⟩ = _ := fun o o' => ((((Below.refl w2.heap.size w2).alloc (Nat.le_refl _) o).alloc (by simp) o').cell (p := ⟨g, off + j * 2 + 1, none⟩) hg2).trans e1
      have z2 : ∀ o, (w2.alloc o).cell? ⟨g, off + (j + 1) * 2, none⟩ = _ := fun o => (((Below.refl w2.heap.size w2).alloc (Nat.le_refl _) o).cell (p := ⟨g, off + (j + 1) * 2, none⟩) hg2).trans e2
      have y2 : ∀ o o', ((w2.alloc o).alloc o').cell? ⟨g, off + (j + 1) * 2, none⟩ = _ := fun o o' => ((((Below.refl w2.heap.size w2).alloc (Nat.le_refl _) o).alloc (by simp) o').cell (p := ⟨g, off + (j + 1) * 2, none⟩) hg2).trans e2
      have z3 : ∀ o, (w2.alloc o).cell? ⟨g, off + (j + 1) * 2 + 1, none⟩ = _ := fun o => (((Below.refl w2.heap.size w2).alloc (Nat.le_refl _) o).cell (p := ⟨g, off + (j + 1) * 2 + 1, none⟩) hg2).trans e3
      have y3 : ∀ o o', ((w2.alloc o).alloc o').cell? ⟨g, off + (j + 1) * 2 + 1, none⟩ = _ := fun o o' => ((((Below.refl w2.heap.size w2).alloc (Nat.le_refl _) o).alloc (by simp) o').cell (p := ⟨g, off + (j + 1) * 2 + 1, none⟩) hg2).trans e3
      go_upto_region 4 with fail
      go_cut [6, 7] (fun s6 s7 wx => ∃ gx gy : Nat, s6 = .pointer (some ⟨gx, 0, none⟩) ∧ s7 = .pointer (some ⟨gy, 0, none⟩) ∧ wx.cell? ⟨gx, 0, none⟩ = some (.int .i64 p.1) ∧ wx.cell? ⟨gx, 1, none⟩ = some (.int .i64 p.2) ∧ wx.cell? ⟨gy, 0, none⟩ = some (.int .i64 q.1) ∧ wx.cell? ⟨gy, 1, none⟩ = some (.int .i64 q.2) ∧ Kp w.heap.size w wx)
      case first =>
        go_region
        all_goals
          go_wp2_with fail
          go_meet
          first
            | refine ⟨w2.heap.size, w2.heap.size + 1, rfl, rfl, by simp [go_sem], by simp [go_sem], by simp [go_sem], by simp [go_sem], HK.out.next hsz ?_⟩
            | refine ⟨w2.heap.size + 1, w2.heap.size, rfl, rfl, by simp [go_sem], by simp [go_sem], by simp [go_sem], by simp [go_sem], HK.out.next hsz ?_⟩
          repeat (first | exact Below.refl _ _ | (with_reducible refine Below.setCell ?_ (by simp) _) | (with_reducible refine Below.alloc ?_ (by simp) _) | (with_reducible refine Below.drew ?_))
      case rest =>
        clear z0 z1 z2 z3 y0 y1 y2 y3 e0 e1 e2 e3 HK hsz hg2 HC HB HR
        obtain ⟨gx, gy, rfl, rfl, x0, x1, y0, y1, hk⟩ := hcut
        have nx := World.block_lt_of_cell? _ _ x0
        have ny := World.block_lt_of_cell? _ _ y0
        simp only at nx ny
        go_wp2_with fail
        refine (quotientOf3 (q.2 - p.2) (x - p.1) (q.1 - p.1) _ _ (by simp) (by simp [go_sem]) (by simp [go_sem]) (by simp [go_sem])).mono ?_
        rintro e w3 ⟨rfl, hb⟩
        replace hb := below1 hb
        replace x0 := cell_next hb nx x0
        replace x1 := cell_next hb nx x1
        replace y0 := cell_next hb ny y0
        replace y1 := cell_next hb ny y1
        replace hk := hk.next hk.1.size hb
        replace nx := Nat.lt_of_lt_of_le nx hb.size
        replace ny := Nat.lt_of_lt_of_le ny hb.size
        clear hb
        go_wp2_with fail
        refine (c1.out _).mono ?_
        rintro e w4 ⟨rfl, hb⟩
        replace x0 := cell_next hb nx x0
        replace x1 := cell_next hb nx x1
        replace hk := hk.next hk.1.size hb
        replace nx := Nat.lt_of_lt_of_le nx hb.size
        clear hb y0 y1 ny
        obtain ⟨hB, nz, ⟨u0, r0⟩, ⟨u1, r1⟩, f0, f1⟩ := hk
        have k0 : ∀ o, (w4.alloc o).cell? ⟨gx, 0, none⟩ = _ := fun o => (((Below.refl w4.heap.size w4).alloc (Nat.le_refl _) o).cell (p := ⟨gx, 0, none⟩) nx).trans x0
        have k1 : ∀ o, (w4.alloc o).cell? ⟨gx, 1, none⟩ = _ := fun o => (((Below.refl w4.heap.size w4).alloc (Nat.le_refl _) o).cell (p := ⟨gx, 1, none⟩) nx).trans x1
        obtain ⟨t0, t1⟩ := set2 (.int .i64 (p.2 + lo)) (.int .i64 (p.2 + hi)) r0 r1
        have nzS : w.heap.size < ((w4.setCell ⟨w.heap.size, 0, none⟩ (.int .i64 (p.2 + lo))).setCell ⟨w.heap.size, 1, none⟩ (.int .i64 (p.2 + hi))).heap.size := by simpa [World.setCell] using nz
        have t0' : ∀ o, (((w4.setCell ⟨w.heap.size, 0, none⟩ (.int .i64 (p.2 + lo))).setCell ⟨w.heap.size, 1, none⟩ (.int .i64 (p.2 + hi))).alloc o).cell? ⟨w.heap.size, 0, none⟩ = _ := fun o => (((Below.refl _ _).alloc (Nat.le_refl _) o).cell (p := ⟨w.heap.size, 0, none⟩) nzS).trans t0
        have t1' : ∀ o, (((w4.setCell ⟨w.heap.size, 0, none⟩ (.int .i64 (p.2 + lo))).setCell ⟨w.heap.size, 1, none⟩ (.int .i64 (p.2 + hi))).alloc o).cell? ⟨w.heap.size, 1, none⟩ = _ := fun o => (((Below.refl _ _).alloc (Nat.le_refl _) o).cell (p := ⟨w.heap.size, 1, none⟩) nzS).trans t1
        have hB2 := (hB.setCell (p := ⟨w.heap.size, 0, none⟩) (Nat.le_refl _) (.int .i64 (p.2 + lo))).setCell (p := ⟨w.heap.size, 1, none⟩) (Nat.le_refl _) (.int .i64 (p.2 + hi))
        have hB3 := hB2.alloc hB2.size (.cells #[.int .i64 lo, .int .i64 hi] 24)
        clear t0 t1 nzS hB2
        go_wp2_with fail
        refine bodyPost_ret (v := .agg #[.int .i64 (p.2 + lo), .int .i64 (p.2 + hi)]) (by simp [results, Tryz.results80, go_sem, t0', t1']) rfl ⟨rfl, hB3⟩

open Go.RowKit Go.Lib Go.Shelf
set_option linter.unusedVariables false
set_option linter.unusedSimpArgs false
attribute [local go_sem ↓] Go.wp_at_zero Go.wp_at_succ

set_option maxHeartbeats 400000 in
theorem checkTable_bad (A : Option Addr) (n c : Nat) (h : n < 2 ∨ 60 < n) (w : World) :
    Calls Tryz.prog 78 #[.slice A n c] w fun e w' => e = .returned (.int .i64 2) ∧ Below w.heap.size w w' := by
  rcases (by omega : n < 2 ∨ ¬ n < 2 ∧ 60 < n) with h | ⟨h0, h⟩
  all_goals
    go_enter Tryz.func78, Tryz.ntmps78
    go_wp2_with fail
    go_ret
    exact ⟨rfl, Below.refl _ _⟩
theorem checkTable_any (v : Value) (xs : List (Int × Int)) (w : World) (hv : SetAt w.heap.size w v xs) :
    Calls Tryz.prog 78 #[v] w fun e w' => e = .returned (.int .i64 (tabE xs)) ∧ Below w.heap.size w w' := by
  obtain ⟨A, c, rfl, h⟩ := hv
  by_cases hl : xs.length < 2 ∨ 60 < xs.length
  · rw [tabE_short hl]
    exact checkTable_bad A _ c hl w
  · obtain ⟨g, off, rfl, hg, hr⟩ := h (by omega)
    exact checkTable_long g off xs c w hg hr (by omega) (by omega)
theorem tabOk_of {xs : List (Int × Int)} (h : tabE xs = 0) : TabOk xs := by
  have hl : ¬ (xs.length < 2 ∨ 60 < xs.length) := fun hl => by rw [tabE_short hl] at h; cases h
  have hr : rowsOk xs xs.length = true := by
    cases hc : rowsOk xs xs.length with
    | true => rfl
    | false => rw [tabE_no hc] at h; cases h
  have hk : ∀ k, k < xs.length → rowOk xs k = true := fun k hk => List.all_eq_true.1 hr k (by simpa using hk)
  have hstep : ∀ (i : Nat) (p q : Int × Int), xs[i]? = some p → xs[i + 1]? = some q → p.1 < q.1 := fun i p q hp hq => by
    have := hk (i + 1) (List.getElem?_eq_some_iff.1 hq).1
    rw [rowOk_succ hq hp] at this
    simp at this
    exact this.2
  refine ⟨by omega, by omega, fun p hp => ?_, ?_⟩
  · obtain ⟨k, hk2, e⟩ := List.mem_iff_getElem.1 hp
    have h1 : xs[k]? = some p := by rw [List.getElem?_eq_getElem hk2, e]
    have := hk k hk2
    rw [rowOk_of h1, Bool.and_eq_true] at this
    exact this.1
  · have key : ∀ (d i : Nat) (p q : Int × Int), xs[i]? = some p → xs[i + d + 1]? = some q → p.1 < q.1 := by
      intro d
      induction d with
      | zero => intro i p q hp hq; exact hstep i p q hp hq
      | succ d ih =>
        intro i p q hp hq
        obtain ⟨r, hr⟩ : ∃ r, xs[i + d + 1]? = some r := ⟨_, List.getElem?_eq_getElem (by have := (List.getElem?_eq_some_iff.1 hq).1; omega)⟩
        have h1 := ih i p r hp hr
        have h2 := hstep (i + d + 1) r q hr hq
        omega
    intro i j p q hij hp hq
    exact key (j - i - 1) i p q hp (by rw [show i + (j - i - 1) + 1 = j from by omega]; exact hq)

/-- the error of Value, and what it returns -/
def vaE (xs : List (Int × Int)) (x : Int) : Int := if tabE xs = 0 then (if covB xs x then 0 else 3) else tabE xs
noncomputable def vaR (xs : List (Int × Int)) (x : Int) : Int × Int := if vaE xs x = 0 then valV xs x else (0, 0)
set_option maxRecDepth 20000 in
set_option maxHeartbeats 1000000 in
theorem value_any (v : Value) (xs : List (Int × Int)) (x : Int) (w : World) (hv : SetAt w.heap.size w v xs) :
    Calls Tryz.prog 37 #[v, .int .i64 x] w fun e w' => e = .returned (.tuple #[.agg #[.int .i64 (vaR xs x).1, .int .i64 (vaR xs x).2], .int .i64 (vaE xs x)]) ∧ Below w.heap.size w w' := by
  have c1 := Lib.hid (fun (W : World) (h : Below w.heap.size w W) => checkTable_any v xs W ((hv.below h (Nat.le_refl _)).mono h.size))
  by_cases ht : tabE xs = 0
  · have hT := tabOk_of ht
    obtain ⟨A, c, rfl, h⟩ := hv
    obtain ⟨g, off, rfl, hg, hr⟩ := h (by have := hT.1; omega)
    have c2 := Lib.hid (fun (W : World) (h : Below w.heap.size w W) => covers_any xs x g off c hT.1 hT.2.1 W (Nat.lt_of_lt_of_le hg h.size) (hr.below h hg))
    rw [ht] at c1
    by_cases hc : covB xs x = true
    · have c3 := Lib.hid (fun (W : World) (h : Below w.heap.size w W) => valueAt_any xs x g off c hT hc W (Nat.lt_of_lt_of_le hg h.size) (hr.below h hg))
      have e1 : vaE xs x = 0 := by unfold vaE; rw [if_pos ht, if_pos hc]
      have e2 : vaR xs x = valV xs x := by unfold vaR; rw [if_pos e1]
      rw [e1, e2]
      rw [hc] at c2
      generalize valV xs x = r at *
      generalize xs.length = n at *
      clear h hr hT ht hc e1 e2
      go_enter Tryz.func37, Tryz.ntmps37
      go_wp2_with fail
      refine (c1.out _ ((Below.refl _ _).alloc (Nat.le_refl _) _)).mono ?_
      rintro e W1 ⟨rfl, hb⟩
      have a0 := cell_next hb (b := w.heap.size) (o := 0) (by simp <;> omega) (v := some (.int .i64 0)) (by simp [go_sem])
      have fa0 := frozen_next hb (b := w.heap.size) (o := 0) (by simp <;> omega) (v := false) (by simp [go_sem])
      have a1 := cell_next hb (b := w.heap.size) (o := 1) (by simp <;> omega) (v := some (.int .i64 0)) (by simp [go_sem])
      have fa1 := frozen_next hb (b := w.heap.size) (o := 1) (by simp <;> omega) (v := false) (by simp [go_sem])
      have na : w.heap.size < W1.heap.size := by have := hb.size; simp at this; omega
      have hB := (below1 hb)
      clear hb
      go_wp2_with fail
      refine (c2.out _ hB).mono ?_
      rintro e W2 ⟨rfl, hb⟩
      replace a0 := cell_next hb na a0
      replace fa0 := frozen_next hb na fa0
      replace a1 := cell_next hb na a1
      replace fa1 := frozen_next hb na fa1
      replace na := Nat.lt_of_lt_of_le na hb.size
      replace hB := hB.trans (hb.mono hB.size)
      clear hb
      go_wp2_with fail
      refine (c3.out _ hB).mono ?_
      rintro e W3 ⟨rfl, hb⟩
      replace a0 := cell_next hb na a0
      replace fa0 := frozen_next hb na fa0
      replace a1 := cell_next hb na a1
      replace fa1 := frozen_next hb na fa1
      replace na := Nat.lt_of_lt_of_le na hb.size
      replace hB := hB.trans (hb.mono hB.size)
      clear hb
      go_wp2_with fail
      refine bodyPost_ret (v := .tuple #[.agg #[.int .i64 r.1, .int .i64 r.2], .int .i64 0]) (by simp [results, Tryz.results37, go_sem, a0, a1, fa0, fa1]) rfl ⟨rfl, ?_⟩
      exact ((hB.setCell (p := ⟨w.heap.size, 0, none⟩) (by simp <;> omega) _).setCell (p := ⟨w.heap.size, 1, none⟩) (by simp <;> omega) _)
    · have e1 : vaE xs x = 3 := by unfold vaE; rw [if_pos ht, if_neg hc]
      have e2 : vaR xs x = (0, 0) := by unfold vaR; rw [e1]; rfl
      rw [e1, e2]
      rw [Bool.not_eq_true] at hc
      rw [hc] at c2
      generalize xs.length = n at *
      clear h hr hT ht hc e1 e2
      go_enter Tryz.func37, Tryz.ntmps37
      go_wp2_with fail
      refine (c1.out _ ((Below.refl _ _).alloc (Nat.le_refl _) _)).mono ?_
      rintro e W1 ⟨rfl, hb⟩
      have a0 := cell_next hb (b := w.heap.size) (o := 0) (by simp <;> omega) (v := some (.int .i64 0)) (by simp [go_sem])
      have fa0 := frozen_next hb (b := w.heap.size) (o := 0) (by simp <;> omega) (v := false) (by simp [go_sem])
      have a1 := cell_next hb (b := w.heap.size) (o := 1) (by simp <;> omega) (v := some (.int .i64 0)) (by simp [go_sem])
      have fa1 := frozen_next hb (b := w.heap.size) (o := 1) (by simp <;> omega) (v := false) (by simp [go_sem])
      have na : w.heap.size < W1.heap.size := by have := hb.size; simp at this; omega
      have hB := (below1 hb)
      clear hb
      go_wp2_with fail
      refine (c2.out _ hB).mono ?_
      rintro e W2 ⟨rfl, hb⟩
      replace a0 := cell_next hb na a0
      replace fa0 := frozen_next hb na fa0
      replace a1 := cell_next hb na a1
      replace fa1 := frozen_next hb na fa1
      replace na := Nat.lt_of_lt_of_le na hb.size
      replace hB := hB.trans (hb.mono hB.size)
      clear hb
      go_wp2_with fail
      refine bodyPost_ret (v := .tuple #[.agg #[.int .i64 0, .int .i64 0], .int .i64 3]) (by simp [results, Tryz.results37, go_sem, a0, a1, fa0, fa1]) rfl ⟨rfl, ?_⟩
      exact ((hB.setCell (p := ⟨w.heap.size, 0, none⟩) (by simp <;> omega) _).setCell (p := ⟨w.heap.size, 1, none⟩) (by simp <;> omega) _)
  · have e1 : vaE xs x = tabE xs := by unfold vaE; rw [if_neg ht]
    have e2 : vaR xs x = (0, 0) := by unfold vaR; rw [if_neg (by rw [e1]; exact ht)]
    rw [e1, e2]
    have hne : (tabE xs != 0) = true := by simpa using ht
    obtain ⟨A, c, rfl, _⟩ := hv
    generalize tabE xs = s at *
    generalize xs.length = n at *
    clear ht e1 e2
    go_enter Tryz.func37, Tryz.ntmps37
    go_wp2_with fail
    refine (c1.out _ ((Below.refl _ _).alloc (Nat.le_refl _) _)).mono ?_
    rintro e W1 ⟨rfl, hb⟩
    have a0 := cell_next hb (b := w.heap.size) (o := 0) (by simp <;> omega) (v := some (.int .i64 0)) (by simp [go_sem])
    have fa0 := frozen_next hb (b := w.heap.size) (o := 0) (by simp <;> omega) (v := false) (by simp [go_sem])
    have a1 := cell_next hb (b := w.heap.size) (o := 1) (by simp <;> omega) (v := some (.int .i64 0)) (by simp [go_sem])
    have fa1 := frozen_next hb (b := w.heap.size) (o := 1) (by simp <;> omega) (v := false) (by simp [go_sem])
    have na : w.heap.size < W1.heap.size := by have := hb.size; simp at this; omega
    have hB := (below1 hb)
    clear hb
    go_wp2_with fail
    refine bodyPost_ret (v := .tuple #[.agg #[.int .i64 0, .int .i64 0], .int .i64 s]) (by simp [results, Tryz.results37, go_sem, a0, a1, fa0, fa1]) rfl ⟨rfl, ?_⟩
    exact ((hB.setCell (p := ⟨w.heap.size, 0, none⟩) (by simp <;> omega) _).setCell (p := ⟨w.heap.size, 1, none⟩) (by simp <;> omega) _)
end Go.Proofs.YtgklpbgdimkhaaaGreat
