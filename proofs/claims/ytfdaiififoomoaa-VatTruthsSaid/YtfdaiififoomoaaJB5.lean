/- Contracts: C26, P11, T4, T5, joined. -/
import Derived.Test.YtfdaiififoomoaaJB4
import Derived.Test.YtfdaiififoomoaaJB3
namespace Go.Proofs.Ytfdaiififoomoaa
open Go.RowKit Go.Lib Go.Shelf
set_option linter.unusedVariables false
set_option linter.unusedSimpArgs false
attribute [local go_sem ↓] Go.wp_at_zero Go.wp_at_succ

set_option maxHeartbeats 400000 in
theorem checkTable_bad (A : Option Addr) (n c : Nat) (h : n < 2 ∨ 60 < n) (w : World) :
    Calls Try.prog 31 #[.slice A n c] w fun e w' => e = .returned (.int .i64 2) ∧ Below w.heap.size w w' := by
  rcases (by omega : n < 2 ∨ ¬ n < 2 ∧ 60 < n) with h | ⟨h0, h⟩
  all_goals
    go_enter Try.func31, Try.ntmps31
    go_wp2_with fail
    go_ret
    exact ⟨rfl, Below.refl _ _⟩
theorem checkTable_any (v : Value) (xs : List (Int × Int)) (w : World) (hv : SetAt w.heap.size w v xs) :
    Calls Try.prog 31 #[v] w fun e w' => e = .returned (.int .i64 (tabE xs)) ∧ Below w.heap.size w w' := by
  obtain ⟨A, c, rfl, h⟩ := hv
  by_cases hl : xs.length < 2 ∨ 60 < xs.length
  · rw [tabE_short hl]
    exact checkTable_bad A _ c hl w
  · obtain ⟨g, off, rfl, hg, hr⟩ := h (by omega)
    exact checkTable_long g off xs c w hg hr (by omega) (by omega)
theorem tabOk_of {xs : List (Int × Int)} (h : tabE xs = 0) : TabOk xs := by
  have hl : ¬ (xs.length < 2 ∨ 60 < xs.length) := fun hl => by rw [tabE_short hl] at h; cases h
  have hr : rowsOk xs xs.length = true := by
    cases hc : rowsOk xs xs.length with
    | true => rfl
    | false => rw [tabE_no hc] at h; cases h
  have hk : ∀ k, k < xs.length → rowOk xs k = true := fun k hk => List.all_eq_true.1 hr k (by simpa using hk)
  have hstep : ∀ (i : Nat) (p q : Int × Int), xs[i]? = some p → xs[i + 1]? = some q → p.1 < q.1 := fun i p q hp hq => by
    have := hk (i + 1) (List.getElem?_eq_some_iff.1 hq).1
    rw [rowOk_succ hq hp] at this
    simp at this
    exact this.2
  refine ⟨by omega, by omega, fun p hp => ?_, ?_⟩
  · obtain ⟨k, hk2, e⟩ := List.mem_iff_getElem.1 hp
    have h1 : xs[k]? = some p := by rw [List.getElem?_eq_getElem hk2, e]
    have := hk k hk2
    rw [rowOk_of h1, Bool.and_eq_true] at this
    exact this.1
  · have key : ∀ (d i : Nat) (p q : Int × Int), xs[i]? = some p → xs[i + d + 1]? = some q → p.1 < q.1 := by
      intro d
      induction d with
      | zero => intro i p q hp hq; exact hstep i p q hp hq
      | succ d ih =>
        intro i p q hp hq
        obtain ⟨r, hr⟩ : ∃ r, xs[i + d + 1]? = some r := ⟨_, List.getElem?_eq_getElem (by have := (List.getElem?_eq_some_iff.1 hq).1; omega)⟩
        have h1 := ih i p r hp hr
        have h2 := hstep (i + d + 1) r q hr hq
        omega
    intro i j p q hij hp hq
    exact key (j - i - 1) i p q hp (by rw [show i + (j - i - 1) + 1 = j from by omega]; exact hq)

/-- the error of Value, and what it returns -/
def vaE (xs : List (Int × Int)) (x : Int) : Int := if tabE xs = 0 then (if covB xs x then 0 else 3) else tabE xs
noncomputable def vaR (xs : List (Int × Int)) (x : Int) : Int × Int := if vaE xs x = 0 then valV xs x else (0, 0)
set_option maxRecDepth 20000 in
set_option maxHeartbeats 1000000 in
theorem value_any (v : Value) (xs : List (Int × Int)) (x : Int) (w : World) (hv : SetAt w.heap.size w v xs) :
    Calls Try.prog 11 #[v, .int .i64 x] w fun e w' => e = .returned (.tuple #[.agg #[.int .i64 (vaR xs x).1, .int .i64 (vaR xs x).2], .int .i64 (vaE xs x)]) ∧ Below w.heap.size w w' := by
  have c1 := Lib.hid (fun (W : World) (h : Below w.heap.size w W) => checkTable_any v xs W ((hv.below h (Nat.le_refl _)).mono h.size))
  by_cases ht : tabE xs = 0
  · have hT := tabOk_of ht
    obtain ⟨A, c, rfl, h⟩ := hv
    obtain ⟨g, off, rfl, hg, hr⟩ := h (by have := hT.1; omega)
    have c2 := Lib.hid (fun (W : World) (h : Below w.heap.size w W) => covers_any xs x g off c hT.1 hT.2.1 W (Nat.lt_of_lt_of_le hg h.size) (hr.below h hg))
    rw [ht] at c1
    by_cases hc : covB xs x = true
    · have c3 := Lib.hid (fun (W : World) (h : Below w.heap.size w W) => valueAt_any xs x g off c hT hc W (Nat.lt_of_lt_of_le hg h.size) (hr.below h hg))
      have e1 : vaE xs x = 0 := by unfold vaE; rw [if_pos ht, if_pos hc]
      have e2 : vaR xs x = valV xs x := by unfold vaR; rw [if_pos e1]
      rw [e1, e2]
      rw [hc] at c2
      generalize valV xs x = r at *
      generalize xs.length = n at *
      clear h hr hT ht hc e1 e2
      go_enter Try.func11, Try.ntmps11
      go_wp2_with fail
      refine (c1.out _ ((Below.refl _ _).alloc (Nat.le_refl _) _)).mono ?_
      rintro e W1 ⟨rfl, hb⟩
      have a0 := cell_next hb (b := w.heap.size) (o := 0) (by simp <;> omega) (v := some (.int .i64 0)) (by simp [go_sem])
      have fa0 := frozen_next hb (b := w.heap.size) (o := 0) (by simp <;> omega) (v := false) (by simp [go_sem])
      have a1 := cell_next hb (b := w.heap.size) (o := 1) (by simp <;> omega) (v := some (.int .i64 0)) (by simp [go_sem])
      have fa1 := frozen_next hb (b := w.heap.size) (o := 1) (by simp <;> omega) (v := false) (by simp [go_sem])
      have na : w.heap.size < W1.heap.size := by have := hb.size; simp at this; omega
      have hB := (below1 hb)
      clear hb
      go_wp2_with fail
      refine (c2.out _ hB).mono ?_
      rintro e W2 ⟨rfl, hb⟩
      replace a0 := cell_next hb na a0
      replace fa0 := frozen_next hb na fa0
      replace a1 := cell_next hb na a1
      replace fa1 := frozen_next hb na fa1
      replace na := Nat.lt_of_lt_of_le na hb.size
      replace hB := hB.trans (hb.mono hB.size)
      clear hb
      go_wp2_with fail
      refine (c3.out _ hB).mono ?_
      rintro e W3 ⟨rfl, hb⟩
      replace a0 := cell_next hb na a0
      replace fa0 := frozen_next hb na fa0
      replace a1 := cell_next hb na a1
      replace fa1 := frozen_next hb na fa1
      replace na := Nat.lt_of_lt_of_le na hb.size
      replace hB := hB.trans (hb.mono hB.size)
      clear hb
      go_wp2_with fail
      refine bodyPost_ret (v := .tuple #[.agg #[.int .i64 r.1, .int .i64 r.2], .int .i64 0]) (by simp [results, Try.results11, go_sem, a0, a1, fa0, fa1]) rfl ⟨rfl, ?_⟩
      exact ((hB.setCell (p := ⟨w.heap.size, 0, none⟩) (by simp <;> omega) _).setCell (p := ⟨w.heap.size, 1, none⟩) (by simp <;> omega) _)
    · have e1 : vaE xs x = 3 := by unfold vaE; rw [if_pos ht, if_neg hc]
      have e2 : vaR xs x = (0, 0) := by unfold vaR; rw [e1]; rfl
      rw [e1, e2]
      rw [Bool.not_eq_true] at hc
      rw [hc] at c2
      generalize xs.length = n at *
      clear h hr hT ht hc e1 e2
      go_enter Try.func11, Try.ntmps11
      go_wp2_with fail
      refine (c1.out _ ((Below.refl _ _).alloc (Nat.le_refl _) _)).mono ?_
      rintro e W1 ⟨rfl, hb⟩
      have a0 := cell_next hb (b := w.heap.size) (o := 0) (by simp <;> omega) (v := some (.int .i64 0)) (by simp [go_sem])
      have fa0 := frozen_next hb (b := w.heap.size) (o := 0) (by simp <;> omega) (v := false) (by simp [go_sem])
      have a1 := cell_next hb (b := w.heap.size) (o := 1) (by simp <;> omega) (v := some (.int .i64 0)) (by simp [go_sem])
      have fa1 := frozen_next hb (b := w.heap.size) (o := 1) (by simp <;> omega) (v := false) (by simp [go_sem])
      have na : w.heap.size < W1.heap.size := by have := hb.size; simp at this; omega
      have hB := (below1 hb)
      clear hb
      go_wp2_with fail
      refine (c2.out _ hB).mono ?_
      rintro e W2 ⟨rfl, hb⟩
      replace a0 := cell_next hb na a0
      replace fa0 := frozen_next hb na fa0
      replace a1 := cell_next hb na a1
      replace fa1 := frozen_next hb na fa1
      replace na := Nat.lt_of_lt_of_le na hb.size
      replace hB := hB.trans (hb.mono hB.size)
      clear hb
      go_wp2_with fail
      refine bodyPost_ret (v := .tuple #[.agg #[.int .i64 0, .int .i64 0], .int .i64 3]) (by simp [results, Try.results11, go_sem, a0, a1, fa0, fa1]) rfl ⟨rfl, ?_⟩
      exact ((hB.setCell (p := ⟨w.heap.size, 0, none⟩) (by simp <;> omega) _).setCell (p := ⟨w.heap.size, 1, none⟩) (by simp <;> omega) _)
  · have e1 : vaE xs x = tabE xs := by unfold vaE; rw [if_neg ht]
    have e2 : vaR xs x = (0, 0) := by unfold vaR; rw [if_neg (by rw [e1]; exact ht)]
    rw [e1, e2]
    have hne : (tabE xs != 0) = true := by simpa using ht
    obtain ⟨A, c, rfl, _⟩ := hv
    generalize tabE xs = s at *
    generalize xs.length = n at *
    clear ht e1 e2
    go_enter Try.func11, Try.ntmps11
    go_wp2_with fail
    refine (c1.out _ ((Below.refl _ _).alloc (Nat.le_refl _) _)).mono ?_
    rintro e W1 ⟨rfl, hb⟩
    have a0 := cell_next hb (b := w.heap.size) (o := 0) (by simp <;> omega) (v := some (.int .i64 0)) (by simp [go_sem])
    have fa0 := frozen_next hb (b := w.heap.size) (o := 0) (by simp <;> omega) (v := false) (by simp [go_sem])
    have a1 := cell_next hb (b := w.heap.size) (o := 1) (by simp <;> omega) (v := some (.int .i64 0)) (by simp [go_sem])
    have fa1 := frozen_next hb (b := w.heap.size) (o := 1) (by simp <;> omega) (v := false) (by simp [go_sem])
    have na : w.heap.size < W1.heap.size := by have := hb.size; simp at this; omega
    have hB := (below1 hb)
    clear hb
    go_wp2_with fail
    refine bodyPost_ret (v := .tuple #[.agg #[.int .i64 0, .int .i64 0], .int .i64 s]) (by simp [results, Try.results11, go_sem, a0, a1, fa0, fa1]) rfl ⟨rfl, ?_⟩
    exact ((hB.setCell (p := ⟨w.heap.size, 0, none⟩) (by simp <;> omega) _).setCell (p := ⟨w.heap.size, 1, none⟩) (by simp <;> omega) _)

open Go.Lib
set_option linter.unusedVariables false
set_option linter.unusedSimpArgs false

theorem valV_row {xs : List (Int × Int)} (ht : TabOk xs) {p : Int × Int} (hp : p ∈ xs) : valV xs p.1 = (p.2, p.2) := by
  obtain ⟨k, hk, e⟩ := List.mem_iff_getElem.1 hp
  have h1 : xs[k]? = some p := by rw [List.getElem?_eq_getElem hk, e]
  by_cases hn : k + 1 < xs.length
  · obtain ⟨q, hq⟩ : ∃ q, xs[k + 1]? = some q := ⟨_, List.getElem?_eq_getElem hn⟩
    have hpq := ht.2.2.2 k (k + 1) p q (by omega) h1 hq
    exact valV_is ht ⟨k, p, q, h1, hq, Int.le_refl _, by omega, (segV_left hpq).symm⟩
  · obtain ⟨j, rfl⟩ : ∃ j, k = j + 1 := ⟨k - 1, by have := ht.1; omega⟩
    obtain ⟨q, hq⟩ : ∃ q, xs[j]? = some q := ⟨_, List.getElem?_eq_getElem (by omega)⟩
    have hpq := ht.2.2.2 j (j + 1) q p (by omega) hq h1
    exact valV_is ht ⟨j, q, p, hq, h1, by omega, Int.le_refl _, (segV_right hpq).symm⟩
def vsJ (a b : Int) (s p : Int × Int) : Int × Int := if a < p.1 ∧ p.1 < b then (min s.1 p.2, max s.2 p.2) else s
def vsK (a b : Int) (s p : Int × Int) : Int × Int := if a ≤ p.1 ∧ p.1 ≤ b then (min s.1 p.2, max s.2 p.2) else s
/-- the least range with the values at both ends -/
noncomputable def vs0 (xs : List (Int × Int)) (a b : Int) : Int × Int := (min (valV xs a).1 (valV xs b).1, max (valV xs a).2 (valV xs b).2)
noncomputable def valsV (xs : List (Int × Int)) (a b : Int) : Int × Int := xs.foldl (vsJ a b) (vs0 xs a b)
theorem vs_same {xs : List (Int × Int)} (ht : TabOk xs) (a b : Int) : xs.foldl (vsK a b) (vs0 xs a b) = valsV xs a b := by
  have key : ∀ (l : List (Int × Int)) (s : Int × Int), (∀ p ∈ l, p ∈ xs) → s.1 ≤ (vs0 xs a b).1 → (vs0 xs a b).2 ≤ s.2 → l.foldl (vsK a b) s = l.foldl (vsJ a b) s := by
    intro l
    induction l with
    | nil => intro s _ _ _; rfl
    | cons p l ih =>
      intro s hl h1 h2
      have hp := hl p (by simp)
      have e : vsK a b s p = vsJ a b s p := by
        unfold vsK vsJ
        have hrow := valV_row ht hp
        by_cases ha : p.1 = a
        · rw [ha] at hrow
          unfold vs0 at h1 h2
          rw [hrow] at h1 h2
          simp only at h1 h2
          rw [if_neg (by omega : ¬ (a < p.1 ∧ p.1 < b))]
          split
          · ext <;> simp only <;> omega
          · rfl
        · by_cases hb : p.1 = b
          · rw [hb] at hrow
            unfold vs0 at h1 h2
            rw [hrow] at h1 h2
            simp only at h1 h2
            rw [if_neg (by omega : ¬ (a < p.1 ∧ p.1 < b))]
            split
            · ext <;> simp only <;> omega
            · rfl
          · by_cases hc : a < p.1 ∧ p.1 < b
            · rw [if_pos hc, if_pos (by omega)]
            · rw [if_neg hc, if_neg (by omega)]
      rw [List.foldl_cons, List.foldl_cons, e]
      refine ih _ (fun q hq => hl q (by simp [hq])) ?_ ?_
      · unfold vsJ; split
        · simp only; omega
        · exact h1
      · unfold vsJ; split
        · simp only; omega
        · exact h2
  exact key xs _ (fun p hp => hp) (Int.le_refl _) (Int.le_refl _)
theorem rise_in {p q : Int × Int} (hw : p.1 < q.1) (hr : p.2 < q.2) (yl x : Int) : yl ≤ (segV p q x).1 ↔ -(-((yl - p.2) * (q.1 - p.1)) / (q.2 - p.2)) ≤ x - p.1 := by
  have h1 := Int.le_ediv_iff_mul_le (b := (q.2 - p.2) * (x - p.1)) (a := yl - p.2) (c := q.1 - p.1) (by omega)
  have h2 := Int.le_ediv_iff_mul_le (b := -((yl - p.2) * (q.1 - p.1))) (a := -(x - p.1)) (c := q.2 - p.2) (by omega)
  rw [Int.neg_mul, Int.mul_comm (x - p.1)] at h2
  unfold segV
  simp only
  generalize (q.2 - p.2) * (x - p.1) = Z at *
  generalize (yl - p.2) * (q.1 - p.1) = B at *
  omega
theorem rise_out {p q : Int × Int} (hw : p.1 < q.1) (hr : p.2 < q.2) (yh x : Int) : yh < (segV p q x).2 ↔ (yh - p.2) * (q.1 - p.1) / (q.2 - p.2) < x - p.1 := by
  have h1 := Int.ediv_lt_iff_lt_mul (a := -((q.2 - p.2) * (x - p.1))) (b := p.2 - yh) (c := q.1 - p.1) (by omega)
  have h2 := Int.ediv_lt_iff_lt_mul (a := (yh - p.2) * (q.1 - p.1)) (b := x - p.1) (c := q.2 - p.2) (by omega)
  rw [Int.mul_comm (x - p.1)] at h2
  have e : (p.2 - yh) * (q.1 - p.1) = -((yh - p.2) * (q.1 - p.1)) := by rw [← Int.neg_mul]; congr 1; omega
  rw [e] at h1
  unfold segV
  simp only
  generalize (q.2 - p.2) * (x - p.1) = Z at *
  generalize (yh - p.2) * (q.1 - p.1) = B at *
  omega
theorem fall_in {p q : Int × Int} (hw : p.1 < q.1) (hr : q.2 < p.2) (yh x : Int) : (segV p q x).2 ≤ yh ↔ -(-((p.2 - yh) * (q.1 - p.1)) / (p.2 - q.2)) ≤ x - p.1 := by
  have h1 := Int.le_ediv_iff_mul_le (b := -((q.2 - p.2) * (x - p.1))) (a := p.2 - yh) (c := q.1 - p.1) (by omega)
  have h2 := Int.le_ediv_iff_mul_le (b := -((p.2 - yh) * (q.1 - p.1))) (a := -(x - p.1)) (c := p.2 - q.2) (by omega)
  have e : (q.2 - p.2) * (x - p.1) = -((x - p.1) * (p.2 - q.2)) := by rw [← Int.mul_neg, Int.mul_comm]; congr 1; omega
  rw [Int.neg_mul] at h2
  unfold segV
  simp only
  rw [e] at h1 ⊢
  generalize (x - p.1) * (p.2 - q.2) = Z at *
  generalize (p.2 - yh) * (q.1 - p.1) = B at *
  omega
theorem fall_out {p q : Int × Int} (hw : p.1 < q.1) (hr : q.2 < p.2) (yl x : Int) : (segV p q x).1 < yl ↔ (p.2 - yl) * (q.1 - p.1) / (p.2 - q.2) < x - p.1 := by
  have h1 := Int.ediv_lt_iff_lt_mul (a := (q.2 - p.2) * (x - p.1)) (b := yl - p.2) (c := q.1 - p.1) (by omega)
  have h2 := Int.ediv_lt_iff_lt_mul (a := (p.2 - yl) * (q.1 - p.1)) (b := x - p.1) (c := p.2 - q.2) (by omega)
  have e : (q.2 - p.2) * (x - p.1) = -((x - p.1) * (p.2 - q.2)) := by rw [← Int.mul_neg, Int.mul_comm]; congr 1; omega
  have e2 : (yl - p.2) * (q.1 - p.1) = -((p.2 - yl) * (q.1 - p.1)) := by rw [← Int.neg_mul]; congr 1; omega
  unfold segV
  simp only
  rw [e2, e] at h1
  rw [e]
  generalize (x - p.1) * (p.2 - q.2) = Z at *
  generalize (p.2 - yl) * (q.1 - p.1) = B at *
  omega
theorem flat_val {p q : Int × Int} (hr : p.2 = q.2) (x : Int) : segV p q x = (p.2, p.2) := by
  unfold segV
  rw [hr]
  simp
/-- the first number from a to b that a test takes that goes one way; b + 1 if there is none -/
def firstIs (P : Int → Bool) (a b f : Int) : Prop := a ≤ f ∧ f ≤ b + 1 ∧ (∀ x, a ≤ x → x < f → P x = false) ∧ (f ≤ b → P f = true)
theorem firstIs_one {P : Int → Bool} {a b f g : Int} (hf : firstIs P a b f) (hg : firstIs P a b g) : f = g := by
  obtain ⟨f1, f2, f3, f4⟩ := hf
  obtain ⟨g1, g2, g3, g4⟩ := hg
  rcases Int.lt_trichotomy f g with h | h | h
  · have := g3 f f1 h
    rw [f4 (by omega)] at this
    cases this
  · exact h
  · have := f3 g g1 h
    rw [g4 (by omega)] at this
    cases this
/-- where a test stands at a bound: the first number is the bound, within a and b + 1 -/
theorem firstIs_bound {P : Int → Bool} {a b n : Int} (hab : a ≤ b + 1) (h : ∀ x, a ≤ x → x ≤ b → (P x = true ↔ n ≤ x)) : firstIs P a b (min (max a n) (b + 1)) := by
  refine ⟨by omega, by omega, fun x h1 h2 => ?_, fun h1 => (h _ (by omega) h1).2 (by omega)⟩
  rw [Bool.eq_false_iff]
  intro hx
  have := (h x h1 (by omega)).1 hx
  omega

open Go.RowKit Go.Lib Go.Shelf
set_option linter.unusedVariables false
set_option linter.unusedSimpArgs false

/-- a range is added to a set behind all of its ranges -/
def extP (xs : List (Int × Int)) (a : Int × Int) : List (Int × Int) :=
  match xs.getLast? with
  | none => [a]
  | some p => if a.1 ≤ p.2 + 1 then xs.dropLast ++ [(p.1, a.2)] else xs ++ [a]

/-- what extend leaves -/
def ExtPost (w : World) (base : Nat) (v : Value) (ys : List (Int × Int)) (e : Ending) (w' : World) : Prop :=
  ∃ v', e = .returned v' ∧ w'.ownsRow base 31 2 v' ys.length (flat ys) ∧ w.grownBy w' v.ownBlock ∧ (v'.ownBlock = v.ownBlock ∨ ∃ g, v'.ownBlock = some g ∧ w.heap.size ≤ g)

theorem extP_length (xs : List (Int × Int)) (a : Int × Int) : (extP xs a).length ≤ xs.length + 1 := by
  unfold extP
  split
  · simp
  · split
    · simp
      try omega
    · simp
theorem extP_bd {xs : List (Int × Int)} {a : Int × Int} (D : Int → Prop) (h : ∀ p ∈ xs, D p.2) (ha : D a.2) : ∀ p ∈ extP xs a, D p.2 := by
  unfold extP
  split
  · simpa using ha
  · split
    · intro p hp
      rcases List.mem_append.1 hp with hp | hp
      · exact h p (List.dropLast_subset _ hp)
      · simp at hp; subst hp; exact ha
    · intro p hp
      rcases List.mem_append.1 hp with hp | hp
      · exact h p hp
      · simp at hp; subst hp; exact ha

open Go.RowKit Go.Lib Go.Shelf
set_option linter.unusedVariables false
set_option linter.unusedSimpArgs false
attribute [local go_sem ↓] Go.wp_at_zero Go.wp_at_succ

/-- the set of the places behind the first k stretches -/
def whereAt (PL : Nat → (Int × Int) × Bool) : Nat → List (Int × Int)
  | 0 => []
  | k + 1 => if (PL k).2 then extP (whereAt PL k) (PL k).1 else whereAt PL k
theorem whereAt_length (PL : Nat → (Int × Int) × Bool) (k : Nat) : (whereAt PL k).length ≤ k := by
  induction k with
  | zero => simp [whereAt]
  | succ k ih =>
    unfold whereAt
    split
    · have := extP_length (whereAt PL k) (PL k).1; omega
    · omega

theorem below_realloc {B : Nat} {a w : World} {o p : Obj} (h : Below B a (w.alloc o)) (hB : B ≤ w.heap.size) : Below B a (w.alloc p) :=
  ⟨h.os, h.tape, h.output, by have := h.size; simpa using this, fun k hk => (Below.heap_alloc w p k (by omega)).trans ((Below.heap_alloc w o k (by omega)).symm.trans (h.block k hk))⟩

theorem grown_cell' {w w' : World} {row : Option Nat} {b o : Nat} {v : Option Value} (h : w.grownBy w' row) (hb : b < w.heap.size) (hne : ∀ r, row = some r → b ≠ r) (hc : w.cell? ⟨b, o, none⟩ = v) : w'.cell? ⟨b, o, none⟩ = v :=
  (World.cell?_of_block (h.block b hb (fun e => hne b e.symm rfl))).trans hc
theorem own_below {w w' : World} {base : Nat} {e : TypeId} {size : Nat} {v : Value} {n : Nat} {xs : List Value} (h : w.ownsRow base e size v n xs) (hb : Below w.heap.size w w') : w'.ownsRow base e size v n xs :=
  h.kept (only_of_below' (row := none) hb) (by cases hv : v.ownBlock <;> simp)

/-- what Where leaves -/
def WherePost (w : World) (ys : List (Int × Int)) (e : Ending) (w' : World) : Prop :=
  ∃ v, e = .returned (.tuple #[v, .int .i64 0]) ∧ w'.ownsRow (w.heap.size + 1) 31 2 v ys.length (flat ys) ∧ Below w.heap.size w w'
end Go.Proofs.Ytfdaiififoomoaa
