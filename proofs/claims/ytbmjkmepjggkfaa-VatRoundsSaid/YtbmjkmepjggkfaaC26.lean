/- Contracts: whether a table is valid; its value, with errors. -/
import Derived.Test.YtbmjkmepjggkfaaC25
import Derived.Test.YtbmjkmepjggkfaaT8
namespace Go.Proofs.Ytbmjkmepjggkfaa
open Go.RowKit Go.Lib Go.Shelf
set_option linter.unusedVariables false
set_option linter.unusedSimpArgs false
attribute [local go_sem ↓] Go.wp_at_zero Go.wp_at_succ

set_option maxHeartbeats 400000 in
theorem checkTable_bad (A : Option Addr) (n c : Nat) (h : n < 2 ∨ 60 < n) (w : World) :
    Calls Try.prog 76 #[.slice A n c] w fun e w' => e = .returned (.int .i64 2) ∧ Below w.heap.size w w' := by
  rcases (by omega : n < 2 ∨ ¬ n < 2 ∧ 60 < n) with h | ⟨h0, h⟩
  all_goals
    go_enter Try.func76, Try.ntmps76
    go_wp2_with fail
    go_ret
    exact ⟨rfl, Below.refl _ _⟩
theorem checkTable_any (v : Value) (xs : List (Int × Int)) (w : World) (hv : SetAt w.heap.size w v xs) :
    Calls Try.prog 76 #[v] w fun e w' => e = .returned (.int .i64 (tabE xs)) ∧ Below w.heap.size w w' := by
  obtain ⟨A, c, rfl, h⟩ := hv
  by_cases hl : xs.length < 2 ∨ 60 < xs.length
  · rw [tabE_short hl]
    exact checkTable_bad A _ c hl w
  · obtain ⟨g, off, rfl, hg, hr⟩ := h (by omega)
    exact checkTable_long g off xs c w hg hr (by omega) (by omega)
theorem tabOk_of {xs : List (Int × Int)} (h : tabE xs = 0) : TabOk xs := by
  have hl : ¬ (xs.length < 2 ∨ 60 < xs.length) := fun hl => by rw [tabE_short hl] at h; cases h
  have hr : rowsOk xs xs.length = true := by
    cases hc : rowsOk xs xs.length with
    | true => rfl
    | false => rw [tabE_no hc] at h; cases h
  have hk : ∀ k, k < xs.length → rowOk xs k = true := fun k hk => List.all_eq_true.1 hr k (by simpa using hk)
  have hstep : ∀ (i : Nat) (p q : Int × Int), xs[i]? = some p → xs[i + 1]? = some q → p.1 < q.1 := fun i p q hp hq => by
    have := hk (i + 1) (List.getElem?_eq_some_iff.1 hq).1
    rw [rowOk_succ hq hp] at this
    simp at this
    exact this.2
  refine ⟨by omega, by omega, fun p hp => ?_, ?_⟩
  · obtain ⟨k, hk2, e⟩ := List.mem_iff_getElem.1 hp
    have h1 : xs[k]? = some p := by rw [List.getElem?_eq_getElem hk2, e]
    have := hk k hk2
    rw [rowOk_of h1, Bool.and_eq_true] at this
    exact this.1
  · have key : ∀ (d i : Nat) (p q : Int × Int), xs[i]? = some p → xs[i + d + 1]? = some q → p.1 < q.1 := by
      intro d
      induction d with
      | zero => intro i p q hp hq; exact hstep i p q hp hq
      | succ d ih =>
        intro i p q hp hq
        obtain ⟨r, hr⟩ : ∃ r, xs[i + d + 1]? = some r := ⟨_, List.getElem?_eq_getElem (by have := (List.getElem?_eq_some_iff.1 hq).1; omega)⟩
        have h1 := ih i p r hp hr
        have h2 := hstep (i + d + 1) r q hr hq
        omega
    intro i j p q hij hp hq
    exact key (j - i - 1) i p q hp (by rw [show i + (j - i - 1) + 1 = j from by omega]; exact hq)

/-- the error of Value, and what it returns -/
def vaE (xs : List (Int × Int)) (x : Int) : Int := if tabE xs = 0 then (if covB xs x then 0 else 3) else tabE xs
noncomputable def vaR (xs : List (Int × Int)) (x : Int) : Int × Int := if vaE xs x = 0 then valV xs x else (0, 0)
set_option maxRecDepth 20000 in
set_option maxHeartbeats 1000000 in
theorem value_any (v : Value) (xs : List (Int × Int)) (x : Int) (w : World) (hv : SetAt w.heap.size w v xs) :
    Calls Try.prog 32 #[v, .int .i64 x] w fun e w' => e = .returned (.tuple #[.agg #[.int .i64 (vaR xs x).1, .int .i64 (vaR xs x).2], .int .i64 (vaE xs x)]) ∧ Below w.heap.size w w' := by
  have c1 := Lib.hid (fun (W : World) (h : Below w.heap.size w W) => checkTable_any v xs W ((hv.below h (Nat.le_refl _)).mono h.size))
  by_cases ht : tabE xs = 0
  · have hT := tabOk_of ht
    obtain ⟨A, c, rfl, h⟩ := hv
    obtain ⟨g, off, rfl, hg, hr⟩ := h (by have := hT.1; omega)
    have c2 := Lib.hid (fun (W : World) (h : Below w.heap.size w W) => covers_any xs x g off c hT.1 hT.2.1 W (Nat.lt_of_lt_of_le hg h.size) (hr.below h hg))
    rw [ht] at c1
    by_cases hc : covB xs x = true
    · have c3 := Lib.hid (fun (W : World) (h : Below w.heap.size w W) => valueAt_any xs x g off c hT hc W (Nat.lt_of_lt_of_le hg h.size) (hr.below h hg))
      have e1 : vaE xs x = 0 := by unfold vaE; rw [if_pos ht, if_pos hc]
      have e2 : vaR xs x = valV xs x := by unfold vaR; rw [if_pos e1]
      rw [e1, e2]
      rw [hc] at c2
      generalize valV xs x = r at *
      generalize xs.length = n at *
      clear h hr hT ht hc e1 e2
      go_enter Try.func32, Try.ntmps32
      go_wp2_with fail
      refine (c1.out _ ((Below.refl _ _).alloc (Nat.le_refl _) _)).mono ?_
      rintro e W1 ⟨rfl, hb⟩
      have a0 := cell_next hb (b := w.heap.size) (o := 0) (by simp <;> omega) (v := some (.int .i64 0)) (by simp [go_sem])
      have fa0 := frozen_next hb (b := w.heap.size) (o := 0) (by simp <;> omega) (v := false) (by simp [go_sem])
      have a1 := cell_next hb (b := w.heap.size) (o := 1) (by simp <;> omega) (v := some (.int .i64 0)) (by simp [go_sem])
      have fa1 := frozen_next hb (b := w.heap.size) (o := 1) (by simp <;> omega) (v := false) (by simp [go_sem])
      have na : w.heap.size < W1.heap.size := by have := hb.size; simp at this; omega
      have hB := (below1 hb)
      clear hb
      go_wp2_with fail
      refine (c2.out _ hB).mono ?_
      rintro e W2 ⟨rfl, hb⟩
      replace a0 := cell_next hb na a0
      replace fa0 := frozen_next hb na fa0
      replace a1 := cell_next hb na a1
      replace fa1 := frozen_next hb na fa1
      replace na := Nat.lt_of_lt_of_le na hb.size
      replace hB := hB.trans (hb.mono hB.size)
      clear hb
      go_wp2_with fail
      refine (c3.out _ hB).mono ?_
      rintro e W3 ⟨rfl, hb⟩
      replace a0 := cell_next hb na a0
      replace fa0 := frozen_next hb na fa0
      replace a1 := cell_next hb na a1
      replace fa1 := frozen_next hb na fa1
      replace na := Nat.lt_of_lt_of_le na hb.size
      replace hB := hB.trans (hb.mono hB.size)
      clear hb
      go_wp2_with fail
      refine bodyPost_ret (v := .tuple #[.agg #[.int .i64 r.1, .int .i64 r.2], .int .i64 0]) (by simp [results, Try.results32, go_sem, a0, a1, fa0, fa1]) rfl ⟨rfl, ?_⟩
      exact ((hB.setCell (p := ⟨w.heap.size, 0, none⟩) (by simp <;> omega) _).setCell (p := ⟨w.heap.size, 1, none⟩) (by simp <;> omega) _)
    · have e1 : vaE xs x = 3 := by unfold vaE; rw [if_pos ht, if_neg hc]
      have e2 : vaR xs x = (0, 0) := by unfold vaR; rw [e1]; rfl
      rw [e1, e2]
      rw [Bool.not_eq_true] at hc
      rw [hc] at c2
      generalize xs.length = n at *
      clear h hr hT ht hc e1 e2
      go_enter Try.func32, Try.ntmps32
      go_wp2_with fail
      refine (c1.out _ ((Below.refl _ _).alloc (Nat.le_refl _) _)).mono ?_
      rintro e W1 ⟨rfl, hb⟩
      have a0 := cell_next hb (b := w.heap.size) (o := 0) (by simp <;> omega) (v := some (.int .i64 0)) (by simp [go_sem])
      have fa0 := frozen_next hb (b := w.heap.size) (o := 0) (by simp <;> omega) (v := false) (by simp [go_sem])
      have a1 := cell_next hb (b := w.heap.size) (o := 1) (by simp <;> omega) (v := some (.int .i64 0)) (by simp [go_sem])
      have fa1 := frozen_next hb (b := w.heap.size) (o := 1) (by simp <;> omega) (v := false) (by simp [go_sem])
      have na : w.heap.size < W1.heap.size := by have := hb.size; simp at this; omega
      have hB := (below1 hb)
      clear hb
      go_wp2_with fail
      refine (c2.out _ hB).mono ?_
      rintro e W2 ⟨rfl, hb⟩
      replace a0 := cell_next hb na a0
      replace fa0 := frozen_next hb na fa0
      replace a1 := cell_next hb na a1
      replace fa1 := frozen_next hb na fa1
      replace na := Nat.lt_of_lt_of_le na hb.size
      replace hB := hB.trans (hb.mono hB.size)
      clear hb
      go_wp2_with fail
      refine bodyPost_ret (v := .tuple #[.agg #[.int .i64 0, .int .i64 0], .int .i64 3]) (by simp [results, Try.results32, go_sem, a0, a1, fa0, fa1]) rfl ⟨rfl, ?_⟩
      exact ((hB.setCell (p := ⟨w.heap.size, 0, none⟩) (by simp <;> omega) _).setCell (p := ⟨w.heap.size, 1, none⟩) (by simp <;> omega) _)
  · have e1 : vaE xs x = tabE xs := by unfold vaE; rw [if_neg ht]
    have e2 : vaR xs x = (0, 0) := by unfold vaR; rw [if_neg (by rw [e1]; exact ht)]
    rw [e1, e2]
    have hne : (tabE xs != 0) = true := by simpa using ht
    obtain ⟨A, c, rfl, _⟩ := hv
    generalize tabE xs = s at *
    generalize xs.length = n at *
    clear ht e1 e2
    go_enter Try.func32, Try.ntmps32
    go_wp2_with fail
    refine (c1.out _ ((Below.refl _ _).alloc (Nat.le_refl _) _)).mono ?_
    rintro e W1 ⟨rfl, hb⟩
    have a0 := cell_next hb (b := w.heap.size) (o := 0) (by simp <;> omega) (v := some (.int .i64 0)) (by simp [go_sem])
    have fa0 := frozen_next hb (b := w.heap.size) (o := 0) (by simp <;> omega) (v := false) (by simp [go_sem])
    have a1 := cell_next hb (b := w.heap.size) (o := 1) (by simp <;> omega) (v := some (.int .i64 0)) (by simp [go_sem])
    have fa1 := frozen_next hb (b := w.heap.size) (o := 1) (by simp <;> omega) (v := false) (by simp [go_sem])
    have na : w.heap.size < W1.heap.size := by have := hb.size; simp at this; omega
    have hB := (below1 hb)
    clear hb
    go_wp2_with fail
    refine bodyPost_ret (v := .tuple #[.agg #[.int .i64 0, .int .i64 0], .int .i64 s]) (by simp [results, Try.results32, go_sem, a0, a1, fa0, fa1]) rfl ⟨rfl, ?_⟩
    exact ((hB.setCell (p := ⟨w.heap.size, 0, none⟩) (by simp <;> omega) _).setCell (p := ⟨w.heap.size, 1, none⟩) (by simp <;> omega) _)
end Go.Proofs.Ytbmjkmepjggkfaa

