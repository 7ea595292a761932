/- Contracts: a copy of a table; whether it covers a place. -/
import Derived.Test.YtdlmkjllcejoaaaR11
namespace Go.Proofs.Ytdlmkjllcejoaaa
open Go.RowKit Go.Lib Go.Shelf
set_option linter.unusedVariables false
set_option linter.unusedSimpArgs false
attribute [local go_sem ↓] Go.wp_at_zero Go.wp_at_succ

theorem infoRow : (Try.prog.info? 169).map (fun i => (i.zero, i.size, i.bytes)) = some (some (.agg #[.int .i64 0, .int .i64 0]), 2, 16) := by kernel_rfl

theorem own_rowR (xs : List (Int × Int)) (n : Nat) (hn : xs.length = n) (v : Value) (w : World) {base : Nat} (h : w.ownsRow base 169 2 v n (flat xs)) : RowAt w.heap.size w v xs := by
  subst hn
  have hc := h
  obtain ⟨_, ⟨rfl, h0⟩ | ⟨g, cap, cur, rfl, _, hh, hnc, _, _, _⟩⟩ := h
  · have : xs = [] := List.eq_nil_of_length_eq_zero h0
    subst this
    exact ⟨none, 0, rfl, Nat.le_refl _, fun h => by simp at h⟩
  · refine ⟨_, cap, rfl, hnc, fun _ => ⟨g, 0, rfl, ?_, flat_rrd xs 0 fun j u hj => ?_⟩⟩
    · rcases Nat.lt_or_ge g w.heap.size with h | h
      · exact h
      · rw [Array.getElem?_eq_none h] at hh; cases hh
    · have := hc.cells (g := g) rfl j u hj
      simpa [Addr.add_lit] using this
/-- whether a table with rows has a value at x -/
def covB (xs : List (Int × Int)) (x : Int) : Bool := match xs.head?, xs.getLast? with
  | some p, some q => decide (p.1 ≤ x) && decide (x ≤ q.1)
  | _, _ => false
theorem covB_of {xs : List (Int × Int)} {m : Nat} {p q : Int × Int} (x : Int) (hm : xs.length = m + 1) (hp : xs[0]? = some p) (hq : xs[m]? = some q) : covB xs x = (decide (p.1 ≤ x) && decide (x ≤ q.1)) := by
  unfold covB
  rw [List.head?_eq_getElem?, List.getLast?_eq_getElem?, hm, hp, show m + 1 - 1 = m from rfl, hq]
set_option maxRecDepth 20000 in
set_option maxHeartbeats 1000000 in
theorem covers_any (xs : List (Int × Int)) (x : Int) (g off c : Nat) (h1 : 2 ≤ xs.length) (h2 : xs.length ≤ 60) (w : World) (hg : g < w.heap.size) (hr : RRd w g off xs) :
    Calls Try.prog 107 #[.slice (some ⟨g, off, none⟩) xs.length c, .int .i64 x] w fun e w' => e = .returned (.bool (covB xs x)) ∧ Below w.heap.size w w' := by
  obtain ⟨m, hm⟩ : ∃ m, xs.length = m + 1 := ⟨xs.length - 1, by omega⟩
  obtain ⟨p, hp⟩ : ∃ p, xs[0]? = some p := ⟨_, List.getElem?_eq_getElem (by omega)⟩
  obtain ⟨q, hq⟩ : ∃ q, xs[m]? = some q := ⟨_, List.getElem?_eq_getElem (by omega)⟩
  rw [covB_of x hm hp hq]
  obtain ⟨p0, p1⟩ := hr 0 p hp
  obtain ⟨q0, q1⟩ := hr m q hq
  rw [hm] at h1 h2 ⊢
  have wm : IntKind.i64.wrap ((m + 1 : Nat) - 1 : Int) = m := by rw [show ((m + 1 : Nat) - 1 : Int) = m from by omega]; exact IntWalk.i64_in _ (by omega)
  have wm' : IntKind.i64.wrap ((m : Int) + 1 - 1) = m := by rw [show ((m : Int) + 1 - 1) = m from by omega]; exact IntWalk.i64_in _ (by omega)
  have hm0 : (0 : Int) ≤ m := by omega
  simp only [Nat.zero_mul, Nat.add_zero] at p0 p1
  clear hr hp hq hm
  obtain ⟨a, ha⟩ : ∃ a, decide (p.1 ≤ x) = a := ⟨_, rfl⟩
  obtain ⟨b, hb⟩ : ∃ b, decide (x ≤ q.1) = b := ⟨_, rfl⟩
  rw [ha, hb]
  cases a <;> cases b
  all_goals
    go_enter Try.func107, Try.ntmps107
    go_wp2_with fail
    go_ret
    exact ⟨rfl, Below.refl _ _⟩
end Go.Proofs.Ytdlmkjllcejoaaa

