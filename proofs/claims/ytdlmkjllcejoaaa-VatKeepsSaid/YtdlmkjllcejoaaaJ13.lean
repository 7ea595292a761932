/- Contracts: S1, S2, S3, joined. -/
import Derived.Test.YtdlmkjllcejoaaaT5
import Derived.Test.YtdlmkjllcejoaaaC12
import Derived.Test.YtdlmkjllcejoaaaT9
namespace Go.Proofs.Ytdlmkjllcejoaaa
open Go.RowKit Go.Lib Go.Shelf
set_option linter.unusedVariables false
set_option linter.unusedSimpArgs false
attribute [local go_sem ↓] Go.wp_at_zero Go.wp_at_succ

/-- comparing neighbours of a row 0, 1, 2 .. never says that the second one goes first -/
def NoSwap (F : Nat) (caps : Array Value) (n : Nat) (w : World) : Prop :=
  ∀ k, k + 1 < n → ∃ r : Int, 0 ≤ r ∧ r ≤ 4000000000000000000 ∧ ∀ W : World, Below w.heap.size w W → Calls Try.prog F (#[.int .i64 ((k : Int) + 1), .int .i64 (k : Int)] ++ caps) W fun e w' => e = .returned (.int .i64 r) ∧ Below W.heap.size W w'
def UpRow (w : World) (g off n : Nat) : Prop := ∀ j, j < n → w.cell? ⟨g, off + j, none⟩ = some (.int .i64 (j : Int))

open Go.RowKit Go.Lib Go.Shelf
set_option linter.unusedVariables false
set_option linter.unusedSimpArgs false
attribute [local go_sem ↓] Go.wp_at_zero Go.wp_at_succ

theorem own_base {w : World} {base base' : Nat} {e : TypeId} {size : Nat} {v : Value} {n : Nat} {xs : List Value} (h : w.ownsRow base e size v n xs) (hb : base' ≤ base) : w.ownsRow base' e size v n xs := by
  refine ⟨h.1, ?_⟩
  rcases h.2 with h1 | ⟨g, cap, cur, h2, h3, h4⟩
  · exact .inl h1
  · exact .inr ⟨g, cap, cur, h2, Nat.le_trans hb h3, h4⟩

/-- 0, 1, 2 .. -/
def upL (n : Nat) : List Int := (List.range n).map fun j : Nat => (j : Int)
theorem upL_succ (n : Nat) : upL (n + 1) = upL n ++ [(n : Int)] := by simp [upL, List.range_succ]
theorem upL_length (n : Nat) : (upL n).length = n := by simp [upL]
theorem upL_getD (n j : Nat) (h : j < n) : (upL n).getD j 0 = (j : Int) := by simp [upL, h]

/-- a row of numbers is read: values at g from off on -/
def IntsAt (w : World) (g off : Nat) (zs : List Int) : Prop := ∀ j z, zs[j]? = some z → w.cell? ⟨g, off + j, none⟩ = some (.int .i64 z)

def GfPost (w : World) (n : Nat) (os : List Int) (e : Ending) (w' : World) : Prop :=
  ∃ v, e = .returned v ∧ w'.ownsRow w.heap.size 3 1 v n (ints os) ∧ Below w.heap.size w w'

open Go.RowKit Go.Lib Go.Shelf
set_option linter.unusedVariables false
set_option linter.unusedSimpArgs false
attribute [local go_sem ↓] Go.wp_at_zero Go.wp_at_succ

/-- the slice value v reads as the numbers zs; it lies below block B -/
def NumsAt (B : Nat) (w : World) (v : Value) (zs : List Int) : Prop :=
  ∃ A c, v = .slice A zs.length c ∧ (0 < zs.length → ∃ g off, A = some ⟨g, off, none⟩ ∧ g < B ∧ IntsAt w g off zs)
theorem IntsAt.below {w w' : World} {B g off : Nat} {zs : List Int} (h : IntsAt w g off zs) (hb : Below B w w') (hg : g < B) : IntsAt w' g off zs :=
  fun j z hz => cell_next hb hg (h j z hz)
theorem NumsAt.below {B B' : Nat} {w w' : World} {v : Value} {zs : List Int} (h : NumsAt B w v zs) (hb : Below B' w w') (hB : B ≤ B') : NumsAt B w' v zs := by
  obtain ⟨A, c, rfl, h⟩ := h
  refine ⟨A, c, rfl, fun hn => ?_⟩
  obtain ⟨g, off, rfl, hg, hr⟩ := h hn
  exact ⟨g, off, rfl, hg, hr.below hb (by omega)⟩
theorem NumsAt.mono {B B' : Nat} {w : World} {v : Value} {zs : List Int} (h : NumsAt B w v zs) (hB : B ≤ B') : NumsAt B' w v zs := by
  obtain ⟨A, c, rfl, h⟩ := h
  refine ⟨A, c, rfl, fun hn => ?_⟩
  obtain ⟨g, off, rfl, hg, hr⟩ := h hn
  exact ⟨g, off, rfl, by omega, hr⟩

/-- a weight that is allowed -/
def wtOk (z : Int) : Bool := decide (0 ≤ z) && decide (z ≤ 1000000)
def wtsOk (zs : List Int) : Bool := zs.all wtOk
def wtSum (zs : List Int) : Int := zs.foldl (· + ·) 0
theorem wtSum_snoc (zs : List Int) (z : Int) : wtSum (zs ++ [z]) = wtSum zs + z := by simp [wtSum, List.foldl_append]
theorem wtsOk_snoc (zs : List Int) (z : Int) : wtsOk (zs ++ [z]) = (wtsOk zs && wtOk z) := by simp [wtsOk, List.all_append]
theorem wtSum_bd (zs : List Int) (h : wtsOk zs = true) : 0 ≤ wtSum zs ∧ wtSum zs ≤ zs.length * 1000000 := by
  suffices H : ∀ (ys : List Int) (a : Int), wtsOk ys = true → a ≤ ys.foldl (· + ·) a ∧ ys.foldl (· + ·) a ≤ a + ys.length * 1000000 by
    have := H zs 0 h; unfold wtSum; omega
  intro ys
  induction ys with
  | nil => intro a _; simp
  | cons y ys ih =>
    intro a hy
    simp only [wtsOk, List.all_cons, Bool.and_eq_true, wtOk, decide_eq_true_eq] at hy
    have := ih (a + y) (by simp only [wtsOk]; exact hy.2)
    simp only [List.foldl_cons, List.length_cons]
    omega
theorem take_snoc' {α : Type} (zs : List α) (k : Nat) (z : α) (h : zs[k]? = some z) : zs.take (k + 1) = zs.take k ++ [z] := by rw [List.take_add_one, h]; rfl

def awV (zs : List Int) : Int := if wtsOk zs = true then wtSum zs else 0
def awE (zs : List Int) : Int := if wtsOk zs = true ∧ wtSum zs ≠ 0 then 0 else 2
theorem aw_no {zs : List Int} (k : Nat) (z : Int) (h : zs[k]? = some z) (hz : wtOk z = false) : awV zs = 0 ∧ awE zs = 2 := by
  have : wtsOk zs = false := by
    rw [Bool.eq_false_iff]
    intro ha
    have := List.all_eq_true.1 ha z (List.mem_of_getElem? h)
    rw [hz] at this
    cases this
  simp [awV, awE, this]
theorem aw_zero {zs : List Int} (h : wtsOk zs = true) (hz : wtSum zs = 0) : awV zs = 0 ∧ awE zs = 2 := by simp [awV, awE, h, hz]
theorem aw_yes {zs : List Int} (h : wtsOk zs = true) (hz : wtSum zs ≠ 0) : awV zs = wtSum zs ∧ awE zs = 0 := by simp [awV, awE, h, hz]
end Go.Proofs.Ytdlmkjllcejoaaa
