/- Contracts: D1, D2, S1, T9, S2, S3, D3, D4, D5, joined. -/
import Derived.Test.YtfdaiififoomoaaJB8
import Derived.Test.YtfdaiififoomoaaJB2
import Derived.Test.YtfdaiififoomoaaJB3
import Derived.Test.YtfdaiififoomoaaJB5
import Derived.Test.YtfdaiififoomoaaJB4
import Derived.Test.YtfdaiififoomoaaSh
import Derived.Lib.OwnBridge
namespace Go.Proofs.Ytfdaiififoomoaa
open Go.RowKit Go.Lib Go.Shelf
set_option linter.unusedVariables false
set_option linter.unusedSimpArgs false
attribute [local go_sem ↓] Go.wp_at_zero Go.wp_at_succ

theorem keep4 {w W W' : World} {x0 x1 y0 y1 : Option Value} (hb : Below W.heap.size W W') (h : W.cell? ⟨w.heap.size, 0, none⟩ = x0 ∧ W.cell? ⟨w.heap.size, 1, none⟩ = x1 ∧ W.cell? ⟨w.heap.size + 1, 0, none⟩ = y0 ∧ W.cell? ⟨w.heap.size + 1, 1, none⟩ = y1 ∧ Kp (w.heap.size + 1 + 1) w W) :
    W'.cell? ⟨w.heap.size, 0, none⟩ = x0 ∧ W'.cell? ⟨w.heap.size, 1, none⟩ = x1 ∧ W'.cell? ⟨w.heap.size + 1, 0, none⟩ = y0 ∧ W'.cell? ⟨w.heap.size + 1, 1, none⟩ = y1 ∧ Kp (w.heap.size + 1 + 1) w W' := by
  obtain ⟨h1, h2, h3, h4, h5⟩ := h
  have := h5.2.1
  exact ⟨cell_next hb (by omega) h1, cell_next hb (by omega) h2, cell_next hb (by omega) h3, cell_next hb (by omega) h4, h5.next h5.1.size hb⟩
theorem keep4_set {w W : World} {x0 x1 y0 y1 : Option Value} {u v : Value} (hw : w.heap.size ≤ w.heap.size + 1 + 1) (h : W.cell? ⟨w.heap.size, 0, none⟩ = x0 ∧ W.cell? ⟨w.heap.size, 1, none⟩ = x1 ∧ W.cell? ⟨w.heap.size + 1, 0, none⟩ = y0 ∧ W.cell? ⟨w.heap.size + 1, 1, none⟩ = y1 ∧ Kp (w.heap.size + 1 + 1) w W) :
    ((W.setCell ⟨w.heap.size + 1 + 1, 0, none⟩ u).setCell ⟨w.heap.size + 1 + 1, 1, none⟩ v).cell? ⟨w.heap.size, 0, none⟩ = x0 ∧ ((W.setCell ⟨w.heap.size + 1 + 1, 0, none⟩ u).setCell ⟨w.heap.size + 1 + 1, 1, none⟩ v).cell? ⟨w.heap.size, 1, none⟩ = x1 ∧
    ((W.setCell ⟨w.heap.size + 1 + 1, 0, none⟩ u).setCell ⟨w.heap.size + 1 + 1, 1, none⟩ v).cell? ⟨w.heap.size + 1, 0, none⟩ = y0 ∧ ((W.setCell ⟨w.heap.size + 1 + 1, 0, none⟩ u).setCell ⟨w.heap.size + 1 + 1, 1, none⟩ v).cell? ⟨w.heap.size + 1, 1, none⟩ = y1 ∧ Kp (w.heap.size + 1 + 1) w ((W.setCell ⟨w.heap.size + 1 + 1, 0, none⟩ u).setCell ⟨w.heap.size + 1 + 1, 1, none⟩ v) := by
  obtain ⟨h1, h2, h3, h4, h5⟩ := h
  refine ⟨?_, ?_, ?_, ?_, h5.set hw u v⟩
  · rw [World.cell?_setCell_other _ _ _ _ (by intro e; injection e; omega), World.cell?_setCell_other _ _ _ _ (by intro e; injection e; omega)]; exact h1
  · rw [World.cell?_setCell_other _ _ _ _ (by intro e; injection e; omega), World.cell?_setCell_other _ _ _ _ (by intro e; injection e; omega)]; exact h2
  · rw [World.cell?_setCell_other _ _ _ _ (by intro e; injection e; omega), World.cell?_setCell_other _ _ _ _ (by intro e; injection e; omega)]; exact h3
  · rw [World.cell?_setCell_other _ _ _ _ (by intro e; injection e; omega), World.cell?_setCell_other _ _ _ _ (by intro e; injection e; omega)]; exact h4
theorem row6 (W : World) (T : TypeId) (p q r : Int × Int) : RRd (W.alloc (.cells #[.int .i64 p.1, .int .i64 p.2, .int .i64 q.1, .int .i64 q.2, .int .i64 r.1, .int .i64 r.2] T)) W.heap.size 0 [p, q, r] := by
  intro k z hz
  rcases k with _ | _ | _ | k
  · simp at hz; subst hz; exact ⟨cell_new _ _ _ _, cell_new _ _ _ _⟩
  · simp at hz; subst hz; exact ⟨cell_new _ _ _ _, cell_new _ _ _ _⟩
  · simp at hz; subst hz; exact ⟨cell_new _ _ _ _, cell_new _ _ _ _⟩
  · simp at hz

/-- what a quotient is around -/
def arP (a b c : Int) : Int × Int := (qLo a b c, qHi a b c)

/-- a function of two numbers at one pair of them -/
def At2 (F : Nat) (x y : Int) (p : Int × Int) : Prop := ∀ w : World, Calls Try.prog F #[.int .i64 x, .int .i64 y] w fun e w' => e = .returned (.agg #[.int .i64 p.1, .int .i64 p.2]) ∧ Below w.heap.size w w'

open Go.RowKit Go.Lib Go.Shelf
set_option linter.unusedVariables false
set_option linter.unusedSimpArgs false
attribute [local go_sem ↓] Go.wp_at_zero Go.wp_at_succ

theorem vrB_of' {lo hi : Int} (h : vrB lo hi = true) : -1000000000000000 ≤ lo ∧ lo ≤ hi ∧ hi ≤ 1000000000000000 := by simp [vrB] at h; omega
def lsL (a1 a2 b1 b2 : Int) : Int := if vrB a1 a2 && vrB b1 b2 then fitL (a1 - b2) (a2 - b1) else 0
def lsH (a1 a2 b1 b2 : Int) : Int := if vrB a1 a2 && vrB b1 b2 then fitH (a1 - b2) (a2 - b1) else 0
def lsE (a1 a2 b1 b2 : Int) : Int := if vrB a1 a2 && vrB b1 b2 then fitE (a1 - b2) (a2 - b1) else 2
/-- all products, and all quotients, of the ends -/
def timesP (a1 a2 b1 b2 : Int) : Int × Int := [arP a1 b2 1, arP a2 b1 1, arP a2 b2 1].foldl hullJ (arP a1 b1 1)
def overP (a1 a2 b1 b2 : Int) : Int × Int := [arP a1 1 b2, arP a2 1 b1, arP a2 1 b2].foldl hullJ (arP a1 1 b1)
def tmL (a1 a2 b1 b2 : Int) : Int := if vrB a1 a2 && vrB b1 b2 then fitL (timesP a1 a2 b1 b2).1 (timesP a1 a2 b1 b2).2 else 0
def tmH (a1 a2 b1 b2 : Int) : Int := if vrB a1 a2 && vrB b1 b2 then fitH (timesP a1 a2 b1 b2).1 (timesP a1 a2 b1 b2).2 else 0
def tmE (a1 a2 b1 b2 : Int) : Int := if vrB a1 a2 && vrB b1 b2 then fitE (timesP a1 a2 b1 b2).1 (timesP a1 a2 b1 b2).2 else 2
def ovL (a1 a2 b1 b2 : Int) : Int := if vrB a1 a2 && vrB b1 b2 then (if b1 ≤ 0 ∧ 0 ≤ b2 then 0 else fitL (overP a1 a2 b1 b2).1 (overP a1 a2 b1 b2).2) else 0
def ovH (a1 a2 b1 b2 : Int) : Int := if vrB a1 a2 && vrB b1 b2 then (if b1 ≤ 0 ∧ 0 ≤ b2 then 0 else fitH (overP a1 a2 b1 b2).1 (overP a1 a2 b1 b2).2) else 0
def ovE (a1 a2 b1 b2 : Int) : Int := if vrB a1 a2 && vrB b1 b2 then (if b1 ≤ 0 ∧ 0 ≤ b2 then 3 else fitE (overP a1 a2 b1 b2).1 (overP a1 a2 b1 b2).2) else 2

open Go.RowKit Go.Lib Go.Shelf
set_option linter.unusedVariables false
set_option linter.unusedSimpArgs false
attribute [local go_sem ↓] Go.wp_at_zero Go.wp_at_succ

/-- comparing neighbours of a row 0, 1, 2 .. never says that the second one goes first -/
def NoSwap (F : Nat) (caps : Array Value) (n : Nat) (w : World) : Prop :=
  ∀ k, k + 1 < n → ∃ r : Int, 0 ≤ r ∧ r ≤ 4000000000000000000 ∧ ∀ W : World, Below w.heap.size w W → Calls Try.prog F (#[.int .i64 ((k : Int) + 1), .int .i64 (k : Int)] ++ caps) W fun e w' => e = .returned (.int .i64 r) ∧ Below W.heap.size W w'
def UpRow (w : World) (g off n : Nat) : Prop := ∀ j, j < n → w.cell? ⟨g, off + j, none⟩ = some (.int .i64 (j : Int))

open Go.RowKit Go.Lib Go.Shelf
set_option linter.unusedVariables false
set_option linter.unusedSimpArgs false
attribute [local go_sem ↓] Go.wp_at_zero Go.wp_at_succ

/-- where some ranges begin, and have ended -/
def stepsOf (xs : List (Int × Int)) : List Int := xs.flatMap fun p => [p.1, p.2 + 1]
theorem stepsOf_snoc (xs : List (Int × Int)) (p : Int × Int) : stepsOf (xs ++ [p]) = stepsOf xs ++ [p.1, p.2 + 1] := by simp [stepsOf]
theorem stepsOf_length (xs : List (Int × Int)) : (stepsOf xs).length = xs.length * 2 := by
  induction xs with
  | nil => rfl
  | cons p xs ih => rw [← List.singleton_append, stepsOf, List.flatMap_append, List.length_append]; unfold stepsOf at ih; rw [ih]; simp; omega
def ints (zs : List Int) : List Value := zs.map fun z => .int .i64 z
theorem ints_append (xs ys : List Int) : ints (xs ++ ys) = ints xs ++ ints ys := by simp [ints]
theorem infoInt : (Try.prog.info? 3).map (fun i => (i.zero, i.size, i.bytes)) = some (some (.int .i64 0), 1, 8) := by kernel_rfl

open Go.RowKit Go.Lib Go.Shelf
set_option linter.unusedVariables false
set_option linter.unusedSimpArgs false
attribute [local go_sem ↓] Go.wp_at_zero Go.wp_at_succ

theorem own_base {w : World} {base base' : Nat} {e : TypeId} {size : Nat} {v : Value} {n : Nat} {xs : List Value} (h : w.ownsRow base e size v n xs) (hb : base' ≤ base) : w.ownsRow base' e size v n xs := by
  refine ⟨h.1, ?_⟩
  rcases h.2 with h1 | ⟨g, cap, cur, h2, h3, h4⟩
  · exact .inl h1
  · exact .inr ⟨g, cap, cur, h2, Nat.le_trans hb h3, h4⟩

/-- 0, 1, 2 .. -/
def upL (n : Nat) : List Int := (List.range n).map fun j : Nat => (j : Int)
theorem upL_succ (n : Nat) : upL (n + 1) = upL n ++ [(n : Int)] := by simp [upL, List.range_succ]
theorem upL_length (n : Nat) : (upL n).length = n := by simp [upL]
theorem upL_getD (n j : Nat) (h : j < n) : (upL n).getD j 0 = (j : Int) := by simp [upL, h]

/-- a row of numbers is read: values at g from off on -/
def IntsAt (w : World) (g off : Nat) (zs : List Int) : Prop := ∀ j z, zs[j]? = some z → w.cell? ⟨g, off + j, none⟩ = some (.int .i64 z)

def GfPost (w : World) (n : Nat) (os : List Int) (e : Ending) (w' : World) : Prop :=
  ∃ v, e = .returned v ∧ w'.ownsRow w.heap.size 3 1 v n (ints os) ∧ Below w.heap.size w w'

open Go.RowKit Go.Lib Go.Shelf
set_option linter.unusedVariables false
set_option linter.unusedSimpArgs false
attribute [local go_sem ↓] Go.wp_at_zero Go.wp_at_succ

/-- the slice value v reads as the numbers zs; it lies below block B -/
def NumsAt (B : Nat) (w : World) (v : Value) (zs : List Int) : Prop :=
  ∃ A c, v = .slice A zs.length c ∧ (0 < zs.length → ∃ g off, A = some ⟨g, off, none⟩ ∧ g < B ∧ IntsAt w g off zs)
theorem IntsAt.below {w w' : World} {B g off : Nat} {zs : List Int} (h : IntsAt w g off zs) (hb : Below B w w') (hg : g < B) : IntsAt w' g off zs :=
  fun j z hz => cell_next hb hg (h j z hz)
theorem NumsAt.below {B B' : Nat} {w w' : World} {v : Value} {zs : List Int} (h : NumsAt B w v zs) (hb : Below B' w w') (hB : B ≤ B') : NumsAt B w' v zs := by
  obtain ⟨A, c, rfl, h⟩ := h
  refine ⟨A, c, rfl, fun hn => ?_⟩
  obtain ⟨g, off, rfl, hg, hr⟩ := h hn
  exact ⟨g, off, rfl, hg, hr.below hb (by omega)⟩
theorem NumsAt.mono {B B' : Nat} {w : World} {v : Value} {zs : List Int} (h : NumsAt B w v zs) (hB : B ≤ B') : NumsAt B' w v zs := by
  obtain ⟨A, c, rfl, h⟩ := h
  refine ⟨A, c, rfl, fun hn => ?_⟩
  obtain ⟨g, off, rfl, hg, hr⟩ := h hn
  exact ⟨g, off, rfl, by omega, hr⟩

/-- a weight that is allowed -/
def wtOk (z : Int) : Bool := decide (0 ≤ z) && decide (z ≤ 1000000)
def wtsOk (zs : List Int) : Bool := zs.all wtOk
def wtSum (zs : List Int) : Int := zs.foldl (· + ·) 0
theorem wtSum_snoc (zs : List Int) (z : Int) : wtSum (zs ++ [z]) = wtSum zs + z := by simp [wtSum, List.foldl_append]
theorem wtsOk_snoc (zs : List Int) (z : Int) : wtsOk (zs ++ [z]) = (wtsOk zs && wtOk z) := by simp [wtsOk, List.all_append]
theorem wtSum_bd (zs : List Int) (h : wtsOk zs = true) : 0 ≤ wtSum zs ∧ wtSum zs ≤ zs.length * 1000000 := by
  suffices H : ∀ (ys : List Int) (a : Int), wtsOk ys = true → a ≤ ys.foldl (· + ·) a ∧ ys.foldl (· + ·) a ≤ a + ys.length * 1000000 by
    have := H zs 0 h; unfold wtSum; omega
  intro ys
  induction ys with
  | nil => intro a _; simp
  | cons y ys ih =>
    intro a hy
    simp only [wtsOk, List.all_cons, Bool.and_eq_true, wtOk, decide_eq_true_eq] at hy
    have := ih (a + y) (by simp only [wtsOk]; exact hy.2)
    simp only [List.foldl_cons, List.length_cons]
    omega
theorem take_snoc' {α : Type} (zs : List α) (k : Nat) (z : α) (h : zs[k]? = some z) : zs.take (k + 1) = zs.take k ++ [z] := by rw [List.take_add_one, h]; rfl

def awV (zs : List Int) : Int := if wtsOk zs = true then wtSum zs else 0
def awE (zs : List Int) : Int := if wtsOk zs = true ∧ wtSum zs ≠ 0 then 0 else 2
theorem aw_no {zs : List Int} (k : Nat) (z : Int) (h : zs[k]? = some z) (hz : wtOk z = false) : awV zs = 0 ∧ awE zs = 2 := by
  have : wtsOk zs = false := by
    rw [Bool.eq_false_iff]
    intro ha
    have := List.all_eq_true.1 ha z (List.mem_of_getElem? h)
    rw [hz] at this
    cases this
  simp [awV, awE, this]
theorem aw_zero {zs : List Int} (h : wtsOk zs = true) (hz : wtSum zs = 0) : awV zs = 0 ∧ awE zs = 2 := by simp [awV, awE, h, hz]
theorem aw_yes {zs : List Int} (h : wtsOk zs = true) (hz : wtSum zs ≠ 0) : awV zs = wtSum zs ∧ awE zs = 0 := by simp [awV, awE, h, hz]

open Go.RowKit Go.Lib Go.Shelf
set_option linter.unusedVariables false
set_option linter.unusedSimpArgs false
attribute [local go_sem ↓] Go.wp_at_zero Go.wp_at_succ

/-- a range times a fraction -/
def scaleP (a1 a2 n d : Int) : Int × Int := (min (qLo a1 n d) (qLo a2 n d), max (qHi a1 n d) (qHi a2 n d))
def frB (n d : Int) : Bool := decide (-1000000000 ≤ n) && decide (n ≤ 1000000000) && decide (1 ≤ d) && decide (d ≤ 1000000000)
def scL (a1 a2 n d : Int) : Int := if vrB a1 a2 then (if frB n d then fitL (scaleP a1 a2 n d).1 (scaleP a1 a2 n d).2 else 0) else 0
def scH (a1 a2 n d : Int) : Int := if vrB a1 a2 then (if frB n d then fitH (scaleP a1 a2 n d).1 (scaleP a1 a2 n d).2 else 0) else 0
def scE (a1 a2 n d : Int) : Int := if vrB a1 a2 then (if frB n d then fitE (scaleP a1 a2 n d).1 (scaleP a1 a2 n d).2 else 3) else 2

/-- the error of a list of ranges, and of one that must not be empty -/
def vrsB (xs : List (Int × Int)) : Bool := xs.all fun p => vrB p.1 p.2
def chkL (xs : List (Int × Int)) : Int := if 100 < xs.length then 5 else if vrsB xs then 0 else 2
def chkS (xs : List (Int × Int)) : Int := if chkL xs = 0 then (if xs.length = 0 then 4 else 0) else chkL xs
theorem vrsB_snoc (xs : List (Int × Int)) (p : Int × Int) : vrsB (xs ++ [p]) = (vrsB xs && vrB p.1 p.2) := by simp [vrsB, List.all_append]
theorem chkL_no {xs : List (Int × Int)} (hl : xs.length ≤ 100) {k : Nat} {p : Int × Int} (h : xs[k]? = some p) (hp : vrB p.1 p.2 = false) : chkL xs = 2 := by
  have : vrsB xs = false := by
    rw [Bool.eq_false_iff]
    intro ha
    have := List.all_eq_true.1 ha p (List.mem_of_getElem? h)
    rw [hp] at this
    cases this
  unfold chkL
  rw [if_neg (by omega), this]
  rfl
theorem chkL_yes {xs : List (Int × Int)} (hl : xs.length ≤ 100) (h : vrsB xs = true) : chkL xs = 0 := by unfold chkL; rw [if_neg (by omega), h]; rfl

set_option maxRecDepth 20000 in
set_option maxHeartbeats 1000000 in
theorem checkList_any (v : Value) (xs : List (Int × Int)) (w : World) (hv : SetAt w.heap.size w v xs) :
    Calls Try.prog 96 #[v] w fun e w' => e = .returned (.int .i64 (chkL xs)) ∧ Below w.heap.size w w' := by
  obtain ⟨A, c, rfl, hr⟩ := hv
  by_cases hbig : 100 < xs.length
  · have E : Hid (chkL xs = 5) := Lib.hid (by unfold chkL; rw [if_pos hbig])
    generalize xs.length = n at *
    go_enter Try.func96, Try.ntmps96
    go_wp2_with fail
    go_ret
    exact ⟨ret_int E.out.symm, Below.refl _ _⟩
  · have HN := Lib.hid (fun (k : Nat) (p : Int × Int) (h : xs[k]? = some p) hp => chkL_no (by omega) h hp)
    have HY := Lib.hid (fun h => chkL_yes (xs := xs) (by omega) h)
    generalize chkL xs = re at *
    obtain ⟨n, hn⟩ : ∃ n, xs.length = n := ⟨_, rfl⟩
    rw [hn] at hbig hr ⊢
    have Hn := Lib.hid hn
    have HR := Lib.hid hr
    clear hr hn
    go_enter Try.func96, Try.ntmps96
    go_wp2_with fail
    go_loopw [10] (fun i wr => ∃ k : Nat, k ≤ n ∧ i = .int .i64 k ∧ Hid (vrsB (xs.take k) = true) ∧ Below w.heap.size w wr) (fun i _ => n - (RowKit.intOf i).toNat)
    case atStart => exact ⟨0, Nat.zero_le _, rfl, Lib.hid rfl, Below.refl _ _⟩
    case round =>
      obtain ⟨k, hk, rfl, ho, hbr⟩ := hrel
      by_cases hlt : (k : Int) < (n : Int)
      · obtain ⟨p, hp⟩ : ∃ p, xs[k]? = some p := ⟨_, List.getElem?_eq_getElem (by rw [Hn.out]; omega)⟩
        obtain ⟨g, off, rfl, hg, hc⟩ := HR.out (by omega)
        obtain ⟨q0, q1⟩ := (hc.below hbr hg) k p hp
        have HNk := Lib.hid (HN.out k p hp)
        have hok : Hid (vrsB (xs.take (k + 1)) = vrB p.1 p.2) := Lib.hid (by rw [take_snoc' xs k p hp, vrsB_snoc, ho.out]; rfl)
        have c1 := Lib.hid (validRange_any p.1 p.2)
        clear hc hp
        generalize vrB p.1 p.2 = b at *
        cases b
        · have E := Lib.hid (HNk.out rfl)
          go_wp2_with fail
          refine (c1.out _).mono ?_
          rintro e w1 ⟨rfl, hb⟩
          have hB := hbr.trans ((below1 hb).mono hbr.size)
          clear hb
          go_wp2_with fail
          go_ret
          exact ⟨ret_int E.out.symm, hB⟩
        · go_wp2_with fail
          refine (c1.out _).mono ?_
          rintro e w1 ⟨rfl, hb⟩
          have hB := hbr.trans ((below1 hb).mono hbr.size)
          clear hb q0 q1
          go_wp2_with fail
          go_roundw
          case rel => exact ⟨k + 1, by omega, by go_num, hok, hB⟩
          case measure => simp [RowKit.intOf]; omega
      · obtain rfl : k = n := by omega
        have E : Hid (re = 0) := Lib.hid (HY.out (by have h := ho.out; rwa [List.take_of_length_le (by rw [Hn.out]; exact Nat.le_refl _)] at h))
        go_wp2_with fail
        go_ret
        exact ⟨ret_int E.out.symm, hbr⟩

set_option maxRecDepth 20000 in
set_option maxHeartbeats 1000000 in
theorem checkSome_any (v : Value) (xs : List (Int × Int)) (w : World) (hv : SetAt w.heap.size w v xs) :
    Calls Try.prog 87 #[v] w fun e w' => e = .returned (.int .i64 (chkS xs)) ∧ Below w.heap.size w w' := by
  have c1 := Lib.hid (checkList_any v xs w hv)
  obtain ⟨A, c, rfl, hr⟩ := hv
  have E : Hid (chkS xs = if chkL xs = 0 then (if xs.length = 0 then 4 else 0) else chkL xs) := Lib.hid rfl
  generalize chkS xs = rs at *
  generalize chkL xs = re at *
  generalize xs.length = n at *
  clear hr
  by_cases h0 : re = 0
  · subst h0
    by_cases hn : n = 0
    · subst hn
      go_enter Try.func87, Try.ntmps87
      go_wp2_with fail
      refine c1.out.mono ?_
      rintro e w1 ⟨rfl, hb⟩
      go_wp2_with fail
      go_ret
      exact ⟨ret_int (by rw [E.out]; rfl), hb⟩
    · have hn' : ((n : Int) == 0) = false := by simpa using hn
      have HN := Lib.hid hn
      clear hn
      go_enter Try.func87, Try.ntmps87
      go_wp2_with fail
      refine c1.out.mono ?_
      rintro e w1 ⟨rfl, hb⟩
      go_wp2_with fail
      go_ret
      exact ⟨ret_int (by have h := E.out; simp [HN.out] at h; rw [h]), hb⟩
  · have hre : (re != 0) = true := by simpa using h0
    have H0 := Lib.hid h0
    clear h0
    go_enter Try.func87, Try.ntmps87
    go_wp2_with fail
    refine c1.out.mono ?_
    rintro e w1 ⟨rfl, hb⟩
    go_wp2_with fail
    go_ret
    exact ⟨ret_int (by rw [E.out, if_neg H0.out]), hb⟩

open Go.RowKit Go.Lib Go.Shelf
set_option linter.unusedVariables false
set_option linter.unusedSimpArgs false
attribute [local go_sem ↓] Go.wp_at_zero Go.wp_at_succ

set_option maxHeartbeats 1000000 in
theorem together_gen (NL : Nat) (F : Nat) (J : Int × Int → Int × Int → Int × Int) (D : Nat → Int × Int → Prop) (E : Int × Int → Prop) (hE : ∀ args w, (callFunc F args).run Try.prog w = .ok (.enter F args) w) (hJ : ∀ (k : Nat) (a b : Int × Int) (w : World), k < NL → D k a → E b → Calls Try.prog F #[.agg #[.int .i64 a.1, .int .i64 a.2], .agg #[.int .i64 b.1, .int .i64 b.2]] w fun e w' => e = .returned (.agg #[.int .i64 (J a b).1, .int .i64 (J a b).2]) ∧ Below w.heap.size w w') (hD : ∀ k a b, D k a → E b → D (k + 1) (J a b)) (lo hi : Int) (h0 : D 0 (lo, hi)) (g off : Nat) (xs : List (Int × Int)) (c : Nat) (w : World)
    (hx : ∀ p ∈ xs, E p) (hg : g < w.heap.size) (hr : RRd w g off xs) (hl : xs.length ≤ 1000000) (hNL : xs.length ≤ NL) :
    Calls Try.prog 85 #[.agg #[.int .i64 lo, .int .i64 hi], .slice (some ⟨g, off, none⟩) xs.length c, .func (Fn.func F) #[] #[]] w fun e w' =>
      e = .returned (.agg #[.int .i64 (xs.foldl J (lo, hi)).1, .int .i64 (xs.foldl J (lo, hi)).2]) ∧ Below w.heap.size w w' := by
  obtain ⟨n, hn⟩ : ∃ n, xs.length = n := ⟨_, rfl⟩
  rw [hn] at hl hNL ⊢
  have Hn := Lib.hid hn
  clear hn
  have HJ := Lib.hid hJ
  have HD := Lib.hid hD
  have H0 := Lib.hid h0
  have HX := Lib.hid hx
  have HR := Lib.hid hr
  clear hJ hD h0 hx hr
  go_enter Try.func85, Try.ntmps85
  go_wp2_with fail
  go_loopw [11] (fun i wr => ∃ (k : Nat) (a : Int × Int), k ≤ n ∧ i = .int .i64 k ∧ Hid (a = (xs.take k).foldl J (lo, hi)) ∧ D k a ∧ wr.cell? ⟨w.heap.size, 0, none⟩ = some (.int .i64 a.1) ∧ wr.cell? ⟨w.heap.size, 1, none⟩ = some (.int .i64 a.2) ∧ wr.frozen? ⟨w.heap.size, 0, none⟩ = false ∧ wr.frozen? ⟨w.heap.size, 1, none⟩ = false ∧
      wr.cell? ⟨w.heap.size + 1, 0, none⟩ = some (.int .i64 0) ∧ wr.cell? ⟨w.heap.size + 1, 1, none⟩ = some (.int .i64 0) ∧ wr.frozen? ⟨w.heap.size + 1, 0, none⟩ = false ∧ wr.frozen? ⟨w.heap.size + 1, 1, none⟩ = false ∧ w.heap.size + 1 < wr.heap.size ∧ Below w.heap.size w wr) (fun i _ => n - (RowKit.intOf i).toNat)
  case atStart =>
    refine ⟨0, (lo, hi), Nat.zero_le _, rfl, Lib.hid rfl, H0.out, ?_, ?_, ?_, ?_, ?_, ?_, ?_, ?_, ?_, ?_⟩
    all_goals first | (simp; done) | exact ((Below.refl _ _).alloc (Nat.le_refl _) _).alloc (by simp) _
  case round =>
    obtain ⟨k, a, hk, rfl, ha, hDa, c0, c1, f0, f1, d0, d1, e0, e1, hz, hbr⟩ := hrel
    have hz0 : w.heap.size < wr.heap.size := by omega
    have hz0e : w.heap.size ≤ wr.heap.size := by omega
    have hgw : g < wr.heap.size := by omega
    by_cases hlt : k < n
    · have hkl : k < xs.length := by rw [Hn.out]; exact hlt
      obtain ⟨p, hp⟩ : ∃ p, xs[k]? = some p := ⟨_, List.getElem?_eq_getElem hkl⟩
      have hpD : E p := HX.out p (List.mem_of_getElem? hp)
      obtain ⟨q0, q1⟩ := (HR.out.below hbr hg) k p hp
      have hp' := Lib.hid hp
      clear hp
      go_wp2_with fail
      refine (HJ.out k a p _ (by omega) hDa hpD).mono ?_
      rintro e w1 ⟨rfl, hb1⟩
      have hDq := HD.out k a p hDa hpD
      have haq : Hid (J a p = (xs.take (k + 1)).foldl J (lo, hi)) := Lib.hid (by rw [List.take_add_one, hp'.out, List.foldl_append, ← ha.out]; rfl)
      generalize J a p = q at *
      have hB1 := below1 hb1
      have hz1 := hB1.size
      replace c0 := cell_next hB1 hz0 c0
      replace c1 := cell_next hB1 hz0 c1
      replace f0 := frozen_next hB1 hz0 f0
      replace f1 := frozen_next hB1 hz0 f1
      replace d0 := cell_next hB1 hz d0
      replace d1 := cell_next hB1 hz d1
      replace e0 := frozen_next hB1 hz e0
      replace e1 := frozen_next hB1 hz e1
      replace hbr := hbr.trans (hB1.mono (by omega))
      clear hb1 hB1 q0 q1
      go_wp2_with fail
      go_roundw
      case rel =>
        refine ⟨k + 1, q, by omega, by go_num, haq, hDq, ?_, ?_, ?_, ?_, ?_, ?_, ?_, ?_, by simp; omega, (hbr.setCell (p := ⟨w.heap.size, 0, none⟩) (Nat.le_refl _) _).setCell (p := ⟨w.heap.size, 1, none⟩) (Nat.le_refl _) _⟩
        all_goals simp [go_sem, *]
      case measure => simp [RowKit.intOf]; omega
    · obtain rfl : k = n := by omega
      have hfin : a = xs.foldl J (lo, hi) := by rw [ha.out, List.take_of_length_le (by rw [Hn.out]; omega)]
      have Hfin := Lib.hid hfin
      clear hfin ha
      go_wp2_with fail
      refine bodyPost_ret (v := .agg #[.int .i64 a.1, .int .i64 a.2]) (by simp [results, Try.results85, go_sem, *]) rfl ⟨by rw [Hfin.out], ?_⟩
      exact (hbr.setCell (by simp) _).setCell (by simp) _

def sumJ (a b : Int × Int) : Int × Int := (a.1 + b.1, a.2 + b.2)
def meetJ (a b : Int × Int) : Int × Int := (max a.1 b.1, min a.2 b.2)

/-- an empty list brings nothing together -/
theorem together_nil (F : Nat) (lo hi : Int) (A : Option Addr) (c : Nat) (w : World) :
    Calls Try.prog 85 #[.agg #[.int .i64 lo, .int .i64 hi], .slice A 0 c, .func (Fn.func F) #[] #[]] w fun e w' => e = .returned (.agg #[.int .i64 lo, .int .i64 hi]) ∧ Below w.heap.size w w' := by
  go_enter Try.func85, Try.ntmps85
  go_wp2_with fail
  go_loopw [11] (fun i wr => i = .int .i64 0 ∧ wr = (w.alloc (.cells #[.int .i64 lo, .int .i64 hi] 31)).alloc (.cells #[.int .i64 0, .int .i64 0] 31)) (fun _ _ => 0)
  case atStart => exact ⟨rfl, rfl⟩
  case round =>
    obtain ⟨rfl, rfl⟩ := hrel
    go_wp2_with fail
    refine bodyPost_ret (v := .agg #[.int .i64 lo, .int .i64 hi]) (by simp [results, Try.results85, go_sem]) rfl ⟨rfl, ?_⟩
    exact ((Below.refl _ _).alloc (Nat.le_refl _) _).alloc (by simp) _

def BdK (k : Nat) (a : Int × Int) : Prop := -1000000000000000 * ((k : Int) + 1) ≤ a.1 ∧ a.1 ≤ 1000000000000000 * ((k : Int) + 1) ∧ -1000000000000000 * ((k : Int) + 1) ≤ a.2 ∧ a.2 ≤ 1000000000000000 * ((k : Int) + 1)
def BdE (a : Int × Int) : Prop := -1000000000000000 ≤ a.1 ∧ a.1 ≤ 1000000000000000 ∧ -1000000000000000 ≤ a.2 ∧ a.2 ≤ 1000000000000000
theorem vrsB_bd {xs : List (Int × Int)} (h : vrsB xs = true) : ∀ p ∈ xs, BdE p := fun p hp => by
  have := vrB_of' (List.all_eq_true.1 h p hp)
  exact ⟨by omega, by omega, by omega, by omega⟩

theorem keepg {w W W' : World} {g o1 o2 : Nat} {x y : Option Value} (hg : g < w.heap.size) (hb : Below W.heap.size W W') (h : W.cell? ⟨g, o1, none⟩ = x ∧ W.cell? ⟨g, o2, none⟩ = y ∧ Kp w.heap.size w W) :
    W'.cell? ⟨g, o1, none⟩ = x ∧ W'.cell? ⟨g, o2, none⟩ = y ∧ Kp w.heap.size w W' := by
  obtain ⟨h1, h2, h3⟩ := h
  have := h3.2.1
  exact ⟨cell_next hb (by omega) h1, cell_next hb (by omega) h2, h3.next h3.1.size hb⟩
theorem keepg_res {w W : World} {g o1 o2 : Nat} {x y : Option Value} {u v : Value} (hg : g < w.heap.size) (h : W.cell? ⟨g, o1, none⟩ = x ∧ W.cell? ⟨g, o2, none⟩ = y ∧ Kp w.heap.size w W) :
    ((W.setCell ⟨w.heap.size, 0, none⟩ u).setCell ⟨w.heap.size, 1, none⟩ v).cell? ⟨g, o1, none⟩ = x ∧ ((W.setCell ⟨w.heap.size, 0, none⟩ u).setCell ⟨w.heap.size, 1, none⟩ v).cell? ⟨g, o2, none⟩ = y ∧ Kp w.heap.size w ((W.setCell ⟨w.heap.size, 0, none⟩ u).setCell ⟨w.heap.size, 1, none⟩ v) := by
  obtain ⟨h1, h2, h3⟩ := h
  refine ⟨?_, ?_, h3.set (Nat.le_refl _) u v⟩
  · rw [World.cell?_setCell_other _ _ _ _ (by intro e; injection e; omega), World.cell?_setCell_other _ _ _ _ (by intro e; injection e; omega)]; exact h1
  · rw [World.cell?_setCell_other _ _ _ _ (by intro e; injection e; omega), World.cell?_setCell_other _ _ _ _ (by intro e; injection e; omega)]; exact h2

/-- all ranges summed; the least and the greatest -/
def sumP (xs : List (Int × Int)) : Int × Int := xs.foldl sumJ (0, 0)
def smL (xs : List (Int × Int)) : Int := if chkL xs = 0 then fitL (sumP xs).1 (sumP xs).2 else 0
def smH (xs : List (Int × Int)) : Int := if chkL xs = 0 then fitH (sumP xs).1 (sumP xs).2 else 0
def smE (xs : List (Int × Int)) : Int := if chkL xs = 0 then fitE (sumP xs).1 (sumP xs).2 else chkL xs
theorem chkL_ok {xs : List (Int × Int)} (h : chkL xs = 0) : xs.length ≤ 100 ∧ vrsB xs = true := by
  unfold chkL at h
  split at h
  · cases h
  · split at h
    · exact ⟨by omega, by assumption⟩
    · cases h

open Go.RowKit Go.Lib Go.Shelf
set_option linter.unusedVariables false
set_option linter.unusedSimpArgs false
attribute [local go_sem ↓] Go.wp_at_zero Go.wp_at_succ

theorem chkS_ok {xs : List (Int × Int)} (h : chkS xs = 0) : 0 < xs.length ∧ xs.length ≤ 100 ∧ vrsB xs = true := by
  unfold chkS at h
  split at h
  · split at h
    · cases h
    · have := chkL_ok (xs := xs) (by assumption)
      exact ⟨by omega, this⟩
  · exact (by assumption : ¬ chkL xs = 0) h |>.elim

theorem hull_at (p : Int × Int) (ys : List (Int × Int)) (n : Nat) (hn : ys.length = n) (hl : n ≤ 100) (w : World) (g off : Nat) (zs : List (Int × Int)) (c : Nat) (W : World) (hb : Below w.heap.size w W) (hg : g < W.heap.size) (hz : zs.length ≤ 100) (hr : RRd W g off zs) :
    Calls Try.prog 69 #[.agg #[.int .i64 p.1, .int .i64 p.2], .slice (some ⟨g, off, none⟩) zs.length c] W fun e w' => e = .returned (.agg #[.int .i64 (zs.foldl hullJ (p.1, p.2)).1, .int .i64 (zs.foldl hullJ (p.1, p.2)).2]) ∧ Below W.heap.size W w' :=
  hull_any p.1 p.2 g off zs c W hg hr (by omega)
theorem keepg_far {w W : World} {g c o1 o2 : Nat} {x y : Option Value} {u v : Value} (hg : g < w.heap.size) (hc : w.heap.size < c) (h : W.cell? ⟨g, o1, none⟩ = x ∧ W.cell? ⟨g, o2, none⟩ = y ∧ Kp w.heap.size w W) :
    ((W.setCell ⟨c, 0, none⟩ u).setCell ⟨c, 1, none⟩ v).cell? ⟨g, o1, none⟩ = x ∧ ((W.setCell ⟨c, 0, none⟩ u).setCell ⟨c, 1, none⟩ v).cell? ⟨g, o2, none⟩ = y ∧ Kp w.heap.size w ((W.setCell ⟨c, 0, none⟩ u).setCell ⟨c, 1, none⟩ v) := by
  obtain ⟨h1, h2, k1, k2, ⟨v0, k3⟩, ⟨v1, k4⟩, k5, k6⟩ := h
  have hne : c ≠ w.heap.size := by omega
  refine ⟨set2_far _ _ (by omega) h1, set2_far _ _ (by omega) h2, (k1.setCell (p := ⟨c, 0, none⟩) (Nat.le_of_lt hc) _).setCell (p := ⟨c, 1, none⟩) (Nat.le_of_lt hc) _, by simpa using k2, ⟨v0, set2_far _ _ hne k3⟩, ⟨v1, set2_far _ _ hne k4⟩, ?_, ?_⟩
  · rw [World.frozen?_setCell, World.frozen?_setCell]; exact k5
  · rw [World.frozen?_setCell, World.frozen?_setCell]; exact k6
def hullP (xs : List (Int × Int)) : Int × Int := match xs with | [] => (0, 0) | p :: ys => ys.foldl hullJ (p.1, p.2)
def meetP (xs : List (Int × Int)) : Int × Int := match xs with | [] => (0, 0) | p :: ys => ys.foldl meetJ (p.1, p.2)
def huL (xs : List (Int × Int)) : Int := if chkS xs = 0 then (hullP xs).1 else 0
def huH (xs : List (Int × Int)) : Int := if chkS xs = 0 then (hullP xs).2 else 0
def huE (xs : List (Int × Int)) : Int := if chkS xs = 0 then 0 else chkS xs
def meL (xs : List (Int × Int)) : Int := if chkS xs = 0 then (if (meetP xs).2 < (meetP xs).1 then 0 else (meetP xs).1) else 0
def meH (xs : List (Int × Int)) : Int := if chkS xs = 0 then (if (meetP xs).2 < (meetP xs).1 then 0 else (meetP xs).2) else 0
def meE (xs : List (Int × Int)) : Int := if chkS xs = 0 then (if (meetP xs).2 < (meetP xs).1 then 7 else 0) else chkS xs

set_option maxRecDepth 20000 in
set_option maxHeartbeats 2000000 in
theorem hullAll_any (v : Value) (xs : List (Int × Int)) (w : World) (hv : RowAt w.heap.size w v xs) :
    Calls Try.prog 70 #[v] w fun e w' => e = .returned (.tuple #[.agg #[.int .i64 (huL xs), .int .i64 (huH xs)], .int .i64 (huE xs)]) ∧ Below w.heap.size w w' := by
  have HC : Hid (∀ W : World, Below w.heap.size w W → Calls Try.prog 87 #[v] W fun e w' => e = .returned (.int .i64 (chkS xs)) ∧ Below W.heap.size W w') := Lib.hid fun W hb => checkSome_any v xs W ((hv.set.below hb (Nat.le_refl _)).mono hb.size)
  obtain ⟨A, c, rfl, hcap, hr⟩ := hv
  by_cases h0 : chkS xs = 0
  · obtain ⟨hne, hl, hvs⟩ := chkS_ok h0
    obtain ⟨g, off, rfl, hgw, hrr⟩ := hr (by omega)
    obtain ⟨p, ys, rfl⟩ : ∃ p ys, xs = p :: ys := by
      cases xs with
      | nil => simp at hne
      | cons p ys => exact ⟨p, ys, rfl⟩
    have E0 : Hid (huE (p :: ys) = 0) := Lib.hid (by unfold huE; rw [if_pos h0])
    have E1 : Hid (huL (p :: ys) = (hullP (p :: ys)).1) := Lib.hid (by unfold huL; rw [if_pos h0])
    have E2 : Hid (huH (p :: ys) = (hullP (p :: ys)).2) := Lib.hid (by unfold huH; rw [if_pos h0])
    have hc0 := (hrr 0 p rfl).1
    have hc1 := (hrr 0 p rfl).2
    simp only [Nat.zero_mul, Nat.add_zero] at hc0 hc1
    rw [h0] at HC
    have HR := Lib.hid hrr
    obtain ⟨n, hn⟩ : ∃ n, ys.length = n := ⟨_, rfl⟩
    have hl1 : (p :: ys).length = n + 1 := by simp [hn]
    rw [hl1] at hcap HC hl ⊢
    have Hn := Lib.hid hn
    clear hne hvs hr hrr hn hl1 h0
    have hg0 : (0 : Int) < (n : Int) + 1 := by omega
    have hwn : IntKind.i64.wrap ((n : Int) + 1) = (n : Int) + 1 := IntWalk.i64_in _ (by omega)
    have h1n : (1 : Int) ≤ (n : Int) + 1 := by omega
    have hca : (1 : Int) ≤ (c : Int) := by omega
    have hcb : (n : Int) + 1 ≤ (c : Int) := by omega
    obtain ⟨A2, c2, hsl, HT⟩ : ∃ (A2 : Option Addr) (c2 : Nat), (c = 1 ∧ n = 0 ∧ A2 = some ⟨g, off, none⟩ ∧ c2 = 0 ∨ 1 < c ∧ A2 = some ⟨g, off + 2, none⟩ ∧ c2 = c - 1) ∧
        Hid (∀ W : World, Below w.heap.size w W → Calls Try.prog 69 #[.agg #[.int .i64 p.1, .int .i64 p.2], .slice A2 n c2] W fun e w' => e = .returned (.agg #[.int .i64 (hullP (p :: ys)).1, .int .i64 (hullP (p :: ys)).2]) ∧ Below W.heap.size W w') := by
      by_cases hc1' : c = 1
      · have hn0 : n = 0 := by omega
        have hys : ys = [] := List.eq_nil_of_length_eq_zero (by rw [Hn.out]; exact hn0)
        refine ⟨_, _, .inl ⟨hc1', hn0, rfl, rfl⟩, Lib.hid fun W hb => ?_⟩
        have hz := hb.size
        have h := hull_at p ys n Hn.out (by omega) w g off [] 0 W hb (by omega) (by simp) (fun k q hq => by simp at hq)
        rw [hn0]
        simpa [hys, hullP] using h
      · refine ⟨_, _, .inr ⟨by omega, rfl, rfl⟩, Lib.hid fun W hb => ?_⟩
        have hz := hb.size
        have h := hull_at p ys n Hn.out (by omega) w g (off + 2) ys (c - 1) W hb (by omega) (by rw [Hn.out]; omega) (RRd.tail (HR.out.below hb hgw))
        rw [Hn.out] at h
        exact h
    generalize hPP : (hullP (p :: ys)) = P at *
    have HPP := Lib.hid hPP
    clear hPP
    rcases hsl with ⟨rfl, rfl, rfl, rfl⟩ | ⟨hc2, rfl, rfl⟩
    · skip
      go_enter Try.func70, Try.ntmps70
      go_wp2_with fail
      refine (HC.out _ ((Below.refl _ _).alloc (Nat.le_refl _) _)).mono ?_
      rintro e w1 ⟨rfl, hb⟩
      have r0 := cell_next hb (b := w.heap.size) (o := 0) (by simp <;> omega) (v := some (.int .i64 0)) (by simp [go_sem])
      have r1 := cell_next hb (b := w.heap.size) (o := 1) (by simp <;> omega) (v := some (.int .i64 0)) (by simp [go_sem])
      have f0 := frozen_next hb (b := w.heap.size) (o := 0) (by simp <;> omega) (v := false) (by simp [go_sem])
      have f1 := frozen_next hb (b := w.heap.size) (o := 1) (by simp <;> omega) (v := false) (by simp [go_sem])
      have nz : w.heap.size < w1.heap.size := by have := hb.size; simp at this; omega
      have hB := below1 hb
      clear hb
      replace hc0 := cell_next hB hgw hc0
      replace hc1 := cell_next hB hgw hc1
      have hKp : Kp w.heap.size w w1 := ⟨hB, nz, ⟨_, r0⟩, ⟨_, r1⟩, f0, f1⟩
      have HKp := Lib.hid hKp
      clear hKp r0 r1 f0 f1 hB
      go_wp2_with fail
      have hS := And.intro hc0 (And.intro hc1 HKp.out)
      clear hc0 hc1
      refine wp_region_held_drew (S := fun W' => W'.cell? ⟨g, off, none⟩ = some (.int .i64 p.1) ∧ W'.cell? ⟨g, off + 1, none⟩ = some (.int .i64 p.2) ∧ Kp w.heap.size w W') (by kernel_rfl) ?_ (fun hHeld => ?_)
      focus (exact keepg hgw (Below.drew (Below.refl _ _)) hS)
      refine take_slot (i := 0) (d := 11) (v := ?_) rfl rfl (by kernel_rfl) (by kernel_rfl) (by kernel_rfl) (fun _ _ _ h => h) (Or.inl ⟨by rfl, ?_⟩) (by assumption) ?_
      rotate_left 1
      focus (intro wS hSw; (try dsimp only at hSw); go_simp; try with_reducible rfl)
      try simp only [List.setIfInBounds_toArray, List.set_cons_zero, List.set_cons_succ]
      refine take_slot (i := 1) (d := 12) (v := ?_) rfl rfl (by kernel_rfl) (by kernel_rfl) (by kernel_rfl) (fun _ _ _ h => h) (Or.inl ⟨by rfl, ?_⟩) (by assumption) ?_
      rotate_left 1
      focus (intro wS hSw; (try dsimp only at hSw); go_simp; try with_reducible rfl)
      try simp only [List.setIfInBounds_toArray, List.set_cons_zero, List.set_cons_succ]
      refine take_slot (i := 2) (d := 13) (v := ?_) rfl rfl (by kernel_rfl) (by kernel_rfl) (by kernel_rfl) (fun _ _ _ h => h) (Or.inl ⟨by rfl, ?_⟩) (by assumption) ?_
      rotate_left 1
      focus (intro wS hSw; (try dsimp only at hSw); go_simp; try with_reducible rfl)
      try simp only [List.setIfInBounds_toArray, List.set_cons_zero, List.set_cons_succ]
      refine take_slot (i := 3) (d := 14) (v := ?_) rfl rfl (by kernel_rfl) (by kernel_rfl) (by kernel_rfl) (fun _ _ _ h => h) (Or.inl ⟨by rfl, ?_⟩) (by assumption) ?_
      rotate_left 1
      focus (intro wS hSw; (try dsimp only at hSw); go_simp; try with_reducible rfl)
      try simp only [List.setIfInBounds_toArray, List.set_cons_zero, List.set_cons_succ]
      refine take_slot (i := 4) (d := 15) (v := ?_) rfl rfl (by kernel_rfl) (by kernel_rfl) (by kernel_rfl) (fun _ _ _ h => h) (Or.inl ⟨by rfl, ?_⟩) (by assumption) ?_
      rotate_left 1
      focus (intro wS hSw; (try dsimp only at hSw); go_simp; try with_reducible rfl)
      try simp only [List.setIfInBounds_toArray, List.set_cons_zero, List.set_cons_succ]
      refine wpAnyH_ready (rs := [5]) (by kernel_rfl) (by simp) ?_
      refine AllReadyH.cons rfl (fun K hK => ?_) AllReadyH.nil
      skip
      go_simp
      refine (HT.out _ hHeld.2.2.1).mono ?_; rintro e w5 ⟨rfl, hb5⟩
      refine hK.out _ _ ?_ (fun hHeld => ?_)
      focus (exact keepg hgw hb5 hHeld)
      clear hK K
      try simp only [Act.put, List.setIfInBounds_toArray, List.set_cons_zero, List.set_cons_succ]
      refine wpAnyH_ready (rs := [6]) (by kernel_rfl) (by simp) ?_
      refine AllReadyH.cons rfl (fun K hK => ?_) AllReadyH.nil
      have hKeep := hHeld; obtain ⟨_, _, kb, ksz, ⟨v0, k0⟩, ⟨v1, k1⟩, kf0, kf1⟩ := hHeld
      go_simp
      skip
      refine hK.out _ _ ?_ (fun hHeld => ?_)
      focus (exact keepg_res hgw hKeep)
      clear hK K
      try simp only [Act.put, List.setIfInBounds_toArray, List.set_cons_zero, List.set_cons_succ]
      refine take_slot (i := 7) (d := 3) (v := ?_) rfl rfl (by kernel_rfl) (by kernel_rfl) (by kernel_rfl) (fun _ _ _ h => h) (Or.inl ⟨by rfl, ?_⟩) (by assumption) ?_
      rotate_left 1
      focus (intro wS hSw; (try dsimp only at hSw); go_simp; try with_reducible rfl)
      try simp only [List.setIfInBounds_toArray, List.set_cons_zero, List.set_cons_succ]
      refine wpAnyH_done (by kernel_rfl) ?_ _
      obtain ⟨_, _, hkk, _⟩ := hHeld
      go_wp2_with fail
      refine bodyPost_ret (v := .tuple #[.agg #[.int .i64 P.1, .int .i64 P.2], .int .i64 0]) (by simp [results, Try.results70, go_sem, k0, k1]) rfl ⟨by rw [E0.out, E1.out, E2.out], hkk⟩

    · have hcne : ¬ c = 1 := by omega
      go_enter Try.func70, Try.ntmps70
      go_wp2_with fail
      refine (HC.out _ ((Below.refl _ _).alloc (Nat.le_refl _) _)).mono ?_
      rintro e w1 ⟨rfl, hb⟩
      have r0 := cell_next hb (b := w.heap.size) (o := 0) (by simp <;> omega) (v := some (.int .i64 0)) (by simp [go_sem])
      have r1 := cell_next hb (b := w.heap.size) (o := 1) (by simp <;> omega) (v := some (.int .i64 0)) (by simp [go_sem])
      have f0 := frozen_next hb (b := w.heap.size) (o := 0) (by simp <;> omega) (v := false) (by simp [go_sem])
      have f1 := frozen_next hb (b := w.heap.size) (o := 1) (by simp <;> omega) (v := false) (by simp [go_sem])
      have nz : w.heap.size < w1.heap.size := by have := hb.size; simp at this; omega
      have hB := below1 hb
      clear hb
      replace hc0 := cell_next hB hgw hc0
      replace hc1 := cell_next hB hgw hc1
      have hKp : Kp w.heap.size w w1 := ⟨hB, nz, ⟨_, r0⟩, ⟨_, r1⟩, f0, f1⟩
      have HKp := Lib.hid hKp
      clear hKp r0 r1 f0 f1 hB
      go_wp2_with fail
      have hS := And.intro hc0 (And.intro hc1 HKp.out)
      clear hc0 hc1
      refine wp_region_held_drew (S := fun W' => W'.cell? ⟨g, off, none⟩ = some (.int .i64 p.1) ∧ W'.cell? ⟨g, off + 1, none⟩ = some (.int .i64 p.2) ∧ Kp w.heap.size w W') (by kernel_rfl) ?_ (fun hHeld => ?_)
      focus (exact keepg hgw (Below.drew (Below.refl _ _)) hS)
      refine take_slot (i := 0) (d := 11) (v := ?_) rfl rfl (by kernel_rfl) (by kernel_rfl) (by kernel_rfl) (fun _ _ _ h => h) (Or.inl ⟨by rfl, ?_⟩) (by assumption) ?_
      rotate_left 1
      focus (intro wS hSw; (try dsimp only at hSw); go_simp; try with_reducible rfl)
      try simp only [List.setIfInBounds_toArray, List.set_cons_zero, List.set_cons_succ]
      refine take_slot (i := 1) (d := 12) (v := ?_) rfl rfl (by kernel_rfl) (by kernel_rfl) (by kernel_rfl) (fun _ _ _ h => h) (Or.inl ⟨by rfl, ?_⟩) (by assumption) ?_
      rotate_left 1
      focus (intro wS hSw; (try dsimp only at hSw); go_simp; try with_reducible rfl)
      try simp only [List.setIfInBounds_toArray, List.set_cons_zero, List.set_cons_succ]
      refine take_slot (i := 2) (d := 13) (v := ?_) rfl rfl (by kernel_rfl) (by kernel_rfl) (by kernel_rfl) (fun _ _ _ h => h) (Or.inl ⟨by rfl, ?_⟩) (by assumption) ?_
      rotate_left 1
      focus (intro wS hSw; (try dsimp only at hSw); go_simp; try with_reducible rfl)
      try simp only [List.setIfInBounds_toArray, List.set_cons_zero, List.set_cons_succ]
      refine take_slot (i := 3) (d := 14) (v := ?_) rfl rfl (by kernel_rfl) (by kernel_rfl) (by kernel_rfl) (fun _ _ _ h => h) (Or.inl ⟨by rfl, ?_⟩) (by assumption) ?_
      rotate_left 1
      focus (intro wS hSw; (try dsimp only at hSw); go_simp; try with_reducible rfl)
      try simp only [List.setIfInBounds_toArray, List.set_cons_zero, List.set_cons_succ]
      refine take_slot (i := 4) (d := 15) (v := ?_) rfl rfl (by kernel_rfl) (by kernel_rfl) (by kernel_rfl) (fun _ _ _ h => h) (Or.inl ⟨by rfl, ?_⟩) (by assumption) ?_
      rotate_left 1
      focus (intro wS hSw; (try dsimp only at hSw); go_simp; try with_reducible rfl)
      try simp only [List.setIfInBounds_toArray, List.set_cons_zero, List.set_cons_succ]
      refine wpAnyH_ready (rs := [5]) (by kernel_rfl) (by simp) ?_
      refine AllReadyH.cons rfl (fun K hK => ?_) AllReadyH.nil
      skip
      go_simp
      refine (HT.out _ hHeld.2.2.1).mono ?_; rintro e w5 ⟨rfl, hb5⟩
      refine hK.out _ _ ?_ (fun hHeld => ?_)
      focus (exact keepg hgw hb5 hHeld)
      clear hK K
      try simp only [Act.put, List.setIfInBounds_toArray, List.set_cons_zero, List.set_cons_succ]
      refine wpAnyH_ready (rs := [6]) (by kernel_rfl) (by simp) ?_
      refine AllReadyH.cons rfl (fun K hK => ?_) AllReadyH.nil
      have hKeep := hHeld; obtain ⟨_, _, kb, ksz, ⟨v0, k0⟩, ⟨v1, k1⟩, kf0, kf1⟩ := hHeld
      go_simp
      skip
      refine hK.out _ _ ?_ (fun hHeld => ?_)
      focus (exact keepg_res hgw hKeep)
      clear hK K
      try simp only [Act.put, List.setIfInBounds_toArray, List.set_cons_zero, List.set_cons_succ]
      refine take_slot (i := 7) (d := 3) (v := ?_) rfl rfl (by kernel_rfl) (by kernel_rfl) (by kernel_rfl) (fun _ _ _ h => h) (Or.inl ⟨by rfl, ?_⟩) (by assumption) ?_
      rotate_left 1
      focus (intro wS hSw; (try dsimp only at hSw); go_simp; try with_reducible rfl)
      try simp only [List.setIfInBounds_toArray, List.set_cons_zero, List.set_cons_succ]
      refine wpAnyH_done (by kernel_rfl) ?_ _
      obtain ⟨_, _, hkk, _⟩ := hHeld
      go_wp2_with fail
      refine bodyPost_ret (v := .tuple #[.agg #[.int .i64 P.1, .int .i64 P.2], .int .i64 0]) (by simp [results, Try.results70, go_sem, k0, k1]) rfl ⟨by rw [E0.out, E1.out, E2.out], hkk⟩

  · have HN := Lib.hid h0
    have hne : (chkS xs != 0) = true := by simpa using h0
    have E0' : Hid (huE xs = chkS xs) := Lib.hid (by unfold huE; rw [if_neg h0])
    have E1' : Hid (huL xs = 0) := Lib.hid (by unfold huL; rw [if_neg h0])
    have E2' : Hid (huH xs = 0) := Lib.hid (by unfold huH; rw [if_neg h0])
    generalize chkS xs = ce at *
    generalize xs.length = n at *
    clear h0 hr
    go_enter Try.func70, Try.ntmps70
    go_wp2_with fail
    refine (HC.out _ ((Below.refl _ _).alloc (Nat.le_refl _) _)).mono ?_
    rintro e w1 ⟨rfl, hb⟩
    have r0 := cell_next hb (b := w.heap.size) (o := 0) (by simp <;> omega) (v := some (.int .i64 0)) (by simp [go_sem])
    have r1 := cell_next hb (b := w.heap.size) (o := 1) (by simp <;> omega) (v := some (.int .i64 0)) (by simp [go_sem])
    have f0 := frozen_next hb (b := w.heap.size) (o := 0) (by simp <;> omega) (v := false) (by simp [go_sem])
    have f1 := frozen_next hb (b := w.heap.size) (o := 1) (by simp <;> omega) (v := false) (by simp [go_sem])
    have nz : w.heap.size < w1.heap.size := by have := hb.size; simp at this; omega
    have hB := below1 hb
    clear hb
    go_wp2_with fail
    refine bodyPost_ret (v := .tuple #[.agg #[.int .i64 0, .int .i64 0], .int .i64 ce]) (by simp [results, Try.results70, go_sem, r0, r1, f0, f1]) rfl ⟨by rw [E0'.out, E1'.out, E2'.out], ?_⟩
    exact (hB.setCell (p := ⟨w.heap.size, 0, none⟩) (Nat.le_refl _) _).setCell (p := ⟨w.heap.size, 1, none⟩) (Nat.le_refl _) _
end Go.Proofs.Ytfdaiififoomoaa
