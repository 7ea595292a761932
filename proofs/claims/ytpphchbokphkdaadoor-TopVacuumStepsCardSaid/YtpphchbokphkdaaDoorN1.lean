/- Contracts: whether ranges are valid, what fits, sums, differences and comparisons of ranges; lists of ranges in memory. -/
import Derived.Test.YtpphchbokphkdaaDoorProg
import Derived.WalkKit
import Derived.WalkSpells
import Derived.WalkLawsBesides
import Derived.BigQuiet
import Derived.Deep.QuietTactic
import Derived.Lib.Hide
import Derived.Deep.Draws
import Derived.Maps.AppendAt
import Derived.Laws.OwnMore
import Derived.Deep.AppendLies
import Derived.Laws.AppendOwnNone
import Derived.IntWalk
import Derived.Shelf.Abstract
import Derived.Lib.SmallJoins
import Derived.Deep.DrawnRows
import Derived.Deep.RegionHeld3
import Derived.Deep.RegionWith
import Derived.Laws.CopyOwn
namespace Go.Proofs.YtpphchbokphkdaaDoor
open Go.RowKit Go.Lib Go.Shelf
set_option linter.unusedVariables false
set_option linter.unusedSimpArgs false
attribute [local go_sem ↓] Go.wp_at_zero Go.wp_at_succ

/-- whether a range is valid -/
def vrB (lo hi : Int) : Bool := decide (-1000000000000000 ≤ lo) && decide (lo ≤ hi) && decide (hi ≤ 1000000000000000)
/-- what fits -/
def fitL (lo hi : Int) : Int := if lo < -1000000000000000 ∨ 1000000000000000 < hi then 0 else lo
def fitH (lo hi : Int) : Int := if lo < -1000000000000000 ∨ 1000000000000000 < hi then 0 else hi
def fitE (lo hi : Int) : Int := if lo < -1000000000000000 ∨ 1000000000000000 < hi then 10 else 0
theorem fit_no (lo hi : Int) (h : lo < -1000000000000000 ∨ 1000000000000000 < hi) : fitL lo hi = 0 ∧ fitH lo hi = 0 ∧ fitE lo hi = 10 := by simp [fitL, fitH, fitE, h]
theorem fit_yes (lo hi : Int) (h1 : ¬ lo < -1000000000000000) (h2 : ¬ 1000000000000000 < hi) : fitL lo hi = lo ∧ fitH lo hi = hi ∧ fitE lo hi = 0 := by simp [fitL, fitH, fitE, h1, h2]
theorem below_drewN {B : Nat} {a w : World} (h : Below B a w) (n : Nat) : Below B a (w.drewN n) := ⟨h.os, h.tape, h.output, h.size, h.block⟩
theorem bcell {W w1 : World} (hb : Below W.heap.size W w1) : (∀ b o, b < W.heap.size → w1.cell? ⟨b, o, none⟩ = W.cell? ⟨b, o, none⟩) ∧ (∀ b o, b < W.heap.size → w1.frozen? ⟨b, o, none⟩ = W.frozen? ⟨b, o, none⟩) :=
  ⟨fun b o h => hb.cell (p := ⟨b, o, none⟩) h, fun b o h => hb.frozen (p := ⟨b, o, none⟩) h⟩
theorem cell_next {w w1 : World} {B b o : Nat} {v : Option Value} (hb : Below B w w1) (hB : b < B) (h : w.cell? ⟨b, o, none⟩ = v) : w1.cell? ⟨b, o, none⟩ = v := (hb.cell (p := ⟨b, o, none⟩) hB).trans h
theorem frozen_next {w w1 : World} {B b o : Nat} {v : Bool} (hb : Below B w w1) (hB : b < B) (h : w.frozen? ⟨b, o, none⟩ = v) : w1.frozen? ⟨b, o, none⟩ = v := (hb.frozen (p := ⟨b, o, none⟩) hB).trans h
theorem below1 {w w1 : World} {o : Obj} (h : Below (w.alloc o).heap.size (w.alloc o) w1) : Below w.heap.size w w1 := ((Below.refl _ _).alloc (Nat.le_refl _) _).trans (h.mono (by simp))
theorem below2 {w w1 : World} {o p : Obj} (h : Below ((w.alloc o).alloc p).heap.size ((w.alloc o).alloc p) w1) : Below w.heap.size w w1 := below1 (below1 h)
theorem below3 {w w1 : World} {o p q : Obj} (h : Below (((w.alloc o).alloc p).alloc q).heap.size (((w.alloc o).alloc p).alloc q) w1) : Below w.heap.size w w1 := below1 (below2 h)
theorem below4 {w w1 : World} {o p q r : Obj} (h : Below ((((w.alloc o).alloc p).alloc q).alloc r).heap.size ((((w.alloc o).alloc p).alloc q).alloc r) w1) : Below w.heap.size w w1 := below1 (below3 h)
theorem ret_int {k : IntKind} {a b : Int} (h : a = b) : Ending.returned (.int k a) = .returned (.int k b) := by rw [h]
set_option maxHeartbeats 400000 in
theorem validRange_any (lo hi : Int) (w : World) :
    Calls Tryd.prog 27 #[.agg #[.int .i64 lo, .int .i64 hi]] w fun e w' => e = .returned (.bool (vrB lo hi)) ∧ Below w.heap.size w w' := by
  by_cases h1 : -1000000000000000 ≤ lo <;> by_cases h2 : lo ≤ hi <;> by_cases h3 : hi ≤ 1000000000000000
  all_goals try (exfalso; omega)
  all_goals
    go_enter Tryd.func27, Tryd.ntmps27
    go_wp2
    go_ret
    exact ⟨by simp [vrB, *], (Below.refl _ _).alloc (Nat.le_refl _) _⟩
set_option maxHeartbeats 400000 in
theorem within_any (lo hi : Int) (w : World) :
    Calls Tryd.prog 21 #[.agg #[.int .i64 lo, .int .i64 hi]] w fun e w' => e = .returned (.tuple #[.agg #[.int .i64 (fitL lo hi), .int .i64 (fitH lo hi)], .int .i64 (fitE lo hi)]) ∧ Below w.heap.size w w' := by
  by_cases h1 : lo < -1000000000000000 <;> by_cases h3 : 1000000000000000 < hi
  · go_enter Tryd.func21, Tryd.ntmps21
    go_wp2
    obtain ⟨e1, e2, e3⟩ := fit_no lo hi (.inl h1)
    refine bodyPost_ret (v := .tuple #[.agg #[.int .i64 (fitL lo hi), .int .i64 (fitH lo hi)], .int .i64 (fitE lo hi)]) (by simp [results, Tryd.results21, go_sem, e1, e2, e3]) rfl ⟨rfl, ?_⟩
    exact (((Below.refl _ _).alloc (Nat.le_refl _) _).alloc (by simp) _)
  · go_enter Tryd.func21, Tryd.ntmps21
    go_wp2
    obtain ⟨e1, e2, e3⟩ := fit_no lo hi (.inl h1)
    refine bodyPost_ret (v := .tuple #[.agg #[.int .i64 (fitL lo hi), .int .i64 (fitH lo hi)], .int .i64 (fitE lo hi)]) (by simp [results, Tryd.results21, go_sem, e1, e2, e3]) rfl ⟨rfl, ?_⟩
    exact (((Below.refl _ _).alloc (Nat.le_refl _) _).alloc (by simp) _)
  · go_enter Tryd.func21, Tryd.ntmps21
    go_wp2
    obtain ⟨e1, e2, e3⟩ := fit_no lo hi (.inr h3)
    refine bodyPost_ret (v := .tuple #[.agg #[.int .i64 (fitL lo hi), .int .i64 (fitH lo hi)], .int .i64 (fitE lo hi)]) (by simp [results, Tryd.results21, go_sem, e1, e2, e3]) rfl ⟨rfl, ?_⟩
    exact (((Below.refl _ _).alloc (Nat.le_refl _) _).alloc (by simp) _)
  · go_enter Tryd.func21, Tryd.ntmps21
    go_wp2
    obtain ⟨e1, e2, e3⟩ := fit_yes lo hi (by omega) (by omega)
    refine bodyPost_ret (v := .tuple #[.agg #[.int .i64 (fitL lo hi), .int .i64 (fitH lo hi)], .int .i64 (fitE lo hi)]) (by simp [results, Tryd.results21, go_sem, e1, e2, e3]) rfl ⟨rfl, ?_⟩
    exact (((Below.refl _ _).alloc (Nat.le_refl _) _).alloc (by simp) _)
theorem drew_size (w : World) : w.drew.heap.size = w.heap.size := rfl
theorem drewN_size (w : World) (n : Nat) : (w.drewN n).heap.size = w.heap.size := rfl
theorem drew_cell (w : World) (a : Addr) : w.drew.cell? a = w.cell? a := rfl
theorem drewN_cell (w : World) (n : Nat) (a : Addr) : (w.drewN n).cell? a = w.cell? a := rfl
theorem cell_new (w : World) (cs : Array Value) (t : TypeId) (o : Nat) : (w.alloc (.cells cs t)).cell? ⟨w.heap.size, o, none⟩ = cs[o]? := by
  rw [cell_of_row _ _ o cs t (0, 0) (heap_alloc_new w _)]
theorem cell_old (w : World) (x : Obj) (b o : Nat) (h : b < w.heap.size) : (w.alloc x).cell? ⟨b, o, none⟩ = w.cell? ⟨b, o, none⟩ := World.cell?_alloc_lt w x _ h
theorem cell_at (w : World) (cs : Array Value) (t : TypeId) (n o : Nat) (h : n = w.heap.size) : (w.alloc (.cells cs t)).cell? ⟨n, o, none⟩ = cs[o]? := by subst h; exact cell_new w cs t o
/-- since w nothing below has turned; the block B holds the result -/
def Kp (B : Nat) (w w' : World) : Prop := Below w.heap.size w w' ∧ B < w'.heap.size ∧ (∃ v, w'.cell? ⟨B, 0, none⟩ = some v) ∧ (∃ v, w'.cell? ⟨B, 1, none⟩ = some v) ∧ w'.frozen? ⟨B, 0, none⟩ = false ∧ w'.frozen? ⟨B, 1, none⟩ = false
/-- the ranges xs lie one after another in block g, from off on -/
def RRd (w : World) (g off : Nat) (xs : List (Int × Int)) : Prop :=
  ∀ k p, xs[k]? = some p → w.cell? ⟨g, off + k * 2, none⟩ = some (.int .i64 p.1) ∧ w.cell? ⟨g, off + k * 2 + 1, none⟩ = some (.int .i64 p.2)
theorem RRd.keep {w w' : World} {g off : Nat} {xs : List (Int × Int)} (h : RRd w g off xs) (hk : ∀ o, w'.cell? ⟨g, o, none⟩ = w.cell? ⟨g, o, none⟩) : RRd w' g off xs :=
  fun k p hp => ⟨(hk _).trans (h k p hp).1, (hk _).trans (h k p hp).2⟩
theorem RRd.below {w w' : World} {B g off : Nat} {xs : List (Int × Int)} (h : RRd w g off xs) (hb : Below B w w') (hg : g < B) : RRd w' g off xs :=
  h.keep fun o => hb.cell (p := ⟨g, o, none⟩) hg
/-- the slice value v reads as the pairs xs; it lies below block B -/
def SetAt (B : Nat) (w : World) (v : Value) (xs : List (Int × Int)) : Prop :=
  ∃ A c, v = .slice A xs.length c ∧ (0 < xs.length → ∃ g off, A = some ⟨g, off, none⟩ ∧ g < B ∧ RRd w g off xs)
theorem SetAt.below {B B' : Nat} {w w' : World} {v : Value} {xs : List (Int × Int)} (h : SetAt B w v xs) (hb : Below B' w w') (hB : B ≤ B') : SetAt B w' v xs := by
  obtain ⟨A, c, rfl, h⟩ := h
  refine ⟨A, c, rfl, fun hn => ?_⟩
  obtain ⟨g, off, rfl, hg, hr⟩ := h hn
  exact ⟨g, off, rfl, hg, hr.below hb (by omega)⟩
theorem SetAt.mono {B B' : Nat} {w : World} {v : Value} {xs : List (Int × Int)} (h : SetAt B w v xs) (hB : B ≤ B') : SetAt B' w v xs := by
  obtain ⟨A, c, rfl, h⟩ := h
  refine ⟨A, c, rfl, fun hn => ?_⟩
  obtain ⟨g, off, rfl, hg, hr⟩ := h hn
  exact ⟨g, off, rfl, by omega, hr⟩
theorem rrun_max2 {P : Program} (tys : Array TypeId) (ty : TypeId) (k : IntKind) (x y : Int) (w : World) : (Builtin.max_ tys ty #[.int k x, .int k y]).run P w = .ok (.int k (max x y)) w := by
  simp [Builtin.max_, Builtin.max2]
  split <;> omega
/-- a slice value that reads as ranges, and has room for them -/
def RowAt (B : Nat) (w : World) (v : Value) (xs : List (Int × Int)) : Prop :=
  ∃ A c, v = .slice A xs.length c ∧ xs.length ≤ c ∧ (0 < xs.length → ∃ g off, A = some ⟨g, off, none⟩ ∧ g < B ∧ RRd w g off xs)
theorem RowAt.set {B : Nat} {w : World} {v : Value} {xs : List (Int × Int)} (h : RowAt B w v xs) : SetAt B w v xs := by
  obtain ⟨A, c, rfl, _, h⟩ := h
  exact ⟨A, c, rfl, h⟩
theorem RowAt.below {B B' : Nat} {w w' : World} {v : Value} {xs : List (Int × Int)} (h : RowAt B w v xs) (hb : Below B' w w') (hB : B ≤ B') : RowAt B w' v xs := by
  obtain ⟨A, c, rfl, hc, h⟩ := h
  refine ⟨A, c, rfl, hc, fun hn => ?_⟩
  obtain ⟨g, off, rfl, hg, hr⟩ := h hn
  exact ⟨g, off, rfl, hg, hr.below hb (by omega)⟩
theorem RowAt.mono {B B' : Nat} {w : World} {v : Value} {xs : List (Int × Int)} (h : RowAt B w v xs) (hB : B ≤ B') : RowAt B' w v xs := by
  obtain ⟨A, c, rfl, hc, h⟩ := h
  refine ⟨A, c, rfl, hc, fun hn => ?_⟩
  obtain ⟨g, off, rfl, hg, hr⟩ := h hn
  exact ⟨g, off, rfl, by omega, hr⟩
theorem RRd.tail {w : World} {g off : Nat} {p : Int × Int} {xs : List (Int × Int)} (h : RRd w g off (p :: xs)) : RRd w g (off + 2) xs := fun k q hq => by
  have := h (k + 1) q (by simpa using hq)
  rw [show off + 2 + k * 2 = off + (k + 1) * 2 from by omega]
  exact this
/-- the cells of some ranges, one after another -/
def flat (xs : List (Int × Int)) : List Value := xs.flatMap fun p => [.int .i64 p.1, .int .i64 p.2]
theorem flat_nil : flat [] = [] := rfl
theorem flat_append (xs ys : List (Int × Int)) : flat (xs ++ ys) = flat xs ++ flat ys := by simp [flat]
theorem flat_one (p : Int × Int) : flat [p] = [.int .i64 p.1, .int .i64 p.2] := rfl
theorem flat_length (xs : List (Int × Int)) : (flat xs).length = xs.length * 2 := by
  induction xs with
  | nil => rfl
  | cons p xs ih => rw [← List.singleton_append, flat_append, List.length_append, ih, flat_one]; simp; omega
theorem ownsRow_drewN {w : World} {base : Nat} {e : TypeId} {size : Nat} {v : Value} {n : Nat} {xs : List Value} (h : w.ownsRow base e size v n xs) (k : Nat) : (w.drewN k).ownsRow base e size v n xs := h
theorem infoRange : (Tryd.prog.info? 34).map (fun i => (i.zero, i.size, i.bytes)) = some (some (.agg #[.int .i64 0, .int .i64 0]), 2, 16) := by kernel_rfl
/-- what is added when the new range stands by itself -/
theorem flat_snoc (xs : List (Int × Int)) (a : Int × Int) : flat xs ++ [.int .i64 a.1, .int .i64 a.2] = flat (xs ++ [a]) := by rw [flat_append, flat_one]
theorem grown_after {w W w' : World} {row : Option Nat} (hB : Below w.heap.size w W) (h : W.grownBy w' row) : w.grownBy w' row :=
  ⟨h.os.trans hB.os, h.tape.trans hB.tape, h.output.trans hB.output, Nat.le_trans hB.size h.size, fun i hi hne => (h.block i (Nat.lt_of_lt_of_le hi hB.size) hne).trans (hB.block i hi)⟩
theorem below_drewN_alloc {B : Nat} {a w : World} (h : Below B a w) (hB : B ≤ w.heap.size) (o p : Obj) (n : Nat) : Below B a (((w.alloc o).drewN n).alloc p) :=
  (below_drewN (h.alloc hB o) n).alloc (by rw [drewN_size]; simp; omega) p
theorem rrd_flat {w : World} {g : Nat} : ∀ (xs : List (Int × Int)) (off : Nat), RRd w g off xs → ∀ j u, (flat xs)[j]? = some u → w.cell? ⟨g, off + j, none⟩ = some u := by
  intro xs
  induction xs with
  | nil => intro off _ j u h; simp [flat] at h
  | cons p xs ih =>
    intro off hr j u h
    have e : flat (p :: xs) = .int .i64 p.1 :: .int .i64 p.2 :: flat xs := rfl
    rw [e] at h
    obtain ⟨h0, h1⟩ := hr 0 p rfl
    rcases j with _ | _ | j
    · simp at h; subst h; simpa using h0
    · simp at h; subst h; simpa using h1
    · have := ih (off + 2) hr.tail j u (by simpa using h)
      rw [show off + (j + 1 + 1) = off + 2 + j from by omega]
      exact this
theorem flat_rrd {w : World} {g : Nat} : ∀ (xs : List (Int × Int)) (off : Nat), (∀ j u, (flat xs)[j]? = some u → w.cell? ⟨g, off + j, none⟩ = some u) → RRd w g off xs := by
  intro xs off h k p hp
  have key : ∀ (ys : List (Int × Int)) (k : Nat) (p : Int × Int), ys[k]? = some p → (flat ys)[2 * k]? = some (.int .i64 p.1) ∧ (flat ys)[2 * k + 1]? = some (.int .i64 p.2) := by
    intro ys
    induction ys with
    | nil => intro k p h; simp at h
    | cons q ys ih =>
      intro k p h
      have e : flat (q :: ys) = .int .i64 q.1 :: .int .i64 q.2 :: flat ys := rfl
      rw [e]
      rcases k with _ | k
      · simp at h; subst h; exact ⟨rfl, rfl⟩
      · obtain ⟨h1, h2⟩ := ih k p (by simpa using h)
        rw [show 2 * (k + 1) = 2 * k + 1 + 1 from by omega]
        exact ⟨by simpa using h1, by simpa using h2⟩
  obtain ⟨h1, h2⟩ := key xs k p hp
  have a := h _ _ h1
  have b := h _ _ h2
  first
    | exact ⟨a, b⟩
    | (constructor
       · simpa [Nat.mul_comm] using a
       · simpa [Nat.mul_comm, Nat.add_assoc] using b)
theorem own_row (xs : List (Int × Int)) (n : Nat) (hn : xs.length = n) (v : Value) (w : World) {base : Nat} (h : w.ownsRow base 34 2 v n (flat xs)) : RowAt w.heap.size w v xs := by
  subst hn
  have hc := h
  obtain ⟨_, ⟨rfl, h0⟩ | ⟨g, cap, cur, rfl, _, hh, hnc, _, _, _⟩⟩ := h
  · have : xs = [] := List.eq_nil_of_length_eq_zero h0
    subst this
    exact ⟨none, 0, rfl, Nat.le_refl _, fun h => by simp at h⟩
  · refine ⟨_, cap, rfl, hnc, fun _ => ⟨g, 0, rfl, ?_, flat_rrd xs 0 fun j u hj => ?_⟩⟩
    · rcases Nat.lt_or_ge g w.heap.size with h | h
      · exact h
      · rw [Array.getElem?_eq_none h] at hh; cases hh
    · have := hc.cells (g := g) rfl j u hj
      simpa [Addr.add_lit] using this
/-- a list argument: nil, or a row below the world's end -/
def ArgAt (w : World) (v : Value) (xs : List (Int × Int)) : Prop :=
  ((∃ A c, v = .slice A 0 c) ∧ xs = []) ∨ ∃ g off c, v = .slice (some ⟨g, off, none⟩) xs.length c ∧ xs.length ≤ c ∧ g < w.heap.size ∧ RRd w g off xs
theorem ArgAt.row {w : World} {v : Value} {xs : List (Int × Int)} (h : ArgAt w v xs) : RowAt w.heap.size w v xs := by
  rcases h with ⟨⟨A, c, rfl⟩, rfl⟩ | ⟨g, off, c, rfl, hc, hg, hr⟩
  · exact ⟨A, c, rfl, Nat.zero_le _, fun h => by simp at h⟩
  · exact ⟨_, c, rfl, hc, fun _ => ⟨g, off, rfl, hg, hr⟩⟩
theorem take_snoc' {α : Type} (zs : List α) (k : Nat) (z : α) (h : zs[k]? = some z) : zs.take (k + 1) = zs.take k ++ [z] := by rw [List.take_add_one, h]; rfl
theorem vrB_of' {lo hi : Int} (h : vrB lo hi = true) : -1000000000000000 ≤ lo ∧ lo ≤ hi ∧ hi ≤ 1000000000000000 := by simp [vrB] at h; omega
def lsL (a1 a2 b1 b2 : Int) : Int := if vrB a1 a2 && vrB b1 b2 then fitL (a1 - b2) (a2 - b1) else 0
def lsH (a1 a2 b1 b2 : Int) : Int := if vrB a1 a2 && vrB b1 b2 then fitH (a1 - b2) (a2 - b1) else 0
def lsE (a1 a2 b1 b2 : Int) : Int := if vrB a1 a2 && vrB b1 b2 then fitE (a1 - b2) (a2 - b1) else 2
set_option maxRecDepth 20000 in
set_option maxHeartbeats 1000000 in
theorem less_any (a1 a2 b1 b2 : Int) (w : World) :
    Calls Tryd.prog 12 #[.agg #[.int .i64 a1, .int .i64 a2], .agg #[.int .i64 b1, .int .i64 b2]] w fun e w' => e = .returned (.tuple #[.agg #[.int .i64 (lsL a1 a2 b1 b2), .int .i64 (lsH a1 a2 b1 b2)], .int .i64 (lsE a1 a2 b1 b2)]) ∧ Below w.heap.size w w' := by
  have c1 := Lib.hid (validRange_any a1 a2)
  have c2 := Lib.hid (validRange_any b1 b2)
  by_cases ha : vrB a1 a2 = true
  · by_cases hb : vrB b1 b2 = true
    · skip
      have h0 : (vrB a1 a2 && vrB b1 b2) = true := by rw [ha, hb]; rfl
      have va := vrB_of' ha
      have vb := vrB_of' hb
      rw [ha] at c1
      rw [hb] at c2
      clear ha hb
      have E : Hid (lsE a1 a2 b1 b2 = fitE (a1 - b2) (a2 - b1)) := Lib.hid (by unfold lsE; rw [h0]; rfl)
      have E1 : Hid (lsL a1 a2 b1 b2 = fitL (a1 - b2) (a2 - b1)) := Lib.hid (by unfold lsL; rw [h0]; rfl)
      have E2 : Hid (lsH a1 a2 b1 b2 = fitH (a1 - b2) (a2 - b1)) := Lib.hid (by unfold lsH; rw [h0]; rfl)
      have c3 := Lib.hid (within_any (a1 - b2) (a2 - b1))
      obtain ⟨va1, va2, va3⟩ := va
      obtain ⟨vb1, vb2, vb3⟩ := vb
      generalize fitE (a1 - b2) (a2 - b1) = re at *
      generalize fitL (a1 - b2) (a2 - b1) = rl at *
      generalize fitH (a1 - b2) (a2 - b1) = rh at *
      clear h0
      go_enter Tryd.func12, Tryd.ntmps12
      go_wp2_with fail
      refine (c1.out _).mono ?_
      rintro e w1 ⟨rfl, hb⟩
      have a0 := cell_next hb (b := w.heap.size) (o := 0) (by simp <;> omega) (v := some (.int .i64 a1)) (by simp [go_sem])
      have a0' := cell_next hb (b := w.heap.size) (o := 1) (by simp <;> omega) (v := some (.int .i64 a2)) (by simp [go_sem])
      have x0 := cell_next hb (b := w.heap.size + 1) (o := 0) (by simp <;> omega) (v := some (.int .i64 b1)) (by simp [go_sem])
      have x1 := cell_next hb (b := w.heap.size + 1) (o := 1) (by simp <;> omega) (v := some (.int .i64 b2)) (by simp [go_sem])
      have r0 := cell_next hb (b := w.heap.size + 1 + 1) (o := 0) (by simp <;> omega) (v := some (.int .i64 0)) (by simp [go_sem])
      have r1 := cell_next hb (b := w.heap.size + 1 + 1) (o := 1) (by simp <;> omega) (v := some (.int .i64 0)) (by simp [go_sem])
      have f0 := frozen_next hb (b := w.heap.size + 1 + 1) (o := 0) (by simp <;> omega) (v := false) (by simp [go_sem])
      have f1 := frozen_next hb (b := w.heap.size + 1 + 1) (o := 1) (by simp <;> omega) (v := false) (by simp [go_sem])
      have hB := below3 hb
      have nz : w.heap.size + 1 + 1 < w1.heap.size := by have := hb.size; simp at this; omega
      clear hb
      go_wp2_with fail
      refine (c2.out _).mono ?_
      rintro e w2 ⟨rfl, hb⟩
      have nz0 : w.heap.size < w1.heap.size := by omega
      have nz1 : w.heap.size + 1 < w1.heap.size := by omega
      replace a0 := cell_next hb nz0 a0
      replace a0' := cell_next hb nz0 a0'
      replace x0 := cell_next hb nz1 x0
      replace x1 := cell_next hb nz1 x1
      replace r0 := cell_next hb nz r0
      replace r1 := cell_next hb nz r1
      replace f0 := frozen_next hb nz f0
      replace f1 := frozen_next hb nz f1
      replace nz := Nat.lt_of_lt_of_le nz hb.size
      replace hB := hB.trans (hb.mono hB.size)
      clear hb nz0 nz1
      go_wp2_with fail
      refine (c3.out _).mono ?_
      rintro e w3 ⟨rfl, hb⟩
      replace r0 := cell_next hb nz r0
      replace r1 := cell_next hb nz r1
      replace f0 := frozen_next hb nz f0
      replace f1 := frozen_next hb nz f1
      replace nz := Nat.lt_of_lt_of_le nz hb.size
      replace hB := hB.trans (hb.mono hB.size)
      clear hb
      go_wp2_with fail
      refine bodyPost_ret (v := .tuple #[.agg #[.int .i64 rl, .int .i64 rh], .int .i64 re]) (by simp [results, Tryd.results12, go_sem, r0, r1, f0, f1]) rfl ⟨by rw [E.out, E1.out, E2.out], ?_⟩
      exact (hB.setCell (p := ⟨w.heap.size + 1 + 1, 0, none⟩) (Nat.le_succ_of_le (Nat.le_succ _)) _).setCell (p := ⟨w.heap.size + 1 + 1, 1, none⟩) (Nat.le_succ_of_le (Nat.le_succ _)) _

    · have hbf : vrB b1 b2 = false := by simpa using hb
      have h0 : (vrB a1 a2 && vrB b1 b2) = false := by rw [hbf, Bool.and_false]
      have E : Hid (lsE a1 a2 b1 b2 = 2) := Lib.hid (by unfold lsE; rw [h0]; rfl)
      have E1 : Hid (lsL a1 a2 b1 b2 = 0) := Lib.hid (by unfold lsL; rw [h0]; rfl)
      have E2 : Hid (lsH a1 a2 b1 b2 = 0) := Lib.hid (by unfold lsH; rw [h0]; rfl)
      rw [ha] at c1
      rw [hbf] at c2
      clear ha hb hbf h0
      go_enter Tryd.func12, Tryd.ntmps12
      go_wp2_with fail
      refine (c1.out _).mono ?_
      rintro e w1 ⟨rfl, hb⟩
      have a0 := cell_next hb (b := w.heap.size) (o := 0) (by simp <;> omega) (v := some (.int .i64 a1)) (by simp [go_sem])
      have a0' := cell_next hb (b := w.heap.size) (o := 1) (by simp <;> omega) (v := some (.int .i64 a2)) (by simp [go_sem])
      have x0 := cell_next hb (b := w.heap.size + 1) (o := 0) (by simp <;> omega) (v := some (.int .i64 b1)) (by simp [go_sem])
      have x1 := cell_next hb (b := w.heap.size + 1) (o := 1) (by simp <;> omega) (v := some (.int .i64 b2)) (by simp [go_sem])
      have r0 := cell_next hb (b := w.heap.size + 1 + 1) (o := 0) (by simp <;> omega) (v := some (.int .i64 0)) (by simp [go_sem])
      have r1 := cell_next hb (b := w.heap.size + 1 + 1) (o := 1) (by simp <;> omega) (v := some (.int .i64 0)) (by simp [go_sem])
      have f0 := frozen_next hb (b := w.heap.size + 1 + 1) (o := 0) (by simp <;> omega) (v := false) (by simp [go_sem])
      have f1 := frozen_next hb (b := w.heap.size + 1 + 1) (o := 1) (by simp <;> omega) (v := false) (by simp [go_sem])
      have hB := below3 hb
      have nz : w.heap.size + 1 + 1 < w1.heap.size := by have := hb.size; simp at this; omega
      clear hb
      go_wp2_with fail
      refine (c2.out _).mono ?_
      rintro e w2 ⟨rfl, hb⟩
      have nz0 : w.heap.size < w1.heap.size := by omega
      have nz1 : w.heap.size + 1 < w1.heap.size := by omega
      replace a0 := cell_next hb nz0 a0
      replace a0' := cell_next hb nz0 a0'
      replace x0 := cell_next hb nz1 x0
      replace x1 := cell_next hb nz1 x1
      replace r0 := cell_next hb nz r0
      replace r1 := cell_next hb nz r1
      replace f0 := frozen_next hb nz f0
      replace f1 := frozen_next hb nz f1
      replace nz := Nat.lt_of_lt_of_le nz hb.size
      replace hB := hB.trans (hb.mono hB.size)
      clear hb nz0 nz1
      go_wp2_with fail
      refine bodyPost_ret (v := .tuple #[.agg #[.int .i64 0, .int .i64 0], .int .i64 2]) (by simp [results, Tryd.results12, go_sem, r0, r1, f0, f1]) rfl ⟨by rw [E.out, E1.out, E2.out], ?_⟩
      exact (hB.setCell (p := ⟨w.heap.size + 1 + 1, 0, none⟩) (Nat.le_succ_of_le (Nat.le_succ _)) _).setCell (p := ⟨w.heap.size + 1 + 1, 1, none⟩) (Nat.le_succ_of_le (Nat.le_succ _)) _

  · have haf : vrB a1 a2 = false := by simpa using ha
    have h0 : (vrB a1 a2 && vrB b1 b2) = false := by rw [haf, Bool.false_and]
    have E : Hid (lsE a1 a2 b1 b2 = 2) := Lib.hid (by unfold lsE; rw [h0]; rfl)
    have E1 : Hid (lsL a1 a2 b1 b2 = 0) := Lib.hid (by unfold lsL; rw [h0]; rfl)
    have E2 : Hid (lsH a1 a2 b1 b2 = 0) := Lib.hid (by unfold lsH; rw [h0]; rfl)
    rw [haf] at c1
    clear ha haf h0
    go_enter Tryd.func12, Tryd.ntmps12
    go_wp2_with fail
    refine (c1.out _).mono ?_
    rintro e w1 ⟨rfl, hb⟩
    have a0 := cell_next hb (b := w.heap.size) (o := 0) (by simp <;> omega) (v := some (.int .i64 a1)) (by simp [go_sem])
    have a0' := cell_next hb (b := w.heap.size) (o := 1) (by simp <;> omega) (v := some (.int .i64 a2)) (by simp [go_sem])
    have x0 := cell_next hb (b := w.heap.size + 1) (o := 0) (by simp <;> omega) (v := some (.int .i64 b1)) (by simp [go_sem])
    have x1 := cell_next hb (b := w.heap.size + 1) (o := 1) (by simp <;> omega) (v := some (.int .i64 b2)) (by simp [go_sem])
    have r0 := cell_next hb (b := w.heap.size + 1 + 1) (o := 0) (by simp <;> omega) (v := some (.int .i64 0)) (by simp [go_sem])
    have r1 := cell_next hb (b := w.heap.size + 1 + 1) (o := 1) (by simp <;> omega) (v := some (.int .i64 0)) (by simp [go_sem])
    have f0 := frozen_next hb (b := w.heap.size + 1 + 1) (o := 0) (by simp <;> omega) (v := false) (by simp [go_sem])
    have f1 := frozen_next hb (b := w.heap.size + 1 + 1) (o := 1) (by simp <;> omega) (v := false) (by simp [go_sem])
    have hB := below3 hb
    have nz : w.heap.size + 1 + 1 < w1.heap.size := by have := hb.size; simp at this; omega
    clear hb
    go_wp2_with fail
    refine bodyPost_ret (v := .tuple #[.agg #[.int .i64 0, .int .i64 0], .int .i64 2]) (by simp [results, Tryd.results12, go_sem, r0, r1, f0, f1]) rfl ⟨by rw [E.out, E1.out, E2.out], ?_⟩
    exact (hB.setCell (p := ⟨w.heap.size + 1 + 1, 0, none⟩) (Nat.le_succ_of_le (Nat.le_succ _)) _).setCell (p := ⟨w.heap.size + 1 + 1, 1, none⟩) (Nat.le_succ_of_le (Nat.le_succ _)) _
/-- the error of a list of ranges, and of one that must not be empty -/
def vrsB (xs : List (Int × Int)) : Bool := xs.all fun p => vrB p.1 p.2
def chkL (xs : List (Int × Int)) : Int := if 100 < xs.length then 5 else if vrsB xs then 0 else 2
theorem vrsB_snoc (xs : List (Int × Int)) (p : Int × Int) : vrsB (xs ++ [p]) = (vrsB xs && vrB p.1 p.2) := by simp [vrsB, List.all_append]
theorem chkL_no {xs : List (Int × Int)} (hl : xs.length ≤ 100) {k : Nat} {p : Int × Int} (h : xs[k]? = some p) (hp : vrB p.1 p.2 = false) : chkL xs = 2 := by
  have : vrsB xs = false := by
    rw [Bool.eq_false_iff]
    intro ha
    have := List.all_eq_true.1 ha p (List.mem_of_getElem? h)
    rw [hp] at this
    cases this
  unfold chkL
  rw [if_neg (by omega), this]
  rfl
theorem chkL_yes {xs : List (Int × Int)} (hl : xs.length ≤ 100) (h : vrsB xs = true) : chkL xs = 0 := by unfold chkL; rw [if_neg (by omega), h]; rfl
set_option maxRecDepth 20000 in
set_option maxHeartbeats 1000000 in
theorem checkList_any (v : Value) (xs : List (Int × Int)) (w : World) (hv : SetAt w.heap.size w v xs) :
    Calls Tryd.prog 20 #[v] w fun e w' => e = .returned (.int .i64 (chkL xs)) ∧ Below w.heap.size w w' := by
  obtain ⟨A, c, rfl, hr⟩ := hv
  by_cases hbig : 100 < xs.length
  · have E : Hid (chkL xs = 5) := Lib.hid (by unfold chkL; rw [if_pos hbig])
    generalize xs.length = n at *
    go_enter Tryd.func20, Tryd.ntmps20
    go_wp2_with fail
    go_ret
    exact ⟨ret_int E.out.symm, Below.refl _ _⟩
  · have HN := Lib.hid (fun (k : Nat) (p : Int × Int) (h : xs[k]? = some p) hp => chkL_no (by omega) h hp)
    have HY := Lib.hid (fun h => chkL_yes (xs := xs) (by omega) h)
    generalize chkL xs = re at *
    obtain ⟨n, hn⟩ : ∃ n, xs.length = n := ⟨_, rfl⟩
    rw [hn] at hbig hr ⊢
    have Hn := Lib.hid hn
    have HR := Lib.hid hr
    clear hr hn
    go_enter Tryd.func20, Tryd.ntmps20
    go_wp2_with fail
    go_loopw [10] (fun i wr => ∃ k : Nat, k ≤ n ∧ i = .int .i64 k ∧ Hid (vrsB (xs.take k) = true) ∧ Below w.heap.size w wr) (fun i _ => n - (intOf i).toNat)
    case atStart => exact ⟨0, Nat.zero_le _, rfl, Lib.hid rfl, Below.refl _ _⟩
    case round =>
      obtain ⟨k, hk, rfl, ho, hbr⟩ := hrel
      by_cases hlt : (k : Int) < (n : Int)
      · obtain ⟨p, hp⟩ : ∃ p, xs[k]? = some p := ⟨_, List.getElem?_eq_getElem (by rw [Hn.out]; omega)⟩
        obtain ⟨g, off, rfl, hg, hc⟩ := HR.out (by omega)
        obtain ⟨q0, q1⟩ := (hc.below hbr hg) k p hp
        have HNk := Lib.hid (HN.out k p hp)
        have hok : Hid (vrsB (xs.take (k + 1)) = vrB p.1 p.2) := Lib.hid (by rw [take_snoc' xs k p hp, vrsB_snoc, ho.out]; rfl)
        have c1 := Lib.hid (validRange_any p.1 p.2)
        clear hc hp
        generalize vrB p.1 p.2 = b at *
        cases b
        · have E := Lib.hid (HNk.out rfl)
          go_wp2_with fail
          refine (c1.out _).mono ?_
          rintro e w1 ⟨rfl, hb⟩
          have hB := hbr.trans ((below1 hb).mono hbr.size)
          clear hb
          go_wp2_with fail
          go_ret
          exact ⟨ret_int E.out.symm, hB⟩
        · go_wp2_with fail
          refine (c1.out _).mono ?_
          rintro e w1 ⟨rfl, hb⟩
          have hB := hbr.trans ((below1 hb).mono hbr.size)
          clear hb q0 q1
          go_wp2_with fail
          go_roundw
          case rel => exact ⟨k + 1, by omega, by go_num, hok, hB⟩
          case measure => simp [intOf]; omega
      · obtain rfl : k = n := by omega
        have E : Hid (re = 0) := Lib.hid (HY.out (by have h := ho.out; rwa [List.take_of_length_le (by rw [Hn.out]; exact Nat.le_refl _)] at h))
        go_wp2_with fail
        go_ret
        exact ⟨ret_int E.out.symm, hbr⟩
set_option maxHeartbeats 1000000 in
theorem together_gen (NL : Nat) (F : Nat) (J : Int × Int → Int × Int → Int × Int) (D : Nat → Int × Int → Prop) (E : Int × Int → Prop) (hE : ∀ args w, (callFunc F args).run Tryd.prog w = .ok (.enter F args) w) (hJ : ∀ (k : Nat) (a b : Int × Int) (w : World), k < NL → D k a → E b → Calls Tryd.prog F #[.agg #[.int .i64 a.1, .int .i64 a.2], .agg #[.int .i64 b.1, .int .i64 b.2]] w fun e w' => e = .returned (.agg #[.int .i64 (J a b).1, .int .i64 (J a b).2]) ∧ Below w.heap.size w w') (hD : ∀ k a b, D k a → E b → D (k + 1) (J a b)) (lo hi : Int) (h0 : D 0 (lo, hi)) (g off : Nat) (xs : List (Int × Int)) (c : Nat) (w : World)
    (hx : ∀ p ∈ xs, E p) (hg : g < w.heap.size) (hr : RRd w g off xs) (hl : xs.length ≤ 1000000) (hNL : xs.length ≤ NL) :
    Calls Tryd.prog 22 #[.agg #[.int .i64 lo, .int .i64 hi], .slice (some ⟨g, off, none⟩) xs.length c, .func (Fn.func F) #[] #[]] w fun e w' =>
      e = .returned (.agg #[.int .i64 (xs.foldl J (lo, hi)).1, .int .i64 (xs.foldl J (lo, hi)).2]) ∧ Below w.heap.size w w' := by
  obtain ⟨n, hn⟩ : ∃ n, xs.length = n := ⟨_, rfl⟩
  rw [hn] at hl hNL ⊢
  have Hn := Lib.hid hn
  clear hn
  have HJ := Lib.hid hJ
  have HD := Lib.hid hD
  have H0 := Lib.hid h0
  have HX := Lib.hid hx
  have HR := Lib.hid hr
  clear hJ hD h0 hx hr
  go_enter Tryd.func22, Tryd.ntmps22
  go_wp2_with fail
  go_loopw [11] (fun i wr => ∃ (k : Nat) (a : Int × Int), k ≤ n ∧ i = .int .i64 k ∧ Hid (a = (xs.take k).foldl J (lo, hi)) ∧ D k a ∧ wr.cell? ⟨w.heap.size, 0, none⟩ = some (.int .i64 a.1) ∧ wr.cell? ⟨w.heap.size, 1, none⟩ = some (.int .i64 a.2) ∧ wr.frozen? ⟨w.heap.size, 0, none⟩ = false ∧ wr.frozen? ⟨w.heap.size, 1, none⟩ = false ∧
      wr.cell? ⟨w.heap.size + 1, 0, none⟩ = some (.int .i64 0) ∧ wr.cell? ⟨w.heap.size + 1, 1, none⟩ = some (.int .i64 0) ∧ wr.frozen? ⟨w.heap.size + 1, 0, none⟩ = false ∧ wr.frozen? ⟨w.heap.size + 1, 1, none⟩ = false ∧ w.heap.size + 1 < wr.heap.size ∧ Below w.heap.size w wr) (fun i _ => n - (intOf i).toNat)
  case atStart =>
    refine ⟨0, (lo, hi), Nat.zero_le _, rfl, Lib.hid rfl, H0.out, ?_, ?_, ?_, ?_, ?_, ?_, ?_, ?_, ?_, ?_⟩
    all_goals first | (simp; done) | exact ((Below.refl _ _).alloc (Nat.le_refl _) _).alloc (by simp) _
  case round =>
    obtain ⟨k, a, hk, rfl, ha, hDa, c0, c1, f0, f1, d0, d1, e0, e1, hz, hbr⟩ := hrel
    have hz0 : w.heap.size < wr.heap.size := by omega
    have hz0e : w.heap.size ≤ wr.heap.size := by omega
    have hgw : g < wr.heap.size := by omega
    by_cases hlt : k < n
    · have hkl : k < xs.length := by rw [Hn.out]; exact hlt
      obtain ⟨p, hp⟩ : ∃ p, xs[k]? = some p := ⟨_, List.getElem?_eq_getElem hkl⟩
      have hpD : E p := HX.out p (List.mem_of_getElem? hp)
      obtain ⟨q0, q1⟩ := (HR.out.below hbr hg) k p hp
      have hp' := Lib.hid hp
      clear hp
      go_wp2_with fail
      refine (HJ.out k a p _ (by omega) hDa hpD).mono ?_
      rintro e w1 ⟨rfl, hb1⟩
      have hDq := HD.out k a p hDa hpD
      have haq : Hid (J a p = (xs.take (k + 1)).foldl J (lo, hi)) := Lib.hid (by rw [List.take_add_one, hp'.out, List.foldl_append, ← ha.out]; rfl)
      generalize J a p = q at *
      have hB1 := below1 hb1
      have hz1 := hB1.size
      replace c0 := cell_next hB1 hz0 c0
      replace c1 := cell_next hB1 hz0 c1
      replace f0 := frozen_next hB1 hz0 f0
      replace f1 := frozen_next hB1 hz0 f1
      replace d0 := cell_next hB1 hz d0
      replace d1 := cell_next hB1 hz d1
      replace e0 := frozen_next hB1 hz e0
      replace e1 := frozen_next hB1 hz e1
      replace hbr := hbr.trans (hB1.mono (by omega))
      clear hb1 hB1 q0 q1
      go_wp2_with fail
      go_roundw
      case rel =>
        refine ⟨k + 1, q, by omega, by go_num, haq, hDq, ?_, ?_, ?_, ?_, ?_, ?_, ?_, ?_, by simp; omega, (hbr.setCell (p := ⟨w.heap.size, 0, none⟩) (Nat.le_refl _) _).setCell (p := ⟨w.heap.size, 1, none⟩) (Nat.le_refl _) _⟩
        all_goals simp [go_sem, *]
      case measure => simp [intOf]; omega
    · obtain rfl : k = n := by omega
      have hfin : a = xs.foldl J (lo, hi) := by rw [ha.out, List.take_of_length_le (by rw [Hn.out]; omega)]
      have Hfin := Lib.hid hfin
      clear hfin ha
      go_wp2_with fail
      refine bodyPost_ret (v := .agg #[.int .i64 a.1, .int .i64 a.2]) (by simp [results, Tryd.results22, go_sem, *]) rfl ⟨by rw [Hfin.out], ?_⟩
      exact (hbr.setCell (by simp) _).setCell (by simp) _
def sumJ (a b : Int × Int) : Int × Int := (a.1 + b.1, a.2 + b.2)
set_option maxHeartbeats 400000 in
theorem sum1_any (a b c d : Int) (ha : -1000000000000000000 ≤ a ∧ a ≤ 1000000000000000000) (hb : -1000000000000000000 ≤ b ∧ b ≤ 1000000000000000000) (hc : -1000000000000000000 ≤ c ∧ c ≤ 1000000000000000000) (hd : -1000000000000000000 ≤ d ∧ d ≤ 1000000000000000000) (w : World) :
    Calls Tryd.prog 23 #[.agg #[.int .i64 a, .int .i64 b], .agg #[.int .i64 c, .int .i64 d]] w fun e w' => e = .returned (.agg #[.int .i64 (a + c), .int .i64 (b + d)]) ∧ Below w.heap.size w w' := by
  obtain ⟨a1, a2⟩ := ha
  obtain ⟨b1, b2⟩ := hb
  obtain ⟨c1, c2⟩ := hc
  obtain ⟨d1, d2⟩ := hd
  go_enter Tryd.func23, Tryd.ntmps23
  go_wp2
  refine bodyPost_ret (v := .agg #[.int .i64 (a + c), .int .i64 (b + d)]) (by simp [results, Tryd.results23, go_sem]) rfl ⟨rfl, ?_⟩
  exact ((((Below.refl _ _).alloc (Nat.le_refl _) _).alloc (by simp) _).alloc (by simp <;> omega) _)
theorem enters_sum1 : ∀ args w, (callFunc 23 args).run Tryd.prog w = .ok (.enter 23 args) w := enters_of Tryd.func23 (by kernel_rfl) rfl
/-- an empty list brings nothing together -/
theorem together_nil (F : Nat) (lo hi : Int) (A : Option Addr) (c : Nat) (w : World) :
    Calls Tryd.prog 22 #[.agg #[.int .i64 lo, .int .i64 hi], .slice A 0 c, .func (Fn.func F) #[] #[]] w fun e w' => e = .returned (.agg #[.int .i64 lo, .int .i64 hi]) ∧ Below w.heap.size w w' := by
  go_enter Tryd.func22, Tryd.ntmps22
  go_wp2_with fail
  go_loopw [11] (fun i wr => i = .int .i64 0 ∧ wr = (w.alloc (.cells #[.int .i64 lo, .int .i64 hi] 34)).alloc (.cells #[.int .i64 0, .int .i64 0] 34)) (fun _ _ => 0)
  case atStart => exact ⟨rfl, rfl⟩
  case round =>
    obtain ⟨rfl, rfl⟩ := hrel
    go_wp2_with fail
    refine bodyPost_ret (v := .agg #[.int .i64 lo, .int .i64 hi]) (by simp [results, Tryd.results22, go_sem]) rfl ⟨rfl, ?_⟩
    exact ((Below.refl _ _).alloc (Nat.le_refl _) _).alloc (by simp) _
def BdK (k : Nat) (a : Int × Int) : Prop := -1000000000000000 * ((k : Int) + 1) ≤ a.1 ∧ a.1 ≤ 1000000000000000 * ((k : Int) + 1) ∧ -1000000000000000 * ((k : Int) + 1) ≤ a.2 ∧ a.2 ≤ 1000000000000000 * ((k : Int) + 1)
def BdE (a : Int × Int) : Prop := -1000000000000000 ≤ a.1 ∧ a.1 ≤ 1000000000000000 ∧ -1000000000000000 ≤ a.2 ∧ a.2 ≤ 1000000000000000
theorem vrsB_bd {xs : List (Int × Int)} (h : vrsB xs = true) : ∀ p ∈ xs, BdE p := fun p hp => by
  have := vrB_of' (List.all_eq_true.1 h p hp)
  exact ⟨by omega, by omega, by omega, by omega⟩
/-- all ranges summed; the least and the greatest -/
def sumP (xs : List (Int × Int)) : Int × Int := xs.foldl sumJ (0, 0)
def smL (xs : List (Int × Int)) : Int := if chkL xs = 0 then fitL (sumP xs).1 (sumP xs).2 else 0
def smH (xs : List (Int × Int)) : Int := if chkL xs = 0 then fitH (sumP xs).1 (sumP xs).2 else 0
def smE (xs : List (Int × Int)) : Int := if chkL xs = 0 then fitE (sumP xs).1 (sumP xs).2 else chkL xs
theorem chkL_ok {xs : List (Int × Int)} (h : chkL xs = 0) : xs.length ≤ 100 ∧ vrsB xs = true := by
  unfold chkL at h
  split at h
  · cases h
  · split at h
    · exact ⟨by omega, by assumption⟩
    · cases h
theorem sum_together (v : Value) (xs : List (Int × Int)) (w W : World) (hb : Below w.heap.size w W) (hv : SetAt w.heap.size w v xs) (h : chkL xs = 0) :
    Calls Tryd.prog 22 #[.agg #[.int .i64 0, .int .i64 0], v, .func (Fn.func 23) #[] #[]] W fun e w' => e = .returned (.agg #[.int .i64 (sumP xs).1, .int .i64 (sumP xs).2]) ∧ Below W.heap.size W w' := by
  obtain ⟨hl, hvs⟩ := chkL_ok h
  obtain ⟨A, c, rfl, hr⟩ := hv
  rcases Nat.eq_zero_or_pos xs.length with h0 | h0
  · obtain rfl := List.eq_nil_of_length_eq_zero h0
    exact together_nil 23 0 0 A c W
  · obtain ⟨g, off, rfl, hg, hr⟩ := hr h0
    have hz := hb.size
    refine together_gen 100 23 sumJ BdK BdE enters_sum1 ?_ ?_ 0 0 ⟨by show -1000000000000000 * (((0 : Nat) : Int) + 1) ≤ 0; omega, by show 0 ≤ 1000000000000000 * (((0 : Nat) : Int) + 1); omega, by show -1000000000000000 * (((0 : Nat) : Int) + 1) ≤ 0; omega, by show 0 ≤ 1000000000000000 * (((0 : Nat) : Int) + 1); omega⟩ g off xs c W (vrsB_bd hvs) (by omega) (hr.below hb hg) (by omega) hl
    · rintro k ⟨x1, x2⟩ ⟨y1, y2⟩ W' hk ⟨h1, h2, h3, h4⟩ ⟨h5, h6, h7, h8⟩
      simp only at h1 h2 h3 h4 h5 h6 h7 h8
      exact sum1_any x1 x2 y1 y2 ⟨by omega, by omega⟩ ⟨by omega, by omega⟩ ⟨by omega, by omega⟩ ⟨by omega, by omega⟩ W'
    · rintro k ⟨x1, x2⟩ ⟨y1, y2⟩ ⟨h1, h2, h3, h4⟩ ⟨h5, h6, h7, h8⟩
      simp only at h1 h2 h3 h4 h5 h6 h7 h8
      refine ⟨?_, ?_, ?_, ?_⟩ <;> simp only [sumJ] <;> push_cast <;> omega
set_option maxRecDepth 20000 in
set_option maxHeartbeats 1000000 in
theorem sum_any (v : Value) (xs : List (Int × Int)) (w : World) (hv : SetAt w.heap.size w v xs) :
    Calls Tryd.prog 10 #[v] w fun e w' => e = .returned (.tuple #[.agg #[.int .i64 (smL xs), .int .i64 (smH xs)], .int .i64 (smE xs)]) ∧ Below w.heap.size w w' := by
  have HC : Hid (∀ W : World, Below w.heap.size w W → Calls Tryd.prog 20 #[v] W fun e w' => e = .returned (.int .i64 (chkL xs)) ∧ Below W.heap.size W w') := Lib.hid fun W hb => checkList_any v xs W ((hv.below hb (Nat.le_refl _)).mono hb.size)
  have HT : Hid (chkL xs = 0 → ∀ W : World, Below w.heap.size w W → Calls Tryd.prog 22 #[.agg #[.int .i64 0, .int .i64 0], v, .func (Fn.func 23) #[] #[]] W fun e w' => e = .returned (.agg #[.int .i64 (sumP xs).1, .int .i64 (sumP xs).2]) ∧ Below W.heap.size W w') := Lib.hid fun h W hb => sum_together v xs w W hb hv h
  have E0 : Hid (smE xs = if chkL xs = 0 then fitE (sumP xs).1 (sumP xs).2 else chkL xs) := Lib.hid rfl
  have E1 : Hid (smL xs = if chkL xs = 0 then fitL (sumP xs).1 (sumP xs).2 else 0) := Lib.hid rfl
  have E2 : Hid (smH xs = if chkL xs = 0 then fitH (sumP xs).1 (sumP xs).2 else 0) := Lib.hid rfl
  generalize smL xs = rl at *
  generalize smH xs = rh at *
  generalize smE xs = re at *
  generalize chkL xs = ce at *
  generalize sumP xs = p at *
  obtain ⟨A, c, rfl, _⟩ := hv
  generalize xs.length = n at *
  by_cases h0 : ce = 0
  · have HT' := Lib.hid (HT.out h0)
    have E0' : Hid (re = fitE p.1 p.2) := Lib.hid (by rw [E0.out, if_pos h0])
    have E1' : Hid (rl = fitL p.1 p.2) := Lib.hid (by rw [E1.out, if_pos h0])
    have E2' : Hid (rh = fitH p.1 p.2) := Lib.hid (by rw [E2.out, if_pos h0])
    clear HT E0 E1 E2
    subst h0
    have c3 := Lib.hid (within_any p.1 p.2)
    generalize fitE p.1 p.2 = te at *
    generalize fitL p.1 p.2 = tl at *
    generalize fitH p.1 p.2 = th at *
    go_enter Tryd.func10, Tryd.ntmps10
    go_wp2_with fail
    refine (HC.out _ ((Below.refl _ _).alloc (Nat.le_refl _) _)).mono ?_
    rintro e w1 ⟨rfl, hb⟩
    have r0 := cell_next hb (b := w.heap.size) (o := 0) (by simp <;> omega) (v := some (.int .i64 0)) (by simp [go_sem])
    have r1 := cell_next hb (b := w.heap.size) (o := 1) (by simp <;> omega) (v := some (.int .i64 0)) (by simp [go_sem])
    have f0 := frozen_next hb (b := w.heap.size) (o := 0) (by simp <;> omega) (v := false) (by simp [go_sem])
    have f1 := frozen_next hb (b := w.heap.size) (o := 1) (by simp <;> omega) (v := false) (by simp [go_sem])
    have nz : w.heap.size < w1.heap.size := by have := hb.size; simp at this; omega
    have hB := below1 hb
    clear hb
    go_wp2_with fail
    refine (HT'.out _ hB).mono ?_
    rintro e w2 ⟨rfl, hb⟩
    replace r0 := cell_next hb nz r0
    replace r1 := cell_next hb nz r1
    replace f0 := frozen_next hb nz f0
    replace f1 := frozen_next hb nz f1
    replace nz := Nat.lt_of_lt_of_le nz hb.size
    replace hB := hB.trans (hb.mono hB.size)
    clear hb
    go_wp2_with fail
    refine (c3.out _).mono ?_
    rintro e w3 ⟨rfl, hb⟩
    replace r0 := cell_next hb nz r0
    replace r1 := cell_next hb nz r1
    replace f0 := frozen_next hb nz f0
    replace f1 := frozen_next hb nz f1
    replace hB := hB.trans (hb.mono hB.size)
    clear hb
    go_wp2_with fail
    refine bodyPost_ret (v := .tuple #[.agg #[.int .i64 tl, .int .i64 th], .int .i64 te]) (by simp [results, Tryd.results10, go_sem, r0, r1, f0, f1]) rfl ⟨by rw [E0'.out, E1'.out, E2'.out], ?_⟩
    exact (hB.setCell (p := ⟨w.heap.size, 0, none⟩) (Nat.le_refl _) _).setCell (p := ⟨w.heap.size, 1, none⟩) (Nat.le_refl _) _
  · have E0' : Hid (re = ce) := Lib.hid (by rw [E0.out, if_neg h0])
    have E1' : Hid (rl = 0) := Lib.hid (by rw [E1.out, if_neg h0])
    have E2' : Hid (rh = 0) := Lib.hid (by rw [E2.out, if_neg h0])
    have hne : (ce != 0) = true := by simpa using h0
    clear HT E0 E1 E2 h0
    go_enter Tryd.func10, Tryd.ntmps10
    go_wp2_with fail
    refine (HC.out _ ((Below.refl _ _).alloc (Nat.le_refl _) _)).mono ?_
    rintro e w1 ⟨rfl, hb⟩
    have r0 := cell_next hb (b := w.heap.size) (o := 0) (by simp <;> omega) (v := some (.int .i64 0)) (by simp [go_sem])
    have r1 := cell_next hb (b := w.heap.size) (o := 1) (by simp <;> omega) (v := some (.int .i64 0)) (by simp [go_sem])
    have f0 := frozen_next hb (b := w.heap.size) (o := 0) (by simp <;> omega) (v := false) (by simp [go_sem])
    have f1 := frozen_next hb (b := w.heap.size) (o := 1) (by simp <;> omega) (v := false) (by simp [go_sem])
    have hB := below1 hb
    clear hb
    go_wp2_with fail
    refine bodyPost_ret (v := .tuple #[.agg #[.int .i64 0, .int .i64 0], .int .i64 ce]) (by simp [results, Tryd.results10, go_sem, r0, r1, f0, f1]) rfl ⟨by rw [E0'.out, E1'.out, E2'.out], ?_⟩
    exact (hB.setCell (p := ⟨w.heap.size, 0, none⟩) (Nat.le_refl _) _).setCell (p := ⟨w.heap.size, 1, none⟩) (Nat.le_refl _) _
set_option maxRecDepth 20000 in
set_option maxHeartbeats 1000000 in
theorem atMost_any (a1 a2 b1 b2 : Int) (w : World) :
    Calls Tryd.prog 13 #[.agg #[.int .i64 a1, .int .i64 a2], .agg #[.int .i64 b1, .int .i64 b2]] w fun e w' => e = .returned (.tuple #[.bool ((vrB a1 a2 && vrB b1 b2) && decide (a2 ≤ b1)), .bool ((vrB a1 a2 && vrB b1 b2) && decide (a1 ≤ b2)), .int .i64 (if (vrB a1 a2 && vrB b1 b2) = true then 0 else 2)]) ∧ Below w.heap.size w w' := by
  have c1 := Lib.hid (validRange_any a1 a2)
  have c2 := Lib.hid (validRange_any b1 b2)
  generalize vrB a1 a2 = va at *
  generalize vrB b1 b2 = vb at *
  cases va
  · go_enter Tryd.func13, Tryd.ntmps13
    go_wp2_with fail
    refine (c1.out _).mono ?_
    rintro e w1 ⟨rfl, hb⟩
    have hB := below2 hb
    clear hb
    go_wp2_with fail
    go_ret3
    exact ⟨by simp, hB⟩
  · cases vb
    · go_enter Tryd.func13, Tryd.ntmps13
      go_wp2_with fail
      refine (c1.out _).mono ?_
      rintro e w1 ⟨rfl, hb⟩
      have x0 := cell_next hb (b := w.heap.size + 1) (o := 0) (by simp <;> omega) (v := some (.int .i64 b1)) (by simp [go_sem])
      have x1 := cell_next hb (b := w.heap.size + 1) (o := 1) (by simp <;> omega) (v := some (.int .i64 b2)) (by simp [go_sem])
      have hB := below2 hb
      clear hb
      go_wp2_with fail
      refine (c2.out _).mono ?_
      rintro e w2 ⟨rfl, hb⟩
      replace hB := hB.trans (hb.mono hB.size)
      clear hb
      go_wp2_with fail
      go_ret3
      exact ⟨by simp, hB⟩
    · go_enter Tryd.func13, Tryd.ntmps13
      go_wp2_with fail
      refine (c1.out _).mono ?_
      rintro e w1 ⟨rfl, hb⟩
      have a0 := cell_next hb (b := w.heap.size) (o := 0) (by simp <;> omega) (v := some (.int .i64 a1)) (by simp [go_sem])
      have a0' := cell_next hb (b := w.heap.size) (o := 1) (by simp <;> omega) (v := some (.int .i64 a2)) (by simp [go_sem])
      have x0 := cell_next hb (b := w.heap.size + 1) (o := 0) (by simp <;> omega) (v := some (.int .i64 b1)) (by simp [go_sem])
      have x1 := cell_next hb (b := w.heap.size + 1) (o := 1) (by simp <;> omega) (v := some (.int .i64 b2)) (by simp [go_sem])
      have n1 : w.heap.size + 1 < w1.heap.size := by have := hb.size; simp at this; omega
      have n0 : w.heap.size < w1.heap.size := by omega
      have hB := below2 hb
      clear hb
      go_wp2_with fail
      refine (c2.out _).mono ?_
      rintro e w2 ⟨rfl, hb⟩
      replace a0 := cell_next hb n0 a0
      replace a0' := cell_next hb n0 a0'
      replace x0 := cell_next hb n1 x0
      replace x1 := cell_next hb n1 x1
      replace hB := hB.trans (hb.mono hB.size)
      clear hb
      go_wp2_with fail
      go_quiet (fail)
      go_wp2_with fail
      go_ret3
      exact ⟨by simp, below_drewN hB _⟩
end Go.Proofs.YtpphchbokphkdaaDoor
