/- Contracts: C1, C2, C3, C4, C5, joined. -/
import Derived.Test.YtgklpbgdimkhaaaGreatProg
import Derived.WalkKit
import Derived.WalkSpells
import Derived.WalkLawsBesides
import Derived.BigQuiet
import Derived.Deep.QuietTactic
import Derived.Lib.Mul64
import Derived.Laws.Bits64b
import Derived.Lib.Hide
import Derived.Deep.Draws
import Derived.Deep.RegionHeld3
import Derived.Deep.DrawnRows
import Derived.Laws.CopyOwn
import Derived.Shelf.Abstract
namespace Go.Proofs.YtgklpbgdimkhaaaGreat
open Go.RowKit Go.Lib
set_option linter.unusedVariables false
set_option linter.unusedSimpArgs false

/-- whether a range is valid -/
def vrB (lo hi : Int) : Bool := decide (-1000000000000000 ≤ lo) && decide (lo ≤ hi) && decide (hi ≤ 1000000000000000)
theorem below_drewN {B : Nat} {a w : World} (h : Below B a w) (n : Nat) : Below B a (w.drewN n) := ⟨h.os, h.tape, h.output, h.size, h.block⟩
theorem bcell {W w1 : World} (hb : Below W.heap.size W w1) : (∀ b o, b < W.heap.size → w1.cell? ⟨b, o, none⟩ = W.cell? ⟨b, o, none⟩) ∧ (∀ b o, b < W.heap.size → w1.frozen? ⟨b, o, none⟩ = W.frozen? ⟨b, o, none⟩) :=
  ⟨fun b o h => hb.cell (p := ⟨b, o, none⟩) h, fun b o h => hb.frozen (p := ⟨b, o, none⟩) h⟩
theorem cell_next {w w1 : World} {B b o : Nat} {v : Option Value} (hb : Below B w w1) (hB : b < B) (h : w.cell? ⟨b, o, none⟩ = v) : w1.cell? ⟨b, o, none⟩ = v := (hb.cell (p := ⟨b, o, none⟩) hB).trans h
theorem frozen_next {w w1 : World} {B b o : Nat} {v : Bool} (hb : Below B w w1) (hB : b < B) (h : w.frozen? ⟨b, o, none⟩ = v) : w1.frozen? ⟨b, o, none⟩ = v := (hb.frozen (p := ⟨b, o, none⟩) hB).trans h
theorem below1 {w w1 : World} {o : Obj} (h : Below (w.alloc o).heap.size (w.alloc o) w1) : Below w.heap.size w w1 := ((Below.refl _ _).alloc (Nat.le_refl _) _).trans (h.mono (by simp))
theorem below2 {w w1 : World} {o p : Obj} (h : Below ((w.alloc o).alloc p).heap.size ((w.alloc o).alloc p) w1) : Below w.heap.size w w1 := below1 (below1 h)
theorem below3 {w w1 : World} {o p q : Obj} (h : Below (((w.alloc o).alloc p).alloc q).heap.size (((w.alloc o).alloc p).alloc q) w1) : Below w.heap.size w w1 := below1 (below2 h)
theorem below4 {w w1 : World} {o p q r : Obj} (h : Below ((((w.alloc o).alloc p).alloc q).alloc r).heap.size ((((w.alloc o).alloc p).alloc q).alloc r) w1) : Below w.heap.size w w1 := below1 (below3 h)
theorem ret_int {k : IntKind} {a b : Int} (h : a = b) : Ending.returned (.int k a) = .returned (.int k b) := by rw [h]

set_option maxHeartbeats 400000 in
theorem validRange_any (lo hi : Int) (w : World) :
    Calls Tryz.prog 89 #[.agg #[.int .i64 lo, .int .i64 hi]] w fun e w' => e = .returned (.bool (vrB lo hi)) ∧ Below w.heap.size w w' := by
  by_cases h1 : -1000000000000000 ≤ lo <;> by_cases h2 : lo ≤ hi <;> by_cases h3 : hi ≤ 1000000000000000
  all_goals try (exfalso; omega)
  all_goals
    go_enter Tryz.func89, Tryz.ntmps89
    go_wp2
    go_ret
    exact ⟨by simp [vrB, *], (Below.refl _ _).alloc (Nat.le_refl _) _⟩

set_option maxHeartbeats 400000 in
theorem size_any (n : Int) (h1 : -9223372036854775808 ≤ n) (h2 : n ≤ 9223372036854775807) (w : World) :
    Calls Tryz.prog 150 #[.int .i64 n] w fun e w' => e = .returned (.int .u64 ((n.natAbs : Nat) : Int)) ∧ w = w' := by
  by_cases h : n < 0
  all_goals
    go_enter Tryz.func150, Tryz.ntmps150
    go_wp2
    go_ret
    refine ⟨ret_int ?_, rfl⟩
    try simp only [IntKind.wrap_u64]
    omega

open Go.RowKit Go.Lib
set_option linter.unusedVariables false
set_option linter.unusedSimpArgs false

theorem ret_ints2 {k l : IntKind} {a b c d : Int} (h1 : a = c) (h2 : b = d) : Ending.returned (.tuple #[.int k a, .int l b]) = .returned (.tuple #[.int k c, .int l d]) := by rw [h1, h2]

theorem quiet_left {P : Program} {f : FuncId} {args : Array Value} {w : World} {n : Nat} {v : Value}
    (h : Calls P f args (w.drewN n) fun e w' => e = .returned v ∧ w.drewN n = w') : Calls P f args (w.drewN n) fun e w'' => e = .returned v ∧ ∃ m, w'' = w.drewN m :=
  h.mono fun _ _ ⟨he, hm⟩ => ⟨he, n, hm.symm⟩

namespace Mul64
theorem maskN (a : Nat) (ha : a < 18446744073709551616) : bits .and .u64 (a : Int) 4294967295 = ((a % 4294967296 : Nat) : Int) := by
  have h := bits_and_u64_nat a 4294967295 ha (by omega)
  have e : a &&& 4294967295 = a % 4294967296 := Nat.and_two_pow_sub_one_eq_mod a 32
  rw [e] at h
  exact h
theorem divN (a : Nat) : (a : Int) / 4294967296 = ((a / 4294967296 : Nat) : Int) := by omega
theorem mulN (a b : Nat) : (a : Int) * (b : Int) = ((a * b : Nat) : Int) := (Int.natCast_mul a b).symm
theorem addN (a b : Nat) : (a : Int) + (b : Int) = ((a + b : Nat) : Int) := (Int.natCast_add a b).symm
theorem wrapN (a : Nat) (ha : a < 18446744073709551616) : IntKind.u64.wrap (a : Int) = (a : Int) := by rw [IntKind.wrap_u64]; omega
theorem wrapM (a : Nat) : IntKind.u64.wrap (a : Int) = ((a % 18446744073709551616 : Nat) : Int) := by rw [IntKind.wrap_u64]; omega
end Mul64

set_option maxHeartbeats 1000000 in
theorem mul64_any (x y : Nat) (hx : x < 18446744073709551616) (hy : y < 18446744073709551616) (w : World) :
    Calls Tryz.prog 149 #[.int .u64 x, .int .u64 y] w fun e w' => e = .returned (.tuple #[.int .u64 ((x * y / 18446744073709551616 : Nat) : Int), .int .u64 ((x * y % 18446744073709551616 : Nat) : Int)]) ∧ w = w' := by
  obtain ⟨bd, bt, bw, hhi⟩ := Lib.mul64_hi x y hx hy
  have ba := Lib.half_mul_le (a := x / 4294967296) (b := y / 4294967296) (by omega) (by omega)
  have bb := Lib.half_mul_le (a := x / 4294967296) (b := y % 4294967296) (by omega) (by omega)
  have bc := Lib.half_mul_le (a := x % 4294967296) (b := y / 4294967296) (by omega) (by omega)
  have ba' : x / 4294967296 * (y / 4294967296) < 18446744073709551616 := by omega
  have bb' : x / 4294967296 * (y % 4294967296) < 18446744073709551616 := by omega
  have bc' : x % 4294967296 * (y / 4294967296) < 18446744073709551616 := by omega
  have bh1 : x / 4294967296 * (y / 4294967296) + (x / 4294967296 * (y % 4294967296) + x % 4294967296 * (y % 4294967296) / 4294967296) / 4294967296 < 18446744073709551616 := by omega
  have bh : x / 4294967296 * (y / 4294967296) + (x / 4294967296 * (y % 4294967296) + x % 4294967296 * (y % 4294967296) / 4294967296) / 4294967296 + ((x / 4294967296 * (y % 4294967296) + x % 4294967296 * (y % 4294967296) / 4294967296) % 4294967296 + x % 4294967296 * (y / 4294967296)) / 4294967296 < 18446744073709551616 := by omega
  go_enter Tryz.func149, Tryz.ntmps149
  go_wp2
  simp only [Mul64.maskN x hx, Mul64.maskN y hy, Mul64.divN, Mul64.mulN, Mul64.addN, Mul64.wrapN _ bd, Mul64.wrapN _ bb', Mul64.wrapN _ bt, Mul64.maskN _ bt, Mul64.wrapN _ bc', Mul64.wrapN _ bw, Mul64.wrapN _ ba', Mul64.wrapN _ bh1, Mul64.wrapN _ bh, Mul64.wrapM (x * y)]
  rw [hhi]
  go_ret2
  exact ⟨rfl, rfl⟩

set_option maxHeartbeats 400000 in
theorem div64_lo (x y : Nat) (hx : x < 18446744073709551616) (hy0 : 0 < y) (hy : y < 18446744073709551616) (w : World) :
    Calls Tryz.prog 151 #[.int .u64 0, .int .u64 x, .int .u64 y] w fun e w' => e = .returned (.tuple #[.int .u64 ((x / y : Nat) : Int), .int .u64 ((x % y : Nat) : Int)]) ∧ ∃ n, w' = w.drewN n := by
  have h1 : ((y : Int) == 0) = false := by simp; omega
  have h2 : ¬ (y : Int) ≤ 0 := by omega
  have h3 : (1 : Int) ≤ (y : Int) := by omega
  go_enter Tryz.func151, Tryz.ntmps151
  go_wp2
  go_quiet (fail)
  go_wp2
  go_ret2
  refine ⟨ret_ints2 ?_ ?_, _, rfl⟩
  · rw [IntKind.wrap_u64, ← Int.natCast_ediv]
    have := Nat.div_le_self x y
    generalize x / y = q at *
    omega
  · rw [← Int.natCast_emod]

/-- the quotient, without signs: great numbers are cut at 'beyond', without a rest -/
def qW (a b c : Int) : Nat := if 1000000000000000000 < a.natAbs * b.natAbs / c.natAbs then 1000000000000000000 else a.natAbs * b.natAbs / c.natAbs
def qR (a b c : Int) : Nat := if 1000000000000000000 < a.natAbs * b.natAbs / c.natAbs then 0 else a.natAbs * b.natAbs % c.natAbs
def qNeg (a b c : Int) : Bool := ((decide (a < 0) != decide (b < 0)) != decide (c < 0))

def I64 (n : Int) : Prop := -9223372036854775808 ≤ n ∧ n ≤ 9223372036854775807

set_option maxHeartbeats 400000 in
theorem negative_any (a b c : Int) (w : World) :
    Calls Tryz.prog 134 #[.agg #[.int .i64 a, .int .i64 b, .int .i64 c]] w fun e w' => e = .returned (.bool (qNeg a b c)) ∧ Below w.heap.size w w' := by
  go_enter Tryz.func134, Tryz.ntmps134
  go_wp2
  go_ret
  exact ⟨rfl, (Below.refl _ _).alloc (Nat.le_refl _) _⟩

theorem mul64_small (x y p : Nat) (hp : Hid (x * y = p)) (hx : x < 18446744073709551616) (hy : y < 18446744073709551616) (hs : p < 18446744073709551616) (w : World) :
    Calls Tryz.prog 149 #[.int .u64 x, .int .u64 y] w fun e w' => e = .returned (.tuple #[.int .u64 0, .int .u64 p]) ∧ w = w' := by
  refine (mul64_any x y hx hy w).mono ?_
  rintro e w' ⟨rfl, rfl⟩
  have h := hp.out
  refine ⟨ret_ints2 ?_ ?_, rfl⟩
  · rw [h]; omega
  · rw [h]; omega

theorem qW_of (a b c : Int) (p : Nat) (hp : a.natAbs * b.natAbs = p) : qW a b c = if 1000000000000000000 < p / c.natAbs then 1000000000000000000 else p / c.natAbs := by unfold qW; rw [hp]
theorem qR_of (a b c : Int) (p : Nat) (hp : a.natAbs * b.natAbs = p) : qR a b c = if 1000000000000000000 < p / c.natAbs then 0 else p % c.natAbs := by unfold qR; rw [hp]

set_option maxHeartbeats 1000000 in
theorem divide_small (a b c : Int) (ha : I64 a) (hb : I64 b) (hc : I64 c) (hc0 : c ≠ 0) (hs : a.natAbs * b.natAbs < 18446744073709551616) (w : World) :
    Calls Tryz.prog 133 #[.agg #[.int .i64 a, .int .i64 b, .int .i64 c]] w fun e w' => e = .returned (.tuple #[.int .i64 (qW a b c), .int .i64 (qR a b c)]) ∧ Below w.heap.size w w' := by
  obtain ⟨a1, a2⟩ := ha
  obtain ⟨b1, b2⟩ := hb
  obtain ⟨c1, c2⟩ := hc
  obtain ⟨p, hp⟩ : ∃ p, a.natAbs * b.natAbs = p := ⟨_, rfl⟩
  obtain ⟨y, hy⟩ : ∃ y, c.natAbs = y := ⟨_, rfl⟩
  have eW := Lib.hid (qW_of a b c p hp)
  have eR := Lib.hid (qR_of a b c p hp)
  rw [hy] at eW eR
  rw [hp] at hs
  have HP := Lib.hid hp
  have y0 : (0 : Int) < (y : Int) := by omega
  have y1 : y < 18446744073709551616 := by omega
  have y2 : y ≤ 9223372036854775808 := by omega
  have hyc := Lib.hid hy
  clear hp hy hc0
  have Hlt : p % y < y := Nat.mod_lt _ (by omega)
  obtain ⟨q, hq⟩ : ∃ q, p / y = q := ⟨_, rfl⟩
  obtain ⟨r, hr⟩ : ∃ r, p % y = r := ⟨_, rfl⟩
  have hqp : p / y ≤ p := Nat.div_le_self p y
  rw [hq] at eW eR hqp
  rw [hr] at eR Hlt
  have Hq := Lib.hid hq
  have Hr := Lib.hid hr
  clear hq hr
  by_cases hg : (1000000000000000000 : Int) < (q : Int)
  all_goals
    go_enter Tryz.func133, Tryz.ntmps133
    go_wp2_with fail
    go_quiet ((first | (go_at_call 150; exact quiet_left (size_any _ (by assumption) (by assumption) _)) | (go_at_call 149; exact quiet_left (mul64_small a.natAbs b.natAbs p HP (by omega) (by omega) hs _))))
    go_wp2_with fail
    refine (size_any c c1 c2 _).mono ?_
    rintro e w1 ⟨rfl, rfl⟩
    rw [hyc.out]
    go_wp2_with fail
    refine (div64_lo p y hs (by omega) y1 _).mono ?_
    rintro e w1 ⟨rfl, n, rfl⟩
    rw [Hq.out, Hr.out]
    go_wp2
    go_ret2
    refine ⟨ret_ints2 ?_ ?_, below_drewN ((Below.refl _ _).alloc (Nat.le_refl _) _) _⟩
    · rw [eW.out]
      by_cases h : 1000000000000000000 < q
      · (rw [if_pos h]; try omega)
      · (rw [if_neg h]; try omega)
    · rw [eR.out]
      by_cases h : 1000000000000000000 < q
      · (rw [if_pos h]; try omega)
      · (rw [if_neg h]; try omega)

/-- the quotient, rounded down and rounded up -/
def qLo (a b c : Int) : Int := if qNeg a b c then -((qW a b c : Int) + if qR a b c = 0 then 0 else 1) else (qW a b c : Int)
def qHi (a b c : Int) : Int := if qNeg a b c then -(qW a b c : Int) else (qW a b c : Int) + if qR a b c = 0 then 0 else 1

theorem qLo_of {a b c : Int} {n : Bool} {q r : Nat} (h1 : qNeg a b c = n) (h2 : qW a b c = q) (h3 : qR a b c = r) : qLo a b c = if n then -((q : Int) + if r = 0 then 0 else 1) else (q : Int) := by unfold qLo; rw [h1, h2, h3]
theorem qHi_of {a b c : Int} {n : Bool} {q r : Nat} (h1 : qNeg a b c = n) (h2 : qW a b c = q) (h3 : qR a b c = r) : qHi a b c = if n then -(q : Int) else (q : Int) + if r = 0 then 0 else 1 := by unfold qHi; rw [h1, h2, h3]
theorem qW_le (a b c : Int) : qW a b c ≤ 1000000000000000000 := by unfold qW; split <;> omega

/-- what is known of divide -/
def Divides (a b c : Int) : Prop := ∀ w : World, Calls Tryz.prog 133 #[.agg #[.int .i64 a, .int .i64 b, .int .i64 c]] w fun e w' => e = .returned (.tuple #[.int .i64 (qW a b c), .int .i64 (qR a b c)]) ∧ Below w.heap.size w w'

set_option maxHeartbeats 1000000 in
theorem around_of (a b c : Int) (hd : Divides a b c) (w : World) :
    Calls Tryz.prog 109 #[.agg #[.int .i64 a, .int .i64 b, .int .i64 c]] w fun e w' => e = .returned (.agg #[.int .i64 (qLo a b c), .int .i64 (qHi a b c)]) ∧ Below w.heap.size w w' := by
  obtain ⟨n, hn⟩ : ∃ n, qNeg a b c = n := ⟨_, rfl⟩
  obtain ⟨q, hq⟩ : ∃ q, qW a b c = q := ⟨_, rfl⟩
  obtain ⟨r, hr⟩ : ∃ r, qR a b c = r := ⟨_, rfl⟩
  have eL := Lib.hid (qLo_of hn hq hr)
  have eH := Lib.hid (qHi_of hn hq hr)
  have qb := qW_le a b c
  rw [hq] at qb
  have cd : Hid (∀ w : World, Calls Tryz.prog 133 #[.agg #[.int .i64 a, .int .i64 b, .int .i64 c]] w fun e w' => e = .returned (.tuple #[.int .i64 q, .int .i64 r]) ∧ Below w.heap.size w w') := by
    intro w
    refine (hd w).mono ?_
    rintro e w' ⟨rfl, hb⟩
    exact ⟨by rw [hq, hr], hb⟩
  have cn : Hid (∀ w : World, Calls Tryz.prog 134 #[.agg #[.int .i64 a, .int .i64 b, .int .i64 c]] w fun e w' => e = .returned (.bool n) ∧ Below w.heap.size w w') := by
    intro w
    refine (negative_any a b c w).mono ?_
    rintro e w' ⟨rfl, hb⟩
    exact ⟨by rw [hn], hb⟩
  clear hn hq hr hd
  obtain rfl | hr0 : r = 0 ∨ 0 < r := by omega
  all_goals cases n
  all_goals
    go_enter Tryz.func109, Tryz.ntmps109
    go_wp2_with fail
    refine (cd.out _).mono ?_
    rintro e w1 ⟨rfl, hb1⟩
    obtain ⟨hc1, hf1⟩ := bcell hb1
    have hz1 := hb1.size
    try simp at hz1
    have hz1a : w.heap.size < w1.heap.size := by omega
    have hz1b : w.heap.size + 1 < w1.heap.size := by omega
    go_wp2_with fail
    refine (cn.out _).mono ?_
    rintro e w2 ⟨rfl, hb2⟩
    obtain ⟨hc2, hf2⟩ := bcell hb2
    have hz2 := hb2.size
    try simp at hz2
    go_wp2_with fail
    refine bodyPost_ret (v := .agg #[.int .i64 (qLo a b c), .int .i64 (qHi a b c)]) (by rw [eL.out, eH.out]; first | simp [results, Tryz.results109, go_sem, hc2, hc1, hz2, hz1a, hz1b, Nat.ne_of_gt hr0] | simp [results, Tryz.results109, go_sem, hc2, hc1, hz2, hz1a, hz1b]) rfl ⟨rfl, ?_⟩
    exact ((((((Below.refl _ _).alloc (Nat.le_refl _) _).alloc (by simp) _).trans (hb1.mono (by simp; omega))).trans (hb2.mono (by omega))).setCell (by simp) _).setCell (by simp) _

open Go.RowKit Go.Lib
set_option linter.unusedVariables false
set_option linter.unusedSimpArgs false

theorem alloc_alloc_new (w : World) (o p : Obj) : ((w.alloc o).alloc p).heap[w.heap.size + 1]? = some p := by
  have h := heap_alloc_new (w.alloc o) p
  simpa using h
theorem cells3 {w : World} {g : Nat} {a b c : Value} (h0 : w.cell? ⟨g, 0, none⟩ = some a) (h1 : w.cell? ⟨g, 1, none⟩ = some b) (h2 : w.cell? ⟨g, 2, none⟩ = some c) :
    ∀ j v, [a, b, c][j]? = some v → w.cell? ⟨g, j, none⟩ = some v := by
  intro j v hj
  rcases j with _ | _ | _ | j
  · simp at hj; subst hj; exact h0
  · simp at hj; subst hj; exact h1
  · simp at hj; subst hj; exact h2
  · simp at hj
theorem row3 {W : World} {g : Nat} {t : TypeId} {x y z a b c : Value} (h : Hid (W.heap[g]? = some (.cells (splice [x, y, z] 0 [a, b, c]).toArray t (0, 0)))) :
    W.cell? ⟨g, 0, none⟩ = some a ∧ W.cell? ⟨g, 1, none⟩ = some b ∧ W.cell? ⟨g, 2, none⟩ = some c ∧ W.frozen? ⟨g, 0, none⟩ = false ∧ W.frozen? ⟨g, 1, none⟩ = false ∧ W.frozen? ⟨g, 2, none⟩ = false := by
  have h' := h.out
  refine ⟨?_, ?_, ?_, ?_, ?_, ?_⟩
  · rw [cell_of_row W g 0 _ t (0, 0) h']; rfl
  · rw [cell_of_row W g 1 _ t (0, 0) h']; rfl
  · rw [cell_of_row W g 2 _ t (0, 0) h']; rfl
  · simp [World.frozen?, h']
  · simp [World.frozen?, h']
  · simp [World.frozen?, h']

theorem row2 {W : World} {g : Nat} {t : TypeId} {x y z a b : Value} (h : Hid (W.heap[g]? = some (.cells (splice [x, y, z] 0 [a, b]).toArray t (0, 0)))) :
    W.cell? ⟨g, 0, none⟩ = some a ∧ W.cell? ⟨g, 1, none⟩ = some b ∧ W.cell? ⟨g, 2, none⟩ = some z ∧ W.frozen? ⟨g, 0, none⟩ = false ∧ W.frozen? ⟨g, 1, none⟩ = false ∧ W.frozen? ⟨g, 2, none⟩ = false := by
  have h' := h.out
  refine ⟨?_, ?_, ?_, ?_, ?_, ?_⟩
  · rw [cell_of_row W g 0 _ t (0, 0) h']; rfl
  · rw [cell_of_row W g 1 _ t (0, 0) h']; rfl
  · rw [cell_of_row W g 2 _ t (0, 0) h']; rfl
  · simp [World.frozen?, h']
  · simp [World.frozen?, h']
  · simp [World.frozen?, h']

set_option maxRecDepth 20000 in
set_option maxHeartbeats 400000 in
theorem quotientOf3 (a b c : Int) (g : Nat) (w : World) (hg : g < w.heap.size) (h0 : w.cell? ⟨g, 0, none⟩ = some (.int .i64 a)) (h1 : w.cell? ⟨g, 1, none⟩ = some (.int .i64 b)) (h2 : w.cell? ⟨g, 2, none⟩ = some (.int .i64 c)) :
    Calls Tryz.prog 108 #[.slice (some ⟨g, 0, none⟩) 3 3] w fun e w' => e = .returned (.agg #[.int .i64 a, .int .i64 b, .int .i64 c]) ∧ Below w.heap.size w w' := by
  have hsrc := Lib.hid (cells3 h0 h1 h2)
  clear h0 h1 h2
  go_enter Tryz.func108, Tryz.ntmps108
  go_wp2_with (refine wpList_copy_splice (o := ⟨some 7, _, _, _, _, _⟩) rfl (.tmp 5) (.tmp 6) 54 54 rfl 3 Tryz.underlying54 (by kernel_rfl) (some ⟨w.heap.size + 1, 0, none⟩) (some ⟨g, 0, none⟩) 3 3 3 3 rfl rfl (w.heap.size + 1) 0 [.int .i64 1, .int .i64 1, .int .i64 1] 168 ?c1 [.int .i64 a, .int .i64 b, .int .i64 c] rfl ?c2 ?c3 ?c4 (w.heap.size + 1) (w.alloc (.cells #[.int .i64 0, .int .i64 0, .int .i64 0] 168)) ?c5 ?c6 ?_)
  case c1 => exact alloc_alloc_new w _ _
  case c2 => exact hsrc.out
  case c3 => simp
  case c4 => simp [Value.oneCell']
  case c5 => exact (Below.refl _ _).alloc (by simp) _
  case c6 => omega
  intro W hW hbW
  obtain ⟨e0, e1, e2, f0, f1, f2⟩ := row3 hW
  have hz := hbW.size
  have hc0 := hbW.cell (p := ⟨w.heap.size, 0, none⟩) (by simp)
  have hc1 := hbW.cell (p := ⟨w.heap.size, 1, none⟩) (by simp)
  have hc2 := hbW.cell (p := ⟨w.heap.size, 2, none⟩) (by simp)
  have hf0 := hbW.frozen (p := ⟨w.heap.size, 0, none⟩) (by simp)
  have hf1 := hbW.frozen (p := ⟨w.heap.size, 1, none⟩) (by simp)
  have hf2 := hbW.frozen (p := ⟨w.heap.size, 2, none⟩) (by simp)
  clear hW
  go_wp2
  refine bodyPost_ret (v := .agg #[.int .i64 a, .int .i64 b, .int .i64 c]) (by simp [results, Tryz.results108, go_sem, hc0, hc1, hc2, hf0, hf1, hf2]) rfl ⟨rfl, ?_⟩
  exact (((((Below.refl _ _).alloc (Nat.le_refl _) _).trans (hbW.mono (by omega))).setCell (by simp) _).setCell (by simp) _).setCell (by simp) _

open Go.RowKit Go.Lib
set_option linter.unusedVariables false
set_option linter.unusedSimpArgs false

/-- the ranges xs lie one after another in block g, from off on -/
def RRd (w : World) (g off : Nat) (xs : List (Int × Int)) : Prop :=
  ∀ k p, xs[k]? = some p → w.cell? ⟨g, off + k * 2, none⟩ = some (.int .i64 p.1) ∧ w.cell? ⟨g, off + k * 2 + 1, none⟩ = some (.int .i64 p.2)
theorem RRd.keep {w w' : World} {g off : Nat} {xs : List (Int × Int)} (h : RRd w g off xs) (hk : ∀ o, w'.cell? ⟨g, o, none⟩ = w.cell? ⟨g, o, none⟩) : RRd w' g off xs :=
  fun k p hp => ⟨(hk _).trans (h k p hp).1, (hk _).trans (h k p hp).2⟩
theorem RRd.below {w w' : World} {B g off : Nat} {xs : List (Int × Int)} (h : RRd w g off xs) (hb : Below B w w') (hg : g < B) : RRd w' g off xs :=
  h.keep fun o => hb.cell (p := ⟨g, o, none⟩) hg

/-- how two ranges are joined, as the program's function F does it -/
def JoinAt (F : Nat) (J : Int × Int → Int × Int → Int × Int) (D : Int × Int → Prop) : Prop :=
  ∀ (a b : Int × Int) (w : World), D a → D b → Calls Tryz.prog F #[.agg #[.int .i64 a.1, .int .i64 a.2], .agg #[.int .i64 b.1, .int .i64 b.2]] w fun e w' => e = .returned (.agg #[.int .i64 (J a b).1, .int .i64 (J a b).2]) ∧ Below w.heap.size w w'

set_option maxHeartbeats 1000000 in
theorem together_any (F : Nat) (J : Int × Int → Int × Int → Int × Int) (D : Int × Int → Prop) (hE : ∀ args w, (callFunc F args).run Tryz.prog w = .ok (.enter F args) w) (hJ : JoinAt F J D) (hD : ∀ a b, D a → D b → D (J a b)) (lo hi : Int) (h0 : D (lo, hi)) (g off : Nat) (xs : List (Int × Int)) (c : Nat) (w : World)
    (hx : ∀ p ∈ xs, D p) (hg : g < w.heap.size) (hr : RRd w g off xs) (hl : xs.length ≤ 1000000) :
    Calls Tryz.prog 114 #[.agg #[.int .i64 lo, .int .i64 hi], .slice (some ⟨g, off, none⟩) xs.length c, .func (Fn.func F) #[] #[]] w fun e w' =>
      e = .returned (.agg #[.int .i64 (xs.foldl J (lo, hi)).1, .int .i64 (xs.foldl J (lo, hi)).2]) ∧ Below w.heap.size w w' := by
  obtain ⟨n, hn⟩ : ∃ n, xs.length = n := ⟨_, rfl⟩
  rw [hn] at hl ⊢
  have Hn := Lib.hid hn
  clear hn
  have HJ := Lib.hid hJ
  have HD := Lib.hid hD
  have H0 := Lib.hid h0
  have HX := Lib.hid hx
  have HR := Lib.hid hr
  clear hJ hD h0 hx hr
  go_enter Tryz.func114, Tryz.ntmps114
  go_wp2_with fail
  go_loopw [11] (fun i wr => ∃ (k : Nat) (a : Int × Int), k ≤ n ∧ i = .int .i64 k ∧ Hid (a = (xs.take k).foldl J (lo, hi)) ∧ D a ∧ wr.cell? ⟨w.heap.size, 0, none⟩ = some (.int .i64 a.1) ∧ wr.cell? ⟨w.heap.size, 1, none⟩ = some (.int .i64 a.2) ∧ wr.frozen? ⟨w.heap.size, 0, none⟩ = false ∧ wr.frozen? ⟨w.heap.size, 1, none⟩ = false ∧
      wr.cell? ⟨w.heap.size + 1, 0, none⟩ = some (.int .i64 0) ∧ wr.cell? ⟨w.heap.size + 1, 1, none⟩ = some (.int .i64 0) ∧ wr.frozen? ⟨w.heap.size + 1, 0, none⟩ = false ∧ wr.frozen? ⟨w.heap.size + 1, 1, none⟩ = false ∧ w.heap.size + 1 < wr.heap.size ∧ Below w.heap.size w wr) (fun i _ => n - (RowKit.intOf i).toNat)
  case atStart =>
    refine ⟨0, (lo, hi), Nat.zero_le _, rfl, Lib.hid rfl, H0.out, ?_, ?_, ?_, ?_, ?_, ?_, ?_, ?_, ?_, ?_⟩
    all_goals first | (simp; done) | exact ((Below.refl _ _).alloc (Nat.le_refl _) _).alloc (by simp) _
  case round =>
    obtain ⟨k, a, hk, rfl, ha, hDa, c0, c1, f0, f1, d0, d1, e0, e1, hz, hbr⟩ := hrel
    have hz0 : w.heap.size < wr.heap.size := by omega
    have hz0e : w.heap.size ≤ wr.heap.size := by omega
    have hgw : g < wr.heap.size := by omega
    by_cases hlt : k < n
    · have hkl : k < xs.length := by rw [Hn.out]; exact hlt
      obtain ⟨p, hp⟩ : ∃ p, xs[k]? = some p := ⟨_, List.getElem?_eq_getElem hkl⟩
      have hpD : D p := HX.out p (List.mem_of_getElem? hp)
      obtain ⟨q0, q1⟩ := (HR.out.below hbr hg) k p hp
      have hp' := Lib.hid hp
      clear hp
      go_wp2_with fail
      refine (HJ.out a p _ hDa hpD).mono ?_
      rintro e w1 ⟨rfl, hb1⟩
      have hDq := HD.out a p hDa hpD
      have haq : Hid (J a p = (xs.take (k + 1)).foldl J (lo, hi)) := Lib.hid (by rw [List.take_add_one, hp'.out, List.foldl_append, ← ha.out]; rfl)
      generalize J a p = q at *
      have hB1 := below1 hb1
      have hz1 := hB1.size
      replace c0 := cell_next hB1 hz0 c0
      replace c1 := cell_next hB1 hz0 c1
      replace f0 := frozen_next hB1 hz0 f0
      replace f1 := frozen_next hB1 hz0 f1
      replace d0 := cell_next hB1 hz d0
      replace d1 := cell_next hB1 hz d1
      replace e0 := frozen_next hB1 hz e0
      replace e1 := frozen_next hB1 hz e1
      replace hbr := hbr.trans (hB1.mono (by omega))
      clear hb1 hB1 q0 q1
      go_wp2_with fail
      go_roundw
      case rel =>
        refine ⟨k + 1, q, by omega, by go_num, haq, hDq, ?_, ?_, ?_, ?_, ?_, ?_, ?_, ?_, by simp; omega, (hbr.setCell (p := ⟨w.heap.size, 0, none⟩) (Nat.le_refl _) _).setCell (p := ⟨w.heap.size, 1, none⟩) (Nat.le_refl _) _⟩
        all_goals simp [go_sem, *]
      case measure => simp [RowKit.intOf]; omega
    · obtain rfl : k = n := by omega
      have hfin : a = xs.foldl J (lo, hi) := by rw [ha.out, List.take_of_length_le (by rw [Hn.out]; omega)]
      have Hfin := Lib.hid hfin
      clear hfin ha
      go_wp2_with fail
      refine bodyPost_ret (v := .agg #[.int .i64 a.1, .int .i64 a.2]) (by simp [results, Tryz.results114, go_sem, *]) rfl ⟨by rw [Hfin.out], ?_⟩
      exact (hbr.setCell (by simp) _).setCell (by simp) _

open Go.RowKit Go.Lib Go.Shelf
set_option linter.unusedVariables false
set_option linter.unusedSimpArgs false

theorem enters_hull : ∀ args w, (callFunc 115 args).run Tryz.prog w = .ok (.enter 115 args) w := enters_of Tryz.func115 (by kernel_rfl) rfl

def hullJ (a b : Int × Int) : Int × Int := (min a.1 b.1, max a.2 b.2)
set_option maxHeartbeats 400000 in
theorem hull1_any (a b c d : Int) (w : World) : Calls Tryz.prog 115 #[.agg #[.int .i64 a, .int .i64 b], .agg #[.int .i64 c, .int .i64 d]] w fun e w' => e = .returned (.agg #[.int .i64 (min a c), .int .i64 (max b d)]) ∧ Below w.heap.size w w' := by
  go_enter Tryz.func115, Tryz.ntmps115
  go_wp2
  all_goals
    refine bodyPost_ret (v := .agg #[.int .i64 (min a c), .int .i64 (max b d)]) (by simp [results, Tryz.results115, go_sem]; omega) rfl ⟨rfl, ?_⟩
    exact ((((Below.refl _ _).alloc (Nat.le_refl _) _).alloc (by simp) _).alloc (by simp; omega) _)

theorem hull1_join : JoinAt 115 hullJ (fun _ => True) := fun a b w _ _ => hull1_any a.1 a.2 b.1 b.2 w

set_option maxHeartbeats 400000 in
theorem hull_any (lo hi : Int) (g off : Nat) (xs : List (Int × Int)) (c : Nat) (w : World) (hg : g < w.heap.size) (hr : RRd w g off xs) (hl : xs.length ≤ 1000000) :
    Calls Tryz.prog 90 #[.agg #[.int .i64 lo, .int .i64 hi], .slice (some ⟨g, off, none⟩) xs.length c] w fun e w' =>
      e = .returned (.agg #[.int .i64 (xs.foldl hullJ (lo, hi)).1, .int .i64 (xs.foldl hullJ (lo, hi)).2]) ∧ Below w.heap.size w w' := by
  have hc : Hid (∀ W : World, Below w.heap.size w W → Calls Tryz.prog 114 #[.agg #[.int .i64 lo, .int .i64 hi], .slice (some ⟨g, off, none⟩) xs.length c, .func (Fn.func 115) #[] #[]] W fun e w' =>
      e = .returned (.agg #[.int .i64 (xs.foldl hullJ (lo, hi)).1, .int .i64 (xs.foldl hullJ (lo, hi)).2]) ∧ Below W.heap.size W w') := fun W hb => by
    have hz := hb.size
    exact together_any 115 hullJ (fun _ => True) enters_hull hull1_join (fun _ _ _ _ => trivial) lo hi trivial g off xs c W (fun _ _ => trivial) (by omega) (hr.below hb hg) hl
  generalize xs.foldl hullJ (lo, hi) = q at *
  generalize xs.length = n at *
  clear hr
  go_enter Tryz.func90, Tryz.ntmps90
  go_wp2_with fail
  refine (hc.out _ (((Below.refl _ _).alloc (Nat.le_refl _) _).alloc (by simp) _)).mono ?_
  rintro e w1 ⟨rfl, hb1⟩
  have d0 := cell_next hb1 (b := w.heap.size + 1) (o := 0) (by simp) (v := some (.int .i64 0)) (by simp)
  have d1 := cell_next hb1 (b := w.heap.size + 1) (o := 1) (by simp) (v := some (.int .i64 0)) (by simp)
  have e0 := frozen_next hb1 (b := w.heap.size + 1) (o := 0) (by simp) (v := false) (by simp)
  have e1 := frozen_next hb1 (b := w.heap.size + 1) (o := 1) (by simp) (v := false) (by simp)
  have hB := below2 hb1
  clear hb1
  go_wp2_with fail
  refine bodyPost_ret (v := .agg #[.int .i64 q.1, .int .i64 q.2]) (by simp [results, Tryz.results90, go_sem, *]) rfl ⟨rfl, ?_⟩
  exact (hB.setCell (by simp) _).setCell (by simp) _
end Go.Proofs.YtgklpbgdimkhaaaGreat
