/- Contracts of the quotients of package span: what divide, negative, around and quotientOf return. -/
import Derived.Test.YtloddjjmoaljhaaC1
import Derived.Deep.RegionHeld3
import Derived.Deep.DrawnRows
namespace Go.Proofs.Ytloddjjmoaljhaa
open Go.RowKit Go.Lib
set_option linter.unusedVariables false
set_option linter.unusedSimpArgs false

theorem ret_ints2 {k l : IntKind} {a b c d : Int} (h1 : a = c) (h2 : b = d) : Ending.returned (.tuple #[.int k a, .int l b]) = .returned (.tuple #[.int k c, .int l d]) := by rw [h1, h2]

theorem quiet_left {P : Program} {f : FuncId} {args : Array Value} {w : World} {n : Nat} {v : Value}
    (h : Calls P f args (w.drewN n) fun e w' => e = .returned v ∧ w.drewN n = w') : Calls P f args (w.drewN n) fun e w'' => e = .returned v ∧ ∃ m, w'' = w.drewN m :=
  h.mono fun _ _ ⟨he, hm⟩ => ⟨he, n, hm.symm⟩

namespace Mul64
theorem maskN (a : Nat) (ha : a < 18446744073709551616) : bits .and .u64 (a : Int) 4294967295 = ((a % 4294967296 : Nat) : Int) := by
  have h := bits_and_u64_nat a 4294967295 ha (by omega)
  have e : a &&& 4294967295 = a % 4294967296 := Nat.and_two_pow_sub_one_eq_mod a 32
  rw [e] at h
  exact h
theorem divN (a : Nat) : (a : Int) / 4294967296 = ((a / 4294967296 : Nat) : Int) := by omega
theorem mulN (a b : Nat) : (a : Int) * (b : Int) = ((a * b : Nat) : Int) := (Int.natCast_mul a b).symm
theorem addN (a b : Nat) : (a : Int) + (b : Int) = ((a + b : Nat) : Int) := (Int.natCast_add a b).symm
theorem wrapN (a : Nat) (ha : a < 18446744073709551616) : IntKind.u64.wrap (a : Int) = (a : Int) := by rw [IntKind.wrap_u64]; omega
theorem wrapM (a : Nat) : IntKind.u64.wrap (a : Int) = ((a % 18446744073709551616 : Nat) : Int) := by rw [IntKind.wrap_u64]; omega
end Mul64

set_option maxHeartbeats 1000000 in
theorem mul64_any (x y : Nat) (hx : x < 18446744073709551616) (hy : y < 18446744073709551616) (w : World) :
    Calls Try.prog 64 #[.int .u64 x, .int .u64 y] w fun e w' => e = .returned (.tuple #[.int .u64 ((x * y / 18446744073709551616 : Nat) : Int), .int .u64 ((x * y % 18446744073709551616 : Nat) : Int)]) ∧ w = w' := by
  obtain ⟨bd, bt, bw, hhi⟩ := Lib.mul64_hi x y hx hy
  have ba := Lib.half_mul_le (a := x / 4294967296) (b := y / 4294967296) (by omega) (by omega)
  have bb := Lib.half_mul_le (a := x / 4294967296) (b := y % 4294967296) (by omega) (by omega)
  have bc := Lib.half_mul_le (a := x % 4294967296) (b := y / 4294967296) (by omega) (by omega)
  have ba' : x / 4294967296 * (y / 4294967296) < 18446744073709551616 := by omega
  have bb' : x / 4294967296 * (y % 4294967296) < 18446744073709551616 := by omega
  have bc' : x % 4294967296 * (y / 4294967296) < 18446744073709551616 := by omega
  have bh1 : x / 4294967296 * (y / 4294967296) + (x / 4294967296 * (y % 4294967296) + x % 4294967296 * (y % 4294967296) / 4294967296) / 4294967296 < 18446744073709551616 := by omega
  have bh : x / 4294967296 * (y / 4294967296) + (x / 4294967296 * (y % 4294967296) + x % 4294967296 * (y % 4294967296) / 4294967296) / 4294967296 + ((x / 4294967296 * (y % 4294967296) + x % 4294967296 * (y % 4294967296) / 4294967296) % 4294967296 + x % 4294967296 * (y / 4294967296)) / 4294967296 < 18446744073709551616 := by omega
  go_enter Try.func64, Try.ntmps64
  go_wp2
  simp only [Mul64.maskN x hx, Mul64.maskN y hy, Mul64.divN, Mul64.mulN, Mul64.addN, Mul64.wrapN _ bd, Mul64.wrapN _ bb', Mul64.wrapN _ bt, Mul64.maskN _ bt, Mul64.wrapN _ bc', Mul64.wrapN _ bw, Mul64.wrapN _ ba', Mul64.wrapN _ bh1, Mul64.wrapN _ bh, Mul64.wrapM (x * y)]
  rw [hhi]
  go_ret2
  exact ⟨rfl, rfl⟩

set_option maxHeartbeats 400000 in
theorem div64_lo (x y : Nat) (hx : x < 18446744073709551616) (hy0 : 0 < y) (hy : y < 18446744073709551616) (w : World) :
    Calls Try.prog 66 #[.int .u64 0, .int .u64 x, .int .u64 y] w fun e w' => e = .returned (.tuple #[.int .u64 ((x / y : Nat) : Int), .int .u64 ((x % y : Nat) : Int)]) ∧ ∃ n, w' = w.drewN n := by
  have h1 : ((y : Int) == 0) = false := by simp; omega
  have h2 : ¬ (y : Int) ≤ 0 := by omega
  have h3 : (1 : Int) ≤ (y : Int) := by omega
  go_enter Try.func66, Try.ntmps66
  go_wp2
  go_quiet (fail)
  go_wp2
  go_ret2
  refine ⟨ret_ints2 ?_ ?_, _, rfl⟩
  · rw [IntKind.wrap_u64, ← Int.natCast_ediv]
    have := Nat.div_le_self x y
    generalize x / y = q at *
    omega
  · rw [← Int.natCast_emod]

/-- the quotient, without signs: great numbers are cut at 'beyond', without a rest -/
def qW (a b c : Int) : Nat := if 1000000000000000000 < a.natAbs * b.natAbs / c.natAbs then 1000000000000000000 else a.natAbs * b.natAbs / c.natAbs
def qR (a b c : Int) : Nat := if 1000000000000000000 < a.natAbs * b.natAbs / c.natAbs then 0 else a.natAbs * b.natAbs % c.natAbs
def qNeg (a b c : Int) : Bool := ((decide (a < 0) != decide (b < 0)) != decide (c < 0))

def I64 (n : Int) : Prop := -9223372036854775808 ≤ n ∧ n ≤ 9223372036854775807

set_option maxHeartbeats 400000 in
theorem negative_any (a b c : Int) (w : World) :
    Calls Try.prog 49 #[.agg #[.int .i64 a, .int .i64 b, .int .i64 c]] w fun e w' => e = .returned (.bool (qNeg a b c)) ∧ Below w.heap.size w w' := by
  go_enter Try.func49, Try.ntmps49
  go_wp2
  go_ret
  exact ⟨rfl, (Below.refl _ _).alloc (Nat.le_refl _) _⟩

theorem mul64_small (x y p : Nat) (hp : Hid (x * y = p)) (hx : x < 18446744073709551616) (hy : y < 18446744073709551616) (hs : p < 18446744073709551616) (w : World) :
    Calls Try.prog 64 #[.int .u64 x, .int .u64 y] w fun e w' => e = .returned (.tuple #[.int .u64 0, .int .u64 p]) ∧ w = w' := by
  refine (mul64_any x y hx hy w).mono ?_
  rintro e w' ⟨rfl, rfl⟩
  have h := hp.out
  refine ⟨ret_ints2 ?_ ?_, rfl⟩
  · rw [h]; omega
  · rw [h]; omega

theorem qW_of (a b c : Int) (p : Nat) (hp : a.natAbs * b.natAbs = p) : qW a b c = if 1000000000000000000 < p / c.natAbs then 1000000000000000000 else p / c.natAbs := by unfold qW; rw [hp]
theorem qR_of (a b c : Int) (p : Nat) (hp : a.natAbs * b.natAbs = p) : qR a b c = if 1000000000000000000 < p / c.natAbs then 0 else p % c.natAbs := by unfold qR; rw [hp]

set_option maxHeartbeats 1000000 in
theorem divide_small (a b c : Int) (ha : I64 a) (hb : I64 b) (hc : I64 c) (hc0 : c ≠ 0) (hs : a.natAbs * b.natAbs < 18446744073709551616) (w : World) :
    Calls Try.prog 48 #[.agg #[.int .i64 a, .int .i64 b, .int .i64 c]] w fun e w' => e = .returned (.tuple #[.int .i64 (qW a b c), .int .i64 (qR a b c)]) ∧ Below w.heap.size w w' := by
  obtain ⟨a1, a2⟩ := ha
  obtain ⟨b1, b2⟩ := hb
  obtain ⟨c1, c2⟩ := hc
  obtain ⟨p, hp⟩ : ∃ p, a.natAbs * b.natAbs = p := ⟨_, rfl⟩
  obtain ⟨y, hy⟩ : ∃ y, c.natAbs = y := ⟨_, rfl⟩
  have eW := Lib.hid (qW_of a b c p hp)
  have eR := Lib.hid (qR_of a b c p hp)
  rw [hy] at eW eR
  rw [hp] at hs
  have HP := Lib.hid hp
  have y0 : (0 : Int) < (y : Int) := by omega
  have y1 : y < 18446744073709551616 := by omega
  have y2 : y ≤ 9223372036854775808 := by omega
  have hyc := Lib.hid hy
  clear hp hy hc0
  have Hlt : p % y < y := Nat.mod_lt _ (by omega)
  obtain ⟨q, hq⟩ : ∃ q, p / y = q := ⟨_, rfl⟩
  obtain ⟨r, hr⟩ : ∃ r, p % y = r := ⟨_, rfl⟩
  have hqp : p / y ≤ p := Nat.div_le_self p y
  rw [hq] at eW eR hqp
  rw [hr] at eR Hlt
  have Hq := Lib.hid hq
  have Hr := Lib.hid hr
  clear hq hr
  by_cases hg : (1000000000000000000 : Int) < (q : Int)
  all_goals
    go_enter Try.func48, Try.ntmps48
    go_wp2_with fail
    go_quiet ((first | (go_at_call 65; exact quiet_left (size_any _ (by assumption) (by assumption) _)) | (go_at_call 64; exact quiet_left (mul64_small a.natAbs b.natAbs p HP (by omega) (by omega) hs _))))
    go_wp2_with fail
    refine (size_any c c1 c2 _).mono ?_
    rintro e w1 ⟨rfl, rfl⟩
    rw [hyc.out]
    go_wp2_with fail
    refine (div64_lo p y hs (by omega) y1 _).mono ?_
    rintro e w1 ⟨rfl, n, rfl⟩
    rw [Hq.out, Hr.out]
    go_wp2
    go_ret2
    refine ⟨ret_ints2 ?_ ?_, below_drewN ((Below.refl _ _).alloc (Nat.le_refl _) _) _⟩
    · rw [eW.out]
      by_cases h : 1000000000000000000 < q
      · (rw [if_pos h]; try omega)
      · (rw [if_neg h]; try omega)
    · rw [eR.out]
      by_cases h : 1000000000000000000 < q
      · (rw [if_pos h]; try omega)
      · (rw [if_neg h]; try omega)

/-- the quotient, rounded down and rounded up -/
def qLo (a b c : Int) : Int := if qNeg a b c then -((qW a b c : Int) + if qR a b c = 0 then 0 else 1) else (qW a b c : Int)
def qHi (a b c : Int) : Int := if qNeg a b c then -(qW a b c : Int) else (qW a b c : Int) + if qR a b c = 0 then 0 else 1

theorem qLo_of {a b c : Int} {n : Bool} {q r : Nat} (h1 : qNeg a b c = n) (h2 : qW a b c = q) (h3 : qR a b c = r) : qLo a b c = if n then -((q : Int) + if r = 0 then 0 else 1) else (q : Int) := by unfold qLo; rw [h1, h2, h3]
theorem qHi_of {a b c : Int} {n : Bool} {q r : Nat} (h1 : qNeg a b c = n) (h2 : qW a b c = q) (h3 : qR a b c = r) : qHi a b c = if n then -(q : Int) else (q : Int) + if r = 0 then 0 else 1 := by unfold qHi; rw [h1, h2, h3]
theorem qW_le (a b c : Int) : qW a b c ≤ 1000000000000000000 := by unfold qW; split <;> omega

/-- what is known of divide -/
def Divides (a b c : Int) : Prop := ∀ w : World, Calls Try.prog 48 #[.agg #[.int .i64 a, .int .i64 b, .int .i64 c]] w fun e w' => e = .returned (.tuple #[.int .i64 (qW a b c), .int .i64 (qR a b c)]) ∧ Below w.heap.size w w'

set_option maxHeartbeats 1000000 in
theorem around_of (a b c : Int) (hd : Divides a b c) (w : World) :
    Calls Try.prog 23 #[.agg #[.int .i64 a, .int .i64 b, .int .i64 c]] w fun e w' => e = .returned (.agg #[.int .i64 (qLo a b c), .int .i64 (qHi a b c)]) ∧ Below w.heap.size w w' := by
  obtain ⟨n, hn⟩ : ∃ n, qNeg a b c = n := ⟨_, rfl⟩
  obtain ⟨q, hq⟩ : ∃ q, qW a b c = q := ⟨_, rfl⟩
  obtain ⟨r, hr⟩ : ∃ r, qR a b c = r := ⟨_, rfl⟩
  have eL := Lib.hid (qLo_of hn hq hr)
  have eH := Lib.hid (qHi_of hn hq hr)
  have qb := qW_le a b c
  rw [hq] at qb
  have cd : Hid (∀ w : World, Calls Try.prog 48 #[.agg #[.int .i64 a, .int .i64 b, .int .i64 c]] w fun e w' => e = .returned (.tuple #[.int .i64 q, .int .i64 r]) ∧ Below w.heap.size w w') := by
    intro w
    refine (hd w).mono ?_
    rintro e w' ⟨rfl, hb⟩
    exact ⟨by rw [hq, hr], hb⟩
  have cn : Hid (∀ w : World, Calls Try.prog 49 #[.agg #[.int .i64 a, .int .i64 b, .int .i64 c]] w fun e w' => e = .returned (.bool n) ∧ Below w.heap.size w w') := by
    intro w
    refine (negative_any a b c w).mono ?_
    rintro e w' ⟨rfl, hb⟩
    exact ⟨by rw [hn], hb⟩
  clear hn hq hr hd
  obtain rfl | hr0 : r = 0 ∨ 0 < r := by omega
  all_goals cases n
  all_goals
    go_enter Try.func23, Try.ntmps23
    go_wp2_with fail
    refine (cd.out _).mono ?_
    rintro e w1 ⟨rfl, hb1⟩
    obtain ⟨hc1, hf1⟩ := bcell hb1
    have hz1 := hb1.size
    try simp at hz1
    have hz1a : w.heap.size < w1.heap.size := by omega
    have hz1b : w.heap.size + 1 < w1.heap.size := by omega
    go_wp2_with fail
    refine (cn.out _).mono ?_
    rintro e w2 ⟨rfl, hb2⟩
    obtain ⟨hc2, hf2⟩ := bcell hb2
    have hz2 := hb2.size
    try simp at hz2
    go_wp2_with fail
    refine bodyPost_ret (v := .agg #[.int .i64 (qLo a b c), .int .i64 (qHi a b c)]) (by rw [eL.out, eH.out]; first | simp [results, Try.results23, go_sem, hc2, hc1, hz2, hz1a, hz1b, Nat.ne_of_gt hr0] | simp [results, Try.results23, go_sem, hc2, hc1, hz2, hz1a, hz1b]) rfl ⟨rfl, ?_⟩
    exact ((((((Below.refl _ _).alloc (Nat.le_refl _) _).alloc (by simp) _).trans (hb1.mono (by simp; omega))).trans (hb2.mono (by omega))).setCell (by simp) _).setCell (by simp) _
end Go.Proofs.Ytloddjjmoaljhaa

