/- Contracts: V8, T4, joined. -/
import Derived.Test.YtclnfncdphfgjaaJC10
import Derived.Test.YtclnfncdphfgjaaJC11
import Derived.Test.YtclnfncdphfgjaaJC5
namespace Go.Proofs.Ytclnfncdphfgjaa
open Go.RowKit Go.Lib Go.Shelf
set_option linter.unusedVariables false
set_option linter.unusedSimpArgs false
attribute [local go_sem ↓] Go.wp_at_zero Go.wp_at_succ


def mxE (xs : List (Int × Int)) : Int := if 100 < xs.length then 5 else if xs.all (fun p => spB p.1 p.2) = true then (if spB (suU xs).1 (suU xs).2 = true then 0 else 10) else 2
def mxV (xs : List (Int × Int)) : Int × Int := if mxE xs = 0 then suU xs else (0, 0)
theorem mx_long {xs : List (Int × Int)} (h : 100 < xs.length) : mxV xs = (0, 0) ∧ mxE xs = 5 := by simp [mxV, mxE, h]
theorem mx_bad {xs : List (Int × Int)} (k : Nat) (p : Int × Int) (h : xs[k]? = some p) (hp : spB p.1 p.2 = false) (hl : xs.length ≤ 100) : mxV xs = (0, 0) ∧ mxE xs = 2 := by
  have h1 : ¬ 100 < xs.length := by omega
  have h2 : xs.all (fun p => spB p.1 p.2) = false := by
    rw [Bool.eq_false_iff]
    intro ha
    have := List.all_eq_true.1 ha p (List.mem_of_getElem? h)
    rw [hp] at this
    cases this
  simp [mxV, mxE, h1, h2]
theorem mx_end {xs : List (Int × Int)} (h : ∀ p ∈ xs, spB p.1 p.2 = true) (hl : xs.length ≤ 100) : (spB (suU xs).1 (suU xs).2 = true → mxV xs = suU xs ∧ mxE xs = 0) ∧ (spB (suU xs).1 (suU xs).2 = false → mxV xs = (0, 0) ∧ mxE xs = 10) := by
  have h1 : ¬ 100 < xs.length := by omega
  have h2 : xs.all (fun p => spB p.1 p.2) = true := List.all_eq_true.2 h
  constructor <;> intro h3 <;> simp [mxV, mxE, h1, h2, h3]

set_option maxRecDepth 20000 in
set_option maxHeartbeats 1000000 in
theorem mix_any (A : Option Addr) (xs : List (Int × Int)) (c : Nat) (w : World) (hr : 0 < xs.length → ∃ g off, A = some ⟨g, off, none⟩ ∧ g < w.heap.size ∧ RRd w g off xs) (hl : xs.length ≤ 100) :
    Calls Try.prog 17 #[.slice A xs.length c] w fun e w' =>
      e = .returned (.tuple #[.agg #[.int .i64 (mxV xs).1, .int .i64 (mxV xs).2], .int .i64 (mxE xs)]) ∧ Below w.heap.size w w' := by
  obtain ⟨n, hn⟩ : ∃ n, xs.length = n := ⟨_, rfl⟩
  rw [hn] at hl ⊢
  have Hn := Lib.hid hn
  have HBAD := Lib.hid (fun k p h hp => mx_bad (xs := xs) k p h hp (by rw [Hn.out]; exact hl))
  have HEND := Lib.hid (fun h => mx_end (xs := xs) h (by rw [Hn.out]; exact hl))
  rw [hn] at hr
  have HR := Lib.hid hr
  clear hr
  generalize mxV xs = mv at *
  generalize mxE xs = me at *
  clear hn
  go_enter Try.func17, Try.ntmps17
  have t0 : decide ((100 : Int) < (n : Int)) = false := by simp; omega
  go_wp2_with fail
  go_loopw [13] (fun i wr => ∃ (k : Nat) (a : Int × Int), k ≤ n ∧ Hid (∀ p ∈ xs.take k, spB p.1 p.2 = true) ∧ i = .int .i64 k ∧ Hid (a = suU (xs.take k)) ∧ Hid (0 ≤ a.1 ∧ a.1 ≤ 10000000000000 * k ∧ 0 ≤ a.2 ∧ a.2 ≤ 10000000000000 * k) ∧ wr.cell? ⟨w.heap.size + 1, 0, none⟩ = some (.int .i64 a.1) ∧ wr.cell? ⟨w.heap.size + 1, 1, none⟩ = some (.int .i64 a.2) ∧ wr.frozen? ⟨w.heap.size + 1, 0, none⟩ = false ∧ wr.frozen? ⟨w.heap.size + 1, 1, none⟩ = false ∧
      wr.cell? ⟨w.heap.size, 0, none⟩ = some (.int .i64 0) ∧ wr.cell? ⟨w.heap.size, 1, none⟩ = some (.int .i64 0) ∧ wr.frozen? ⟨w.heap.size, 0, none⟩ = false ∧ wr.frozen? ⟨w.heap.size, 1, none⟩ = false ∧ w.heap.size + 1 < wr.heap.size ∧ Below w.heap.size w wr) (fun i _ => n - (RowKit.intOf i).toNat)
  case atStart =>
    refine ⟨0, (0, 0), Nat.zero_le _, Lib.hid (by simp), rfl, Lib.hid rfl, Lib.hid (by simp), ?_, ?_, ?_, ?_, ?_, ?_, ?_, ?_, ?_, ?_⟩
    all_goals first | (simp; done) | exact below_al2 w _ _
  case round =>
    obtain ⟨k, ⟨a0, a1⟩, hk, hok, rfl, ha, hDa, c0, c1, f0, f1, d0, d1, e0, e1, hz, hbr⟩ := hrel
    have hz0 : w.heap.size < wr.heap.size := by omega
    dsimp only at c0 c1
    by_cases hlt : k < n
    · have hkl : k < xs.length := by rw [Hn.out]; exact hlt
      obtain ⟨⟨p0, p1⟩, hp⟩ : ∃ p, xs[k]? = some p := ⟨_, List.getElem?_eq_getElem hkl⟩
      obtain ⟨g, off, rfl, hg, hrr⟩ := HR.out (by omega)
      have hgw : g < wr.heap.size := by omega
      have v1 := Lib.hid (sapValid_any p0 p1)
      obtain ⟨q0, q1⟩ := (hrr.below hbr hg) k _ hp
      clear hrr
      cases hpS : spB p0 p1 with
      | false =>
        obtain ⟨e1', e2'⟩ := HBAD.out k _ hp hpS
        subst e1'; subst e2'
        rw [hpS] at v1
        clear hp hpS hDa ha
        dsimp only at q0 q1
        go_wp2_with fail
        refine (v1.out _).mono ?_
        rintro e w1 ⟨rfl, hb1⟩
        have hB1 := below1 hb1
        replace d0 := cell_next hB1 hz0 d0
        replace d1 := cell_next hB1 hz0 d1
        replace e0 := frozen_next hB1 hz0 e0
        replace e1 := frozen_next hB1 hz0 e1
        replace hbr := hbr.trans (hB1.mono (by omega))
        clear hb1 hB1 q0 q1 v1 c0 c1 f0 f1
        go_wp2_with fail
        refine bodyPost_ret (v := .tuple #[.agg #[.int .i64 0, .int .i64 0], .int .i64 2]) (by simp [results, Try.results17, go_sem, *]) rfl ⟨rfl, ?_⟩
        exact (hbr.setCell (by simp) _).setCell (by simp) _
      | true =>
        rw [hpS] at v1
        have hok2 : Hid (∀ p ∈ xs.take (k + 1), spB p.1 p.2 = true) := Lib.hid (fun p hpm => by
          rw [List.take_add_one, hp] at hpm
          rcases List.mem_append.1 hpm with h | h
          · exact hok.out p h
          · simp at h; subst h; exact hpS)
        obtain ⟨r1, r2, r3, r4⟩ := spB_of hpS
        obtain ⟨r5, r6, r7, r8⟩ := hDa.out
        have haq : Hid ((a0 + p0, a1 + p1) = suU (xs.take (k + 1))) := Lib.hid (by rw [List.take_add_one, hp, show (some (p0, p1)).toList = [(p0, p1)] from rfl, suU_snoc, ← ha.out]; rfl)
        have hDq : Hid (0 ≤ a0 + p0 ∧ a0 + p0 ≤ 10000000000000 * ((k + 1 : Nat) : Int) ∧ 0 ≤ a1 + p1 ∧ a1 + p1 ≤ 10000000000000 * ((k + 1 : Nat) : Int)) := Lib.hid ⟨by omega, by omega, by omega, by omega⟩
        have s0 : IntKind.i64.wrap (a0 + p0) = a0 + p0 := IntWalk.i64_in _ (by omega)
        have s1 : IntKind.i64.wrap (a1 + p1) = a1 + p1 := IntWalk.i64_in _ (by omega)
        clear hp r1 r2 r3 r4 r5 r6 r7 r8 hDa ha hpS
        dsimp only at q0 q1
        go_wp2_with fail
        refine (v1.out _).mono ?_
        rintro e w1 ⟨rfl, hb1⟩
        have x0 := cell_next hb1 (b := wr.heap.size) (o := 0) (by simp) (v := some (.int .i64 p0)) (by simp [go_sem])
        have x1 := cell_next hb1 (b := wr.heap.size) (o := 1) (by simp) (v := some (.int .i64 p1)) (by simp [go_sem])
        have hB1 := below1 hb1
        have hz1 : wr.heap.size < w1.heap.size := by have := hb1.size; simp at this; omega
        replace c0 := cell_next hB1 hz c0
        replace c1 := cell_next hB1 hz c1
        replace f0 := frozen_next hB1 hz f0
        replace f1 := frozen_next hB1 hz f1
        replace d0 := cell_next hB1 hz0 d0
        replace d1 := cell_next hB1 hz0 d1
        replace e0 := frozen_next hB1 hz0 e0
        replace e1 := frozen_next hB1 hz0 e1
        have hne : w.heap.size + 1 ≠ wr.heap.size := by omega
        replace hbr := hbr.trans (hB1.mono (by omega))
        clear hb1 hB1 q0 q1 v1
        go_wp2_with fail
        go_roundw
        case rel =>
          refine ⟨k + 1, (a0 + p0, a1 + p1), by omega, hok2, by go_num, haq, hDq, ?_, ?_, ?_, ?_, ?_, ?_, ?_, ?_, by simp; omega, ((hbr.setCell (p := ⟨w.heap.size + 1, 0, none⟩) (by simp) _).setCell (p := ⟨w.heap.size + 1, 1, none⟩) (by simp) _)⟩
          all_goals simp [go_sem, *]
        case measure => simp [RowKit.intOf]; omega
    · obtain rfl : k = n := by omega
      have hfin : (a0, a1) = suU xs := by rw [ha.out, List.take_of_length_le (by rw [Hn.out]; omega)]
      have Hfin := Lib.hid hfin
      have v1 := Lib.hid (sapValid_any a0 a1)
      have hall : ∀ p ∈ xs, spB p.1 p.2 = true := by have h := hok.out; rwa [List.take_of_length_le (by rw [Hn.out]; omega)] at h
      obtain ⟨z1, z2⟩ := HEND.out hall
      rw [← hfin] at z1 z2
      dsimp only at z1 z2
      cases hpS : spB a0 a1 with
      | false =>
        rw [hpS] at v1
        obtain ⟨e1', e2'⟩ := z2 hpS
        subst e1'; subst e2'
        clear hfin ha hDa hall z1 z2 hpS Hfin
        go_wp2_with fail
        refine (v1.out _).mono ?_
        rintro e w1 ⟨rfl, hb1⟩
        replace d0 := cell_next hb1 hz0 d0
        replace d1 := cell_next hb1 hz0 d1
        replace e0 := frozen_next hb1 hz0 e0
        replace e1 := frozen_next hb1 hz0 e1
        replace hbr := hbr.trans (hb1.mono (by omega))
        clear hb1 v1 c0 c1 f0 f1
        go_wp2_with fail
        refine bodyPost_ret (v := .tuple #[.agg #[.int .i64 0, .int .i64 0], .int .i64 10]) (by simp [results, Try.results17, go_sem, *]) rfl ⟨rfl, ?_⟩
        exact (hbr.setCell (by simp) _).setCell (by simp) _
      | true =>
        rw [hpS] at v1
        obtain ⟨e1', e2'⟩ := z1 hpS
        subst e1'; subst e2'
        clear hall z1 z2 hpS
        clear hfin ha hDa
        go_wp2_with fail
        refine (v1.out _).mono ?_
        rintro e w1 ⟨rfl, hb1⟩
        replace c0 := cell_next hb1 hz c0
        replace c1 := cell_next hb1 hz c1
        replace d0 := cell_next hb1 hz0 d0
        replace d1 := cell_next hb1 hz0 d1
        replace e0 := frozen_next hb1 hz0 e0
        replace e1 := frozen_next hb1 hz0 e1
        replace hbr := hbr.trans (hb1.mono (by omega))
        clear hb1 v1 f0 f1
        go_wp2_with fail
        refine bodyPost_ret (v := .tuple #[.agg #[.int .i64 a0, .int .i64 a1], .int .i64 0]) (by simp [results, Try.results17, go_sem, *]) rfl ⟨rfl, ?_⟩
        exact (hbr.setCell (by simp) _).setCell (by simp) _

set_option maxHeartbeats 400000 in
theorem mix_long (A : Option Addr) (n c : Nat) (w : World) (h : 100 < n) : Calls Try.prog 17 #[.slice A n c] w fun e w' => e = .returned (.tuple #[.agg #[.int .i64 0, .int .i64 0], .int .i64 5]) ∧ Below w.heap.size w w' := by
  have t0 : (100 : Int) < (n : Int) := by omega
  go_enter Try.func17, Try.ntmps17
  go_wp2_with fail
  refine bodyPost_ret (v := .tuple #[.agg #[.int .i64 0, .int .i64 0], .int .i64 5]) (by simp [results, Try.results17, go_sem, *]) rfl ⟨rfl, ?_⟩
  have hB : Below w.heap.size w (w.alloc (Obj.cells #[.int .i64 0, .int .i64 0] 28)) := (Below.refl _ _).alloc (Nat.le_refl _) _
  first | exact hB | exact (hB.setCell (p := ⟨w.heap.size, 0, none⟩) (Nat.le_refl _) _).setCell (p := ⟨w.heap.size, 1, none⟩) (Nat.le_refl _) _
theorem mix_all (v : Value) (xs : List (Int × Int)) (w : World) (hv : RowAt w.heap.size w v xs) :
    Calls Try.prog 17 #[v] w fun e w' => e = .returned (.tuple #[.agg #[.int .i64 (mxV xs).1, .int .i64 (mxV xs).2], .int .i64 (mxE xs)]) ∧ Below w.heap.size w w' := by
  obtain ⟨A, c, rfl, _, h⟩ := hv
  by_cases hl : 100 < xs.length
  · rw [(mx_long hl).1, (mx_long hl).2]; exact mix_long A _ c w hl
  · exact mix_any A xs c w h (by omega)

set_option maxHeartbeats 400000 in
theorem rMix_long (A : Option Addr) (n c : Nat) (w : World) (h : 100 < n) : Calls Try.prog 18 #[.slice A n c] w fun e w' => e = .returned (.tuple #[.agg #[.int .i64 0, .int .i64 0], .int .i64 5]) ∧ Below w.heap.size w w' := by
  have t0 : (100 : Int) < (n : Int) := by omega
  go_enter Try.func18, Try.ntmps18
  go_wp2_with fail
  refine bodyPost_ret (v := .tuple #[.agg #[.int .i64 0, .int .i64 0], .int .i64 5]) (by simp [results, Try.results18, go_sem, *]) rfl ⟨rfl, ?_⟩
  have hB : Below w.heap.size w (w.alloc (Obj.cells #[.int .i64 0, .int .i64 0] 28)) := (Below.refl _ _).alloc (Nat.le_refl _) _
  first | exact hB | exact (hB.setCell (p := ⟨w.heap.size, 0, none⟩) (Nat.le_refl _) _).setCell (p := ⟨w.heap.size, 1, none⟩) (Nat.le_refl _) _

set_option maxRecDepth 20000 in
set_option maxHeartbeats 1000000 in
theorem rMix_any (A : Option Addr) (xs : List (Int × Int)) (c : Nat) (w : World) (hr : 0 < xs.length → ∃ g off, A = some ⟨g, off, none⟩ ∧ g < w.heap.size ∧ RRd w g off xs) (hl : xs.length ≤ 100) :
    Calls Try.prog 18 #[.slice A xs.length c] w fun e w' =>
      e = .returned (.tuple #[.agg #[.int .i64 (mxV xs).1, .int .i64 (mxV xs).2], .int .i64 (mxE xs)]) ∧ Below w.heap.size w w' := by
  obtain ⟨n, hn⟩ : ∃ n, xs.length = n := ⟨_, rfl⟩
  rw [hn] at hl hr ⊢
  have Hn := Lib.hid hn
  have HBAD := Lib.hid (fun k p h hp => mx_bad (xs := xs) k p h hp (by rw [Hn.out]; exact hl))
  have HEND := Lib.hid (fun h => mx_end (xs := xs) h (by rw [Hn.out]; exact hl))
  have HR := Lib.hid hr
  clear hr hn
  generalize mxV xs = mv at *
  generalize mxE xs = me at *
  go_enter Try.func18, Try.ntmps18
  have t0 : ¬ (100 : Int) < (n : Int) := by omega
  go_wp2_with fail
  go_loopw [5] (fun i wr => ∃ (k : Nat) (a : Int × Int), k ≤ n ∧ Hid (∀ p ∈ xs.take k, spB p.1 p.2 = true) ∧ i = .int .i64 k ∧ Hid (a = suU (xs.take k)) ∧ Hid (0 ≤ a.1 ∧ a.1 ≤ 10000000000000 * k ∧ 0 ≤ a.2 ∧ a.2 ≤ 10000000000000 * k) ∧ wr.cell? ⟨w.heap.size + 1, 0, none⟩ = some (.int .i64 a.1) ∧ wr.cell? ⟨w.heap.size + 1, 1, none⟩ = some (.int .i64 a.2) ∧ wr.frozen? ⟨w.heap.size + 1, 0, none⟩ = false ∧ wr.frozen? ⟨w.heap.size + 1, 1, none⟩ = false ∧
      wr.cell? ⟨w.heap.size, 0, none⟩ = some (.int .i64 0) ∧ wr.cell? ⟨w.heap.size, 1, none⟩ = some (.int .i64 0) ∧ wr.frozen? ⟨w.heap.size, 0, none⟩ = false ∧ wr.frozen? ⟨w.heap.size, 1, none⟩ = false ∧ w.heap.size + 1 < wr.heap.size ∧ Below w.heap.size w wr) (fun i _ => n - (RowKit.intOf i).toNat)
  case atStart =>
    refine ⟨0, (0, 0), Nat.zero_le _, Lib.hid (by simp), rfl, Lib.hid rfl, Lib.hid (by simp), ?_, ?_, ?_, ?_, ?_, ?_, ?_, ?_, ?_, ?_⟩
    all_goals first | (simp; done) | exact below_al2 w _ _
  case round =>
    obtain ⟨k, ⟨a0, a1⟩, hk, hok, rfl, ha, hDa, c0, c1, f0, f1, d0, d1, e0, e1, hz1, hbr⟩ := hrel
    have hz0 : w.heap.size < wr.heap.size := by omega
    dsimp only at c0 c1
    by_cases hlt : k < n
    · have hkl : k < xs.length := by rw [Hn.out]; exact hlt
      obtain ⟨⟨p0, p1⟩, hp⟩ : ∃ p, xs[k]? = some p := ⟨_, List.getElem?_eq_getElem hkl⟩
      have v1 := Lib.hid (rSap_any p0 p1)
      obtain ⟨g, off, rfl, hg, hrr⟩ := HR.out (by omega)
      obtain ⟨q0, q1⟩ := (hrr.below hbr hg) k _ hp
      dsimp only at q0 q1
      replace q1 : wr.cell? ⟨g, off + k * 2 + 1, none⟩ = some (.int .i64 p1) := q1
      have ng : g < wr.heap.size := by omega
      clear hrr
      cases hpS : spB p0 p1 with
      | false =>
        obtain ⟨e1', e2'⟩ := HBAD.out k _ hp hpS
        subst e1'; subst e2'
        rw [hpS] at v1
        clear hp hpS hDa ha
        go_wp2_with fail
        refine (v1.out _).mono ?_
        rintro e w1 ⟨rfl, hb1⟩
        replace d0 := cell_next hb1 hz0 d0
        replace d1 := cell_next hb1 hz0 d1
        replace e0 := frozen_next hb1 hz0 e0
        replace e1 := frozen_next hb1 hz0 e1
        replace hbr := hbr.trans (hb1.mono (by omega))
        clear hb1 q0 q1 v1 c0 c1 f0 f1
        go_wp2_with fail
        refine bodyPost_ret (v := .tuple #[.agg #[.int .i64 0, .int .i64 0], .int .i64 2]) (by simp [results, Try.results18, go_sem, *]) rfl ⟨rfl, ?_⟩
        exact (hbr.setCell (by simp) _).setCell (by simp) _
      | true =>
        rw [hpS] at v1
        have hok2 : Hid (∀ p ∈ xs.take (k + 1), spB p.1 p.2 = true) := Lib.hid (fun p hpm => by
          rw [List.take_add_one, hp] at hpm
          rcases List.mem_append.1 hpm with h | h
          · exact hok.out p h
          · simp at h; subst h; exact hpS)
        obtain ⟨r1, r2, r3, r4⟩ := spB_of hpS
        obtain ⟨r5, r6, r7, r8⟩ := hDa.out
        dsimp only at r5 r6 r7 r8
        have haq : Hid ((a0 + p0, a1 + p1) = suU (xs.take (k + 1))) := Lib.hid (by rw [List.take_add_one, hp, show (some (p0, p1)).toList = [(p0, p1)] from rfl, suU_snoc, ← ha.out]; rfl)
        have hDq : Hid (0 ≤ a0 + p0 ∧ a0 + p0 ≤ 10000000000000 * ((k + 1 : Nat) : Int) ∧ 0 ≤ a1 + p1 ∧ a1 + p1 ≤ 10000000000000 * ((k + 1 : Nat) : Int)) := Lib.hid ⟨by omega, by omega, by omega, by omega⟩
        have s0 : IntKind.i64.wrap (a0 + p0) = a0 + p0 := IntWalk.i64_in _ (by omega)
        have s1 : IntKind.i64.wrap (a1 + p1) = a1 + p1 := IntWalk.i64_in _ (by omega)
        clear hp r1 r2 r3 r4 r5 r6 r7 r8 hDa ha hpS
        go_wp2_with fail
        refine (v1.out _).mono ?_
        rintro e w1 ⟨rfl, hb1⟩
        replace c0 := cell_next hb1 hz1 c0
        replace c1 := cell_next hb1 hz1 c1
        replace f0 := frozen_next hb1 hz1 f0
        replace f1 := frozen_next hb1 hz1 f1
        replace d0 := cell_next hb1 hz0 d0
        replace d1 := cell_next hb1 hz0 d1
        replace e0 := frozen_next hb1 hz0 e0
        replace e1 := frozen_next hb1 hz0 e1
        replace q0 := cell_next hb1 ng q0
        replace q1 := cell_next hb1 ng q1
        replace hbr := hbr.trans (hb1.mono hbr.size)
        replace hz0 := Nat.lt_of_lt_of_le hz0 hb1.size
        replace hz1 := Nat.lt_of_lt_of_le hz1 hb1.size
        replace ng := Nat.lt_of_lt_of_le ng hb1.size
        clear hb1 v1
        have hBW := hbr.size
        go_wp2_with fail
        refine wp_region_held_drew (S := fun w' => w'.cell? ⟨g, off + k * 2, none⟩ = some (.int .i64 p0) ∧ w'.cell? ⟨g, off + k * 2 + 1, none⟩ = some (.int .i64 p1) ∧ True) (by kernel_rfl) ?_ (fun hHeld => ?_)
        focus (exact ⟨q0, q1, trivial⟩)
        have hL : Below w.heap.size w1 w1.drew := Below.drew (Below.refl _ _)
        replace q0 : w1.drew.cell? ⟨g, off + k * 2, none⟩ = some (.int .i64 p0) := q0
        replace q1 : w1.drew.cell? ⟨g, off + k * 2 + 1, none⟩ = some (.int .i64 p1) := q1
        replace c0 : w1.drew.cell? ⟨w.heap.size + 1, 0, none⟩ = some (.int .i64 a0) := c0
        replace c1 : w1.drew.cell? ⟨w.heap.size + 1, 1, none⟩ = some (.int .i64 a1) := c1
        replace f0 : w1.drew.frozen? ⟨w.heap.size + 1, 0, none⟩ = false := f0
        replace f1 : w1.drew.frozen? ⟨w.heap.size + 1, 1, none⟩ = false := f1
        replace d0 : w1.drew.cell? ⟨w.heap.size, 0, none⟩ = some (.int .i64 0) := d0
        replace d1 : w1.drew.cell? ⟨w.heap.size, 1, none⟩ = some (.int .i64 0) := d1
        replace e0 : w1.drew.frozen? ⟨w.heap.size, 0, none⟩ = false := e0
        replace e1 : w1.drew.frozen? ⟨w.heap.size, 1, none⟩ = false := e1
        replace ng : g < w1.drew.heap.size := ng
        replace hz1 : w.heap.size + 1 < w1.drew.heap.size := hz1
        replace hz0 : w.heap.size < w1.drew.heap.size := hz0
        generalize hWd : w1.drew = wd at hHeld hL q0 q1 c0 c1 f0 f1 d0 d1 e0 e1 ng hz1 hz0  ⊢
        clear hWd
        refine take_slot (i := 0) (d := 24) (v := ?_) rfl rfl (by kernel_rfl) (by kernel_rfl) (by kernel_rfl) (fun _ _ _ h => h) (Or.inl ⟨by rfl, ?_⟩) (by assumption) ?_
        rotate_left 1
        focus (intro wS hSw; (try dsimp only at hSw); go_simp; try with_reducible rfl)
        try simp only [List.setIfInBounds_toArray, List.set_cons_zero, List.set_cons_succ]
        refine take_slot (i := 2) (d := 26) (v := ?_) rfl rfl (by kernel_rfl) (by kernel_rfl) (by kernel_rfl) (fun _ _ _ h => h) (Or.inl ⟨by rfl, ?_⟩) (by assumption) ?_
        rotate_left 1
        focus (intro wS hSw; (try dsimp only at hSw); go_simp; try with_reducible rfl)
        try simp only [List.setIfInBounds_toArray, List.set_cons_zero, List.set_cons_succ]
        refine take_slot (i := 3) (d := 27) (v := ?_) rfl rfl (by kernel_rfl) (by kernel_rfl) (by kernel_rfl) (fun _ _ _ h => h) (Or.inl ⟨by rfl, ?_⟩) (by assumption) ?_
        rotate_left 1
        focus (intro wS hSw; (try dsimp only at hSw); go_simp; try with_reducible rfl)
        try simp only [List.setIfInBounds_toArray, List.set_cons_zero, List.set_cons_succ]
        refine take_slot (i := 4) (d := 28) (v := ?_) rfl rfl (by kernel_rfl) (by kernel_rfl) (by kernel_rfl) (fun _ _ _ h => h) (Or.inl ⟨by rfl, ?_⟩) (by assumption) ?_
        rotate_left 1
        focus (intro wS hSw; (try dsimp only at hSw); go_simp; try with_reducible rfl)
        try simp only [List.setIfInBounds_toArray, List.set_cons_zero, List.set_cons_succ]
        refine take_slot (i := 5) (d := 29) (v := ?_) rfl rfl (by kernel_rfl) (by kernel_rfl) (by kernel_rfl) (fun _ _ _ h => h) (Or.inl ⟨by rfl, ?_⟩) (by assumption) ?_
        rotate_left 1
        focus (intro wS hSw; (try dsimp only at hSw); go_simp; try with_reducible rfl)
        try simp only [List.setIfInBounds_toArray, List.set_cons_zero, List.set_cons_succ]
        refine take_slot (i := 6) (d := 30) (v := ?_) rfl rfl (by kernel_rfl) (by kernel_rfl) (by kernel_rfl) (fun _ _ _ h => h) (Or.inl ⟨by rfl, ?_⟩) (by assumption) ?_
        rotate_left 1
        focus (intro wS hSw; (try dsimp only at hSw); go_simp; try with_reducible rfl)
        try simp only [List.setIfInBounds_toArray, List.set_cons_zero, List.set_cons_succ]
        refine take_slot (i := 8) (d := 32) (v := ?_) rfl rfl (by kernel_rfl) (by kernel_rfl) (by kernel_rfl) (fun _ _ _ h => h) (Or.inl ⟨by rfl, ?_⟩) (by assumption) ?_
        rotate_left 1
        focus (intro wS hSw; (try dsimp only at hSw); go_simp; try with_reducible rfl)
        try simp only [List.setIfInBounds_toArray, List.set_cons_zero, List.set_cons_succ]
        refine take_slot (i := 10) (d := 34) (v := ?_) rfl rfl (by kernel_rfl) (by kernel_rfl) (by kernel_rfl) (fun _ _ _ h => h) (Or.inl ⟨by rfl, ?_⟩) (by assumption) ?_
        rotate_left 1
        focus (intro wS hSw; (try dsimp only at hSw); go_simp; try with_reducible rfl)
        try simp only [List.setIfInBounds_toArray, List.set_cons_zero, List.set_cons_succ]
        refine take_slot (i := 11) (d := 35) (v := ?_) rfl rfl (by kernel_rfl) (by kernel_rfl) (by kernel_rfl) (fun _ _ _ h => h) (Or.inl ⟨by rfl, ?_⟩) (by assumption) ?_
        rotate_left 1
        focus (intro wS hSw; (try dsimp only at hSw); go_simp; try with_reducible rfl)
        try simp only [List.setIfInBounds_toArray, List.set_cons_zero, List.set_cons_succ]
        refine take_slot (i := 12) (d := 36) (v := ?_) rfl rfl (by kernel_rfl) (by kernel_rfl) (by kernel_rfl) (fun _ _ _ h => h) (Or.inl ⟨by rfl, ?_⟩) (by assumption) ?_
        rotate_left 1
        focus (intro wS hSw; (try dsimp only at hSw); go_simp; try with_reducible rfl)
        try simp only [List.setIfInBounds_toArray, List.set_cons_zero, List.set_cons_succ]
        refine take_slot (i := 13) (d := 37) (v := ?_) rfl rfl (by kernel_rfl) (by kernel_rfl) (by kernel_rfl) (fun _ _ _ h => h) (Or.inl ⟨by rfl, ?_⟩) (by assumption) ?_
        rotate_left 1
        focus (intro wS hSw; (try dsimp only at hSw); go_simp; try with_reducible rfl)
        try simp only [List.setIfInBounds_toArray, List.set_cons_zero, List.set_cons_succ]
        refine take_slot (i := 14) (d := 38) (v := ?_) rfl rfl (by kernel_rfl) (by kernel_rfl) (by kernel_rfl) (fun _ _ _ h => h) (Or.inl ⟨by rfl, ?_⟩) (by assumption) ?_
        rotate_left 1
        focus (intro wS hSw; (try dsimp only at hSw); go_simp; try with_reducible rfl)
        try simp only [List.setIfInBounds_toArray, List.set_cons_zero, List.set_cons_succ]
        refine wpAnyH_ready (rs := [1, 9]) (by kernel_rfl) (by simp) ?_
        refine AllReadyH.cons rfl (fun K hK => ?_) (AllReadyH.cons rfl (fun K hK => ?_) AllReadyH.nil)
        · go_simp
          refine hK.out _ _ ⟨q0, q1, trivial⟩ (fun hHeld => ?_)
          clear hK K
          try simp only [Act.put, List.setIfInBounds_toArray, List.set_cons_zero, List.set_cons_succ]
          refine take_slot (i := 7) (d := 31) (v := ?_) rfl rfl (by kernel_rfl) (by kernel_rfl) (by kernel_rfl) (fun _ _ _ h => h) (Or.inl ⟨by rfl, ?_⟩) (by assumption) ?_
          rotate_left 1
          focus (intro wS hSw; (try dsimp only at hSw); go_simp; try with_reducible rfl)
          try simp only [List.setIfInBounds_toArray, List.set_cons_zero, List.set_cons_succ]
          refine wpAnyH_ready (rs := [9]) (by kernel_rfl) (by simp) ?_
          refine AllReadyH.cons rfl (fun K hK => ?_) AllReadyH.nil
          go_simp
          refine hK.out _ _ ⟨q0, q1, trivial⟩ (fun hHeld => ?_)
          clear hK K
          try simp only [Act.put, List.setIfInBounds_toArray, List.set_cons_zero, List.set_cons_succ]
          refine take_slot (i := 15) (d := 39) (v := ?_) rfl rfl (by kernel_rfl) (by kernel_rfl) (by kernel_rfl) (fun _ _ _ h => h) (Or.inl ⟨by rfl, ?_⟩) (by assumption) ?_
          rotate_left 1
          focus (intro wS hSw; (try dsimp only at hSw); go_simp; try with_reducible rfl)
          try simp only [List.setIfInBounds_toArray, List.set_cons_zero, List.set_cons_succ]
          refine take_slot (i := 16) (d := 40) (v := ?_) rfl rfl (by kernel_rfl) (by kernel_rfl) (by kernel_rfl) (fun _ _ _ h => h) (Or.inl ⟨by rfl, ?_⟩) (by assumption) ?_
          rotate_left 1
          focus (intro wS hSw; (try dsimp only at hSw); go_simp; try with_reducible rfl)
          try simp only [List.setIfInBounds_toArray, List.set_cons_zero, List.set_cons_succ]
          refine wpAnyH_ready (rs := [17]) (by kernel_rfl) (by simp) ?_
          refine AllReadyH.cons rfl (fun K hK => ?_) AllReadyH.nil
          go_simp
          replace q0 : ((wd.setCell ⟨w.heap.size + 1, 0, none⟩ (.int .i64 (a0 + p0))).setCell ⟨w.heap.size + 1, 1, none⟩ (.int .i64 (a1 + p1))).cell? ⟨g, off + k * 2, none⟩ = some (.int .i64 p0) := ((World.cell?_setCell_other _ _ _ _ (by intro e; injection e with e1 e2; omega)).trans ((World.cell?_setCell_other _ _ _ _ (by intro e; injection e with e1 e2; omega)).trans q0))
          replace q1 : ((wd.setCell ⟨w.heap.size + 1, 0, none⟩ (.int .i64 (a0 + p0))).setCell ⟨w.heap.size + 1, 1, none⟩ (.int .i64 (a1 + p1))).cell? ⟨g, off + k * 2 + 1, none⟩ = some (.int .i64 p1) := ((World.cell?_setCell_other _ _ _ _ (by intro e; injection e with e1 e2; omega)).trans ((World.cell?_setCell_other _ _ _ _ (by intro e; injection e with e1 e2; omega)).trans q1))
          replace c0 : ((wd.setCell ⟨w.heap.size + 1, 0, none⟩ (.int .i64 (a0 + p0))).setCell ⟨w.heap.size + 1, 1, none⟩ (.int .i64 (a1 + p1))).cell? ⟨w.heap.size + 1, 0, none⟩ = some (.int .i64 (a0 + p0)) := by simp [go_sem, c0]
          replace c1 : ((wd.setCell ⟨w.heap.size + 1, 0, none⟩ (.int .i64 (a0 + p0))).setCell ⟨w.heap.size + 1, 1, none⟩ (.int .i64 (a1 + p1))).cell? ⟨w.heap.size + 1, 1, none⟩ = some (.int .i64 (a1 + p1)) := by simp [go_sem, c1]
          replace f0 : ((wd.setCell ⟨w.heap.size + 1, 0, none⟩ (.int .i64 (a0 + p0))).setCell ⟨w.heap.size + 1, 1, none⟩ (.int .i64 (a1 + p1))).frozen? ⟨w.heap.size + 1, 0, none⟩ = false := by simp [go_sem, f0]
          replace f1 : ((wd.setCell ⟨w.heap.size + 1, 0, none⟩ (.int .i64 (a0 + p0))).setCell ⟨w.heap.size + 1, 1, none⟩ (.int .i64 (a1 + p1))).frozen? ⟨w.heap.size + 1, 1, none⟩ = false := by simp [go_sem, f1]
          replace d0 : ((wd.setCell ⟨w.heap.size + 1, 0, none⟩ (.int .i64 (a0 + p0))).setCell ⟨w.heap.size + 1, 1, none⟩ (.int .i64 (a1 + p1))).cell? ⟨w.heap.size, 0, none⟩ = some (.int .i64 0) := ((World.cell?_setCell_other _ _ _ _ (by intro e; injection e with e1 e2; omega)).trans ((World.cell?_setCell_other _ _ _ _ (by intro e; injection e with e1 e2; omega)).trans d0))
          replace d1 : ((wd.setCell ⟨w.heap.size + 1, 0, none⟩ (.int .i64 (a0 + p0))).setCell ⟨w.heap.size + 1, 1, none⟩ (.int .i64 (a1 + p1))).cell? ⟨w.heap.size, 1, none⟩ = some (.int .i64 0) := ((World.cell?_setCell_other _ _ _ _ (by intro e; injection e with e1 e2; omega)).trans ((World.cell?_setCell_other _ _ _ _ (by intro e; injection e with e1 e2; omega)).trans d1))
          replace e0 : ((wd.setCell ⟨w.heap.size + 1, 0, none⟩ (.int .i64 (a0 + p0))).setCell ⟨w.heap.size + 1, 1, none⟩ (.int .i64 (a1 + p1))).frozen? ⟨w.heap.size, 0, none⟩ = false := by simp [go_sem, e0]
          replace e1 : ((wd.setCell ⟨w.heap.size + 1, 0, none⟩ (.int .i64 (a0 + p0))).setCell ⟨w.heap.size + 1, 1, none⟩ (.int .i64 (a1 + p1))).frozen? ⟨w.heap.size, 1, none⟩ = false := by simp [go_sem, e1]
          replace ng : g < ((wd.setCell ⟨w.heap.size + 1, 0, none⟩ (.int .i64 (a0 + p0))).setCell ⟨w.heap.size + 1, 1, none⟩ (.int .i64 (a1 + p1))).heap.size := by simpa [World.setCell] using ng
          replace hz1 : w.heap.size + 1 < ((wd.setCell ⟨w.heap.size + 1, 0, none⟩ (.int .i64 (a0 + p0))).setCell ⟨w.heap.size + 1, 1, none⟩ (.int .i64 (a1 + p1))).heap.size := by simpa [World.setCell] using hz1
          replace hz0 : w.heap.size < ((wd.setCell ⟨w.heap.size + 1, 0, none⟩ (.int .i64 (a0 + p0))).setCell ⟨w.heap.size + 1, 1, none⟩ (.int .i64 (a1 + p1))).heap.size := by simpa [World.setCell] using hz0
          replace hL := hL.setCell (p := ⟨w.heap.size + 1, 0, none⟩) (by show w.heap.size ≤ w.heap.size + 1; omega) (.int .i64 (a0 + p0))
          replace hL := hL.setCell (p := ⟨w.heap.size + 1, 1, none⟩) (by show w.heap.size ≤ w.heap.size + 1; omega) (.int .i64 (a1 + p1))
          refine hK.out _ _ ⟨q0, q1, trivial⟩ (fun hHeld => ?_)
          clear hK K
          try simp only [Act.put, List.setIfInBounds_toArray, List.set_cons_zero, List.set_cons_succ]
          refine wpAnyH_done (by kernel_rfl) ?_ _
          have hbr2 := hbr.trans hL
          clear hHeld hL q0 q1 ng hbr hBW
          go_wp2_with fail
          go_roundw
          case rel => exact ⟨k + 1, (a0 + p0, a1 + p1), by omega, hok2, by go_num, haq, hDq, c0, c1, f0, f1, d0, d1, e0, e1, hz1, hbr2⟩
          case measure => simp [RowKit.intOf]; omega
        · go_simp
          refine hK.out _ _ ⟨q0, q1, trivial⟩ (fun hHeld => ?_)
          clear hK K
          try simp only [Act.put, List.setIfInBounds_toArray, List.set_cons_zero, List.set_cons_succ]
          refine take_slot (i := 15) (d := 39) (v := ?_) rfl rfl (by kernel_rfl) (by kernel_rfl) (by kernel_rfl) (fun _ _ _ h => h) (Or.inl ⟨by rfl, ?_⟩) (by assumption) ?_
          rotate_left 1
          focus (intro wS hSw; (try dsimp only at hSw); go_simp; try with_reducible rfl)
          try simp only [List.setIfInBounds_toArray, List.set_cons_zero, List.set_cons_succ]
          refine wpAnyH_ready (rs := [1]) (by kernel_rfl) (by simp) ?_
          refine AllReadyH.cons rfl (fun K hK => ?_) AllReadyH.nil
          go_simp
          refine hK.out _ _ ⟨q0, q1, trivial⟩ (fun hHeld => ?_)
          clear hK K
          try simp only [Act.put, List.setIfInBounds_toArray, List.set_cons_zero, List.set_cons_succ]
          refine take_slot (i := 7) (d := 31) (v := ?_) rfl rfl (by kernel_rfl) (by kernel_rfl) (by kernel_rfl) (fun _ _ _ h => h) (Or.inl ⟨by rfl, ?_⟩) (by assumption) ?_
          rotate_left 1
          focus (intro wS hSw; (try dsimp only at hSw); go_simp; try with_reducible rfl)
          try simp only [List.setIfInBounds_toArray, List.set_cons_zero, List.set_cons_succ]
          refine take_slot (i := 16) (d := 40) (v := ?_) rfl rfl (by kernel_rfl) (by kernel_rfl) (by kernel_rfl) (fun _ _ _ h => h) (Or.inl ⟨by rfl, ?_⟩) (by assumption) ?_
          rotate_left 1
          focus (intro wS hSw; (try dsimp only at hSw); go_simp; try with_reducible rfl)
          try simp only [List.setIfInBounds_toArray, List.set_cons_zero, List.set_cons_succ]
          refine wpAnyH_ready (rs := [17]) (by kernel_rfl) (by simp) ?_
          refine AllReadyH.cons rfl (fun K hK => ?_) AllReadyH.nil
          go_simp
          replace q0 : ((wd.setCell ⟨w.heap.size + 1, 0, none⟩ (.int .i64 (a0 + p0))).setCell ⟨w.heap.size + 1, 1, none⟩ (.int .i64 (a1 + p1))).cell? ⟨g, off + k * 2, none⟩ = some (.int .i64 p0) := ((World.cell?_setCell_other _ _ _ _ (by intro e; injection e with e1 e2; omega)).trans ((World.cell?_setCell_other _ _ _ _ (by intro e; injection e with e1 e2; omega)).trans q0))
          replace q1 : ((wd.setCell ⟨w.heap.size + 1, 0, none⟩ (.int .i64 (a0 + p0))).setCell ⟨w.heap.size + 1, 1, none⟩ (.int .i64 (a1 + p1))).cell? ⟨g, off + k * 2 + 1, none⟩ = some (.int .i64 p1) := ((World.cell?_setCell_other _ _ _ _ (by intro e; injection e with e1 e2; omega)).trans ((World.cell?_setCell_other _ _ _ _ (by intro e; injection e with e1 e2; omega)).trans q1))
          replace c0 : ((wd.setCell ⟨w.heap.size + 1, 0, none⟩ (.int .i64 (a0 + p0))).setCell ⟨w.heap.size + 1, 1, none⟩ (.int .i64 (a1 + p1))).cell? ⟨w.heap.size + 1, 0, none⟩ = some (.int .i64 (a0 + p0)) := by simp [go_sem, c0]
          replace c1 : ((wd.setCell ⟨w.heap.size + 1, 0, none⟩ (.int .i64 (a0 + p0))).setCell ⟨w.heap.size + 1, 1, none⟩ (.int .i64 (a1 + p1))).cell? ⟨w.heap.size + 1, 1, none⟩ = some (.int .i64 (a1 + p1)) := by simp [go_sem, c1]
          replace f0 : ((wd.setCell ⟨w.heap.size + 1, 0, none⟩ (.int .i64 (a0 + p0))).setCell ⟨w.heap.size + 1, 1, none⟩ (.int .i64 (a1 + p1))).frozen? ⟨w.heap.size + 1, 0, none⟩ = false := by simp [go_sem, f0]
          replace f1 : ((wd.setCell ⟨w.heap.size + 1, 0, none⟩ (.int .i64 (a0 + p0))).setCell ⟨w.heap.size + 1, 1, none⟩ (.int .i64 (a1 + p1))).frozen? ⟨w.heap.size + 1, 1, none⟩ = false := by simp [go_sem, f1]
          replace d0 : ((wd.setCell ⟨w.heap.size + 1, 0, none⟩ (.int .i64 (a0 + p0))).setCell ⟨w.heap.size + 1, 1, none⟩ (.int .i64 (a1 + p1))).cell? ⟨w.heap.size, 0, none⟩ = some (.int .i64 0) := ((World.cell?_setCell_other _ _ _ _ (by intro e; injection e with e1 e2; omega)).trans ((World.cell?_setCell_other _ _ _ _ (by intro e; injection e with e1 e2; omega)).trans d0))
          replace d1 : ((wd.setCell ⟨w.heap.size + 1, 0, none⟩ (.int .i64 (a0 + p0))).setCell ⟨w.heap.size + 1, 1, none⟩ (.int .i64 (a1 + p1))).cell? ⟨w.heap.size, 1, none⟩ = some (.int .i64 0) := ((World.cell?_setCell_other _ _ _ _ (by intro e; injection e with e1 e2; omega)).trans ((World.cell?_setCell_other _ _ _ _ (by intro e; injection e with e1 e2; omega)).trans d1))
          replace e0 : ((wd.setCell ⟨w.heap.size + 1, 0, none⟩ (.int .i64 (a0 + p0))).setCell ⟨w.heap.size + 1, 1, none⟩ (.int .i64 (a1 + p1))).frozen? ⟨w.heap.size, 0, none⟩ = false := by simp [go_sem, e0]
          replace e1 : ((wd.setCell ⟨w.heap.size + 1, 0, none⟩ (.int .i64 (a0 + p0))).setCell ⟨w.heap.size + 1, 1, none⟩ (.int .i64 (a1 + p1))).frozen? ⟨w.heap.size, 1, none⟩ = false := by simp [go_sem, e1]
          replace ng : g < ((wd.setCell ⟨w.heap.size + 1, 0, none⟩ (.int .i64 (a0 + p0))).setCell ⟨w.heap.size + 1, 1, none⟩ (.int .i64 (a1 + p1))).heap.size := by simpa [World.setCell] using ng
          replace hz1 : w.heap.size + 1 < ((wd.setCell ⟨w.heap.size + 1, 0, none⟩ (.int .i64 (a0 + p0))).setCell ⟨w.heap.size + 1, 1, none⟩ (.int .i64 (a1 + p1))).heap.size := by simpa [World.setCell] using hz1
          replace hz0 : w.heap.size < ((wd.setCell ⟨w.heap.size + 1, 0, none⟩ (.int .i64 (a0 + p0))).setCell ⟨w.heap.size + 1, 1, none⟩ (.int .i64 (a1 + p1))).heap.size := by simpa [World.setCell] using hz0
          replace hL := hL.setCell (p := ⟨w.heap.size + 1, 0, none⟩) (by show w.heap.size ≤ w.heap.size + 1; omega) (.int .i64 (a0 + p0))
          replace hL := hL.setCell (p := ⟨w.heap.size + 1, 1, none⟩) (by show w.heap.size ≤ w.heap.size + 1; omega) (.int .i64 (a1 + p1))
          refine hK.out _ _ ⟨q0, q1, trivial⟩ (fun hHeld => ?_)
          clear hK K
          try simp only [Act.put, List.setIfInBounds_toArray, List.set_cons_zero, List.set_cons_succ]
          refine wpAnyH_done (by kernel_rfl) ?_ _
          have hbr2 := hbr.trans hL
          clear hHeld hL q0 q1 ng hbr hBW
          go_wp2_with fail
          go_roundw
          case rel => exact ⟨k + 1, (a0 + p0, a1 + p1), by omega, hok2, by go_num, haq, hDq, c0, c1, f0, f1, d0, d1, e0, e1, hz1, hbr2⟩
          case measure => simp [RowKit.intOf]; omega
    · obtain rfl : k = n := by omega
      have hfin : (a0, a1) = suU xs := by rw [ha.out, List.take_of_length_le (by rw [Hn.out]; omega)]
      have hall : ∀ p ∈ xs, spB p.1 p.2 = true := by have h := hok.out; rwa [List.take_of_length_le (by rw [Hn.out]; omega)] at h
      have v1 := Lib.hid (rSap_any a0 a1)
      obtain ⟨z1, z2⟩ := HEND.out hall
      rw [← hfin] at z1 z2
      dsimp only at z1 z2
      clear hfin hall ha hDa
      cases hpS : spB a0 a1 with
      | false =>
        rw [hpS] at v1
        obtain ⟨e1', e2'⟩ := z2 hpS
        subst e1'; subst e2'
        clear z1 z2 hpS
        go_wp2_with fail
        refine (v1.out _).mono ?_
        rintro e w1 ⟨rfl, hb1⟩
        replace d0 := cell_next hb1 hz0 d0
        replace d1 := cell_next hb1 hz0 d1
        replace e0 := frozen_next hb1 hz0 e0
        replace e1 := frozen_next hb1 hz0 e1
        replace hbr := hbr.trans (hb1.mono (by omega))
        clear hb1 v1 c0 c1 f0 f1
        go_wp2_with fail
        refine bodyPost_ret (v := .tuple #[.agg #[.int .i64 0, .int .i64 0], .int .i64 10]) (by simp [results, Try.results18, go_sem, *]) rfl ⟨rfl, ?_⟩
        exact (hbr.setCell (by simp) _).setCell (by simp) _
      | true =>
        rw [hpS] at v1
        obtain ⟨e1', e2'⟩ := z1 hpS
        subst e1'; subst e2'
        clear z1 z2 hpS
        go_wp2_with fail
        refine (v1.out _).mono ?_
        rintro e w1 ⟨rfl, hb1⟩
        replace c0 := cell_next hb1 hz1 c0
        replace c1 := cell_next hb1 hz1 c1
        replace d0 := cell_next hb1 hz0 d0
        replace d1 := cell_next hb1 hz0 d1
        replace e0 := frozen_next hb1 hz0 e0
        replace e1 := frozen_next hb1 hz0 e1
        replace hbr := hbr.trans (hb1.mono (by omega))
        clear hb1 v1 f0 f1
        go_wp2_with fail
        refine bodyPost_ret (v := .tuple #[.agg #[.int .i64 a0, .int .i64 a1], .int .i64 0]) (by simp [results, Try.results18, go_sem, *]) rfl ⟨rfl, ?_⟩
        exact (hbr.setCell (by simp) _).setCell (by simp) _

theorem rMix_all (v : Value) (xs : List (Int × Int)) (w : World) (hv : RowAt w.heap.size w v xs) :
    Calls Try.prog 18 #[v] w fun e w' => e = .returned (.tuple #[.agg #[.int .i64 (mxV xs).1, .int .i64 (mxV xs).2], .int .i64 (mxE xs)]) ∧ Below w.heap.size w w' := by
  obtain ⟨A, c, rfl, _, h⟩ := hv
  by_cases hl : 100 < xs.length
  · rw [(mx_long hl).1, (mx_long hl).2]; exact rMix_long A _ c w hl
  · exact rMix_any A xs c w h (by omega)

open Go.RowKit Go.Lib Go.Shelf
set_option linter.unusedVariables false
set_option linter.unusedSimpArgs false

/-- a range is added to a set behind all of its ranges -/
def extP (xs : List (Int × Int)) (a : Int × Int) : List (Int × Int) :=
  match xs.getLast? with
  | none => [a]
  | some p => if a.1 ≤ p.2 + 1 then xs.dropLast ++ [(p.1, a.2)] else xs ++ [a]

/-- what extend leaves -/
def ExtPost (w : World) (base : Nat) (v : Value) (ys : List (Int × Int)) (e : Ending) (w' : World) : Prop :=
  ∃ v', e = .returned v' ∧ w'.ownsRow base 107 2 v' ys.length (flat ys) ∧ w.grownBy w' v.ownBlock ∧ (v'.ownBlock = v.ownBlock ∨ ∃ g, v'.ownBlock = some g ∧ w.heap.size ≤ g)

theorem extend_any (xs : List (Int × Int)) (lo hi : Int) (v : Value) (base : Nat) (hp : ∀ p ∈ xs, -1000000000000000000 ≤ p.2 ∧ p.2 ≤ 1000000000000000000) (hn : xs.length ≤ 1000000) (w : World) (hbase : base ≤ w.heap.size)
    (hown : w.ownsRow base 107 2 v xs.length (flat xs)) :
    Calls Try.prog 100 #[v, .agg #[.int .i64 lo, .int .i64 hi]] w (ExtPost w base v (extP xs (lo, hi))) := by
  rcases List.eq_nil_or_concat xs with rfl | ⟨ys, p, rfl⟩
  · refine (extend_nil lo hi v base w hbase hown).mono ?_
    rintro e w' ⟨v', rfl, h1, h2, h3⟩
    exact ⟨v', rfl, h1, h2, h3⟩
  · rw [List.concat_eq_append] at *
    have hl : (ys ++ [p]).length = ys.length + 1 := by simp
    have hpp := hp p (by simp)
    rw [hl] at hown hn
    obtain ⟨g, cap, rfl, _, _⟩ := hown.form (by omega)
    by_cases hle : lo ≤ p.2 + 1
    · refine (extend_last ys p lo hi g cap base hle hpp.1 hpp.2 (by omega) w hbase hown).mono ?_
      rintro e w' ⟨rfl, h1, h2⟩
      have he : extP (ys ++ [p]) (lo, hi) = ys ++ [(p.1, hi)] := by simp [extP, hle]
      rw [he]
      exact ⟨_, rfl, by simpa using h1, h2, .inl rfl⟩
    · refine (extend_more ys p lo hi g cap base (by omega) hpp.1 hpp.2 (by omega) w hbase hown).mono ?_
      rintro e w' ⟨v', rfl, h1, h2, h3⟩
      have he : extP (ys ++ [p]) (lo, hi) = ys ++ [p] ++ [(lo, hi)] := by simp [extP, hle]
      rw [he]
      refine ⟨v', rfl, ?_, h2, h3⟩
      rw [flat_append _ [(lo, hi)], flat_one]
      simpa using h1

theorem extP_length (xs : List (Int × Int)) (a : Int × Int) : (extP xs a).length ≤ xs.length + 1 := by
  unfold extP
  split
  · simp
  · split
    · simp
      try omega
    · simp
theorem extP_bd {xs : List (Int × Int)} {a : Int × Int} (D : Int → Prop) (h : ∀ p ∈ xs, D p.2) (ha : D a.2) : ∀ p ∈ extP xs a, D p.2 := by
  unfold extP
  split
  · simpa using ha
  · split
    · intro p hp
      rcases List.mem_append.1 hp with hp | hp
      · exact h p (List.dropLast_subset _ hp)
      · simp at hp; subst hp; exact ha
    · intro p hp
      rcases List.mem_append.1 hp with hp | hp
      · exact h p hp
      · simp at hp; subst hp; exact ha
end Go.Proofs.Ytclnfncdphfgjaa
