/- Contracts: what a round takes off; two saps together. -/
import Derived.Test.YtloddjjmoaljhaaU1
import Derived.Test.YtloddjjmoaljhaaU2
import Derived.Test.YtloddjjmoaljhaaD65
namespace Go.Proofs.Ytloddjjmoaljhaa
open Go.RowKit Go.Lib Go.Shelf
set_option linter.unusedVariables false
set_option linter.unusedSimpArgs false
attribute [local go_sem ↓] Go.wp_at_zero Go.wp_at_succ

theorem wrapI (n : Nat) (h : n ≤ 9000000000000000000) : IntKind.i64.wrap (n : Int) = (n : Int) := IntWalk.i64_in _ (by omega)

set_option maxRecDepth 20000 in
set_option maxHeartbeats 1000000 in
theorem through_any (a s t p : Nat) (ha : a ≤ 1000000000000) (hs : s ≤ 1000000000000) (ht : t ≤ 10000) (hp : p ≤ 10000) (w : World) :
    Calls Try.prog 60 #[.agg #[.int .i64 a, .int .i64 s], .int .i64 t, .int .i64 p] w fun e w' => e = .returned (.agg #[.int .i64 ((offW a t : Nat) : Int), .int .i64 ((offS a s t p : Nat) : Int)]) ∧ Below w.heap.size w w' := by
  rcases Nat.eq_zero_or_pos a with rfl | ha0
  · have e1 : offW 0 t = 0 := by simp [offW]
    have e2 : offS 0 s t p = 0 := by simp [offS]
    rw [e1, e2]
    go_enter Try.func60, Try.ntmps60
    go_wp2_with fail
    refine bodyPost_ret (v := .agg #[.int .i64 ((0 : Nat) : Int), .int .i64 ((0 : Nat) : Int)]) (by simp [results, Try.results60, go_sem]) rfl ⟨rfl, ?_⟩
    exact (((Below.refl _ _).alloc (Nat.le_refl _) _).alloc (by simp) _)
  · obtain ⟨b1, b2, b3, b4⟩ := off_fits a s t p ha0 ha hs ht hp
    have o1 := offW_le a t ht
    have o2 := offS_le a s t p ht hp
    have hoff : offS a s t p = s * p * offW a t / (a * 10000) := rfl
    have f2 : Int.tdiv ((a * t : Nat) : Int) 10000 = ((offW a t : Nat) : Int) := by
      rw [Int.tdiv_eq_ediv_of_nonneg (by omega)]; unfold offW; omega
    have f1 : IntKind.i64.wrap ((a : Int) * (t : Int)) = ((a * t : Nat) : Int) := by rw [← Int.natCast_mul]; exact wrapI _ (by omega)
    have f3 : IntKind.i64.wrap ((s : Int) * (p : Int)) = ((s * p : Nat) : Int) := by rw [← Int.natCast_mul]; exact wrapI _ (by omega)
    have f6 : IntKind.i64.wrap ((a : Int) * 10000) = ((a * 10000 : Nat) : Int) := by rw [show (a : Int) * 10000 = ((a * 10000 : Nat) : Int) from by omega]; exact wrapI _ (by omega)
    have f4 := wrapU_lt (s * p) (by omega)
    have f7 := wrapU_lt (a * 10000) (by omega)
    have y0 : 0 < a * 10000 := by omega
    generalize offW a t = o at *
    generalize offS a s t p = q at *
    generalize a * t = m at *
    generalize s * p = n at *
    generalize a * 10000 = y at *
    have hq : (n * o / 18446744073709551616 * 18446744073709551616 + n * o % 18446744073709551616) / y = q := by
      rw [hoff, show n * o / 18446744073709551616 * 18446744073709551616 + n * o % 18446744073709551616 = n * o from by omega]
    have hL : n * o % 18446744073709551616 < 18446744073709551616 := Nat.mod_lt _ (by omega)
    have c1 := Lib.hid (mul64_any n o (by omega) (by omega))
    generalize n * o / 18446744073709551616 = H at *
    generalize n * o % 18446744073709551616 = L at *
    have c2 := Lib.hid (div64_any H L y b4 (by omega) hL)
    rw [hq] at c2
    generalize (H * 18446744073709551616 + L) % y = r at *
    have f5 := wrapU_lt o (by omega)
    have f8 := wrapI q (by omega)
    have f9 := wrapI o (by omega)
    have h0 : ((a : Int) == 0) = false := by simp; omega
    clear hq hoff b1 b2 b3 b4 o1 o2 y0 hL ha hs ht hp ha0
    go_enter Try.func60, Try.ntmps60
    go_wp2_with fail
    refine (c1.out _).mono ?_
    rintro e w1 ⟨rfl, rfl⟩
    go_wp2_with fail
    refine (c2.out _).mono ?_
    rintro e w1 ⟨rfl, nn, rfl⟩
    go_wp2_with fail
    refine bodyPost_ret (v := .agg #[.int .i64 (o : Int), .int .i64 (q : Int)]) (by simp [results, Try.results60, go_sem]) rfl ⟨rfl, ?_⟩
    exact ((below_drewN (below_al2 w _ _) nn).setCell (by simp) _).setCell (by simp) _

def addP (a b : Int × Int) : Int × Int := (a.1 + b.1, a.2 + b.2)
def suU (xs : List (Int × Int)) : Int × Int := xs.foldl addP (0, 0)
theorem suU_snoc (xs : List (Int × Int)) (p : Int × Int) : suU (xs ++ [p]) = addP (suU xs) p := by simp [suU, List.foldl_append]
/-- grams, some ten times as many as there may be -/
def smB (p : Int × Int) : Prop := 0 ≤ p.1 ∧ p.1 ≤ 1000000000000000 ∧ 0 ≤ p.2 ∧ p.2 ≤ 1000000000000000

set_option maxRecDepth 20000 in
set_option maxHeartbeats 1000000 in
theorem sums_any (g off : Nat) (xs : List (Int × Int)) (c : Nat) (w : World) (hx : ∀ p ∈ xs, smB p) (hg : g < w.heap.size) (hr : RRd w g off xs) (hl : xs.length ≤ 1000) :
    Calls Try.prog 61 #[.slice (some ⟨g, off, none⟩) xs.length c] w fun e w' =>
      e = .returned (.agg #[.int .i64 (suU xs).1, .int .i64 (suU xs).2]) ∧ Below w.heap.size w w' := by
  obtain ⟨n, hn⟩ : ∃ n, xs.length = n := ⟨_, rfl⟩
  rw [hn] at hl ⊢
  have Hn := Lib.hid hn
  clear hn
  have HX := Lib.hid hx
  have HR := Lib.hid hr
  clear hx hr
  go_enter Try.func61, Try.ntmps61
  go_wp2_with fail
  go_loopw [8] (fun i wr => ∃ (k : Nat) (a : Int × Int), k ≤ n ∧ i = .int .i64 k ∧ Hid (a = suU (xs.take k)) ∧ Hid (0 ≤ a.1 ∧ a.1 ≤ 1000000000000000 * k ∧ 0 ≤ a.2 ∧ a.2 ≤ 1000000000000000 * k) ∧ wr.cell? ⟨w.heap.size + 1, 0, none⟩ = some (.int .i64 a.1) ∧ wr.cell? ⟨w.heap.size + 1, 1, none⟩ = some (.int .i64 a.2) ∧ wr.frozen? ⟨w.heap.size + 1, 0, none⟩ = false ∧ wr.frozen? ⟨w.heap.size + 1, 1, none⟩ = false ∧
      wr.cell? ⟨w.heap.size, 0, none⟩ = some (.int .i64 0) ∧ wr.cell? ⟨w.heap.size, 1, none⟩ = some (.int .i64 0) ∧ wr.frozen? ⟨w.heap.size, 0, none⟩ = false ∧ wr.frozen? ⟨w.heap.size, 1, none⟩ = false ∧ w.heap.size + 1 < wr.heap.size ∧ Below w.heap.size w wr) (fun i _ => n - (RowKit.intOf i).toNat)
  case atStart =>
    refine ⟨0, (0, 0), Nat.zero_le _, rfl, Lib.hid rfl, Lib.hid (by simp), ?_, ?_, ?_, ?_, ?_, ?_, ?_, ?_, ?_, ?_⟩
    all_goals first | (simp; done) | exact below_al2 w _ _
  case round =>
    obtain ⟨k, ⟨a0, a1⟩, hk, rfl, ha, hDa, c0, c1, f0, f1, d0, d1, e0, e1, hz, hbr⟩ := hrel
    have hz0 : w.heap.size < wr.heap.size := by omega
    have hgw : g < wr.heap.size := by omega
    dsimp only at c0 c1
    by_cases hlt : k < n
    · have hkl : k < xs.length := by rw [Hn.out]; exact hlt
      obtain ⟨⟨p0, p1⟩, hp⟩ : ∃ p, xs[k]? = some p := ⟨_, List.getElem?_eq_getElem hkl⟩
      have hpD : smB (p0, p1) := HX.out _ (List.mem_of_getElem? hp)
      obtain ⟨q0, q1⟩ := (HR.out.below hbr hg) k _ hp
      obtain ⟨r1, r2, r3, r4⟩ := hpD
      obtain ⟨r5, r6, r7, r8⟩ := hDa.out
      have haq : Hid ((a0 + p0, a1 + p1) = suU (xs.take (k + 1))) := Lib.hid (by rw [List.take_add_one, hp, show (some (p0, p1)).toList = [(p0, p1)] from rfl, suU_snoc, ← ha.out]; rfl)
      have hDq : Hid (0 ≤ a0 + p0 ∧ a0 + p0 ≤ 1000000000000000 * ((k + 1 : Nat) : Int) ∧ 0 ≤ a1 + p1 ∧ a1 + p1 ≤ 1000000000000000 * ((k + 1 : Nat) : Int)) := Lib.hid ⟨by omega, by omega, by omega, by omega⟩
      have s0 : IntKind.i64.wrap (a0 + p0) = a0 + p0 := IntWalk.i64_in _ (by omega)
      have s1 : IntKind.i64.wrap (a1 + p1) = a1 + p1 := IntWalk.i64_in _ (by omega)
      clear hp r1 r2 r3 r4 r5 r6 r7 r8 hDa ha
      dsimp only at q0 q1
      go_wp2_with fail
      go_roundw
      case rel =>
        refine ⟨k + 1, (a0 + p0, a1 + p1), by omega, by go_num, haq, hDq, ?_, ?_, ?_, ?_, ?_, ?_, ?_, ?_, by simp; omega, ((hbr.setCell (p := ⟨w.heap.size + 1, 0, none⟩) (by simp) _).setCell (p := ⟨w.heap.size + 1, 1, none⟩) (by simp) _).alloc (by simp; omega) _⟩
        all_goals simp [go_sem, *]
      case measure => simp [RowKit.intOf]; omega
    · obtain rfl : k = n := by omega
      have hfin : (a0, a1) = suU xs := by rw [ha.out, List.take_of_length_le (by rw [Hn.out]; omega)]
      have Hfin := Lib.hid hfin
      clear hfin ha hDa
      go_wp2_with fail
      refine bodyPost_ret (v := .agg #[.int .i64 a0, .int .i64 a1]) (by simp [results, Try.results61, go_sem, *]) rfl ⟨by rw [← Hfin.out], ?_⟩
      exact (hbr.setCell (by simp) _).setCell (by simp) _
end Go.Proofs.Ytloddjjmoaljhaa

