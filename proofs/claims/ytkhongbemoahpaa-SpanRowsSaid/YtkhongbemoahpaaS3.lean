/- Contracts: what remains of a product, and the sum of weights. -/
import Derived.Test.YtkhongbemoahpaaS2
namespace Go.Proofs.Ytkhongbemoahpaa
open Go.RowKit Go.Lib Go.Shelf
set_option linter.unusedVariables false
set_option linter.unusedSimpArgs false
attribute [local go_sem ↓] Go.wp_at_zero Go.wp_at_succ

set_option maxHeartbeats 400000 in
theorem rest_of (a b c : Int) (hd : Divides a b c) (w : World) :
    Calls Try.prog 38 #[.agg #[.int .i64 a, .int .i64 b, .int .i64 c]] w fun e w' => e = .returned (.int .i64 (qR a b c)) ∧ Below w.heap.size w w' := by
  have HD := Lib.hid hd
  clear hd
  unfold Divides at HD
  generalize (qR a b c : Int) = r at *
  generalize (qW a b c : Int) = q at *
  go_enter Try.func38, Try.ntmps38
  go_wp2_with fail
  refine (HD.out _).mono ?_
  rintro e w1 ⟨rfl, hb1⟩
  have hB := below1 hb1
  clear hb1
  go_wp2_with fail
  go_ret
  exact ⟨rfl, hB⟩

/-- the slice value v reads as the numbers zs; it lies below block B -/
def NumsAt (B : Nat) (w : World) (v : Value) (zs : List Int) : Prop :=
  ∃ A c, v = .slice A zs.length c ∧ (0 < zs.length → ∃ g off, A = some ⟨g, off, none⟩ ∧ g < B ∧ IntsAt w g off zs)
theorem IntsAt.below {w w' : World} {B g off : Nat} {zs : List Int} (h : IntsAt w g off zs) (hb : Below B w w') (hg : g < B) : IntsAt w' g off zs :=
  fun j z hz => cell_next hb hg (h j z hz)
theorem NumsAt.below {B B' : Nat} {w w' : World} {v : Value} {zs : List Int} (h : NumsAt B w v zs) (hb : Below B' w w') (hB : B ≤ B') : NumsAt B w' v zs := by
  obtain ⟨A, c, rfl, h⟩ := h
  refine ⟨A, c, rfl, fun hn => ?_⟩
  obtain ⟨g, off, rfl, hg, hr⟩ := h hn
  exact ⟨g, off, rfl, hg, hr.below hb (by omega)⟩
theorem NumsAt.mono {B B' : Nat} {w : World} {v : Value} {zs : List Int} (h : NumsAt B w v zs) (hB : B ≤ B') : NumsAt B' w v zs := by
  obtain ⟨A, c, rfl, h⟩ := h
  refine ⟨A, c, rfl, fun hn => ?_⟩
  obtain ⟨g, off, rfl, hg, hr⟩ := h hn
  exact ⟨g, off, rfl, by omega, hr⟩

/-- a weight that is allowed -/
def wtOk (z : Int) : Bool := decide (0 ≤ z) && decide (z ≤ 1000000)
def wtsOk (zs : List Int) : Bool := zs.all wtOk
def wtSum (zs : List Int) : Int := zs.foldl (· + ·) 0
theorem wtSum_snoc (zs : List Int) (z : Int) : wtSum (zs ++ [z]) = wtSum zs + z := by simp [wtSum, List.foldl_append]
theorem wtsOk_snoc (zs : List Int) (z : Int) : wtsOk (zs ++ [z]) = (wtsOk zs && wtOk z) := by simp [wtsOk, List.all_append]
theorem wtSum_bd (zs : List Int) (h : wtsOk zs = true) : 0 ≤ wtSum zs ∧ wtSum zs ≤ zs.length * 1000000 := by
  suffices H : ∀ (ys : List Int) (a : Int), wtsOk ys = true → a ≤ ys.foldl (· + ·) a ∧ ys.foldl (· + ·) a ≤ a + ys.length * 1000000 by
    have := H zs 0 h; unfold wtSum; omega
  intro ys
  induction ys with
  | nil => intro a _; simp
  | cons y ys ih =>
    intro a hy
    simp only [wtsOk, List.all_cons, Bool.and_eq_true, wtOk, decide_eq_true_eq] at hy
    have := ih (a + y) (by simp only [wtsOk]; exact hy.2)
    simp only [List.foldl_cons, List.length_cons]
    omega
theorem take_snoc' {α : Type} (zs : List α) (k : Nat) (z : α) (h : zs[k]? = some z) : zs.take (k + 1) = zs.take k ++ [z] := by rw [List.take_add_one, h]; rfl

def awV (zs : List Int) : Int := if wtsOk zs = true then wtSum zs else 0
def awE (zs : List Int) : Int := if wtsOk zs = true ∧ wtSum zs ≠ 0 then 0 else 2
theorem aw_no {zs : List Int} (k : Nat) (z : Int) (h : zs[k]? = some z) (hz : wtOk z = false) : awV zs = 0 ∧ awE zs = 2 := by
  have : wtsOk zs = false := by
    rw [Bool.eq_false_iff]
    intro ha
    have := List.all_eq_true.1 ha z (List.mem_of_getElem? h)
    rw [hz] at this
    cases this
  simp [awV, awE, this]
theorem aw_zero {zs : List Int} (h : wtsOk zs = true) (hz : wtSum zs = 0) : awV zs = 0 ∧ awE zs = 2 := by simp [awV, awE, h, hz]
theorem aw_yes {zs : List Int} (h : wtsOk zs = true) (hz : wtSum zs ≠ 0) : awV zs = wtSum zs ∧ awE zs = 0 := by simp [awV, awE, h, hz]

set_option maxRecDepth 20000 in
set_option maxHeartbeats 1000000 in
theorem allWeights_any (v : Value) (zs : List Int) (hl : zs.length ≤ 100) (B : Nat) (w : World) (hv : NumsAt B w v zs) :
    Calls Try.prog 37 #[v] w fun e w' => e = .returned (.tuple #[.int .i64 (awV zs), .int .i64 (awE zs)]) ∧ w = w' := by
  obtain ⟨A, c, rfl, hr⟩ := hv
  have HN := Lib.hid (fun (k : Nat) (z : Int) (h : zs[k]? = some z) hz => aw_no k z h hz)
  have HZ := Lib.hid (fun h hz => aw_zero (zs := zs) h hz)
  have HY := Lib.hid (fun h hz => aw_yes (zs := zs) h hz)
  generalize awV zs = rv at *
  generalize awE zs = re at *
  obtain ⟨n, hn⟩ : ∃ n, zs.length = n := ⟨_, rfl⟩
  rw [hn] at hl hr ⊢
  have Hn := Lib.hid hn
  have HR := Lib.hid hr
  clear hr hn
  go_enter Try.func37, Try.ntmps37
  go_wp2_with fail
  go_loop [4, 9] (fun a i => ∃ (k : Nat) (s : Int), k ≤ n ∧ i = .int .i64 k ∧ a = .int .i64 s ∧ Hid (wtSum (zs.take k) = s) ∧ Hid (wtsOk (zs.take k) = true) ∧ 0 ≤ s ∧ s ≤ k * 1000000) (fun _ i => n - (RowKit.intOf i).toNat)
  case atStart => exact ⟨0, 0, Nat.zero_le _, rfl, rfl, Lib.hid rfl, Lib.hid rfl, by omega, by omega⟩
  case round =>
    obtain ⟨k, s, hk, rfl, rfl, hs, ho, hs0, hs1⟩ := hrel
    by_cases hlt : (k : Int) < (n : Int)
    · obtain ⟨z, hz⟩ : ∃ z, zs[k]? = some z := ⟨_, List.getElem?_eq_getElem (by rw [Hn.out]; omega)⟩
      obtain ⟨g, off, rfl, _, hc⟩ := HR.out (by omega)
      have c0 := hc k z hz
      have HNk := Lib.hid (HN.out k z hz)
      have hsum : Hid (wtSum (zs.take (k + 1)) = s + z) := Lib.hid (by rw [take_snoc' zs k z hz, wtSum_snoc, hs.out])
      have hok : Hid (wtsOk (zs.take (k + 1)) = wtOk z) := Lib.hid (by rw [take_snoc' zs k z hz, wtsOk_snoc, ho.out]; simp)
      clear hc hz
      by_cases z0 : z < 0
      · obtain ⟨e1, e2⟩ := HNk.out (by simp [wtOk]; omega)
        have E1 := Lib.hid e1
        have E2 := Lib.hid e2
        clear e1 e2
        go_wp2_with fail
        go_ret2
        exact ⟨ret_ints2 E1.out.symm E2.out.symm, rfl⟩
      · have z0' : decide (z < 0) = false := by simpa using z0
        by_cases z1 : 1000000 < z
        · obtain ⟨e1, e2⟩ := HNk.out (by simp [wtOk]; omega)
          have E1 := Lib.hid e1
          have E2 := Lib.hid e2
          clear e1 e2
          go_wp2_with fail
          go_ret2
          exact ⟨ret_ints2 E1.out.symm E2.out.symm, rfl⟩
        · have z1' : decide (1000000 < z) = false := by simpa using z1
          have hok1 : Hid (wtsOk (zs.take (k + 1)) = true) := Lib.hid (by rw [hok.out]; simp [wtOk]; omega)
          go_wp2_with fail
          go_round
          case rel => exact ⟨k + 1, s + z, by omega, by go_num, rfl, hsum, hok1, by omega, by omega⟩
          case measure => simp [RowKit.intOf]; omega
    · obtain rfl : k = n := by omega
      have hT : zs.take k = zs := List.take_of_length_le (by rw [Hn.out]; exact Nat.le_refl _)
      rw [hT] at hs ho
      clear hT
      by_cases h0 : s = 0
      · subst h0
        obtain ⟨e1, e2⟩ := HZ.out ho.out hs.out
        have E1 := Lib.hid e1
        have E2 := Lib.hid e2
        clear e1 e2
        go_wp2_with fail
        go_ret2
        exact ⟨ret_ints2 E1.out.symm E2.out.symm, rfl⟩
      · obtain ⟨e1, e2⟩ := HY.out ho.out (by rw [hs.out]; exact h0)
        rw [hs.out] at e1
        have E1 := Lib.hid e1
        have E2 := Lib.hid e2
        have hne : (s == 0) = false := by simpa using h0
        clear e1 e2
        go_wp2_with fail
        go_ret2
        exact ⟨ret_ints2 E1.out.symm E2.out.symm, rfl⟩
end Go.Proofs.Ytkhongbemoahpaa

