/- Contracts: the value of a table at a place. -/
import Derived.Test.YtdlmkjllcejoaaaC24
import Derived.Test.YtdlmkjllcejoaaaC3
import Derived.Test.YtdlmkjllcejoaaaC6
import Derived.Test.YtdlmkjllcejoaaaC12
import Derived.Test.YtdlmkjllcejoaaaP1
import Derived.Test.YtdlmkjllcejoaaaT1
import Derived.BigRegion
import Derived.Deep.DeepCutAuto
namespace Go.Proofs.Ytdlmkjllcejoaaa
open Go.RowKit Go.Lib Go.Shelf
set_option linter.unusedVariables false
set_option linter.unusedSimpArgs false
attribute [local go_sem ↓] Go.wp_at_zero Go.wp_at_succ

/-- the value between two rows, rounded down and up -/
def segV (p q : Int × Int) (x : Int) : Int × Int := (p.2 + (q.2 - p.2) * (x - p.1) / (q.1 - p.1), p.2 + -(-((q.2 - p.2) * (x - p.1)) / (q.1 - p.1)))
def IsVal (xs : List (Int × Int)) (x : Int) (v : Int × Int) : Prop := ∃ k p q, xs[k]? = some p ∧ xs[k + 1]? = some q ∧ p.1 ≤ x ∧ x ≤ q.1 ∧ v = segV p q x
/-- a valid table -/
def TabOk (xs : List (Int × Int)) : Prop := 2 ≤ xs.length ∧ xs.length ≤ 60 ∧ (∀ p ∈ xs, rowB p.1 p.2 = true) ∧ ∀ (i j : Nat) (p q : Int × Int), i < j → xs[i]? = some p → xs[j]? = some q → p.1 < q.1
theorem segV_left {p q : Int × Int} (h : p.1 < q.1) : segV p q p.1 = (p.2, p.2) := by simp [segV]
theorem segV_right {p q : Int × Int} (h : p.1 < q.1) : segV p q q.1 = (q.2, q.2) := by
  have e1 : (q.2 - p.2) * (q.1 - p.1) / (q.1 - p.1) = q.2 - p.2 := Int.mul_ediv_cancel _ (by omega)
  have e2 : -((q.2 - p.2) * (q.1 - p.1)) / (q.1 - p.1) = -(q.2 - p.2) := by rw [← Int.neg_mul]; exact Int.mul_ediv_cancel _ (by omega)
  unfold segV
  rw [e1, e2]
  ext <;> simp <;> omega
theorem isVal_one {xs : List (Int × Int)} {x : Int} {u v : Int × Int} (ht : TabOk xs) (hu : IsVal xs x u) (hv : IsVal xs x v) : u = v := by
  have key : ∀ (k l : Nat) (p q p' q' : Int × Int), k < l → xs[k]? = some p → xs[k + 1]? = some q → xs[l]? = some p' → xs[l + 1]? = some q' → p.1 ≤ x → x ≤ q.1 → p'.1 ≤ x → x ≤ q'.1 → segV p q x = segV p' q' x := by
    intro k l p q p' q' hkl h1 h2 h3 h4 h5 h6 h7 h8
    have a1 := ht.2.2.2 k (k + 1) _ _ (by omega) h1 h2
    have a2 := ht.2.2.2 l (l + 1) _ _ (by omega) h3 h4
    by_cases e : l = k + 1
    · subst e
      rw [h2] at h3
      injection h3 with h3
      subst h3
      obtain rfl : x = q.1 := by omega
      rw [segV_right a1, segV_left a2]
    · have a3 := ht.2.2.2 (k + 1) l _ _ (by omega) h2 h3
      omega
  obtain ⟨k, p, q, h1, h2, h3, h4, rfl⟩ := hu
  obtain ⟨l, p', q', g1, g2, g3, g4, rfl⟩ := hv
  rcases Nat.lt_trichotomy k l with h | h | h
  · exact key k l p q p' q' h h1 h2 g1 g2 h3 h4 g3 g4
  · subst h
    rw [h1] at g1; rw [h2] at g2
    injection g1 with g1; injection g2 with g2
    subst g1 g2; rfl
  · exact (key l k p' q' p q h g1 g2 h1 h2 g3 g4 h3 h4).symm
open Classical in
noncomputable def valV (xs : List (Int × Int)) (x : Int) : Int × Int := if h : ∃ v, IsVal xs x v then h.choose else (0, 0)
theorem valV_is {xs : List (Int × Int)} {x : Int} {v : Int × Int} (ht : TabOk xs) (h : IsVal xs x v) : valV xs x = v := by
  have he : ∃ v, IsVal xs x v := ⟨v, h⟩
  unfold valV
  rw [dif_pos he]
  exact isVal_one ht he.choose_spec h
/-- the stretch that valueAt comes to -/
theorem seg_first {xs : List (Int × Int)} {x : Int} (ht : TabOk xs) (hc : covB xs x = true) : ∃ k p q, xs[k]? = some p ∧ xs[k + 1]? = some q ∧ p.1 ≤ x ∧ x ≤ q.1 ∧ ∀ j r, j < k → xs[j + 1]? = some r → r.1 < x := by
  obtain ⟨m, hm⟩ : ∃ m, xs.length = m + 1 := ⟨xs.length - 1, by have := ht.1; omega⟩
  have hm1 : 1 ≤ m := by have := ht.1; omega
  obtain ⟨p, hp⟩ : ∃ p, xs[0]? = some p := ⟨_, List.getElem?_eq_getElem (by omega)⟩
  obtain ⟨q, hq⟩ : ∃ q, xs[m]? = some q := ⟨_, List.getElem?_eq_getElem (by omega)⟩
  rw [covB_of x hm hp hq] at hc
  simp at hc
  have key : ∀ d k p, k + d = m → 1 ≤ d → xs[k]? = some p → p.1 ≤ x → (∀ j r, j < k → xs[j + 1]? = some r → r.1 < x) → ∃ k p q, xs[k]? = some p ∧ xs[k + 1]? = some q ∧ p.1 ≤ x ∧ x ≤ q.1 ∧ ∀ j r, j < k → xs[j + 1]? = some r → r.1 < x := by
    intro d
    induction d with
    | zero => intro k p _ h; omega
    | succ d ih =>
      intro k p hk _ hp hpx hj
      obtain ⟨r, hr⟩ : ∃ r, xs[k + 1]? = some r := ⟨_, List.getElem?_eq_getElem (by omega)⟩
      by_cases hx : x ≤ r.1
      · exact ⟨k, p, r, hp, hr, hpx, hx, hj⟩
      · refine ih (k + 1) r (by omega) ?_ hr (by omega) (fun j s hj' hs => ?_)
        · rcases Nat.eq_zero_or_pos d with h | h
          · subst h
            rw [show k + 1 = m from by omega, hq] at hr
            injection hr with hr; subst hr; omega
          · exact h
        · by_cases e : j = k
          · subst e; rw [hr] at hs; injection hs with hs; subst hs; omega
          · exact hj j s (by omega) hs
  exact key m 0 p (by omega) hm1 hp hc.1 (fun j r h => by omega)

set_option maxRecDepth 20000 in
set_option maxHeartbeats 4000000 in
theorem valueAt_any (xs : List (Int × Int)) (x : Int) (g off c : Nat) (ht : TabOk xs) (hcv : covB xs x = true) (w : World) (hg : g < w.heap.size) (hr : RRd w g off xs) :
    Calls Try.prog 109 #[.slice (some ⟨g, off, none⟩) xs.length c, .int .i64 x] w fun e w' => e = .returned (.agg #[.int .i64 (valV xs x).1, .int .i64 (valV xs x).2]) ∧ Below w.heap.size w w' := by
  obtain ⟨k, p, q, hp, hq, hpx, hxq, hbef⟩ := seg_first ht hcv
  have hv := valV_is ht ⟨k, p, q, hp, hq, hpx, hxq, rfl⟩
  rw [hv]
  have hpq := ht.2.2.2 k (k + 1) _ _ (by omega) hp hq
  obtain ⟨r1, r2, r3, r4⟩ := rowB_of (ht.2.2.1 p (List.mem_of_getElem? hp))
  obtain ⟨s1, s2, s3, s4⟩ := rowB_of (ht.2.2.1 q (List.mem_of_getElem? hq))
  have hq0 : (q.2 - p.2).natAbs * (x - p.1).natAbs / (q.1 - p.1).natAbs ≤ 1000000000000000000 := by
    have h1 : (q.2 - p.2).natAbs * (x - p.1).natAbs / (q.1 - p.1).natAbs ≤ (q.2 - p.2).natAbs := Nat.div_le_of_le_mul (by
      rw [Nat.mul_comm (q.1 - p.1).natAbs]
      exact Nat.mul_le_mul_left _ (by omega))
    omega
  have hq1 := q_pos (by omega) hq0
  have hmul : (q.2 - p.2).natAbs * (x - p.1).natAbs < 18446744073709551616 := by
    have : (q.2 - p.2).natAbs * (x - p.1).natAbs ≤ 2000000000 * 2000000000 := Nat.mul_le_mul (by omega) (by omega)
    omega
  have c1 := Lib.hid (around_of (q.2 - p.2) (x - p.1) (q.1 - p.1) (divide_small _ _ _ ⟨by omega, by omega⟩ ⟨by omega, by omega⟩ ⟨by omega, by omega⟩ (by omega) hmul))
  rw [hq1.1, hq1.2] at c1
  have hlo : -2000000000 ≤ (q.2 - p.2) * (x - p.1) / (q.1 - p.1) ∧ (q.2 - p.2) * (x - p.1) / (q.1 - p.1) ≤ 2000000000 ∧ -2000000000 ≤ -(-((q.2 - p.2) * (x - p.1)) / (q.1 - p.1)) ∧ -(-((q.2 - p.2) * (x - p.1)) / (q.1 - p.1)) ≤ 2000000000 := by
    have hA : ((q.2 - p.2) * (x - p.1)).natAbs ≤ 2000000000 * (q.1 - p.1).natAbs := by rw [Int.natAbs_mul]; exact Nat.mul_le_mul (by omega) (by omega)
    generalize (q.2 - p.2) * (x - p.1) = A at *
    have hd : 0 < q.1 - p.1 := by omega
    generalize q.1 - p.1 = d at *
    have h1 := Int.le_ediv_of_mul_le (a := -2000000000) (b := A) hd (by omega)
    have h2 := Int.ediv_le_of_le_mul (a := A) (b := 2000000000) hd (by omega)
    have h3 := Int.le_ediv_of_mul_le (a := -2000000000) (b := -A) hd (by omega)
    have h4 := Int.ediv_le_of_le_mul (a := -A) (b := 2000000000) hd (by omega)
    omega
  unfold segV
  generalize (q.2 - p.2) * (x - p.1) / (q.1 - p.1) = lo at *
  generalize -(-((q.2 - p.2) * (x - p.1)) / (q.1 - p.1)) = hi at *
  obtain ⟨l1, l2, l3, l4⟩ := hlo
  have hkn : k + 1 < xs.length := (List.getElem?_eq_some_iff.1 hq).1
  have hn60 := ht.2.1
  obtain ⟨p0, p1⟩ := hr k p hp
  obtain ⟨q0, q1⟩ := hr (k + 1) q hq
  have HR := Lib.hid hr
  have HB := Lib.hid hbef
  obtain ⟨n, hn⟩ : ∃ n, xs.length = n := ⟨_, rfl⟩
  rw [hn] at hkn hn60 ⊢
  have Hn := Lib.hid hn
  have w1 : IntKind.i64.wrap (q.2 - p.2) = q.2 - p.2 := IntWalk.i64_in _ (by omega)
  have w2 : IntKind.i64.wrap (x - p.1) = x - p.1 := IntWalk.i64_in _ (by omega)
  have w3 : IntKind.i64.wrap (q.1 - p.1) = q.1 - p.1 := IntWalk.i64_in _ (by omega)
  have w4 : IntKind.i64.wrap (p.2 + lo) = p.2 + lo := IntWalk.i64_in _ (by omega)
  have w5 : IntKind.i64.wrap (p.2 + hi) = p.2 + hi := IntWalk.i64_in _ (by omega)
  have HC : Hid (∀ W : World, Below w.heap.size w W → W.cell? ⟨g, off + k * 2, none⟩ = some (.int .i64 p.1) ∧ W.cell? ⟨g, off + k * 2 + 1, none⟩ = some (.int .i64 p.2) ∧ W.cell? ⟨g, off + (k + 1) * 2, none⟩ = some (.int .i64 q.1) ∧ W.cell? ⟨g, off + (k + 1) * 2 + 1, none⟩ = some (.int .i64 q.2)) :=
    Lib.hid (fun W h => ⟨(h.cell hg).trans p0, (h.cell hg).trans p1, (h.cell hg).trans q0, (h.cell hg).trans q1⟩)
  clear hn hr hbef hq0 hq1 hmul hv hcv ht hp hq p0 p1 q0 q1
  go_enter Try.func109, Try.ntmps109
  go_wp2_with fail
  have hK0 : Kp w.heap.size w (w.alloc (.cells #[.int .i64 0, .int .i64 0] 24)) := ⟨(Below.refl _ _).alloc (Nat.le_refl _) _, by simp, ⟨.int .i64 0, by simp [go_sem]⟩, ⟨.int .i64 0, by simp [go_sem]⟩, by simp [go_sem], by simp [go_sem]⟩
  generalize w.alloc (.cells #[.int .i64 0, .int .i64 0] 24) = w2 at *
  have HK := Lib.hid hK0
  clear hK0
  go_loop [5] (fun i => ∃ j : Nat, j ≤ k ∧ i = .int .i64 j) (fun i => k - (RowKit.intOf i).toNat)
  case atStart => exact ⟨0, Nat.zero_le _, rfl⟩
  case round =>
    obtain ⟨j, hj, rfl⟩ := hrel
    have hj0 : (0 : Int) ≤ j := by omega
    by_cases hlt : j < k
    · obtain ⟨r, hr⟩ : ∃ r, xs[j + 1]? = some r := ⟨_, List.getElem?_eq_getElem (by rw [Hn.out]; omega)⟩
      have hrx := HB.out j r hlt hr
      have e0 : w2.cell? ⟨g, off + (j + 1) * 2, none⟩ = some (.int .i64 r.1) := (HK.out.1.cell hg).trans (HR.out (j + 1) r hr).1
      go_wp2_with fail
      go_round
      case rel => exact ⟨j + 1, by omega, by go_num⟩
      case measure => simp [RowKit.intOf]; omega
    · obtain rfl : j = k := by omega
      obtain ⟨e0, e1, e2, e3⟩ := HC.out w2 HK.out.1
      have hsz := HK.out.1.size
      have hg2 : g < w2.heap.size := Nat.lt_of_lt_of_le hg hsz
      have z0 : ∀ o, (w2.alloc o).cell? ⟨g, off + j * 2, none⟩ = _ := fun o => (((Below.refl w2.heap.size w2).alloc (Nat.le_refl _) o).cell (p := ⟨g, off + j * 2, none⟩) hg2).trans e0
      have y0 : ∀ o o', ((w2.alloc o).alloc o').cell? ⟨g, off + j * 2, none⟩ = _ := fun o o' => ((((Below.refl w2.heap.size w2).alloc (Nat.le_refl _) o).alloc (by simp) o').cell (p := ⟨g, off + j * 2, none⟩) hg2).trans e0
      have z1 : ∀ o, (w2.alloc o).cell? ⟨g, off + j * 2 + 1, none⟩ = _ := fun o => (((Below.refl w2.heap.size w2).alloc (Nat.le_refl _) o).cell (p := ⟨g, off + j * 2 + 1, none⟩) hg2).trans e1
      have y1 : ∀ o o', ((w2.alloc o).alloc o').cell? ⟨g, off + j * 2 + 1, none⟩ = _ := fun o o' => ((((Below.refl w2.heap.size w2).alloc (Nat.le_refl _) o).alloc (by simp) o').cell (p := ⟨g, off + j * 2 + 1, none⟩) hg2).trans e1
      have z2 : ∀ o, (w2.alloc o).cell? ⟨g, off + (j + 1) * 2, none⟩ = _ := fun o => (((Below.refl w2.heap.size w2).alloc (Nat.le_refl _) o).cell (p := ⟨g, off + (j + 1) * 2, none⟩) hg2).trans e2
      have y2 : ∀ o o', ((w2.alloc o).alloc o').cell? ⟨g, off + (j + 1) * 2, none⟩ = _ := fun o o' => ((((Below.refl w2.heap.size w2).alloc (Nat.le_refl _) o).alloc (by simp) o').cell (p := ⟨g, off + (j + 1) * 2, none⟩) hg2).trans e2
      have z3 : ∀ o, (w2.alloc o).cell? ⟨g, off + (j + 1) * 2 + 1, none⟩ = _ := fun o => (((Below.refl w2.heap.size w2).alloc (Nat.le_refl _) o).cell (p := ⟨g, off + (j + 1) * 2 + 1, none⟩) hg2).trans e3
      have y3 : ∀ o o', ((w2.alloc o).alloc o').cell? ⟨g, off + (j + 1) * 2 + 1, none⟩ = _ := fun o o' => ((((Below.refl w2.heap.size w2).alloc (Nat.le_refl _) o).alloc (by simp) o').cell (p := ⟨g, off + (j + 1) * 2 + 1, none⟩) hg2).trans e3
      go_upto_region 4 with fail
      go_cut [6, 7] (fun s6 s7 wx => ∃ gx gy : Nat, s6 = .pointer (some ⟨gx, 0, none⟩) ∧ s7 = .pointer (some ⟨gy, 0, none⟩) ∧ wx.cell? ⟨gx, 0, none⟩ = some (.int .i64 p.1) ∧ wx.cell? ⟨gx, 1, none⟩ = some (.int .i64 p.2) ∧ wx.cell? ⟨gy, 0, none⟩ = some (.int .i64 q.1) ∧ wx.cell? ⟨gy, 1, none⟩ = some (.int .i64 q.2) ∧ Kp w.heap.size w wx)
      case first =>
        go_region
        all_goals
          go_wp2_with fail
          go_meet
          first
            | refine ⟨w2.heap.size, w2.heap.size + 1, rfl, rfl, by simp [go_sem], by simp [go_sem], by simp [go_sem], by simp [go_sem], HK.out.next hsz ?_⟩
            | refine ⟨w2.heap.size + 1, w2.heap.size, rfl, rfl, by simp [go_sem], by simp [go_sem], by simp [go_sem], by simp [go_sem], HK.out.next hsz ?_⟩
          repeat (first | exact Below.refl _ _ | (with_reducible refine Below.setCell ?_ (by simp) _) | (with_reducible refine Below.alloc ?_ (by simp) _) | (with_reducible refine Below.drew ?_))
      case rest =>
        clear z0 z1 z2 z3 y0 y1 y2 y3 e0 e1 e2 e3 HK hsz hg2 HC HB HR
        obtain ⟨gx, gy, rfl, rfl, x0, x1, y0, y1, hk⟩ := hcut
        have nx := World.block_lt_of_cell? _ _ x0
        have ny := World.block_lt_of_cell? _ _ y0
        simp only at nx ny
        go_wp2_with fail
        refine (quotientOf3 (q.2 - p.2) (x - p.1) (q.1 - p.1) _ _ (by simp) (by simp [go_sem]) (by simp [go_sem]) (by simp [go_sem])).mono ?_
        rintro e w3 ⟨rfl, hb⟩
        replace hb := below1 hb
        replace x0 := cell_next hb nx x0
        replace x1 := cell_next hb nx x1
        replace y0 := cell_next hb ny y0
        replace y1 := cell_next hb ny y1
        replace hk := hk.next hk.1.size hb
        replace nx := Nat.lt_of_lt_of_le nx hb.size
        replace ny := Nat.lt_of_lt_of_le ny hb.size
        clear hb
        go_wp2_with fail
        refine (c1.out _).mono ?_
        rintro e w4 ⟨rfl, hb⟩
        replace x0 := cell_next hb nx x0
        replace x1 := cell_next hb nx x1
        replace hk := hk.next hk.1.size hb
        replace nx := Nat.lt_of_lt_of_le nx hb.size
        clear hb y0 y1 ny
        obtain ⟨hB, nz, ⟨u0, r0⟩, ⟨u1, r1⟩, f0, f1⟩ := hk
        have k0 : ∀ o, (w4.alloc o).cell? ⟨gx, 0, none⟩ = _ := fun o => (((Below.refl w4.heap.size w4).alloc (Nat.le_refl _) o).cell (p := ⟨gx, 0, none⟩) nx).trans x0
        have k1 : ∀ o, (w4.alloc o).cell? ⟨gx, 1, none⟩ = _ := fun o => (((Below.refl w4.heap.size w4).alloc (Nat.le_refl _) o).cell (p := ⟨gx, 1, none⟩) nx).trans x1
        obtain ⟨t0, t1⟩ := set2 (.int .i64 (p.2 + lo)) (.int .i64 (p.2 + hi)) r0 r1
        have nzS : w.heap.size < ((w4.setCell ⟨w.heap.size, 0, none⟩ (.int .i64 (p.2 + lo))).setCell ⟨w.heap.size, 1, none⟩ (.int .i64 (p.2 + hi))).heap.size := by simpa [World.setCell] using nz
        have t0' : ∀ o, (((w4.setCell ⟨w.heap.size, 0, none⟩ (.int .i64 (p.2 + lo))).setCell ⟨w.heap.size, 1, none⟩ (.int .i64 (p.2 + hi))).alloc o).cell? ⟨w.heap.size, 0, none⟩ = _ := fun o => (((Below.refl _ _).alloc (Nat.le_refl _) o).cell (p := ⟨w.heap.size, 0, none⟩) nzS).trans t0
        have t1' : ∀ o, (((w4.setCell ⟨w.heap.size, 0, none⟩ (.int .i64 (p.2 + lo))).setCell ⟨w.heap.size, 1, none⟩ (.int .i64 (p.2 + hi))).alloc o).cell? ⟨w.heap.size, 1, none⟩ = _ := fun o => (((Below.refl _ _).alloc (Nat.le_refl _) o).cell (p := ⟨w.heap.size, 1, none⟩) nzS).trans t1
        have hB2 := (hB.setCell (p := ⟨w.heap.size, 0, none⟩) (Nat.le_refl _) (.int .i64 (p.2 + lo))).setCell (p := ⟨w.heap.size, 1, none⟩) (Nat.le_refl _) (.int .i64 (p.2 + hi))
        have hB3 := hB2.alloc hB2.size (.cells #[.int .i64 lo, .int .i64 hi] 24)
        clear t0 t1 nzS hB2
        go_wp2_with fail
        refine bodyPost_ret (v := .agg #[.int .i64 (p.2 + lo), .int .i64 (p.2 + hi)]) (by simp [results, Try.results109, go_sem, t0', t1']) rfl ⟨rfl, hB3⟩
end Go.Proofs.Ytdlmkjllcejoaaa

