/- Contracts: S3, S4, joined. -/
import Derived.Test.YtclnfncdphfgjaaJC13
import Derived.Test.YtclnfncdphfgjaaJC5
namespace Go.Proofs.Ytclnfncdphfgjaa
open Go.RowKit Go.Lib Go.Shelf
set_option linter.unusedVariables false
set_option linter.unusedSimpArgs false
attribute [local go_sem ↓] Go.wp_at_zero Go.wp_at_succ

set_option maxHeartbeats 400000 in
theorem rest_of (a b c : Int) (hd : Divides a b c) (w : World) :
    Calls Try.prog 67 #[.agg #[.int .i64 a, .int .i64 b, .int .i64 c]] w fun e w' => e = .returned (.int .i64 (qR a b c)) ∧ Below w.heap.size w w' := by
  have HD := Lib.hid hd
  clear hd
  unfold Divides at HD
  generalize (qR a b c : Int) = r at *
  generalize (qW a b c : Int) = q at *
  go_enter Try.func67, Try.ntmps67
  go_wp2_with fail
  refine (HD.out _).mono ?_
  rintro e w1 ⟨rfl, hb1⟩
  have hB := below1 hb1
  clear hb1
  go_wp2_with fail
  go_ret
  exact ⟨rfl, hB⟩

/-- the slice value v reads as the numbers zs; it lies below block B -/
def NumsAt (B : Nat) (w : World) (v : Value) (zs : List Int) : Prop :=
  ∃ A c, v = .slice A zs.length c ∧ (0 < zs.length → ∃ g off, A = some ⟨g, off, none⟩ ∧ g < B ∧ IntsAt w g off zs)
theorem IntsAt.below {w w' : World} {B g off : Nat} {zs : List Int} (h : IntsAt w g off zs) (hb : Below B w w') (hg : g < B) : IntsAt w' g off zs :=
  fun j z hz => cell_next hb hg (h j z hz)
theorem NumsAt.below {B B' : Nat} {w w' : World} {v : Value} {zs : List Int} (h : NumsAt B w v zs) (hb : Below B' w w') (hB : B ≤ B') : NumsAt B w' v zs := by
  obtain ⟨A, c, rfl, h⟩ := h
  refine ⟨A, c, rfl, fun hn => ?_⟩
  obtain ⟨g, off, rfl, hg, hr⟩ := h hn
  exact ⟨g, off, rfl, hg, hr.below hb (by omega)⟩
theorem NumsAt.mono {B B' : Nat} {w : World} {v : Value} {zs : List Int} (h : NumsAt B w v zs) (hB : B ≤ B') : NumsAt B' w v zs := by
  obtain ⟨A, c, rfl, h⟩ := h
  refine ⟨A, c, rfl, fun hn => ?_⟩
  obtain ⟨g, off, rfl, hg, hr⟩ := h hn
  exact ⟨g, off, rfl, by omega, hr⟩

/-- a weight that is allowed -/
def wtOk (z : Int) : Bool := decide (0 ≤ z) && decide (z ≤ 1000000)
def wtsOk (zs : List Int) : Bool := zs.all wtOk
def wtSum (zs : List Int) : Int := zs.foldl (· + ·) 0
theorem wtSum_snoc (zs : List Int) (z : Int) : wtSum (zs ++ [z]) = wtSum zs + z := by simp [wtSum, List.foldl_append]
theorem wtsOk_snoc (zs : List Int) (z : Int) : wtsOk (zs ++ [z]) = (wtsOk zs && wtOk z) := by simp [wtsOk, List.all_append]
theorem wtSum_bd (zs : List Int) (h : wtsOk zs = true) : 0 ≤ wtSum zs ∧ wtSum zs ≤ zs.length * 1000000 := by
  suffices H : ∀ (ys : List Int) (a : Int), wtsOk ys = true → a ≤ ys.foldl (· + ·) a ∧ ys.foldl (· + ·) a ≤ a + ys.length * 1000000 by
    have := H zs 0 h; unfold wtSum; omega
  intro ys
  induction ys with
  | nil => intro a _; simp
  | cons y ys ih =>
    intro a hy
    simp only [wtsOk, List.all_cons, Bool.and_eq_true, wtOk, decide_eq_true_eq] at hy
    have := ih (a + y) (by simp only [wtsOk]; exact hy.2)
    simp only [List.foldl_cons, List.length_cons]
    omega
theorem take_snoc' {α : Type} (zs : List α) (k : Nat) (z : α) (h : zs[k]? = some z) : zs.take (k + 1) = zs.take k ++ [z] := by rw [List.take_add_one, h]; rfl

def awV (zs : List Int) : Int := if wtsOk zs = true then wtSum zs else 0
def awE (zs : List Int) : Int := if wtsOk zs = true ∧ wtSum zs ≠ 0 then 0 else 2
theorem aw_no {zs : List Int} (k : Nat) (z : Int) (h : zs[k]? = some z) (hz : wtOk z = false) : awV zs = 0 ∧ awE zs = 2 := by
  have : wtsOk zs = false := by
    rw [Bool.eq_false_iff]
    intro ha
    have := List.all_eq_true.1 ha z (List.mem_of_getElem? h)
    rw [hz] at this
    cases this
  simp [awV, awE, this]
theorem aw_zero {zs : List Int} (h : wtsOk zs = true) (hz : wtSum zs = 0) : awV zs = 0 ∧ awE zs = 2 := by simp [awV, awE, h, hz]
theorem aw_yes {zs : List Int} (h : wtsOk zs = true) (hz : wtSum zs ≠ 0) : awV zs = wtSum zs ∧ awE zs = 0 := by simp [awV, awE, h, hz]

set_option maxRecDepth 20000 in
set_option maxHeartbeats 1000000 in
theorem allWeights_any (v : Value) (zs : List Int) (hl : zs.length ≤ 100) (B : Nat) (w : World) (hv : NumsAt B w v zs) :
    Calls Try.prog 64 #[v] w fun e w' => e = .returned (.tuple #[.int .i64 (awV zs), .int .i64 (awE zs)]) ∧ w = w' := by
  obtain ⟨A, c, rfl, hr⟩ := hv
  have HN := Lib.hid (fun (k : Nat) (z : Int) (h : zs[k]? = some z) hz => aw_no k z h hz)
  have HZ := Lib.hid (fun h hz => aw_zero (zs := zs) h hz)
  have HY := Lib.hid (fun h hz => aw_yes (zs := zs) h hz)
  generalize awV zs = rv at *
  generalize awE zs = re at *
  obtain ⟨n, hn⟩ : ∃ n, zs.length = n := ⟨_, rfl⟩
  rw [hn] at hl hr ⊢
  have Hn := Lib.hid hn
  have HR := Lib.hid hr
  clear hr hn
  go_enter Try.func64, Try.ntmps64
  go_wp2_with fail
  go_loop [4, 9] (fun a i => ∃ (k : Nat) (s : Int), k ≤ n ∧ i = .int .i64 k ∧ a = .int .i64 s ∧ Hid (wtSum (zs.take k) = s) ∧ Hid (wtsOk (zs.take k) = true) ∧ 0 ≤ s ∧ s ≤ k * 1000000) (fun _ i => n - (RowKit.intOf i).toNat)
  case atStart => exact ⟨0, 0, Nat.zero_le _, rfl, rfl, Lib.hid rfl, Lib.hid rfl, by omega, by omega⟩
  case round =>
    obtain ⟨k, s, hk, rfl, rfl, hs, ho, hs0, hs1⟩ := hrel
    by_cases hlt : (k : Int) < (n : Int)
    · obtain ⟨z, hz⟩ : ∃ z, zs[k]? = some z := ⟨_, List.getElem?_eq_getElem (by rw [Hn.out]; omega)⟩
      obtain ⟨g, off, rfl, _, hc⟩ := HR.out (by omega)
      have c0 := hc k z hz
      have HNk := Lib.hid (HN.out k z hz)
      have hsum : Hid (wtSum (zs.take (k + 1)) = s + z) := Lib.hid (by rw [take_snoc' zs k z hz, wtSum_snoc, hs.out])
      have hok : Hid (wtsOk (zs.take (k + 1)) = wtOk z) := Lib.hid (by rw [take_snoc' zs k z hz, wtsOk_snoc, ho.out]; simp)
      clear hc hz
      by_cases z0 : z < 0
      · obtain ⟨e1, e2⟩ := HNk.out (by simp [wtOk]; omega)
        have E1 := Lib.hid e1
        have E2 := Lib.hid e2
        clear e1 e2
        go_wp2_with fail
        go_ret2
        exact ⟨ret_ints2 E1.out.symm E2.out.symm, rfl⟩
      · have z0' : decide (z < 0) = false := by simpa using z0
        by_cases z1 : 1000000 < z
        · obtain ⟨e1, e2⟩ := HNk.out (by simp [wtOk]; omega)
          have E1 := Lib.hid e1
          have E2 := Lib.hid e2
          clear e1 e2
          go_wp2_with fail
          go_ret2
          exact ⟨ret_ints2 E1.out.symm E2.out.symm, rfl⟩
        · have z1' : decide (1000000 < z) = false := by simpa using z1
          have hok1 : Hid (wtsOk (zs.take (k + 1)) = true) := Lib.hid (by rw [hok.out]; simp [wtOk]; omega)
          go_wp2_with fail
          go_round
          case rel => exact ⟨k + 1, s + z, by omega, by go_num, rfl, hsum, hok1, by omega, by omega⟩
          case measure => simp [RowKit.intOf]; omega
    · obtain rfl : k = n := by omega
      have hT : zs.take k = zs := List.take_of_length_le (by rw [Hn.out]; exact Nat.le_refl _)
      rw [hT] at hs ho
      clear hT
      by_cases h0 : s = 0
      · subst h0
        obtain ⟨e1, e2⟩ := HZ.out ho.out hs.out
        have E1 := Lib.hid e1
        have E2 := Lib.hid e2
        clear e1 e2
        go_wp2_with fail
        go_ret2
        exact ⟨ret_ints2 E1.out.symm E2.out.symm, rfl⟩
      · obtain ⟨e1, e2⟩ := HY.out ho.out (by rw [hs.out]; exact h0)
        rw [hs.out] at e1
        have E1 := Lib.hid e1
        have E2 := Lib.hid e2
        have hne : (s == 0) = false := by simpa using h0
        clear e1 e2
        go_wp2_with fail
        go_ret2
        exact ⟨ret_ints2 E1.out.symm E2.out.symm, rfl⟩

open Go.RowKit Go.Lib Go.Shelf
set_option linter.unusedVariables false
set_option linter.unusedSimpArgs false
attribute [local go_sem ↓] Go.wp_at_zero Go.wp_at_succ

/-- the shares, rounded down, and what remains of each -/
def flS (n all : Int) (ws : List Int) : List Int := ws.map fun z => qLo n z all
def rsS (n all : Int) (ws : List Int) : List Int := ws.map fun z => (qR n z all : Int)
theorem flS_snoc (n all : Int) (ws : List Int) (z : Int) : flS n all (ws ++ [z]) = flS n all ws ++ [qLo n z all] := by simp [flS]
theorem rsS_snoc (n all : Int) (ws : List Int) (z : Int) : rsS n all (ws ++ [z]) = rsS n all ws ++ [(qR n z all : Int)] := by simp [rsS]
theorem flS_length (n all : Int) (ws : List Int) : (flS n all ws).length = ws.length := by simp [flS]
theorem rsS_length (n all : Int) (ws : List Int) : (rsS n all ws).length = ws.length := by simp [rsS]

/-- one more at the places os -/
def bump (zs : List Int) (os : List Int) : List Int := os.foldl (fun l o => l.set o.toNat (l.getD o.toNat 0 + 1)) zs
theorem bump_snoc (zs os : List Int) (o : Int) : bump zs (os ++ [o]) = (bump zs os).set o.toNat ((bump zs os).getD o.toNat 0 + 1) := by simp [bump, List.foldl_append]
theorem bump_length (zs os : List Int) : (bump zs os).length = zs.length := by
  suffices H : ∀ (os zs : List Int), (os.foldl (fun l o => l.set o.toNat (l.getD o.toNat 0 + 1)) zs).length = zs.length from H os zs
  intro os
  induction os with
  | nil => intro zs; rfl
  | cons o os ih => intro zs; rw [List.foldl_cons, ih, List.length_set]
theorem bump_bd (B : Int) (zs os : List Int) (hB : 0 ≤ B) (h : ∀ z ∈ zs, 0 ≤ z ∧ z ≤ B) : ∀ z ∈ bump zs os, 0 ≤ z ∧ z ≤ B + os.length := by
  suffices H : ∀ (os zs : List Int) (B : Int), 0 ≤ B → (∀ z ∈ zs, 0 ≤ z ∧ z ≤ B) → ∀ z ∈ os.foldl (fun l o => l.set o.toNat (l.getD o.toNat 0 + 1)) zs, 0 ≤ z ∧ z ≤ B + os.length from H os zs B hB h
  intro os
  induction os with
  | nil => intro zs B _ h z hz; have := h z hz; simp; omega
  | cons o os ih =>
    intro zs B hB h z hz
    rw [List.foldl_cons] at hz
    have := ih (zs.set o.toNat (zs.getD o.toNat 0 + 1)) (B + 1) (by omega) (fun y hy => by
      rcases List.mem_or_eq_of_mem_set hy with hy | hy
      · have := h y hy; omega
      · subst hy
        rcases Nat.lt_or_ge o.toNat zs.length with hl | hl
        · have := h _ (List.getElem_mem hl)
          rw [List.getD_eq_getElem?_getD, List.getElem?_eq_getElem hl]
          simp only [Option.getD_some]
          omega
        · rw [List.getD_eq_getElem?_getD, List.getElem?_eq_none hl]
          simp only [Option.getD_none]
          omega) z hz
    simp only [List.length_cons]
    omega

theorem wt_le_sum (ws : List Int) (h : wtsOk ws = true) (z : Int) (hz : z ∈ ws) : 0 ≤ z ∧ z ≤ 1000000 ∧ z ≤ wtSum ws := by
  suffices H : ∀ (ws : List Int) (a : Int), 0 ≤ a → wtsOk ws = true → (∀ z ∈ ws, 0 ≤ z ∧ z ≤ 1000000 ∧ z ≤ ws.foldl (· + ·) a) ∧ a ≤ ws.foldl (· + ·) a from (H ws 0 (Int.le_refl _) h).1 z hz
  intro ws
  induction ws with
  | nil => intro a _ _; simp
  | cons y ys ih =>
    intro a ha hy
    simp only [wtsOk, List.all_cons, Bool.and_eq_true, wtOk, decide_eq_true_eq] at hy
    have h := ih (a + y) (by omega) (by simp only [wtsOk]; exact hy.2)
    rw [List.foldl_cons]
    refine ⟨fun z hz => ?_, by omega⟩
    rcases List.mem_cons.1 hz with rfl | hz
    · omega
    · exact h.1 z hz

/-- one share of a number: what is known of its quotient -/
structure ShareQ (n z all : Int) : Prop where
  div : Divides n z all
  lo : 0 ≤ qLo n z all
  hi : qLo n z all ≤ 2000000000000
  rlo : (0 : Int) ≤ (qR n z all : Int)
  rhi : (qR n z all : Int) ≤ 1000000000000
theorem shareQ_of (n z all : Int) (h1 : 0 ≤ n) (h2 : n ≤ 2000000000000) (z1 : 0 ≤ z) (z2 : z ≤ 1000000) (z3 : z ≤ all) (a1 : 0 < all) (a2 : all ≤ 100000000) : ShareQ n z all := by
  obtain ⟨N, rfl⟩ := Int.eq_ofNat_of_zero_le h1
  obtain ⟨Z, rfl⟩ := Int.eq_ofNat_of_zero_le z1
  obtain ⟨M, rfl⟩ := Int.eq_ofNat_of_zero_le (Int.le_of_lt a1)
  have hm : N * Z ≤ 2000000000000 * 1000000 := Nat.mul_le_mul (by omega) (by omega)
  have hd : N * Z / M ≤ N := by
    have : N * Z ≤ N * M := Nat.mul_le_mul_left _ (by omega)
    calc N * Z / M ≤ N * M / M := Nat.div_le_div_right this
      _ = N := Nat.mul_div_cancel _ (by omega)
  have hq := q_pos (a := (N : Int)) (b := (Z : Int)) (c := (M : Int)) a1 (by simp only [Int.natAbs_natCast]; omega)
  have he : (N : Int) * (Z : Int) / (M : Int) = ((N * Z / M : Nat) : Int) := by rw [← Int.natCast_mul, ← Int.natCast_ediv]
  have hr := (qW_small (a := (N : Int)) (b := (Z : Int)) (c := (M : Int)) (by simp only [Int.natAbs_natCast]; omega)).2
  simp only [Int.natAbs_natCast] at hr
  have hlt := Nat.mod_lt (N * Z) (show 0 < M by omega)
  refine ⟨fun w => divide_small N Z M ⟨by omega, by omega⟩ ⟨by omega, by omega⟩ ⟨by omega, by omega⟩ (by omega) (by simp only [Int.natAbs_natCast]; omega) w, ?_, ?_, ?_, ?_⟩
  · rw [hq.1, he]; exact Int.natCast_nonneg _
  · rw [hq.1, he]
    clear hq he hr hm hlt
    generalize N * Z / M = Q at *
    omega
  · omega
  · rw [hr]; omega

def GfAt (zs os : List Int) : Prop := ∀ (g c : Nat) (W : World), g < W.heap.size → IntsAt W g 0 zs → Calls Try.prog 68 #[.slice (some ⟨g, 0, none⟩) zs.length c] W (GfPost W zs.length os)
def SharePost (w : World) (zs : List Int) (e : Ending) (w' : World) : Prop :=
  ∃ v, e = .returned (.tuple #[v, .int .i64 0]) ∧ w'.ownsRow w.heap.size 3 1 v zs.length (ints zs) ∧ Below w.heap.size w w'
theorem own_ints' {w : World} {base n : Nat} {v : Value} {Z : List Int} (h : w.ownsRow base 3 1 v n (ints Z)) (hn : 0 < n) :
    ∃ g c, v = .slice (some ⟨g, 0, none⟩) n c ∧ base ≤ g ∧ g < w.heap.size ∧ n ≤ c ∧ IntsAt w g 0 Z := by
  have hl : Z.length = n := by have := h.1; simpa [ints] using this
  rcases h.2 with ⟨_, h0⟩ | ⟨g, cap, cur, rfl, hb, hg, hn, hm, hs, ht⟩
  · omega
  · refine ⟨g, cap, rfl, hb, (Array.getElem?_eq_some_iff.1 hg).1, hn, fun j z hz => ?_⟩
    have hj : j < Z.length := by
      rcases Nat.lt_or_ge j Z.length with h1 | h1
      · exact h1
      · rw [List.getElem?_eq_none h1] at hz; cases hz
    have hc := h.cellAt j (by omega)
    rw [Nat.zero_add, hc]
    simp [ints, hz]

theorem ints_set (zs : List Int) (p : Nat) (y : Int) : (ints zs).set p (.int .i64 y) = ints (zs.set p y) := by simp [ints, List.map_set]

set_option maxRecDepth 20000 in
set_option maxHeartbeats 2000000 in
theorem share_of (n all : Int) (ws os : List Int) (lf : Nat) (v : Value) (w : World) (n1 : 0 ≤ n) (n2 : n ≤ 2000000000000) (l1 : 0 < ws.length) (l2 : ws.length ≤ 100) (hw : wtsOk ws = true) (hall : wtSum ws = all) (ha : 0 < all)
    (hleft : n - (flS n all ws).foldl (· + ·) 0 = lf) (hlf : lf ≤ ws.length) (ho1 : os.length = ws.length) (ho2 : ∀ o ∈ os, 0 ≤ o ∧ o < ws.length) (hG : GfAt (rsS n all ws) os) (hv : NumsAt w.heap.size w v ws) :
    Calls Try.prog 23 #[.int .i64 n, v] w (SharePost w (bump (flS n all ws) (os.take lf))) := by
  obtain ⟨i0, hi0, hz0, hz1, hz2⟩ := info_parts infoInt
  have haw := aw_yes hw (by omega)
  have hc0 := allWeights_any v ws l2 w.heap.size w hv
  rw [haw.1, haw.2, hall] at hc0
  have HAW := Lib.hid hc0
  have a2 : all ≤ 100000000 := by have := (wtSum_bd ws hw).2; omega
  have HQ : Hid (∀ z ∈ ws, ShareQ n z all) := Lib.hid fun z hz => by
    obtain ⟨z1, z2, z3⟩ := wt_le_sum ws hw z hz
    exact shareQ_of n z all n1 n2 z1 z2 (by omega) ha a2
  obtain ⟨A, c, rfl, hr⟩ := hv
  have HR := Lib.hid hr
  have HG := Lib.hid hG
  have HL := Lib.hid hleft
  have HO1 := Lib.hid ho1
  have HO2 := Lib.hid ho2
  obtain ⟨m, hm⟩ : ∃ m, ws.length = m := ⟨_, rfl⟩
  rw [hm] at l1 l2 hlf HAW ⊢
  have Hm := Lib.hid hm
  clear hc0 haw hw hall hr hG hleft ho1 ho2 hm
  have m1 : ¬ (100 : Int) < (m : Int) := by omega
  have m2 : decide (n < 0) = false := by simp; omega
  have m3 : ¬ (2000000000000 : Int) < n := by omega
  have hf := field_lo
  go_enter Try.func23, Try.ntmps23
  go_wp2_with fail
  refine HAW.out.mono ?_
  rintro e w1 ⟨rfl, rfl⟩
  go_wp2_with fail
  go_loopw [8, 9, 10, 36] (fun lv s r i wr => ∃ (k : Nat) (l : Int), k ≤ m ∧ i = .int .i64 k ∧ lv = .int .i64 l ∧ Hid (l = n - (flS n all (ws.take k)).foldl (· + ·) 0) ∧ -2000000000000 * (k : Int) ≤ l ∧ l ≤ n ∧
      wr.ownsRow w.heap.size 3 1 s k (ints (flS n all (ws.take k))) ∧ wr.ownsRow w.heap.size 3 1 r k (ints (rsS n all (ws.take k))) ∧ (∀ b, s.ownBlock = some b → r.ownBlock ≠ some b) ∧ Below w.heap.size w wr) (fun _ _ _ i _ => m - (RowKit.intOf i).toNat)
  case atStart => exact ⟨0, n, Nat.zero_le _, rfl, rfl, Lib.hid (by simp [flS]), by omega, Int.le_refl _, World.ownsRow_nil _ _ _ _, World.ownsRow_nil _ _ _ _, (fun b hb => by cases hb), Below.refl _ _⟩
  case round =>
    obtain ⟨k, l, hk, rfl, rfl, hl, hl1, hl2, hs, hrr, hsep, hbr⟩ := hrel
    by_cases hlt : (k : Int) < (m : Int)
    · obtain ⟨z, hz⟩ : ∃ z, ws[k]? = some z := ⟨_, List.getElem?_eq_getElem (by rw [Hm.out]; omega)⟩
      obtain ⟨g, off, rfl, hg, hc⟩ := HR.out (by rw [Hm.out]; omega)
      have c0 := cell_next hbr hg (hc k z hz)
      obtain ⟨hd, ql, qh, rl, rh⟩ := HQ.out z (List.mem_of_getElem? hz)
      have HA := Lib.hid (around_of n z all hd)
      have HRs := Lib.hid (rest_of n z all hd)
      have HS1 : Hid (flS n all (ws.take (k + 1)) = flS n all (ws.take k) ++ [qLo n z all]) := Lib.hid (by rw [take_snoc' ws k z hz, flS_snoc])
      have HT1 : Hid (rsS n all (ws.take (k + 1)) = rsS n all (ws.take k) ++ [(qR n z all : Int)]) := Lib.hid (by rw [take_snoc' ws k z hz, rsS_snoc])
      have HSO := Lib.hid hs
      have HRO := Lib.hid hrr
      have HSEP := Lib.hid hsep
      clear hc hz hd hs hrr hsep
      generalize qLo n z all = q at *
      generalize (qR n z all : Int) = qr at *
      generalize qHi n z all = qh' at *
      go_wp2_with fail
      refine (quotientOf3 n z all _ _ (by simp) (by simp) (by simp) (by simp)).mono ?_
      rintro e w1 ⟨rfl, hb1⟩
      go_wp2_with fail
      refine (HA.out _).mono ?_
      rintro e w2 ⟨rfl, hb2⟩
      have hB1 := below1 hb1
      have hy1 : wr.heap.size < w1.heap.size := by have := hb1.size; simp at this; omega
      have t0 := cell_next hb2 (b := w1.heap.size) (o := 0) (by simp) (v := some (.int .i64 n)) (by simp [go_sem])
      have t1 := cell_next hb2 (b := w1.heap.size) (o := 1) (by simp) (v := some (.int .i64 z)) (by simp [go_sem])
      have t2 := cell_next hb2 (b := w1.heap.size) (o := 2) (by simp) (v := some (.int .i64 all)) (by simp [go_sem])
      have hB2 : RowKit.Below wr.heap.size wr w2 := hB1.trans ((below1 hb2).mono hB1.size)
      have hy2 : w1.heap.size < w2.heap.size := by have := hb2.size; simp at this; omega
      clear hb1 hb2 hB1
      generalize w1.heap.size = qb at *
      obtain ⟨sl1, sA, sc, rfl⟩ : ∃ (sl1 : Nat) (sA : Option Addr) (sc : Nat), u9 = Value.slice sA sl1 sc := by
        rcases HSO.out.2 with ⟨rfl, _⟩ | ⟨g, cap, cur, rfl, _⟩
        · exact ⟨_, _, _, rfl⟩
        · exact ⟨_, _, _, rfl⟩
      obtain ⟨rl1, rA, rc, rfl⟩ : ∃ (rl1 : Nat) (rA : Option Addr) (rc : Nat), u10 = Value.slice rA rl1 rc := by
        rcases HRO.out.2 with ⟨rfl, _⟩ | ⟨g, cap, cur, rfl, _⟩
        · exact ⟨_, _, _, rfl⟩
        · exact ⟨_, _, _, rfl⟩
      have own2 := Lib.hid (own_below HSO.out hB2)
      have ro2 := Lib.hid (own_below HRO.out hB2)
      have hbw2 := hbr.trans (hB2.mono hbr.size)
      clear hB2
      go_wp2_with (at_builtin; refine wpList_append_own_at _ rfl (.tmp 45) (.tmp 49) 23 rfl w.heap.size 3 i0 (.int .i64 0) 1 8 Try.underlying23 hi0 hz0 hz1 hz2 rfl (by decide) (.slice sA sl1 sc) k (ints (flS n all (ws.take k))) rfl (own2.out.alloc _) ⟨w2.heap.size, 0, none⟩ 1 1 (ints [q]) rfl rfl ?_ ?_ ?_ ?_ ?_ ?_)
      case refine_1 =>
        intro i u hi
        rcases i with _ | i
        · simp [ints] at hi; subst hi; exact (cell_at _ _ _ _ _ (by simp))
        · simp [ints] at hi
      case refine_2 => simp [Value.oneCell', ints]
      case refine_3 => unfold maxLen; omega
      case refine_4 => omega
      case refine_5 => simp; have := hbw2.size; omega
      case refine_6 =>
        intro v3 w3 hown3 hgrow3 _ hat3
        rw [← ints_append, ← HS1.out] at hown3
        have hz3 := hgrow3.size
        simp at hz3
        have hlow : ∀ r, (Value.slice sA sl1 sc).ownBlock = some r → w.heap.size ≤ r ∧ r < wr.heap.size := fun r hr => HSO.out.lt r hr
        have c20 := grown_cell' hgrow3 (b := qb) (o := 0) (v := some (.int .i64 n)) (by simp; omega) (fun r hr => by have := hlow r hr; omega) (by rw [cell_old _ _ _ _ (by omega)]; exact t0)
        have c21 := grown_cell' hgrow3 (b := qb) (o := 1) (v := some (.int .i64 z)) (by simp; omega) (fun r hr => by have := hlow r hr; omega) (by rw [cell_old _ _ _ _ (by omega)]; exact t1)
        have c22 := grown_cell' hgrow3 (b := qb) (o := 2) (v := some (.int .i64 all)) (by simp; omega) (fun r hr => by have := hlow r hr; omega) (by rw [cell_old _ _ _ _ (by omega)]; exact t2)
        have hb3 := (hbw2.alloc hbw2.size (Obj.cells #[Value.int IntKind.i64 q] 3)).grown hgrow3 (by simp; have := hbw2.size; omega) (fun r hr => (hlow r hr).1)
        have hr3 := (ro2.out.alloc (Obj.cells #[Value.int IntKind.i64 q] 3)).kept hgrow3 (by
          cases hrb : (Value.slice rA rl1 rc).ownBlock with
          | none => exact .inl rfl
          | some x => exact .inr (fun e => HSEP.out x (by rw [← e]) hrb))
        have hsep3 : ∀ b, v3.ownBlock = some b → (Value.slice rA rl1 rc).ownBlock ≠ some b := by
          intro b hb he
          have hlt := (HRO.out.lt b he).2
          rcases hat3 with h | h
          · exact HSEP.out b (by rw [← h]; exact hb) he
          · rw [h] at hb; simp at hb; omega
        have HO3 := Lib.hid hown3
        have HR3 := Lib.hid hr3
        have HP3 := Lib.hid hsep3
        clear hown3 hgrow3 hlow hr3 hsep3 hat3 t0 t1 t2 hbw2
        go_wp2_with fail
        refine (HRs.out _).mono ?_
        rintro e w4 ⟨rfl, hb4⟩
        have hz4 := hb4.size
        have own4 := Lib.hid (own_below HO3.out hb4)
        have ro4 := Lib.hid (own_below HR3.out hb4)
        have d0 := cell_next hb4 (by omega) c20
        have d1 := cell_next hb4 (by omega) c21
        have d2 := cell_next hb4 (by omega) c22
        have hbw4 := hb3.trans (hb4.mono hb3.size)
        clear hb3 hb4 c20 c21 c22
        go_wp2_with (at_builtin; refine wpList_append_own_at _ rfl (.tmp 51) (.tmp 54) 23 rfl w.heap.size 3 i0 (.int .i64 0) 1 8 Try.underlying23 hi0 hz0 hz1 hz2 rfl (by decide) (.slice rA rl1 rc) k (ints (rsS n all (ws.take k))) rfl (ro4.out.alloc _) ⟨w4.heap.size, 0, none⟩ 1 1 (ints [qr]) rfl rfl ?_ ?_ ?_ ?_ ?_ ?_)
        case refine_1 =>
          intro i u hi
          rcases i with _ | i
          · simp [ints] at hi; subst hi; exact (cell_at _ _ _ _ _ (by simp))
          · simp [ints] at hi
        case refine_2 => simp [Value.oneCell', ints]
        case refine_3 => unfold maxLen; omega
        case refine_4 => omega
        case refine_5 => simp; have := hbw4.size; omega
        case refine_6 =>
          intro v5 w5 hown5 hgrow5 _ hat5
          rw [← ints_append, ← HT1.out] at hown5
          have hz5 := hgrow5.size
          simp at hz5
          have hlow : ∀ r, (Value.slice rA rl1 rc).ownBlock = some r → w.heap.size ≤ r ∧ r < wr.heap.size := fun r hr => HRO.out.lt r hr
          have e0 := grown_cell' hgrow5 (b := qb) (o := 0) (v := some (.int .i64 n)) (by simp; omega) (fun r hr => by have := hlow r hr; omega) (by rw [cell_old _ _ _ _ (by omega)]; exact d0)
          have e1 := grown_cell' hgrow5 (b := qb) (o := 1) (v := some (.int .i64 z)) (by simp; omega) (fun r hr => by have := hlow r hr; omega) (by rw [cell_old _ _ _ _ (by omega)]; exact d1)
          have e2 := grown_cell' hgrow5 (b := qb) (o := 2) (v := some (.int .i64 all)) (by simp; omega) (fun r hr => by have := hlow r hr; omega) (by rw [cell_old _ _ _ _ (by omega)]; exact d2)
          have hb5 := (hbw4.alloc hbw4.size (Obj.cells #[Value.int IntKind.i64 qr] 3)).grown hgrow5 (by simp; have := hbw4.size; omega) (fun r hr => (hlow r hr).1)
          have hs5 := (own4.out.alloc (Obj.cells #[Value.int IntKind.i64 qr] 3)).kept hgrow5 (by
            cases hrb : v3.ownBlock with
            | none => exact .inl rfl
            | some x => exact .inr (fun e => HP3.out x hrb e.symm))
          have hsep5 : ∀ b, v3.ownBlock = some b → v5.ownBlock ≠ some b := by
            intro b hb he
            have hlt := (own4.out.lt b hb).2
            rcases hat5 with h | h
            · exact HP3.out b hb (by rw [← h]; exact he)
            · rw [h] at he; simp at he; omega
          have HS5 := Lib.hid hs5
          have HR5 := Lib.hid hown5
          have HP5 := Lib.hid hsep5
          clear hown5 hgrow5 hlow hs5 hsep5 hat5 d0 d1 d2 hbw4
          go_wp2_with fail
          refine (HA.out _).mono ?_
          rintro e w6 ⟨rfl, hb6⟩
          have own6 := Lib.hid (own_below HS5.out hb6)
          have ro6 := Lib.hid (own_below HR5.out hb6)
          have hbw6 := hb5.trans (hb6.mono hb5.size)
          have hl6 : Hid (l - q = n - (flS n all (ws.take (k + 1))).foldl (· + ·) 0) := Lib.hid (by rw [HS1.out, List.foldl_append, hl.out]; simp only [List.foldl_cons, List.foldl_nil]; omega)
          clear hb5 hb6 e0 e1 e2
          go_wp2_with fail
          go_roundw
          case rel => exact ⟨k + 1, l - q, by omega, by go_num, rfl, hl6, by omega, by omega, own6.out, ro6.out, HP5.out, hbw6⟩
          case measure => simp [RowKit.intOf]; omega
    · obtain rfl : k = m := by omega
      have hT : ws.take k = ws := List.take_of_length_le (by rw [Hm.out]; exact Nat.le_refl _)
      rw [hT] at hl hs hrr
      have hll : l = (lf : Int) := by rw [hl.out, HL.out]
      subst hll
      clear hT hl hl1 hl2
      obtain ⟨gs, cs, rfl, hgs1, hgs2, hcs, _⟩ := own_ints' hs l1
      obtain ⟨gr, cr, rfl, hgr1, hgr2, hcr, hir⟩ := own_ints' hrr l1
      have hgf := HG.out gr cr wr hgr2 hir
      rw [rsS_length, Hm.out] at hgf
      have HGF := Lib.hid hgf
      have HSO := Lib.hid hs
      clear hgf hir hs hrr hsep
      go_wp2_with fail
      refine HGF.out.mono ?_
      rintro e w7 ⟨v7, rfl, hown7, hb7⟩
      obtain ⟨go, co, rfl, hgo1, hgo2, hco, hio⟩ := own_ints' hown7 l1
      have HS7 := Lib.hid (own_below HSO.out hb7)
      have HIO := Lib.hid hio
      have hbw7 := hbr.trans (hb7.mono hbr.size)
      have HFB : Hid (∀ t, ∀ y ∈ bump (flS n all ws) (os.take t), 0 ≤ y ∧ y ≤ 2000000000000 + ((os.take t).length : Int)) := Lib.hid fun t => bump_bd 2000000000000 _ _ (by omega) (fun y hy => by
        obtain ⟨z, hz, rfl⟩ := List.mem_map.1 hy
        have := HQ.out z hz
        exact ⟨this.lo, this.hi⟩)
      have HLEN : Hid (∀ t, (bump (flS n all ws) (os.take t)).length = k) := Lib.hid fun t => by rw [bump_length, flS_length, Hm.out]
      have hlf0 : (0 : Int) ≤ (lf : Int) := by omega
      have hlf1 : (lf : Int) ≤ (co : Int) := by omega
      clear hown7 hio hb7
      go_wp2_with fail
      go_loopw [67] (fun j wx => ∃ t : Nat, t ≤ lf ∧ j = .int .i64 t ∧ wx.ownsRow w.heap.size 3 1 (.slice (some ⟨gs, 0, none⟩) k cs) k (ints (bump (flS n all ws) (os.take t))) ∧ Hid (IntsAt wx go 0 os) ∧ Below w.heap.size w wx) (fun j _ => lf - (RowKit.intOf j).toNat)
      case atStart => exact ⟨0, Nat.zero_le _, rfl, by simpa [bump] using HS7.out, HIO, hbw7⟩
      case round =>
        obtain ⟨t, ht, rfl, hsr, hor, hbx⟩ := hrel
        by_cases htl : (t : Int) < (lf : Int)
        · obtain ⟨o, ho⟩ : ∃ o, os[t]? = some o := ⟨_, List.getElem?_eq_getElem (by rw [HO1.out, Hm.out]; omega)⟩
          obtain ⟨o1, o2⟩ := HO2.out o (List.mem_of_getElem? ho)
          rw [Hm.out] at o2
          obtain ⟨p, rfl⟩ := Int.eq_ofNat_of_zero_le o1
          have hc := hor.out t p ho
          rw [Nat.zero_add] at hc
          have hp : p < k := by omega
          obtain ⟨y, hy⟩ : ∃ y, (bump (flS n all ws) (os.take t))[p]? = some y := ⟨_, List.getElem?_eq_getElem (by rw [HLEN.out]; exact hp)⟩
          have hyc := hsr.cellAt p (by omega)
          have hyf := hsr.frozenAt p
          rw [show (ints (bump (flS n all ws) (os.take t)))[p]? = some (.int .i64 y) from by simp [ints, hy]] at hyc
          obtain ⟨y1, y2⟩ := HFB.out t y (List.mem_of_getElem? hy)
          have hy3 : y ≤ 3000000000000 := by
            have : (os.take t).length ≤ 100 := by rw [List.length_take]; omega
            omega
          have hst := (hsr.stored p (.int .i64 (y + 1))).1
          have hnx : bump (flS n all ws) (os.take (t + 1)) = (bump (flS n all ws) (os.take t)).set p (y + 1) := by
            rw [take_snoc' os t p ho, bump_snoc]
            simp [hy]
          rw [ints_set, ← hnx] at hst
          have HST := Lib.hid hst
          have hne : gs ≠ go := by omega
          have HIX : Hid (IntsAt (wr.setCell ⟨gs, p, none⟩ (.int .i64 (y + 1))) go 0 os) := Lib.hid fun j z hz => by
            rw [World.cell?_setCell_other _ _ _ _ (by intro h; injection h; omega)]
            exact hor.out j z hz
          have hbx' := hbx.setCell (p := ⟨gs, p, none⟩) hgs1 (.int .i64 (y + 1))
          have ht0 : (0 : Int) ≤ (t : Int) := by omega
          have hp0 : (0 : Int) ≤ (p : Int) := by omega
          have hp1 : (p : Int) < (k : Int) := by omega
          clear hsr hor hnx hst hy ho y2 hbx
          go_wp2_with fail
          go_roundw
          case rel => exact ⟨t + 1, by omega, by go_num, HST.out, HIX, hbx'⟩
          case measure => simp [RowKit.intOf]; omega
        · obtain rfl : t = lf := by omega
          have HSR := Lib.hid hsr
          clear hsr
          go_wp2_with fail
          go_ret2
          refine ⟨_, rfl, ?_, hbx⟩
          rw [HLEN.out]
          exact HSR.out
end Go.Proofs.Ytclnfncdphfgjaa
