/- Contracts: V4, joined. -/
import Derived.Test.YtclnfncdphfgjaaJC19
import Derived.Test.YtclnfncdphfgjaaJC7
import Derived.Test.YtclnfncdphfgjaaJC5
namespace Go.Proofs.Ytclnfncdphfgjaa
open Go.RowKit Go.Lib Go.Shelf
set_option linter.unusedVariables false
set_option linter.unusedSimpArgs false
attribute [local go_sem ↓] Go.wp_at_zero Go.wp_at_succ


theorem share_rem (n z all : Int) (h1 : 0 ≤ n) (h2 : n ≤ 2000000000000) (z1 : 0 ≤ z) (z2 : z ≤ 1000000) (z3 : z ≤ all) (a1 : 0 < all) : (qR n z all : Int) = n * z % all := by
  obtain ⟨N, rfl⟩ := Int.eq_ofNat_of_zero_le h1
  obtain ⟨Z, rfl⟩ := Int.eq_ofNat_of_zero_le z1
  obtain ⟨M, rfl⟩ := Int.eq_ofNat_of_zero_le (Int.le_of_lt a1)
  have hd : N * Z / M ≤ N := by
    have : N * Z ≤ N * M := Nat.mul_le_mul_left _ (by omega)
    calc N * Z / M ≤ N * M / M := Nat.div_le_div_right this
      _ = N := Nat.mul_div_cancel _ (by omega)
  have hr := (qW_small (a := (N : Int)) (b := (Z : Int)) (c := (M : Int)) (by simp only [Int.natAbs_natCast]; omega)).2
  simp only [Int.natAbs_natCast] at hr
  rw [hr, ← Int.natCast_mul, ← Int.natCast_emod]

set_option maxRecDepth 20000 in
set_option maxHeartbeats 4000000 in
theorem rShare_any (n : Int) (ws : List Int) (v : Value) (w : World) (hl : ws.length ≤ 1000) (hv : NumsAt w.heap.size w v ws) :
    Calls Try.prog 24 #[.int .i64 n, v] w (ShPost w (shV n ws) (shE n ws)) := by
  obtain ⟨i0, hi0, hz0, hz1, hz2⟩ := info_parts infoInt
  have HE0 : Hid (ws.length ≤ 100 → 0 ≤ n → n ≤ 2000000000000 → wtsOk ws = true → wtSum ws ≠ 0 → shE n ws = 0) := Lib.hid (fun a b c d e => by
    unfold shE; rw [if_neg (by omega), if_neg (by omega)]; exact (aw_yes d e).2)
  have HE2 : Hid (ws.length ≤ 100 → 0 ≤ n → n ≤ 2000000000000 → awE ws = 2 → shE n ws = 2) := Lib.hid (fun a b c d => by
    unfold shE; rw [if_neg (by omega), if_neg (by omega)]; exact d)
  have HE3 : Hid (ws.length ≤ 100 → (n < 0 ∨ 2000000000000 < n) → shE n ws = 3) := Lib.hid (fun a b => by
    unfold shE; rw [if_neg (by omega), if_pos b])
  have HE5 : Hid (100 < ws.length → shE n ws = 5) := Lib.hid (fun a => by unfold shE; rw [if_pos a])
  have HV0 : Hid (shE n ws ≠ 0 → shV n ws = []) := Lib.hid (fun h => by unfold shV; rw [if_neg h])
  have HVS : Hid (shE n ws = 0 → shV n ws = bump (flS n (wtSum ws) ws) ((odZ (rsS n (wtSum ws) ws)).take (shL n ws))) := Lib.hid (fun h => by unfold shV; rw [if_pos h])
  have HNO := Lib.hid (fun (k : Nat) (z : Int) (h : ws[k]? = some z) hz => (aw_no k z h hz).2)
  have HZE := Lib.hid (fun h hz => (aw_zero (zs := ws) h hz).2)
  obtain ⟨A, c, rfl, hr⟩ := hv
  obtain ⟨m, hm⟩ : ∃ m, ws.length = m := ⟨_, rfl⟩
  rw [hm] at hl hr ⊢
  have Hm := Lib.hid hm
  have HR := Lib.hid hr
  clear hr hm
  generalize hsv : shV n ws = sv at *
  generalize hse : shE n ws = se at *
  have HSE := Lib.hid hse
  have HSV := Lib.hid hsv
  clear hse hsv
  have hin := Lib.hid (rIn_any n 0 2000000000000)
  by_cases ha : 100 < m
  · have h5 := HE5.out (by rw [Hm.out]; exact ha)
    have h6 := HV0.out (by omega)
    subst h5; subst h6
    have t0 : (100 : Int) < (m : Int) := by omega
    go_enter Try.func24, Try.ntmps24
    go_wp2_with fail
    go_ret2
    exact ⟨_, rfl, World.ownsRow_nil _ _ _ _, Below.refl _ _⟩
  have t0 : ¬ (100 : Int) < (m : Int) := by omega
  by_cases hb : n < 0 ∨ 2000000000000 < n
  · have h5 := HE3.out (by rw [Hm.out]; omega) hb
    have h6 := HV0.out (by omega)
    subst h5; subst h6
    have hin2 : Hid (∀ W, Calls Try.prog 62 #[.int .i64 n, .int .i64 0, .int .i64 2000000000000] W fun e w' => e = .returned (.bool false) ∧ W = w') := Lib.hid (fun W => by
      have h := hin.out W
      rwa [show (decide (0 ≤ n) && decide (n ≤ 2000000000000)) = false from by
        rw [Bool.and_eq_false_iff, decide_eq_false_iff_not, decide_eq_false_iff_not]; omega] at h)
    clear hin hb
    go_enter Try.func24, Try.ntmps24
    go_wp2_with fail
    refine (hin2.out _).mono ?_
    rintro e w1 ⟨rfl, rfl⟩
    go_wp2_with fail
    go_ret2
    exact ⟨_, rfl, World.ownsRow_nil _ _ _ _, Below.refl _ _⟩
  have hin2 : Hid (∀ W, Calls Try.prog 62 #[.int .i64 n, .int .i64 0, .int .i64 2000000000000] W fun e w' => e = .returned (.bool true) ∧ W = w') := Lib.hid (fun W => by
    have h := hin.out W
    rwa [show (decide (0 ≤ n) && decide (n ≤ 2000000000000)) = true from by
      rw [Bool.and_eq_true, decide_eq_true_eq, decide_eq_true_eq]; omega] at h)
  have n1 : 0 ≤ n := by omega
  have n2 : n ≤ 2000000000000 := by omega
  have hinW := Lib.hid (fun z => rIn_any z 0 1000000)
  clear hin hb
  go_enter Try.func24, Try.ntmps24
  go_wp2_with fail
  refine (hin2.out _).mono ?_
  rintro e w1 ⟨rfl, rfl⟩
  clear hin2
  go_wp2_with fail
  go_loopw [6, 7] (fun a i wr => ∃ (k : Nat) (s : Int), k ≤ m ∧ i = .int .i64 k ∧ a = .int .i64 s ∧ Hid (wtSum (ws.take k) = s) ∧ Hid (wtsOk (ws.take k) = true) ∧ 0 ≤ s ∧ s ≤ k * 1000000 ∧ w = wr) (fun _ i _ => m - (RowKit.intOf i).toNat)
  case atStart => exact ⟨0, 0, Nat.zero_le _, rfl, rfl, Lib.hid rfl, Lib.hid rfl, by omega, by omega, rfl⟩
  case round =>
    obtain ⟨k, s, hk, rfl, rfl, hs, ho, hs0, hs1, rfl⟩ := hrel
    by_cases hlt : (k : Int) < (m : Int)
    · obtain ⟨z, hz⟩ : ∃ z, ws[k]? = some z := ⟨_, List.getElem?_eq_getElem (by rw [Hm.out]; omega)⟩
      obtain ⟨g, off, rfl, _, hc⟩ := HR.out (by omega)
      have c0 := hc k z hz
      have HNk := Lib.hid (HNO.out k z hz)
      have hsum : Hid (wtSum (ws.take (k + 1)) = s + z) := Lib.hid (by rw [take_snoc' ws k z hz, wtSum_snoc, hs.out])
      have hok : Hid (wtsOk (ws.take (k + 1)) = wtOk z) := Lib.hid (by rw [take_snoc' ws k z hz, wtsOk_snoc, ho.out]; simp)
      clear hc hz
      cases hwz : wtOk z with
      | false =>
        have hx : Hid (∀ W, Calls Try.prog 62 #[.int .i64 z, .int .i64 0, .int .i64 1000000] W fun e w' => e = .returned (.bool false) ∧ W = w') := Lib.hid (fun W => by
          have h := hinW.out z W
          unfold wtOk at hwz
          rwa [hwz] at h)
        have h5 := HE2.out (by rw [Hm.out]; omega) n1 n2 (HNk.out hwz)
        have h6 := HV0.out (by omega)
        subst h5; subst h6
        clear hwz HNk
        go_wp2_with fail
        refine (hx.out _).mono ?_
        rintro e w2 ⟨rfl, rfl⟩
        go_wp2_with fail
        go_ret2
        exact ⟨_, rfl, World.ownsRow_nil _ _ _ _, Below.refl _ _⟩
      | true =>
        have hx : Hid (∀ W, Calls Try.prog 62 #[.int .i64 z, .int .i64 0, .int .i64 1000000] W fun e w' => e = .returned (.bool true) ∧ W = w') := Lib.hid (fun W => by
          have h := hinW.out z W
          unfold wtOk at hwz
          rwa [hwz] at h)
        have hok1 : Hid (wtsOk (ws.take (k + 1)) = true) := Lib.hid (by rw [hok.out, hwz])
        obtain ⟨z0, z1⟩ : 0 ≤ z ∧ z ≤ 1000000 := by simpa [wtOk] using hwz
        have ysum : IntKind.i64.wrap (s + z) = s + z := IntWalk.i64_in _ (by omega)
        clear hwz hok HNk
        go_wp2_with fail
        refine (hx.out _).mono ?_
        rintro e w2 ⟨rfl, rfl⟩
        clear hx
        go_wp2_with fail
        go_roundw
        case rel => exact ⟨k + 1, s + z, by omega, by go_num, rfl, hsum, hok1, by omega, by omega, by first | rfl | trivial⟩
        case measure => simp [RowKit.intOf]; omega
    · obtain rfl : m = k := by omega
      have hT : ws.take m = ws := List.take_of_length_le (by rw [Hm.out]; exact Nat.le_refl _)
      rw [hT] at hs ho
      clear hT hinW
      by_cases h0 : s = 0
      · have h5 := HE2.out (by rw [Hm.out]; omega) n1 n2 (HZE.out ho.out (hs.out.trans h0))
        have h6 := HV0.out (by omega)
        subst h0; subst h5; subst h6
        go_wp2_with fail
        go_ret2
        exact ⟨_, rfl, World.ownsRow_nil _ _ _ _, Below.refl _ _⟩
      have h5 := HE0.out (by rw [Hm.out]; omega) n1 n2 ho.out (by rw [hs.out]; exact h0)
      subst h5
      have hne : (s == 0) = false := by simpa using h0
      obtain ⟨all, hall⟩ : ∃ all, s = all := ⟨_, rfl⟩
      have hsvv := HVS.out rfl
      rw [hs.out] at hsvv
      have a1 : 0 < all := by omega
      have a2 : all ≤ 100000000 := by omega
      have l1 : 0 < m := by
        rcases Nat.eq_zero_or_pos m with e | e
        · exfalso; subst e; simp at hs1; omega
        · exact e
      subst hall
      have HQ : Hid (∀ z ∈ ws, ShareQ n z s ∧ qLo n z s = n * z / s ∧ (qR n z s : Int) = n * z % s ∧ 0 ≤ z ∧ z ≤ 1000000) := Lib.hid fun z hz => by
        obtain ⟨z1, z2, z3⟩ := wt_le_sum ws ho.out z hz
        rw [hs.out] at z3
        exact ⟨shareQ_of n z _ n1 n2 z1 z2 z3 a1 a2, share_quo n z _ n1 n2 z1 z3 a1, share_rem n z _ n1 n2 z1 z2 z3 a1, z1, z2⟩
      have hlf := left_ok n s a1 ws (fun z hz => (HQ.out z hz).2.1) hs.out (by rw [Hm.out]; exact l1)
      obtain ⟨lf, hlfe⟩ : ∃ lf, shL n ws = lf := ⟨_, rfl⟩
      have hlfz : Hid (n - (flS n s ws).foldl (· + ·) 0 = (lf : Int)) := Lib.hid (by rw [← hlfe]; unfold shL; rw [hs.out]; omega)
      have hlfk : lf ≤ m := by have := hlfz.out; rw [Hm.out] at hlf; omega
      rw [hlfe] at hsvv
      have HSVV := Lib.hid hsvv
      clear hsvv hlfe hlf hs0 hs1 h0 HE0 HE2 HE3 HE5 HV0 HVS HNO HZE
      obtain ⟨all, hall⟩ : ∃ all, s = all := ⟨_, rfl⟩
      rw [hall] at HQ hlfz HSVV hne a1 a2 ⊢
      have hdz : (all = 0) = False := by simp; omega
      clear hall
      go_wp2_with fail
      go_loopw [8, 9, 10, 11] (fun u8 u9 lv i wr => ∃ (k : Nat) (l : Int), k ≤ m ∧ i = .int .i64 k ∧ lv = .int .i64 l ∧ Hid (l = n - (flS n all (ws.take k)).foldl (· + ·) 0) ∧ -2000000000000 * (k : Int) ≤ l ∧ l ≤ n ∧
        Hid (R2 w.heap.size wr u8 u9 k k (ints (flS n all (ws.take k))) (ints (rsS n all (ws.take k)))) ∧ Below w.heap.size w wr) (fun _ _ _ i _ => m - (RowKit.intOf i).toNat)
      case atStart => exact ⟨0, n, Nat.zero_le _, rfl, rfl, Lib.hid (by simp [flS]), by omega, Int.le_refl _, Lib.hid (R2.start w), (below_al2 w _ _)⟩
      case round =>
        obtain ⟨k, l, hk, rfl, rfl, hlv, hl1, hl2, HO, hbr⟩ := hrel
        have hBW := hbr.size
        by_cases hlt : (k : Int) < (m : Int)
        · obtain ⟨z, hz⟩ : ∃ z, ws[k]? = some z := ⟨_, List.getElem?_eq_getElem (by rw [Hm.out]; omega)⟩
          obtain ⟨g, off, rfl, hg, hc⟩ := HR.out (by omega)
          have q0 := cell_next hbr hg (hc k z hz)
          have ng : g < wr.heap.size := Nat.lt_of_lt_of_le hg hbr.size
          obtain ⟨hQ, hq1, hq2, hzb1, hzb2⟩ := HQ.out z (List.mem_of_getElem? hz)
          have ql := hQ.lo
          have qh := hQ.hi
          have rl := hQ.rlo
          have rh := hQ.rhi
          have HS1 : Hid (flS n all (ws.take (k + 1)) = flS n all (ws.take k) ++ [qLo n z all]) := Lib.hid (by rw [take_snoc' ws k z hz, flS_snoc])
          have HT1 : Hid (rsS n all (ws.take (k + 1)) = rsS n all (ws.take k) ++ [(qR n z all : Int)]) := Lib.hid (by rw [take_snoc' ws k z hz, rsS_snoc])
          have HTL : Hid ((ws.take k).length = k) := Lib.hid (by rw [List.length_take, Hm.out]; omega)
          have hp1 : 0 ≤ n * z := Int.mul_nonneg n1 hzb1
          have hp2 : n * z ≤ 2000000000000 * 1000000 := Int.mul_le_mul n2 hzb2 hzb1 (by omega)
          have hpm : (n * z).tmod all = n * z % all := Int.tmod_eq_emod_of_nonneg hp1
          have hfl := Lib.hid (rFloor_any (n * z) all ⟨by omega, by omega⟩ a1 (by omega))
          rw [← hq1] at hfl
          rw [← hq2] at hpm
          obtain ⟨q, hq⟩ : ∃ q, qLo n z all = q := ⟨_, rfl⟩
          obtain ⟨r, hr⟩ : ∃ r : Int, (qR n z all : Int) = r := ⟨_, rfl⟩
          rw [hq] at hfl HS1 ql qh
          rw [hr] at hpm HT1 rl rh
          have hl6 : Hid (l - q = n - (flS n all (ws.take (k + 1))).foldl (· + ·) 0) := Lib.hid (by rw [HS1.out, List.foldl_append, hlv.out]; simp only [List.foldl_cons, List.foldl_nil]; omega)
          obtain ⟨p, hp⟩ : ∃ p, n * z = p := ⟨_, rfl⟩
          rw [hp] at hpm hfl hp1 hp2
          have HFL : Hid (∀ W : World, Calls Try.prog 69 #[.int .i64 p, .int .i64 all] W fun e w' => e = .returned (.int .i64 q) ∧ Below W.heap.size W w') := Lib.hid (fun W => (hfl.out W).mono (fun e w' h => ⟨h.1, h.2 ▸ Below.refl _ _⟩))
          have wp : IntKind.i64.wrap p = p := IntWalk.i64_in _ (by omega)
          have wr1 : IntKind.i64.wrap r = r := IntWalk.i64_in _ (by omega)
          have wl : IntKind.i64.wrap (l - q) = l - q := IntWalk.i64_in _ (by omega)
          have hob5 : ∀ g, u8.ownBlock = some g → g < wr.heap.size := fun g h => (World.ownsRow.lt HO.out.1 g h).2
          have hob6 : ∀ g, u9.ownBlock = some g → g < wr.heap.size := fun g h => (World.ownsRow.lt HO.out.2.1 g h).2
          have hob5a : ∀ g, u8.ownBlock = some g → w.heap.size ≤ g := fun g h => (World.ownsRow.lt HO.out.1 g h).1
          have hob6a : ∀ g, u9.ownBlock = some g → w.heap.size ≤ g := fun g h => (World.ownsRow.lt HO.out.2.1 g h).1
          clear hc hz hQ hq1 hq2 hzb1 hzb2 hfl hq hr hlv
          go_wp2_with fail
          refine wp_region_held_drew (S := fun w' => w'.cell? ⟨g, off + k, none⟩ = some (.int .i64 z) ∧ True) (by kernel_rfl) ?_ (fun hHeld => ?_)
          focus (exact ⟨q0, trivial⟩)
          have hL : Below w.heap.size wr wr.drew := Below.drew (Below.refl _ _)
          replace q0 : wr.drew.cell? ⟨g, off + k, none⟩ = some (.int .i64 z) := q0
          replace ng : g < wr.drew.heap.size := ng
          replace HO := Lib.hid HO.out.drew
          generalize hWd : wr.drew = wd at hHeld hL q0 ng HO ⊢
          clear hWd
          refine take_slot (i := 0) (d := 49) (v := ?_) rfl rfl (by kernel_rfl) (by kernel_rfl) (by kernel_rfl) (fun _ _ _ h => h) (Or.inl ⟨by rfl, ?_⟩) (by assumption) ?_
          rotate_left 1
          focus (intro wS hSw; (try dsimp only at hSw); go_simp; try with_reducible rfl)
          try simp only [List.setIfInBounds_toArray, List.set_cons_zero, List.set_cons_succ]
          refine take_slot (i := 1) (d := 50) (v := ?_) rfl rfl (by kernel_rfl) (by kernel_rfl) (by kernel_rfl) (fun _ _ _ h => h) (Or.inl ⟨by rfl, ?_⟩) (by assumption) ?_
          rotate_left 1
          focus (intro wS hSw; (try dsimp only at hSw); go_simp; try with_reducible rfl)
          try simp only [List.setIfInBounds_toArray, List.set_cons_zero, List.set_cons_succ]
          refine take_slot (i := 2) (d := 51) (v := ?_) rfl rfl (by kernel_rfl) (by kernel_rfl) (by kernel_rfl) (fun _ _ _ h => h) (Or.inl ⟨by rfl, ?_⟩) (by assumption) ?_
          rotate_left 1
          focus (intro wS hSw; (try dsimp only at hSw); go_simp; try with_reducible rfl)
          try simp only [List.setIfInBounds_toArray, List.set_cons_zero, List.set_cons_succ]
          refine take_slot (i := 3) (d := 52) (v := ?_) rfl rfl (by kernel_rfl) (by kernel_rfl) (by kernel_rfl) (fun _ _ _ h => h) (Or.inl ⟨by rfl, ?_⟩) (by assumption) ?_
          rotate_left 1
          focus (intro wS hSw; (try dsimp only at hSw); go_simp; try with_reducible rfl)
          try simp only [List.setIfInBounds_toArray, List.set_cons_zero, List.set_cons_succ]
          refine take_slot (i := 4) (d := 53) (v := ?_) rfl rfl (by kernel_rfl) (by kernel_rfl) (by kernel_rfl) (fun _ _ _ h => h) (Or.inl ⟨by rfl, ?_⟩) (by assumption) ?_
          rotate_left 1
          focus (intro wS hSw; (try dsimp only at hSw); go_simp; try with_reducible rfl)
          try simp only [List.setIfInBounds_toArray, List.set_cons_zero, List.set_cons_succ]
          refine take_slot (i := 5) (d := 54) (v := ?_) rfl rfl (by kernel_rfl) (by kernel_rfl) (by kernel_rfl) (fun _ _ _ h => h) (Or.inl ⟨by rfl, ?_⟩) (by assumption) ?_
          rotate_left 1
          focus (intro wS hSw; (try dsimp only at hSw); go_simp; try with_reducible rfl)
          try simp only [List.setIfInBounds_toArray, List.set_cons_zero, List.set_cons_succ]
          refine take_slot (i := 6) (d := 55) (v := ?_) rfl rfl (by kernel_rfl) (by kernel_rfl) (by kernel_rfl) (fun _ _ _ h => h) (Or.inl ⟨by rfl, ?_⟩) (by assumption) ?_
          rotate_left 1
          focus (intro wS hSw; (try dsimp only at hSw); go_simp; try with_reducible rfl)
          try simp only [List.setIfInBounds_toArray, List.set_cons_zero, List.set_cons_succ]
          refine take_slot (i := 7) (d := 56) (v := ?_) rfl rfl (by kernel_rfl) (by kernel_rfl) (by kernel_rfl) (fun _ _ _ h => h) (Or.inl ⟨by rfl, ?_⟩) (by assumption) ?_
          rotate_left 1
          focus (intro wS hSw; (try dsimp only at hSw); go_simp; try with_reducible rfl)
          try simp only [List.setIfInBounds_toArray, List.set_cons_zero, List.set_cons_succ]
          refine take_slot (i := 11) (d := 60) (v := ?_) rfl rfl (by kernel_rfl) (by kernel_rfl) (by kernel_rfl) (fun _ _ _ h => h) (Or.inl ⟨by rfl, ?_⟩) (by assumption) ?_
          rotate_left 1
          focus (intro wS hSw; (try dsimp only at hSw); go_simp; try with_reducible rfl)
          try simp only [List.setIfInBounds_toArray, List.set_cons_zero, List.set_cons_succ]
          refine take_slot (i := 12) (d := 61) (v := ?_) rfl rfl (by kernel_rfl) (by kernel_rfl) (by kernel_rfl) (fun _ _ _ h => h) (Or.inl ⟨by rfl, ?_⟩) (by assumption) ?_
          rotate_left 1
          focus (intro wS hSw; (try dsimp only at hSw); go_simp; try with_reducible rfl)
          try simp only [List.setIfInBounds_toArray, List.set_cons_zero, List.set_cons_succ]
          refine take_slot (i := 13) (d := 62) (v := ?_) rfl rfl (by kernel_rfl) (by kernel_rfl) (by kernel_rfl) (fun _ _ _ h => h) (Or.inl ⟨by rfl, ?_⟩) (by assumption) ?_
          rotate_left 1
          focus (intro wS hSw; (try dsimp only at hSw); go_simp; try with_reducible rfl)
          try simp only [List.setIfInBounds_toArray, List.set_cons_zero, List.set_cons_succ]
          refine take_slot (i := 14) (d := 63) (v := ?_) rfl rfl (by kernel_rfl) (by kernel_rfl) (by kernel_rfl) (fun _ _ _ h => h) (Or.inl ⟨by rfl, ?_⟩) (by assumption) ?_
          rotate_left 1
          focus (intro wS hSw; (try dsimp only at hSw); go_simp; try with_reducible rfl)
          try simp only [List.setIfInBounds_toArray, List.set_cons_zero, List.set_cons_succ]
          refine take_slot (i := 15) (d := 64) (v := ?_) rfl rfl (by kernel_rfl) (by kernel_rfl) (by kernel_rfl) (fun _ _ _ h => h) (Or.inl ⟨by rfl, ?_⟩) (by assumption) ?_
          rotate_left 1
          focus (intro wS hSw; (try dsimp only at hSw); go_simp; try with_reducible rfl)
          try simp only [List.setIfInBounds_toArray, List.set_cons_zero, List.set_cons_succ]
          refine take_slot (i := 16) (d := 65) (v := ?_) rfl rfl (by kernel_rfl) (by kernel_rfl) (by kernel_rfl) (fun _ _ _ h => h) (Or.inl ⟨by rfl, ?_⟩) (by assumption) ?_
          rotate_left 1
          focus (intro wS hSw; (try dsimp only at hSw); go_simp; try with_reducible rfl)
          try simp only [List.setIfInBounds_toArray, List.set_cons_zero, List.set_cons_succ]
          refine take_slot (i := 17) (d := 66) (v := ?_) rfl rfl (by kernel_rfl) (by kernel_rfl) (by kernel_rfl) (fun _ _ _ h => h) (Or.inl ⟨by rfl, ?_⟩) (by assumption) ?_
          rotate_left 1
          focus (intro wS hSw; (try dsimp only at hSw); go_simp; try with_reducible rfl)
          try simp only [List.setIfInBounds_toArray, List.set_cons_zero, List.set_cons_succ]
          refine take_slot (i := 18) (d := 67) (v := ?_) rfl rfl (by kernel_rfl) (by kernel_rfl) (by kernel_rfl) (fun _ _ _ h => h) (Or.inl ⟨by rfl, ?_⟩) (by assumption) ?_
          rotate_left 1
          focus (intro wS hSw; (try dsimp only at hSw); go_simp; try with_reducible rfl)
          try simp only [List.setIfInBounds_toArray, List.set_cons_zero, List.set_cons_succ]
          refine take_slot (i := 19) (d := 68) (v := ?_) rfl rfl (by kernel_rfl) (by kernel_rfl) (by kernel_rfl) (fun _ _ _ h => h) (Or.inl ⟨by rfl, ?_⟩) (by assumption) ?_
          rotate_left 1
          focus (intro wS hSw; (try dsimp only at hSw); go_simp; try with_reducible rfl)
          try simp only [List.setIfInBounds_toArray, List.set_cons_zero, List.set_cons_succ]
          refine wpAnyH_ready (rs := [8, 20]) (by kernel_rfl) (by simp) ?_
          refine AllReadyH.cons rfl (fun K hK => ?_) (AllReadyH.cons rfl (fun K hK => ?_) AllReadyH.nil)
          · go_simp
            refine (HFL.out _).mono ?_
            rintro e Z1 ⟨rfl, hb⟩
            replace q0 := cell_next hb ng q0
            replace ng := Nat.lt_of_lt_of_le ng hb.size
            replace hL := hL.trans (hb.mono (Nat.le_trans hBW hL.size))
            replace HO := Lib.hid (HO.out.below hb)
            refine hK.out _ _ ⟨q0, trivial⟩ (fun hHeld => ?_)
            clear hK K hb
            try simp only [Act.put, List.setIfInBounds_toArray, List.set_cons_zero, List.set_cons_succ]
            refine wpAnyH_ready (rs := [9, 20]) (by kernel_rfl) (by simp) ?_
            refine AllReadyH.cons rfl (fun K hK => ?_) (AllReadyH.cons rfl (fun K hK => ?_) AllReadyH.nil)
            · go_simp
              have hb := (Below.refl Z1.heap.size Z1).alloc (Nat.le_refl _) (Obj.cells #[.int .i64 q] 3)
              have szZ2 := hL.size
              have ord2ng := ng
              replace q0 := cell_next hb ng q0
              replace ng := Nat.lt_of_lt_of_le ng hb.size
              replace hL := hL.trans (hb.mono (Nat.le_trans hBW hL.size))
              replace HO := Lib.hid (HO.out.below hb)
              have K0 : (Z1.alloc (Obj.cells #[.int .i64 q] 3)).cell? ⟨Z1.heap.size, 0, none⟩ = some (.int .i64 q) := cell_new _ _ _ 0
              have nK : Z1.heap.size < (Z1.alloc (Obj.cells #[.int .i64 q] 3)).heap.size := by simp
              refine hK.out _ _ ⟨q0, trivial⟩ (fun hHeld => ?_)
              clear hK K hb
              generalize Z1.alloc (Obj.cells #[.int .i64 q] 3) = Z2 at *
              try simp only [Act.put, List.setIfInBounds_toArray, List.set_cons_zero, List.set_cons_succ]
              refine wpAnyH_ready (rs := [10, 20]) (by kernel_rfl) (by simp) ?_
              refine AllReadyH.cons rfl (fun K hK => ?_) (AllReadyH.cons rfl (fun K hK => ?_) AllReadyH.nil)
              · refine step_append_d _ 59 rfl rfl (.tmp 49) (.tmp 58) 23 rfl w.heap.size 3 i0 (.int .i64 0) 1 8 Try.underlying23 hi0 hz0 hz1 hz2 rfl (by decide) u8 k (ints (flS n all (ws.take k))) rfl HO.out.1 ⟨Z1.heap.size, 0, none⟩ 1 1 [.int .i64 q] rfl rfl ?_ ?_ (by decide) ?_ ?_ ?_ _ rfl ?_
                · intro j u hj
                  rcases j with _ | j
                  · simp at hj; subst hj; exact K0
                  · simp at hj
                · simp [Value.oneCell']
                · unfold maxLen; omega
                · omega
                · have := hL.size; omega
                intro g5 c5 Z3 hown' hgrow hat hlt'
                replace HO := Lib.hid (HO.out.app5 rfl hown' hgrow hat)
                have hsL := hL.size
                replace q0 := grown_keep hgrow ng (fun e => by have h1 := hob5 _ e; have h2 := hob5a _ e; omega) q0
                replace K0 := grown_keep hgrow nK (fun e => by have h1 := hob5 _ e; have h2 := hob5a _ e; omega) K0
                replace ng := Nat.lt_of_lt_of_le ng hgrow.size
                replace nK := Nat.lt_of_lt_of_le nK hgrow.size
                replace hL := hL.grown hgrow (by omega) (fun g h => hob5a g h)
                refine hK.out _ _ ⟨q0, trivial⟩ (fun hHeld => ?_)
                clear hK K hown' hgrow hat hlt' hsL
                try simp only [Act.put, List.setIfInBounds_toArray, List.set_cons_zero, List.set_cons_succ]
                refine wpAnyH_ready (rs := [20]) (by kernel_rfl) (by simp) ?_
                refine AllReadyH.cons rfl (fun K hK => ?_) AllReadyH.nil
                go_simp
                have hb := (Below.refl Z3.heap.size Z3).alloc (Nat.le_refl _) (Obj.cells #[.int .i64 r] 3)
                have szZ4 := hL.size
                have ord4ng := ng
                have ord4nK := nK
                replace q0 := cell_next hb ng q0
                replace K0 := cell_next hb nK K0
                replace ng := Nat.lt_of_lt_of_le ng hb.size
                replace nK := Nat.lt_of_lt_of_le nK hb.size
                replace hL := hL.trans (hb.mono (Nat.le_trans hBW hL.size))
                replace HO := Lib.hid (HO.out.below hb)
                have J0 : (Z3.alloc (Obj.cells #[.int .i64 r] 3)).cell? ⟨Z3.heap.size, 0, none⟩ = some (.int .i64 r) := cell_new _ _ _ 0
                have nJ : Z3.heap.size < (Z3.alloc (Obj.cells #[.int .i64 r] 3)).heap.size := by simp
                refine hK.out _ _ ⟨q0, trivial⟩ (fun hHeld => ?_)
                clear hK K hb
                generalize Z3.alloc (Obj.cells #[.int .i64 r] 3) = Z4 at *
                try simp only [Act.put, List.setIfInBounds_toArray, List.set_cons_zero, List.set_cons_succ]
                refine wpAnyH_ready (rs := [21]) (by kernel_rfl) (by simp) ?_
                refine AllReadyH.cons rfl (fun K hK => ?_) AllReadyH.nil
                refine step_append_d _ 70 rfl rfl (.tmp 60) (.tmp 69) 23 rfl w.heap.size 3 i0 (.int .i64 0) 1 8 Try.underlying23 hi0 hz0 hz1 hz2 rfl (by decide) u9 k (ints (rsS n all (ws.take k))) rfl HO.out.2.1 ⟨Z3.heap.size, 0, none⟩ 1 1 [.int .i64 r] rfl rfl ?_ ?_ (by decide) ?_ ?_ ?_ _ rfl ?_
                · intro j u hj
                  rcases j with _ | j
                  · simp at hj; subst hj; exact J0
                  · simp at hj
                · simp [Value.oneCell']
                · unfold maxLen; omega
                · omega
                · have := hL.size; omega
                intro g6 c6 Z5 hown' hgrow hat hlt'
                replace HO := Lib.hid (HO.out.app6 rfl hown' hgrow hat)
                have hsL := hL.size
                replace q0 := grown_keep hgrow ng (fun e => by have h1 := hob6 _ e; have h2 := hob6a _ e; omega) q0
                replace K0 := grown_keep hgrow nK (fun e => by have h1 := hob6 _ e; have h2 := hob6a _ e; omega) K0
                replace J0 := grown_keep hgrow nJ (fun e => by have h1 := hob6 _ e; have h2 := hob6a _ e; omega) J0
                replace ng := Nat.lt_of_lt_of_le ng hgrow.size
                replace nK := Nat.lt_of_lt_of_le nK hgrow.size
                replace nJ := Nat.lt_of_lt_of_le nJ hgrow.size
                replace hL := hL.grown hgrow (by omega) (fun g h => hob6a g h)
                refine hK.out _ _ ⟨q0, trivial⟩ (fun hHeld => ?_)
                clear hK K hown' hgrow hat hlt' hsL
                try simp only [Act.put, List.setIfInBounds_toArray, List.set_cons_zero, List.set_cons_succ]
                refine take_slot (i := 22) (d := 8) (v := ?_) rfl rfl (by kernel_rfl) (by kernel_rfl) (by kernel_rfl) (fun _ _ _ h => h) (Or.inl ⟨by rfl, ?_⟩) (by assumption) ?_
                rotate_left 1
                focus (intro wS hSw; (try dsimp only at hSw); go_simp; try with_reducible rfl)
                try simp only [List.setIfInBounds_toArray, List.set_cons_zero, List.set_cons_succ]
                refine take_slot (i := 23) (d := 9) (v := ?_) rfl rfl (by kernel_rfl) (by kernel_rfl) (by kernel_rfl) (fun _ _ _ h => h) (Or.inl ⟨by rfl, ?_⟩) (by assumption) ?_
                rotate_left 1
                focus (intro wS hSw; (try dsimp only at hSw); go_simp; try with_reducible rfl)
                try simp only [List.setIfInBounds_toArray, List.set_cons_zero, List.set_cons_succ]
                refine wpAnyH_done (by kernel_rfl) ?_ _
                have hbo : Below w.heap.size w Z5 := hbr.trans hL
                have HN : Hid (R2 w.heap.size Z5 (.slice (some ⟨g5, 0, none⟩) (k + 1) c5) (.slice (some ⟨g6, 0, none⟩) (k + 1) c6) (k + 1) (k + 1) (ints (flS n all (ws.take (k + 1)))) (ints (rsS n all (ws.take (k + 1))))) := Lib.hid (by rw [HS1.out, HT1.out, ints_append, ints_append]; exact HO.out)
                have hck : Z5.cell? ⟨g5, k, none⟩ = some (.int .i64 q) := by
                  have h := HN.out.1.cellAt k (by omega)
                  rw [h, HS1.out]
                  simp [ints, flS_length, HTL.out]
                clear hHeld hL HO q0 ng hob5 hob6 hob5a hob6a K0 J0 nK nJ
                go_wp2_with fail
                go_roundw
                case rel => exact ⟨k + 1, l - q, by omega, by go_num, rfl, hl6, by omega, by omega, HN, hbo⟩
                case measure => simp [RowKit.intOf]; omega
              · go_simp
                have hb := (Below.refl Z2.heap.size Z2).alloc (Nat.le_refl _) (Obj.cells #[.int .i64 r] 3)
                have szZ6 := hL.size
                have ord6ng := ng
                have ord6nK := nK
                replace q0 := cell_next hb ng q0
                replace K0 := cell_next hb nK K0
                replace ng := Nat.lt_of_lt_of_le ng hb.size
                replace nK := Nat.lt_of_lt_of_le nK hb.size
                replace hL := hL.trans (hb.mono (Nat.le_trans hBW hL.size))
                replace HO := Lib.hid (HO.out.below hb)
                have J0 : (Z2.alloc (Obj.cells #[.int .i64 r] 3)).cell? ⟨Z2.heap.size, 0, none⟩ = some (.int .i64 r) := cell_new _ _ _ 0
                have nJ : Z2.heap.size < (Z2.alloc (Obj.cells #[.int .i64 r] 3)).heap.size := by simp
                refine hK.out _ _ ⟨q0, trivial⟩ (fun hHeld => ?_)
                clear hK K hb
                generalize Z2.alloc (Obj.cells #[.int .i64 r] 3) = Z6 at *
                try simp only [Act.put, List.setIfInBounds_toArray, List.set_cons_zero, List.set_cons_succ]
                refine wpAnyH_ready (rs := [10]) (by kernel_rfl) (by simp) ?_
                refine AllReadyH.cons rfl (fun K hK => ?_) AllReadyH.nil
                refine step_append_d _ 59 rfl rfl (.tmp 49) (.tmp 58) 23 rfl w.heap.size 3 i0 (.int .i64 0) 1 8 Try.underlying23 hi0 hz0 hz1 hz2 rfl (by decide) u8 k (ints (flS n all (ws.take k))) rfl HO.out.1 ⟨Z1.heap.size, 0, none⟩ 1 1 [.int .i64 q] rfl rfl ?_ ?_ (by decide) ?_ ?_ ?_ _ rfl ?_
                · intro j u hj
                  rcases j with _ | j
                  · simp at hj; subst hj; exact K0
                  · simp at hj
                · simp [Value.oneCell']
                · unfold maxLen; omega
                · omega
                · have := hL.size; omega
                intro g5 c5 Z7 hown' hgrow hat hlt'
                replace HO := Lib.hid (HO.out.app5 rfl hown' hgrow hat)
                have hsL := hL.size
                replace q0 := grown_keep hgrow ng (fun e => by have h1 := hob5 _ e; have h2 := hob5a _ e; omega) q0
                replace K0 := grown_keep hgrow nK (fun e => by have h1 := hob5 _ e; have h2 := hob5a _ e; omega) K0
                replace J0 := grown_keep hgrow nJ (fun e => by have h1 := hob5 _ e; have h2 := hob5a _ e; omega) J0
                replace ng := Nat.lt_of_lt_of_le ng hgrow.size
                replace nK := Nat.lt_of_lt_of_le nK hgrow.size
                replace nJ := Nat.lt_of_lt_of_le nJ hgrow.size
                replace hL := hL.grown hgrow (by omega) (fun g h => hob5a g h)
                refine hK.out _ _ ⟨q0, trivial⟩ (fun hHeld => ?_)
                clear hK K hown' hgrow hat hlt' hsL
                try simp only [Act.put, List.setIfInBounds_toArray, List.set_cons_zero, List.set_cons_succ]
                refine wpAnyH_ready (rs := [21]) (by kernel_rfl) (by simp) ?_
                refine AllReadyH.cons rfl (fun K hK => ?_) AllReadyH.nil
                refine step_append_d _ 70 rfl rfl (.tmp 60) (.tmp 69) 23 rfl w.heap.size 3 i0 (.int .i64 0) 1 8 Try.underlying23 hi0 hz0 hz1 hz2 rfl (by decide) u9 k (ints (rsS n all (ws.take k))) rfl HO.out.2.1 ⟨Z2.heap.size, 0, none⟩ 1 1 [.int .i64 r] rfl rfl ?_ ?_ (by decide) ?_ ?_ ?_ _ rfl ?_
                · intro j u hj
                  rcases j with _ | j
                  · simp at hj; subst hj; exact J0
                  · simp at hj
                · simp [Value.oneCell']
                · unfold maxLen; omega
                · omega
                · have := hL.size; omega
                intro g6 c6 Z8 hown' hgrow hat hlt'
                replace HO := Lib.hid (HO.out.app6 rfl hown' hgrow hat)
                have hsL := hL.size
                replace q0 := grown_keep hgrow ng (fun e => by have h1 := hob6 _ e; have h2 := hob6a _ e; omega) q0
                replace K0 := grown_keep hgrow nK (fun e => by have h1 := hob6 _ e; have h2 := hob6a _ e; omega) K0
                replace J0 := grown_keep hgrow nJ (fun e => by have h1 := hob6 _ e; have h2 := hob6a _ e; omega) J0
                replace ng := Nat.lt_of_lt_of_le ng hgrow.size
                replace nK := Nat.lt_of_lt_of_le nK hgrow.size
                replace nJ := Nat.lt_of_lt_of_le nJ hgrow.size
                replace hL := hL.grown hgrow (by omega) (fun g h => hob6a g h)
                refine hK.out _ _ ⟨q0, trivial⟩ (fun hHeld => ?_)
                clear hK K hown' hgrow hat hlt' hsL
                try simp only [Act.put, List.setIfInBounds_toArray, List.set_cons_zero, List.set_cons_succ]
                refine take_slot (i := 22) (d := 8) (v := ?_) rfl rfl (by kernel_rfl) (by kernel_rfl) (by kernel_rfl) (fun _ _ _ h => h) (Or.inl ⟨by rfl, ?_⟩) (by assumption) ?_
                rotate_left 1
                focus (intro wS hSw; (try dsimp only at hSw); go_simp; try with_reducible rfl)
                try simp only [List.setIfInBounds_toArray, List.set_cons_zero, List.set_cons_succ]
                refine take_slot (i := 23) (d := 9) (v := ?_) rfl rfl (by kernel_rfl) (by kernel_rfl) (by kernel_rfl) (fun _ _ _ h => h) (Or.inl ⟨by rfl, ?_⟩) (by assumption) ?_
                rotate_left 1
                focus (intro wS hSw; (try dsimp only at hSw); go_simp; try with_reducible rfl)
                try simp only [List.setIfInBounds_toArray, List.set_cons_zero, List.set_cons_succ]
                refine wpAnyH_done (by kernel_rfl) ?_ _
                have hbo : Below w.heap.size w Z8 := hbr.trans hL
                have HN : Hid (R2 w.heap.size Z8 (.slice (some ⟨g5, 0, none⟩) (k + 1) c5) (.slice (some ⟨g6, 0, none⟩) (k + 1) c6) (k + 1) (k + 1) (ints (flS n all (ws.take (k + 1)))) (ints (rsS n all (ws.take (k + 1))))) := Lib.hid (by rw [HS1.out, HT1.out, ints_append, ints_append]; exact HO.out)
                have hck : Z8.cell? ⟨g5, k, none⟩ = some (.int .i64 q) := by
                  have h := HN.out.1.cellAt k (by omega)
                  rw [h, HS1.out]
                  simp [ints, flS_length, HTL.out]
                clear hHeld hL HO q0 ng hob5 hob6 hob5a hob6a K0 J0 nK nJ
                go_wp2_with fail
                go_roundw
                case rel => exact ⟨k + 1, l - q, by omega, by go_num, rfl, hl6, by omega, by omega, HN, hbo⟩
                case measure => simp [RowKit.intOf]; omega
            · go_simp
              have hb := (Below.refl Z1.heap.size Z1).alloc (Nat.le_refl _) (Obj.cells #[.int .i64 r] 3)
              have szZ9 := hL.size
              have ord9ng := ng
              replace q0 := cell_next hb ng q0
              replace ng := Nat.lt_of_lt_of_le ng hb.size
              replace hL := hL.trans (hb.mono (Nat.le_trans hBW hL.size))
              replace HO := Lib.hid (HO.out.below hb)
              have J0 : (Z1.alloc (Obj.cells #[.int .i64 r] 3)).cell? ⟨Z1.heap.size, 0, none⟩ = some (.int .i64 r) := cell_new _ _ _ 0
              have nJ : Z1.heap.size < (Z1.alloc (Obj.cells #[.int .i64 r] 3)).heap.size := by simp
              refine hK.out _ _ ⟨q0, trivial⟩ (fun hHeld => ?_)
              clear hK K hb
              generalize Z1.alloc (Obj.cells #[.int .i64 r] 3) = Z9 at *
              try simp only [Act.put, List.setIfInBounds_toArray, List.set_cons_zero, List.set_cons_succ]
              refine wpAnyH_ready (rs := [9]) (by kernel_rfl) (by simp) ?_
              refine AllReadyH.cons rfl (fun K hK => ?_) AllReadyH.nil
              go_simp
              have hb := (Below.refl Z9.heap.size Z9).alloc (Nat.le_refl _) (Obj.cells #[.int .i64 q] 3)
              have szZ10 := hL.size
              have ord10ng := ng
              have ord10nJ := nJ
              replace q0 := cell_next hb ng q0
              replace J0 := cell_next hb nJ J0
              replace ng := Nat.lt_of_lt_of_le ng hb.size
              replace nJ := Nat.lt_of_lt_of_le nJ hb.size
              replace hL := hL.trans (hb.mono (Nat.le_trans hBW hL.size))
              replace HO := Lib.hid (HO.out.below hb)
              have K0 : (Z9.alloc (Obj.cells #[.int .i64 q] 3)).cell? ⟨Z9.heap.size, 0, none⟩ = some (.int .i64 q) := cell_new _ _ _ 0
              have nK : Z9.heap.size < (Z9.alloc (Obj.cells #[.int .i64 q] 3)).heap.size := by simp
              refine hK.out _ _ ⟨q0, trivial⟩ (fun hHeld => ?_)
              clear hK K hb
              generalize Z9.alloc (Obj.cells #[.int .i64 q] 3) = Z10 at *
              try simp only [Act.put, List.setIfInBounds_toArray, List.set_cons_zero, List.set_cons_succ]
              refine wpAnyH_ready (rs := [10]) (by kernel_rfl) (by simp) ?_
              refine AllReadyH.cons rfl (fun K hK => ?_) AllReadyH.nil
              refine step_append_d _ 59 rfl rfl (.tmp 49) (.tmp 58) 23 rfl w.heap.size 3 i0 (.int .i64 0) 1 8 Try.underlying23 hi0 hz0 hz1 hz2 rfl (by decide) u8 k (ints (flS n all (ws.take k))) rfl HO.out.1 ⟨Z9.heap.size, 0, none⟩ 1 1 [.int .i64 q] rfl rfl ?_ ?_ (by decide) ?_ ?_ ?_ _ rfl ?_
              · intro j u hj
                rcases j with _ | j
                · simp at hj; subst hj; exact K0
                · simp at hj
              · simp [Value.oneCell']
              · unfold maxLen; omega
              · omega
              · have := hL.size; omega
              intro g5 c5 Z11 hown' hgrow hat hlt'
              replace HO := Lib.hid (HO.out.app5 rfl hown' hgrow hat)
              have hsL := hL.size
              replace q0 := grown_keep hgrow ng (fun e => by have h1 := hob5 _ e; have h2 := hob5a _ e; omega) q0
              replace J0 := grown_keep hgrow nJ (fun e => by have h1 := hob5 _ e; have h2 := hob5a _ e; omega) J0
              replace K0 := grown_keep hgrow nK (fun e => by have h1 := hob5 _ e; have h2 := hob5a _ e; omega) K0
              replace ng := Nat.lt_of_lt_of_le ng hgrow.size
              replace nJ := Nat.lt_of_lt_of_le nJ hgrow.size
              replace nK := Nat.lt_of_lt_of_le nK hgrow.size
              replace hL := hL.grown hgrow (by omega) (fun g h => hob5a g h)
              refine hK.out _ _ ⟨q0, trivial⟩ (fun hHeld => ?_)
              clear hK K hown' hgrow hat hlt' hsL
              try simp only [Act.put, List.setIfInBounds_toArray, List.set_cons_zero, List.set_cons_succ]
              refine wpAnyH_ready (rs := [21]) (by kernel_rfl) (by simp) ?_
              refine AllReadyH.cons rfl (fun K hK => ?_) AllReadyH.nil
              refine step_append_d _ 70 rfl rfl (.tmp 60) (.tmp 69) 23 rfl w.heap.size 3 i0 (.int .i64 0) 1 8 Try.underlying23 hi0 hz0 hz1 hz2 rfl (by decide) u9 k (ints (rsS n all (ws.take k))) rfl HO.out.2.1 ⟨Z1.heap.size, 0, none⟩ 1 1 [.int .i64 r] rfl rfl ?_ ?_ (by decide) ?_ ?_ ?_ _ rfl ?_
              · intro j u hj
                rcases j with _ | j
                · simp at hj; subst hj; exact J0
                · simp at hj
              · simp [Value.oneCell']
              · unfold maxLen; omega
              · omega
              · have := hL.size; omega
              intro g6 c6 Z12 hown' hgrow hat hlt'
              replace HO := Lib.hid (HO.out.app6 rfl hown' hgrow hat)
              have hsL := hL.size
              replace q0 := grown_keep hgrow ng (fun e => by have h1 := hob6 _ e; have h2 := hob6a _ e; omega) q0
              replace J0 := grown_keep hgrow nJ (fun e => by have h1 := hob6 _ e; have h2 := hob6a _ e; omega) J0
              replace K0 := grown_keep hgrow nK (fun e => by have h1 := hob6 _ e; have h2 := hob6a _ e; omega) K0
              replace ng := Nat.lt_of_lt_of_le ng hgrow.size
              replace nJ := Nat.lt_of_lt_of_le nJ hgrow.size
              replace nK := Nat.lt_of_lt_of_le nK hgrow.size
              replace hL := hL.grown hgrow (by omega) (fun g h => hob6a g h)
              refine hK.out _ _ ⟨q0, trivial⟩ (fun hHeld => ?_)
              clear hK K hown' hgrow hat hlt' hsL
              try simp only [Act.put, List.setIfInBounds_toArray, List.set_cons_zero, List.set_cons_succ]
              refine take_slot (i := 22) (d := 8) (v := ?_) rfl rfl (by kernel_rfl) (by kernel_rfl) (by kernel_rfl) (fun _ _ _ h => h) (Or.inl ⟨by rfl, ?_⟩) (by assumption) ?_
              rotate_left 1
              focus (intro wS hSw; (try dsimp only at hSw); go_simp; try with_reducible rfl)
              try simp only [List.setIfInBounds_toArray, List.set_cons_zero, List.set_cons_succ]
              refine take_slot (i := 23) (d := 9) (v := ?_) rfl rfl (by kernel_rfl) (by kernel_rfl) (by kernel_rfl) (fun _ _ _ h => h) (Or.inl ⟨by rfl, ?_⟩) (by assumption) ?_
              rotate_left 1
              focus (intro wS hSw; (try dsimp only at hSw); go_simp; try with_reducible rfl)
              try simp only [List.setIfInBounds_toArray, List.set_cons_zero, List.set_cons_succ]
              refine wpAnyH_done (by kernel_rfl) ?_ _
              have hbo : Below w.heap.size w Z12 := hbr.trans hL
              have HN : Hid (R2 w.heap.size Z12 (.slice (some ⟨g5, 0, none⟩) (k + 1) c5) (.slice (some ⟨g6, 0, none⟩) (k + 1) c6) (k + 1) (k + 1) (ints (flS n all (ws.take (k + 1)))) (ints (rsS n all (ws.take (k + 1))))) := Lib.hid (by rw [HS1.out, HT1.out, ints_append, ints_append]; exact HO.out)
              have hck : Z12.cell? ⟨g5, k, none⟩ = some (.int .i64 q) := by
                have h := HN.out.1.cellAt k (by omega)
                rw [h, HS1.out]
                simp [ints, flS_length, HTL.out]
              clear hHeld hL HO q0 ng hob5 hob6 hob5a hob6a K0 J0 nK nJ
              go_wp2_with fail
              go_roundw
              case rel => exact ⟨k + 1, l - q, by omega, by go_num, rfl, hl6, by omega, by omega, HN, hbo⟩
              case measure => simp [RowKit.intOf]; omega
          · go_simp
            have hb := (Below.refl wd.heap.size wd).alloc (Nat.le_refl _) (Obj.cells #[.int .i64 r] 3)
            have szZ13 := hL.size
            have ord13ng := ng
            replace q0 := cell_next hb ng q0
            replace ng := Nat.lt_of_lt_of_le ng hb.size
            replace hL := hL.trans (hb.mono (Nat.le_trans hBW hL.size))
            replace HO := Lib.hid (HO.out.below hb)
            have J0 : (wd.alloc (Obj.cells #[.int .i64 r] 3)).cell? ⟨wd.heap.size, 0, none⟩ = some (.int .i64 r) := cell_new _ _ _ 0
            have nJ : wd.heap.size < (wd.alloc (Obj.cells #[.int .i64 r] 3)).heap.size := by simp
            refine hK.out _ _ ⟨q0, trivial⟩ (fun hHeld => ?_)
            clear hK K hb
            generalize wd.alloc (Obj.cells #[.int .i64 r] 3) = Z13 at *
            try simp only [Act.put, List.setIfInBounds_toArray, List.set_cons_zero, List.set_cons_succ]
            refine wpAnyH_ready (rs := [8]) (by kernel_rfl) (by simp) ?_
            refine AllReadyH.cons rfl (fun K hK => ?_) AllReadyH.nil
            go_simp
            refine (HFL.out _).mono ?_
            rintro e Z14 ⟨rfl, hb⟩
            replace q0 := cell_next hb ng q0
            replace J0 := cell_next hb nJ J0
            replace ng := Nat.lt_of_lt_of_le ng hb.size
            replace nJ := Nat.lt_of_lt_of_le nJ hb.size
            replace hL := hL.trans (hb.mono (Nat.le_trans hBW hL.size))
            replace HO := Lib.hid (HO.out.below hb)
            refine hK.out _ _ ⟨q0, trivial⟩ (fun hHeld => ?_)
            clear hK K hb
            try simp only [Act.put, List.setIfInBounds_toArray, List.set_cons_zero, List.set_cons_succ]
            refine wpAnyH_ready (rs := [9]) (by kernel_rfl) (by simp) ?_
            refine AllReadyH.cons rfl (fun K hK => ?_) AllReadyH.nil
            go_simp
            have hb := (Below.refl Z14.heap.size Z14).alloc (Nat.le_refl _) (Obj.cells #[.int .i64 q] 3)
            have szZ15 := hL.size
            have ord15ng := ng
            have ord15nJ := nJ
            replace q0 := cell_next hb ng q0
            replace J0 := cell_next hb nJ J0
            replace ng := Nat.lt_of_lt_of_le ng hb.size
            replace nJ := Nat.lt_of_lt_of_le nJ hb.size
            replace hL := hL.trans (hb.mono (Nat.le_trans hBW hL.size))
            replace HO := Lib.hid (HO.out.below hb)
            have K0 : (Z14.alloc (Obj.cells #[.int .i64 q] 3)).cell? ⟨Z14.heap.size, 0, none⟩ = some (.int .i64 q) := cell_new _ _ _ 0
            have nK : Z14.heap.size < (Z14.alloc (Obj.cells #[.int .i64 q] 3)).heap.size := by simp
            refine hK.out _ _ ⟨q0, trivial⟩ (fun hHeld => ?_)
            clear hK K hb
            generalize Z14.alloc (Obj.cells #[.int .i64 q] 3) = Z15 at *
            try simp only [Act.put, List.setIfInBounds_toArray, List.set_cons_zero, List.set_cons_succ]
            refine wpAnyH_ready (rs := [10]) (by kernel_rfl) (by simp) ?_
            refine AllReadyH.cons rfl (fun K hK => ?_) AllReadyH.nil
            refine step_append_d _ 59 rfl rfl (.tmp 49) (.tmp 58) 23 rfl w.heap.size 3 i0 (.int .i64 0) 1 8 Try.underlying23 hi0 hz0 hz1 hz2 rfl (by decide) u8 k (ints (flS n all (ws.take k))) rfl HO.out.1 ⟨Z14.heap.size, 0, none⟩ 1 1 [.int .i64 q] rfl rfl ?_ ?_ (by decide) ?_ ?_ ?_ _ rfl ?_
            · intro j u hj
              rcases j with _ | j
              · simp at hj; subst hj; exact K0
              · simp at hj
            · simp [Value.oneCell']
            · unfold maxLen; omega
            · omega
            · have := hL.size; omega
            intro g5 c5 Z16 hown' hgrow hat hlt'
            replace HO := Lib.hid (HO.out.app5 rfl hown' hgrow hat)
            have hsL := hL.size
            replace q0 := grown_keep hgrow ng (fun e => by have h1 := hob5 _ e; have h2 := hob5a _ e; omega) q0
            replace J0 := grown_keep hgrow nJ (fun e => by have h1 := hob5 _ e; have h2 := hob5a _ e; omega) J0
            replace K0 := grown_keep hgrow nK (fun e => by have h1 := hob5 _ e; have h2 := hob5a _ e; omega) K0
            replace ng := Nat.lt_of_lt_of_le ng hgrow.size
            replace nJ := Nat.lt_of_lt_of_le nJ hgrow.size
            replace nK := Nat.lt_of_lt_of_le nK hgrow.size
            replace hL := hL.grown hgrow (by omega) (fun g h => hob5a g h)
            refine hK.out _ _ ⟨q0, trivial⟩ (fun hHeld => ?_)
            clear hK K hown' hgrow hat hlt' hsL
            try simp only [Act.put, List.setIfInBounds_toArray, List.set_cons_zero, List.set_cons_succ]
            refine wpAnyH_ready (rs := [21]) (by kernel_rfl) (by simp) ?_
            refine AllReadyH.cons rfl (fun K hK => ?_) AllReadyH.nil
            refine step_append_d _ 70 rfl rfl (.tmp 60) (.tmp 69) 23 rfl w.heap.size 3 i0 (.int .i64 0) 1 8 Try.underlying23 hi0 hz0 hz1 hz2 rfl (by decide) u9 k (ints (rsS n all (ws.take k))) rfl HO.out.2.1 ⟨wd.heap.size, 0, none⟩ 1 1 [.int .i64 r] rfl rfl ?_ ?_ (by decide) ?_ ?_ ?_ _ rfl ?_
            · intro j u hj
              rcases j with _ | j
              · simp at hj; subst hj; exact J0
              · simp at hj
            · simp [Value.oneCell']
            · unfold maxLen; omega
            · omega
            · have := hL.size; omega
            intro g6 c6 Z17 hown' hgrow hat hlt'
            replace HO := Lib.hid (HO.out.app6 rfl hown' hgrow hat)
            have hsL := hL.size
            replace q0 := grown_keep hgrow ng (fun e => by have h1 := hob6 _ e; have h2 := hob6a _ e; omega) q0
            replace J0 := grown_keep hgrow nJ (fun e => by have h1 := hob6 _ e; have h2 := hob6a _ e; omega) J0
            replace K0 := grown_keep hgrow nK (fun e => by have h1 := hob6 _ e; have h2 := hob6a _ e; omega) K0
            replace ng := Nat.lt_of_lt_of_le ng hgrow.size
            replace nJ := Nat.lt_of_lt_of_le nJ hgrow.size
            replace nK := Nat.lt_of_lt_of_le nK hgrow.size
            replace hL := hL.grown hgrow (by omega) (fun g h => hob6a g h)
            refine hK.out _ _ ⟨q0, trivial⟩ (fun hHeld => ?_)
            clear hK K hown' hgrow hat hlt' hsL
            try simp only [Act.put, List.setIfInBounds_toArray, List.set_cons_zero, List.set_cons_succ]
            refine take_slot (i := 22) (d := 8) (v := ?_) rfl rfl (by kernel_rfl) (by kernel_rfl) (by kernel_rfl) (fun _ _ _ h => h) (Or.inl ⟨by rfl, ?_⟩) (by assumption) ?_
            rotate_left 1
            focus (intro wS hSw; (try dsimp only at hSw); go_simp; try with_reducible rfl)
            try simp only [List.setIfInBounds_toArray, List.set_cons_zero, List.set_cons_succ]
            refine take_slot (i := 23) (d := 9) (v := ?_) rfl rfl (by kernel_rfl) (by kernel_rfl) (by kernel_rfl) (fun _ _ _ h => h) (Or.inl ⟨by rfl, ?_⟩) (by assumption) ?_
            rotate_left 1
            focus (intro wS hSw; (try dsimp only at hSw); go_simp; try with_reducible rfl)
            try simp only [List.setIfInBounds_toArray, List.set_cons_zero, List.set_cons_succ]
            refine wpAnyH_done (by kernel_rfl) ?_ _
            have hbo : Below w.heap.size w Z17 := hbr.trans hL
            have HN : Hid (R2 w.heap.size Z17 (.slice (some ⟨g5, 0, none⟩) (k + 1) c5) (.slice (some ⟨g6, 0, none⟩) (k + 1) c6) (k + 1) (k + 1) (ints (flS n all (ws.take (k + 1)))) (ints (rsS n all (ws.take (k + 1))))) := Lib.hid (by rw [HS1.out, HT1.out, ints_append, ints_append]; exact HO.out)
            have hck : Z17.cell? ⟨g5, k, none⟩ = some (.int .i64 q) := by
              have h := HN.out.1.cellAt k (by omega)
              rw [h, HS1.out]
              simp [ints, flS_length, HTL.out]
            clear hHeld hL HO q0 ng hob5 hob6 hob5a hob6a K0 J0 nK nJ
            go_wp2_with fail
            go_roundw
            case rel => exact ⟨k + 1, l - q, by omega, by go_num, rfl, hl6, by omega, by omega, HN, hbo⟩
            case measure => simp [RowKit.intOf]; omega
        · obtain rfl : m = k := by omega
          have hT : ws.take m = ws := List.take_of_length_le (by rw [Hm.out]; exact Nat.le_refl _)
          rw [hT] at hlv HO
          obtain ⟨g8, c8, rfl, hg8, hg8'⟩ := own_open HO.out.1 l1
          obtain ⟨g9, c9, rfl, hg9, hg9'⟩ := own_open HO.out.2.1 l1
          have hll : l = (lf : Int) := by rw [hlv.out, hlfz.out]
          subst hll
          have HFB : Hid (∀ t, ∀ y ∈ bump (flS n all ws) ((odZ (rsS n all ws)).take t), 0 ≤ y ∧ y ≤ 2000000000000 + ((((odZ (rsS n all ws)).take t).length : Nat) : Int)) := Lib.hid fun t => bump_bd 2000000000000 _ _ (by omega) (fun y hy => by
            obtain ⟨z, hz, rfl⟩ := List.mem_map.1 hy
            have := (HQ.out z hz).1
            exact ⟨this.lo, this.hi⟩)
          have HOL : Hid ((odZ (rsS n all ws)).length = m) := Lib.hid (by rw [odZ_length, rsS_length, Hm.out])
          have HRL : Hid ((rsS n all ws).length = m) := Lib.hid (by rw [rsS_length, Hm.out])
          have HFLn : Hid ((flS n all ws).length = m) := Lib.hid (by rw [flS_length, Hm.out])
          have HPK : Hid (∀ t b, t < m → b < m → (∀ j, j < m → (markL (rsS n all ws) ((odZ (rsS n all ws)).take t)).getD j 0 < (markL (rsS n all ws) ((odZ (rsS n all ws)).take t)).getD b 0 ∨ ((markL (rsS n all ws) ((odZ (rsS n all ws)).take t)).getD j 0 = (markL (rsS n all ws) ((odZ (rsS n all ws)).take t)).getD b 0 ∧ b ≤ j)) →
              (odZ (rsS n all ws)).take (t + 1) = (odZ (rsS n all ws)).take t ++ [(b : Int)]) := Lib.hid fun t b h1 h2 h3 => by
            have hl := HRL.out
            exact pick_next (rsS n all ws) (fun z hz => by
              obtain ⟨y, hy, rfl⟩ := List.mem_map.1 hz
              exact (HQ.out y hy).1.rlo) t b (by omega) (by omega) (fun j hj => h3 j (by omega))
          clear hlv hl1 hl2 HQ hdz a1 a2 hne hlt hT
          generalize hod : odZ (rsS n all ws) = od at *
          generalize hrs : rsS n all ws = rs at *
          generalize hfs : flS n all ws = fs at *
          clear hod hrs hfs
          have h0 : Hid (R2 w.heap.size wr (.slice (some ⟨g8, 0, none⟩) m c8) (.slice (some ⟨g9, 0, none⟩) m c9) m m (ints (bump fs (od.take 0))) (ints (markL rs (od.take 0)))) := Lib.hid (by simpa [bump, markL] using HO.out)
          clear HO
          go_wp2_with fail
          go_loopw [10] (fun lv wx => ∃ t l : Nat, t + l = lf ∧ lv = .int .i64 l ∧ Hid (R2 w.heap.size wx (.slice (some ⟨g8, 0, none⟩) m c8) (.slice (some ⟨g9, 0, none⟩) m c9) m m (ints (bump fs (od.take t))) (ints (markL rs (od.take t)))) ∧ Below w.heap.size w wx) (fun lv _ => (RowKit.intOf lv).toNat)
          case atStart => exact ⟨0, lf, Nat.zero_add _, rfl, h0, hbr⟩
          case round =>
            clear h0 hbr hBW hg8' hg9'
            obtain ⟨t, l, htl, rfl, HO, hbr⟩ := hrel
            have htl' := Lib.hid htl
            clear htl
            rcases Nat.eq_zero_or_pos l with rfl | hlp
            · have htf : t = lf := by have := htl'.out; omega
              have hfin : wr.ownsRow w.heap.size 3 1 (.slice (some ⟨g8, 0, none⟩) m c8) sv.length (ints sv) := by
                have h := HO.out.1
                rw [htf, ← HSVV.out] at h
                have hlen : sv.length = m := by rw [HSVV.out, bump_length, HFLn.out]
                rw [hlen]
                exact h
              have HFIN := Lib.hid hfin
              clear hfin htf HO
              go_wp2_with fail
              go_ret2
              exact ⟨_, rfl, HFIN.out, hbr⟩
            · have hlz : (0 : Int) < (l : Int) := by omega
              go_wp2_with fail
              obtain ⟨wo, hwo⟩ : ∃ wo : World, wo = wr := ⟨_, rfl⟩
              subst hwo
              have hML : Hid ((markL rs (od.take t)).length = m) := Lib.hid (by rw [markL_length, HRL.out])
              go_loopw [12, 13] (fun bv iv wy => ∃ b i : Nat, b < m ∧ b ≤ i ∧ i ≤ m ∧ bv = .int .i64 b ∧ iv = .int .i64 i ∧ Hid (∀ j, j < i → (markL rs (od.take t)).getD j 0 < (markL rs (od.take t)).getD b 0 ∨ ((markL rs (od.take t)).getD j 0 = (markL rs (od.take t)).getD b 0 ∧ b ≤ j)) ∧
                Hid (R2 w.heap.size wy (.slice (some ⟨g8, 0, none⟩) m c8) (.slice (some ⟨g9, 0, none⟩) m c9) m m (ints (bump fs (od.take t))) (ints (markL rs (od.take t)))) ∧ Below w.heap.size w wy) (fun _ iv _ => m - (RowKit.intOf iv).toNat)
              case atStart => exact ⟨0, 0, l1, Nat.le_refl _, Nat.zero_le _, rfl, rfl, Lib.hid (fun j hj => by omega), HO, hbr⟩
              case round =>
                clear HO hbr
                obtain ⟨b, i, hbm, hbi, him, rfl, rfl, hbest, HO, hbr⟩ := hrel
                by_cases hlt : (i : Int) < (m : Int)
                · obtain ⟨x, hx⟩ : ∃ x, (markL rs (od.take t)).getD i 0 = x := ⟨_, rfl⟩
                  obtain ⟨y, hy⟩ : ∃ y, (markL rs (od.take t)).getD b 0 = y := ⟨_, rfl⟩
                  have cx : wr.cell? ⟨g9, i, none⟩ = some (.int .i64 x) := by
                    rw [HO.out.2.1.cellAt i (by omega), ← hx]
                    simp [ints, List.getD_eq_getElem?_getD, List.getElem?_eq_getElem (show i < (markL rs (od.take t)).length by rw [hML.out]; omega)]
                  have cy : wr.cell? ⟨g9, b, none⟩ = some (.int .i64 y) := by
                    rw [HO.out.2.1.cellAt b (by omega), ← hy]
                    simp [ints, List.getD_eq_getElem?_getD, List.getElem?_eq_getElem (show b < (markL rs (od.take t)).length by rw [hML.out]; omega)]
                  have hbz : (b : Int) < (m : Int) := by omega
                  by_cases hgt : y < x
                  · have hd : decide (y < x) = true := decide_eq_true hgt
                    have hd2 : decide (x > y) = true := decide_eq_true hgt
                    have hbest2 : Hid (∀ j, j < i + 1 → (markL rs (od.take t)).getD j 0 < (markL rs (od.take t)).getD i 0 ∨ ((markL rs (od.take t)).getD j 0 = (markL rs (od.take t)).getD i 0 ∧ i ≤ j)) := Lib.hid (fun j hj => by
                      rcases Nat.lt_or_ge j i with h | h
                      · have := hbest.out j h; omega
                      · obtain rfl : j = i := by omega
                        exact .inr ⟨rfl, Nat.le_refl _⟩)
                    clear hx hy hbest
                    go_wp2_with fail
                    go_quiet (fail)
                    have hO2 : Hid (R2 w.heap.size (wr.drewN nq) (.slice (some ⟨g8, 0, none⟩) m c8) (.slice (some ⟨g9, 0, none⟩) m c9) m m (ints (bump fs (od.take t))) (ints (markL rs (od.take t)))) := Lib.hid (HO.out.drewN nq)
                    have hb2 := below_drewN hbr nq
                    clear HO cx cy
                    go_wp2_with fail
                    go_roundw
                    case rel => exact ⟨i, i + 1, by omega, by omega, by omega, rfl, by go_num, hbest2, hO2, hb2⟩
                    case measure => simp [RowKit.intOf]; omega
                  · have hd : decide (y < x) = false := decide_eq_false hgt
                    have hd2 : decide (x > y) = false := decide_eq_false hgt
                    have hbest2 : Hid (∀ j, j < i + 1 → (markL rs (od.take t)).getD j 0 < (markL rs (od.take t)).getD b 0 ∨ ((markL rs (od.take t)).getD j 0 = (markL rs (od.take t)).getD b 0 ∧ b ≤ j)) := Lib.hid (fun j hj => by
                      rcases Nat.lt_or_ge j i with h | h
                      · exact hbest.out j h
                      · obtain rfl : j = i := by omega
                        rw [hx, hy]
                        omega)
                    clear hx hy hbest
                    go_wp2_with fail
                    go_quiet (fail)
                    have hO2 : Hid (R2 w.heap.size (wr.drewN nq) (.slice (some ⟨g8, 0, none⟩) m c8) (.slice (some ⟨g9, 0, none⟩) m c9) m m (ints (bump fs (od.take t))) (ints (markL rs (od.take t)))) := Lib.hid (HO.out.drewN nq)
                    have hb2 := below_drewN hbr nq
                    clear HO cx cy
                    go_wp2_with fail
                    go_roundw
                    case rel => exact ⟨b, i + 1, by omega, by omega, by omega, rfl, by go_num, hbest2, hO2, hb2⟩
                    case measure => simp [RowKit.intOf]; omega
                · obtain rfl : i = m := by omega
                  have hnx := HPK.out t b (by have := htl'.out; omega) hbm hbest.out
                  obtain ⟨y, hy⟩ : ∃ y, (bump fs (od.take t))[b]? = some y := ⟨_, List.getElem?_eq_getElem (by rw [bump_length, HFLn.out]; exact hbm)⟩
                  obtain ⟨y1, y2⟩ := HFB.out t y (List.mem_of_getElem? hy)
                  have y3 : y ≤ 3000000000000 := by
                    have : (od.take t).length ≤ 1000 := by rw [List.length_take, HOL.out]; omega
                    omega
                  have cy : wr.cell? ⟨g8, b, none⟩ = some (.int .i64 y) := by
                    rw [HO.out.1.cellAt b (by omega)]
                    simp [ints, hy]
                  have c9y : ∃ u, wr.cell? ⟨g9, b, none⟩ = some u := by
                    rw [HO.out.2.1.cellAt b (by omega)]
                    simp [ints, markL_length, HRL.out, hbm]
                  obtain ⟨u, cu⟩ := c9y
                  have f8 := HO.out.1.frozenAt b
                  have f9 := HO.out.2.1.frozenAt b
                  have hne89 : g8 ≠ g9 := fun e => HO.out.2.2 g8 rfl (by rw [e]; rfl)
                  have hst := HO.out.set b (y + 1) (-1)
                  have e1 : (bump fs (od.take t)).set b (y + 1) = bump fs (od.take (t + 1)) := by
                    rw [hnx, bump_snoc]; simp [hy]
                  have e2 : (markL rs (od.take t)).set b (-1) = markL rs (od.take (t + 1)) := by
                    rw [hnx, markL_snoc]; simp
                  rw [e1, e2] at hst
                  have HST := Lib.hid hst
                  have hb2 := (hbr.setCell (p := ⟨g8, b, none⟩) hg8 (.int .i64 (y + 1))).setCell (p := ⟨g9, b, none⟩) hg9 (.int .i64 (-1))
                  have hbz : (b : Int) < (i : Int) := by omega
                  have wy : IntKind.i64.wrap (y + 1) = y + 1 := IntWalk.i64_in _ (by omega)
                  have wl : IntKind.i64.wrap ((l : Int) - 1) = (l : Int) - 1 := IntWalk.i64_in _ (by have := htl'.out; omega)
                  clear hnx hy y1 y2 e1 e2 hst HO hbr hbest
                  go_wp2_with fail
                  go_roundw
                  case rel => exact ⟨t + 1, l - 1, by have := htl'.out; omega, by rw [show ((l - 1 : Nat) : Int) = (l : Int) - 1 by omega], HST, hb2⟩
                  case measure => simp [RowKit.intOf]; omega
end Go.Proofs.Ytclnfncdphfgjaa
