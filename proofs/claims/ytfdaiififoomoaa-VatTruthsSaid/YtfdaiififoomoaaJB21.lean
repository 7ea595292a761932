/- Contracts: U40, U23, joined. -/
import Derived.Test.YtfdaiififoomoaaJB20
namespace Go.Proofs.Ytfdaiififoomoaa
open Go.RowKit Go.Lib Go.Shelf
set_option linter.unusedVariables false
set_option linter.unusedSimpArgs false
attribute [local go_sem ↓] Go.wp_at_zero Go.wp_at_succ

def kV (x : Int × Int × Int) : Value := .tuple #[.int .i64 x.1, .int .i64 x.2.1, .int .i64 x.2.2]
theorem kp_bad {xs l : List (Int × Int)} {lim fl fh lo hi : Int} (h : (ruB xs lim fl fh && rgB 0 1000000 lo hi) = false) : kpV xs lim fl fh lo hi l = (0, 0, 2) := by
  unfold kpV
  rw [if_neg (by rw [h]; simp)]
theorem kp_long {xs l : List (Int × Int)} {lim fl fh lo hi : Int} (h : (ruB xs lim fl fh && rgB 0 1000000 lo hi) = true) (hl : 1000 < l.length) : kpV xs lim fl fh lo hi l = (0, 0, 5) := by
  unfold kpV
  rw [if_pos h, if_pos hl]
theorem kp_err {xs l : List (Int × Int)} {lim fl fh lo hi : Int} (h : (ruB xs lim fl fh && rgB 0 1000000 lo hi) = true) (hl : l.length ≤ 1000) (k : Nat) (hk : k < l.length) (hj : ∀ j, j < k → kE xs l j = 0) (he : kE xs l k ≠ 0) : kpV xs lim fl fh lo hi l = (0, 0, kE xs l k) := by
  unfold kpV
  have e : fstI (fun k => !decide (kE xs l k = 0)) l.length = (k : Int) := fstI_at hk (by simpa using he) (fun j h => by simpa using hj j h)
  rw [if_pos h, if_neg (by omega), e, if_neg (by omega)]
  rfl
theorem kp_ok {xs l : List (Int × Int)} {lim fl fh lo hi : Int} (h : (ruB xs lim fl fh && rgB 0 1000000 lo hi) = true) (hl : l.length ≤ 1000) (hj : ∀ j, j < l.length → kE xs l j = 0) :
    kpV xs lim fl fh lo hi l = (fstI (fun k => decide (lim ≤ (kL xs l (lo, hi) (k + 1)).2)) l.length, fstI (fun k => decide (lim ≤ (kL xs l (lo, hi) (k + 1)).1)) l.length, 0) := by
  unfold kpV
  have e : fstI (fun k => !decide (kE xs l k = 0)) l.length = -1 := fstI_no (fun j h => by simpa using hj j h)
  rw [if_pos h, if_neg (by omega), e, if_pos (by omega)]
theorem ruB_of {xs : List (Int × Int)} {lim fl fh : Int} (h : ruB xs lim fl fh = true) : tabE xs = 0 ∧ yB xs = true := by
  simp only [ruB, Bool.and_eq_true, decide_eq_true_eq] at h
  exact ⟨h.1.1.1, h.1.1.2⟩
theorem rgB_of {lo hi : Int} (h : rgB 0 1000000 lo hi = true) : (0 ≤ lo ∧ lo ≤ 1000000) ∧ 0 ≤ hi ∧ hi ≤ 1000000 := by
  simp [rgB, inB] at h
  omega

set_option maxRecDepth 40000 in
set_option maxHeartbeats 8000000 in
theorem keeps_any (v : Value) (xs : List (Int × Int)) (lim fl fh lo hi : Int) (v2 : Value) (l : List (Int × Int)) (w : World) (hl : xs.length ≤ 1000000) (hv : SetAt w.heap.size w v xs) (hl2 : l.length ≤ 1000000) (hv2 : SetAt w.heap.size w v2 l) :
    Calls Try.prog 14 #[.agg #[v, .int .i64 lim, .int .i64 fl, .int .i64 fh], .agg #[.int .i64 lo, .int .i64 hi], v2] w fun e w' => e = .returned (kV (kpV xs lim fl fh lo hi l)) ∧ Below w.heap.size w w' := by
  have CV := Lib.hid (fun (W : World) (h : Below w.heap.size w W) => validRules_any v xs lim fl fh W hl ((hv.below h (Nat.le_refl _)).mono h.size))
  have CL := Lib.hid (rangeIn_any 0 1000000 lo hi)
  have CG := Lib.hid (fun (a b : Int) (W : World) (h : Below w.heap.size w W) => values_any v xs a b W ((hv.below h (Nat.le_refl _)).mono h.size))
  have HB1 := Lib.hid (fun h => @kp_bad xs l lim fl fh lo hi h)
  have HB2 := Lib.hid (fun h hl => @kp_long xs l lim fl fh lo hi h hl)
  have HB3 := Lib.hid (fun h hl => @kp_err xs l lim fl fh lo hi h hl)
  have HB4 := Lib.hid (fun h hl => @kp_ok xs l lim fl fh lo hi h hl)
  have HR1 := Lib.hid (fun h => @ruB_of xs lim fl fh h)
  have HR2 := Lib.hid (fun h => @rgB_of lo hi h)
  obtain ⟨K, hK⟩ : ∃ K, kpV xs lim fl fh lo hi l = K := ⟨_, rfl⟩
  rw [hK]
  rw [hK] at HB1 HB2 HB3 HB4
  clear hK
  obtain ⟨A, c, rfl, hA⟩ := hv
  clear hA
  obtain ⟨A2, c2, rfl, hr2⟩ := hv2
  obtain ⟨n2, hn2⟩ : ∃ n, l.length = n := ⟨_, rfl⟩
  rw [hn2] at hl2 hr2 HB2 HB3 HB4 ⊢
  have Hn := Lib.hid hn2
  have HR := Lib.hid hr2
  clear hr2 hn2
  obtain ⟨n, hn⟩ : ∃ n, xs.length = n := ⟨_, rfl⟩
  rw [hn] at CV CG ⊢
  clear hn
  generalize hp1 : ruB xs lim fl fh = p at *
  generalize hp2 : rgB 0 1000000 lo hi = q at *
  go_enter Try.func14, Try.ntmps14
  go_wp2_with fail
  refine (CV.out _ (below_al2 w _ _)).mono ?_
  rintro e W1 ⟨rfl, hb⟩
  have B0 := cell_next hb (b := w.heap.size) (o := 0) (by simp <;> omega) (v := some (.slice A n c)) (by simp [go_sem])
  have B1 := cell_next hb (b := w.heap.size) (o := 1) (by simp <;> omega) (v := some (.int .i64 lim)) (by simp [go_sem])
  have B2 := cell_next hb (b := w.heap.size) (o := 2) (by simp <;> omega) (v := some (.int .i64 fl)) (by simp [go_sem])
  have B3 := cell_next hb (b := w.heap.size) (o := 3) (by simp <;> omega) (v := some (.int .i64 fh)) (by simp [go_sem])
  have nB : w.heap.size < W1.heap.size := by have := hb.size; simp at this; omega
  have D0 := cell_next hb (b := w.heap.size + 1) (o := 0) (by simp <;> omega) (v := some (.int .i64 lo)) (by simp [go_sem])
  have fD0 := frozen_next hb (b := w.heap.size + 1) (o := 0) (by simp <;> omega) (v := false) (by simp [go_sem])
  have D1 := cell_next hb (b := w.heap.size + 1) (o := 1) (by simp <;> omega) (v := some (.int .i64 hi)) (by simp [go_sem])
  have fD1 := frozen_next hb (b := w.heap.size + 1) (o := 1) (by simp <;> omega) (v := false) (by simp [go_sem])
  have nD : w.heap.size + 1 < W1.heap.size := by have := hb.size; simp at this; omega
  have hB := (below2 hb)
  clear hb
  cases p
  · go_wp2_with fail
    refine bodyPost_ret (v := kV (0, 0, 2)) (by simp [kV, results, Try.results14, go_sem]) rfl ⟨by rw [HB1.out rfl], ?_⟩
    exact hB
  · go_wp2_with fail
    refine (CL.out _).mono ?_
    rintro e W2 ⟨rfl, hb⟩
    replace B0 := cell_next hb nB B0
    replace B1 := cell_next hb nB B1
    replace B2 := cell_next hb nB B2
    replace B3 := cell_next hb nB B3
    replace nB := Nat.lt_of_lt_of_le nB hb.size
    replace D0 := cell_next hb nD D0
    replace fD0 := frozen_next hb nD fD0
    replace D1 := cell_next hb nD D1
    replace fD1 := frozen_next hb nD fD1
    replace nD := Nat.lt_of_lt_of_le nD hb.size
    replace hB := hB.trans (hb.mono hB.size)
    clear hb
    cases q
    · go_wp2_with fail
      refine bodyPost_ret (v := kV (0, 0, 2)) (by simp [kV, results, Try.results14, go_sem]) rfl ⟨by rw [HB1.out rfl], ?_⟩
      exact hB
    · clear CV CL HB1
      obtain ⟨ht, hy⟩ := HR1.out (by simp)
      obtain ⟨hd1, hd2⟩ := HR2.out (by simp)
      have HT := Lib.hid (fun a b => vlR_bd ht hy a b)
      have HLb := Lib.hid (fun k => kL_bd (l := l) ht hy (s := (lo, hi)) ⟨hd1, hd2⟩ k)
      clear hd1 hd2 ht hy HR1 HR2
      by_cases h1000 : 1000 < n2
      · have t0 : decide ((1000 : Int) < (n2 : Int)) = true := by simp; omega
        go_wp2_with fail
        refine bodyPost_ret (v := kV (0, 0, 5)) (by simp [kV, results, Try.results14, go_sem]) rfl ⟨by rw [HB2.out rfl h1000], ?_⟩
        exact hB
      · have t0 : decide ((1000 : Int) < (n2 : Int)) = false := by simp; omega
        replace HB3 := Lib.hid (HB3.out rfl (by omega))
        replace HB4 := Lib.hid (HB4.out rfl (by omega))
        clear HB2 h1000
        obtain ⟨fH, hfH⟩ : ∃ f : Nat → Bool, f = fun k => decide (lim ≤ (kL xs l (lo, hi) (k + 1)).2) := ⟨_, rfl⟩
        obtain ⟨fL, hfL⟩ : ∃ f : Nat → Bool, f = fun k => decide (lim ≤ (kL xs l (lo, hi) (k + 1)).1) := ⟨_, rfl⟩
        rw [← hfH, ← hfL] at HB4
        have HS : Hid (∀ (k : Nat) (x y : Int), l[k]? = some (x, y) → kE xs l k = vlE xs x y ∧ (kL xs l (lo, hi) (k + 1)).1 = min 1000000 ((kL xs l (lo, hi) k).1 + 1 * (vlR xs x y).1) ∧ (kL xs l (lo, hi) (k + 1)).2 = min 1000000 ((kL xs l (lo, hi) k).2 + 1 * (vlR xs x y).2)) := Lib.hid (fun k x y h => ⟨by simp [kE, List.getD, h], by simp [kL, List.getD, h], by simp [kL, List.getD, h]⟩)
        have HfH := Lib.hid (fun k => congrFun hfH k)
        have HfL := Lib.hid (fun k => congrFun hfL k)
        try dsimp only at HfH HfL
        have H0 : Hid (kL xs l (lo, hi) 0 = (lo, hi)) := Lib.hid rfl
        clear hfH hfL
        generalize kL xs l (lo, hi) = L at *
        generalize kE xs l = E at *
        go_wp2_with fail
        go_loopw [26, 6, 7] (fun i v1 v2 wr => ∃ (k : Nat) (P S : Int), k ≤ n2 ∧ i = .int .i64 (k : Int) ∧ v1 = .int .i64 P ∧ v2 = .int .i64 S ∧ Hid (P = fstI fH k) ∧ Hid (S = fstI fL k) ∧ Hid (∀ j, j < k → E j = 0) ∧ wr.cell? ⟨w.heap.size, 0, none⟩ = some (.slice A n c) ∧ wr.cell? ⟨w.heap.size, 1, none⟩ = some (.int .i64 lim) ∧ wr.cell? ⟨w.heap.size, 2, none⟩ = some (.int .i64 fl) ∧ wr.cell? ⟨w.heap.size, 3, none⟩ = some (.int .i64 fh) ∧ w.heap.size < wr.heap.size ∧ wr.cell? ⟨w.heap.size + 1, 0, none⟩ = some (.int .i64 (L k).1) ∧ wr.cell? ⟨w.heap.size + 1, 1, none⟩ = some (.int .i64 (L k).2) ∧ wr.frozen? ⟨w.heap.size + 1, 0, none⟩ = false ∧ wr.frozen? ⟨w.heap.size + 1, 1, none⟩ = false ∧ w.heap.size + 1 < wr.heap.size ∧ Below w.heap.size w wr) (fun i _ _ _ => n2 - (RowKit.intOf i).toNat)
        case atStart => exact ⟨0, -1, -1, Nat.zero_le _, rfl, rfl, rfl, Lib.hid rfl, Lib.hid rfl, Lib.hid (fun j h => absurd h (Nat.not_lt_zero j)), B0, B1, B2, B3, nB, by rw [H0.out]; exact D0, by rw [H0.out]; exact D1, fD0, fD1, nD, hB⟩
        case round =>
          clear hB H0 B0 B1 B2 B3 nB D0 D1 fD0 fD1 nD
          obtain ⟨k, P, S, hk, rfl, rfl, rfl, hP, hS, hj, B0, B1, B2, B3, nB, D0, D1, fD0, fD1, nD, hB⟩ := hrel
          by_cases hlt : k < n2
          · obtain ⟨⟨x, y⟩, hp⟩ : ∃ p, l[k]? = some p := ⟨_, List.getElem?_eq_getElem (by rw [Hn.out]; exact hlt)⟩
            obtain ⟨gg, off, rfl, hg, hc⟩ := HR.out (by omega)
            obtain ⟨q0, q1⟩ := hc k _ hp
            replace q0 := cell_next hB hg q0
            replace q1 := cell_next hB hg q1
            dsimp only at q0 q1
            have hgw : gg < wr.heap.size := by have := hB.size; omega
            obtain ⟨s1, s2, s3⟩ := HS.out k x y hp
            have hbd := HT.out x y
            have hbl := HLb.out k
            have cg := CG.out x y
            obtain ⟨X, hX⟩ : ∃ z, (vlR xs x y).1 = z := ⟨_, rfl⟩
            obtain ⟨Y, hY⟩ : ∃ z, (vlR xs x y).2 = z := ⟨_, rfl⟩
            obtain ⟨e, he⟩ : ∃ z, vlE xs x y = z := ⟨_, rfl⟩
            rw [hX, hY] at hbd cg
            rw [hX] at s2
            rw [hY] at s3
            rw [he] at s1 cg
            have CG1 := Lib.hid cg
            have S1 := Lib.hid s1
            have S2 := Lib.hid s2
            have S3 := Lib.hid s3
            have HBD := Lib.hid hbd
            have HBL := Lib.hid hbl
            have t1 : decide ((k : Int) < (n2 : Int)) = true := by simp; omega
            have wk : IntKind.i64.wrap ((k : Int) + 1) = ((k + 1 : Nat) : Int) := IntWalk.i64_in _ (by omega)
            clear hX hY he s1 s2 s3 hbd hbl cg hc hp HS HT HLb CG
            go_wp2_with fail
            refine (CG1.out (wr.alloc (Obj.cells #[.int .i64 x, .int .i64 y] 31)) (hB.alloc hB.size _)).mono ?_
            rintro e' W3 ⟨rfl, hb⟩
            replace B0 := cell_next (below1 hb) nB B0
            replace B1 := cell_next (below1 hb) nB B1
            replace B2 := cell_next (below1 hb) nB B2
            replace B3 := cell_next (below1 hb) nB B3
            replace nB := Nat.lt_of_lt_of_le nB (below1 hb).size
            replace D0 := cell_next (below1 hb) nD D0
            replace fD0 := frozen_next (below1 hb) nD fD0
            replace D1 := cell_next (below1 hb) nD D1
            replace fD1 := frozen_next (below1 hb) nD fD1
            replace nD := Nat.lt_of_lt_of_le nD (below1 hb).size
            have e0 := cell_next hb (b := wr.heap.size) (o := 0) (by simp <;> omega) (v := some (.int .i64 x)) (by simp [go_sem])
            have e1 := cell_next hb (b := wr.heap.size) (o := 1) (by simp <;> omega) (v := some (.int .i64 y)) (by simp [go_sem])
            have ne : wr.heap.size < W3.heap.size := by have := hb.size; simp at this; omega
            replace hB := hB.trans ((below1 hb).mono hB.size)
            clear hb
            generalize wr.heap.size = q3 at *
            clear e0 e1 ne
            by_cases he0 : e = 0
            · have t2 : decide (e = 0) = true := by simpa using he0
              have t3 : (e == 0) = true := by simpa using he0
              go_wp2_with fail
              refine (grown_any (L k).1 (L k).2 X Y 1 HBL.out.1 HBL.out.2 (by have := HBD.out; omega) (by have := HBD.out; omega) (by omega) _).mono ?_
              rintro e W4 ⟨rfl, hb⟩
              replace B0 := cell_next (below1 hb) nB B0
              replace B1 := cell_next (below1 hb) nB B1
              replace B2 := cell_next (below1 hb) nB B2
              replace B3 := cell_next (below1 hb) nB B3
              replace nB := Nat.lt_of_lt_of_le nB (below1 hb).size
              replace D0 := cell_next (below1 hb) nD D0
              replace fD0 := frozen_next (below1 hb) nD fD0
              replace D1 := cell_next (below1 hb) nD D1
              replace fD1 := frozen_next (below1 hb) nD fD1
              replace nD := Nat.lt_of_lt_of_le nD (below1 hb).size
              have N0 := cell_next hb (b := W3.heap.size) (o := 0) (by simp <;> omega) (v := some (.int .i64 X)) (by simp [go_sem])
              have N1 := cell_next hb (b := W3.heap.size) (o := 1) (by simp <;> omega) (v := some (.int .i64 Y)) (by simp [go_sem])
              have nN : W3.heap.size < W4.heap.size := by have := hb.size; simp at this; omega
              replace hB := hB.trans ((below1 hb).mono hB.size)
              clear hb
              generalize W3.heap.size = q4 at *
              clear N0 N1 nN
              rw [← S2.out, ← S3.out]
              have hk1 := HfH.out k
              have hk2 := HfL.out k
              generalize hM : L (k + 1) = M at *
              obtain ⟨u1, hu1⟩ : ∃ u, decide (P < 0) = u := ⟨_, rfl⟩
              obtain ⟨u2, hu2⟩ : ∃ u, decide (S < 0) = u := ⟨_, rfl⟩
              obtain ⟨r1, hr1⟩ : ∃ u, decide (lim ≤ M.2) = u := ⟨_, rfl⟩
              obtain ⟨r2, hr2⟩ : ∃ u, decide (lim ≤ M.1) = u := ⟨_, rfl⟩
              rw [hr1] at hk1
              rw [hr2] at hk2
              have hPn : Hid (fstI fH (k + 1) = if u1 && r1 then (k : Int) else P) := Lib.hid (by
                have hp := hP.out
                subst hp
                cases u1
                · rw [fstI_keep (by simp at hu1; omega)]; rfl
                · cases r1
                  · rw [fstI_miss (by simp at hu1; omega) hk1]; rfl
                  · rw [fstI_hit (by simp at hu1; omega) hk1]; rfl)
              have hSn : Hid (fstI fL (k + 1) = if u2 && r2 then (k : Int) else S) := Lib.hid (by
                have hp := hS.out
                subst hp
                cases u2
                · rw [fstI_keep (by simp at hu2; omega)]; rfl
                · cases r2
                  · rw [fstI_miss (by simp at hu2; omega) hk2]; rfl
                  · rw [fstI_hit (by simp at hu2; omega) hk2]; rfl)
              have hjn : Hid (∀ j, j < k + 1 → E j = 0) := Lib.hid (fun j h => by
                rcases Nat.lt_or_ge j k with h | h
                · exact hj.out j h
                · obtain rfl : j = k := by omega
                  rw [S1.out, he0])
              clear hk1 hk2 hP hS hj HB3 HB4 HfH HfL CG1 S1 S2 S3 HBD HBL
              have hD0 : w.heap.size ≤ w.heap.size + 1 := by omega
              cases u1 <;> cases r1 <;> cases u2 <;> cases r2
              all_goals
                go_wp2_with fail
                go_roundw
                case rel =>
                  refine ⟨k + 1, _, _, by omega, by go_num, rfl, rfl, Lib.hid hPn.out.symm, Lib.hid hSn.out.symm, hjn, ?_, ?_, ?_, ?_, ?_, ?_, ?_, ?_, ?_, ?_, (hB.setCell (p := ⟨w.heap.size + 1, 0, none⟩) hD0 _).setCell (p := ⟨w.heap.size + 1, 1, none⟩) hD0 _⟩
                  all_goals first | (simp [go_sem, *]; done) | (rw [hM]; simp [go_sem, *]; done) | (simp [World.setCell]; omega)
                case measure => simp [RowKit.intOf]; omega
            · have t2 : decide (e = 0) = false := by simpa using he0
              have t3 : (e == 0) = false := by simpa using he0
              have e1 : K = (0, 0, e) := by rw [HB3.out k hlt hj.out (by rw [S1.out]; exact he0), S1.out]
              clear HB3 HB4 HfH HfL CG1 S1 S2 S3 HBD HBL HR Hn hj hP hS
              subst e1
              go_wp2_with fail
              refine bodyPost_ret (v := kV (0, 0, e)) (by simp [kV, results, Try.results14, go_sem]) rfl ⟨rfl, hB.alloc hB.size _⟩
          · obtain rfl : k = n2 := by omega
            have e1 : K = (P, S, 0) := by rw [HB4.out hj.out, ← hP.out, ← hS.out]
            have t1 : decide ((k : Int) < (k : Int)) = false := by simp
            clear HB3 HB4 HS HT HLb HfH HfL CG HR Hn hj hP hS
            subst e1
            go_wp2_with fail
            refine bodyPost_ret (v := kV (P, S, 0)) (by simp [kV, results, Try.results14, go_sem]) rfl ⟨rfl, hB⟩

open Go.RowKit Go.Lib Go.Shelf
set_option linter.unusedVariables false
set_option linter.unusedSimpArgs false
attribute [local go_sem ↓] Go.wp_at_zero Go.wp_at_succ

theorem infoPtr : (Try.prog.info? 86).map (fun i => (i.zero, i.size, i.bytes)) = some (some (.pointer none), 1, 8) := by kernel_rfl
def ptr (b : Nat) : Value := .pointer (some ⟨b, 0, none⟩)
theorem SetAt.set_other {B q o : Nat} {W : World} {v x : Value} {xs : List (Int × Int)} (h : SetAt B W v xs) (hne : v.ownBlock ≠ some q) : SetAt B (W.setCell ⟨q, o, none⟩ x) v xs := by
  obtain ⟨A, c, rfl, h⟩ := h
  refine ⟨A, c, rfl, fun hn => ?_⟩
  obtain ⟨g, off, rfl, hg, hr⟩ := h hn
  have hgq : g ≠ q := fun e => hne (by rw [e]; rfl)
  refine ⟨g, off, rfl, hg, fun k p hp => ?_⟩
  obtain ⟨h1, h2⟩ := hr k p hp
  exact ⟨(World.cell?_setCell_other _ _ _ _ (by intro e; injection e with e1 e2; omega)).trans h1, (World.cell?_setCell_other _ _ _ _ (by intro e; injection e with e1 e2; omega)).trans h2⟩
/-- a cellar without its list of tanks -/
structure NcAt (W : World) (c : Nat) (gv : Value) (lim fl fh : Int) (v : Value) : Prop where
  nc : c < W.heap.size
  c0 : W.cell? ⟨c, 0, none⟩ = some (gv)
  c1 : W.cell? ⟨c, 1, none⟩ = some (.int .i64 lim)
  c2 : W.cell? ⟨c, 2, none⟩ = some (.int .i64 fl)
  c3 : W.cell? ⟨c, 3, none⟩ = some (.int .i64 fh)
  c4 : W.cell? ⟨c, 4, none⟩ = some (v)
  c5 : W.cell? ⟨c, 5, none⟩ = some (.int .i64 0)
  c6 : W.cell? ⟨c, 6, none⟩ = some (.int .i64 0)
  c7 : W.cell? ⟨c, 7, none⟩ = some (.int .i64 0)
  c8 : W.cell? ⟨c, 8, none⟩ = some (.int .i64 0)
  c9 : W.cell? ⟨c, 9, none⟩ = some (.int .i64 0)
  c10 : W.cell? ⟨c, 10, none⟩ = some (.int .i64 0)
  c11 : W.cell? ⟨c, 11, none⟩ = some (.int .i64 0)
  fr : ∀ o, W.frozen? ⟨c, o, none⟩ = false
theorem NcAt.kept {U : Nat → Prop} {W W' : World} {c : Nat} {gv v : Value} {lim fl fh : Int} (h : NcAt W c gv lim fl fh v) (hk : Kept U W W') (hu : ¬ U c) : NcAt W' c gv lim fl fh v :=
  have k : ∀ o, W'.cell? ⟨c, o, none⟩ = W.cell? ⟨c, o, none⟩ := fun o => hk.cell (p := ⟨c, o, none⟩) h.nc hu
  ⟨Nat.lt_of_lt_of_le h.nc hk.1, (k 0).trans h.c0, (k 1).trans h.c1, (k 2).trans h.c2, (k 3).trans h.c3, (k 4).trans h.c4, (k 5).trans h.c5, (k 6).trans h.c6, (k 7).trans h.c7, (k 8).trans h.c8, (k 9).trans h.c9, (k 10).trans h.c10, (k 11).trans h.c11, fun o => (hk.frozen (p := ⟨c, o, none⟩) h.nc hu).trans (h.fr o)⟩
theorem NcAt.put {W : World} {c : Nat} {gv v : Value} {lim fl fh : Int} (h : NcAt W c gv lim fl fh v) (v' : Value) : NcAt (W.setCell ⟨c, 4, none⟩ v') c gv lim fl fh v' := by
  obtain ⟨nc, c0, c1, c2, c3, c4, c5, c6, c7, c8, c9, c10, c11, fr⟩ := h
  refine ⟨by simpa [World.setCell] using nc, ?_, ?_, ?_, ?_, ?_, ?_, ?_, ?_, ?_, ?_, ?_, ?_, fun o => ?_⟩
  all_goals first | (simp [go_sem, *]; done) | (simp [go_sem, fr]; done)
theorem ncAt_new (W : World) (gv v : Value) (lim fl fh : Int) : NcAt (W.alloc (Obj.cells #[gv, .int .i64 lim, .int .i64 fl, .int .i64 fh, v, .int .i64 0, .int .i64 0, .int .i64 0, .int .i64 0, .int .i64 0, .int .i64 0, .int .i64 0] 85)) W.heap.size gv lim fl fh v :=
  ⟨by simp, cell_new _ _ _ 0, cell_new _ _ _ 1, cell_new _ _ _ 2, cell_new _ _ _ 3, cell_new _ _ _ 4, cell_new _ _ _ 5, cell_new _ _ _ 6, cell_new _ _ _ 7, cell_new _ _ _ 8, cell_new _ _ _ 9, cell_new _ _ _ 10, cell_new _ _ _ 11, fun o => by simp [go_sem]⟩
theorem vesAt_new (W : World) (z fl fh : Int) (v : Value) : VesAt (W.alloc (Obj.cells #[.int .i64 z, .int .i64 fl, .int .i64 fh, v] 89)) W.heap.size z fl fh v :=
  ⟨by simp, cell_new _ _ _ 0, cell_new _ _ _ 1, cell_new _ _ _ 2, cell_new _ _ _ 3, by simp [go_sem], by simp [go_sem], by simp [go_sem]⟩

theorem ownsRow_kept {U : Nat → Prop} {w w' : World} {base e size n : Nat} {v : Value} {xs : List Value} (h : w.ownsRow base e size v n xs) (hk : Kept U w w') (hne : ∀ g, v.ownBlock = some g → ¬ U g) : w'.ownsRow base e size v n xs := by
  refine ⟨h.1, ?_⟩
  rcases h.2 with ⟨rfl, h0⟩ | ⟨g, cap, cur, rfl, hb, hg, hr⟩
  · exact .inl ⟨rfl, h0⟩
  · exact .inr ⟨g, cap, cur, rfl, hb, hk.2 _ _ hg (hne g rfl), hr⟩
theorem getD_of {bs : List Nat} {i b : Nat} (h : bs[i]? = some b) : bs.getD i 0 = b := by simp [h]
theorem nodup_inj {bs : List Nat} (h : bs.Nodup) {i j : Nat} (hi : i < bs.length) (hj : j < bs.length) (e : bs.getD i 0 = bs.getD j 0) : i = j := by
  rw [getD_of (List.getElem?_eq_getElem hi), getD_of (List.getElem?_eq_getElem hj)] at e
  have hp := List.pairwise_iff_getElem.1 h
  rcases Nat.lt_trichotomy i j with hl | hl | hl
  · exact absurd e (hp i j hi hj hl)
  · exact hl
  · exact absurd e.symm (hp j i hj hi hl)
theorem ves_snoc {W W' : World} {U : Nat → Prop} {bs : List Nat} {zs : List Int} {k b : Nat} {z : Int} {v : Value} (hk : bs.length = k) (hz : zs[k]? = some z) (hV : ∀ (j b : Nat) (z : Int), bs[j]? = some b → zs[j]? = some z → VesAt W b z 0 0 v) (hK : Kept U W W') (hU : ∀ b ∈ bs, ¬ U b) (hn : VesAt W' b z 0 0 v) :
    ∀ (j b' : Nat) (z : Int), (bs ++ [b])[j]? = some b' → zs[j]? = some z → VesAt W' b' z 0 0 v := by
  intro j b' z' h1 h2
  rcases Nat.lt_trichotomy j bs.length with hl | hl | hl
  · rw [List.getElem?_append_left hl] at h1
    exact (hV j b' z' h1 h2).kept hK (hU b' (List.mem_of_getElem? h1))
  · subst hl
    rw [← hk] at hz
    rw [hz] at h2
    simp at h1 h2
    subst h1
    subst h2
    exact hn
  · rw [List.getElem?_append_right (by omega)] at h1
    rw [List.getElem?_eq_none (by simp; omega)] at h1
    cases h1
def NewP (xs : List (Int × Int)) (lim fl fh : Int) (zs : List Int) (w : World) (e : Ending) (w' : World) : Prop :=
  ∃ (c tk cap : Nat) (vb : Nat → Nat) (gv : Value), e = .returned (.tuple #[.pointer (some ⟨c, 0, none⟩), .int .i64 0]) ∧ w.heap.size ≤ c ∧ c < tk ∧ tk < w'.heap.size ∧ CelAt w' c tk vb ⟨gv, lim, fl, fh, 0, 0, 0, 0, 0, 0, 0, zs.length, cap⟩ ∧ SetAt c w' gv xs ∧
    (∀ i z, zs[i]? = some z → VesAt w' (vb i) z 0 0 (.slice none 0 0)) ∧ (∀ i, i < zs.length → c < vb i ∧ vb i < w'.heap.size ∧ vb i ≠ tk) ∧ (∀ i j, i < zs.length → j < zs.length → vb i = vb j → i = j) ∧ Below w.heap.size w w'

set_option maxRecDepth 20000 in
set_option maxHeartbeats 4000000 in
theorem new_ok (v : Value) (xs : List (Int × Int)) (lim fl fh : Int) (v2 : Value) (zs : List Int) (w : World) (hl : xs.length ≤ 100) (hv : SetAt w.heap.size w v xs) (ht : tabE xs = 0) (hT : ∀ p ∈ xs, inB 0 1000000 p.2 = true) (hlim : inB 1 1000000 lim = true) (hf : rgB 0 1000000 fl fh = true)
    (hv2 : NsAt w.heap.size w v2 zs) (h1 : 1 ≤ zs.length) (h2 : zs.length ≤ 20) (hz : insB 1 1000000000 zs = true) :
    Calls Try.prog 6 #[.agg #[v, .int .i64 lim, .int .i64 fl, .int .i64 fh], v2] w (NewP xs lim fl fh zs w) := by
  have CV := Lib.hid (fun (W : World) (h : Below w.heap.size w W) => validRules_ok v xs lim fl fh W hl ((hv.below h (Nat.le_refl _)).mono h.size) ht hT hlim hf)
  have hx2 := (tabOk_of ht).1
  obtain ⟨A, cA, rfl, hr⟩ := hv
  obtain ⟨gx, ox, rfl, hgx, hrx⟩ := hr (by omega)
  have CK := Lib.hid (fun (W : World) (h : Below w.heap.size w W) => clone_rows xs gx ox cA (by omega) (by omega) W (Nat.lt_of_lt_of_le hgx h.size) (fun k p hp => ⟨cell_next h hgx (hrx k p hp).1, cell_next h hgx (hrx k p hp).2⟩))
  have CI := Lib.hid (fun (W : World) (g cp : Nat) => in1v_any 1 20 (zs.length : Int) g cp W)
  rw [show inB 1 20 (zs.length : Int) = true from by simp [inB]; omega] at CI
  have CZ := Lib.hid (fun (W : World) (h : Below w.heap.size w W) => in_any 1 1000000000 v2 zs W (by omega) ((hv2.below h (Nat.le_refl _)).mono h.size))
  rw [hz] at CZ
  obtain ⟨A2, c2, rfl, hr2⟩ := hv2
  have HR2 := Lib.hid hr2
  obtain ⟨i0, hi0, hz0, hz1, hz2⟩ := info_parts infoPtr
  obtain ⟨n, hn⟩ : ∃ n, zs.length = n := ⟨_, rfl⟩
  obtain ⟨m, hm⟩ : ∃ m, xs.length = m := ⟨_, rfl⟩
  rw [hn] at h1 h2 CI CZ HR2 ⊢
  rw [hm] at CV CK ⊢
  have Hn := Lib.hid hn
  have Hm := Lib.hid hm
  clear hr hrx hr2 hn hm ht hT hlim hf hz hl hx2
  go_enter Try.func6, Try.ntmps6
  go_wp2_with fail
  refine (CV.out _ ((Below.refl _ _).alloc (Nat.le_refl _) _)).mono ?_
  rintro e w1 ⟨rfl, hb⟩
  have b0 := cell_next hb (b := w.heap.size) (o := 0) (by simp) (cell_new _ _ _ 0)
  have b1 := cell_next hb (b := w.heap.size) (o := 1) (by simp) (cell_new _ _ _ 1)
  have b2 := cell_next hb (b := w.heap.size) (o := 2) (by simp) (cell_new _ _ _ 2)
  have b3 := cell_next hb (b := w.heap.size) (o := 3) (by simp) (cell_new _ _ _ 3)
  have f0 := frozen_next hb (b := w.heap.size) (o := 0) (v := false) (by simp) (by simp [go_sem])
  have nb : w.heap.size < w1.heap.size := by have := hb.size; simp at this; omega
  have hB := below1 hb
  clear hb CV
  go_wp2_with fail
  refine (CI.out _ _ _ (by simp) (by simp [go_sem])).mono ?_
  rintro e w2 ⟨rfl, hb⟩
  have hb' := below1 hb
  replace b0 := cell_next hb' nb b0
  replace b1 := cell_next hb' nb b1
  replace b2 := cell_next hb' nb b2
  replace b3 := cell_next hb' nb b3
  replace f0 := frozen_next hb' nb f0
  replace nb := Nat.lt_of_lt_of_le nb hb'.size
  replace hB := hB.trans (hb'.mono hB.size)
  clear hb hb' CI
  go_wp2_with fail
  refine (CZ.out _ hB).mono ?_
  rintro e w3 ⟨rfl, hb⟩
  replace b0 := cell_next hb nb b0
  replace b1 := cell_next hb nb b1
  replace b2 := cell_next hb nb b2
  replace b3 := cell_next hb nb b3
  replace f0 := frozen_next hb nb f0
  replace nb := Nat.lt_of_lt_of_le nb hb.size
  replace hB := hB.trans (hb.mono hB.size)
  clear hb CZ
  go_wp2_with fail
  refine (CK.out _ hB).mono ?_
  rintro e w4 ⟨v', rfl, hNR, hb⟩
  replace b0 := cell_next hb nb b0
  replace b1 := cell_next hb nb b1
  replace b2 := cell_next hb nb b2
  replace b3 := cell_next hb nb b3
  replace f0 := frozen_next hb nb f0
  have nb4 := Nat.lt_of_lt_of_le nb hb.size
  replace hB := hB.trans (hb.mono hB.size)
  have hSet := hNR.row.set
  obtain ⟨g', cap', rfl, hown⟩ := hNR
  have hg' : w.heap.size ≠ g' := by have := (World.ownsRow.lt hown g' rfl).1; omega
  have HS : Hid (SetAt w4.heap.size (w4.setCell ⟨w.heap.size, 0, none⟩ (.slice (some ⟨g', 0, none⟩) xs.length cap')) (.slice (some ⟨g', 0, none⟩) xs.length cap') xs) := Lib.hid (hSet.set_other (by simp [Value.ownBlock]; omega))
  rw [Hm.out] at HS
  simp only [Hm.out]
  clear hb CK hown hSet
  go_upto_region 8 with fail
  have hB5 := hB.setCell (p := ⟨w.heap.size, 0, none⟩) (Nat.le_refl _) (.slice (some ⟨g', 0, none⟩) m cap')
  have d0 : (w4.setCell ⟨w.heap.size, 0, none⟩ (.slice (some ⟨g', 0, none⟩) m cap')).cell? ⟨w.heap.size, 0, none⟩ = some (.slice (some ⟨g', 0, none⟩) m cap') := by simp [go_sem, b0]
  have d1 : (w4.setCell ⟨w.heap.size, 0, none⟩ (.slice (some ⟨g', 0, none⟩) m cap')).cell? ⟨w.heap.size, 1, none⟩ = some (.int .i64 lim) := by simp [go_sem, b1]
  have d2 : (w4.setCell ⟨w.heap.size, 0, none⟩ (.slice (some ⟨g', 0, none⟩) m cap')).cell? ⟨w.heap.size, 2, none⟩ = some (.int .i64 fl) := by simp [go_sem, b2]
  have d3 : (w4.setCell ⟨w.heap.size, 0, none⟩ (.slice (some ⟨g', 0, none⟩) m cap')).cell? ⟨w.heap.size, 3, none⟩ = some (.int .i64 fh) := by simp [go_sem, b3]
  have hsz : w4.heap.size = (w4.setCell ⟨w.heap.size, 0, none⟩ (.slice (some ⟨g', 0, none⟩) m cap')).heap.size := by simp [World.setCell]
  rw [hsz] at HS nb4
  clear b0 b1 b2 b3 f0 hB hsz nb
  generalize w4.setCell ⟨w.heap.size, 0, none⟩ (.slice (some ⟨g', 0, none⟩) m cap') = X at *
  go_wp2_with fail
  have HN := Lib.hid (ncAt_new X (.slice (some ⟨g', 0, none⟩) m cap') (.slice none 0 0) lim fl fh)
  have hL0 : Below X.heap.size X (X.alloc (Obj.cells #[.slice (some ⟨g', 0, none⟩) m cap', .int .i64 lim, .int .i64 fl, .int .i64 fh, .slice none 0 0, .int .i64 0, .int .i64 0, .int .i64 0, .int .i64 0, .int .i64 0, .int .i64 0, .int .i64 0] 85)) := (Below.refl _ _).alloc (Nat.le_refl _) _
  clear d0 d1 d2 d3
  generalize X.alloc (Obj.cells #[.slice (some ⟨g', 0, none⟩) m cap', .int .i64 lim, .int .i64 fl, .int .i64 fh, .slice none 0 0, .int .i64 0, .int .i64 0, .int .i64 0, .int .i64 0, .int .i64 0, .int .i64 0, .int .i64 0] 85) = X0 at *
  go_loopw [29] (fun i wr => ∃ (k : Nat) (bs : List Nat) (v : Value), k ≤ n ∧ i = .int .i64 k ∧ Hid (bs.length = k) ∧ Hid (wr.ownsRow (X.heap.size + 1) 86 1 v k (bs.map ptr)) ∧ Hid (NcAt wr X.heap.size (.slice (some ⟨g', 0, none⟩) m cap') lim fl fh v) ∧ Hid (∀ (j b : Nat) (z : Int), bs[j]? = some b → zs[j]? = some z → VesAt wr b z 0 0 (.slice none 0 0)) ∧ Hid (∀ b ∈ bs, X.heap.size < b ∧ b < wr.heap.size ∧ v.ownBlock ≠ some b) ∧ Hid (bs.Nodup) ∧ Below X.heap.size X wr) (fun i _ => n - (RowKit.intOf i).toNat)
  case atStart => exact ⟨0, [], .slice none 0 0, Nat.zero_le _, rfl, Lib.hid rfl, Lib.hid (World.ownsRow_nil _ _ _ _), HN, Lib.hid (fun j b z h => by simp at h), Lib.hid (fun b h => by cases h), Lib.hid List.nodup_nil, hL0⟩
  case round =>
    clear HN hL0
    obtain ⟨k, bs, v, hk, rfl, HBl, HO, HN, HV, HBd, HND, hLr⟩ := hrel
    by_cases hlt : k < n
    · obtain ⟨z, hp⟩ : ∃ p, zs[k]? = some p := ⟨_, List.getElem?_eq_getElem (by rw [Hn.out]; exact hlt)⟩
      obtain ⟨g2, o2, rfl, hg2, hc2⟩ := HR2.out (by omega)
      have q0 : wr.cell? ⟨g2, o2 + k, none⟩ = some (.int .i64 z) := cell_next hLr (by omega) (cell_next hB5 hg2 (hc2 k z hp))
      have hgr : g2 < wr.heap.size := by have := hLr.size; omega
      have hOL := World.ownsRow.lt HO.out
      have c4 := HN.out.c4
      have f4 := HN.out.fr 4
      have nc := HN.out.nc
      have hXr := hLr.size
      obtain ⟨Av, cv, rfl⟩ : ∃ Av cv, v = .slice Av k cv := by
        rcases HO.out.2 with ⟨h, h'⟩ | ⟨g, cap, cur, h, _⟩
        · exact ⟨none, 0, by rw [h', h]⟩
        · exact ⟨_, _, h⟩
      go_wp2_with (at_builtin; refine wpList_append_own_at _ rfl (.tmp 37) (.tmp 41) 83 rfl (X.heap.size + 1) 86 i0 (.pointer none) 1 8 Try.underlying83 hi0 hz0 hz1 hz2 rfl (by decide) (.slice Av k cv) k (bs.map ptr) rfl (World.ownsRow.alloc (World.ownsRow.alloc HO.out _) _) ⟨wr.heap.size + 1, 0, none⟩ 1 1 [ptr wr.heap.size] rfl rfl ?_ ?_ ?_ ?_ ?_ ?_)
      case refine_1 =>
        intro j u hj
        rcases j with _ | j
        · simp at hj
          subst hj
          have := cell_new (wr.alloc (Obj.cells #[.int .i64 z, .int .i64 0, .int .i64 0, .slice none 0 0] 89)) #[.pointer (some ⟨wr.heap.size, 0, none⟩)] 86 0
          rw [show (wr.alloc (Obj.cells #[.int .i64 z, .int .i64 0, .int .i64 0, .slice none 0 0] 89)).heap.size = wr.heap.size + 1 from by simp] at this
          rw [Addr.add_lit]
          exact this
        · simp at hj
      case refine_2 => simp [ptr, Value.oneCell']
      case refine_3 => unfold maxLen; omega
      case refine_4 => omega
      case refine_5 => simp; omega
      case refine_6 =>
        intro v' Y hown' hgrow hnn hat
        have hg2' := grown_alloc hgrow
        have hKg := Kept.of_grown hg2'
        have hNb : ¬ ((Value.slice Av k cv).ownBlock = some wr.heap.size) := fun h => by have := (hOL _ h).2; omega
        have hVb := (vesAt_new wr z 0 0 (.slice none 0 0)).kept hKg hNb
        have hKa : Kept (fun i => (Value.slice Av k cv).ownBlock = some i) wr (wr.alloc (Obj.cells #[.int .i64 z, .int .i64 0, .int .i64 0, .slice none 0 0] 89)) := Kept.of_below' ((Below.refl _ _).alloc (Nat.le_refl _) _) _
        have hKr := hKa.trans hKg
        have hLY := (hLr.alloc hLr.size (Obj.cells #[.int .i64 z, .int .i64 0, .int .i64 0, .slice none 0 0] 89)).grown hg2' (hLr.alloc hLr.size (Obj.cells #[.int .i64 z, .int .i64 0, .int .i64 0, .slice none 0 0] 89)).size (fun g h => by have := (hOL g h).1; omega)
        have hYs : wr.heap.size < Y.heap.size := by have := hKg.1; simp at this; omega
        replace HN := Lib.hid (HN.out.kept hKr (fun h => by have := (hOL _ h).1; omega))
        replace HV := Lib.hid (ves_snoc HBl.out hp HV.out hKr (fun b hb => (HBd.out b hb).2.2) hVb)
        obtain ⟨g3, cap3, rfl, hgb3, hg3⟩ := World.ownsRow.form hown' (by omega)
        have hg3n : ∀ b ∈ bs ++ [wr.heap.size], g3 ≠ b := by
          intro b hb e
          subst e
          rw [List.mem_append, List.mem_singleton] at hb
          rcases hat with h | h
          · rcases hb with hb | hb
            · exact (HBd.out _ hb).2.2 h.symm
            · exact hNb (by rw [← hb]; exact h.symm)
          · have e3 : g3 = wr.heap.size + 1 + 1 := by simpa [Value.ownBlock] using h
            rcases hb with hb | hb
            · have := (HBd.out _ hb).2.1; omega
            · omega
        have c4' := HN.out.c4
        have f4' := HN.out.fr 4
        have nc' := HN.out.nc
        have hKc : Kept (fun i => i = X.heap.size) Y (Y.setCell ⟨X.heap.size, 4, none⟩ (.slice (some ⟨g3, 0, none⟩) (k + 1) cap3)) := Kept.set (U := fun i => i = X.heap.size) _ (p := ⟨X.heap.size, 4, none⟩) rfl _
        have HN2 := Lib.hid (HN.out.put (.slice (some ⟨g3, 0, none⟩) (k + 1) cap3))
        have hbs2 : ∀ b ∈ bs ++ [wr.heap.size], X.heap.size < b ∧ b < Y.heap.size := by
          intro b hb
          rw [List.mem_append, List.mem_singleton] at hb
          rcases hb with hb | hb
          · have := HBd.out b hb; omega
          · omega
        have HV2 : Hid (∀ (j b : Nat) (z : Int), (bs ++ [wr.heap.size])[j]? = some b → zs[j]? = some z → VesAt (Y.setCell ⟨X.heap.size, 4, none⟩ (.slice (some ⟨g3, 0, none⟩) (k + 1) cap3)) b z 0 0 (.slice none 0 0)) := Lib.hid (fun j b z h1 h2 => (HV.out j b z h1 h2).kept hKc (fun e => by have := (hbs2 b (List.mem_of_getElem? h1)).1; omega))
        have hO2 := ownsRow_kept hown' hKc (fun g h e => by have := (World.ownsRow.lt hown' g h).1; omega)
        rw [show List.map ptr bs ++ [ptr wr.heap.size] = (bs ++ [wr.heap.size]).map ptr from by simp] at hO2
        have HO2 := Lib.hid hO2
        have HBd2 : Hid (∀ b ∈ bs ++ [wr.heap.size], X.heap.size < b ∧ b < (Y.setCell ⟨X.heap.size, 4, none⟩ (.slice (some ⟨g3, 0, none⟩) (k + 1) cap3)).heap.size ∧ (Value.slice (some ⟨g3, 0, none⟩) (k + 1) cap3).ownBlock ≠ some b) := Lib.hid (fun b hb => ⟨(hbs2 b hb).1, Nat.lt_of_lt_of_le (hbs2 b hb).2 hKc.1, fun h => hg3n b hb (by simpa [Value.ownBlock] using h)⟩)
        have HND2 : Hid ((bs ++ [wr.heap.size]).Nodup) := Lib.hid (by
          rw [List.nodup_append]
          refine ⟨HND.out, by simp, fun a ha b hb e => ?_⟩
          rw [List.mem_singleton] at hb
          have := (HBd.out a ha).2.1
          omega)
        have hLe := hLY.setCell (p := ⟨X.heap.size, 4, none⟩) (Nat.le_refl _) (.slice (some ⟨g3, 0, none⟩) (k + 1) cap3)
        have HBl2 : Hid ((bs ++ [wr.heap.size]).length = k + 1) := Lib.hid (by simp [HBl.out])
        have HLe := Lib.hid hLe
        clear hown' hgrow hg2' hKg hNb hVb hKa hKr hLY HV hg3n hKc hbs2 hO2 hLe HN HO HBd HND hOL hat hnn HBl c4 f4 q0
        generalize hbsE : bs ++ [wr.heap.size] = bs2 at *
        go_wp2_with fail
        go_roundw
        case measure => simp [RowKit.intOf]; omega
        case rel => exact ⟨k + 1, bs2, _, by omega, by go_num, HBl2, HO2, HN2, HV2, HBd2, HND2, HLe.out⟩
    · obtain rfl : k = n := by omega
      obtain ⟨g3, cap3, rfl, hgb3, hg3⟩ := World.ownsRow.form HO.out (by omega)
      have hn1 := HN.out
      have hcs := fun (i : Nat) (u : Value) => HO.out.cells (g := g3) rfl i u
      have HF : Hid (NewP xs lim fl fh zs w (.returned (.tuple #[.pointer (some ⟨X.heap.size, 0, none⟩), .int .i64 0])) wr) := Lib.hid (by
        have hbl : bs.length = zs.length := by rw [HBl.out, Hn.out]
        refine ⟨X.heap.size, g3, cap3, fun i => bs.getD i 0, .slice (some ⟨g', 0, none⟩) m cap', rfl, by omega, by omega, hg3, ?_, HS.out.below hLr (Nat.le_refl _), ?_, ?_, ?_, hB5.trans (hLr.mono (by omega))⟩
        · refine ⟨hn1.nc, hg3, hn1.c0, hn1.c1, hn1.c2, hn1.c3, by rw [Hn.out]; exact hn1.c4, hn1.c5, hn1.c6, hn1.c7, hn1.c8, hn1.c9, hn1.c10, hn1.c11, hn1.fr, fun i hi => ?_⟩
          have hi' : i < bs.length := by rw [hbl]; exact hi
          have := hcs i (ptr (bs.getD i 0)) (by rw [List.getElem?_map, List.getElem?_eq_getElem hi', getD_of (List.getElem?_eq_getElem hi')]; rfl)
          simpa [Addr.add_lit, ptr] using this
        · intro i z hz
          have hi' : i < bs.length := by rw [hbl]; exact (List.getElem?_eq_some_iff.1 hz).1
          show VesAt wr (bs.getD i 0) z 0 0 _
          rw [getD_of (List.getElem?_eq_getElem hi')]
          exact HV.out i _ z (List.getElem?_eq_getElem hi') hz
        · intro i hi
          have hi' : i < bs.length := by rw [hbl]; exact hi
          have hb := HBd.out _ (List.getElem_mem hi')
          show X.heap.size < bs.getD i 0 ∧ bs.getD i 0 < wr.heap.size ∧ bs.getD i 0 ≠ g3
          rw [getD_of (List.getElem?_eq_getElem hi')]
          exact ⟨hb.1, hb.2.1, fun e => hb.2.2 (by rw [e]; rfl)⟩
        · intro i j hi hj e
          exact nodup_inj HND.out (by rw [hbl]; exact hi) (by rw [hbl]; exact hj) e)
      clear hn1 hcs HO HN HV HBd HND
      go_wp2_with fail
      go_ret2
      exact HF.out
end Go.Proofs.Ytfdaiififoomoaa
