/- The walk of TopVacuumSteps. -/
import Derived.Test.YtpphchbokphkdaaDoorN11
import Derived.Test.YtpphchbokphkdaaDoorN12
import Derived.Test.YtpphchbokphkdaaDoorQ3
import Derived.Outline
namespace Go.Proofs.YtpphchbokphkdaaDoor
open Go.RowKit Go.Lib Go.Shelf
set_option linter.unusedVariables false
set_option linter.unusedSimpArgs false
attribute [local go_sem ↓] Go.wp_at_zero Go.wp_at_succ

theorem own_one (a b : Int) (w : World) : (w.alloc (.cells #[.int .i64 a, .int .i64 b] 34)).ownsRow w.heap.size 34 2 (.slice (some ⟨w.heap.size, 0, none⟩) 1 1) 1 (flat [(a, b)]) :=
  ⟨rfl, .inr ⟨w.heap.size, 1, #[.int .i64 a, .int .i64 b], rfl, Nat.le_refl _, heap_alloc_new w _, Nat.le_refl _, by unfold maxLen; omega, rfl, rfl⟩⟩

set_option maxRecDepth 20000 in
set_option maxHeartbeats 1000000 in
theorem steps_bad (pump : Int) (v fv : Value) (ps : List Pp) (fl : List (Int × Int)) (w : World) (hgd : goodB pump ps fl = false) (hv : PipesAt w.heap.size w v ps) (hfv : SetAt w.heap.size w fv fl) (hG : Gp w) :
    Calls Tryd.prog 3 #[.agg #[.int .i64 pump, v], fv] w fun e w' => e = .returned (.bool true) ∧ Below w.heap.size w w' := by
  have c1 : Hid (∀ W, Below w.heap.size w W → Calls Tryd.prog 4 #[.agg #[.int .i64 pump, v], fv, .int .i64 40] W fun e w' => e = .returned (.bool false) ∧ Below W.heap.size W w') :=
    Lib.hid fun W hb => by
      have := meetGood_any pump v fv ps fl W ((hv.below hb (Nat.le_refl _)).mono hb.size) ((hfv.below hb (Nat.le_refl _)).mono hb.size) (hG.below hb (Nat.le_refl _))
      rw [hgd] at this
      exact this
  have cK : Hid (∀ W, Below w.heap.size w W → Calls Tryd.prog 5 #[] W fun e w' => e = .returned (.bool true) ∧ Below W.heap.size W w') :=
    Lib.hid fun W hb => knownLine_any W (hG.below hb (Nat.le_refl _))
  obtain ⟨A, c, rfl, _, _⟩ := hv
  generalize ps.length = n at *
  clear hgd hfv hG
  go_enter Tryd.func3, Tryd.ntmps3
  go_wp2_with fail
  refine (c1.out _ ((Below.refl _ _).alloc (Nat.le_refl _) _)).mono ?_
  rintro e w1 ⟨rfl, hb⟩
  have hB := below1 hb
  clear hb
  go_wp2_with fail
  refine (cK.out _ hB).mono ?_
  rintro e w2 ⟨rfl, hb⟩
  replace hB := hB.trans (hb.mono hB.size)
  clear hb
  go_wp2_with fail
  go_ret
  exact ⟨rfl, hB⟩

set_option maxRecDepth 40000 in
set_option maxHeartbeats 8000000 in
theorem steps_good (pump : Int) (v fv : Value) (ps : List Pp) (fl : List (Int × Int)) (w : World) (hgd : goodB pump ps fl = true) (hv : PipesAt w.heap.size w v ps) (hfv : SetAt w.heap.size w fv fl) (hG : Gp w) :
    Calls Tryd.prog 3 #[.agg #[.int .i64 pump, v], fv] w fun e w' => e = .returned (.bool true) ∧ Below w.heap.size w w' := by
  obtain ⟨i0, hi0, hz0, hz1, hz2⟩ := info_parts infoRange
  obtain ⟨n1, n2, hfn, hnb, hfb⟩ := goodB_of hgd
  have hE : flE pump ps fl = 0 := flE_yes hnb hfn hfb
  have HOK := Lib.hid (netB_of hnb)
  have HFB : Hid (∀ i, i < fl.length → flB (fl.getD i (0, 0)) = true) := Lib.hid fun i hi => flsB_at hfb hi
  have HFN := Lib.hid hfn
  have hpump := (netB_of hnb).2.1
  have c1 : Hid (∀ W, Below w.heap.size w W → Calls Tryd.prog 4 #[.agg #[.int .i64 pump, v], fv, .int .i64 40] W fun e w' => e = .returned (.bool true) ∧ Below W.heap.size W w') :=
    Lib.hid fun W hb => by
      have := meetGood_any pump v fv ps fl W ((hv.below hb (Nat.le_refl _)).mono hb.size) ((hfv.below hb (Nat.le_refl _)).mono hb.size) (hG.below hb (Nat.le_refl _))
      rw [hgd] at this
      exact this
  have cK : Hid (∀ W, Below w.heap.size w W → Calls Tryd.prog 5 #[] W fun e w' => e = .returned (.bool true) ∧ Below W.heap.size W w') :=
    Lib.hid fun W hb => knownLine_any W (hG.below hb (Nat.le_refl _))
  have cN : Hid (∀ W, Below w.heap.size w W → Calls Tryd.prog 7 #[.agg #[.int .i64 pump, v]] W fun e w' => ∃ v', e = .returned (.agg #[.int .i64 pump, v']) ∧ PipesAt w'.heap.size w' v' ps ∧ Below W.heap.size W w') :=
    Lib.hid fun W hb => meetNet_ok pump v ps W (by omega) (by omega) ((hv.below hb (Nat.le_refl _)).mono hb.size)
  have cF : Hid (∀ W, Below w.heap.size w W → Calls Tryd.prog 8 #[fv] W fun e w' => ∃ v', e = .returned v' ∧ RowAt w'.heap.size w' v' fl ∧ Below W.heap.size W w') :=
    Lib.hid fun W hb => meetFlows_ok fv fl W (by omega) (by omega) ((hfv.below hb (Nat.le_refl _)).mono hb.size)
  have cL : Hid (∀ v1 f1 W, Below w.heap.size w W → PipesAt W.heap.size W v1 ps → RowAt W.heap.size W f1 fl → Calls Tryd.prog 6 #[.agg #[.int .i64 pump, v1], f1, .slice none 0 0] W fun e w' => ∃ v', e = .returned (.tuple #[v', .int .i64 0]) ∧ RowAt w'.heap.size w' v' (loadsL ps fl) ∧ Below W.heap.size W w') :=
    Lib.hid fun v1 f1 W hb hp hf => (loadsCall_ok pump v1 f1 ps fl W hE hp (hG.below hb (Nat.le_refl _)) hf.set).mono fun e w' ⟨v', he, hr, hB⟩ => ⟨v', he, hr.row, hB⟩
  have cV : Hid (∀ v1 f1 W, Below w.heap.size w W → PipesAt W.heap.size W v1 ps → RowAt W.heap.size W f1 fl → Calls Tryd.prog 9 #[.agg #[.int .i64 pump, v1], f1, .slice none 0 0] W fun e w' => ∃ v', e = .returned (.tuple #[v', .int .i64 0]) ∧ RowAt w'.heap.size w' v' (vacsL pump ps fl) ∧ Below W.heap.size W w') :=
    Lib.hid fun v1 f1 W hb hp hf => vacuum_ok pump v1 f1 ps fl W hE hp (hG.below hb (Nat.le_refl _)) hf.set
  have cS : Hid (∀ (V : Value) (xs : List (Int × Int)) W, SetAt W.heap.size W V xs → Calls Tryd.prog 10 #[V] W fun e w' => e = .returned (.tuple #[.agg #[.int .i64 (smL xs), .int .i64 (smH xs)], .int .i64 (smE xs)]) ∧ Below W.heap.size W w') :=
    Lib.hid fun V xs W h => sum_any V xs W h
  have HLL := Lib.hid ((loadsL_length ps fl).trans hfn)
  have HVL := Lib.hid (vacsL_length (pump := pump) (ps := ps) (fl := fl) n1)
  obtain ⟨A, c, rfl, _, hps⟩ := hv
  obtain ⟨A', c', rfl, hfs⟩ := hfv
  obtain ⟨g, off, rfl, hg, hR⟩ := hps (by omega)
  obtain ⟨g', off', rfl, hg', hR'⟩ := hfs (by omega)
  have HR0 := Lib.hid hR
  have HR0' := Lib.hid hR'
  obtain ⟨n, hn⟩ : ∃ n, ps.length = n := ⟨_, rfl⟩
  rw [hfn] at c1 cF ⊢
  rw [hn] at n1 n2 c1 cN cF HLL HVL ⊢
  have Hn := Lib.hid hn
  obtain ⟨pm1, pm2⟩ := hpump
  clear hgd hnb hfb hE hG hps hfs hR hR' hn hfn
  go_enter Tryd.func3, Tryd.ntmps3
  go_wp2_with fail
  refine (c1.out _ ((Below.refl _ _).alloc (Nat.le_refl _) _)).mono ?_
  rintro e w1 ⟨rfl, hb⟩
  have r0 := cell_next hb (b := w.heap.size) (o := 0) (by simp) (v := some (.int .i64 pump)) (by simp [go_sem])
  have r1 := cell_next hb (b := w.heap.size) (o := 1) (by simp) (v := some (.slice (some ⟨g, off, none⟩) n c)) (by simp [go_sem])
  have hlt : w.heap.size < w1.heap.size := by have := hb.size; simp at this; omega
  have hB := below1 hb
  clear hb c1
  go_wp2_with fail
  refine (cN.out _ hB).mono ?_
  rintro e wa1 ⟨v1, rfl, hp1, hb⟩
  replace r0 := cell_next hb hlt r0
  replace r1 := cell_next hb hlt r1
  replace hlt := Nat.lt_of_lt_of_le hlt hb.size
  replace hB := hB.trans (hb.mono hB.size)
  have HP1 := Lib.hid hp1
  clear hp1
  clear hb
  go_wp2_with fail
  refine (cF.out _ hB).mono ?_
  rintro e wa2 ⟨f1, rfl, hf1, hb⟩
  replace r0 := cell_next hb hlt r0
  replace r1 := cell_next hb hlt r1
  replace hlt := Nat.lt_of_lt_of_le hlt hb.size
  replace hB := hB.trans (hb.mono hB.size)
  have HP2 : Hid (PipesAt wa2.heap.size wa2 v1 ps) := Lib.hid ((HP1.out.below hb (Nat.le_refl _)).mono hb.size)
  have HF2 := Lib.hid hf1
  clear hf1 HP1
  clear hb
  go_wp2_with fail
  refine (cL.out _ _ _ hB HP2.out HF2.out).mono ?_
  rintro e wa3 ⟨vl, rfl, hl, hb⟩
  replace r0 := cell_next hb hlt r0
  replace r1 := cell_next hb hlt r1
  replace hlt := Nat.lt_of_lt_of_le hlt hb.size
  replace hB := hB.trans (hb.mono hB.size)
  obtain ⟨Al, cl, rfl, _, hl0⟩ := hl
  obtain ⟨gl, ol, rfl, hgl, hRl⟩ := hl0 (by rw [HLL.out]; omega)
  have HL0 := Lib.hid hRl
  have hBL := Below.refl wa3.heap.size wa3
  clear hl0 hRl HP2 HF2
  clear hb
  rw [HLL.out]
  go_wp2_with fail
  refine (cN.out _ hB).mono ?_
  rintro e wb1 ⟨v1, rfl, hp1, hb⟩
  replace hBL := hBL.trans (hb.mono hBL.size)
  replace r0 := cell_next hb hlt r0
  replace r1 := cell_next hb hlt r1
  replace hlt := Nat.lt_of_lt_of_le hlt hb.size
  replace hB := hB.trans (hb.mono hB.size)
  have HP1 := Lib.hid hp1
  clear hp1
  clear hb
  go_wp2_with fail
  refine (cF.out _ hB).mono ?_
  rintro e wb2 ⟨f1, rfl, hf1, hb⟩
  replace hBL := hBL.trans (hb.mono hBL.size)
  replace r0 := cell_next hb hlt r0
  replace r1 := cell_next hb hlt r1
  replace hlt := Nat.lt_of_lt_of_le hlt hb.size
  replace hB := hB.trans (hb.mono hB.size)
  have HP2 : Hid (PipesAt wb2.heap.size wb2 v1 ps) := Lib.hid ((HP1.out.below hb (Nat.le_refl _)).mono hb.size)
  have HF2 := Lib.hid hf1
  clear hf1 HP1
  clear hb
  go_wp2_with fail
  refine (cV.out _ _ _ hB HP2.out HF2.out).mono ?_
  rintro e wo ⟨vv, rfl, hvv, hb⟩
  replace hBL := hBL.trans (hb.mono hBL.size)
  replace r0 := cell_next hb hlt r0
  replace r1 := cell_next hb hlt r1
  replace hlt := Nat.lt_of_lt_of_le hlt hb.size
  replace hB := hB.trans (hb.mono hB.size)
  obtain ⟨Av, cv, rfl, _, hv0⟩ := hvv
  obtain ⟨gv, ov, rfl, hgv, hRv⟩ := hv0 (by rw [HVL.out]; omega)
  have HV := Lib.hid hRv
  clear hv0 hRv HP2 HF2
  clear hb
  rw [HVL.out]
  have HL : Hid (RRd wo gl ol (loadsL ps fl)) := Lib.hid (HL0.out.below hBL hgl)
  have HP : Hid (PRd wo g off ps) := Lib.hid (HR0.out.below hB hg)
  have HF : Hid (RRd wo g' off' fl) := Lib.hid (HR0'.out.below hB hg')
  replace hgl := Nat.lt_of_lt_of_le hgl hBL.size
  replace hg := Nat.lt_of_lt_of_le hg hB.size
  replace hg' := Nat.lt_of_lt_of_le hg' hB.size
  have R0 := Lib.hid r0
  have R1 := Lib.hid r1
  clear hBL HL0 HR0 HR0' cN cF cL cV
  go_wp2_with fail
  clear r0 r1
  obtain ⟨wz, hwz⟩ : ∃ wz : World, wz = wo := ⟨_, rfl⟩
  go_loopw [9] (fun i wr => ∃ k : Nat, k ≤ n ∧ i = .int .i64 (k : Int) ∧ Below wz.heap.size wz wr) (fun i _ => n - (intOf i).toNat)
  case atStart => exact ⟨0, Nat.zero_le _, rfl, by rw [hwz]; exact Below.refl _ _⟩
  case round =>
    subst hwz
    obtain ⟨k, hkn, rfl, hBo⟩ := hrel
    have hzo := hBo.size
    have hBall := hB.trans (hBo.mono hB.size)
    generalize wr = w6 at *
    have r0 := cell_next hBo hlt R0.out
    have r1 := cell_next hBo hlt R1.out
    by_cases hlast : (k : Int) < (n : Int)
    · have hk : k < n := by omega
      have Hf := Lib.hid (getElem?_getD (0, 0) (show k < fl.length by rw [HFN.out, Hn.out]; exact hk))
      have Hp := Lib.hid (getElem?_getD p0 (show k < ps.length by rw [Hn.out]; exact hk))
      have Hl := Lib.hid (getElem?_getD (0, 0) (show k < (loadsL ps fl).length by rw [HLL.out]; exact hk))
      have Hu := Lib.hid (getElem?_getD (0, 0) (show k < (vacsL pump ps fl).length by rw [HVL.out]; exact hk))
      obtain ⟨u0, u1⟩ := (HF.out.below hBo hg') k _ Hf.out
      have HO0 := Lib.hid (own_one (fl.getD k (0, 0)).1 (fl.getD k (0, 0)).2 w6)
      have HO1 : Hid ((w6.alloc (.cells #[.int .i64 (fl.getD k (0, 0)).1, .int .i64 (fl.getD k (0, 0)).2] 34)).ownsRow w6.heap.size 34 2 (.slice (some ⟨w6.heap.size, 0, none⟩) 1 1) (behL ps fl k (k + 1)).length (flat (behL ps fl k (k + 1)))) := Lib.hid (by rw [behL_start]; exact HO0.out)
      clear HO0
      generalize (fl.getD k (0, 0)) = fk at *
      go_wp2_with fail
      clear u0 u1
      go_loopw [10, 11] (fun V j wr => ∃ m : Nat, k + 1 ≤ m ∧ m ≤ n ∧ j = .int .i64 (m : Int) ∧ Hid (wr.ownsRow w6.heap.size 34 2 V (behL ps fl k m).length (flat (behL ps fl k m))) ∧ Below w6.heap.size w6 wr) (fun _ j _ => n - (intOf j).toNat)
      case atStart => exact ⟨k + 1, Nat.le_refl _, by omega, by go_num, HO1, (Below.refl _ _).alloc (Nat.le_refl _) _⟩
      case round =>
        obtain ⟨m, hm1, hm2, rfl, HOm, hB6⟩ := hrel
        clear HO1
        have hlen := behL_length ps fl k m
        obtain ⟨G, cap, rfl⟩ := own_slice HOm.out hlen.1
        have hGlt := HOm.out.lt G rfl
        have hBr := hBo.trans (hB6.mono hBo.size)
        replace r0 := cell_next hBr hlt R0.out
        replace r1 := cell_next hBr hlt R1.out
        obtain ⟨lb, hlb⟩ : ∃ lb, (behL ps fl k m).length = lb := ⟨_, rfl⟩
        rw [hlb] at hlen HOm ⊢
        have Hlb := Lib.hid hlb
        clear hlb
        have hzr := hB6.size
        by_cases hmn : (m : Int) < (n : Int)
        · have hmN : m < n := by omega
          obtain ⟨par1, par2, par3⟩ := HOK.out.par (i := m) (by omega) (by rw [Hn.out]; exact hmN)
          have hpm := getElem?_getD p0 (show m < ps.length by rw [Hn.out]; exact hmN)
          have hlm := getElem?_getD (0, 0) (show m < (loadsL ps fl).length by rw [HLL.out]; exact hmN)
          obtain ⟨s0, _, _, _, _⟩ := (HP.out.below hBr hg) m _ hpm
          obtain ⟨l0, l1⟩ := (HL.out.below hBr hgl) m _ hlm
          rw [← par3] at s0
          clear par1 par3 hpm hlm
          by_cases hq : parN ps m = k
          · have hqe : (((parN ps m : Nat) : Int) == (k : Int)) = true := by simp; omega
            have HY : Hid (flat (behL ps fl k m) ++ [.int .i64 ((loadsL ps fl).getD m (0, 0)).1, .int .i64 ((loadsL ps fl).getD m (0, 0)).2] = flat (behL ps fl k (m + 1))) := Lib.hid (by rw [behL_yes hm1 hq, flat_snoc])
            have HYl : Hid ((behL ps fl k (m + 1)).length = lb + 1) := Lib.hid (by rw [behL_yes hm1 hq, List.length_append, Hlb.out]; rfl)
            clear hq
            generalize parN ps m = q at *
            generalize (loadsL ps fl).getD m (0, 0) = lm at *
            obtain ⟨L, hL⟩ : ∃ L, flat (behL ps fl k m) = L := ⟨_, rfl⟩
            rw [hL] at HOm HY
            clear hL
            go_wp2_with (at_builtin; refine wpList_append_own_at _ rfl (.tmp 94) (.tmp 99) 25 rfl w6.heap.size 34 i0 (.agg #[.int .i64 0, .int .i64 0]) 2 16 Tryd.underlying25 hi0 hz0 hz1 hz2 rfl (by decide) (.slice (some ⟨G, 0, none⟩) lb cap) lb L rfl (HOm.out.alloc _) ⟨wr.heap.size, 0, none⟩ 1 1 [.int .i64 lm.1, .int .i64 lm.2] rfl rfl ?_ ?_ ?_ ?_ ?_ ?_)
            case refine_1 =>
              intro j u hj
              rcases j with _ | _ | j
              · simp at hj; subst hj; exact cell_new _ _ _ 0
              · simp at hj; subst hj; exact cell_new _ _ _ 1
              · simp at hj
            case refine_2 => simp [Value.oneCell']
            case refine_3 => unfold maxLen; omega
            case refine_4 => omega
            case refine_5 => simp; omega
            case refine_6 =>
              intro v' w8 hown' hgrow _ hat
              have hB8 : Below w6.heap.size w6 w8 := (hB6.alloc (by omega) _).grown hgrow (by simp; omega) (fun k hk => by simp [Value.ownBlock] at hk; omega)
              have HO8 : Hid (w8.ownsRow w6.heap.size 34 2 v' (behL ps fl k (m + 1)).length (flat (behL ps fl k (m + 1)))) := Lib.hid (by rw [HYl.out, ← HY.out]; exact hown')
              clear hown' hgrow hat HOm HY HYl
              go_wp2_with fail
              go_roundw
              case rel => exact ⟨m + 1, by omega, by omega, by go_num, HO8, hB8⟩
              case measure => simp [intOf]; omega
          · have hqe : (((parN ps m : Nat) : Int) == (k : Int)) = false := by simp; omega
            have HO8 : Hid (wr.ownsRow w6.heap.size 34 2 (.slice (some ⟨G, 0, none⟩) lb cap) (behL ps fl k (m + 1)).length (flat (behL ps fl k (m + 1)))) := Lib.hid (by rw [behL_no hm1 hq, Hlb.out]; exact HOm.out)
            clear hq HOm
            generalize parN ps m = q at *
            go_wp2_with fail
            go_roundw
            case rel => exact ⟨m + 1, by omega, by omega, by go_num, HO8, hB6⟩
            case measure => simp [intOf]; omega
        · obtain rfl : m = n := by omega
          have HSet : Hid (SetAt wr.heap.size wr (.slice (some ⟨G, 0, none⟩) lb cap) (behL ps fl k m)) := Lib.hid (own_row _ _ Hlb.out _ wr HOm.out).set
          have hsum := behL_sum HOK.out HFN.out HFB.out (i := k) (by rw [Hn.out]; exact hk)
          rw [Hn.out] at hsum
          have cSk : Hid (Calls Tryd.prog 10 #[.slice (some ⟨G, 0, none⟩) lb cap] wr fun e w' => e = .returned (.tuple #[.agg #[.int .i64 ((loadsL ps fl).getD k (0, 0)).1, .int .i64 ((loadsL ps fl).getD k (0, 0)).2], .int .i64 0]) ∧ Below wr.heap.size wr w') := Lib.hid (by
            have := cS.out _ _ wr HSet.out
            rw [hsum.1, hsum.2.1, hsum.2.2] at this
            exact this)
          clear hsum HSet HOm Hlb hGlt hlen
          generalize hlk : (loadsL ps fl).getD k (0, 0) = lk at *
          have Hlk := Lib.hid hlk
          clear hlk
          go_wp2_with fail
          refine cSk.out.mono ?_
          rintro e w7 ⟨rfl, hb⟩
          replace hBr := hBr.trans (hb.mono hBr.size)
          clear hb cSk hB6
          obtain ⟨l0, l1⟩ := (HL.out.below hBr hgl) k _ Hl.out
          replace r0 := cell_next hBr hlt R0.out
          replace r1 := cell_next hBr hlt R1.out
          have hz7 := hBr.size
          have hgl7 : gl < w7.heap.size := by omega
          go_wp2_with fail
          go_quiet (fail)
          have hB8 := below_drewN (hBr.alloc hBr.size (Obj.cells #[Value.int IntKind.i64 lk.1, Value.int IntKind.i64 lk.2] 34)) nq
          by_cases hk0 : k = 0
          · have hke : ((k : Int) == 0) = true := by simp; omega
            go_wp2_with fail
            go_roundw
            case rel => exact ⟨k + 1, by omega, by go_num, hB8⟩
            case measure => simp [intOf]; omega
          · have hke : ((k : Int) == 0) = false := by simp; omega
            clear l0 l1 r0 r1 hBr hz7 hgl7
            go_wp2_with fail
            generalize ((w7.alloc (Obj.cells #[Value.int IntKind.i64 lk.1, Value.int IntKind.i64 lk.2] 34)).drewN nq) = w8 at *
            obtain ⟨par1, par2, par3⟩ := HOK.out.par (i := k) (by omega) (by rw [Hn.out]; exact hk)
            have pv := HOK.out.valid (i := k) (by omega) (by rw [Hn.out]; exact hk)
            have lb8 := loadsL_bd HOK.out HFN.out HFB.out (i := k) (by rw [Hn.out]; exact hk)
            rw [Hlk.out] at lb8
            obtain ⟨t, ht⟩ : ∃ t, (vacsL pump ps fl).getD (parN ps k) (0, 0) = t := ⟨_, rfl⟩
            obtain ⟨p, hp⟩ : ∃ p, ps.getD k p0 = p := ⟨_, rfl⟩
            obtain ⟨u, hu⟩ : ∃ u, (vacsL pump ps fl).getD k (0, 0) = u := ⟨_, rfl⟩
            have hless := less_at HOK.out HFN.out HFB.out (i := k) (by omega) (by rw [Hn.out]; exact hk) t lk p ht Hlk.out hp
            have hatm := atMost_at HOK.out HFN.out HFB.out (i := k) (by rw [Hn.out]; exact hk) u hu
            have huv := vacsL_at (fl := fl) HOK.out (i := k) (by omega) (by rw [Hn.out]; exact hk)
            rw [hu, ht, Hlk.out, hp] at huv
            have hvq := getElem?_getD (0, 0) (show parN ps k < (vacsL pump ps fl).length by rw [HVL.out]; omega)
            rw [ht] at hvq
            rw [hu] at Hu
            rw [hp] at Hp pv par3
            have lb9 := lossV_bd pv lb8.1 (by omega)
            have lb10 := lossV_bd pv (f := lk.2) (by omega) lb8.2.2
            obtain ⟨q, hq⟩ : ∃ q, parN ps k = q := ⟨_, rfl⟩
            rw [hq] at par2 par3 hvq
            have Hvq := Lib.hid hvq
            have Hpa := Lib.hid par3.symm
            have cLo := Lib.hid (lossCall_ok p lk.1 pv lb8.1 (by omega))
            have cHi := Lib.hid (lossCall_ok p lk.2 pv (by omega) lb8.2.2)
            have cLe : Hid (∀ W, Calls Tryd.prog 12 #[.agg #[.int .i64 t.1, .int .i64 t.2], .agg #[.int .i64 (lossV p lk.1), .int .i64 (lossV p lk.2)]] W fun e w' => e = .returned (.tuple #[.agg #[.int .i64 (t.1 - lossV p lk.2), .int .i64 (t.2 - lossV p lk.1)], .int .i64 0]) ∧ Below W.heap.size W w') := Lib.hid fun W => by
              have := less_any t.1 t.2 (lossV p lk.1) (lossV p lk.2) W
              rw [hless.1, hless.2.1, hless.2.2] at this
              exact this
            have cAt : Hid (∀ W, Calls Tryd.prog 13 #[.agg #[.int .i64 u.1, .int .i64 u.2], .agg #[.int .i64 pump, .int .i64 pump]] W fun e w' => e = .returned (.tuple #[.bool true, .bool true, .int .i64 0]) ∧ Below W.heap.size W w') := Lib.hid fun W => by
              have := atMost_any u.1 u.2 pump pump W
              rw [hatm.1, hatm.2.1, hatm.2.2, if_pos rfl] at this
              exact this
            have hx1 : max 0 (t.1 - lossV p lk.2) = u.1 := by rw [huv]
            have hx2 : max 0 (t.2 - lossV p lk.1) = u.2 := by rw [huv]
            have M1 : ∀ tys ty w, (Builtin.max_ tys ty #[.int .i64 0, .int .i64 (t.1 - lossV p lk.2)]).run Tryd.prog w = .ok (.int .i64 u.1) w := fun tys ty w => by rw [rrun_max2, hx1]
            have M2 : ∀ tys ty w, (Builtin.max_ tys ty #[.int .i64 0, .int .i64 (t.2 - lossV p lk.1)]).run Tryd.prog w = .ok (.int .i64 u.2) w := fun tys ty w => by rw [rrun_max2, hx2]
            clear par1 par3 pv lb8 lb9 lb10 ht hp hu hless hatm huv hvq hq hx1 hx2 hk0
            generalize lossV p lk.1 = least at *
            generalize lossV p lk.2 = most at *
            generalize t.1 - most = left1 at *
            generalize t.2 - least = left2 at *
            have hz8 := hB8.size
            have hg8 : g < w8.heap.size := by omega
            have hgl8 : gl < w8.heap.size := by omega
            have hlt8 : w.heap.size < w8.heap.size := by omega
            have r1 := cell_next hB8 hlt R1.out
            obtain ⟨s0, s1, s2, s3, s4⟩ := (HP.out.below hB8 hg) k _ Hp.out
            obtain ⟨l0, l1⟩ := (HL.out.below hB8 hgl) k _ Hl.out
            have hS8 := And.intro r1 (And.intro s0 (And.intro s1 (And.intro s2 (And.intro s3 (And.intro s4 (And.intro l0 (And.intro l1 (Below.refl w8.heap.size w8))))))))
            clear r1 s0 s1 s2 s3 s4 l0 l1
            refine wp_region_held_drew (S := fun W' => W'.cell? ⟨w.heap.size, 1, none⟩ = some (.slice (some ⟨g, off, none⟩) m c) ∧ W'.cell? ⟨g, off + k * 5, none⟩ = some (.int .i64 p.pa) ∧ W'.cell? ⟨g, off + k * 5 + 1, none⟩ = some (.int .i64 p.ln) ∧ W'.cell? ⟨g, off + k * 5 + 2, none⟩ = some (.int .i64 p.bo) ∧ W'.cell? ⟨g, off + k * 5 + 3, none⟩ = some (.int .i64 p.dr) ∧ W'.cell? ⟨g, off + k * 5 + 4, none⟩ = some (.int .i64 p.ta) ∧ W'.cell? ⟨gl, ol + k * 2, none⟩ = some (.int .i64 lk.1) ∧ W'.cell? ⟨gl, ol + k * 2 + 1, none⟩ = some (.int .i64 lk.2) ∧ Below w8.heap.size w8 W') (by kernel_rfl) ?_ (fun hHeld => ?_)
            focus (have hdr := Below.drew (Below.refl w8.heap.size w8); (obtain ⟨a0, a1, a2, a3, a4, a5, a6, a7, hK⟩ := hS8; have hKz := hK.size; exact ⟨cell_next hdr (by omega) a0, cell_next hdr (by omega) a1, cell_next hdr (by omega) a2, cell_next hdr (by omega) a3, cell_next hdr (by omega) a4, cell_next hdr (by omega) a5, cell_next hdr (by omega) a6, cell_next hdr (by omega) a7, hK.trans (hdr.mono hKz)⟩))
            refine take_slot (i := 0) (d := 119) (v := ?_) rfl rfl (by kernel_rfl) (by kernel_rfl) (by kernel_rfl) (fun _ _ _ h => h) (Or.inl ⟨by rfl, ?_⟩) (by assumption) ?_
            rotate_left 1
            focus (intro wS hSw; (try dsimp only at hSw); go_simp; try with_reducible rfl)
            try simp only [List.setIfInBounds_toArray, List.set_cons_zero, List.set_cons_succ]
            refine take_slot (i := 1) (d := 120) (v := ?_) rfl rfl (by kernel_rfl) (by kernel_rfl) (by kernel_rfl) (fun _ _ _ h => h) (Or.inl ⟨by rfl, ?_⟩) (by assumption) ?_
            rotate_left 1
            focus (intro wS hSw; (try dsimp only at hSw); go_simp; try with_reducible rfl)
            try simp only [List.setIfInBounds_toArray, List.set_cons_zero, List.set_cons_succ]
            refine take_slot (i := 2) (d := 121) (v := ?_) rfl rfl (by kernel_rfl) (by kernel_rfl) (by kernel_rfl) (fun _ _ _ h => h) (Or.inl ⟨by rfl, ?_⟩) (by assumption) ?_
            rotate_left 1
            focus (intro wS hSw; (try dsimp only at hSw); go_simp; try with_reducible rfl)
            try simp only [List.setIfInBounds_toArray, List.set_cons_zero, List.set_cons_succ]
            refine take_slot (i := 3) (d := 122) (v := ?_) rfl rfl (by kernel_rfl) (by kernel_rfl) (by kernel_rfl) (fun _ _ _ h => h) (Or.inl ⟨by rfl, ?_⟩) (by assumption) ?_
            rotate_left 1
            focus (intro wS hSw; (try dsimp only at hSw); go_simp; try with_reducible rfl)
            try simp only [List.setIfInBounds_toArray, List.set_cons_zero, List.set_cons_succ]
            refine take_slot (i := 4) (d := 123) (v := ?_) rfl rfl (by kernel_rfl) (by kernel_rfl) (by kernel_rfl) (fun _ _ _ h => h) (Or.inl ⟨by rfl, ?_⟩) (by assumption) ?_
            rotate_left 1
            focus (intro wS hSw; (try dsimp only at hSw); go_simp; try with_reducible rfl)
            try simp only [List.setIfInBounds_toArray, List.set_cons_zero, List.set_cons_succ]
            refine take_slot (i := 5) (d := 124) (v := ?_) rfl rfl (by kernel_rfl) (by kernel_rfl) (by kernel_rfl) (fun _ _ _ h => h) (Or.inl ⟨by rfl, ?_⟩) (by assumption) ?_
            rotate_left 1
            focus (intro wS hSw; (try dsimp only at hSw); go_simp; try with_reducible rfl)
            try simp only [List.setIfInBounds_toArray, List.set_cons_zero, List.set_cons_succ]
            refine take_slot (i := 6) (d := 125) (v := ?_) rfl rfl (by kernel_rfl) (by kernel_rfl) (by kernel_rfl) (fun _ _ _ h => h) (Or.inl ⟨by rfl, ?_⟩) (by assumption) ?_
            rotate_left 1
            focus (intro wS hSw; (try dsimp only at hSw); go_simp; try with_reducible rfl)
            try simp only [List.setIfInBounds_toArray, List.set_cons_zero, List.set_cons_succ]
            refine take_slot (i := 7) (d := 126) (v := ?_) rfl rfl (by kernel_rfl) (by kernel_rfl) (by kernel_rfl) (fun _ _ _ h => h) (Or.inl ⟨by rfl, ?_⟩) (by assumption) ?_
            rotate_left 1
            focus (intro wS hSw; (try dsimp only at hSw); go_simp; try with_reducible rfl)
            try simp only [List.setIfInBounds_toArray, List.set_cons_zero, List.set_cons_succ]
            refine take_slot (i := 8) (d := 127) (v := ?_) rfl rfl (by kernel_rfl) (by kernel_rfl) (by kernel_rfl) (fun _ _ _ h => h) (Or.inl ⟨by rfl, ?_⟩) (by assumption) ?_
            rotate_left 1
            focus (intro wS hSw; (try dsimp only at hSw); go_simp; try with_reducible rfl)
            try simp only [List.setIfInBounds_toArray, List.set_cons_zero, List.set_cons_succ]
            refine take_slot (i := 9) (d := 128) (v := ?_) rfl rfl (by kernel_rfl) (by kernel_rfl) (by kernel_rfl) (fun _ _ _ h => h) (Or.inl ⟨by rfl, ?_⟩) (by assumption) ?_
            rotate_left 1
            focus (intro wS hSw; (try dsimp only at hSw); go_simp; try with_reducible rfl)
            try simp only [List.setIfInBounds_toArray, List.set_cons_zero, List.set_cons_succ]
            refine wpAnyH_ready (rs := [10]) (by kernel_rfl) (by simp) ?_
            refine AllReadyH.cons rfl (fun K hK => ?_) AllReadyH.nil
            skip
            go_simp
            refine (cLo.out _).mono ?_; rintro e w9 ⟨rfl, hb9⟩
            refine hK.out _ _ ?_ (fun hHeld => ?_)
            focus ((obtain ⟨a0, a1, a2, a3, a4, a5, a6, a7, hK⟩ := hHeld; have hKz := hK.size; exact ⟨cell_next hb9 (by omega) a0, cell_next hb9 (by omega) a1, cell_next hb9 (by omega) a2, cell_next hb9 (by omega) a3, cell_next hb9 (by omega) a4, cell_next hb9 (by omega) a5, cell_next hb9 (by omega) a6, cell_next hb9 (by omega) a7, hK.trans (hb9.mono hKz)⟩))
            clear hK K
            try simp only [Act.put, List.setIfInBounds_toArray, List.set_cons_zero, List.set_cons_succ]
            refine take_slot (i := 11) (d := 118) (v := ?_) rfl rfl (by kernel_rfl) (by kernel_rfl) (by kernel_rfl) (fun _ _ _ h => h) (Or.inl ⟨by rfl, ?_⟩) (by assumption) ?_
            rotate_left 1
            focus (intro wS hSw; (try dsimp only at hSw); go_simp; try with_reducible rfl)
            try simp only [List.setIfInBounds_toArray, List.set_cons_zero, List.set_cons_succ]
            refine take_slot (i := 12) (d := 130) (v := ?_) rfl rfl (by kernel_rfl) (by kernel_rfl) (by kernel_rfl) (fun _ _ _ h => h) (Or.inl ⟨by rfl, ?_⟩) (by assumption) ?_
            rotate_left 1
            focus (intro wS hSw; (try dsimp only at hSw); go_simp; try with_reducible rfl)
            try simp only [List.setIfInBounds_toArray, List.set_cons_zero, List.set_cons_succ]
            refine take_slot (i := 13) (d := 131) (v := ?_) rfl rfl (by kernel_rfl) (by kernel_rfl) (by kernel_rfl) (fun _ _ _ h => h) (Or.inl ⟨by rfl, ?_⟩) (by assumption) ?_
            rotate_left 1
            focus (intro wS hSw; (try dsimp only at hSw); go_simp; try with_reducible rfl)
            try simp only [List.setIfInBounds_toArray, List.set_cons_zero, List.set_cons_succ]
            refine take_slot (i := 14) (d := 14) (v := ?_) rfl rfl (by kernel_rfl) (by kernel_rfl) (by kernel_rfl) (fun _ _ _ h => h) (Or.inl ⟨by rfl, ?_⟩) (by assumption) ?_
            rotate_left 1
            focus (intro wS hSw; (try dsimp only at hSw); go_simp; try with_reducible rfl)
            try simp only [List.setIfInBounds_toArray, List.set_cons_zero, List.set_cons_succ]
            refine take_slot (i := 15) (d := 13) (v := ?_) rfl rfl (by kernel_rfl) (by kernel_rfl) (by kernel_rfl) (fun _ _ _ h => h) (Or.inl ⟨by rfl, ?_⟩) (by assumption) ?_
            rotate_left 1
            focus (intro wS hSw; (try dsimp only at hSw); go_simp; try with_reducible rfl)
            try simp only [List.setIfInBounds_toArray, List.set_cons_zero, List.set_cons_succ]
            refine wpAnyH_done (by kernel_rfl) ?_ _
            go_wp2_with fail
            refine wp_region_held_drew (S := fun W' => W'.cell? ⟨w.heap.size, 1, none⟩ = some (.slice (some ⟨g, off, none⟩) m c) ∧ W'.cell? ⟨g, off + k * 5, none⟩ = some (.int .i64 p.pa) ∧ W'.cell? ⟨g, off + k * 5 + 1, none⟩ = some (.int .i64 p.ln) ∧ W'.cell? ⟨g, off + k * 5 + 2, none⟩ = some (.int .i64 p.bo) ∧ W'.cell? ⟨g, off + k * 5 + 3, none⟩ = some (.int .i64 p.dr) ∧ W'.cell? ⟨g, off + k * 5 + 4, none⟩ = some (.int .i64 p.ta) ∧ W'.cell? ⟨gl, ol + k * 2, none⟩ = some (.int .i64 lk.1) ∧ W'.cell? ⟨gl, ol + k * 2 + 1, none⟩ = some (.int .i64 lk.2) ∧ Below w8.heap.size w8 W') (by kernel_rfl) ?_ (fun hHeld => ?_)
            focus (have hdr := Below.drew (Below.refl w9.heap.size w9); (obtain ⟨a0, a1, a2, a3, a4, a5, a6, a7, hK⟩ := hHeld; have hKz := hK.size; exact ⟨cell_next hdr (by omega) a0, cell_next hdr (by omega) a1, cell_next hdr (by omega) a2, cell_next hdr (by omega) a3, cell_next hdr (by omega) a4, cell_next hdr (by omega) a5, cell_next hdr (by omega) a6, cell_next hdr (by omega) a7, hK.trans (hdr.mono hKz)⟩))
            refine take_slot (i := 0) (d := 133) (v := ?_) rfl rfl (by kernel_rfl) (by kernel_rfl) (by kernel_rfl) (fun _ _ _ h => h) (Or.inl ⟨by rfl, ?_⟩) (by assumption) ?_
            rotate_left 1
            focus (intro wS hSw; (try dsimp only at hSw); go_simp; try with_reducible rfl)
            try simp only [List.setIfInBounds_toArray, List.set_cons_zero, List.set_cons_succ]
            refine take_slot (i := 1) (d := 134) (v := ?_) rfl rfl (by kernel_rfl) (by kernel_rfl) (by kernel_rfl) (fun _ _ _ h => h) (Or.inl ⟨by rfl, ?_⟩) (by assumption) ?_
            rotate_left 1
            focus (intro wS hSw; (try dsimp only at hSw); go_simp; try with_reducible rfl)
            try simp only [List.setIfInBounds_toArray, List.set_cons_zero, List.set_cons_succ]
            refine take_slot (i := 2) (d := 135) (v := ?_) rfl rfl (by kernel_rfl) (by kernel_rfl) (by kernel_rfl) (fun _ _ _ h => h) (Or.inl ⟨by rfl, ?_⟩) (by assumption) ?_
            rotate_left 1
            focus (intro wS hSw; (try dsimp only at hSw); go_simp; try with_reducible rfl)
            try simp only [List.setIfInBounds_toArray, List.set_cons_zero, List.set_cons_succ]
            refine take_slot (i := 3) (d := 136) (v := ?_) rfl rfl (by kernel_rfl) (by kernel_rfl) (by kernel_rfl) (fun _ _ _ h => h) (Or.inl ⟨by rfl, ?_⟩) (by assumption) ?_
            rotate_left 1
            focus (intro wS hSw; (try dsimp only at hSw); go_simp; try with_reducible rfl)
            try simp only [List.setIfInBounds_toArray, List.set_cons_zero, List.set_cons_succ]
            refine take_slot (i := 4) (d := 137) (v := ?_) rfl rfl (by kernel_rfl) (by kernel_rfl) (by kernel_rfl) (fun _ _ _ h => h) (Or.inl ⟨by rfl, ?_⟩) (by assumption) ?_
            rotate_left 1
            focus (intro wS hSw; (try dsimp only at hSw); go_simp; try with_reducible rfl)
            try simp only [List.setIfInBounds_toArray, List.set_cons_zero, List.set_cons_succ]
            refine take_slot (i := 5) (d := 138) (v := ?_) rfl rfl (by kernel_rfl) (by kernel_rfl) (by kernel_rfl) (fun _ _ _ h => h) (Or.inl ⟨by rfl, ?_⟩) (by assumption) ?_
            rotate_left 1
            focus (intro wS hSw; (try dsimp only at hSw); go_simp; try with_reducible rfl)
            try simp only [List.setIfInBounds_toArray, List.set_cons_zero, List.set_cons_succ]
            refine take_slot (i := 6) (d := 139) (v := ?_) rfl rfl (by kernel_rfl) (by kernel_rfl) (by kernel_rfl) (fun _ _ _ h => h) (Or.inl ⟨by rfl, ?_⟩) (by assumption) ?_
            rotate_left 1
            focus (intro wS hSw; (try dsimp only at hSw); go_simp; try with_reducible rfl)
            try simp only [List.setIfInBounds_toArray, List.set_cons_zero, List.set_cons_succ]
            refine take_slot (i := 7) (d := 140) (v := ?_) rfl rfl (by kernel_rfl) (by kernel_rfl) (by kernel_rfl) (fun _ _ _ h => h) (Or.inl ⟨by rfl, ?_⟩) (by assumption) ?_
            rotate_left 1
            focus (intro wS hSw; (try dsimp only at hSw); go_simp; try with_reducible rfl)
            try simp only [List.setIfInBounds_toArray, List.set_cons_zero, List.set_cons_succ]
            refine take_slot (i := 8) (d := 141) (v := ?_) rfl rfl (by kernel_rfl) (by kernel_rfl) (by kernel_rfl) (fun _ _ _ h => h) (Or.inl ⟨by rfl, ?_⟩) (by assumption) ?_
            rotate_left 1
            focus (intro wS hSw; (try dsimp only at hSw); go_simp; try with_reducible rfl)
            try simp only [List.setIfInBounds_toArray, List.set_cons_zero, List.set_cons_succ]
            refine take_slot (i := 9) (d := 142) (v := ?_) rfl rfl (by kernel_rfl) (by kernel_rfl) (by kernel_rfl) (fun _ _ _ h => h) (Or.inl ⟨by rfl, ?_⟩) (by assumption) ?_
            rotate_left 1
            focus (intro wS hSw; (try dsimp only at hSw); go_simp; try with_reducible rfl)
            try simp only [List.setIfInBounds_toArray, List.set_cons_zero, List.set_cons_succ]
            refine wpAnyH_ready (rs := [10]) (by kernel_rfl) (by simp) ?_
            refine AllReadyH.cons rfl (fun K hK => ?_) AllReadyH.nil
            skip
            go_simp
            refine (cHi.out _).mono ?_; rintro e w10 ⟨rfl, hb10⟩
            refine hK.out _ _ ?_ (fun hHeld => ?_)
            focus ((obtain ⟨a0, a1, a2, a3, a4, a5, a6, a7, hK⟩ := hHeld; have hKz := hK.size; exact ⟨cell_next hb10 (by omega) a0, cell_next hb10 (by omega) a1, cell_next hb10 (by omega) a2, cell_next hb10 (by omega) a3, cell_next hb10 (by omega) a4, cell_next hb10 (by omega) a5, cell_next hb10 (by omega) a6, cell_next hb10 (by omega) a7, hK.trans (hb10.mono hKz)⟩))
            clear hK K
            try simp only [Act.put, List.setIfInBounds_toArray, List.set_cons_zero, List.set_cons_succ]
            refine take_slot (i := 11) (d := 132) (v := ?_) rfl rfl (by kernel_rfl) (by kernel_rfl) (by kernel_rfl) (fun _ _ _ h => h) (Or.inl ⟨by rfl, ?_⟩) (by assumption) ?_
            rotate_left 1
            focus (intro wS hSw; (try dsimp only at hSw); go_simp; try with_reducible rfl)
            try simp only [List.setIfInBounds_toArray, List.set_cons_zero, List.set_cons_succ]
            refine take_slot (i := 12) (d := 144) (v := ?_) rfl rfl (by kernel_rfl) (by kernel_rfl) (by kernel_rfl) (fun _ _ _ h => h) (Or.inl ⟨by rfl, ?_⟩) (by assumption) ?_
            rotate_left 1
            focus (intro wS hSw; (try dsimp only at hSw); go_simp; try with_reducible rfl)
            try simp only [List.setIfInBounds_toArray, List.set_cons_zero, List.set_cons_succ]
            refine take_slot (i := 13) (d := 145) (v := ?_) rfl rfl (by kernel_rfl) (by kernel_rfl) (by kernel_rfl) (fun _ _ _ h => h) (Or.inl ⟨by rfl, ?_⟩) (by assumption) ?_
            rotate_left 1
            focus (intro wS hSw; (try dsimp only at hSw); go_simp; try with_reducible rfl)
            try simp only [List.setIfInBounds_toArray, List.set_cons_zero, List.set_cons_succ]
            refine take_slot (i := 14) (d := 15) (v := ?_) rfl rfl (by kernel_rfl) (by kernel_rfl) (by kernel_rfl) (fun _ _ _ h => h) (Or.inl ⟨by rfl, ?_⟩) (by assumption) ?_
            rotate_left 1
            focus (intro wS hSw; (try dsimp only at hSw); go_simp; try with_reducible rfl)
            try simp only [List.setIfInBounds_toArray, List.set_cons_zero, List.set_cons_succ]
            refine take_slot (i := 15) (d := 16) (v := ?_) rfl rfl (by kernel_rfl) (by kernel_rfl) (by kernel_rfl) (fun _ _ _ h => h) (Or.inl ⟨by rfl, ?_⟩) (by assumption) ?_
            rotate_left 1
            focus (intro wS hSw; (try dsimp only at hSw); go_simp; try with_reducible rfl)
            try simp only [List.setIfInBounds_toArray, List.set_cons_zero, List.set_cons_succ]
            refine wpAnyH_done (by kernel_rfl) ?_ _
            obtain ⟨r1, s0, _, _, _, _, _, _, hB10⟩ := hHeld
            rw [Hpa.out] at s0
            have hB10' := hB8.trans (hB10.mono hB8.size)
            obtain ⟨x0, x1⟩ := (HV.out.below hB10' hgv) q _ Hvq.out
            have hqm : (q : Int) < (m : Int) := by omega
            clear hB10 hS8 hB8 hg8 hgl8 hlt8 hz8
            go_wp2_with fail
            refine (cLe.out _).mono ?_
            rintro e w11 ⟨rfl, hb11⟩
            have hB11 := hB10'.trans (hb11.mono hB10'.size)
            clear hb11 x0 x1 r1 s0 hB10' hqm
            have hz11 := hB11.size
            have hB12 := hB11.alloc hB11.size (Obj.cells #[Value.int IntKind.i64 left1, Value.int IntKind.i64 left2] 34)
            have y0 : (w11.alloc (Obj.cells #[Value.int IntKind.i64 left1, Value.int IntKind.i64 left2] 34)).cell? ⟨w11.heap.size, 0, none⟩ = some (.int .i64 left1) := cell_new _ _ _ 0
            have y1 : (w11.alloc (Obj.cells #[Value.int IntKind.i64 left1, Value.int IntKind.i64 left2] 34)).cell? ⟨w11.heap.size, 1, none⟩ = some (.int .i64 left2) := cell_new _ _ _ 1
            have hy : w11.heap.size < (w11.alloc (Obj.cells #[Value.int IntKind.i64 left1, Value.int IntKind.i64 left2] 34)).heap.size := by simp
            go_wp2_with fail
            generalize (w11.alloc (Obj.cells #[Value.int IntKind.i64 left1, Value.int IntKind.i64 left2] 34)) = w12 at *
            generalize w11.heap.size = gy at *
            have r0 := cell_next hB12 hlt R0.out
            obtain ⟨v0, v1⟩ := (HV.out.below hB12 hgv) k _ Hu.out
            have hz12 := hB12.size
            have hgv12 : gv < w12.heap.size := by omega
            have hlt12 : w.heap.size < w12.heap.size := by omega
            have hS12 := And.intro r0 (And.intro v0 (And.intro v1 (And.intro y0 (And.intro y1 (Below.refl w12.heap.size w12)))))
            clear r0 v0 v1 y0 y1 hB11 hz11
            refine wp_region_held_drew (S := fun W' => W'.cell? ⟨w.heap.size, 0, none⟩ = some (.int .i64 pump) ∧ W'.cell? ⟨gv, ov + k * 2, none⟩ = some (.int .i64 u.1) ∧ W'.cell? ⟨gv, ov + k * 2 + 1, none⟩ = some (.int .i64 u.2) ∧ W'.cell? ⟨gy, 0, none⟩ = some (.int .i64 left1) ∧ W'.cell? ⟨gy, 1, none⟩ = some (.int .i64 left2) ∧ Below w12.heap.size w12 W') (by kernel_rfl) ?_ (fun hHeld => ?_)
            focus (have hdr := Below.drew (Below.refl w12.heap.size w12); (obtain ⟨a0, a1, a2, a3, a4, hK⟩ := hS12; have hKz := hK.size; exact ⟨cell_next hdr (by omega) a0, cell_next hdr (by omega) a1, cell_next hdr (by omega) a2, cell_next hdr (by omega) a3, cell_next hdr (by omega) a4, hK.trans (hdr.mono hKz)⟩))
            refine take_slot (i := 0) (d := 163) (v := ?_) rfl rfl (by kernel_rfl) (by kernel_rfl) (by kernel_rfl) (fun _ _ _ h => h) (Or.inl ⟨by rfl, ?_⟩) (by assumption) ?_
            rotate_left 1
            focus (intro wS hSw; (try dsimp only at hSw); go_simp; try with_reducible rfl)
            try simp only [List.setIfInBounds_toArray, List.set_cons_zero, List.set_cons_succ]
            refine take_slot (i := 1) (d := 164) (v := ?_) rfl rfl (by kernel_rfl) (by kernel_rfl) (by kernel_rfl) (fun _ _ _ h => h) (Or.inl ⟨by rfl, ?_⟩) (by assumption) ?_
            rotate_left 1
            focus (intro wS hSw; (try dsimp only at hSw); go_simp; try with_reducible rfl)
            try simp only [List.setIfInBounds_toArray, List.set_cons_zero, List.set_cons_succ]
            refine take_slot (i := 2) (d := 165) (v := ?_) rfl rfl (by kernel_rfl) (by kernel_rfl) (by kernel_rfl) (fun _ _ _ h => h) (Or.inl ⟨by rfl, ?_⟩) (by assumption) ?_
            rotate_left 1
            focus (intro wS hSw; (try dsimp only at hSw); go_simp; try with_reducible rfl)
            try simp only [List.setIfInBounds_toArray, List.set_cons_zero, List.set_cons_succ]
            refine take_slot (i := 3) (d := 166) (v := ?_) rfl rfl (by kernel_rfl) (by kernel_rfl) (by kernel_rfl) (fun _ _ _ h => h) (Or.inl ⟨by rfl, ?_⟩) (by assumption) ?_
            rotate_left 1
            focus (intro wS hSw; (try dsimp only at hSw); go_simp; try with_reducible rfl)
            try simp only [List.setIfInBounds_toArray, List.set_cons_zero, List.set_cons_succ]
            refine take_slot (i := 4) (d := 167) (v := ?_) rfl rfl (by kernel_rfl) (by kernel_rfl) (by kernel_rfl) (fun _ _ _ h => h) (Or.inl ⟨by rfl, ?_⟩) (by assumption) ?_
            rotate_left 1
            focus (intro wS hSw; (try dsimp only at hSw); go_simp; try with_reducible rfl)
            try simp only [List.setIfInBounds_toArray, List.set_cons_zero, List.set_cons_succ]
            refine take_slot (i := 5) (d := 168) (v := ?_) rfl rfl (by kernel_rfl) (by kernel_rfl) (by kernel_rfl) (fun _ _ _ h => h) (Or.inl ⟨by rfl, ?_⟩) (by assumption) ?_
            rotate_left 1
            focus (intro wS hSw; (try dsimp only at hSw); go_simp; try with_reducible rfl)
            try simp only [List.setIfInBounds_toArray, List.set_cons_zero, List.set_cons_succ]
            refine take_slot (i := 6) (d := 169) (v := ?_) rfl rfl (by kernel_rfl) (by kernel_rfl) (by kernel_rfl) (fun _ _ _ h => h) (Or.inl ⟨by rfl, ?_⟩) (by assumption) ?_
            rotate_left 1
            focus (intro wS hSw; (try dsimp only at hSw); go_simp; try with_reducible rfl)
            try simp only [List.setIfInBounds_toArray, List.set_cons_zero, List.set_cons_succ]
            refine take_slot (i := 7) (d := 170) (v := ?_) rfl rfl (by kernel_rfl) (by kernel_rfl) (by kernel_rfl) (fun _ _ _ h => h) (Or.inl ⟨by rfl, ?_⟩) (by assumption) ?_
            rotate_left 1
            focus (intro wS hSw; (try dsimp only at hSw); go_simp; try with_reducible rfl)
            try simp only [List.setIfInBounds_toArray, List.set_cons_zero, List.set_cons_succ]
            refine take_slot (i := 8) (d := 171) (v := ?_) rfl rfl (by kernel_rfl) (by kernel_rfl) (by kernel_rfl) (fun _ _ _ h => h) (Or.inl ⟨by rfl, ?_⟩) (by assumption) ?_
            rotate_left 1
            focus (intro wS hSw; (try dsimp only at hSw); go_simp; try with_reducible rfl)
            try simp only [List.setIfInBounds_toArray, List.set_cons_zero, List.set_cons_succ]
            refine wpAnyH_ready (rs := [9]) (by kernel_rfl) (by simp) ?_
            refine AllReadyH.cons rfl (fun K hK => ?_) AllReadyH.nil
            skip
            go_simp
            refine (cAt.out _).mono ?_; rintro e w13 ⟨rfl, hb13⟩
            refine hK.out _ _ ?_ (fun hHeld => ?_)
            focus ((obtain ⟨a0, a1, a2, a3, a4, hK⟩ := hHeld; have hKz := hK.size; exact ⟨cell_next hb13 (by omega) a0, cell_next hb13 (by omega) a1, cell_next hb13 (by omega) a2, cell_next hb13 (by omega) a3, cell_next hb13 (by omega) a4, hK.trans (hb13.mono hKz)⟩))
            clear hK K
            try simp only [Act.put, List.setIfInBounds_toArray, List.set_cons_zero, List.set_cons_succ]
            refine take_slot (i := 10) (d := 162) (v := ?_) rfl rfl (by kernel_rfl) (by kernel_rfl) (by kernel_rfl) (fun _ _ _ h => h) (Or.inl ⟨by rfl, ?_⟩) (by assumption) ?_
            rotate_left 1
            focus (intro wS hSw; (try dsimp only at hSw); go_simp; try with_reducible rfl)
            try simp only [List.setIfInBounds_toArray, List.set_cons_zero, List.set_cons_succ]
            refine take_slot (i := 11) (d := 173) (v := ?_) rfl rfl (by kernel_rfl) (by kernel_rfl) (by kernel_rfl) (fun _ _ _ h => h) (Or.inl ⟨by rfl, ?_⟩) (by assumption) ?_
            rotate_left 1
            focus (intro wS hSw; (try dsimp only at hSw); go_simp; try with_reducible rfl)
            try simp only [List.setIfInBounds_toArray, List.set_cons_zero, List.set_cons_succ]
            refine take_slot (i := 12) (d := 174) (v := ?_) rfl rfl (by kernel_rfl) (by kernel_rfl) (by kernel_rfl) (fun _ _ _ h => h) (Or.inl ⟨by rfl, ?_⟩) (by assumption) ?_
            rotate_left 1
            focus (intro wS hSw; (try dsimp only at hSw); go_simp; try with_reducible rfl)
            try simp only [List.setIfInBounds_toArray, List.set_cons_zero, List.set_cons_succ]
            refine take_slot (i := 13) (d := 175) (v := ?_) rfl rfl (by kernel_rfl) (by kernel_rfl) (by kernel_rfl) (fun _ _ _ h => h) (Or.inl ⟨by rfl, ?_⟩) (by assumption) ?_
            rotate_left 1
            focus (intro wS hSw; (try dsimp only at hSw); go_simp; try with_reducible rfl)
            try simp only [List.setIfInBounds_toArray, List.set_cons_zero, List.set_cons_succ]
            refine take_slot (i := 14) (d := 19) (v := ?_) rfl rfl (by kernel_rfl) (by kernel_rfl) (by kernel_rfl) (fun _ _ _ h => h) (Or.inl ⟨by rfl, ?_⟩) (by assumption) ?_
            rotate_left 1
            focus (intro wS hSw; (try dsimp only at hSw); go_simp; try with_reducible rfl)
            try simp only [List.setIfInBounds_toArray, List.set_cons_zero, List.set_cons_succ]
            refine take_slot (i := 15) (d := 20) (v := ?_) rfl rfl (by kernel_rfl) (by kernel_rfl) (by kernel_rfl) (fun _ _ _ h => h) (Or.inl ⟨by rfl, ?_⟩) (by assumption) ?_
            rotate_left 1
            focus (intro wS hSw; (try dsimp only at hSw); go_simp; try with_reducible rfl)
            try simp only [List.setIfInBounds_toArray, List.set_cons_zero, List.set_cons_succ]
            refine take_slot (i := 16) (d := 21) (v := ?_) rfl rfl (by kernel_rfl) (by kernel_rfl) (by kernel_rfl) (fun _ _ _ h => h) (Or.inl ⟨by rfl, ?_⟩) (by assumption) ?_
            rotate_left 1
            focus (intro wS hSw; (try dsimp only at hSw); go_simp; try with_reducible rfl)
            try simp only [List.setIfInBounds_toArray, List.set_cons_zero, List.set_cons_succ]
            refine wpAnyH_done (by kernel_rfl) ?_ _
            go_wp2_with fail
            refine wp_region_held_drew (S := fun W' => W'.cell? ⟨w.heap.size, 0, none⟩ = some (.int .i64 pump) ∧ W'.cell? ⟨gv, ov + k * 2, none⟩ = some (.int .i64 u.1) ∧ W'.cell? ⟨gv, ov + k * 2 + 1, none⟩ = some (.int .i64 u.2) ∧ W'.cell? ⟨gy, 0, none⟩ = some (.int .i64 left1) ∧ W'.cell? ⟨gy, 1, none⟩ = some (.int .i64 left2) ∧ Below w12.heap.size w12 W') (by kernel_rfl) ?_ (fun hHeld => ?_)
            focus (have hdr := Below.drew (Below.refl w13.heap.size w13); (obtain ⟨a0, a1, a2, a3, a4, hK⟩ := hHeld; have hKz := hK.size; exact ⟨cell_next hdr (by omega) a0, cell_next hdr (by omega) a1, cell_next hdr (by omega) a2, cell_next hdr (by omega) a3, cell_next hdr (by omega) a4, hK.trans (hdr.mono hKz)⟩))
            refine take_slot (i := 0) (d := 176) (v := ?_) rfl rfl (by kernel_rfl) (by kernel_rfl) (by kernel_rfl) (fun _ _ _ h => h) (Or.inl ⟨by rfl, ?_⟩) (by assumption) ?_
            rotate_left 1
            focus (intro wS hSw; (try dsimp only at hSw); go_simp; try with_reducible rfl)
            try simp only [List.setIfInBounds_toArray, List.set_cons_zero, List.set_cons_succ]
            refine take_slot (i := 1) (d := 177) (v := ?_) rfl rfl (by kernel_rfl) (by kernel_rfl) (by kernel_rfl) (fun _ _ _ h => h) (Or.inl ⟨by rfl, ?_⟩) (by assumption) ?_
            rotate_left 1
            focus (intro wS hSw; (try dsimp only at hSw); go_simp; try with_reducible rfl)
            try simp only [List.setIfInBounds_toArray, List.set_cons_zero, List.set_cons_succ]
            refine take_slot (i := 2) (d := 178) (v := ?_) rfl rfl (by kernel_rfl) (by kernel_rfl) (by kernel_rfl) (fun _ _ _ h => h) (Or.inl ⟨by rfl, ?_⟩) (by assumption) ?_
            rotate_left 1
            focus (intro wS hSw; (try dsimp only at hSw); go_simp; try with_reducible rfl)
            try simp only [List.setIfInBounds_toArray, List.set_cons_zero, List.set_cons_succ]
            refine take_slot (i := 3) (d := 179) (v := ?_) rfl rfl (by kernel_rfl) (by kernel_rfl) (by kernel_rfl) (fun _ _ _ h => h) (Or.inl ⟨by rfl, ?_⟩) (by assumption) ?_
            rotate_left 1
            focus (intro wS hSw; (try dsimp only at hSw); go_simp; try with_reducible rfl)
            try simp only [List.setIfInBounds_toArray, List.set_cons_zero, List.set_cons_succ]
            refine take_slot (i := 4) (d := 180) (v := ?_) rfl rfl (by kernel_rfl) (by kernel_rfl) (by kernel_rfl) (fun _ _ _ h => h) (Or.inl ⟨by rfl, ?_⟩) (by assumption) ?_
            rotate_left 1
            focus (intro wS hSw; (try dsimp only at hSw); go_simp; try with_reducible rfl)
            try simp only [List.setIfInBounds_toArray, List.set_cons_zero, List.set_cons_succ]
            refine take_slot (i := 5) (d := 181) (v := ?_) rfl rfl (by kernel_rfl) (by kernel_rfl) (by kernel_rfl) (fun _ _ _ h => h) (Or.inl ⟨by rfl, ?_⟩) (by assumption) ?_
            rotate_left 1
            focus (intro wS hSw; (try dsimp only at hSw); go_simp; try with_reducible rfl)
            try simp only [List.setIfInBounds_toArray, List.set_cons_zero, List.set_cons_succ]
            refine take_slot (i := 6) (d := 182) (v := ?_) rfl rfl (by kernel_rfl) (by kernel_rfl) (by kernel_rfl) (fun _ _ _ h => h) (Or.inl ⟨by rfl, ?_⟩) (by assumption) ?_
            rotate_left 1
            focus (intro wS hSw; (try dsimp only at hSw); go_simp; try with_reducible rfl)
            try simp only [List.setIfInBounds_toArray, List.set_cons_zero, List.set_cons_succ]
            refine take_slot (i := 7) (d := 183) (v := ?_) rfl rfl (by kernel_rfl) (by kernel_rfl) (by kernel_rfl) (fun _ _ _ h => h) (Or.inl ⟨by rfl, ?_⟩) (by assumption) ?_
            rotate_left 1
            focus (intro wS hSw; (try dsimp only at hSw); go_simp; try with_reducible rfl)
            try simp only [List.setIfInBounds_toArray, List.set_cons_zero, List.set_cons_succ]
            refine take_slot (i := 8) (d := 184) (v := ?_) rfl rfl (by kernel_rfl) (by kernel_rfl) (by kernel_rfl) (fun _ _ _ h => h) (Or.inl ⟨by rfl, ?_⟩) (by assumption) ?_
            rotate_left 1
            focus (intro wS hSw; (try dsimp only at hSw); go_simp; try with_reducible rfl)
            try simp only [List.setIfInBounds_toArray, List.set_cons_zero, List.set_cons_succ]
            refine take_slot (i := 9) (d := 185) (v := ?_) rfl rfl (by kernel_rfl) (by kernel_rfl) (by kernel_rfl) (fun _ _ _ h => h) (Or.inl ⟨by rfl, ?_⟩) (by assumption) ?_
            rotate_left 1
            focus (intro wS hSw; (try dsimp only at hSw); go_simp; try with_reducible rfl)
            try simp only [List.setIfInBounds_toArray, List.set_cons_zero, List.set_cons_succ]
            refine take_slot (i := 10) (d := 186) (v := ?_) rfl rfl (by kernel_rfl) (by kernel_rfl) (by kernel_rfl) (fun _ _ _ h => h) (Or.inl ⟨by rfl, ?_⟩) (by assumption) ?_
            rotate_left 1
            focus (intro wS hSw; (try dsimp only at hSw); go_simp; try with_reducible rfl)
            try simp only [List.setIfInBounds_toArray, List.set_cons_zero, List.set_cons_succ]
            refine take_slot (i := 11) (d := 187) (v := ?_) rfl rfl (by kernel_rfl) (by kernel_rfl) (by kernel_rfl) (fun _ _ _ h => h) (Or.inl ⟨by rfl, ?_⟩) (by assumption) ?_
            rotate_left 1
            focus (intro wS hSw; (try dsimp only at hSw); go_simp; try with_reducible rfl)
            try simp only [List.setIfInBounds_toArray, List.set_cons_zero, List.set_cons_succ]
            refine take_slot (i := 12) (d := 188) (v := ?_) rfl rfl (by kernel_rfl) (by kernel_rfl) (by kernel_rfl) (fun _ _ _ h => h) (Or.inl ⟨by rfl, ?_⟩) (by assumption) ?_
            rotate_left 1
            focus (intro wS hSw; (try dsimp only at hSw); go_simp; try with_reducible rfl)
            try simp only [List.setIfInBounds_toArray, List.set_cons_zero, List.set_cons_succ]
            refine take_slot (i := 13) (d := 189) (v := ?_) rfl rfl (by kernel_rfl) (by kernel_rfl) (by kernel_rfl) (fun _ _ _ h => h) (Or.inl ⟨by rfl, ?_⟩) (by assumption) ?_
            rotate_left 1
            focus (intro wS hSw; (try dsimp only at hSw); go_simp; try with_reducible rfl)
            try simp only [List.setIfInBounds_toArray, List.set_cons_zero, List.set_cons_succ]
            refine take_slot (i := 14) (d := 190) (v := ?_) rfl rfl (by kernel_rfl) (by kernel_rfl) (by kernel_rfl) (fun _ _ _ h => h) (Or.inl ⟨by rfl, ?_⟩) (by assumption) ?_
            rotate_left 1
            focus (intro wS hSw; (try dsimp only at hSw); go_simp; try with_reducible rfl)
            try simp only [List.setIfInBounds_toArray, List.set_cons_zero, List.set_cons_succ]
            refine take_slot (i := 15) (d := 191) (v := ?_) rfl rfl (by kernel_rfl) (by kernel_rfl) (by kernel_rfl) (fun _ _ _ h => h) (Or.inl ⟨by rfl, ?_⟩) (by assumption) ?_
            rotate_left 1
            focus (intro wS hSw; (try dsimp only at hSw); go_simp; try with_reducible rfl)
            try simp only [List.setIfInBounds_toArray, List.set_cons_zero, List.set_cons_succ]
            refine take_slot (i := 16) (d := 192) (v := ?_) rfl rfl (by kernel_rfl) (by kernel_rfl) (by kernel_rfl) (fun _ _ _ h => h) (Or.inl ⟨by rfl, ?_⟩) (by assumption) ?_
            rotate_left 1
            focus (intro wS hSw; (try dsimp only at hSw); go_simp; try with_reducible rfl)
            try simp only [List.setIfInBounds_toArray, List.set_cons_zero, List.set_cons_succ]
            refine take_slot (i := 17) (d := 193) (v := ?_) rfl rfl (by kernel_rfl) (by kernel_rfl) (by kernel_rfl) (fun _ _ _ h => h) (Or.inl ⟨by rfl, ?_⟩) (by assumption) ?_
            rotate_left 1
            focus (intro wS hSw; (try dsimp only at hSw); go_simp; try with_reducible rfl)
            try simp only [List.setIfInBounds_toArray, List.set_cons_zero, List.set_cons_succ]
            refine take_slot (i := 18) (d := 194) (v := ?_) rfl rfl (by kernel_rfl) (by kernel_rfl) (by kernel_rfl) (fun _ _ _ h => h) (Or.inl ⟨by rfl, ?_⟩) (by assumption) ?_
            rotate_left 1
            focus (intro wS hSw; (try dsimp only at hSw); go_simp; try with_reducible rfl)
            try simp only [List.setIfInBounds_toArray, List.set_cons_zero, List.set_cons_succ]
            refine take_slot (i := 19) (d := 195) (v := ?_) rfl rfl (by kernel_rfl) (by kernel_rfl) (by kernel_rfl) (fun _ _ _ h => h) (Or.inl ⟨by rfl, ?_⟩) (by assumption) ?_
            rotate_left 1
            focus (intro wS hSw; (try dsimp only at hSw); go_simp; try with_reducible rfl)
            try simp only [List.setIfInBounds_toArray, List.set_cons_zero, List.set_cons_succ]
            refine take_slot (i := 20) (d := 196) (v := ?_) rfl rfl (by kernel_rfl) (by kernel_rfl) (by kernel_rfl) (fun _ _ _ h => h) (Or.inl ⟨by rfl, ?_⟩) (by assumption) ?_
            rotate_left 1
            focus (intro wS hSw; (try dsimp only at hSw); go_simp; try with_reducible rfl)
            try simp only [List.setIfInBounds_toArray, List.set_cons_zero, List.set_cons_succ]
            refine take_slot (i := 21) (d := 197) (v := ?_) rfl rfl (by kernel_rfl) (by kernel_rfl) (by kernel_rfl) (fun _ _ _ h => h) (Or.inl ⟨by rfl, ?_⟩) (by assumption) ?_
            rotate_left 1
            focus (intro wS hSw; (try dsimp only at hSw); go_simp; try with_reducible rfl)
            try simp only [List.setIfInBounds_toArray, List.set_cons_zero, List.set_cons_succ]
            refine take_slot (i := 22) (d := 198) (v := ?_) rfl rfl (by kernel_rfl) (by kernel_rfl) (by kernel_rfl) (fun _ _ _ h => h) (Or.inl ⟨by rfl, ?_⟩) (by assumption) ?_
            rotate_left 1
            focus (intro wS hSw; (try dsimp only at hSw); go_simp; try with_reducible rfl)
            try simp only [List.setIfInBounds_toArray, List.set_cons_zero, List.set_cons_succ]
            refine take_slot (i := 23) (d := 199) (v := ?_) rfl rfl (by kernel_rfl) (by kernel_rfl) (by kernel_rfl) (fun _ _ _ h => h) (Or.inl ⟨by rfl, ?_⟩) (by assumption) ?_
            rotate_left 1
            focus (intro wS hSw; (try dsimp only at hSw); go_simp; try with_reducible rfl)
            try simp only [List.setIfInBounds_toArray, List.set_cons_zero, List.set_cons_succ]
            refine take_slot (i := 24) (d := 200) (v := ?_) rfl rfl (by kernel_rfl) (by kernel_rfl) (by kernel_rfl) (fun _ _ _ h => h) (Or.inl ⟨by rfl, ?_⟩) (by assumption) ?_
            rotate_left 1
            focus (intro wS hSw; (try dsimp only at hSw); go_simp; try with_reducible rfl)
            try simp only [List.setIfInBounds_toArray, List.set_cons_zero, List.set_cons_succ]
            refine take_slot (i := 25) (d := 201) (v := ?_) rfl rfl (by kernel_rfl) (by kernel_rfl) (by kernel_rfl) (fun _ _ _ h => h) (Or.inl ⟨by rfl, ?_⟩) (by assumption) ?_
            rotate_left 1
            focus (intro wS hSw; (try dsimp only at hSw); go_simp; try with_reducible rfl)
            try simp only [List.setIfInBounds_toArray, List.set_cons_zero, List.set_cons_succ]
            refine take_slot (i := 26) (d := 202) (v := ?_) rfl rfl (by kernel_rfl) (by kernel_rfl) (by kernel_rfl) (fun _ _ _ h => h) (Or.inl ⟨by rfl, ?_⟩) (by assumption) ?_
            rotate_left 1
            focus (intro wS hSw; (try dsimp only at hSw); go_simp; try with_reducible rfl)
            try simp only [List.setIfInBounds_toArray, List.set_cons_zero, List.set_cons_succ]
            refine take_slot (i := 27) (d := 203) (v := ?_) rfl rfl (by kernel_rfl) (by kernel_rfl) (by kernel_rfl) (fun _ _ _ h => h) (Or.inl ⟨by rfl, ?_⟩) (by assumption) ?_
            rotate_left 1
            focus (intro wS hSw; (try dsimp only at hSw); go_simp; try with_reducible rfl)
            try simp only [List.setIfInBounds_toArray, List.set_cons_zero, List.set_cons_succ]
            refine take_slot (i := 28) (d := 204) (v := ?_) rfl rfl (by kernel_rfl) (by kernel_rfl) (by kernel_rfl) (fun _ _ _ h => h) (Or.inl ⟨by rfl, ?_⟩) (by assumption) ?_
            rotate_left 1
            focus (intro wS hSw; (try dsimp only at hSw); go_simp; try with_reducible rfl)
            try simp only [List.setIfInBounds_toArray, List.set_cons_zero, List.set_cons_succ]
            refine take_slot (i := 29) (d := 205) (v := ?_) rfl rfl (by kernel_rfl) (by kernel_rfl) (by kernel_rfl) (fun _ _ _ h => h) (Or.inl ⟨by rfl, ?_⟩) (by assumption) ?_
            rotate_left 1
            focus (intro wS hSw; (try dsimp only at hSw); go_simp; try with_reducible rfl)
            try simp only [List.setIfInBounds_toArray, List.set_cons_zero, List.set_cons_succ]
            refine take_slot (i := 30) (d := 206) (v := ?_) rfl rfl (by kernel_rfl) (by kernel_rfl) (by kernel_rfl) (fun _ _ _ h => h) (Or.inl ⟨by rfl, ?_⟩) (by assumption) ?_
            rotate_left 1
            focus (intro wS hSw; (try dsimp only at hSw); go_simp; try with_reducible rfl)
            try simp only [List.setIfInBounds_toArray, List.set_cons_zero, List.set_cons_succ]
            refine take_slot (i := 31) (d := 207) (v := ?_) rfl rfl (by kernel_rfl) (by kernel_rfl) (by kernel_rfl) (fun _ _ _ h => h) (Or.inl ⟨by rfl, ?_⟩) (by assumption) ?_
            rotate_left 1
            focus (intro wS hSw; (try dsimp only at hSw); go_simp; try with_reducible rfl)
            try simp only [List.setIfInBounds_toArray, List.set_cons_zero, List.set_cons_succ]
            refine wpAnyH_done (by kernel_rfl) ?_ _
            obtain ⟨_, _, _, _, _, hB14⟩ := hHeld
            have hB15 := hB12.trans (hB14.mono hB12.size)
            clear hB14 hB12 M1 M2
            go_wp2_with fail
            go_roundw
            case rel => exact ⟨k + 1, by omega, by go_num, by first | exact hB15 | exact hB15.drew⟩
            case measure => simp [intOf]; omega
    · clear r0
      go_wp2_with fail
      refine (cK.out _ hBall).mono ?_
      rintro e w20 ⟨rfl, hb⟩
      have hB20 := hBall.trans (hb.mono hBall.size)
      clear hb
      go_wp2_with fail
      go_ret
      exact ⟨rfl, hB20⟩

theorem steps_any (pump : Int) (v fv : Value) (ps : List Pp) (fl : List (Int × Int)) (w : World) (hv : PipesAt w.heap.size w v ps) (hfv : SetAt w.heap.size w fv fl) (hG : Gp w) :
    Calls Tryd.prog 3 #[.agg #[.int .i64 pump, v], fv] w fun e w' => e = .returned (.bool true) ∧ Below w.heap.size w w' := by
  cases h : goodB pump ps fl
  · exact steps_bad pump v fv ps fl w h hv hfv hG
  · exact steps_good pump v fv ps fl w h hv hfv hG
end Go.Proofs.YtpphchbokphkdaaDoor
