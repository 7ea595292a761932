/-
  For every two pairs of numbers and every number the Go function SpanFractions returns true, and its arguments read afterwards as they read before.
  Conditions: none.
-/
import Derived.Test.YtiibbnbknmeplaaL2
import Derived.Test.YtiibbnbknmeplaaW6
import Derived.Test.YtiibbnbknmeplaaK2
namespace Go.Proofs.Ytiibbnbknmeplaa
open Go.ChangeShapes Go.WideShapes Go.ChangeAt Go.RowKit
set_option linter.unusedVariables false
set_option linter.unusedSimpArgs false

theorem mk_zero (a : Int) : mkE a 0 = 3 := by unfold mkE mkOk; simp
theorem mk_small {a b : Int} (h1 : -32768 ≤ a) (h2 : a ≤ 32767) (h3 : -32768 ≤ b) (h4 : b ≤ 32767) (hb : b ≠ 0) :
    mkE a b = 0 ∧ vpB (mkN a b) (mkD a b) = true ∧ mkN a b * b = mkD a b * a ∧ (mkN a b).natAbs ≤ 32768 ∧ (mkD a b).natAbs ≤ 32768 := by
  have hk : mkOk a b = true := by simp [mkOk, vnB]; omega
  obtain ⟨e1, e2, e3, e4⟩ := low_small a b hb (by omega) (by omega)
  obtain ⟨s1, s2, s3, s4, s5⟩ := low_spec a b hb
  have eN : mkN a b = lowRN a b := by unfold mkN; rw [hk]; rfl
  have eD : mkD a b = lowRQ a b := by unfold mkD; rw [hk]; rfl
  have eE : mkE a b = lowRE a b := by unfold mkE; rw [hk]; rfl
  rw [eN, eD, eE]
  refine ⟨e1, e4, ?_, ?_, ?_⟩
  · rw [e2, e3]; exact s1
  · rw [e2]; omega
  · rw [e3]; omega
theorem vvB_of {a b c d : Int} (h1 : vpB a b = true) (h2 : vpB c d = true) : vvB a b c d = true := by unfold vvB; rw [h1, h2]; rfl
theorem cpS_neg (x y : Int) : cpS x y = -cpS y x ∧ -1 ≤ cpS y x ∧ cpS y x ≤ 1 := by
  unfold cpS
  by_cases h1 : x < y
  · rw [if_pos h1, if_neg (by omega), if_pos h1]; omega
  · by_cases h2 : y < x
    · rw [if_neg h1, if_pos h2, if_pos h2]; omega
    · rw [if_neg h1, if_neg h2, if_neg h2, if_neg h1]; omega
theorem neg_valid {p q : Int} (h : vpB p q = true) : vpB (-p) q = true := by
  obtain ⟨h1, h2, h3, h4, h5⟩ := vpB_of h
  exact vpB_mk (by omega) (by omega) h3 h4 (by rw [Int.neg_gcd]; exact h5)

theorem frac_walk (a0 a1 b0 b1 n : Int) (w : World) (h1 : -32768 ≤ a0 ∧ a0 ≤ 32767) (h2 : -32768 ≤ a1 ∧ a1 ≤ 32767) (h3 : -32768 ≤ b0 ∧ b0 ≤ 32767) (h4 : -32768 ≤ b1 ∧ b1 ≤ 32767) (hn : -2147483648 ≤ n ∧ n ≤ 2147483647) :
    Calls Try.prog 15 #[.agg #[.int .i16 a0, .int .i16 a1], .agg #[.int .i16 b0, .int .i16 b1], .int .i32 n] w fun e w' => e = .returned (.bool true) ∧ Below w.heap.size w w' := by
  have hk : Knows := known_any
  by_cases ha : a1 = 0
  · subst ha
    exact frac_0 hk a0 b0 b1 (mkN a0 0) (mkD a0 0) (mkN b0 b1) (mkD b0 b1) (mkE b0 b1) n w ⟨by have := makePart_any a0 0; rw [mk_zero] at this; exact this, makePart_any b0 b1⟩ h1.1 h1.2 h3.1 h3.2 h4.1 h4.2
  obtain ⟨x1, x2, x3, x4, x5⟩ := mk_small h1.1 h1.2 h2.1 h2.2 ha
  by_cases hb : b1 = 0
  · subst hb
    exact frac_1 hk a0 a1 b0 (mkN a0 a1) (mkD a0 a1) (mkN b0 0) (mkD b0 0) n w ⟨by have := makePart_any a0 a1; rw [x1] at this; exact this, by have := makePart_any b0 0; rw [mk_zero] at this; exact this⟩ h1.1 h1.2 h3.1 h3.2 h2.1 h2.2
  obtain ⟨y1, y2, y3, y4, y5⟩ := mk_small h3.1 h3.2 h4.1 h4.2 hb
  have c1 := makePart_any a0 a1
  have c2 := makePart_any b0 b1
  rw [x1] at c1
  rw [y1] at c2
  clear x1 y1
  generalize mkN a0 a1 = xn at *
  generalize mkD a0 a1 = xd at *
  generalize mkN b0 b1 = yn at *
  generalize mkD b0 b1 = yd at *
  obtain ⟨u1, u2, u3, u4, u5⟩ := vpB_of x2
  obtain ⟨v1, v2, v3, v4, v5⟩ := vpB_of y2
  have hA : FA a0 a1 b0 b1 xn xd 0 yn yd 0 := ⟨c1, c2⟩
  have hxy := vvB_of x2 y2
  have hyx := vvB_of y2 x2
  obtain ⟨k1, k2, k3⟩ := cpS_neg (xn * yd) (yn * xd)
  have hN : FN a0 a1 b0 b1 xn xd yn yd (cpS (xn * yd) (yn * xd)) (cpS (yn * xd) (xn * yd)) := ⟨h1.1, h1.2, h2.1, h2.2, h3.1, h3.2, h4.1, h4.2, by omega, by omega, u3, by omega, by omega, by omega, v3, by omega, k2, k3, x3, k1⟩
  have b3 := addPart_any xn xd yn yd
  have b4 := addPart_any yn yd xn xd
  have b5 := mulPart_any xn xd yn yd
  have b6 := mulPart_any yn yd xn xd
  have b7 := comparePart_any xn xd yn yd
  have b8 := comparePart_any yn yd xn xd
  unfold cpV cpE at b7 b8
  rw [if_pos hxy, if_pos hxy] at b7
  rw [if_pos hyx, if_pos hyx] at b8
  unfold adN adQ adE at b3 b4
  rw [if_pos hxy, if_pos hxy, if_pos hxy] at b3
  rw [if_pos hyx, if_pos hyx, if_pos hyx, Int.add_comm (yn * xd), Int.mul_comm yd xd] at b4
  unfold muN muQ muE at b5 b6
  rw [if_pos hxy, if_pos hxy, if_pos hxy] at b5
  rw [if_pos hyx, if_pos hyx, if_pos hyx, Int.mul_comm yn xn, Int.mul_comm yd xd] at b6
  have hd0 : xd * yd ≠ 0 := by have := Int.mul_pos (show 0 < xd by omega) (show 0 < yd by omega); omega
  have hS := low_cases (xn * yd + yn * xd) (xd * yd) hd0
  have hP := low_cases (xn * yn) (xd * yd) hd0
  obtain ⟨s1, s2, s3, s4, s5⟩ := low_spec (xn * yd + yn * xd) (xd * yd) hd0
  generalize hSN : lowRN (xn * yd + yn * xd) (xd * yd) = sn at *
  generalize hSQ : lowRQ (xn * yd + yn * xd) (xd * yd) = sd at *
  generalize hSE : lowRE (xn * yd + yn * xd) (xd * yd) = se at *
  generalize lowRN (xn * yn) (xd * yd) = pn at *
  generalize lowRQ (xn * yn) (xd * yd) = pd at *
  generalize lowRE (xn * yn) (xd * yd) = pe at *
  rcases hP with ⟨rfl, _, _⟩ | ⟨rfl, _, _, _⟩
  · exact frac_o1 hk a0 a1 b0 b1 xn xd yn yd sn sd se pn pd _ _ _ _ _ n w hA ⟨b3, b4, b5, b6, b7, b8, addPart_any sn sd (-yn) yd⟩ hN
  rcases hS with ⟨rfl, _, _⟩ | ⟨rfl, hs1, hs2, hs3⟩
  · exact frac_o2 hk a0 a1 b0 b1 xn xd yn yd sn sd pn pd _ _ _ _ _ n w hA ⟨b3, b4, b5, b6, b7, b8, addPart_any sn sd (-yn) yd⟩ hN
  have b9 := addPart_any sn sd (-yn) yd
  have hv := vvB_of hs3 (neg_valid y2)
  unfold adN adQ adE at b9
  rw [if_pos hv, if_pos hv, if_pos hv] at b9
  rw [← hs1, ← hs2] at s1
  obtain ⟨f1, f2, f3, f4, f5⟩ := vpB_of hs3
  obtain ⟨e1, e2, e3⟩ := add_back (s := sn) (t := sd) x2 y2 s1 f3 f5
  rw [e1, e2, e3] at b9
  have hm : (n * xn).natAbs ≤ 2147483648 * 32768 := by rw [Int.natAbs_mul]; exact Nat.mul_le_mul (by omega) (by omega)
  obtain ⟨g1, g2, g3, g4, g5, g6, g7, g8, g9, _⟩ := of_facts (n * xn) xd (by omega) 70368744177664 (by omega) (by omega)
  have hq := q_pos (a := n) (b := xn) (c := xd) (by omega) (by
    refine Nat.le_trans (Nat.div_le_self _ _) ?_
    rw [← Int.natAbs_mul]
    omega)
  have hvn : vnB n = true := by simp [vnB]; omega
  have bo := of_any n xn xd
  unfold ofL ofH ofE at bo
  rw [if_pos x2, if_pos x2, if_pos x2, if_pos hvn, if_pos hvn, if_pos hvn, hq.1, hq.2] at bo
  obtain ⟨i1, i2, i3⟩ := fit_yes (n * xn / xd) (-(-(n * xn) / xd)) (by omega) (by omega)
  rw [i1, i2, i3] at bo
  exact frac_ok hk a0 a1 b0 b1 xn xd yn yd sn sd pn pd _ _ (n * xn / xd) (-(-(n * xn) / xd)) n w hA ⟨b3, b4, b5, b6, b7, b8, b9⟩ hN hn bo ⟨g1, g2, g3, g4, g5, by omega, by omega, by omega, by omega, by omega, by omega⟩

theorem fcells_i16 : Try.prog.cellsOf 106 = 1 := by kernel_rfl
theorem fcells_2i16 : Try.prog.cellsOf 107 = 2 := by kernel_rfl
set_option maxRecDepth 100000 in
theorem fractions_lifted (os : Os) (started : os.Started) (H : Type) (enc : TypeId × Value → H) :
    ReturnsInHanded {} Try.checked os 15 .any (Rows.spanFractionsSpec.pre6 enc Try.prog Try.f15 Rows.spanFractionsRow.domain false) (Rows.spanFractionsSpec.post enc Try.prog Try.f15 false true false false) := by
  refine returnsInHanded_of_change (C := Try.checked) ownKnobs started (by kernel_rfl) Try.func15
    (ChangeSpec.witness6 (enc := enc) (C := Try.checked) false ⟨#[], #[.agg #[.int .i16 0, .int .i16 0], .agg #[.int .i16 0, .int .i16 0], .int .i32 0], []⟩ 8 (by kernel_rfl) (by kernel_rfl) (by kernel_rfl) (by kernel_rfl)) ?_
  intro W base args ds gs before hval0 hW hcnd _
  have hval : ∀ (j : Nat) t v, Try.f15.params[j]? = some t → args[j]? = some v → Value.okWide Try.prog W .any base t v := hval0
  have hW' := hW
  obtain ⟨p, q, hA0, hV, rfl, hfz, hnd⟩ := hW
  have hA : DataW.TrodAll enc Try.prog W 0 (fun _ => true) true Try.f15.params.toList args.toList ds p := hA0
  rw [Try.params15] at hA hval
  obtain ⟨v0, vs0, d0, ds0, p0, q0, hargs, rfl, rfl, h0, r0⟩ := trodAll_cons hA
  obtain ⟨v1, vs1, d1, ds1, p1, q1, rfl, rfl, rfl, h1, r1⟩ := trodAll_cons r0
  obtain ⟨v2, vs2, d2, ds2, p2, q2, rfl, rfl, rfl, h2, r2⟩ := trodAll_cons r1
  obtain ⟨rfl, rfl, rfl⟩ := trodAll_nil r2
  obtain rfl : args = #[v0, v1, v2] := by cases args; simp_all
  obtain ⟨rfl, rfl⟩ := trodVars_none hV
  obtain ⟨a0, a1, rfl, rfl, rfl, wa0, wa1⟩ := open_a2 Try.underlying107 fcells_i16 fcells_2i16 Try.underlying106 (hval 0 107 v0 rfl rfl) h0
  obtain ⟨b0, b1, rfl, rfl, rfl, wb0, wb1⟩ := open_a2 Try.underlying107 fcells_i16 fcells_2i16 Try.underlying106 (hval 1 107 v1 rfl rfl) h1
  obtain ⟨n, rfl, rfl, rfl, wn⟩ := open_int Try.underlying21 (hval 2 21 v2 rfl rfl) h2
  clear hA0 hval0
  simp only [List.append_nil] at hW'
  refine (frac_walk a0 a1 b0 b1 n W (wf_i16 wa0) (wf_i16 wa1) (wf_i16 wb0) (wf_i16 wb1) (wf_i32 wn)).mono fun e W' ⟨he, hg⟩ => ?_
  subst he
  exact ⟨_, rfl, post_law hW' hg (trodAll_cons_mk (shut_bool Try.underlying4 _) trodAll_mk0) (trodAll_cons_mk (shut_a2 Try.underlying107 fcells_i16 fcells_2i16 Try.underlying106 wa0 wa1) (trodAll_cons_mk (shut_a2 Try.underlying107 fcells_i16 fcells_2i16 Try.underlying106 wb0 wb1) (trodAll_cons_mk (shut_int Try.underlying21 wn) trodAll_mk0))) rfl⟩

theorem fractions_over : Rows.spanFractionsRow.holds Try.pinned (OpenSpec.ofChange Rows.spanFractionsSpec) :=
  OpenClaim.holds_of_wide 15 Try.f15 rfl rfl rfl rfl rfl rfl rfl ⟨rfl, rfl, rfl, rfl, rfl⟩ rfl rfl rfl rfl rfl (by kernel_rfl) Try.func15 (by kernel_rfl)
    (of_decide_eq_true (by kernel_rfl)) (by unfold Func.isWrapper; first | (rw [if_pos (by decide +kernel)]; kernel_rfl) | (rw [if_neg (by decide +kernel)]; exact ⟨rfl, rfl⟩))
    (fun os started H enc _ => fractions_lifted os started H enc)

theorem fractions_holds : Rows.SpanFractionsSaid :=
  fractions_over
end Go.Proofs.Ytiibbnbknmeplaa
