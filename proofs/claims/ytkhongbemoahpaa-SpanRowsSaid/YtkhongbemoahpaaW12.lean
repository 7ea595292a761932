/- The walk of the statement on tables and their lines. -/
import Derived.Test.YtkhongbemoahpaaC35
import Derived.Test.YtkhongbemoahpaaK2
namespace Go.Proofs.Ytkhongbemoahpaa
open Go.RowKit Go.Lib Go.Shelf
set_option linter.unusedVariables false
set_option linter.unusedSimpArgs false
attribute [local go_sem ↓] Go.wp_at_zero Go.wp_at_succ

theorem suff_key {R : Nat → Nat → World → Prop} {G : Nat → Nat → World → Prop} {P : Prop} (main : (∀ g1 g2 W, R g1 g2 W → G g1 g2 W) → P) (key : ∀ g1 g2 W, R g1 g2 W → G g1 g2 W) : P := main key
/-- what lies in the two arrays -/
def R20 (W0 : World) (x z a1 a2 b1 b2 : Int) (g1 g2 : Nat) (wx : World) : Prop :=
  Below W0.heap.size W0 wx ∧ g1 < wx.heap.size ∧ g2 < wx.heap.size ∧ (wx.cell? ⟨g1, 0, none⟩ = some (.int .i64 x) ∧ wx.cell? ⟨g1, 1, none⟩ = some (.int .i64 z)) ∧ wx.cell? ⟨g2, 0, none⟩ = some (.int .i64 a1) ∧ wx.cell? ⟨g2, 1, none⟩ = some (.int .i64 a2) ∧ wx.cell? ⟨g2, 2, none⟩ = some (.int .i64 b1) ∧ wx.cell? ⟨g2, 3, none⟩ = some (.int .i64 b2)
/-- the place that is picked -/
def rowX (xs : List (Int × Int)) (p0 : Int) : Int := (xs.head?.getD (0, 0)).1 + p0 % ((xs.getLast?.getD (0, 0)).1 - (xs.head?.getD (0, 0)).1 + 1)
theorem suff_key0 {R : World → Prop} {G : World → Prop} {P : Prop} (main : (∀ W, R W → G W) → P) (key : ∀ W, R W → G W) : P := main key
theorem suff_key1 {R : Nat → Value → World → Prop} {G : Nat → Value → World → Prop} {P : Prop} (main : (∀ g v W, R g v W → G g v W) → P) (key : ∀ g v W, R g v W → G g v W) : P := main key
/-- the value at a row lies in a block of the call's own -/
def R36 (W0 : World) (y : Int) (g : Nat) (_v : Value) (W : World) : Prop := Below W0.heap.size W0 W ∧ g < W.heap.size ∧ W.cell? ⟨g, 0, none⟩ = some (.int .i64 y) ∧ W.cell? ⟨g, 1, none⟩ = some (.int .i64 y)
theorem valV_bd1 {xs : List (Int × Int)} (ht : TabOk xs) {x : Int} (hc : covB xs x = true) : -1000000000 ≤ (valV xs x).1 ∧ (valV xs x).1 ≤ 1000000000 := by
  obtain ⟨k, p, q, hp, hq, h1, h2, _⟩ := seg_first ht hc
  have hpq := ht.2.2.2 k (k + 1) p q (by omega) hp hq
  obtain ⟨r1, r2, r3, r4⟩ := rowB_of (ht.2.2.1 p (List.mem_of_getElem? hp))
  obtain ⟨s1, s2, s3, s4⟩ := rowB_of (ht.2.2.1 q (List.mem_of_getElem? hq))
  rw [seg_val ht hp hq x h1 h2]
  have key : min p.2 q.2 ≤ (segV p q x).1 ∧ (segV p q x).1 ≤ max p.2 q.2 := by
    unfold segV
    simp only
    have hd : 0 < q.1 - p.1 := by omega
    have h3 : 0 ≤ x - p.1 := by omega
    have h4 : x - p.1 ≤ q.1 - p.1 := by omega
    generalize x - p.1 = e at *
    generalize q.1 - p.1 = d at *
    rcases Int.lt_or_le (q.2 - p.2) 0 with hn | hn
    · have a1 := Int.le_ediv_of_mul_le (a := q.2 - p.2) (b := (q.2 - p.2) * e) hd (Int.mul_le_mul_of_nonpos_left (by omega) h4)
      have a2 := Int.ediv_le_of_le_mul (a := (q.2 - p.2) * e) (b := 0) hd (by rw [Int.zero_mul]; exact Int.mul_nonpos_of_nonpos_of_nonneg (by omega) h3)
      omega
    · have a1 := Int.le_ediv_of_mul_le (a := 0) (b := (q.2 - p.2) * e) hd (by rw [Int.zero_mul]; exact Int.mul_nonneg hn h3)
      have a2 := Int.ediv_le_of_le_mul (a := (q.2 - p.2) * e) (b := q.2 - p.2) hd (Int.mul_le_mul_of_nonneg_left h4 hn)
      omega
  omega
theorem cov_row {xs : List (Int × Int)} (ht : TabOk xs) {p : Int × Int} (hp : p ∈ xs) : covB xs p.1 = true := by
  obtain ⟨j, hj⟩ := List.getElem?_of_mem hp
  have hjl : j < xs.length := (List.getElem?_eq_some_iff.1 hj).1
  obtain ⟨m, hm⟩ : ∃ m, xs.length = m + 1 := ⟨xs.length - 1, by omega⟩
  obtain ⟨f, hf⟩ : ∃ f, xs[0]? = some f := ⟨_, List.getElem?_eq_getElem (by omega)⟩
  obtain ⟨l, hl⟩ : ∃ l, xs[m]? = some l := ⟨_, List.getElem?_eq_getElem (by omega)⟩
  refine cov_of hm hf hl ?_ ?_
  · rcases Nat.eq_zero_or_pos j with h0 | h0
    · subst h0; rw [hf] at hj; obtain rfl := Option.some.inj hj; exact Int.le_refl _
    · exact Int.le_of_lt (ht.2.2.2 0 j f p h0 hf hj)
  · rcases Nat.lt_or_ge j m with h0 | h0
    · exact Int.le_of_lt (ht.2.2.2 j m p l h0 hj hl)
    · obtain rfl : j = m := by omega
      rw [hl] at hj; obtain rfl := Option.some.inj hj; exact Int.le_refl _
theorem va_row {xs : List (Int × Int)} (ht : TabOk xs) {p : Int × Int} (hp : p ∈ xs) : vaE xs p.1 = 0 ∧ vaR xs p.1 = (p.2, p.2) := by
  have h1 : vaE xs p.1 = 0 := by unfold vaE; rw [if_pos (tabE_of ht), if_pos (cov_row ht hp)]
  refine ⟨h1, ?_⟩
  unfold vaR
  rw [if_pos h1, valV_row ht hp]
theorem set2R {w : World} {b : Nat} {u v : Value} (x y : Value) (h0 : w.cell? ⟨b, 0, none⟩ = some u) (h1 : w.cell? ⟨b, 1, none⟩ = some v) :
    ((w.setCell ⟨b, 0, none⟩ x).setCell ⟨b, 1, none⟩ y).cell? ⟨b, 0, none⟩ = some x ∧ ((w.setCell ⟨b, 0, none⟩ x).setCell ⟨b, 1, none⟩ y).cell? ⟨b, 1, none⟩ = some y := set2 x y h0 h1

set_option maxRecDepth 40000 in
set_option maxHeartbeats 2000000 in
theorem rows_short (A : Option Addr) (n c : Nat) (p0 p1 y0 y1 : Int) (w : World) (hl : n < 2 ∨ ¬ n < 2 ∧ 12 < n) :
    Calls Try.prog 3 #[.slice A n c, .agg #[.int .u16 p0, .int .u16 p1], .agg #[.int .i16 y0, .int .i16 y1]] w fun e w' => e = .returned (.bool true) ∧ Below w.heap.size w w' := by
  have HK := Lib.hid known_any
  rcases hl with h1 | ⟨h1, h2⟩
  · go_enter Try.func3, Try.ntmps3
    go_wp2_with fail
    refine (HK.out _).mono ?_
    rintro e W1 ⟨rfl, hb⟩
    have hB := (below2 hb)
    clear hb
    go_wp2_with fail
    go_ret
    exact ⟨rfl, hB⟩
  · go_enter Try.func3, Try.ntmps3
    go_wp2_with fail
    refine (HK.out _).mono ?_
    rintro e W1 ⟨rfl, hb⟩
    have hB := (below2 hb)
    clear hb
    go_wp2_with fail
    go_ret
    exact ⟨rfl, hB⟩

set_option maxRecDepth 40000 in
set_option maxHeartbeats 16000000 in
theorem rows_long0 (ps : List (Int × Int)) (g off c : Nat) (p0 p1 y0 y1 : Int) (w : World) (hp0 : 0 ≤ p0 ∧ p0 ≤ 65535) (hp1 : 0 ≤ p1 ∧ p1 ≤ 65535) (hy0 : -32768 ≤ y0 ∧ y0 ≤ 32767) (hy1 : -32768 ≤ y1 ∧ y1 ≤ 32767) (h2 : 2 ≤ ps.length) (h12 : ps.length ≤ 12)
    (hg : g < w.heap.size) (hr : P16 w g off ps) (hbd : ∀ p ∈ ps, -32768 ≤ p.2 ∧ p.2 ≤ 32767)
    (hgap : (valV (stS ps).1 (rowX (stS ps).1 p0)).2 - (valV (stS ps).1 (rowX (stS ps).1 p0)).1 = 0) :
    Calls Try.prog 3 #[.slice (some ⟨g, off, none⟩) ps.length c, .agg #[.int .u16 p0, .int .u16 p1], .agg #[.int .i16 y0, .int .i16 y1]] w fun e w' => e = .returned (.bool true) ∧ Below w.heap.size w w' := by
  have HK := Lib.hid known_any
  obtain ⟨i0, hi0, iz0, iz1, iz2⟩ := info_parts infoRow
  obtain ⟨hT, hlen, hb0⟩ := st_fine h2 h12 hbd
  obtain ⟨xs, hxs⟩ : ∃ xs, (stS ps).1 = xs := ⟨_, rfl⟩
  rw [hxs] at hT hlen hb0
  have Hxs := Lib.hid hxs
  clear hxs
  obtain ⟨n, hn⟩ : ∃ n, ps.length = n := ⟨_, rfl⟩
  have Hn := Lib.hid hn
  rw [hn] at h2 h12 hlen ⊢
  obtain ⟨m1, hm1⟩ : ∃ m, n = m + 1 := ⟨n - 1, by omega⟩
  have hm : xs.length = m1 + 1 := hlen.trans hm1
  obtain ⟨f, hf⟩ : ∃ p, xs[0]? = some p := ⟨_, List.getElem?_eq_getElem (by omega)⟩
  obtain ⟨l, hl⟩ : ∃ q, xs[m1]? = some q := ⟨_, List.getElem?_eq_getElem (by omega)⟩
  have fb := hb0 f (List.mem_of_getElem? hf)
  have lb := hb0 l (List.mem_of_getElem? hl)
  have hfl := hT.2.2.2 0 m1 f l (by omega) hf hl
  obtain ⟨d0, hd0⟩ : ∃ d, l.1 - f.1 + 1 = d := ⟨_, rfl⟩
  have rd0 := Int.emod_nonneg p0 (show d0 ≠ 0 by omega)
  have re0 := Int.emod_lt_of_pos p0 (show 0 < d0 by omega)
  have tr0 := Int.tmod_eq_emod_of_nonneg (b := d0) hp0.1
  obtain ⟨r0, hr0⟩ : ∃ r, p0 % d0 = r := ⟨_, rfl⟩
  rw [hr0] at rd0 re0 tr0
  obtain ⟨x, hx⟩ : ∃ x, f.1 + r0 = x := ⟨_, rfl⟩
  obtain ⟨d1, hd1⟩ : ∃ d, l.1 - x + 1 = d := ⟨_, rfl⟩
  have rd1 := Int.emod_nonneg p1 (show d1 ≠ 0 by omega)
  have re1 := Int.emod_lt_of_pos p1 (show 0 < d1 by omega)
  have tr1 := Int.tmod_eq_emod_of_nonneg (b := d1) hp1.1
  obtain ⟨r1, hr1⟩ : ∃ r, p1 % d1 = r := ⟨_, rfl⟩
  rw [hr1] at rd1 re1 tr1
  obtain ⟨z, hz⟩ : ∃ z, x + r1 = z := ⟨_, rfl⟩
  obtain ⟨yl, hyl⟩ : ∃ y, min y0 y1 = y := ⟨_, rfl⟩
  obtain ⟨yh, hyh⟩ : ∃ y, max y0 y1 = y := ⟨_, rfl⟩
  have hyy : yl ≤ yh := by omega
  have hx1 : f.1 ≤ x := by omega
  have hx2 : x ≤ l.1 := by omega
  have hz1 : x ≤ z := by omega
  have hz2 : z ≤ l.1 := by omega
  have H9 := Lib.hid (show IntKind.i64.wrap ((n : Int) - 1) = (m1 : Int) ∧ (0 : Int) ≤ (m1 : Int) ∧ (m1 : Int) < (n : Int) from ⟨by rw [show ((n : Int) - 1) = m1 from by omega]; exact IntWalk.i64_in _ (by omega), by omega, by omega⟩)
  have H10 := Lib.hid (show IntKind.i64.wrap (l.1 - f.1) = l.1 - f.1 ∧ IntKind.i64.wrap (l.1 - f.1 + 1) = d0 ∧ p0.tmod d0 = r0 ∧ IntKind.i64.wrap (f.1 + r0) = x ∧ (d0 == 0) = false ∧ IntKind.i64.wrap r0 = r0 ∧ IntKind.i64.wrap p0 = p0 from ⟨IntWalk.i64_in _ (by omega), by rw [hd0]; exact IntWalk.i64_in _ (by omega), tr0, by rw [hx]; exact IntWalk.i64_in _ (by omega), by simp; omega, IntWalk.i64_in _ (by omega), IntWalk.i64_in _ (by omega)⟩)
  have H11 := Lib.hid (show IntKind.i64.wrap (l.1 - x) = l.1 - x ∧ IntKind.i64.wrap (l.1 - x + 1) = d1 ∧ p1.tmod d1 = r1 ∧ IntKind.i64.wrap (x + r1) = z ∧ (d1 == 0) = false ∧ IntKind.i64.wrap r1 = r1 ∧ IntKind.i64.wrap p1 = p1 from ⟨IntWalk.i64_in _ (by omega), by rw [hd1]; exact IntWalk.i64_in _ (by omega), tr1, by rw [hz]; exact IntWalk.i64_in _ (by omega), by simp; omega, IntWalk.i64_in _ (by omega), IntWalk.i64_in _ (by omega)⟩)
  have H12 := Lib.hid (show (∀ tys ty w, (Builtin.min_ tys ty #[.int .i16 y0, .int .i16 y1]).run Try.prog w = .ok (.int .i16 yl) w) ∧ (∀ tys ty w, (Builtin.max_ tys ty #[.int .i16 y0, .int .i16 y1]).run Try.prog w = .ok (.int .i16 yh) w) ∧ IntKind.i64.wrap yl = yl ∧ IntKind.i64.wrap yh = yh from ⟨fun tys ty w => by rw [rrun_min2R, hyl], fun tys ty w => by rw [rrun_max2R, hyh], IntWalk.i64_in _ (by omega), IntWalk.i64_in _ (by omega)⟩)
  have hte := tabE_of hT
  have cx := cov_of hm hf hl hx1 hx2
  have cz := cov_of hm hf hl (show f.1 ≤ z by omega) hz2
  have ev1 : vaE xs x = 0 := by unfold vaE; rw [if_pos hte, if_pos cx]
  have er1 : vaR xs x = valV xs x := by unfold vaR; rw [if_pos ev1]
  have ev2 : vaE xs z = 0 := by unfold vaE; rw [if_pos hte, if_pos cz]
  have er2 : vaR xs z = valV xs z := by unfold vaR; rw [if_pos ev2]
  have ev3 : vlE xs x z = 0 := by unfold vlE; rw [if_pos hte, if_pos (by simp [vrB]; omega), if_pos ⟨cx, cz⟩]
  have er3 : vlR xs x z = valsV xs x z := by unfold vlR; rw [if_pos ev3]
  have hvy : vrB yl yh = true := by simp [vrB]; omega
  have ev4 : whE xs yl yh = 0 := by unfold whE; rw [if_pos hte, if_pos hvy]
  have er4 : whR xs yl yh = whV xs yl yh := by unfold whR; rw [if_pos ev4]
  have HRw := Lib.hid (fun (u : Value) (W : World) (h : ArgAt W u xs) => lRows_any u xs (by omega) W h)
  have HV1 := Lib.hid (fun (u : Value) (W : World) (h : SetAt W.heap.size W u xs) => value_any u xs x W h)
  have HV2 := Lib.hid (fun (u : Value) (W : World) (h : SetAt W.heap.size W u xs) => value_any u xs z W h)
  have HV3 := Lib.hid (fun (u : Value) (W : World) (h : SetAt W.heap.size W u xs) => values_any u xs x z W h)
  have HWh := Lib.hid (fun (u : Value) (W : World) (h : SetAt W.heap.size W u xs) => where_any u xs yl yh W h)
  rw [ev1, er1] at HV1
  rw [ev2, er2] at HV2
  rw [ev3, er3] at HV3
  rw [ev4, er4] at HWh
  obtain ⟨P1, P2, P3⟩ := whV_is hT yl yh hyy hm hf hl
  have P4 := whV_set hT yl yh hyy
  have P5 := whV_length xs yl yh
  obtain ⟨⟨Q1, Q2⟩, ⟨Q3, Q4⟩, Q5⟩ := valsV_in hT x z
  have exx : rowX xs p0 = x := by unfold rowX; rw [List.head?_eq_getElem?, List.getLast?_eq_getElem?, hm, hf, show m1 + 1 - 1 = m1 from rfl, hl]; simp only [Option.getD_some]; rw [hd0, hr0, hx]
  have G1 := hgap
  rw [Hxs.out, exx] at G1
  clear hgap exx
  have HVB3 := valV_bd1 hT cx
  have B1' := valV_bd hT cx
  have B2' := valV_bd hT cz
  have HCk := Lib.hid (fun (u : Value) (W : World) (h : SetAt W.heap.size W u (whV xs yl yh)) => checkSet_any u _ W h)
  rw [P4] at HCk
  have HRg := Lib.hid (fun (u : Value) (W : World) (h : ArgAt W u (whV xs yl yh)) => lRanges_any u _ (by omega) W h)
  have HI1 := Lib.hid (lInside_any (valV xs x).1 (valV xs x).2 (valsV xs x z).1 (valsV xs x z).2)
  rw [show (decide ((valsV xs x z).1 ≤ (valV xs x).1) && decide ((valV xs x).2 ≤ (valsV xs x z).2)) = true from by simp; omega] at HI1
  have HI2 := Lib.hid (lInside_any (valV xs z).1 (valV xs z).2 (valsV xs x z).1 (valsV xs x z).2)
  rw [show (decide ((valsV xs x z).1 ≤ (valV xs z).1) && decide ((valV xs z).2 ≤ (valsV xs x z).2)) = true from by simp; omega] at HI2
  have M1 := P3 x hx1 hx2
  have M2 := P3 z (by omega) hz2
  unfold insideB at M1 M2
  have HI3 := Lib.hid (lInside_any (valV xs x).1 (valV xs x).2 yl yh)
  have HI4 := Lib.hid (lInside_any (valV xs z).1 (valV xs z).2 yl yh)
  rw [← M1] at HI3
  rw [← M2] at HI4
  clear M1 M2
  generalize eva1 : (valV xs x).1 = va1 at *
  generalize eva2 : (valV xs x).2 = va2 at *
  generalize evb1 : (valV xs z).1 = vb1 at *
  generalize evb2 : (valV xs z).2 = vb2 at *
  have HVX : Hid (valV xs x = (va1, va2)) := Lib.hid (by rw [← eva1, ← eva2])
  have HVZ : Hid (valV xs z = (vb1, vb2)) := Lib.hid (by rw [← evb1, ← evb2])
  have HVB2 : Hid (-1000000000 ≤ va1 ∧ va1 ≤ 1000000000) := Lib.hid HVB3
  have HVB : Hid (-2000000000 ≤ va1 ∧ va2 ≤ 2000000001) := Lib.hid ⟨by omega, by omega⟩
  clear eva1 eva2 evb1 evb2
  generalize (valsV xs x z).1 = s1 at *
  generalize (valsV xs x z).2 = s2 at *
  generalize ewh : whV xs yl yh = L at *
  have HWL := Lib.hid ewh
  clear ewh
  obtain ⟨m, hmL⟩ : ∃ m, L.length = m := ⟨_, rfl⟩
  have hmB : m ≤ 1000 := by omega
  have Hm := Lib.hid hmL
  have HM1 := Lib.hid hm
  have Hf := Lib.hid hf
  have Hl := Lib.hid hl
  have HLen := Lib.hid hlen
  have HT0 := Lib.hid hT
  have Hb0 := Lib.hid hb0
  have HR := Lib.hid hr
  have HBd := Lib.hid hbd
  have HM := Lib.hid (own_madeR ((w.alloc (.cells #[.int .u16 p0, .int .u16 p1] 24)).alloc (.cells #[.int .i16 y0, .int .i16 y1] 26)) 30)
  have HMem := Lib.hid P3
  have HBnd := Lib.hid P2
  have HVY := Lib.hid hvy
  have HQ5 := Lib.hid Q5
  clear hn hr hbd hT hlen hb0 hf hl P1 P2 P3 P4 Q5 ev1 er1 ev2 er2 ev3 er3 ev4 er4 hte cx cz hvy hmL hd0 hr0 hx hd1 hr1 hz hyl hyh tr0 tr1 hm hm1
  go_enter Try.func3, Try.ntmps3
  go_wp2_with fail
  go_loopw [7, 8, 9] (fun s t i wr => ∃ k : Nat, k ≤ n ∧ i = .int .i64 k ∧ t = .int .i64 (stS (ps.take k)).2 ∧ wr.ownsRow (w.heap.size + 2) 30 2 s (stS (ps.take k)).1.length (flat (stS (ps.take k)).1) ∧ Below w.heap.size w wr ∧ w.heap.size + 1 < wr.heap.size ∧ (wr.cell? ⟨w.heap.size, 0, none⟩ = some (.int .u16 p0) ∧ wr.cell? ⟨w.heap.size, 1, none⟩ = some (.int .u16 p1)) ∧ wr.cell? ⟨w.heap.size + 1, 0, none⟩ = some (.int .i16 y0) ∧ wr.cell? ⟨w.heap.size + 1, 1, none⟩ = some (.int .i16 y1)) (fun _ _ i _ => n - (RowKit.intOf i).toNat)
  case atStart => exact ⟨0, Nat.zero_le _, rfl, rfl, by have h := HM.out; simp at h; exact h, (((Below.refl _ _).alloc (Nat.le_refl _) _).alloc (by simp) _).alloc (by simp; omega) _, by simp, ⟨by simp [go_sem], by simp [go_sem]⟩, by simp [go_sem], by simp [go_sem]⟩
  case round =>
    clear HM
    obtain ⟨k, hk, rfl, rfl, hown, hB, nA', ⟨A0, A1⟩, B0, B1⟩ := hrel
    have nA : w.heap.size < wr.heap.size := by omega
    have nB : w.heap.size + 1 < wr.heap.size := nA'
    clear nA'
    have HO := Lib.hid hown
    clear hown
    by_cases hlt : (k : Int) < (n : Int)
    · obtain ⟨p, hp⟩ : ∃ p, ps[k]? = some p := ⟨_, List.getElem?_eq_getElem (by rw [Hn.out]; omega)⟩
      obtain ⟨⟨q0, q1⟩, b1, b2, b3, b4⟩ := (HR.out.below hB hg) k p hp
      have hnext : Hid (stS (ps.take (k + 1)) = stJ (stS (ps.take k)) p) := Lib.hid (by rw [take_snocR ps k p hp, stS_snoc])
      obtain ⟨a1, a2, a3, _⟩ := stS_is _ (ps.take k) rfl (fun q hq => HBd.out q (List.mem_of_mem_take hq))
      have a4 : (ps.take k).length ≤ k := List.length_take_le _ _
      have HL2 : Hid ((stS (ps.take k)).1.length ≤ 12) := Lib.hid (by omega)
      rw [show (ps.take k).length = k from by rw [List.length_take, Hn.out]; omega] at a3
      clear a1 a4 hp
      generalize stS (ps.take k) = s at *
      have hu : IntKind.u16.wrap p.1 = p.1 % 65536 := i16_u16 p.1 b1 b2
      have hm : 0 ≤ p.1 % 65536 ∧ p.1 % 65536 < 65536 := by omega
      obtain ⟨u, hu2⟩ : ∃ u, p.1 % 65536 = u := ⟨_, rfl⟩
      rw [hu2] at hu hm
      have hn2 : Hid (stS (ps.take (k + 1)) = (s.1 ++ [(s.2 + (1 + u), p.2)], s.2 + (1 + u))) := Lib.hid (by rw [hnext.out]; unfold stJ; rw [hu2])
      obtain ⟨u0, u1⟩ := hm
      clear hu2 hnext
      have w1 : IntKind.i64.wrap u = u := IntWalk.i64_in _ (by omega)
      have w2 : IntKind.i64.wrap (1 + u) = 1 + u := IntWalk.i64_in _ (by omega)
      have w3 : IntKind.i64.wrap (s.2 + (1 + u)) = s.2 + (1 + u) := IntWalk.i64_in _ (by omega)
      have w4 : IntKind.i64.wrap p.2 = p.2 := IntWalk.i64_in _ (by omega)
      have hk0 : (0 : Int) ≤ (k : Int) := by omega
      have hgr := Nat.lt_of_lt_of_le hg hB.size
      obtain ⟨hl12⟩ : Nonempty (s.1.length ≤ 12) := ⟨HL2.out⟩
      obtain ⟨ml, hml⟩ : ∃ ml, s.1.length = ml := ⟨_, rfl⟩
      rw [hml] at HO hl12
      have Hml := Lib.hid hml
      clear hml HL2
      go_wp2_with (at_builtin; refine wpList_append_own_at _ rfl (.tmp 63) (.tmp 72) 28 rfl (w.heap.size + 2) 30 i0 (.agg #[.int .i64 0, .int .i64 0]) 2 16 Try.underlying28 hi0 iz0 iz1 iz2 rfl (by decide) _ (ml) (flat s.1) rfl (HO.out.alloc _) ⟨wr.heap.size, 0, none⟩ 1 1 [.int .i64 (s.2 + (1 + u)), .int .i64 (p.2)] rfl rfl ?_ ?_ ?_ ?_ ?_ ?_)
      case refine_1 =>
        intro j u hj
        rcases j with _ | _ | j
        · simp at hj; subst hj; exact (cell_at _ _ _ _ _ (by simp))
        · simp at hj; subst hj; exact (cell_at _ _ _ _ _ (by simp))
        · simp at hj
      case refine_2 => simp [Value.oneCell']
      case refine_3 => unfold maxLen; omega
      case refine_4 => omega
      case refine_5 => simp; omega
      case refine_6 =>
        intro v' w7 own7 hgrow _ hat
        have hB7 := (hB.alloc hB.size _).grown hgrow (by have := hB.size; simp; omega) (fun r hr => by have := (HO.out.lt r hr).1; omega)
        have fa := fun (b o : Nat) (v : Value) (h1 : b < w.heap.size + 2) (h2 : b < wr.heap.size) (h : wr.cell? ⟨b, o, none⟩ = some v) => grown_cell' hgrow (by simp; omega) (fun r hr => by have := (HO.out.lt r hr).1; omega) (cell_next ((Below.refl wr.heap.size wr).alloc (Nat.le_refl _) _) h2 h)
        have e1 := fa _ _ _ (by omega) nA A0
        have e2 := fa _ _ _ (by omega) nA A1
        have e3 := fa _ _ _ (by omega) nB B0
        have e4 := fa _ _ _ (by omega) nB B1
        have hz7 : w.heap.size + 1 < w7.heap.size := by have := hgrow.size; simp at this; omega
        have HO7 := Lib.hid own7
        clear hgrow hat own7 fa A0 A1 B0 B1 q0 q1
        go_wp2_with fail
        go_roundw
        case rel => exact ⟨k + 1, by omega, by go_num, by rw [hn2.out], by rw [hn2.out]; simp only; rw [flat_append, flat_one, List.length_append, List.length_singleton, Hml.out]; simpa using HO7.out, hB7, hz7, ⟨e1, e2⟩, e3, e4⟩
        case measure => simp [RowKit.intOf]; omega
    · obtain rfl : k = n := by omega
      have hT2 : ps.take k = ps := List.take_of_length_le (by rw [Hn.out]; exact Nat.le_refl _)
      rw [hT2] at HO
      clear hlt hk hT2
      have rT := own_rowR xs k HLen.out _ wr (by have h := HO.out; rw [Hxs.out, HLen.out] at h; exact h)
      clear HO HBd HR hg
      obtain ⟨A', cT, hAT, hcT, hrT0⟩ := rT
      obtain ⟨gT, offT, rfl, hgT, hrT⟩ := hrT0 (by rw [HLen.out]; omega)
      rw [HLen.out] at hAT hcT
      subst hAT
      have rT : RowAt wr.heap.size wr (.slice (some ⟨gT, offT, none⟩) k cT) xs := ⟨_, cT, by rw [HLen.out], by rw [HLen.out]; exact hcT, fun _ => ⟨gT, offT, rfl, hgT, hrT⟩⟩
      have HTr := Lib.hid (fun (W : World) (h : Below wr.heap.size wr W) => hrT.below h hgT)
      clear hrT0 hrT hcT hgT
      have HT := Lib.hid (fun (W : World) (h : Below wr.heap.size wr W) => (rT.below h (Nat.le_refl _)).mono h.size)
      have hT := Below.refl wr.heap.size wr
      clear rT
      go_wp2_with fail
      obtain ⟨q0, _⟩ := (HTr.out _ hT) 0 f Hf.out
      obtain ⟨q1, _⟩ := (HTr.out _ hT) m1 l Hl.out
      simp only [Nat.zero_mul, Nat.add_zero] at q0
      obtain ⟨wm, hm0, hmk⟩ := H9.out
      have hk2 : (0 : Int) < (k : Int) := by omega
      go_quiet (fail)
      clear q0 q1 wm hm0 hmk
      have hb := below_drewN (Below.refl wr.heap.size wr) nq
      generalize wr.drewN nq = W1 at *
      replace hT := hT.trans (hb.mono hT.size)
      replace A0 := cell_next hb nA A0
      replace A1 := cell_next hb nA A1
      replace nA := Nat.lt_of_lt_of_le nA hb.size
      replace B0 := cell_next hb nB B0
      replace B1 := cell_next hb nB B1
      replace nB := Nat.lt_of_lt_of_le nB hb.size
      replace hB := hB.trans (hb.mono hB.size)
      clear hb
      obtain ⟨w1, w2, w3, w4, w5, w6, w7⟩ := H10.out
      obtain ⟨v1', v2', v3', v4', v5', v6', v7'⟩ := H11.out
      obtain ⟨x1, x2, x3, x4⟩ := H12.out
      go_wp2_with fail
      refine (HRw.out _ _ (HT.out _ (hT.alloc hT.size _)).argR).mono ?_
      rintro e W2 ⟨vC1, rfl, rC1, hb⟩
      replace hT := hT.trans ((below1 hb).mono hT.size)
      replace A0 := cell_next (below1 hb) nA A0
      replace A1 := cell_next (below1 hb) nA A1
      replace nA := Nat.lt_of_lt_of_le nA (below1 hb).size
      replace B0 := cell_next (below1 hb) nB B0
      replace B1 := cell_next (below1 hb) nB B1
      replace nB := Nat.lt_of_lt_of_le nB (below1 hb).size
      have R0 := cell_next hb (b := W1.heap.size) (o := 0) (by simp <;> omega) (v := some (.int .i64 yl)) (by simp [go_sem])
      have R1 := cell_next hb (b := W1.heap.size) (o := 1) (by simp <;> omega) (v := some (.int .i64 yh)) (by simp [go_sem])
      have nR : W1.heap.size < W2.heap.size := by have := hb.size; simp at this; omega
      replace hB := hB.trans ((below1 hb).mono hB.size)
      clear hb
      generalize W1.heap.size = q2 at *
      have HC1 := Lib.hid (fun (W : World) (h : Below W2.heap.size W2 W) => (rC1.below h (Nat.le_refl _)).mono h.size)
      have hC1 := Below.refl W2.heap.size W2
      clear rC1
      clear w1 w2 w3 w4 w5 w6 w7 v1' v2' v3' v4' v5' v6' v7' x1 x2 x3 x4
      go_wp2_with fail
      refine (HV1.out _ _ (HC1.out _ hC1).set).mono ?_
      rintro e W3 ⟨rfl, hb⟩
      replace hT := hT.trans (hb.mono hT.size)
      replace hC1 := hC1.trans (hb.mono hC1.size)
      replace A0 := cell_next hb nA A0
      replace A1 := cell_next hb nA A1
      replace nA := Nat.lt_of_lt_of_le nA hb.size
      replace B0 := cell_next hb nB B0
      replace B1 := cell_next hb nB B1
      replace nB := Nat.lt_of_lt_of_le nB hb.size
      replace R0 := cell_next hb nR R0
      replace R1 := cell_next hb nR R1
      replace nR := Nat.lt_of_lt_of_le nR hb.size
      replace hB := hB.trans (hb.mono hB.size)
      clear hb
      clear HC1 hC1
      go_wp2_with fail
      refine (HRw.out _ _ (HT.out _ (hT.alloc hT.size _)).argR).mono ?_
      rintro e W4 ⟨vC2, rfl, rC2, hb⟩
      replace hT := hT.trans ((below1 hb).mono hT.size)
      replace A0 := cell_next (below1 hb) nA A0
      replace A1 := cell_next (below1 hb) nA A1
      replace nA := Nat.lt_of_lt_of_le nA (below1 hb).size
      replace B0 := cell_next (below1 hb) nB B0
      replace B1 := cell_next (below1 hb) nB B1
      replace nB := Nat.lt_of_lt_of_le nB (below1 hb).size
      replace R0 := cell_next (below1 hb) nR R0
      replace R1 := cell_next (below1 hb) nR R1
      replace nR := Nat.lt_of_lt_of_le nR (below1 hb).size
      have V0 := cell_next hb (b := W3.heap.size) (o := 0) (by simp <;> omega) (v := some (.int .i64 va1)) (by simp [go_sem])
      have V1 := cell_next hb (b := W3.heap.size) (o := 1) (by simp <;> omega) (v := some (.int .i64 va2)) (by simp [go_sem])
      have nV : W3.heap.size < W4.heap.size := by have := hb.size; simp at this; omega
      replace hB := hB.trans ((below1 hb).mono hB.size)
      clear hb
      generalize W3.heap.size = q4 at *
      have HC2 := Lib.hid (fun (W : World) (h : Below W4.heap.size W4 W) => (rC2.below h (Nat.le_refl _)).mono h.size)
      have hC2 := Below.refl W4.heap.size W4
      clear rC2
      go_wp2_with fail
      refine (HV2.out _ _ (HC2.out _ hC2).set).mono ?_
      rintro e W5 ⟨rfl, hb⟩
      replace hT := hT.trans (hb.mono hT.size)
      replace hC2 := hC2.trans (hb.mono hC2.size)
      replace A0 := cell_next hb nA A0
      replace A1 := cell_next hb nA A1
      replace nA := Nat.lt_of_lt_of_le nA hb.size
      replace B0 := cell_next hb nB B0
      replace B1 := cell_next hb nB B1
      replace nB := Nat.lt_of_lt_of_le nB hb.size
      replace R0 := cell_next hb nR R0
      replace R1 := cell_next hb nR R1
      replace nR := Nat.lt_of_lt_of_le nR hb.size
      replace V0 := cell_next hb nV V0
      replace V1 := cell_next hb nV V1
      replace nV := Nat.lt_of_lt_of_le nV hb.size
      replace hB := hB.trans (hb.mono hB.size)
      clear hb
      clear HC2 hC2
      go_wp2_with fail
      refine (HRw.out _ _ (HT.out _ (hT.alloc hT.size _)).argR).mono ?_
      rintro e W6 ⟨vC3, rfl, rC3, hb⟩
      replace hT := hT.trans ((below1 hb).mono hT.size)
      replace A0 := cell_next (below1 hb) nA A0
      replace A1 := cell_next (below1 hb) nA A1
      replace nA := Nat.lt_of_lt_of_le nA (below1 hb).size
      replace B0 := cell_next (below1 hb) nB B0
      replace B1 := cell_next (below1 hb) nB B1
      replace nB := Nat.lt_of_lt_of_le nB (below1 hb).size
      replace R0 := cell_next (below1 hb) nR R0
      replace R1 := cell_next (below1 hb) nR R1
      replace nR := Nat.lt_of_lt_of_le nR (below1 hb).size
      replace V0 := cell_next (below1 hb) nV V0
      replace V1 := cell_next (below1 hb) nV V1
      replace nV := Nat.lt_of_lt_of_le nV (below1 hb).size
      have Y0 := cell_next hb (b := W5.heap.size) (o := 0) (by simp <;> omega) (v := some (.int .i64 vb1)) (by simp [go_sem])
      have Y1 := cell_next hb (b := W5.heap.size) (o := 1) (by simp <;> omega) (v := some (.int .i64 vb2)) (by simp [go_sem])
      have nY : W5.heap.size < W6.heap.size := by have := hb.size; simp at this; omega
      replace hB := hB.trans ((below1 hb).mono hB.size)
      clear hb
      generalize W5.heap.size = q6 at *
      have HC3 := Lib.hid (fun (W : World) (h : Below W6.heap.size W6 W) => (rC3.below h (Nat.le_refl _)).mono h.size)
      have hC3 := Below.refl W6.heap.size W6
      clear rC3
      go_wp2_with fail
      refine (HV3.out _ _ (HC3.out _ hC3).set).mono ?_
      rintro e W7 ⟨rfl, hb⟩
      replace hT := hT.trans (hb.mono hT.size)
      replace hC3 := hC3.trans (hb.mono hC3.size)
      replace A0 := cell_next hb nA A0
      replace A1 := cell_next hb nA A1
      replace nA := Nat.lt_of_lt_of_le nA hb.size
      replace B0 := cell_next hb nB B0
      replace B1 := cell_next hb nB B1
      replace nB := Nat.lt_of_lt_of_le nB hb.size
      replace R0 := cell_next hb nR R0
      replace R1 := cell_next hb nR R1
      replace nR := Nat.lt_of_lt_of_le nR hb.size
      replace V0 := cell_next hb nV V0
      replace V1 := cell_next hb nV V1
      replace nV := Nat.lt_of_lt_of_le nV hb.size
      replace Y0 := cell_next hb nY Y0
      replace Y1 := cell_next hb nY Y1
      replace nY := Nat.lt_of_lt_of_le nY hb.size
      replace hB := hB.trans (hb.mono hB.size)
      clear hb
      clear HC3 hC3
      go_wp2_with fail
      have hb := (Below.refl _ _).alloc (Nat.le_refl W7.heap.size) (.cells #[.int .i64 s1, .int .i64 s2] 32)
      have S0 : (W7.alloc (.cells #[.int .i64 s1, .int .i64 s2] 32)).cell? ⟨W7.heap.size, 0, none⟩ = some (.int .i64 s1) := cell_new _ _ _ 0
      have S1 : (W7.alloc (.cells #[.int .i64 s1, .int .i64 s2] 32)).cell? ⟨W7.heap.size, 1, none⟩ = some (.int .i64 s2) := cell_new _ _ _ 1
      have nS : W7.heap.size < (W7.alloc (.cells #[.int .i64 s1, .int .i64 s2] 32)).heap.size := by simp
      generalize W7.alloc (.cells #[.int .i64 s1, .int .i64 s2] 32) = W8 at *
      replace hT := hT.trans (hb.mono hT.size)
      replace A0 := cell_next hb nA A0
      replace A1 := cell_next hb nA A1
      replace nA := Nat.lt_of_lt_of_le nA hb.size
      replace B0 := cell_next hb nB B0
      replace B1 := cell_next hb nB B1
      replace nB := Nat.lt_of_lt_of_le nB hb.size
      replace R0 := cell_next hb nR R0
      replace R1 := cell_next hb nR R1
      replace nR := Nat.lt_of_lt_of_le nR hb.size
      replace V0 := cell_next hb nV V0
      replace V1 := cell_next hb nV V1
      replace nV := Nat.lt_of_lt_of_le nV hb.size
      replace Y0 := cell_next hb nY Y0
      replace Y1 := cell_next hb nY Y1
      replace nY := Nat.lt_of_lt_of_le nY hb.size
      replace hB := hB.trans (hb.mono hB.size)
      clear hb
      skip
      go_wp2_with fail
      have SB : Hid (∀ W' : World, Below W8.heap.size W8 W' → (fun w' => w'.cell? ⟨q2, 0, none⟩ = some (.int .i64 yl) ∧ w'.cell? ⟨q2, 1, none⟩ = some (.int .i64 yh) ∧ Below W8.heap.size W8 w') W') := Lib.hid (fun W' h => ⟨cell_next h nR R0, cell_next h nR R1, h⟩)
      refine wp_region_held_drew (S := fun w' => w'.cell? ⟨q2, 0, none⟩ = some (.int .i64 yl) ∧ w'.cell? ⟨q2, 1, none⟩ = some (.int .i64 yh) ∧ Below W8.heap.size W8 w') (by kernel_rfl) ?_ (fun hHeld => ?_)
      focus (exact SB.out _ (Below.drew (Below.refl _ _)))
      refine take_slot (i := 0) (d := 142) (v := ?_) rfl rfl (by kernel_rfl) (by kernel_rfl) (by kernel_rfl) (fun _ _ _ h => h) (Or.inl ⟨by rfl, ?_⟩) (by assumption) ?_
      rotate_left 1
      focus (intro wS hSw; (try dsimp only at hSw); go_simp; try with_reducible rfl)
      try simp only [List.setIfInBounds_toArray, List.set_cons_zero, List.set_cons_succ]
      refine take_slot (i := 2) (d := 144) (v := ?_) rfl rfl (by kernel_rfl) (by kernel_rfl) (by kernel_rfl) (fun _ _ _ h => h) (Or.inl ⟨by rfl, ?_⟩) (by assumption) ?_
      rotate_left 1
      focus (intro wS hSw; (try dsimp only at hSw); go_simp; try with_reducible rfl)
      try simp only [List.setIfInBounds_toArray, List.set_cons_zero, List.set_cons_succ]
      refine wpAnyH_ready (rs := [1]) (by kernel_rfl) (by simp) ?_
      refine AllReadyH.cons rfl (fun K hK => ?_) AllReadyH.nil
      skip
      go_simp
      (refine (HRw.out _ _ (HT.out _ (hT.trans (hHeld.2.2.mono hT.size))).argR).mono ?_)
      rintro e W9 ⟨vC4, rfl, rC4, hb⟩
      refine hK.out _ _ ?_ (fun hHeld => ?_)
      focus (exact SB.out _ (hHeld.2.2.trans (hb.mono hHeld.2.2.size)))
      clear hK K
      try simp only [Act.put, List.setIfInBounds_toArray, List.set_cons_zero, List.set_cons_succ]
      refine wpAnyH_ready (rs := [3]) (by kernel_rfl) (by simp) ?_
      refine AllReadyH.cons rfl (fun K hK => ?_) AllReadyH.nil
      skip
      go_simp
      (refine (HWh.out _ _ rC4.set).mono ?_)
      rintro e W10 ⟨vP, rfl, ownP, hb⟩
      refine hK.out _ _ ?_ (fun hHeld => ?_)
      focus (exact SB.out _ (hHeld.2.2.trans (hb.mono hHeld.2.2.size)))
      clear hK K
      try simp only [Act.put, List.setIfInBounds_toArray, List.set_cons_zero, List.set_cons_succ]
      refine take_slot (i := 4) (d := 141) (v := ?_) rfl rfl (by kernel_rfl) (by kernel_rfl) (by kernel_rfl) (fun _ _ _ h => h) (Or.inl ⟨by rfl, ?_⟩) (by assumption) ?_
      rotate_left 1
      focus (intro wS hSw; (try dsimp only at hSw); go_simp; try with_reducible rfl)
      try simp only [List.setIfInBounds_toArray, List.set_cons_zero, List.set_cons_succ]
      refine take_slot (i := 5) (d := 146) (v := ?_) rfl rfl (by kernel_rfl) (by kernel_rfl) (by kernel_rfl) (fun _ _ _ h => h) (Or.inl ⟨by rfl, ?_⟩) (by assumption) ?_
      rotate_left 1
      focus (intro wS hSw; (try dsimp only at hSw); go_simp; try with_reducible rfl)
      try simp only [List.setIfInBounds_toArray, List.set_cons_zero, List.set_cons_succ]
      refine take_slot (i := 6) (d := 147) (v := ?_) rfl rfl (by kernel_rfl) (by kernel_rfl) (by kernel_rfl) (fun _ _ _ h => h) (Or.inl ⟨by rfl, ?_⟩) (by assumption) ?_
      rotate_left 1
      focus (intro wS hSw; (try dsimp only at hSw); go_simp; try with_reducible rfl)
      try simp only [List.setIfInBounds_toArray, List.set_cons_zero, List.set_cons_succ]
      refine take_slot (i := 7) (d := 21) (v := ?_) rfl rfl (by kernel_rfl) (by kernel_rfl) (by kernel_rfl) (fun _ _ _ h => h) (Or.inl ⟨by rfl, ?_⟩) (by assumption) ?_
      rotate_left 1
      focus (intro wS hSw; (try dsimp only at hSw); go_simp; try with_reducible rfl)
      try simp only [List.setIfInBounds_toArray, List.set_cons_zero, List.set_cons_succ]
      refine take_slot (i := 8) (d := 22) (v := ?_) rfl rfl (by kernel_rfl) (by kernel_rfl) (by kernel_rfl) (fun _ _ _ h => h) (Or.inl ⟨by rfl, ?_⟩) (by assumption) ?_
      rotate_left 1
      focus (intro wS hSw; (try dsimp only at hSw); go_simp; try with_reducible rfl)
      try simp only [List.setIfInBounds_toArray, List.set_cons_zero, List.set_cons_succ]
      refine wpAnyH_done (by kernel_rfl) ?_ _
      clear hb
      have hb := hHeld.2.2
      clear hHeld SB
      replace hT := hT.trans (hb.mono hT.size)
      replace A0 := cell_next hb nA A0
      replace A1 := cell_next hb nA A1
      replace nA := Nat.lt_of_lt_of_le nA hb.size
      replace B0 := cell_next hb nB B0
      replace B1 := cell_next hb nB B1
      replace nB := Nat.lt_of_lt_of_le nB hb.size
      replace R0 := cell_next hb nR R0
      replace R1 := cell_next hb nR R1
      replace nR := Nat.lt_of_lt_of_le nR hb.size
      replace V0 := cell_next hb nV V0
      replace V1 := cell_next hb nV V1
      replace nV := Nat.lt_of_lt_of_le nV hb.size
      replace Y0 := cell_next hb nY Y0
      replace Y1 := cell_next hb nY Y1
      replace nY := Nat.lt_of_lt_of_le nY hb.size
      replace S0 := cell_next hb nS S0
      replace S1 := cell_next hb nS S1
      replace nS := Nat.lt_of_lt_of_le nS hb.size
      replace hB := hB.trans (hb.mono hB.size)
      clear hb
      clear rC4
      have RP := own_row _ _ rfl vP W10 ownP
      obtain ⟨AP, cP, rfl⟩ : ∃ A c, vP = .slice A m c := by obtain ⟨A, c, h, _⟩ := RP; exact ⟨A, c, by rw [h, Hm.out]⟩
      have HP := Lib.hid (fun (W : World) (h : Below W10.heap.size W10 W) => (RP.below h (Nat.le_refl _)).mono h.size)
      have hP := Below.refl W10.heap.size W10
      clear RP ownP
      go_wp2_with fail
      refine (HRg.out _ _ (HP.out _ hP).argR).mono ?_
      rintro e W11 ⟨vC5, rfl, rC5, hb⟩
      replace hT := hT.trans (hb.mono hT.size)
      replace hP := hP.trans (hb.mono hP.size)
      replace A0 := cell_next hb nA A0
      replace A1 := cell_next hb nA A1
      replace nA := Nat.lt_of_lt_of_le nA hb.size
      replace B0 := cell_next hb nB B0
      replace B1 := cell_next hb nB B1
      replace nB := Nat.lt_of_lt_of_le nB hb.size
      replace R0 := cell_next hb nR R0
      replace R1 := cell_next hb nR R1
      replace nR := Nat.lt_of_lt_of_le nR hb.size
      replace V0 := cell_next hb nV V0
      replace V1 := cell_next hb nV V1
      replace nV := Nat.lt_of_lt_of_le nV hb.size
      replace Y0 := cell_next hb nY Y0
      replace Y1 := cell_next hb nY Y1
      replace nY := Nat.lt_of_lt_of_le nY hb.size
      replace S0 := cell_next hb nS S0
      replace S1 := cell_next hb nS S1
      replace nS := Nat.lt_of_lt_of_le nS hb.size
      replace hB := hB.trans (hb.mono hB.size)
      clear hb
      have HC5 := Lib.hid (fun (W : World) (h : Below W11.heap.size W11 W) => (rC5.below h (Nat.le_refl _)).mono h.size)
      have hC5 := Below.refl W11.heap.size W11
      clear rC5
      go_wp2_with fail
      refine (HCk.out _ _ (HC5.out _ hC5).set).mono ?_
      rintro e W12 ⟨rfl, hb⟩
      replace hT := hT.trans (hb.mono hT.size)
      replace hP := hP.trans (hb.mono hP.size)
      replace hC5 := hC5.trans (hb.mono hC5.size)
      replace A0 := cell_next hb nA A0
      replace A1 := cell_next hb nA A1
      replace nA := Nat.lt_of_lt_of_le nA hb.size
      replace B0 := cell_next hb nB B0
      replace B1 := cell_next hb nB B1
      replace nB := Nat.lt_of_lt_of_le nB hb.size
      replace R0 := cell_next hb nR R0
      replace R1 := cell_next hb nR R1
      replace nR := Nat.lt_of_lt_of_le nR hb.size
      replace V0 := cell_next hb nV V0
      replace V1 := cell_next hb nV V1
      replace nV := Nat.lt_of_lt_of_le nV hb.size
      replace Y0 := cell_next hb nY Y0
      replace Y1 := cell_next hb nY Y1
      replace nY := Nat.lt_of_lt_of_le nY hb.size
      replace S0 := cell_next hb nS S0
      replace S1 := cell_next hb nS S1
      replace nS := Nat.lt_of_lt_of_le nS hb.size
      replace hB := hB.trans (hb.mono hB.size)
      clear hb
      clear HC5 hC5
      go_wp2_with fail
      refine (HI1.out _).mono ?_
      rintro e W13 ⟨rfl, hb⟩
      replace hT := hT.trans (hb.mono hT.size)
      replace hP := hP.trans (hb.mono hP.size)
      replace A0 := cell_next hb nA A0
      replace A1 := cell_next hb nA A1
      replace nA := Nat.lt_of_lt_of_le nA hb.size
      replace B0 := cell_next hb nB B0
      replace B1 := cell_next hb nB B1
      replace nB := Nat.lt_of_lt_of_le nB hb.size
      replace R0 := cell_next hb nR R0
      replace R1 := cell_next hb nR R1
      replace nR := Nat.lt_of_lt_of_le nR hb.size
      replace V0 := cell_next hb nV V0
      replace V1 := cell_next hb nV V1
      replace nV := Nat.lt_of_lt_of_le nV hb.size
      replace Y0 := cell_next hb nY Y0
      replace Y1 := cell_next hb nY Y1
      replace nY := Nat.lt_of_lt_of_le nY hb.size
      replace S0 := cell_next hb nS S0
      replace S1 := cell_next hb nS S1
      replace nS := Nat.lt_of_lt_of_le nS hb.size
      replace hB := hB.trans (hb.mono hB.size)
      clear hb
      go_wp2_with fail
      refine (HI2.out _).mono ?_
      rintro e W14 ⟨rfl, hb⟩
      replace hT := hT.trans (hb.mono hT.size)
      replace hP := hP.trans (hb.mono hP.size)
      replace A0 := cell_next hb nA A0
      replace A1 := cell_next hb nA A1
      replace nA := Nat.lt_of_lt_of_le nA hb.size
      replace B0 := cell_next hb nB B0
      replace B1 := cell_next hb nB B1
      replace nB := Nat.lt_of_lt_of_le nB hb.size
      replace R0 := cell_next hb nR R0
      replace R1 := cell_next hb nR R1
      replace nR := Nat.lt_of_lt_of_le nR hb.size
      replace V0 := cell_next hb nV V0
      replace V1 := cell_next hb nV V1
      replace nV := Nat.lt_of_lt_of_le nV hb.size
      replace Y0 := cell_next hb nY Y0
      replace Y1 := cell_next hb nY Y1
      replace nY := Nat.lt_of_lt_of_le nY hb.size
      replace S0 := cell_next hb nS S0
      replace S1 := cell_next hb nS S1
      replace nS := Nat.lt_of_lt_of_le nS hb.size
      replace hB := hB.trans (hb.mono hB.size)
      clear hb
      have wg : IntKind.i64.wrap (va2 - va1) = 0 := by rw [G1]; exact IntWalk.i64_in _ (by omega)
      have HG1 := Lib.hid G1
      clear G1
      go_upto_region 20 with fail
      apply suff_key (R := R20 W14 x z va1 va2 vb1 vb2)
      case main =>
        intro key
        have SB : Hid (∀ W' : World, Below W14.heap.size W14 W' → (fun w' => w'.cell? ⟨q4, 0, none⟩ = some (.int .i64 va1) ∧ w'.cell? ⟨q4, 1, none⟩ = some (.int .i64 va2) ∧ w'.cell? ⟨q6, 0, none⟩ = some (.int .i64 vb1) ∧ w'.cell? ⟨q6, 1, none⟩ = some (.int .i64 vb2) ∧ Below W14.heap.size W14 w') W') := Lib.hid (fun W' h => ⟨cell_next h nV V0, cell_next h nV V1, cell_next h nY Y0, cell_next h nY Y1, h⟩)
        refine wp_region_held_drew (S := fun w' => w'.cell? ⟨q4, 0, none⟩ = some (.int .i64 va1) ∧ w'.cell? ⟨q4, 1, none⟩ = some (.int .i64 va2) ∧ w'.cell? ⟨q6, 0, none⟩ = some (.int .i64 vb1) ∧ w'.cell? ⟨q6, 1, none⟩ = some (.int .i64 vb2) ∧ Below W14.heap.size W14 w') (by kernel_rfl) ?_ (fun hHeld => ?_)
        focus (refine SB.out _ ?_; repeat (first | exact Below.refl _ _ | (with_reducible refine Below.setCell ?_ (by simp [drew_size]) _) | (with_reducible refine Below.alloc ?_ (by simp [drew_size]) _) | (with_reducible refine Below.drew ?_)))
        refine take_slot (i := 0) (d := 197) (v := ?_) rfl rfl (by kernel_rfl) (by kernel_rfl) (by kernel_rfl) (fun _ _ _ h => h) (Or.inl ⟨by rfl, ?_⟩) (by assumption) ?_
        rotate_left 1
        focus (intro wS hSw; (try dsimp only at hSw); go_simp; try with_reducible rfl)
        try simp only [List.setIfInBounds_toArray, List.set_cons_zero, List.set_cons_succ]
        refine take_slot (i := 1) (d := 198) (v := ?_) rfl rfl (by kernel_rfl) (by kernel_rfl) (by kernel_rfl) (fun _ _ _ h => h) (Or.inl ⟨by rfl, ?_⟩) (by assumption) ?_
        rotate_left 1
        focus (intro wS hSw; (try dsimp only at hSw); go_simp; try with_reducible rfl)
        try simp only [List.setIfInBounds_toArray, List.set_cons_zero, List.set_cons_succ]
        refine take_slot (i := 2) (d := 199) (v := ?_) rfl rfl (by kernel_rfl) (by kernel_rfl) (by kernel_rfl) (fun _ _ _ h => h) (Or.inl ⟨by rfl, ?_⟩) (by assumption) ?_
        rotate_left 1
        focus (intro wS hSw; (try dsimp only at hSw); go_simp; try with_reducible rfl)
        try simp only [List.setIfInBounds_toArray, List.set_cons_zero, List.set_cons_succ]
        refine take_slot (i := 3) (d := 200) (v := ?_) rfl rfl (by kernel_rfl) (by kernel_rfl) (by kernel_rfl) (fun _ _ _ h => h) (Or.inl ⟨by rfl, ?_⟩) (by assumption) ?_
        rotate_left 1
        focus (intro wS hSw; (try dsimp only at hSw); go_simp; try with_reducible rfl)
        try simp only [List.setIfInBounds_toArray, List.set_cons_zero, List.set_cons_succ]
        refine take_slot (i := 4) (d := 201) (v := ?_) rfl rfl (by kernel_rfl) (by kernel_rfl) (by kernel_rfl) (fun _ _ _ h => h) (Or.inl ⟨by rfl, ?_⟩) (by assumption) ?_
        rotate_left 1
        focus (intro wS hSw; (try dsimp only at hSw); go_simp; try with_reducible rfl)
        try simp only [List.setIfInBounds_toArray, List.set_cons_zero, List.set_cons_succ]
        refine take_slot (i := 5) (d := 202) (v := ?_) rfl rfl (by kernel_rfl) (by kernel_rfl) (by kernel_rfl) (fun _ _ _ h => h) (Or.inl ⟨by rfl, ?_⟩) (by assumption) ?_
        rotate_left 1
        focus (intro wS hSw; (try dsimp only at hSw); go_simp; try with_reducible rfl)
        try simp only [List.setIfInBounds_toArray, List.set_cons_zero, List.set_cons_succ]
        refine wpAnyH_ready (rs := [6, 7]) (by kernel_rfl) (by simp) ?_
        refine AllReadyH.cons rfl (fun K hK => ?_) (AllReadyH.cons rfl (fun K hK => ?_) AllReadyH.nil)
        · go_simp
          refine hK.out _ _ ?_ (fun hHeld => ?_)
          focus (refine SB.out _ ?_; repeat (first | exact Below.refl _ _ | (with_reducible refine Below.setCell ?_ (by simp [drew_size]) _) | (with_reducible refine Below.alloc ?_ (by simp [drew_size]) _) | (with_reducible refine Below.drew ?_)))
          clear hK K
          try simp only [Act.put, List.setIfInBounds_toArray, List.set_cons_zero, List.set_cons_succ]
          refine wpAnyH_ready (rs := [7]) (by kernel_rfl) (by simp) ?_
          refine AllReadyH.cons rfl (fun K hK => ?_) AllReadyH.nil
          go_simp
          refine hK.out _ _ ?_ (fun hHeld => ?_)
          focus (refine SB.out _ ?_; repeat (first | exact Below.refl _ _ | (with_reducible refine Below.setCell ?_ (by simp [drew_size]) _) | (with_reducible refine Below.alloc ?_ (by simp [drew_size]) _) | (with_reducible refine Below.drew ?_)))
          clear hK K
          try simp only [Act.put, List.setIfInBounds_toArray, List.set_cons_zero, List.set_cons_succ]
          refine wpAnyH_ready (rs := [8]) (by kernel_rfl) (by simp) ?_
          refine AllReadyH.cons rfl (fun K hK => ?_) AllReadyH.nil
          go_simp
          refine hK.out _ _ ?_ (fun hHeld => ?_)
          focus (refine SB.out _ ?_; repeat (first | exact Below.refl _ _ | (with_reducible refine Below.setCell ?_ (by simp [drew_size]) _) | (with_reducible refine Below.alloc ?_ (by simp [drew_size]) _) | (with_reducible refine Below.drew ?_)))
          clear hK K
          try simp only [Act.put, List.setIfInBounds_toArray, List.set_cons_zero, List.set_cons_succ]
          refine wpAnyH_ready (rs := [9]) (by kernel_rfl) (by simp) ?_
          refine AllReadyH.cons rfl (fun K hK => ?_) AllReadyH.nil
          go_simp
          refine hK.out _ _ ?_ (fun hHeld => ?_)
          focus (refine SB.out _ ?_; repeat (first | exact Below.refl _ _ | (with_reducible refine Below.setCell ?_ (by simp [drew_size]) _) | (with_reducible refine Below.alloc ?_ (by simp [drew_size]) _) | (with_reducible refine Below.drew ?_)))
          clear hK K
          try simp only [Act.put, List.setIfInBounds_toArray, List.set_cons_zero, List.set_cons_succ]
          refine wpAnyH_done (by kernel_rfl) ?_ _
          have hrel : R20 W14 x z va1 va2 vb1 vb2 (W14.heap.size) (W14.heap.size + 1) _ := ⟨hHeld.2.2.2.2, by simp [go_sem], by simp [go_sem], ⟨by simp [go_sem], by simp [go_sem]⟩, by simp [go_sem], by simp [go_sem], by simp [go_sem], by simp [go_sem]⟩
          clear hHeld SB
          generalize World.drew _ = Wn at hrel ⊢
          generalize W14.heap.size + 1 = gb at hrel ⊢
          generalize W14.heap.size = ga at hrel ⊢
          exact key ga gb Wn hrel
        · go_simp
          refine hK.out _ _ ?_ (fun hHeld => ?_)
          focus (refine SB.out _ ?_; repeat (first | exact Below.refl _ _ | (with_reducible refine Below.setCell ?_ (by simp [drew_size]) _) | (with_reducible refine Below.alloc ?_ (by simp [drew_size]) _) | (with_reducible refine Below.drew ?_)))
          clear hK K
          try simp only [Act.put, List.setIfInBounds_toArray, List.set_cons_zero, List.set_cons_succ]
          refine wpAnyH_ready (rs := [6]) (by kernel_rfl) (by simp) ?_
          refine AllReadyH.cons rfl (fun K hK => ?_) AllReadyH.nil
          go_simp
          refine hK.out _ _ ?_ (fun hHeld => ?_)
          focus (refine SB.out _ ?_; repeat (first | exact Below.refl _ _ | (with_reducible refine Below.setCell ?_ (by simp [drew_size]) _) | (with_reducible refine Below.alloc ?_ (by simp [drew_size]) _) | (with_reducible refine Below.drew ?_)))
          clear hK K
          try simp only [Act.put, List.setIfInBounds_toArray, List.set_cons_zero, List.set_cons_succ]
          refine wpAnyH_ready (rs := [8]) (by kernel_rfl) (by simp) ?_
          refine AllReadyH.cons rfl (fun K hK => ?_) AllReadyH.nil
          go_simp
          refine hK.out _ _ ?_ (fun hHeld => ?_)
          focus (refine SB.out _ ?_; repeat (first | exact Below.refl _ _ | (with_reducible refine Below.setCell ?_ (by simp [drew_size]) _) | (with_reducible refine Below.alloc ?_ (by simp [drew_size]) _) | (with_reducible refine Below.drew ?_)))
          clear hK K
          try simp only [Act.put, List.setIfInBounds_toArray, List.set_cons_zero, List.set_cons_succ]
          refine wpAnyH_ready (rs := [9]) (by kernel_rfl) (by simp) ?_
          refine AllReadyH.cons rfl (fun K hK => ?_) AllReadyH.nil
          go_simp
          refine hK.out _ _ ?_ (fun hHeld => ?_)
          focus (refine SB.out _ ?_; repeat (first | exact Below.refl _ _ | (with_reducible refine Below.setCell ?_ (by simp [drew_size]) _) | (with_reducible refine Below.alloc ?_ (by simp [drew_size]) _) | (with_reducible refine Below.drew ?_)))
          clear hK K
          try simp only [Act.put, List.setIfInBounds_toArray, List.set_cons_zero, List.set_cons_succ]
          refine wpAnyH_done (by kernel_rfl) ?_ _
          have hrel : R20 W14 x z va1 va2 vb1 vb2 (W14.heap.size + 1) (W14.heap.size) _ := ⟨hHeld.2.2.2.2, by simp [go_sem], by simp [go_sem], ⟨by simp [go_sem], by simp [go_sem]⟩, by simp [go_sem], by simp [go_sem], by simp [go_sem], by simp [go_sem]⟩
          clear hHeld SB
          generalize World.drew _ = Wn at hrel ⊢
          generalize W14.heap.size + 1 = gb at hrel ⊢
          generalize W14.heap.size = ga at hrel ⊢
          exact key gb ga Wn hrel
      case key =>
        intro g1 g2 W15 hrel
        obtain ⟨hb, ng1, ng2, ⟨d0', d1'⟩, e0', e1', e2', e3'⟩ := hrel
        replace hT := hT.trans (hb.mono hT.size)
        replace hP := hP.trans (hb.mono hP.size)
        replace A0 := cell_next hb nA A0
        replace A1 := cell_next hb nA A1
        replace nA := Nat.lt_of_lt_of_le nA hb.size
        replace B0 := cell_next hb nB B0
        replace B1 := cell_next hb nB B1
        replace nB := Nat.lt_of_lt_of_le nB hb.size
        replace R0 := cell_next hb nR R0
        replace R1 := cell_next hb nR R1
        replace nR := Nat.lt_of_lt_of_le nR hb.size
        replace V0 := cell_next hb nV V0
        replace V1 := cell_next hb nV V1
        replace nV := Nat.lt_of_lt_of_le nV hb.size
        replace Y0 := cell_next hb nY Y0
        replace Y1 := cell_next hb nY Y1
        replace nY := Nat.lt_of_lt_of_le nY hb.size
        replace S0 := cell_next hb nS S0
        replace S1 := cell_next hb nS S1
        replace nS := Nat.lt_of_lt_of_le nS hb.size
        replace hB := hB.trans (hb.mono hB.size)
        clear hb
        have HE := Lib.hid (fun (W : World) (h : Below W15.heap.size W15 W) => (⟨cell_next h ng1 d0', cell_next h ng1 d1', cell_next h ng2 e0', cell_next h ng2 e1', cell_next h ng2 e2', cell_next h ng2 e3', Nat.lt_of_lt_of_le ng1 h.size, Nat.lt_of_lt_of_le ng2 h.size⟩ : W.cell? ⟨g1, 0, none⟩ = some (.int .i64 x) ∧ W.cell? ⟨g1, 1, none⟩ = some (.int .i64 z) ∧ W.cell? ⟨g2, 0, none⟩ = some (.int .i64 va1) ∧ W.cell? ⟨g2, 1, none⟩ = some (.int .i64 va2) ∧ W.cell? ⟨g2, 2, none⟩ = some (.int .i64 vb1) ∧ W.cell? ⟨g2, 3, none⟩ = some (.int .i64 vb2) ∧ g1 < W.heap.size ∧ g2 < W.heap.size))
        have hE := Below.refl W15.heap.size W15
        clear ng1 ng2 d0' d1' e0' e1' e2' e3'
        go_wp2_with fail
        obtain ⟨wo16, hwo16⟩ : ∃ wo : World, wo = W15 := ⟨_, rfl⟩
        go_loopw [26] (fun i wr => (i = .int .i64 0 ∨ i = .int .i64 1 ∨ i = .int .i64 2) ∧ Below wo16.heap.size wo16 wr) (fun i _ => 2 - (RowKit.intOf i).toNat)
        case atStart => exact ⟨.inl rfl, by rw [hwo16]; exact Below.refl _ _⟩
        case round =>
          subst hwo16
          obtain ⟨hq, hb⟩ := hrel
          generalize wr = W17 at *
          have hbk16 := hb
          replace hT := hT.trans (hb.mono hT.size)
          replace hP := hP.trans (hb.mono hP.size)
          replace hE := hE.trans (hb.mono hE.size)
          replace A0 := cell_next hb nA A0
          replace A1 := cell_next hb nA A1
          replace nA := Nat.lt_of_lt_of_le nA hb.size
          replace B0 := cell_next hb nB B0
          replace B1 := cell_next hb nB B1
          replace nB := Nat.lt_of_lt_of_le nB hb.size
          replace R0 := cell_next hb nR R0
          replace R1 := cell_next hb nR R1
          replace nR := Nat.lt_of_lt_of_le nR hb.size
          replace V0 := cell_next hb nV V0
          replace V1 := cell_next hb nV V1
          replace nV := Nat.lt_of_lt_of_le nV hb.size
          replace Y0 := cell_next hb nY Y0
          replace Y1 := cell_next hb nY Y1
          replace nY := Nat.lt_of_lt_of_le nY hb.size
          replace S0 := cell_next hb nS S0
          replace S1 := cell_next hb nS S1
          replace nS := Nat.lt_of_lt_of_le nS hb.size
          replace hB := hB.trans (hb.mono hB.size)
          clear hb
          rcases hq with rfl | rfl | rfl
          · as_aux_lemma =>
              go_wp2_with fail
              obtain ⟨wo18, hwo18⟩ : ∃ wo : World, wo = W17 := ⟨_, rfl⟩
              go_loopw [27, 28] (fun b j wr => ∃ k : Nat, k ≤ m ∧ j = .int .i64 k ∧ b = .bool (memB (L.take k) x) ∧ Below wo18.heap.size wo18 wr) (fun _ j _ => m - (RowKit.intOf j).toNat)
              case atStart => exact ⟨0, Nat.zero_le _, rfl, rfl, by rw [hwo18]; exact Below.refl _ _⟩
              case round =>
                subst hwo18
                obtain ⟨q, hq, rfl, rfl, hb⟩ := hrel
                generalize wr = W19 at *
                have hbk18 := hb
                replace hT := hT.trans (hb.mono hT.size)
                replace hP := hP.trans (hb.mono hP.size)
                replace hE := hE.trans (hb.mono hE.size)
                replace A0 := cell_next hb nA A0
                replace A1 := cell_next hb nA A1
                replace nA := Nat.lt_of_lt_of_le nA hb.size
                replace B0 := cell_next hb nB B0
                replace B1 := cell_next hb nB B1
                replace nB := Nat.lt_of_lt_of_le nB hb.size
                replace R0 := cell_next hb nR R0
                replace R1 := cell_next hb nR R1
                replace nR := Nat.lt_of_lt_of_le nR hb.size
                replace V0 := cell_next hb nV V0
                replace V1 := cell_next hb nV V1
                replace nV := Nat.lt_of_lt_of_le nV hb.size
                replace Y0 := cell_next hb nY Y0
                replace Y1 := cell_next hb nY Y1
                replace nY := Nat.lt_of_lt_of_le nY hb.size
                replace S0 := cell_next hb nS S0
                replace S1 := cell_next hb nS S1
                replace nS := Nat.lt_of_lt_of_le nS hb.size
                replace hB := hB.trans (hb.mono hB.size)
                clear hb
                by_cases hlt : (q : Int) < (m : Int)
                · obtain ⟨r, hr⟩ : ∃ r, L[q]? = some r := ⟨_, List.getElem?_eq_getElem (by rw [Hm.out]; omega)⟩
                  obtain ⟨r1, r2⟩ := HBnd.out r (List.mem_of_getElem? hr)
                  have hnext : Hid (memB (L.take (q + 1)) x = (memB (L.take q) x || (decide (r.1 ≤ x) && decide (x ≤ r.2)))) := Lib.hid (by rw [take_snocR L q r hr, memB_snoc])
                  obtain ⟨A', c', hA', _, hr'⟩ := HP.out _ hP
                  injection hA' with j1 j2 j3
                  subst j1 j3
                  clear j2
                  obtain ⟨g5, off5, rfl, hg5, hc5⟩ := hr' (by rw [Hm.out]; omega)
                  have HQ := Lib.hid (fun (W : World) (h : Below W19.heap.size W19 W) => And.intro ((hc5.below h hg5) q r hr).1 (And.intro ((hc5.below h hg5) q r hr).2 (Nat.lt_of_lt_of_le hg5 h.size)))
                  have hQ := Below.refl W19.heap.size W19
                  have hq0 : (0 : Int) ≤ (q : Int) := by omega
                  have hqm : q < m := by omega
                  have HC := Lib.hid (lHas_any r.1 r.2 x)
                  have t1 : decide (r.1 < f.1) = false := by simp; omega
                  have t2 : decide (l.1 < r.2) = false := by simp; omega
                  clear hc5 hr hr' hg5
                  generalize memB (L.take q) x = bb at *
                  generalize (decide (r.1 ≤ x) && decide (x ≤ r.2)) = cc at *
                  cases bb
                  · as_aux_lemma =>
                      cases cc
                      · go_wp2_with fail
                        apply suff_key0 (R := fun W' => Below W19.heap.size W19 W')
                        case main =>
                          intro key
                          obtain ⟨c0, c1, n5⟩ := HQ.out _ hQ
                          obtain ⟨d0', d1', -, -, -, -, ng1, -⟩ := HE.out _ hE
                          have SB : Hid (∀ W' : World, Below W19.heap.size W19 W' → (fun w' => w'.cell? ⟨g5, off5 + q * 2, none⟩ = some (.int .i64 r.1) ∧ w'.cell? ⟨g5, off5 + q * 2 + 1, none⟩ = some (.int .i64 r.2) ∧ w'.cell? ⟨g1, 0, none⟩ = some (.int .i64 x) ∧ Below W19.heap.size W19 w') W') := Lib.hid (fun W' h => ⟨cell_next h n5 c0, cell_next h n5 c1, cell_next h ng1 d0', h⟩)
                          refine wp_region_held_drew (S := fun w' => w'.cell? ⟨g5, off5 + q * 2, none⟩ = some (.int .i64 r.1) ∧ w'.cell? ⟨g5, off5 + q * 2 + 1, none⟩ = some (.int .i64 r.2) ∧ w'.cell? ⟨g1, 0, none⟩ = some (.int .i64 x) ∧ Below W19.heap.size W19 w') (by kernel_rfl) ?_ (fun hHeld => ?_)
                          focus (exact SB.out _ (Below.drew (Below.refl _ _)))
                          refine take_slot (i := 0) (d := 213) (v := ?_) rfl rfl (by kernel_rfl) (by kernel_rfl) (by kernel_rfl) (fun _ _ _ h => h) (Or.inl ⟨by rfl, ?_⟩) (by assumption) ?_
                          rotate_left 1
                          focus (intro wS hSw; (try dsimp only at hSw); go_simp; try with_reducible rfl)
                          try simp only [List.setIfInBounds_toArray, List.set_cons_zero, List.set_cons_succ]
                          refine take_slot (i := 1) (d := 214) (v := ?_) rfl rfl (by kernel_rfl) (by kernel_rfl) (by kernel_rfl) (fun _ _ _ h => h) (Or.inl ⟨by rfl, ?_⟩) (by assumption) ?_
                          rotate_left 1
                          focus (intro wS hSw; (try dsimp only at hSw); go_simp; try with_reducible rfl)
                          try simp only [List.setIfInBounds_toArray, List.set_cons_zero, List.set_cons_succ]
                          refine take_slot (i := 2) (d := 215) (v := ?_) rfl rfl (by kernel_rfl) (by kernel_rfl) (by kernel_rfl) (fun _ _ _ h => h) (Or.inl ⟨by rfl, ?_⟩) (by assumption) ?_
                          rotate_left 1
                          focus (intro wS hSw; (try dsimp only at hSw); go_simp; try with_reducible rfl)
                          try simp only [List.setIfInBounds_toArray, List.set_cons_zero, List.set_cons_succ]
                          refine take_slot (i := 3) (d := 216) (v := ?_) rfl rfl (by kernel_rfl) (by kernel_rfl) (by kernel_rfl) (fun _ _ _ h => h) (Or.inl ⟨by rfl, ?_⟩) (by assumption) ?_
                          rotate_left 1
                          focus (intro wS hSw; (try dsimp only at hSw); go_simp; try with_reducible rfl)
                          try simp only [List.setIfInBounds_toArray, List.set_cons_zero, List.set_cons_succ]
                          refine take_slot (i := 4) (d := 217) (v := ?_) rfl rfl (by kernel_rfl) (by kernel_rfl) (by kernel_rfl) (fun _ _ _ h => h) (Or.inl ⟨by rfl, ?_⟩) (by assumption) ?_
                          rotate_left 1
                          focus (intro wS hSw; (try dsimp only at hSw); go_simp; try with_reducible rfl)
                          try simp only [List.setIfInBounds_toArray, List.set_cons_zero, List.set_cons_succ]
                          refine take_slot (i := 5) (d := 218) (v := ?_) rfl rfl (by kernel_rfl) (by kernel_rfl) (by kernel_rfl) (fun _ _ _ h => h) (Or.inl ⟨by rfl, ?_⟩) (by assumption) ?_
                          rotate_left 1
                          focus (intro wS hSw; (try dsimp only at hSw); go_simp; try with_reducible rfl)
                          try simp only [List.setIfInBounds_toArray, List.set_cons_zero, List.set_cons_succ]
                          refine take_slot (i := 6) (d := 219) (v := ?_) rfl rfl (by kernel_rfl) (by kernel_rfl) (by kernel_rfl) (fun _ _ _ h => h) (Or.inl ⟨by rfl, ?_⟩) (by assumption) ?_
                          rotate_left 1
                          focus (intro wS hSw; (try dsimp only at hSw); go_simp; try with_reducible rfl)
                          try simp only [List.setIfInBounds_toArray, List.set_cons_zero, List.set_cons_succ]
                          refine take_slot (i := 7) (d := 220) (v := ?_) rfl rfl (by kernel_rfl) (by kernel_rfl) (by kernel_rfl) (fun _ _ _ h => h) (Or.inl ⟨by rfl, ?_⟩) (by assumption) ?_
                          rotate_left 1
                          focus (intro wS hSw; (try dsimp only at hSw); go_simp; try with_reducible rfl)
                          try simp only [List.setIfInBounds_toArray, List.set_cons_zero, List.set_cons_succ]
                          refine take_slot (i := 8) (d := 221) (v := ?_) rfl rfl (by kernel_rfl) (by kernel_rfl) (by kernel_rfl) (fun _ _ _ h => h) (Or.inl ⟨by rfl, ?_⟩) (by assumption) ?_
                          rotate_left 1
                          focus (intro wS hSw; (try dsimp only at hSw); go_simp; try with_reducible rfl)
                          try simp only [List.setIfInBounds_toArray, List.set_cons_zero, List.set_cons_succ]
                          refine wpAnyH_ready (rs := [9]) (by kernel_rfl) (by simp) ?_
                          refine AllReadyH.cons rfl (fun K hK => ?_) AllReadyH.nil
                          skip
                          go_simp
                          (refine (HC.out _).mono ?_)
                          rintro e W20 ⟨rfl, hb⟩
                          refine hK.out _ _ ?_ (fun hHeld => ?_)
                          focus (exact SB.out _ (hHeld.2.2.2.trans (hb.mono hHeld.2.2.2.size)))
                          clear hK K
                          try simp only [Act.put, List.setIfInBounds_toArray, List.set_cons_zero, List.set_cons_succ]
                          refine take_slot (i := 10) (d := 223) (v := ?_) rfl rfl (by kernel_rfl) (by kernel_rfl) (by kernel_rfl) (fun _ _ _ h => h) (Or.inl ⟨by rfl, ?_⟩) (by assumption) ?_
                          rotate_left 1
                          focus (intro wS hSw; (try dsimp only at hSw); go_simp; try with_reducible rfl)
                          try simp only [List.setIfInBounds_toArray, List.set_cons_zero, List.set_cons_succ]
                          refine take_slot (i := 11) (d := 27) (v := ?_) rfl rfl (by kernel_rfl) (by kernel_rfl) (by kernel_rfl) (fun _ _ _ h => h) (Or.inl ⟨by rfl, ?_⟩) (by assumption) ?_
                          rotate_left 1
                          focus (intro wS hSw; (try dsimp only at hSw); go_simp; try with_reducible rfl)
                          try simp only [List.setIfInBounds_toArray, List.set_cons_zero, List.set_cons_succ]
                          refine wpAnyH_done (by kernel_rfl) ?_ _
                          exact key _ hHeld.2.2.2
                        case key =>
                          intro W21 hb
                          replace hT := hT.trans (hb.mono hT.size)
                          replace hP := hP.trans (hb.mono hP.size)
                          replace hE := hE.trans (hb.mono hE.size)
                          replace hQ := hQ.trans (hb.mono hQ.size)
                          replace A0 := cell_next hb nA A0
                          replace A1 := cell_next hb nA A1
                          replace nA := Nat.lt_of_lt_of_le nA hb.size
                          replace B0 := cell_next hb nB B0
                          replace B1 := cell_next hb nB B1
                          replace nB := Nat.lt_of_lt_of_le nB hb.size
                          replace R0 := cell_next hb nR R0
                          replace R1 := cell_next hb nR R1
                          replace nR := Nat.lt_of_lt_of_le nR hb.size
                          replace V0 := cell_next hb nV V0
                          replace V1 := cell_next hb nV V1
                          replace nV := Nat.lt_of_lt_of_le nV hb.size
                          replace Y0 := cell_next hb nY Y0
                          replace Y1 := cell_next hb nY Y1
                          replace nY := Nat.lt_of_lt_of_le nY hb.size
                          replace S0 := cell_next hb nS S0
                          replace S1 := cell_next hb nS S1
                          replace nS := Nat.lt_of_lt_of_le nS hb.size
                          replace hB := hB.trans (hb.mono hB.size)
                          clear hb
                          go_upto_region 29 with fail
                          obtain ⟨c0, c1, -⟩ := HQ.out _ hQ
                          go_wp2_with fail
                          go_roundw
                          case rel => exact ⟨q + 1, by omega, by go_num, by rw [hnext.out]; rfl, hbk18.trans (hQ.mono hbk18.size)⟩
                          case measure => simp [RowKit.intOf]; omega
                      · go_wp2_with fail
                        apply suff_key0 (R := fun W' => Below W19.heap.size W19 W')
                        case main =>
                          intro key
                          obtain ⟨c0, c1, n5⟩ := HQ.out _ hQ
                          obtain ⟨d0', d1', -, -, -, -, ng1, -⟩ := HE.out _ hE
                          have SB : Hid (∀ W' : World, Below W19.heap.size W19 W' → (fun w' => w'.cell? ⟨g5, off5 + q * 2, none⟩ = some (.int .i64 r.1) ∧ w'.cell? ⟨g5, off5 + q * 2 + 1, none⟩ = some (.int .i64 r.2) ∧ w'.cell? ⟨g1, 0, none⟩ = some (.int .i64 x) ∧ Below W19.heap.size W19 w') W') := Lib.hid (fun W' h => ⟨cell_next h n5 c0, cell_next h n5 c1, cell_next h ng1 d0', h⟩)
                          refine wp_region_held_drew (S := fun w' => w'.cell? ⟨g5, off5 + q * 2, none⟩ = some (.int .i64 r.1) ∧ w'.cell? ⟨g5, off5 + q * 2 + 1, none⟩ = some (.int .i64 r.2) ∧ w'.cell? ⟨g1, 0, none⟩ = some (.int .i64 x) ∧ Below W19.heap.size W19 w') (by kernel_rfl) ?_ (fun hHeld => ?_)
                          focus (exact SB.out _ (Below.drew (Below.refl _ _)))
                          refine take_slot (i := 0) (d := 213) (v := ?_) rfl rfl (by kernel_rfl) (by kernel_rfl) (by kernel_rfl) (fun _ _ _ h => h) (Or.inl ⟨by rfl, ?_⟩) (by assumption) ?_
                          rotate_left 1
                          focus (intro wS hSw; (try dsimp only at hSw); go_simp; try with_reducible rfl)
                          try simp only [List.setIfInBounds_toArray, List.set_cons_zero, List.set_cons_succ]
                          refine take_slot (i := 1) (d := 214) (v := ?_) rfl rfl (by kernel_rfl) (by kernel_rfl) (by kernel_rfl) (fun _ _ _ h => h) (Or.inl ⟨by rfl, ?_⟩) (by assumption) ?_
                          rotate_left 1
                          focus (intro wS hSw; (try dsimp only at hSw); go_simp; try with_reducible rfl)
                          try simp only [List.setIfInBounds_toArray, List.set_cons_zero, List.set_cons_succ]
                          refine take_slot (i := 2) (d := 215) (v := ?_) rfl rfl (by kernel_rfl) (by kernel_rfl) (by kernel_rfl) (fun _ _ _ h => h) (Or.inl ⟨by rfl, ?_⟩) (by assumption) ?_
                          rotate_left 1
                          focus (intro wS hSw; (try dsimp only at hSw); go_simp; try with_reducible rfl)
                          try simp only [List.setIfInBounds_toArray, List.set_cons_zero, List.set_cons_succ]
                          refine take_slot (i := 3) (d := 216) (v := ?_) rfl rfl (by kernel_rfl) (by kernel_rfl) (by kernel_rfl) (fun _ _ _ h => h) (Or.inl ⟨by rfl, ?_⟩) (by assumption) ?_
                          rotate_left 1
                          focus (intro wS hSw; (try dsimp only at hSw); go_simp; try with_reducible rfl)
                          try simp only [List.setIfInBounds_toArray, List.set_cons_zero, List.set_cons_succ]
                          refine take_slot (i := 4) (d := 217) (v := ?_) rfl rfl (by kernel_rfl) (by kernel_rfl) (by kernel_rfl) (fun _ _ _ h => h) (Or.inl ⟨by rfl, ?_⟩) (by assumption) ?_
                          rotate_left 1
                          focus (intro wS hSw; (try dsimp only at hSw); go_simp; try with_reducible rfl)
                          try simp only [List.setIfInBounds_toArray, List.set_cons_zero, List.set_cons_succ]
                          refine take_slot (i := 5) (d := 218) (v := ?_) rfl rfl (by kernel_rfl) (by kernel_rfl) (by kernel_rfl) (fun _ _ _ h => h) (Or.inl ⟨by rfl, ?_⟩) (by assumption) ?_
                          rotate_left 1
                          focus (intro wS hSw; (try dsimp only at hSw); go_simp; try with_reducible rfl)
                          try simp only [List.setIfInBounds_toArray, List.set_cons_zero, List.set_cons_succ]
                          refine take_slot (i := 6) (d := 219) (v := ?_) rfl rfl (by kernel_rfl) (by kernel_rfl) (by kernel_rfl) (fun _ _ _ h => h) (Or.inl ⟨by rfl, ?_⟩) (by assumption) ?_
                          rotate_left 1
                          focus (intro wS hSw; (try dsimp only at hSw); go_simp; try with_reducible rfl)
                          try simp only [List.setIfInBounds_toArray, List.set_cons_zero, List.set_cons_succ]
                          refine take_slot (i := 7) (d := 220) (v := ?_) rfl rfl (by kernel_rfl) (by kernel_rfl) (by kernel_rfl) (fun _ _ _ h => h) (Or.inl ⟨by rfl, ?_⟩) (by assumption) ?_
                          rotate_left 1
                          focus (intro wS hSw; (try dsimp only at hSw); go_simp; try with_reducible rfl)
                          try simp only [List.setIfInBounds_toArray, List.set_cons_zero, List.set_cons_succ]
                          refine take_slot (i := 8) (d := 221) (v := ?_) rfl rfl (by kernel_rfl) (by kernel_rfl) (by kernel_rfl) (fun _ _ _ h => h) (Or.inl ⟨by rfl, ?_⟩) (by assumption) ?_
                          rotate_left 1
                          focus (intro wS hSw; (try dsimp only at hSw); go_simp; try with_reducible rfl)
                          try simp only [List.setIfInBounds_toArray, List.set_cons_zero, List.set_cons_succ]
                          refine wpAnyH_ready (rs := [9]) (by kernel_rfl) (by simp) ?_
                          refine AllReadyH.cons rfl (fun K hK => ?_) AllReadyH.nil
                          skip
                          go_simp
                          (refine (HC.out _).mono ?_)
                          rintro e W20 ⟨rfl, hb⟩
                          refine hK.out _ _ ?_ (fun hHeld => ?_)
                          focus (exact SB.out _ (hHeld.2.2.2.trans (hb.mono hHeld.2.2.2.size)))
                          clear hK K
                          try simp only [Act.put, List.setIfInBounds_toArray, List.set_cons_zero, List.set_cons_succ]
                          refine take_slot (i := 10) (d := 223) (v := ?_) rfl rfl (by kernel_rfl) (by kernel_rfl) (by kernel_rfl) (fun _ _ _ h => h) (Or.inl ⟨by rfl, ?_⟩) (by assumption) ?_
                          rotate_left 1
                          focus (intro wS hSw; (try dsimp only at hSw); go_simp; try with_reducible rfl)
                          try simp only [List.setIfInBounds_toArray, List.set_cons_zero, List.set_cons_succ]
                          refine take_slot (i := 11) (d := 27) (v := ?_) rfl rfl (by kernel_rfl) (by kernel_rfl) (by kernel_rfl) (fun _ _ _ h => h) (Or.inl ⟨by rfl, ?_⟩) (by assumption) ?_
                          rotate_left 1
                          focus (intro wS hSw; (try dsimp only at hSw); go_simp; try with_reducible rfl)
                          try simp only [List.setIfInBounds_toArray, List.set_cons_zero, List.set_cons_succ]
                          refine wpAnyH_done (by kernel_rfl) ?_ _
                          exact key _ hHeld.2.2.2
                        case key =>
                          intro W21 hb
                          replace hT := hT.trans (hb.mono hT.size)
                          replace hP := hP.trans (hb.mono hP.size)
                          replace hE := hE.trans (hb.mono hE.size)
                          replace hQ := hQ.trans (hb.mono hQ.size)
                          replace A0 := cell_next hb nA A0
                          replace A1 := cell_next hb nA A1
                          replace nA := Nat.lt_of_lt_of_le nA hb.size
                          replace B0 := cell_next hb nB B0
                          replace B1 := cell_next hb nB B1
                          replace nB := Nat.lt_of_lt_of_le nB hb.size
                          replace R0 := cell_next hb nR R0
                          replace R1 := cell_next hb nR R1
                          replace nR := Nat.lt_of_lt_of_le nR hb.size
                          replace V0 := cell_next hb nV V0
                          replace V1 := cell_next hb nV V1
                          replace nV := Nat.lt_of_lt_of_le nV hb.size
                          replace Y0 := cell_next hb nY Y0
                          replace Y1 := cell_next hb nY Y1
                          replace nY := Nat.lt_of_lt_of_le nY hb.size
                          replace S0 := cell_next hb nS S0
                          replace S1 := cell_next hb nS S1
                          replace nS := Nat.lt_of_lt_of_le nS hb.size
                          replace hB := hB.trans (hb.mono hB.size)
                          clear hb
                          go_upto_region 29 with fail
                          obtain ⟨c0, c1, -⟩ := HQ.out _ hQ
                          go_wp2_with fail
                          go_roundw
                          case rel => exact ⟨q + 1, by omega, by go_num, by rw [hnext.out]; rfl, hbk18.trans (hQ.mono hbk18.size)⟩
                          case measure => simp [RowKit.intOf]; omega
                  · as_aux_lemma =>
                      go_wp2_with fail
                      have SB : Hid (∀ W' : World, Below W19.heap.size W19 W' → (fun w' => Below W19.heap.size W19 w') W') := Lib.hid (fun W' h => h)
                      refine wp_region_held_drew (S := fun w' => Below W19.heap.size W19 w') (by kernel_rfl) ?_ (fun hHeld => ?_)
                      focus (exact SB.out _ (Below.drew (Below.refl _ _)))
                      refine take_slot (i := 0) (d := 213) (v := ?_) rfl rfl (by kernel_rfl) (by kernel_rfl) (by kernel_rfl) (fun _ _ _ h => h) (Or.inl ⟨by rfl, ?_⟩) (by assumption) ?_
                      rotate_left 1
                      focus (intro wS hSw; (try dsimp only at hSw); go_simp; try with_reducible rfl)
                      try simp only [List.setIfInBounds_toArray, List.set_cons_zero, List.set_cons_succ]
                      refine take_slot (i := 1) (d := 214) (v := ?_) rfl rfl (by kernel_rfl) (by kernel_rfl) (by kernel_rfl) (fun _ _ _ h => h) (Or.inl ⟨by rfl, ?_⟩) (by assumption) ?_
                      rotate_left 1
                      focus (intro wS hSw; (try dsimp only at hSw); go_simp; try with_reducible rfl)
                      try simp only [List.setIfInBounds_toArray, List.set_cons_zero, List.set_cons_succ]
                      refine take_slot (i := 2) (d := 215) (v := undef) rfl rfl (by kernel_rfl) (by kernel_rfl) (by kernel_rfl) (fun _ _ _ h => h) (Or.inr ⟨by rfl, rfl⟩) (by assumption) ?_
                      try simp only [List.setIfInBounds_toArray, List.set_cons_zero, List.set_cons_succ]
                      refine take_slot (i := 3) (d := 216) (v := undef) rfl rfl (by kernel_rfl) (by kernel_rfl) (by kernel_rfl) (fun _ _ _ h => h) (Or.inr ⟨by rfl, rfl⟩) (by assumption) ?_
                      try simp only [List.setIfInBounds_toArray, List.set_cons_zero, List.set_cons_succ]
                      refine take_slot (i := 4) (d := 217) (v := undef) rfl rfl (by kernel_rfl) (by kernel_rfl) (by kernel_rfl) (fun _ _ _ h => h) (Or.inr ⟨by rfl, rfl⟩) (by assumption) ?_
                      try simp only [List.setIfInBounds_toArray, List.set_cons_zero, List.set_cons_succ]
                      refine take_slot (i := 5) (d := 218) (v := undef) rfl rfl (by kernel_rfl) (by kernel_rfl) (by kernel_rfl) (fun _ _ _ h => h) (Or.inr ⟨by rfl, rfl⟩) (by assumption) ?_
                      try simp only [List.setIfInBounds_toArray, List.set_cons_zero, List.set_cons_succ]
                      refine take_slot (i := 6) (d := 219) (v := undef) rfl rfl (by kernel_rfl) (by kernel_rfl) (by kernel_rfl) (fun _ _ _ h => h) (Or.inr ⟨by rfl, rfl⟩) (by assumption) ?_
                      try simp only [List.setIfInBounds_toArray, List.set_cons_zero, List.set_cons_succ]
                      refine take_slot (i := 7) (d := 220) (v := undef) rfl rfl (by kernel_rfl) (by kernel_rfl) (by kernel_rfl) (fun _ _ _ h => h) (Or.inr ⟨by rfl, rfl⟩) (by assumption) ?_
                      try simp only [List.setIfInBounds_toArray, List.set_cons_zero, List.set_cons_succ]
                      refine take_slot (i := 8) (d := 221) (v := undef) rfl rfl (by kernel_rfl) (by kernel_rfl) (by kernel_rfl) (fun _ _ _ h => h) (Or.inr ⟨by rfl, rfl⟩) (by assumption) ?_
                      try simp only [List.setIfInBounds_toArray, List.set_cons_zero, List.set_cons_succ]
                      refine take_slot (i := 9) (d := 222) (v := undef) rfl rfl (by kernel_rfl) (by kernel_rfl) (by kernel_rfl) (fun _ _ _ h => h) (Or.inr ⟨by rfl, rfl⟩) (by assumption) ?_
                      try simp only [List.setIfInBounds_toArray, List.set_cons_zero, List.set_cons_succ]
                      refine take_slot (i := 10) (d := 223) (v := ?_) rfl rfl (by kernel_rfl) (by kernel_rfl) (by kernel_rfl) (fun _ _ _ h => h) (Or.inl ⟨by rfl, ?_⟩) (by assumption) ?_
                      rotate_left 1
                      focus (intro wS hSw; (try dsimp only at hSw); go_simp; try with_reducible rfl)
                      try simp only [List.setIfInBounds_toArray, List.set_cons_zero, List.set_cons_succ]
                      refine take_slot (i := 11) (d := 27) (v := ?_) rfl rfl (by kernel_rfl) (by kernel_rfl) (by kernel_rfl) (fun _ _ _ h => h) (Or.inl ⟨by rfl, ?_⟩) (by assumption) ?_
                      rotate_left 1
                      focus (intro wS hSw; (try dsimp only at hSw); go_simp; try with_reducible rfl)
                      try simp only [List.setIfInBounds_toArray, List.set_cons_zero, List.set_cons_succ]
                      refine wpAnyH_done (by kernel_rfl) ?_ _
                      have hb := hHeld
                      clear hHeld SB
                      generalize W19.drew = W20 at *
                      replace hT := hT.trans (hb.mono hT.size)
                      replace hP := hP.trans (hb.mono hP.size)
                      replace hE := hE.trans (hb.mono hE.size)
                      replace hQ := hQ.trans (hb.mono hQ.size)
                      replace A0 := cell_next hb nA A0
                      replace A1 := cell_next hb nA A1
                      replace nA := Nat.lt_of_lt_of_le nA hb.size
                      replace B0 := cell_next hb nB B0
                      replace B1 := cell_next hb nB B1
                      replace nB := Nat.lt_of_lt_of_le nB hb.size
                      replace R0 := cell_next hb nR R0
                      replace R1 := cell_next hb nR R1
                      replace nR := Nat.lt_of_lt_of_le nR hb.size
                      replace V0 := cell_next hb nV V0
                      replace V1 := cell_next hb nV V1
                      replace nV := Nat.lt_of_lt_of_le nV hb.size
                      replace Y0 := cell_next hb nY Y0
                      replace Y1 := cell_next hb nY Y1
                      replace nY := Nat.lt_of_lt_of_le nY hb.size
                      replace S0 := cell_next hb nS S0
                      replace S1 := cell_next hb nS S1
                      replace nS := Nat.lt_of_lt_of_le nS hb.size
                      replace hB := hB.trans (hb.mono hB.size)
                      clear hb
                      go_upto_region 29 with fail
                      obtain ⟨c0, c1, -⟩ := HQ.out _ hQ
                      go_wp2_with fail
                      go_roundw
                      case rel => exact ⟨q + 1, by omega, by go_num, by rw [hnext.out]; rfl, hbk18.trans (hQ.mono hbk18.size)⟩
                      case measure => simp [RowKit.intOf]; omega
                · as_aux_lemma =>
                    obtain rfl : q = m := by omega
                    have hTk : memB (L.take q) x = memB L x := by rw [List.take_of_length_le (by rw [Hm.out]; exact Nat.le_refl _)]
                    rw [hTk]
                    have HI := HI3
                    generalize memB L x = bb at HI ⊢
                    clear hTk hlt hq hbk18
                    cases bb
                    all_goals
                      obtain ⟨-, -, e0', e1', e2', e3', -, ng2⟩ := HE.out _ hE
                      go_wp2_with fail
                      have SB : Hid (∀ W' : World, Below W19.heap.size W19 W' → (fun w' => w'.cell? ⟨q2, 0, none⟩ = some (.int .i64 yl) ∧ w'.cell? ⟨q2, 1, none⟩ = some (.int .i64 yh) ∧ w'.cell? ⟨g2, 0, none⟩ = some (.int .i64 va1) ∧ w'.cell? ⟨g2, 1, none⟩ = some (.int .i64 va2) ∧ Below W19.heap.size W19 w') W') := Lib.hid (fun W' h => ⟨cell_next h nR R0, cell_next h nR R1, cell_next h ng2 e0', cell_next h ng2 e1', h⟩)
                      refine wp_region_held_drew (S := fun w' => w'.cell? ⟨q2, 0, none⟩ = some (.int .i64 yl) ∧ w'.cell? ⟨q2, 1, none⟩ = some (.int .i64 yh) ∧ w'.cell? ⟨g2, 0, none⟩ = some (.int .i64 va1) ∧ w'.cell? ⟨g2, 1, none⟩ = some (.int .i64 va2) ∧ Below W19.heap.size W19 w') (by kernel_rfl) ?_ (fun hHeld => ?_)
                      focus (exact SB.out _ (Below.drew (Below.refl _ _)))
                      refine take_slot (i := 0) (d := 240) (v := ?_) rfl rfl (by kernel_rfl) (by kernel_rfl) (by kernel_rfl) (fun _ _ _ h => h) (Or.inl ⟨by rfl, ?_⟩) (by assumption) ?_
                      rotate_left 1
                      focus (intro wS hSw; (try dsimp only at hSw); go_simp; try with_reducible rfl)
                      try simp only [List.setIfInBounds_toArray, List.set_cons_zero, List.set_cons_succ]
                      refine take_slot (i := 1) (d := 241) (v := ?_) rfl rfl (by kernel_rfl) (by kernel_rfl) (by kernel_rfl) (fun _ _ _ h => h) (Or.inl ⟨by rfl, ?_⟩) (by assumption) ?_
                      rotate_left 1
                      focus (intro wS hSw; (try dsimp only at hSw); go_simp; try with_reducible rfl)
                      try simp only [List.setIfInBounds_toArray, List.set_cons_zero, List.set_cons_succ]
                      refine take_slot (i := 2) (d := 242) (v := ?_) rfl rfl (by kernel_rfl) (by kernel_rfl) (by kernel_rfl) (fun _ _ _ h => h) (Or.inl ⟨by rfl, ?_⟩) (by assumption) ?_
                      rotate_left 1
                      focus (intro wS hSw; (try dsimp only at hSw); go_simp; try with_reducible rfl)
                      try simp only [List.setIfInBounds_toArray, List.set_cons_zero, List.set_cons_succ]
                      refine take_slot (i := 3) (d := 243) (v := ?_) rfl rfl (by kernel_rfl) (by kernel_rfl) (by kernel_rfl) (fun _ _ _ h => h) (Or.inl ⟨by rfl, ?_⟩) (by assumption) ?_
                      rotate_left 1
                      focus (intro wS hSw; (try dsimp only at hSw); go_simp; try with_reducible rfl)
                      try simp only [List.setIfInBounds_toArray, List.set_cons_zero, List.set_cons_succ]
                      refine take_slot (i := 4) (d := 244) (v := ?_) rfl rfl (by kernel_rfl) (by kernel_rfl) (by kernel_rfl) (fun _ _ _ h => h) (Or.inl ⟨by rfl, ?_⟩) (by assumption) ?_
                      rotate_left 1
                      focus (intro wS hSw; (try dsimp only at hSw); go_simp; try with_reducible rfl)
                      try simp only [List.setIfInBounds_toArray, List.set_cons_zero, List.set_cons_succ]
                      refine wpAnyH_ready (rs := [5]) (by kernel_rfl) (by simp) ?_
                      refine AllReadyH.cons rfl (fun K hK => ?_) AllReadyH.nil
                      skip
                      go_simp
                      (refine (HI.out _).mono ?_)
                      rintro e W20 ⟨rfl, hb⟩
                      refine hK.out _ _ ?_ (fun hHeld => ?_)
                      focus (exact SB.out _ (hHeld.2.2.2.2.trans (hb.mono hHeld.2.2.2.2.size)))
                      clear hK K
                      try simp only [Act.put, List.setIfInBounds_toArray, List.set_cons_zero, List.set_cons_succ]
                      refine take_slot (i := 6) (d := 246) (v := ?_) rfl rfl (by kernel_rfl) (by kernel_rfl) (by kernel_rfl) (fun _ _ _ h => h) (Or.inl ⟨by rfl, ?_⟩) (by assumption) ?_
                      rotate_left 1
                      focus (intro wS hSw; (try dsimp only at hSw); go_simp; try with_reducible rfl)
                      try simp only [List.setIfInBounds_toArray, List.set_cons_zero, List.set_cons_succ]
                      refine wpAnyH_done (by kernel_rfl) ?_ _
                      clear hb
                      have hb := hHeld.2.2.2.2
                      clear hHeld SB
                      replace hT := hT.trans (hb.mono hT.size)
                      replace hP := hP.trans (hb.mono hP.size)
                      replace hE := hE.trans (hb.mono hE.size)
                      replace A0 := cell_next hb nA A0
                      replace A1 := cell_next hb nA A1
                      replace nA := Nat.lt_of_lt_of_le nA hb.size
                      replace B0 := cell_next hb nB B0
                      replace B1 := cell_next hb nB B1
                      replace nB := Nat.lt_of_lt_of_le nB hb.size
                      replace R0 := cell_next hb nR R0
                      replace R1 := cell_next hb nR R1
                      replace nR := Nat.lt_of_lt_of_le nR hb.size
                      replace V0 := cell_next hb nV V0
                      replace V1 := cell_next hb nV V1
                      replace nV := Nat.lt_of_lt_of_le nV hb.size
                      replace Y0 := cell_next hb nY Y0
                      replace Y1 := cell_next hb nY Y1
                      replace nY := Nat.lt_of_lt_of_le nY hb.size
                      replace S0 := cell_next hb nS S0
                      replace S1 := cell_next hb nS S1
                      replace nS := Nat.lt_of_lt_of_le nS hb.size
                      replace hB := hB.trans (hb.mono hB.size)
                      clear hb
                      clear e0' e1' e2' e3' ng2
                      go_wp2_with fail
                      go_roundw
                      case rel => exact ⟨.inr (.inl rfl), hE⟩
                      case measure => simp [RowKit.intOf]
          · as_aux_lemma =>
              go_wp2_with fail
              obtain ⟨wo18, hwo18⟩ : ∃ wo : World, wo = W17 := ⟨_, rfl⟩
              go_loopw [27, 28] (fun b j wr => ∃ k : Nat, k ≤ m ∧ j = .int .i64 k ∧ b = .bool (memB (L.take k) z) ∧ Below wo18.heap.size wo18 wr) (fun _ j _ => m - (RowKit.intOf j).toNat)
              case atStart => exact ⟨0, Nat.zero_le _, rfl, rfl, by rw [hwo18]; exact Below.refl _ _⟩
              case round =>
                subst hwo18
                obtain ⟨q, hq, rfl, rfl, hb⟩ := hrel
                generalize wr = W19 at *
                have hbk18 := hb
                replace hT := hT.trans (hb.mono hT.size)
                replace hP := hP.trans (hb.mono hP.size)
                replace hE := hE.trans (hb.mono hE.size)
                replace A0 := cell_next hb nA A0
                replace A1 := cell_next hb nA A1
                replace nA := Nat.lt_of_lt_of_le nA hb.size
                replace B0 := cell_next hb nB B0
                replace B1 := cell_next hb nB B1
                replace nB := Nat.lt_of_lt_of_le nB hb.size
                replace R0 := cell_next hb nR R0
                replace R1 := cell_next hb nR R1
                replace nR := Nat.lt_of_lt_of_le nR hb.size
                replace V0 := cell_next hb nV V0
                replace V1 := cell_next hb nV V1
                replace nV := Nat.lt_of_lt_of_le nV hb.size
                replace Y0 := cell_next hb nY Y0
                replace Y1 := cell_next hb nY Y1
                replace nY := Nat.lt_of_lt_of_le nY hb.size
                replace S0 := cell_next hb nS S0
                replace S1 := cell_next hb nS S1
                replace nS := Nat.lt_of_lt_of_le nS hb.size
                replace hB := hB.trans (hb.mono hB.size)
                clear hb
                by_cases hlt : (q : Int) < (m : Int)
                · obtain ⟨r, hr⟩ : ∃ r, L[q]? = some r := ⟨_, List.getElem?_eq_getElem (by rw [Hm.out]; omega)⟩
                  obtain ⟨r1, r2⟩ := HBnd.out r (List.mem_of_getElem? hr)
                  have hnext : Hid (memB (L.take (q + 1)) z = (memB (L.take q) z || (decide (r.1 ≤ z) && decide (z ≤ r.2)))) := Lib.hid (by rw [take_snocR L q r hr, memB_snoc])
                  obtain ⟨A', c', hA', _, hr'⟩ := HP.out _ hP
                  injection hA' with j1 j2 j3
                  subst j1 j3
                  clear j2
                  obtain ⟨g5, off5, rfl, hg5, hc5⟩ := hr' (by rw [Hm.out]; omega)
                  have HQ := Lib.hid (fun (W : World) (h : Below W19.heap.size W19 W) => And.intro ((hc5.below h hg5) q r hr).1 (And.intro ((hc5.below h hg5) q r hr).2 (Nat.lt_of_lt_of_le hg5 h.size)))
                  have hQ := Below.refl W19.heap.size W19
                  have hq0 : (0 : Int) ≤ (q : Int) := by omega
                  have hqm : q < m := by omega
                  have HC := Lib.hid (lHas_any r.1 r.2 z)
                  have t1 : decide (r.1 < f.1) = false := by simp; omega
                  have t2 : decide (l.1 < r.2) = false := by simp; omega
                  clear hc5 hr hr' hg5
                  generalize memB (L.take q) z = bb at *
                  generalize (decide (r.1 ≤ z) && decide (z ≤ r.2)) = cc at *
                  cases bb
                  · as_aux_lemma =>
                      cases cc
                      · go_wp2_with fail
                        apply suff_key0 (R := fun W' => Below W19.heap.size W19 W')
                        case main =>
                          intro key
                          obtain ⟨c0, c1, n5⟩ := HQ.out _ hQ
                          obtain ⟨d0', d1', -, -, -, -, ng1, -⟩ := HE.out _ hE
                          have SB : Hid (∀ W' : World, Below W19.heap.size W19 W' → (fun w' => w'.cell? ⟨g5, off5 + q * 2, none⟩ = some (.int .i64 r.1) ∧ w'.cell? ⟨g5, off5 + q * 2 + 1, none⟩ = some (.int .i64 r.2) ∧ w'.cell? ⟨g1, 1, none⟩ = some (.int .i64 z) ∧ Below W19.heap.size W19 w') W') := Lib.hid (fun W' h => ⟨cell_next h n5 c0, cell_next h n5 c1, cell_next h ng1 d1', h⟩)
                          refine wp_region_held_drew (S := fun w' => w'.cell? ⟨g5, off5 + q * 2, none⟩ = some (.int .i64 r.1) ∧ w'.cell? ⟨g5, off5 + q * 2 + 1, none⟩ = some (.int .i64 r.2) ∧ w'.cell? ⟨g1, 1, none⟩ = some (.int .i64 z) ∧ Below W19.heap.size W19 w') (by kernel_rfl) ?_ (fun hHeld => ?_)
                          focus (exact SB.out _ (Below.drew (Below.refl _ _)))
                          refine take_slot (i := 0) (d := 213) (v := ?_) rfl rfl (by kernel_rfl) (by kernel_rfl) (by kernel_rfl) (fun _ _ _ h => h) (Or.inl ⟨by rfl, ?_⟩) (by assumption) ?_
                          rotate_left 1
                          focus (intro wS hSw; (try dsimp only at hSw); go_simp; try with_reducible rfl)
                          try simp only [List.setIfInBounds_toArray, List.set_cons_zero, List.set_cons_succ]
                          refine take_slot (i := 1) (d := 214) (v := ?_) rfl rfl (by kernel_rfl) (by kernel_rfl) (by kernel_rfl) (fun _ _ _ h => h) (Or.inl ⟨by rfl, ?_⟩) (by assumption) ?_
                          rotate_left 1
                          focus (intro wS hSw; (try dsimp only at hSw); go_simp; try with_reducible rfl)
                          try simp only [List.setIfInBounds_toArray, List.set_cons_zero, List.set_cons_succ]
                          refine take_slot (i := 2) (d := 215) (v := ?_) rfl rfl (by kernel_rfl) (by kernel_rfl) (by kernel_rfl) (fun _ _ _ h => h) (Or.inl ⟨by rfl, ?_⟩) (by assumption) ?_
                          rotate_left 1
                          focus (intro wS hSw; (try dsimp only at hSw); go_simp; try with_reducible rfl)
                          try simp only [List.setIfInBounds_toArray, List.set_cons_zero, List.set_cons_succ]
                          refine take_slot (i := 3) (d := 216) (v := ?_) rfl rfl (by kernel_rfl) (by kernel_rfl) (by kernel_rfl) (fun _ _ _ h => h) (Or.inl ⟨by rfl, ?_⟩) (by assumption) ?_
                          rotate_left 1
                          focus (intro wS hSw; (try dsimp only at hSw); go_simp; try with_reducible rfl)
                          try simp only [List.setIfInBounds_toArray, List.set_cons_zero, List.set_cons_succ]
                          refine take_slot (i := 4) (d := 217) (v := ?_) rfl rfl (by kernel_rfl) (by kernel_rfl) (by kernel_rfl) (fun _ _ _ h => h) (Or.inl ⟨by rfl, ?_⟩) (by assumption) ?_
                          rotate_left 1
                          focus (intro wS hSw; (try dsimp only at hSw); go_simp; try with_reducible rfl)
                          try simp only [List.setIfInBounds_toArray, List.set_cons_zero, List.set_cons_succ]
                          refine take_slot (i := 5) (d := 218) (v := ?_) rfl rfl (by kernel_rfl) (by kernel_rfl) (by kernel_rfl) (fun _ _ _ h => h) (Or.inl ⟨by rfl, ?_⟩) (by assumption) ?_
                          rotate_left 1
                          focus (intro wS hSw; (try dsimp only at hSw); go_simp; try with_reducible rfl)
                          try simp only [List.setIfInBounds_toArray, List.set_cons_zero, List.set_cons_succ]
                          refine take_slot (i := 6) (d := 219) (v := ?_) rfl rfl (by kernel_rfl) (by kernel_rfl) (by kernel_rfl) (fun _ _ _ h => h) (Or.inl ⟨by rfl, ?_⟩) (by assumption) ?_
                          rotate_left 1
                          focus (intro wS hSw; (try dsimp only at hSw); go_simp; try with_reducible rfl)
                          try simp only [List.setIfInBounds_toArray, List.set_cons_zero, List.set_cons_succ]
                          refine take_slot (i := 7) (d := 220) (v := ?_) rfl rfl (by kernel_rfl) (by kernel_rfl) (by kernel_rfl) (fun _ _ _ h => h) (Or.inl ⟨by rfl, ?_⟩) (by assumption) ?_
                          rotate_left 1
                          focus (intro wS hSw; (try dsimp only at hSw); go_simp; try with_reducible rfl)
                          try simp only [List.setIfInBounds_toArray, List.set_cons_zero, List.set_cons_succ]
                          refine take_slot (i := 8) (d := 221) (v := ?_) rfl rfl (by kernel_rfl) (by kernel_rfl) (by kernel_rfl) (fun _ _ _ h => h) (Or.inl ⟨by rfl, ?_⟩) (by assumption) ?_
                          rotate_left 1
                          focus (intro wS hSw; (try dsimp only at hSw); go_simp; try with_reducible rfl)
                          try simp only [List.setIfInBounds_toArray, List.set_cons_zero, List.set_cons_succ]
                          refine wpAnyH_ready (rs := [9]) (by kernel_rfl) (by simp) ?_
                          refine AllReadyH.cons rfl (fun K hK => ?_) AllReadyH.nil
                          skip
                          go_simp
                          (refine (HC.out _).mono ?_)
                          rintro e W20 ⟨rfl, hb⟩
                          refine hK.out _ _ ?_ (fun hHeld => ?_)
                          focus (exact SB.out _ (hHeld.2.2.2.trans (hb.mono hHeld.2.2.2.size)))
                          clear hK K
                          try simp only [Act.put, List.setIfInBounds_toArray, List.set_cons_zero, List.set_cons_succ]
                          refine take_slot (i := 10) (d := 223) (v := ?_) rfl rfl (by kernel_rfl) (by kernel_rfl) (by kernel_rfl) (fun _ _ _ h => h) (Or.inl ⟨by rfl, ?_⟩) (by assumption) ?_
                          rotate_left 1
                          focus (intro wS hSw; (try dsimp only at hSw); go_simp; try with_reducible rfl)
                          try simp only [List.setIfInBounds_toArray, List.set_cons_zero, List.set_cons_succ]
                          refine take_slot (i := 11) (d := 27) (v := ?_) rfl rfl (by kernel_rfl) (by kernel_rfl) (by kernel_rfl) (fun _ _ _ h => h) (Or.inl ⟨by rfl, ?_⟩) (by assumption) ?_
                          rotate_left 1
                          focus (intro wS hSw; (try dsimp only at hSw); go_simp; try with_reducible rfl)
                          try simp only [List.setIfInBounds_toArray, List.set_cons_zero, List.set_cons_succ]
                          refine wpAnyH_done (by kernel_rfl) ?_ _
                          exact key _ hHeld.2.2.2
                        case key =>
                          intro W21 hb
                          replace hT := hT.trans (hb.mono hT.size)
                          replace hP := hP.trans (hb.mono hP.size)
                          replace hE := hE.trans (hb.mono hE.size)
                          replace hQ := hQ.trans (hb.mono hQ.size)
                          replace A0 := cell_next hb nA A0
                          replace A1 := cell_next hb nA A1
                          replace nA := Nat.lt_of_lt_of_le nA hb.size
                          replace B0 := cell_next hb nB B0
                          replace B1 := cell_next hb nB B1
                          replace nB := Nat.lt_of_lt_of_le nB hb.size
                          replace R0 := cell_next hb nR R0
                          replace R1 := cell_next hb nR R1
                          replace nR := Nat.lt_of_lt_of_le nR hb.size
                          replace V0 := cell_next hb nV V0
                          replace V1 := cell_next hb nV V1
                          replace nV := Nat.lt_of_lt_of_le nV hb.size
                          replace Y0 := cell_next hb nY Y0
                          replace Y1 := cell_next hb nY Y1
                          replace nY := Nat.lt_of_lt_of_le nY hb.size
                          replace S0 := cell_next hb nS S0
                          replace S1 := cell_next hb nS S1
                          replace nS := Nat.lt_of_lt_of_le nS hb.size
                          replace hB := hB.trans (hb.mono hB.size)
                          clear hb
                          go_upto_region 29 with fail
                          obtain ⟨c0, c1, -⟩ := HQ.out _ hQ
                          go_wp2_with fail
                          go_roundw
                          case rel => exact ⟨q + 1, by omega, by go_num, by rw [hnext.out]; rfl, hbk18.trans (hQ.mono hbk18.size)⟩
                          case measure => simp [RowKit.intOf]; omega
                      · go_wp2_with fail
                        apply suff_key0 (R := fun W' => Below W19.heap.size W19 W')
                        case main =>
                          intro key
                          obtain ⟨c0, c1, n5⟩ := HQ.out _ hQ
                          obtain ⟨d0', d1', -, -, -, -, ng1, -⟩ := HE.out _ hE
                          have SB : Hid (∀ W' : World, Below W19.heap.size W19 W' → (fun w' => w'.cell? ⟨g5, off5 + q * 2, none⟩ = some (.int .i64 r.1) ∧ w'.cell? ⟨g5, off5 + q * 2 + 1, none⟩ = some (.int .i64 r.2) ∧ w'.cell? ⟨g1, 1, none⟩ = some (.int .i64 z) ∧ Below W19.heap.size W19 w') W') := Lib.hid (fun W' h => ⟨cell_next h n5 c0, cell_next h n5 c1, cell_next h ng1 d1', h⟩)
                          refine wp_region_held_drew (S := fun w' => w'.cell? ⟨g5, off5 + q * 2, none⟩ = some (.int .i64 r.1) ∧ w'.cell? ⟨g5, off5 + q * 2 + 1, none⟩ = some (.int .i64 r.2) ∧ w'.cell? ⟨g1, 1, none⟩ = some (.int .i64 z) ∧ Below W19.heap.size W19 w') (by kernel_rfl) ?_ (fun hHeld => ?_)
                          focus (exact SB.out _ (Below.drew (Below.refl _ _)))
                          refine take_slot (i := 0) (d := 213) (v := ?_) rfl rfl (by kernel_rfl) (by kernel_rfl) (by kernel_rfl) (fun _ _ _ h => h) (Or.inl ⟨by rfl, ?_⟩) (by assumption) ?_
                          rotate_left 1
                          focus (intro wS hSw; (try dsimp only at hSw); go_simp; try with_reducible rfl)
                          try simp only [List.setIfInBounds_toArray, List.set_cons_zero, List.set_cons_succ]
                          refine take_slot (i := 1) (d := 214) (v := ?_) rfl rfl (by kernel_rfl) (by kernel_rfl) (by kernel_rfl) (fun _ _ _ h => h) (Or.inl ⟨by rfl, ?_⟩) (by assumption) ?_
                          rotate_left 1
                          focus (intro wS hSw; (try dsimp only at hSw); go_simp; try with_reducible rfl)
                          try simp only [List.setIfInBounds_toArray, List.set_cons_zero, List.set_cons_succ]
                          refine take_slot (i := 2) (d := 215) (v := ?_) rfl rfl (by kernel_rfl) (by kernel_rfl) (by kernel_rfl) (fun _ _ _ h => h) (Or.inl ⟨by rfl, ?_⟩) (by assumption) ?_
                          rotate_left 1
                          focus (intro wS hSw; (try dsimp only at hSw); go_simp; try with_reducible rfl)
                          try simp only [List.setIfInBounds_toArray, List.set_cons_zero, List.set_cons_succ]
                          refine take_slot (i := 3) (d := 216) (v := ?_) rfl rfl (by kernel_rfl) (by kernel_rfl) (by kernel_rfl) (fun _ _ _ h => h) (Or.inl ⟨by rfl, ?_⟩) (by assumption) ?_
                          rotate_left 1
                          focus (intro wS hSw; (try dsimp only at hSw); go_simp; try with_reducible rfl)
                          try simp only [List.setIfInBounds_toArray, List.set_cons_zero, List.set_cons_succ]
                          refine take_slot (i := 4) (d := 217) (v := ?_) rfl rfl (by kernel_rfl) (by kernel_rfl) (by kernel_rfl) (fun _ _ _ h => h) (Or.inl ⟨by rfl, ?_⟩) (by assumption) ?_
                          rotate_left 1
                          focus (intro wS hSw; (try dsimp only at hSw); go_simp; try with_reducible rfl)
                          try simp only [List.setIfInBounds_toArray, List.set_cons_zero, List.set_cons_succ]
                          refine take_slot (i := 5) (d := 218) (v := ?_) rfl rfl (by kernel_rfl) (by kernel_rfl) (by kernel_rfl) (fun _ _ _ h => h) (Or.inl ⟨by rfl, ?_⟩) (by assumption) ?_
                          rotate_left 1
                          focus (intro wS hSw; (try dsimp only at hSw); go_simp; try with_reducible rfl)
                          try simp only [List.setIfInBounds_toArray, List.set_cons_zero, List.set_cons_succ]
                          refine take_slot (i := 6) (d := 219) (v := ?_) rfl rfl (by kernel_rfl) (by kernel_rfl) (by kernel_rfl) (fun _ _ _ h => h) (Or.inl ⟨by rfl, ?_⟩) (by assumption) ?_
                          rotate_left 1
                          focus (intro wS hSw; (try dsimp only at hSw); go_simp; try with_reducible rfl)
                          try simp only [List.setIfInBounds_toArray, List.set_cons_zero, List.set_cons_succ]
                          refine take_slot (i := 7) (d := 220) (v := ?_) rfl rfl (by kernel_rfl) (by kernel_rfl) (by kernel_rfl) (fun _ _ _ h => h) (Or.inl ⟨by rfl, ?_⟩) (by assumption) ?_
                          rotate_left 1
                          focus (intro wS hSw; (try dsimp only at hSw); go_simp; try with_reducible rfl)
                          try simp only [List.setIfInBounds_toArray, List.set_cons_zero, List.set_cons_succ]
                          refine take_slot (i := 8) (d := 221) (v := ?_) rfl rfl (by kernel_rfl) (by kernel_rfl) (by kernel_rfl) (fun _ _ _ h => h) (Or.inl ⟨by rfl, ?_⟩) (by assumption) ?_
                          rotate_left 1
                          focus (intro wS hSw; (try dsimp only at hSw); go_simp; try with_reducible rfl)
                          try simp only [List.setIfInBounds_toArray, List.set_cons_zero, List.set_cons_succ]
                          refine wpAnyH_ready (rs := [9]) (by kernel_rfl) (by simp) ?_
                          refine AllReadyH.cons rfl (fun K hK => ?_) AllReadyH.nil
                          skip
                          go_simp
                          (refine (HC.out _).mono ?_)
                          rintro e W20 ⟨rfl, hb⟩
                          refine hK.out _ _ ?_ (fun hHeld => ?_)
                          focus (exact SB.out _ (hHeld.2.2.2.trans (hb.mono hHeld.2.2.2.size)))
                          clear hK K
                          try simp only [Act.put, List.setIfInBounds_toArray, List.set_cons_zero, List.set_cons_succ]
                          refine take_slot (i := 10) (d := 223) (v := ?_) rfl rfl (by kernel_rfl) (by kernel_rfl) (by kernel_rfl) (fun _ _ _ h => h) (Or.inl ⟨by rfl, ?_⟩) (by assumption) ?_
                          rotate_left 1
                          focus (intro wS hSw; (try dsimp only at hSw); go_simp; try with_reducible rfl)
                          try simp only [List.setIfInBounds_toArray, List.set_cons_zero, List.set_cons_succ]
                          refine take_slot (i := 11) (d := 27) (v := ?_) rfl rfl (by kernel_rfl) (by kernel_rfl) (by kernel_rfl) (fun _ _ _ h => h) (Or.inl ⟨by rfl, ?_⟩) (by assumption) ?_
                          rotate_left 1
                          focus (intro wS hSw; (try dsimp only at hSw); go_simp; try with_reducible rfl)
                          try simp only [List.setIfInBounds_toArray, List.set_cons_zero, List.set_cons_succ]
                          refine wpAnyH_done (by kernel_rfl) ?_ _
                          exact key _ hHeld.2.2.2
                        case key =>
                          intro W21 hb
                          replace hT := hT.trans (hb.mono hT.size)
                          replace hP := hP.trans (hb.mono hP.size)
                          replace hE := hE.trans (hb.mono hE.size)
                          replace hQ := hQ.trans (hb.mono hQ.size)
                          replace A0 := cell_next hb nA A0
                          replace A1 := cell_next hb nA A1
                          replace nA := Nat.lt_of_lt_of_le nA hb.size
                          replace B0 := cell_next hb nB B0
                          replace B1 := cell_next hb nB B1
                          replace nB := Nat.lt_of_lt_of_le nB hb.size
                          replace R0 := cell_next hb nR R0
                          replace R1 := cell_next hb nR R1
                          replace nR := Nat.lt_of_lt_of_le nR hb.size
                          replace V0 := cell_next hb nV V0
                          replace V1 := cell_next hb nV V1
                          replace nV := Nat.lt_of_lt_of_le nV hb.size
                          replace Y0 := cell_next hb nY Y0
                          replace Y1 := cell_next hb nY Y1
                          replace nY := Nat.lt_of_lt_of_le nY hb.size
                          replace S0 := cell_next hb nS S0
                          replace S1 := cell_next hb nS S1
                          replace nS := Nat.lt_of_lt_of_le nS hb.size
                          replace hB := hB.trans (hb.mono hB.size)
                          clear hb
                          go_upto_region 29 with fail
                          obtain ⟨c0, c1, -⟩ := HQ.out _ hQ
                          go_wp2_with fail
                          go_roundw
                          case rel => exact ⟨q + 1, by omega, by go_num, by rw [hnext.out]; rfl, hbk18.trans (hQ.mono hbk18.size)⟩
                          case measure => simp [RowKit.intOf]; omega
                  · as_aux_lemma =>
                      go_wp2_with fail
                      have SB : Hid (∀ W' : World, Below W19.heap.size W19 W' → (fun w' => Below W19.heap.size W19 w') W') := Lib.hid (fun W' h => h)
                      refine wp_region_held_drew (S := fun w' => Below W19.heap.size W19 w') (by kernel_rfl) ?_ (fun hHeld => ?_)
                      focus (exact SB.out _ (Below.drew (Below.refl _ _)))
                      refine take_slot (i := 0) (d := 213) (v := ?_) rfl rfl (by kernel_rfl) (by kernel_rfl) (by kernel_rfl) (fun _ _ _ h => h) (Or.inl ⟨by rfl, ?_⟩) (by assumption) ?_
                      rotate_left 1
                      focus (intro wS hSw; (try dsimp only at hSw); go_simp; try with_reducible rfl)
                      try simp only [List.setIfInBounds_toArray, List.set_cons_zero, List.set_cons_succ]
                      refine take_slot (i := 1) (d := 214) (v := ?_) rfl rfl (by kernel_rfl) (by kernel_rfl) (by kernel_rfl) (fun _ _ _ h => h) (Or.inl ⟨by rfl, ?_⟩) (by assumption) ?_
                      rotate_left 1
                      focus (intro wS hSw; (try dsimp only at hSw); go_simp; try with_reducible rfl)
                      try simp only [List.setIfInBounds_toArray, List.set_cons_zero, List.set_cons_succ]
                      refine take_slot (i := 2) (d := 215) (v := undef) rfl rfl (by kernel_rfl) (by kernel_rfl) (by kernel_rfl) (fun _ _ _ h => h) (Or.inr ⟨by rfl, rfl⟩) (by assumption) ?_
                      try simp only [List.setIfInBounds_toArray, List.set_cons_zero, List.set_cons_succ]
                      refine take_slot (i := 3) (d := 216) (v := undef) rfl rfl (by kernel_rfl) (by kernel_rfl) (by kernel_rfl) (fun _ _ _ h => h) (Or.inr ⟨by rfl, rfl⟩) (by assumption) ?_
                      try simp only [List.setIfInBounds_toArray, List.set_cons_zero, List.set_cons_succ]
                      refine take_slot (i := 4) (d := 217) (v := undef) rfl rfl (by kernel_rfl) (by kernel_rfl) (by kernel_rfl) (fun _ _ _ h => h) (Or.inr ⟨by rfl, rfl⟩) (by assumption) ?_
                      try simp only [List.setIfInBounds_toArray, List.set_cons_zero, List.set_cons_succ]
                      refine take_slot (i := 5) (d := 218) (v := undef) rfl rfl (by kernel_rfl) (by kernel_rfl) (by kernel_rfl) (fun _ _ _ h => h) (Or.inr ⟨by rfl, rfl⟩) (by assumption) ?_
                      try simp only [List.setIfInBounds_toArray, List.set_cons_zero, List.set_cons_succ]
                      refine take_slot (i := 6) (d := 219) (v := undef) rfl rfl (by kernel_rfl) (by kernel_rfl) (by kernel_rfl) (fun _ _ _ h => h) (Or.inr ⟨by rfl, rfl⟩) (by assumption) ?_
                      try simp only [List.setIfInBounds_toArray, List.set_cons_zero, List.set_cons_succ]
                      refine take_slot (i := 7) (d := 220) (v := undef) rfl rfl (by kernel_rfl) (by kernel_rfl) (by kernel_rfl) (fun _ _ _ h => h) (Or.inr ⟨by rfl, rfl⟩) (by assumption) ?_
                      try simp only [List.setIfInBounds_toArray, List.set_cons_zero, List.set_cons_succ]
                      refine take_slot (i := 8) (d := 221) (v := undef) rfl rfl (by kernel_rfl) (by kernel_rfl) (by kernel_rfl) (fun _ _ _ h => h) (Or.inr ⟨by rfl, rfl⟩) (by assumption) ?_
                      try simp only [List.setIfInBounds_toArray, List.set_cons_zero, List.set_cons_succ]
                      refine take_slot (i := 9) (d := 222) (v := undef) rfl rfl (by kernel_rfl) (by kernel_rfl) (by kernel_rfl) (fun _ _ _ h => h) (Or.inr ⟨by rfl, rfl⟩) (by assumption) ?_
                      try simp only [List.setIfInBounds_toArray, List.set_cons_zero, List.set_cons_succ]
                      refine take_slot (i := 10) (d := 223) (v := ?_) rfl rfl (by kernel_rfl) (by kernel_rfl) (by kernel_rfl) (fun _ _ _ h => h) (Or.inl ⟨by rfl, ?_⟩) (by assumption) ?_
                      rotate_left 1
                      focus (intro wS hSw; (try dsimp only at hSw); go_simp; try with_reducible rfl)
                      try simp only [List.setIfInBounds_toArray, List.set_cons_zero, List.set_cons_succ]
                      refine take_slot (i := 11) (d := 27) (v := ?_) rfl rfl (by kernel_rfl) (by kernel_rfl) (by kernel_rfl) (fun _ _ _ h => h) (Or.inl ⟨by rfl, ?_⟩) (by assumption) ?_
                      rotate_left 1
                      focus (intro wS hSw; (try dsimp only at hSw); go_simp; try with_reducible rfl)
                      try simp only [List.setIfInBounds_toArray, List.set_cons_zero, List.set_cons_succ]
                      refine wpAnyH_done (by kernel_rfl) ?_ _
                      have hb := hHeld
                      clear hHeld SB
                      generalize W19.drew = W20 at *
                      replace hT := hT.trans (hb.mono hT.size)
                      replace hP := hP.trans (hb.mono hP.size)
                      replace hE := hE.trans (hb.mono hE.size)
                      replace hQ := hQ.trans (hb.mono hQ.size)
                      replace A0 := cell_next hb nA A0
                      replace A1 := cell_next hb nA A1
                      replace nA := Nat.lt_of_lt_of_le nA hb.size
                      replace B0 := cell_next hb nB B0
                      replace B1 := cell_next hb nB B1
                      replace nB := Nat.lt_of_lt_of_le nB hb.size
                      replace R0 := cell_next hb nR R0
                      replace R1 := cell_next hb nR R1
                      replace nR := Nat.lt_of_lt_of_le nR hb.size
                      replace V0 := cell_next hb nV V0
                      replace V1 := cell_next hb nV V1
                      replace nV := Nat.lt_of_lt_of_le nV hb.size
                      replace Y0 := cell_next hb nY Y0
                      replace Y1 := cell_next hb nY Y1
                      replace nY := Nat.lt_of_lt_of_le nY hb.size
                      replace S0 := cell_next hb nS S0
                      replace S1 := cell_next hb nS S1
                      replace nS := Nat.lt_of_lt_of_le nS hb.size
                      replace hB := hB.trans (hb.mono hB.size)
                      clear hb
                      go_upto_region 29 with fail
                      obtain ⟨c0, c1, -⟩ := HQ.out _ hQ
                      go_wp2_with fail
                      go_roundw
                      case rel => exact ⟨q + 1, by omega, by go_num, by rw [hnext.out]; rfl, hbk18.trans (hQ.mono hbk18.size)⟩
                      case measure => simp [RowKit.intOf]; omega
                · as_aux_lemma =>
                    obtain rfl : q = m := by omega
                    have hTk : memB (L.take q) z = memB L z := by rw [List.take_of_length_le (by rw [Hm.out]; exact Nat.le_refl _)]
                    rw [hTk]
                    have HI := HI4
                    generalize memB L z = bb at HI ⊢
                    clear hTk hlt hq hbk18
                    cases bb
                    all_goals
                      obtain ⟨-, -, e0', e1', e2', e3', -, ng2⟩ := HE.out _ hE
                      go_wp2_with fail
                      have SB : Hid (∀ W' : World, Below W19.heap.size W19 W' → (fun w' => w'.cell? ⟨q2, 0, none⟩ = some (.int .i64 yl) ∧ w'.cell? ⟨q2, 1, none⟩ = some (.int .i64 yh) ∧ w'.cell? ⟨g2, 2, none⟩ = some (.int .i64 vb1) ∧ w'.cell? ⟨g2, 3, none⟩ = some (.int .i64 vb2) ∧ Below W19.heap.size W19 w') W') := Lib.hid (fun W' h => ⟨cell_next h nR R0, cell_next h nR R1, cell_next h ng2 e2', cell_next h ng2 e3', h⟩)
                      refine wp_region_held_drew (S := fun w' => w'.cell? ⟨q2, 0, none⟩ = some (.int .i64 yl) ∧ w'.cell? ⟨q2, 1, none⟩ = some (.int .i64 yh) ∧ w'.cell? ⟨g2, 2, none⟩ = some (.int .i64 vb1) ∧ w'.cell? ⟨g2, 3, none⟩ = some (.int .i64 vb2) ∧ Below W19.heap.size W19 w') (by kernel_rfl) ?_ (fun hHeld => ?_)
                      focus (exact SB.out _ (Below.drew (Below.refl _ _)))
                      refine take_slot (i := 0) (d := 240) (v := ?_) rfl rfl (by kernel_rfl) (by kernel_rfl) (by kernel_rfl) (fun _ _ _ h => h) (Or.inl ⟨by rfl, ?_⟩) (by assumption) ?_
                      rotate_left 1
                      focus (intro wS hSw; (try dsimp only at hSw); go_simp; try with_reducible rfl)
                      try simp only [List.setIfInBounds_toArray, List.set_cons_zero, List.set_cons_succ]
                      refine take_slot (i := 1) (d := 241) (v := ?_) rfl rfl (by kernel_rfl) (by kernel_rfl) (by kernel_rfl) (fun _ _ _ h => h) (Or.inl ⟨by rfl, ?_⟩) (by assumption) ?_
                      rotate_left 1
                      focus (intro wS hSw; (try dsimp only at hSw); go_simp; try with_reducible rfl)
                      try simp only [List.setIfInBounds_toArray, List.set_cons_zero, List.set_cons_succ]
                      refine take_slot (i := 2) (d := 242) (v := ?_) rfl rfl (by kernel_rfl) (by kernel_rfl) (by kernel_rfl) (fun _ _ _ h => h) (Or.inl ⟨by rfl, ?_⟩) (by assumption) ?_
                      rotate_left 1
                      focus (intro wS hSw; (try dsimp only at hSw); go_simp; try with_reducible rfl)
                      try simp only [List.setIfInBounds_toArray, List.set_cons_zero, List.set_cons_succ]
                      refine take_slot (i := 3) (d := 243) (v := ?_) rfl rfl (by kernel_rfl) (by kernel_rfl) (by kernel_rfl) (fun _ _ _ h => h) (Or.inl ⟨by rfl, ?_⟩) (by assumption) ?_
                      rotate_left 1
                      focus (intro wS hSw; (try dsimp only at hSw); go_simp; try with_reducible rfl)
                      try simp only [List.setIfInBounds_toArray, List.set_cons_zero, List.set_cons_succ]
                      refine take_slot (i := 4) (d := 244) (v := ?_) rfl rfl (by kernel_rfl) (by kernel_rfl) (by kernel_rfl) (fun _ _ _ h => h) (Or.inl ⟨by rfl, ?_⟩) (by assumption) ?_
                      rotate_left 1
                      focus (intro wS hSw; (try dsimp only at hSw); go_simp; try with_reducible rfl)
                      try simp only [List.setIfInBounds_toArray, List.set_cons_zero, List.set_cons_succ]
                      refine wpAnyH_ready (rs := [5]) (by kernel_rfl) (by simp) ?_
                      refine AllReadyH.cons rfl (fun K hK => ?_) AllReadyH.nil
                      skip
                      go_simp
                      (refine (HI.out _).mono ?_)
                      rintro e W20 ⟨rfl, hb⟩
                      refine hK.out _ _ ?_ (fun hHeld => ?_)
                      focus (exact SB.out _ (hHeld.2.2.2.2.trans (hb.mono hHeld.2.2.2.2.size)))
                      clear hK K
                      try simp only [Act.put, List.setIfInBounds_toArray, List.set_cons_zero, List.set_cons_succ]
                      refine take_slot (i := 6) (d := 246) (v := ?_) rfl rfl (by kernel_rfl) (by kernel_rfl) (by kernel_rfl) (fun _ _ _ h => h) (Or.inl ⟨by rfl, ?_⟩) (by assumption) ?_
                      rotate_left 1
                      focus (intro wS hSw; (try dsimp only at hSw); go_simp; try with_reducible rfl)
                      try simp only [List.setIfInBounds_toArray, List.set_cons_zero, List.set_cons_succ]
                      refine wpAnyH_done (by kernel_rfl) ?_ _
                      clear hb
                      have hb := hHeld.2.2.2.2
                      clear hHeld SB
                      replace hT := hT.trans (hb.mono hT.size)
                      replace hP := hP.trans (hb.mono hP.size)
                      replace hE := hE.trans (hb.mono hE.size)
                      replace A0 := cell_next hb nA A0
                      replace A1 := cell_next hb nA A1
                      replace nA := Nat.lt_of_lt_of_le nA hb.size
                      replace B0 := cell_next hb nB B0
                      replace B1 := cell_next hb nB B1
                      replace nB := Nat.lt_of_lt_of_le nB hb.size
                      replace R0 := cell_next hb nR R0
                      replace R1 := cell_next hb nR R1
                      replace nR := Nat.lt_of_lt_of_le nR hb.size
                      replace V0 := cell_next hb nV V0
                      replace V1 := cell_next hb nV V1
                      replace nV := Nat.lt_of_lt_of_le nV hb.size
                      replace Y0 := cell_next hb nY Y0
                      replace Y1 := cell_next hb nY Y1
                      replace nY := Nat.lt_of_lt_of_le nY hb.size
                      replace S0 := cell_next hb nS S0
                      replace S1 := cell_next hb nS S1
                      replace nS := Nat.lt_of_lt_of_le nS hb.size
                      replace hB := hB.trans (hb.mono hB.size)
                      clear hb
                      clear e0' e1' e2' e3' ng2
                      go_wp2_with fail
                      go_roundw
                      case rel => exact ⟨.inr (.inr rfl), hE⟩
                      case measure => simp [RowKit.intOf]
          · clear hbk16
            as_aux_lemma =>
              go_wp2_with fail
              obtain ⟨wo18, hwo18⟩ : ∃ wo : World, wo = W17 := ⟨_, rfl⟩
              go_loopw [29] (fun i wr => ∃ j : Nat, j ≤ k ∧ i = .int .i64 (j : Int) ∧ Below wo18.heap.size wo18 wr) (fun i _ => k - (RowKit.intOf i).toNat)
              case atStart => exact ⟨0, Nat.zero_le _, rfl, by rw [hwo18]; exact Below.refl _ _⟩
              case round =>
                subst hwo18
                obtain ⟨j, hj, rfl, hb⟩ := hrel
                generalize wr = W19 at *
                have hbk18 := hb
                replace hT := hT.trans (hb.mono hT.size)
                replace hP := hP.trans (hb.mono hP.size)
                replace hE := hE.trans (hb.mono hE.size)
                replace A0 := cell_next hb nA A0
                replace A1 := cell_next hb nA A1
                replace nA := Nat.lt_of_lt_of_le nA hb.size
                replace B0 := cell_next hb nB B0
                replace B1 := cell_next hb nB B1
                replace nB := Nat.lt_of_lt_of_le nB hb.size
                replace R0 := cell_next hb nR R0
                replace R1 := cell_next hb nR R1
                replace nR := Nat.lt_of_lt_of_le nR hb.size
                replace V0 := cell_next hb nV V0
                replace V1 := cell_next hb nV V1
                replace nV := Nat.lt_of_lt_of_le nV hb.size
                replace Y0 := cell_next hb nY Y0
                replace Y1 := cell_next hb nY Y1
                replace nY := Nat.lt_of_lt_of_le nY hb.size
                replace S0 := cell_next hb nS S0
                replace S1 := cell_next hb nS S1
                replace nS := Nat.lt_of_lt_of_le nS hb.size
                replace hB := hB.trans (hb.mono hB.size)
                clear hb
                by_cases hlt : (j : Int) < (k : Int)
                · obtain ⟨p, hp⟩ : ∃ p, xs[j]? = some p := ⟨_, List.getElem?_eq_getElem (by rw [HLen.out]; omega)⟩
                  have hpm := List.mem_of_getElem? hp
                  obtain ⟨pb1, pb2, pb3, pb4⟩ := Hb0.out p hpm
                  have HVp : Hid (∀ (u : Value) (W : World), SetAt W.heap.size W u xs → Calls Try.prog 5 #[u, .int .i64 p.1] W fun e w' => e = .returned (.tuple #[.agg #[.int .i64 p.2, .int .i64 p.2], .int .i64 0]) ∧ Below W.heap.size W w') := Lib.hid (fun u W h => by
                    have h1 := value_any u xs p.1 W h
                    rw [(va_row HT0.out hpm).1, (va_row HT0.out hpm).2] at h1
                    exact h1)
                  have HA1 := Lib.hid (lHas_any x z p.1)
                  have HA2 := Lib.hid (lHas_any s1 s2 p.2)
                  have hq5 : x ≤ p.1 → p.1 ≤ z → (decide (s1 ≤ p.2) && decide (p.2 ≤ s2)) = true := fun h1 h2 => by have := HQ5.out p hpm h1 h2; simp; omega
                  have hb5 : (decide (x ≤ p.1) && decide (p.1 ≤ z)) = true → (decide (s1 ≤ p.2) && decide (p.2 ≤ s2)) = true := fun h => by simp at h; exact hq5 h.1 h.2
                  have Hp := Lib.hid hp
                  generalize (decide (x ≤ p.1) && decide (p.1 ≤ z)) = b1 at *
                  generalize (decide (s1 ≤ p.2) && decide (p.2 ≤ s2)) = b2 at *
                  have Hb5 := Lib.hid hb5
                  clear hp hpm hq5 hb5
                  have hj0 : (0 : Int) ≤ (j : Int) := by omega
                  have hJ := Below.refl W19.heap.size W19
                  have SB : Hid (∀ W' : World, Below W19.heap.size W19 W' → (fun w' => w'.cell? ⟨gT, offT + j * 2, none⟩ = some (.int .i64 p.1) ∧ Below W19.heap.size W19 w') W') := Lib.hid (fun W' h => ⟨((HTr.out _ (hT.trans (h.mono hT.size))) j p Hp.out).1, h⟩)
                  go_upto_region 36 with fail
                  apply suff_key1 (R := R36 W19 p.2)
                  case main =>
                    intro key
                    refine wp_region_held_drew (S := fun w' => w'.cell? ⟨gT, offT + j * 2, none⟩ = some (.int .i64 p.1) ∧ Below W19.heap.size W19 w') (by kernel_rfl) ?_ (fun hHeld => ?_)
                    focus (exact SB.out _ (Below.drew (Below.refl _ _)))
                    generalize W19.drew = wd at hHeld ⊢
                    refine take_slot (i := 0) (d := 254) (v := ?_) rfl rfl (by kernel_rfl) (by kernel_rfl) (by kernel_rfl) (fun _ _ _ h => h) (Or.inl ⟨by rfl, ?_⟩) (by assumption) ?_
                    rotate_left 1
                    focus (intro wS hSw; (try dsimp only at hSw); go_simp; try with_reducible rfl)
                    try simp only [List.setIfInBounds_toArray, List.set_cons_zero, List.set_cons_succ]
                    refine take_slot (i := 2) (d := 256) (v := ?_) rfl rfl (by kernel_rfl) (by kernel_rfl) (by kernel_rfl) (fun _ _ _ h => h) (Or.inl ⟨by rfl, ?_⟩) (by assumption) ?_
                    rotate_left 1
                    focus (intro wS hSw; (try dsimp only at hSw); go_simp; try with_reducible rfl)
                    try simp only [List.setIfInBounds_toArray, List.set_cons_zero, List.set_cons_succ]
                    refine take_slot (i := 3) (d := 257) (v := ?_) rfl rfl (by kernel_rfl) (by kernel_rfl) (by kernel_rfl) (fun _ _ _ h => h) (Or.inl ⟨by rfl, ?_⟩) (by assumption) ?_
                    rotate_left 1
                    focus (intro wS hSw; (try dsimp only at hSw); go_simp; try with_reducible rfl)
                    try simp only [List.setIfInBounds_toArray, List.set_cons_zero, List.set_cons_succ]
                    refine take_slot (i := 4) (d := 258) (v := ?_) rfl rfl (by kernel_rfl) (by kernel_rfl) (by kernel_rfl) (fun _ _ _ h => h) (Or.inl ⟨by rfl, ?_⟩) (by assumption) ?_
                    rotate_left 1
                    focus (intro wS hSw; (try dsimp only at hSw); go_simp; try with_reducible rfl)
                    try simp only [List.setIfInBounds_toArray, List.set_cons_zero, List.set_cons_succ]
                    refine take_slot (i := 5) (d := 259) (v := ?_) rfl rfl (by kernel_rfl) (by kernel_rfl) (by kernel_rfl) (fun _ _ _ h => h) (Or.inl ⟨by rfl, ?_⟩) (by assumption) ?_
                    rotate_left 1
                    focus (intro wS hSw; (try dsimp only at hSw); go_simp; try with_reducible rfl)
                    try simp only [List.setIfInBounds_toArray, List.set_cons_zero, List.set_cons_succ]
                    refine take_slot (i := 6) (d := 260) (v := ?_) rfl rfl (by kernel_rfl) (by kernel_rfl) (by kernel_rfl) (fun _ _ _ h => h) (Or.inl ⟨by rfl, ?_⟩) (by assumption) ?_
                    rotate_left 1
                    focus (intro wS hSw; (try dsimp only at hSw); go_simp; try with_reducible rfl)
                    try simp only [List.setIfInBounds_toArray, List.set_cons_zero, List.set_cons_succ]
                    refine wpAnyH_ready (rs := [1, 11]) (by kernel_rfl) (by simp) ?_
                    refine AllReadyH.cons rfl (fun K hK => ?_) (AllReadyH.cons rfl (fun K hK => ?_) AllReadyH.nil)
                    · go_simp
                      refine (HRw.out _ _ (HT.out _ (hT.trans (hHeld.2.mono hT.size))).argR).mono ?_
                      rintro e Z1 ⟨vC, rfl, rC, hb⟩
                      have hn := SB.out _ (hHeld.2.trans (hb.mono hHeld.2.size))
                      refine hK.out _ _ hn (fun hHeld => ?_)
                      clear hK K hb
                      try simp only [Act.put, List.setIfInBounds_toArray, List.set_cons_zero, List.set_cons_succ]
                      refine wpAnyH_ready (rs := [7, 11]) (by kernel_rfl) (by simp) ?_
                      refine AllReadyH.cons rfl (fun K hK => ?_) (AllReadyH.cons rfl (fun K hK => ?_) AllReadyH.nil)
                      · go_simp
                        refine (HVp.out _ _ rC.set).mono ?_
                        rintro e Z2 ⟨rfl, hb⟩
                        have hn := SB.out _ (hHeld.2.trans (hb.mono hHeld.2.size))
                        refine hK.out _ _ hn (fun hHeld => ?_)
                        clear hK K hb
                        try simp only [Act.put, List.setIfInBounds_toArray, List.set_cons_zero, List.set_cons_succ]
                        refine take_slot (i := 8) (d := 253) (v := ?_) rfl rfl (by kernel_rfl) (by kernel_rfl) (by kernel_rfl) (fun _ _ _ h => h) (Or.inl ⟨by rfl, ?_⟩) (by assumption) ?_
                        rotate_left 1
                        focus (intro wS hSw; (try dsimp only at hSw); go_simp; try with_reducible rfl)
                        try simp only [List.setIfInBounds_toArray, List.set_cons_zero, List.set_cons_succ]
                        refine take_slot (i := 9) (d := 262) (v := ?_) rfl rfl (by kernel_rfl) (by kernel_rfl) (by kernel_rfl) (fun _ _ _ h => h) (Or.inl ⟨by rfl, ?_⟩) (by assumption) ?_
                        rotate_left 1
                        focus (intro wS hSw; (try dsimp only at hSw); go_simp; try with_reducible rfl)
                        try simp only [List.setIfInBounds_toArray, List.set_cons_zero, List.set_cons_succ]
                        refine take_slot (i := 10) (d := 263) (v := ?_) rfl rfl (by kernel_rfl) (by kernel_rfl) (by kernel_rfl) (fun _ _ _ h => h) (Or.inl ⟨by rfl, ?_⟩) (by assumption) ?_
                        rotate_left 1
                        focus (intro wS hSw; (try dsimp only at hSw); go_simp; try with_reducible rfl)
                        try simp only [List.setIfInBounds_toArray, List.set_cons_zero, List.set_cons_succ]
                        refine wpAnyH_ready (rs := [11]) (by kernel_rfl) (by simp) ?_
                        refine AllReadyH.cons rfl (fun K hK => ?_) AllReadyH.nil
                        go_simp
                        have hb := (Below.refl Z2.heap.size Z2).alloc (Nat.le_refl _) (Obj.cells #[Value.int .i64 0, Value.int .i64 0] 32)
                        have zle : W19.heap.size ≤ Z2.heap.size := hHeld.2.size
                        have c0 : (Z2.alloc (Obj.cells #[Value.int .i64 0, Value.int .i64 0] 32)).cell? ⟨Z2.heap.size, 0, none⟩ = some (.int .i64 0) := cell_new _ _ _ 0
                        have c1 : (Z2.alloc (Obj.cells #[Value.int .i64 0, Value.int .i64 0] 32)).cell? ⟨Z2.heap.size, 1, none⟩ = some (.int .i64 0) := cell_new _ _ _ 1
                        have f0 : (Z2.alloc (Obj.cells #[Value.int .i64 0, Value.int .i64 0] 32)).frozen? ⟨Z2.heap.size, 0, none⟩ = false := by simp [go_sem]
                        have f1 : (Z2.alloc (Obj.cells #[Value.int .i64 0, Value.int .i64 0] 32)).frozen? ⟨Z2.heap.size, 1, none⟩ = false := by simp [go_sem]
                        have ngz : Z2.heap.size < (Z2.alloc (Obj.cells #[Value.int .i64 0, Value.int .i64 0] 32)).heap.size := by simp
                        have hn := SB.out _ (hHeld.2.trans (hb.mono hHeld.2.size))
                        refine hK.out _ _ hn (fun hHeld => ?_)
                        clear hK K hb
                        generalize Z2.alloc (Obj.cells #[Value.int .i64 0, Value.int .i64 0] 32) = Z3 at *
                        try simp only [Act.put, List.setIfInBounds_toArray, List.set_cons_zero, List.set_cons_succ]
                        refine wpAnyH_ready (rs := [12]) (by kernel_rfl) (by simp) ?_
                        refine AllReadyH.cons rfl (fun K hK => ?_) AllReadyH.nil
                        go_simp
                        have hn := SB.out _ ((hHeld.2.setCell (p := ⟨Z2.heap.size, 0, none⟩) zle (.int .i64 p.2)).setCell (p := ⟨Z2.heap.size, 1, none⟩) zle (.int .i64 p.2))
                        refine hK.out _ _ hn (fun hHeld => ?_)
                        clear hK K
                        obtain ⟨c0', c1'⟩ := set2R (.int .i64 p.2) (.int .i64 p.2) c0 c1
                        clear c0 c1 f0 f1
                        have c0 := c0'
                        have c1 := c1'
                        replace ngz : Z2.heap.size < ((Z3.setCell ⟨Z2.heap.size, 0, none⟩ (.int .i64 p.2)).setCell ⟨Z2.heap.size, 1, none⟩ (.int .i64 p.2)).heap.size := by simpa [World.setCell] using ngz
                        generalize ((Z3.setCell ⟨Z2.heap.size, 0, none⟩ (.int .i64 p.2)).setCell ⟨Z2.heap.size, 1, none⟩ (.int .i64 p.2)) = Z4 at *
                        try simp only [Act.put, List.setIfInBounds_toArray, List.set_cons_zero, List.set_cons_succ]
                        refine take_slot (i := 13) (d := 31) (v := ?_) rfl rfl (by kernel_rfl) (by kernel_rfl) (by kernel_rfl) (fun _ _ _ h => h) (Or.inl ⟨by rfl, ?_⟩) (by assumption) ?_
                        rotate_left 1
                        focus (intro wS hSw; (try dsimp only at hSw); go_simp; try with_reducible rfl)
                        try simp only [List.setIfInBounds_toArray, List.set_cons_zero, List.set_cons_succ]
                        refine wpAnyH_done (by kernel_rfl) ?_ _
                        generalize Z2.heap.size = gN at ngz c0 c1 ⊢
                        exact key gN vC _ ⟨hHeld.2, ngz, c0, c1⟩
                      · go_simp
                        have hb := (Below.refl Z1.heap.size Z1).alloc (Nat.le_refl _) (Obj.cells #[Value.int .i64 0, Value.int .i64 0] 32)
                        have zle : W19.heap.size ≤ Z1.heap.size := hHeld.2.size
                        have c0 : (Z1.alloc (Obj.cells #[Value.int .i64 0, Value.int .i64 0] 32)).cell? ⟨Z1.heap.size, 0, none⟩ = some (.int .i64 0) := cell_new _ _ _ 0
                        have c1 : (Z1.alloc (Obj.cells #[Value.int .i64 0, Value.int .i64 0] 32)).cell? ⟨Z1.heap.size, 1, none⟩ = some (.int .i64 0) := cell_new _ _ _ 1
                        have f0 : (Z1.alloc (Obj.cells #[Value.int .i64 0, Value.int .i64 0] 32)).frozen? ⟨Z1.heap.size, 0, none⟩ = false := by simp [go_sem]
                        have f1 : (Z1.alloc (Obj.cells #[Value.int .i64 0, Value.int .i64 0] 32)).frozen? ⟨Z1.heap.size, 1, none⟩ = false := by simp [go_sem]
                        have ngz : Z1.heap.size < (Z1.alloc (Obj.cells #[Value.int .i64 0, Value.int .i64 0] 32)).heap.size := by simp
                        have hn := SB.out _ (hHeld.2.trans (hb.mono hHeld.2.size))
                        replace rC := (rC.below hb (Nat.le_refl _)).mono hb.size
                        refine hK.out _ _ hn (fun hHeld => ?_)
                        clear hK K hb
                        generalize Z1.alloc (Obj.cells #[Value.int .i64 0, Value.int .i64 0] 32) = Z5 at *
                        try simp only [Act.put, List.setIfInBounds_toArray, List.set_cons_zero, List.set_cons_succ]
                        refine wpAnyH_ready (rs := [7]) (by kernel_rfl) (by simp) ?_
                        refine AllReadyH.cons rfl (fun K hK => ?_) AllReadyH.nil
                        go_simp
                        refine (HVp.out _ _ rC.set).mono ?_
                        rintro e Z6 ⟨rfl, hb⟩
                        have hn := SB.out _ (hHeld.2.trans (hb.mono hHeld.2.size))
                        replace c0 := cell_next hb ngz c0
                        replace c1 := cell_next hb ngz c1
                        replace f0 := frozen_next hb ngz f0
                        replace f1 := frozen_next hb ngz f1
                        replace ngz := Nat.lt_of_lt_of_le ngz hb.size
                        refine hK.out _ _ hn (fun hHeld => ?_)
                        clear hK K hb
                        try simp only [Act.put, List.setIfInBounds_toArray, List.set_cons_zero, List.set_cons_succ]
                        refine take_slot (i := 8) (d := 253) (v := ?_) rfl rfl (by kernel_rfl) (by kernel_rfl) (by kernel_rfl) (fun _ _ _ h => h) (Or.inl ⟨by rfl, ?_⟩) (by assumption) ?_
                        rotate_left 1
                        focus (intro wS hSw; (try dsimp only at hSw); go_simp; try with_reducible rfl)
                        try simp only [List.setIfInBounds_toArray, List.set_cons_zero, List.set_cons_succ]
                        refine take_slot (i := 9) (d := 262) (v := ?_) rfl rfl (by kernel_rfl) (by kernel_rfl) (by kernel_rfl) (fun _ _ _ h => h) (Or.inl ⟨by rfl, ?_⟩) (by assumption) ?_
                        rotate_left 1
                        focus (intro wS hSw; (try dsimp only at hSw); go_simp; try with_reducible rfl)
                        try simp only [List.setIfInBounds_toArray, List.set_cons_zero, List.set_cons_succ]
                        refine take_slot (i := 10) (d := 263) (v := ?_) rfl rfl (by kernel_rfl) (by kernel_rfl) (by kernel_rfl) (fun _ _ _ h => h) (Or.inl ⟨by rfl, ?_⟩) (by assumption) ?_
                        rotate_left 1
                        focus (intro wS hSw; (try dsimp only at hSw); go_simp; try with_reducible rfl)
                        try simp only [List.setIfInBounds_toArray, List.set_cons_zero, List.set_cons_succ]
                        refine wpAnyH_ready (rs := [12]) (by kernel_rfl) (by simp) ?_
                        refine AllReadyH.cons rfl (fun K hK => ?_) AllReadyH.nil
                        go_simp
                        have hn := SB.out _ ((hHeld.2.setCell (p := ⟨Z1.heap.size, 0, none⟩) zle (.int .i64 p.2)).setCell (p := ⟨Z1.heap.size, 1, none⟩) zle (.int .i64 p.2))
                        refine hK.out _ _ hn (fun hHeld => ?_)
                        clear hK K
                        obtain ⟨c0', c1'⟩ := set2R (.int .i64 p.2) (.int .i64 p.2) c0 c1
                        clear c0 c1 f0 f1
                        have c0 := c0'
                        have c1 := c1'
                        replace ngz : Z1.heap.size < ((Z6.setCell ⟨Z1.heap.size, 0, none⟩ (.int .i64 p.2)).setCell ⟨Z1.heap.size, 1, none⟩ (.int .i64 p.2)).heap.size := by simpa [World.setCell] using ngz
                        generalize ((Z6.setCell ⟨Z1.heap.size, 0, none⟩ (.int .i64 p.2)).setCell ⟨Z1.heap.size, 1, none⟩ (.int .i64 p.2)) = Z7 at *
                        try simp only [Act.put, List.setIfInBounds_toArray, List.set_cons_zero, List.set_cons_succ]
                        refine take_slot (i := 13) (d := 31) (v := ?_) rfl rfl (by kernel_rfl) (by kernel_rfl) (by kernel_rfl) (fun _ _ _ h => h) (Or.inl ⟨by rfl, ?_⟩) (by assumption) ?_
                        rotate_left 1
                        focus (intro wS hSw; (try dsimp only at hSw); go_simp; try with_reducible rfl)
                        try simp only [List.setIfInBounds_toArray, List.set_cons_zero, List.set_cons_succ]
                        refine wpAnyH_done (by kernel_rfl) ?_ _
                        generalize Z1.heap.size = gN at ngz c0 c1 ⊢
                        exact key gN vC _ ⟨hHeld.2, ngz, c0, c1⟩
                    · go_simp
                      have hb := (Below.refl wd.heap.size wd).alloc (Nat.le_refl _) (Obj.cells #[Value.int .i64 0, Value.int .i64 0] 32)
                      have zle : W19.heap.size ≤ wd.heap.size := hHeld.2.size
                      have c0 : (wd.alloc (Obj.cells #[Value.int .i64 0, Value.int .i64 0] 32)).cell? ⟨wd.heap.size, 0, none⟩ = some (.int .i64 0) := cell_new _ _ _ 0
                      have c1 : (wd.alloc (Obj.cells #[Value.int .i64 0, Value.int .i64 0] 32)).cell? ⟨wd.heap.size, 1, none⟩ = some (.int .i64 0) := cell_new _ _ _ 1
                      have f0 : (wd.alloc (Obj.cells #[Value.int .i64 0, Value.int .i64 0] 32)).frozen? ⟨wd.heap.size, 0, none⟩ = false := by simp [go_sem]
                      have f1 : (wd.alloc (Obj.cells #[Value.int .i64 0, Value.int .i64 0] 32)).frozen? ⟨wd.heap.size, 1, none⟩ = false := by simp [go_sem]
                      have ngz : wd.heap.size < (wd.alloc (Obj.cells #[Value.int .i64 0, Value.int .i64 0] 32)).heap.size := by simp
                      have hn := SB.out _ (hHeld.2.trans (hb.mono hHeld.2.size))
                      refine hK.out _ _ hn (fun hHeld => ?_)
                      clear hK K hb
                      generalize wd.alloc (Obj.cells #[Value.int .i64 0, Value.int .i64 0] 32) = Z8 at *
                      try simp only [Act.put, List.setIfInBounds_toArray, List.set_cons_zero, List.set_cons_succ]
                      refine wpAnyH_ready (rs := [1]) (by kernel_rfl) (by simp) ?_
                      refine AllReadyH.cons rfl (fun K hK => ?_) AllReadyH.nil
                      go_simp
                      refine (HRw.out _ _ (HT.out _ (hT.trans (hHeld.2.mono hT.size))).argR).mono ?_
                      rintro e Z9 ⟨vC, rfl, rC, hb⟩
                      have hn := SB.out _ (hHeld.2.trans (hb.mono hHeld.2.size))
                      replace c0 := cell_next hb ngz c0
                      replace c1 := cell_next hb ngz c1
                      replace f0 := frozen_next hb ngz f0
                      replace f1 := frozen_next hb ngz f1
                      replace ngz := Nat.lt_of_lt_of_le ngz hb.size
                      refine hK.out _ _ hn (fun hHeld => ?_)
                      clear hK K hb
                      try simp only [Act.put, List.setIfInBounds_toArray, List.set_cons_zero, List.set_cons_succ]
                      refine wpAnyH_ready (rs := [7]) (by kernel_rfl) (by simp) ?_
                      refine AllReadyH.cons rfl (fun K hK => ?_) AllReadyH.nil
                      go_simp
                      refine (HVp.out _ _ rC.set).mono ?_
                      rintro e Z10 ⟨rfl, hb⟩
                      have hn := SB.out _ (hHeld.2.trans (hb.mono hHeld.2.size))
                      replace c0 := cell_next hb ngz c0
                      replace c1 := cell_next hb ngz c1
                      replace f0 := frozen_next hb ngz f0
                      replace f1 := frozen_next hb ngz f1
                      replace ngz := Nat.lt_of_lt_of_le ngz hb.size
                      refine hK.out _ _ hn (fun hHeld => ?_)
                      clear hK K hb
                      try simp only [Act.put, List.setIfInBounds_toArray, List.set_cons_zero, List.set_cons_succ]
                      refine take_slot (i := 8) (d := 253) (v := ?_) rfl rfl (by kernel_rfl) (by kernel_rfl) (by kernel_rfl) (fun _ _ _ h => h) (Or.inl ⟨by rfl, ?_⟩) (by assumption) ?_
                      rotate_left 1
                      focus (intro wS hSw; (try dsimp only at hSw); go_simp; try with_reducible rfl)
                      try simp only [List.setIfInBounds_toArray, List.set_cons_zero, List.set_cons_succ]
                      refine take_slot (i := 9) (d := 262) (v := ?_) rfl rfl (by kernel_rfl) (by kernel_rfl) (by kernel_rfl) (fun _ _ _ h => h) (Or.inl ⟨by rfl, ?_⟩) (by assumption) ?_
                      rotate_left 1
                      focus (intro wS hSw; (try dsimp only at hSw); go_simp; try with_reducible rfl)
                      try simp only [List.setIfInBounds_toArray, List.set_cons_zero, List.set_cons_succ]
                      refine take_slot (i := 10) (d := 263) (v := ?_) rfl rfl (by kernel_rfl) (by kernel_rfl) (by kernel_rfl) (fun _ _ _ h => h) (Or.inl ⟨by rfl, ?_⟩) (by assumption) ?_
                      rotate_left 1
                      focus (intro wS hSw; (try dsimp only at hSw); go_simp; try with_reducible rfl)
                      try simp only [List.setIfInBounds_toArray, List.set_cons_zero, List.set_cons_succ]
                      refine wpAnyH_ready (rs := [12]) (by kernel_rfl) (by simp) ?_
                      refine AllReadyH.cons rfl (fun K hK => ?_) AllReadyH.nil
                      go_simp
                      have hn := SB.out _ ((hHeld.2.setCell (p := ⟨wd.heap.size, 0, none⟩) zle (.int .i64 p.2)).setCell (p := ⟨wd.heap.size, 1, none⟩) zle (.int .i64 p.2))
                      refine hK.out _ _ hn (fun hHeld => ?_)
                      clear hK K
                      obtain ⟨c0', c1'⟩ := set2R (.int .i64 p.2) (.int .i64 p.2) c0 c1
                      clear c0 c1 f0 f1
                      have c0 := c0'
                      have c1 := c1'
                      replace ngz : wd.heap.size < ((Z10.setCell ⟨wd.heap.size, 0, none⟩ (.int .i64 p.2)).setCell ⟨wd.heap.size, 1, none⟩ (.int .i64 p.2)).heap.size := by simpa [World.setCell] using ngz
                      generalize ((Z10.setCell ⟨wd.heap.size, 0, none⟩ (.int .i64 p.2)).setCell ⟨wd.heap.size, 1, none⟩ (.int .i64 p.2)) = Z11 at *
                      try simp only [Act.put, List.setIfInBounds_toArray, List.set_cons_zero, List.set_cons_succ]
                      refine take_slot (i := 13) (d := 31) (v := ?_) rfl rfl (by kernel_rfl) (by kernel_rfl) (by kernel_rfl) (fun _ _ _ h => h) (Or.inl ⟨by rfl, ?_⟩) (by assumption) ?_
                      rotate_left 1
                      focus (intro wS hSw; (try dsimp only at hSw); go_simp; try with_reducible rfl)
                      try simp only [List.setIfInBounds_toArray, List.set_cons_zero, List.set_cons_succ]
                      refine wpAnyH_done (by kernel_rfl) ?_ _
                      generalize wd.heap.size = gN at ngz c0 c1 ⊢
                      exact key gN vC _ ⟨hHeld.2, ngz, c0, c1⟩
                  case key =>
                    intro gz vC W20 hrel
                    obtain ⟨hb, ngz, z0, z1⟩ := hrel
                    clear SB HVp
                    replace hT := hT.trans (hb.mono hT.size)
                    replace hP := hP.trans (hb.mono hP.size)
                    replace hE := hE.trans (hb.mono hE.size)
                    replace hJ := hJ.trans (hb.mono hJ.size)
                    replace A0 := cell_next hb nA A0
                    replace A1 := cell_next hb nA A1
                    replace nA := Nat.lt_of_lt_of_le nA hb.size
                    replace B0 := cell_next hb nB B0
                    replace B1 := cell_next hb nB B1
                    replace nB := Nat.lt_of_lt_of_le nB hb.size
                    replace R0 := cell_next hb nR R0
                    replace R1 := cell_next hb nR R1
                    replace nR := Nat.lt_of_lt_of_le nR hb.size
                    replace V0 := cell_next hb nV V0
                    replace V1 := cell_next hb nV V1
                    replace nV := Nat.lt_of_lt_of_le nV hb.size
                    replace Y0 := cell_next hb nY Y0
                    replace Y1 := cell_next hb nY Y1
                    replace nY := Nat.lt_of_lt_of_le nY hb.size
                    replace S0 := cell_next hb nS S0
                    replace S1 := cell_next hb nS S1
                    replace nS := Nat.lt_of_lt_of_le nS hb.size
                    replace hB := hB.trans (hb.mono hB.size)
                    clear hb
                    as_aux_lemma =>
                      skip
                      cases b1
                      · obtain ⟨t0, t1⟩ := (HTr.out _ hT) j p Hp.out
                        have SB : Hid (∀ W' : World, Below W20.heap.size W20 W' → (fun w' => w'.cell? ⟨gz, 0, none⟩ = some (.int .i64 p.2) ∧ w'.cell? ⟨gz, 1, none⟩ = some (.int .i64 p.2) ∧ w'.cell? ⟨W7.heap.size, 0, none⟩ = some (.int .i64 s1) ∧ w'.cell? ⟨W7.heap.size, 1, none⟩ = some (.int .i64 s2) ∧ w'.cell? ⟨gT, offT + j * 2, none⟩ = some (.int .i64 p.1) ∧ w'.cell? ⟨gT, offT + j * 2 + 1, none⟩ = some (.int .i64 p.2) ∧ Below W20.heap.size W20 w') W') := Lib.hid (fun W' h => ⟨cell_next h ngz z0, cell_next h ngz z1, cell_next h nS S0, cell_next h nS S1, ((HTr.out _ (hT.trans (h.mono hT.size))) j p Hp.out).1, ((HTr.out _ (hT.trans (h.mono hT.size))) j p Hp.out).2, h⟩)
                        go_wp2_with fail
                        refine wp_region_held_drew (S := fun w' => w'.cell? ⟨gz, 0, none⟩ = some (.int .i64 p.2) ∧ w'.cell? ⟨gz, 1, none⟩ = some (.int .i64 p.2) ∧ w'.cell? ⟨W7.heap.size, 0, none⟩ = some (.int .i64 s1) ∧ w'.cell? ⟨W7.heap.size, 1, none⟩ = some (.int .i64 s2) ∧ w'.cell? ⟨gT, offT + j * 2, none⟩ = some (.int .i64 p.1) ∧ w'.cell? ⟨gT, offT + j * 2 + 1, none⟩ = some (.int .i64 p.2) ∧ Below W20.heap.size W20 w') (by kernel_rfl) ?_ (fun hHeld => ?_)
                        focus (exact SB.out _ (Below.drew (Below.refl _ _)))
                        refine take_slot (i := 0) (d := 264) (v := ?_) rfl rfl (by kernel_rfl) (by kernel_rfl) (by kernel_rfl) (fun _ _ _ h => h) (Or.inl ⟨by rfl, ?_⟩) (by assumption) ?_
                        rotate_left 1
                        focus (intro wS hSw; (try dsimp only at hSw); go_simp; try with_reducible rfl)
                        try simp only [List.setIfInBounds_toArray, List.set_cons_zero, List.set_cons_succ]
                        refine take_slot (i := 1) (d := 265) (v := ?_) rfl rfl (by kernel_rfl) (by kernel_rfl) (by kernel_rfl) (fun _ _ _ h => h) (Or.inl ⟨by rfl, ?_⟩) (by assumption) ?_
                        rotate_left 1
                        focus (intro wS hSw; (try dsimp only at hSw); go_simp; try with_reducible rfl)
                        try simp only [List.setIfInBounds_toArray, List.set_cons_zero, List.set_cons_succ]
                        refine take_slot (i := 2) (d := 266) (v := ?_) rfl rfl (by kernel_rfl) (by kernel_rfl) (by kernel_rfl) (fun _ _ _ h => h) (Or.inl ⟨by rfl, ?_⟩) (by assumption) ?_
                        rotate_left 1
                        focus (intro wS hSw; (try dsimp only at hSw); go_simp; try with_reducible rfl)
                        try simp only [List.setIfInBounds_toArray, List.set_cons_zero, List.set_cons_succ]
                        refine take_slot (i := 3) (d := 267) (v := ?_) rfl rfl (by kernel_rfl) (by kernel_rfl) (by kernel_rfl) (fun _ _ _ h => h) (Or.inl ⟨by rfl, ?_⟩) (by assumption) ?_
                        rotate_left 1
                        focus (intro wS hSw; (try dsimp only at hSw); go_simp; try with_reducible rfl)
                        try simp only [List.setIfInBounds_toArray, List.set_cons_zero, List.set_cons_succ]
                        refine take_slot (i := 4) (d := 268) (v := ?_) rfl rfl (by kernel_rfl) (by kernel_rfl) (by kernel_rfl) (fun _ _ _ h => h) (Or.inl ⟨by rfl, ?_⟩) (by assumption) ?_
                        rotate_left 1
                        focus (intro wS hSw; (try dsimp only at hSw); go_simp; try with_reducible rfl)
                        try simp only [List.setIfInBounds_toArray, List.set_cons_zero, List.set_cons_succ]
                        refine take_slot (i := 5) (d := 269) (v := ?_) rfl rfl (by kernel_rfl) (by kernel_rfl) (by kernel_rfl) (fun _ _ _ h => h) (Or.inl ⟨by rfl, ?_⟩) (by assumption) ?_
                        rotate_left 1
                        focus (intro wS hSw; (try dsimp only at hSw); go_simp; try with_reducible rfl)
                        try simp only [List.setIfInBounds_toArray, List.set_cons_zero, List.set_cons_succ]
                        refine take_slot (i := 6) (d := 270) (v := ?_) rfl rfl (by kernel_rfl) (by kernel_rfl) (by kernel_rfl) (fun _ _ _ h => h) (Or.inl ⟨by rfl, ?_⟩) (by assumption) ?_
                        rotate_left 1
                        focus (intro wS hSw; (try dsimp only at hSw); go_simp; try with_reducible rfl)
                        try simp only [List.setIfInBounds_toArray, List.set_cons_zero, List.set_cons_succ]
                        refine take_slot (i := 7) (d := 271) (v := ?_) rfl rfl (by kernel_rfl) (by kernel_rfl) (by kernel_rfl) (fun _ _ _ h => h) (Or.inl ⟨by rfl, ?_⟩) (by assumption) ?_
                        rotate_left 1
                        focus (intro wS hSw; (try dsimp only at hSw); go_simp; try with_reducible rfl)
                        try simp only [List.setIfInBounds_toArray, List.set_cons_zero, List.set_cons_succ]
                        refine take_slot (i := 8) (d := 272) (v := ?_) rfl rfl (by kernel_rfl) (by kernel_rfl) (by kernel_rfl) (fun _ _ _ h => h) (Or.inl ⟨by rfl, ?_⟩) (by assumption) ?_
                        rotate_left 1
                        focus (intro wS hSw; (try dsimp only at hSw); go_simp; try with_reducible rfl)
                        try simp only [List.setIfInBounds_toArray, List.set_cons_zero, List.set_cons_succ]
                        refine take_slot (i := 9) (d := 273) (v := ?_) rfl rfl (by kernel_rfl) (by kernel_rfl) (by kernel_rfl) (fun _ _ _ h => h) (Or.inl ⟨by rfl, ?_⟩) (by assumption) ?_
                        rotate_left 1
                        focus (intro wS hSw; (try dsimp only at hSw); go_simp; try with_reducible rfl)
                        try simp only [List.setIfInBounds_toArray, List.set_cons_zero, List.set_cons_succ]
                        refine take_slot (i := 10) (d := 274) (v := ?_) rfl rfl (by kernel_rfl) (by kernel_rfl) (by kernel_rfl) (fun _ _ _ h => h) (Or.inl ⟨by rfl, ?_⟩) (by assumption) ?_
                        rotate_left 1
                        focus (intro wS hSw; (try dsimp only at hSw); go_simp; try with_reducible rfl)
                        try simp only [List.setIfInBounds_toArray, List.set_cons_zero, List.set_cons_succ]
                        refine take_slot (i := 11) (d := 275) (v := ?_) rfl rfl (by kernel_rfl) (by kernel_rfl) (by kernel_rfl) (fun _ _ _ h => h) (Or.inl ⟨by rfl, ?_⟩) (by assumption) ?_
                        rotate_left 1
                        focus (intro wS hSw; (try dsimp only at hSw); go_simp; try with_reducible rfl)
                        try simp only [List.setIfInBounds_toArray, List.set_cons_zero, List.set_cons_succ]
                        refine take_slot (i := 12) (d := 276) (v := ?_) rfl rfl (by kernel_rfl) (by kernel_rfl) (by kernel_rfl) (fun _ _ _ h => h) (Or.inl ⟨by rfl, ?_⟩) (by assumption) ?_
                        rotate_left 1
                        focus (intro wS hSw; (try dsimp only at hSw); go_simp; try with_reducible rfl)
                        try simp only [List.setIfInBounds_toArray, List.set_cons_zero, List.set_cons_succ]
                        refine take_slot (i := 13) (d := 277) (v := ?_) rfl rfl (by kernel_rfl) (by kernel_rfl) (by kernel_rfl) (fun _ _ _ h => h) (Or.inl ⟨by rfl, ?_⟩) (by assumption) ?_
                        rotate_left 1
                        focus (intro wS hSw; (try dsimp only at hSw); go_simp; try with_reducible rfl)
                        try simp only [List.setIfInBounds_toArray, List.set_cons_zero, List.set_cons_succ]
                        refine take_slot (i := 14) (d := 278) (v := ?_) rfl rfl (by kernel_rfl) (by kernel_rfl) (by kernel_rfl) (fun _ _ _ h => h) (Or.inl ⟨by rfl, ?_⟩) (by assumption) ?_
                        rotate_left 1
                        focus (intro wS hSw; (try dsimp only at hSw); go_simp; try with_reducible rfl)
                        try simp only [List.setIfInBounds_toArray, List.set_cons_zero, List.set_cons_succ]
                        refine take_slot (i := 15) (d := 279) (v := ?_) rfl rfl (by kernel_rfl) (by kernel_rfl) (by kernel_rfl) (fun _ _ _ h => h) (Or.inl ⟨by rfl, ?_⟩) (by assumption) ?_
                        rotate_left 1
                        focus (intro wS hSw; (try dsimp only at hSw); go_simp; try with_reducible rfl)
                        try simp only [List.setIfInBounds_toArray, List.set_cons_zero, List.set_cons_succ]
                        refine take_slot (i := 16) (d := 280) (v := ?_) rfl rfl (by kernel_rfl) (by kernel_rfl) (by kernel_rfl) (fun _ _ _ h => h) (Or.inl ⟨by rfl, ?_⟩) (by assumption) ?_
                        rotate_left 1
                        focus (intro wS hSw; (try dsimp only at hSw); go_simp; try with_reducible rfl)
                        try simp only [List.setIfInBounds_toArray, List.set_cons_zero, List.set_cons_succ]
                        refine take_slot (i := 17) (d := 281) (v := ?_) rfl rfl (by kernel_rfl) (by kernel_rfl) (by kernel_rfl) (fun _ _ _ h => h) (Or.inl ⟨by rfl, ?_⟩) (by assumption) ?_
                        rotate_left 1
                        focus (intro wS hSw; (try dsimp only at hSw); go_simp; try with_reducible rfl)
                        try simp only [List.setIfInBounds_toArray, List.set_cons_zero, List.set_cons_succ]
                        refine take_slot (i := 18) (d := 282) (v := ?_) rfl rfl (by kernel_rfl) (by kernel_rfl) (by kernel_rfl) (fun _ _ _ h => h) (Or.inl ⟨by rfl, ?_⟩) (by assumption) ?_
                        rotate_left 1
                        focus (intro wS hSw; (try dsimp only at hSw); go_simp; try with_reducible rfl)
                        try simp only [List.setIfInBounds_toArray, List.set_cons_zero, List.set_cons_succ]
                        refine take_slot (i := 19) (d := 283) (v := ?_) rfl rfl (by kernel_rfl) (by kernel_rfl) (by kernel_rfl) (fun _ _ _ h => h) (Or.inl ⟨by rfl, ?_⟩) (by assumption) ?_
                        rotate_left 1
                        focus (intro wS hSw; (try dsimp only at hSw); go_simp; try with_reducible rfl)
                        try simp only [List.setIfInBounds_toArray, List.set_cons_zero, List.set_cons_succ]
                        refine take_slot (i := 20) (d := 284) (v := ?_) rfl rfl (by kernel_rfl) (by kernel_rfl) (by kernel_rfl) (fun _ _ _ h => h) (Or.inl ⟨by rfl, ?_⟩) (by assumption) ?_
                        rotate_left 1
                        focus (intro wS hSw; (try dsimp only at hSw); go_simp; try with_reducible rfl)
                        try simp only [List.setIfInBounds_toArray, List.set_cons_zero, List.set_cons_succ]
                        refine take_slot (i := 21) (d := 285) (v := ?_) rfl rfl (by kernel_rfl) (by kernel_rfl) (by kernel_rfl) (fun _ _ _ h => h) (Or.inl ⟨by rfl, ?_⟩) (by assumption) ?_
                        rotate_left 1
                        focus (intro wS hSw; (try dsimp only at hSw); go_simp; try with_reducible rfl)
                        try simp only [List.setIfInBounds_toArray, List.set_cons_zero, List.set_cons_succ]
                        refine take_slot (i := 22) (d := 286) (v := ?_) rfl rfl (by kernel_rfl) (by kernel_rfl) (by kernel_rfl) (fun _ _ _ h => h) (Or.inl ⟨by rfl, ?_⟩) (by assumption) ?_
                        rotate_left 1
                        focus (intro wS hSw; (try dsimp only at hSw); go_simp; try with_reducible rfl)
                        try simp only [List.setIfInBounds_toArray, List.set_cons_zero, List.set_cons_succ]
                        refine take_slot (i := 23) (d := 287) (v := ?_) rfl rfl (by kernel_rfl) (by kernel_rfl) (by kernel_rfl) (fun _ _ _ h => h) (Or.inl ⟨by rfl, ?_⟩) (by assumption) ?_
                        rotate_left 1
                        focus (intro wS hSw; (try dsimp only at hSw); go_simp; try with_reducible rfl)
                        try simp only [List.setIfInBounds_toArray, List.set_cons_zero, List.set_cons_succ]
                        refine take_slot (i := 24) (d := 288) (v := ?_) rfl rfl (by kernel_rfl) (by kernel_rfl) (by kernel_rfl) (fun _ _ _ h => h) (Or.inl ⟨by rfl, ?_⟩) (by assumption) ?_
                        rotate_left 1
                        focus (intro wS hSw; (try dsimp only at hSw); go_simp; try with_reducible rfl)
                        try simp only [List.setIfInBounds_toArray, List.set_cons_zero, List.set_cons_succ]
                        refine take_slot (i := 25) (d := 289) (v := ?_) rfl rfl (by kernel_rfl) (by kernel_rfl) (by kernel_rfl) (fun _ _ _ h => h) (Or.inl ⟨by rfl, ?_⟩) (by assumption) ?_
                        rotate_left 1
                        focus (intro wS hSw; (try dsimp only at hSw); go_simp; try with_reducible rfl)
                        try simp only [List.setIfInBounds_toArray, List.set_cons_zero, List.set_cons_succ]
                        refine wpAnyH_ready (rs := [26]) (by kernel_rfl) (by simp) ?_
                        refine AllReadyH.cons rfl (fun K hK => ?_) AllReadyH.nil
                        skip
                        go_simp
                        refine (HA1.out _).mono ?_; rintro e W21 ⟨rfl, hb⟩
                        refine hK.out _ _ ?_ (fun hHeld => ?_)
                        focus (exact SB.out _ (hHeld.2.2.2.2.2.2.trans (hb.mono hHeld.2.2.2.2.2.2.size)))
                        clear hK K
                        try simp only [Act.put, List.setIfInBounds_toArray, List.set_cons_zero, List.set_cons_succ]
                        refine take_slot (i := 27) (d := 291) (v := ?_) rfl rfl (by kernel_rfl) (by kernel_rfl) (by kernel_rfl) (fun _ _ _ h => h) (Or.inl ⟨by rfl, ?_⟩) (by assumption) ?_
                        rotate_left 1
                        focus (intro wS hSw; (try dsimp only at hSw); go_simp; try with_reducible rfl)
                        try simp only [List.setIfInBounds_toArray, List.set_cons_zero, List.set_cons_succ]
                        refine take_slot (i := 28) (d := 292) (v := undef) rfl rfl (by kernel_rfl) (by kernel_rfl) (by kernel_rfl) (fun _ _ _ h => h) (Or.inr ⟨by rfl, rfl⟩) (by assumption) ?_
                        try simp only [List.setIfInBounds_toArray, List.set_cons_zero, List.set_cons_succ]
                        refine take_slot (i := 29) (d := 293) (v := undef) rfl rfl (by kernel_rfl) (by kernel_rfl) (by kernel_rfl) (fun _ _ _ h => h) (Or.inr ⟨by rfl, rfl⟩) (by assumption) ?_
                        try simp only [List.setIfInBounds_toArray, List.set_cons_zero, List.set_cons_succ]
                        refine take_slot (i := 30) (d := 294) (v := undef) rfl rfl (by kernel_rfl) (by kernel_rfl) (by kernel_rfl) (fun _ _ _ h => h) (Or.inr ⟨by rfl, rfl⟩) (by assumption) ?_
                        try simp only [List.setIfInBounds_toArray, List.set_cons_zero, List.set_cons_succ]
                        refine take_slot (i := 31) (d := 295) (v := undef) rfl rfl (by kernel_rfl) (by kernel_rfl) (by kernel_rfl) (fun _ _ _ h => h) (Or.inr ⟨by rfl, rfl⟩) (by assumption) ?_
                        try simp only [List.setIfInBounds_toArray, List.set_cons_zero, List.set_cons_succ]
                        refine take_slot (i := 32) (d := 296) (v := undef) rfl rfl (by kernel_rfl) (by kernel_rfl) (by kernel_rfl) (fun _ _ _ h => h) (Or.inr ⟨by rfl, rfl⟩) (by assumption) ?_
                        try simp only [List.setIfInBounds_toArray, List.set_cons_zero, List.set_cons_succ]
                        refine take_slot (i := 33) (d := 297) (v := undef) rfl rfl (by kernel_rfl) (by kernel_rfl) (by kernel_rfl) (fun _ _ _ h => h) (Or.inr ⟨by rfl, rfl⟩) (by assumption) ?_
                        try simp only [List.setIfInBounds_toArray, List.set_cons_zero, List.set_cons_succ]
                        refine take_slot (i := 34) (d := 298) (v := undef) rfl rfl (by kernel_rfl) (by kernel_rfl) (by kernel_rfl) (fun _ _ _ h => h) (Or.inr ⟨by rfl, rfl⟩) (by assumption) ?_
                        try simp only [List.setIfInBounds_toArray, List.set_cons_zero, List.set_cons_succ]
                        refine take_slot (i := 35) (d := 299) (v := undef) rfl rfl (by kernel_rfl) (by kernel_rfl) (by kernel_rfl) (fun _ _ _ h => h) (Or.inr ⟨by rfl, rfl⟩) (by assumption) ?_
                        try simp only [List.setIfInBounds_toArray, List.set_cons_zero, List.set_cons_succ]
                        refine take_slot (i := 36) (d := 300) (v := ?_) rfl rfl (by kernel_rfl) (by kernel_rfl) (by kernel_rfl) (fun _ _ _ h => h) (Or.inl ⟨by rfl, ?_⟩) (by assumption) ?_
                        rotate_left 1
                        focus (intro wS hSw; (try dsimp only at hSw); go_simp; try with_reducible rfl)
                        try simp only [List.setIfInBounds_toArray, List.set_cons_zero, List.set_cons_succ]
                        refine take_slot (i := 37) (d := 301) (v := ?_) rfl rfl (by kernel_rfl) (by kernel_rfl) (by kernel_rfl) (fun _ _ _ h => h) (Or.inl ⟨by rfl, ?_⟩) (by assumption) ?_
                        rotate_left 1
                        focus (intro wS hSw; (try dsimp only at hSw); go_simp; try with_reducible rfl)
                        try simp only [List.setIfInBounds_toArray, List.set_cons_zero, List.set_cons_succ]
                        refine wpAnyH_done (by kernel_rfl) ?_ _
                        replace hb := hHeld.2.2.2.2.2.2
                        clear hHeld SB t0 t1
                        replace hT := hT.trans (hb.mono hT.size)
                        replace hP := hP.trans (hb.mono hP.size)
                        replace hE := hE.trans (hb.mono hE.size)
                        replace hJ := hJ.trans (hb.mono hJ.size)
                        replace A0 := cell_next hb nA A0
                        replace A1 := cell_next hb nA A1
                        replace nA := Nat.lt_of_lt_of_le nA hb.size
                        replace B0 := cell_next hb nB B0
                        replace B1 := cell_next hb nB B1
                        replace nB := Nat.lt_of_lt_of_le nB hb.size
                        replace R0 := cell_next hb nR R0
                        replace R1 := cell_next hb nR R1
                        replace nR := Nat.lt_of_lt_of_le nR hb.size
                        replace V0 := cell_next hb nV V0
                        replace V1 := cell_next hb nV V1
                        replace nV := Nat.lt_of_lt_of_le nV hb.size
                        replace Y0 := cell_next hb nY Y0
                        replace Y1 := cell_next hb nY Y1
                        replace nY := Nat.lt_of_lt_of_le nY hb.size
                        replace S0 := cell_next hb nS S0
                        replace S1 := cell_next hb nS S1
                        replace nS := Nat.lt_of_lt_of_le nS hb.size
                        replace hB := hB.trans (hb.mono hB.size)
                        clear hb
                        go_wp2_with fail
                        go_roundw
                        case rel => exact ⟨j + 1, by omega, by go_num, hbk18.trans (hJ.mono hbk18.size)⟩
                        case measure => simp [RowKit.intOf]; omega
                      · obtain rfl := Hb5.out rfl
                        obtain ⟨t0, t1⟩ := (HTr.out _ hT) j p Hp.out
                        have SB : Hid (∀ W' : World, Below W20.heap.size W20 W' → (fun w' => w'.cell? ⟨gz, 0, none⟩ = some (.int .i64 p.2) ∧ w'.cell? ⟨gz, 1, none⟩ = some (.int .i64 p.2) ∧ w'.cell? ⟨W7.heap.size, 0, none⟩ = some (.int .i64 s1) ∧ w'.cell? ⟨W7.heap.size, 1, none⟩ = some (.int .i64 s2) ∧ w'.cell? ⟨gT, offT + j * 2, none⟩ = some (.int .i64 p.1) ∧ w'.cell? ⟨gT, offT + j * 2 + 1, none⟩ = some (.int .i64 p.2) ∧ Below W20.heap.size W20 w') W') := Lib.hid (fun W' h => ⟨cell_next h ngz z0, cell_next h ngz z1, cell_next h nS S0, cell_next h nS S1, ((HTr.out _ (hT.trans (h.mono hT.size))) j p Hp.out).1, ((HTr.out _ (hT.trans (h.mono hT.size))) j p Hp.out).2, h⟩)
                        go_wp2_with fail
                        refine wp_region_held_drew (S := fun w' => w'.cell? ⟨gz, 0, none⟩ = some (.int .i64 p.2) ∧ w'.cell? ⟨gz, 1, none⟩ = some (.int .i64 p.2) ∧ w'.cell? ⟨W7.heap.size, 0, none⟩ = some (.int .i64 s1) ∧ w'.cell? ⟨W7.heap.size, 1, none⟩ = some (.int .i64 s2) ∧ w'.cell? ⟨gT, offT + j * 2, none⟩ = some (.int .i64 p.1) ∧ w'.cell? ⟨gT, offT + j * 2 + 1, none⟩ = some (.int .i64 p.2) ∧ Below W20.heap.size W20 w') (by kernel_rfl) ?_ (fun hHeld => ?_)
                        focus (exact SB.out _ (Below.drew (Below.refl _ _)))
                        refine take_slot (i := 0) (d := 264) (v := ?_) rfl rfl (by kernel_rfl) (by kernel_rfl) (by kernel_rfl) (fun _ _ _ h => h) (Or.inl ⟨by rfl, ?_⟩) (by assumption) ?_
                        rotate_left 1
                        focus (intro wS hSw; (try dsimp only at hSw); go_simp; try with_reducible rfl)
                        try simp only [List.setIfInBounds_toArray, List.set_cons_zero, List.set_cons_succ]
                        refine take_slot (i := 1) (d := 265) (v := ?_) rfl rfl (by kernel_rfl) (by kernel_rfl) (by kernel_rfl) (fun _ _ _ h => h) (Or.inl ⟨by rfl, ?_⟩) (by assumption) ?_
                        rotate_left 1
                        focus (intro wS hSw; (try dsimp only at hSw); go_simp; try with_reducible rfl)
                        try simp only [List.setIfInBounds_toArray, List.set_cons_zero, List.set_cons_succ]
                        refine take_slot (i := 2) (d := 266) (v := ?_) rfl rfl (by kernel_rfl) (by kernel_rfl) (by kernel_rfl) (fun _ _ _ h => h) (Or.inl ⟨by rfl, ?_⟩) (by assumption) ?_
                        rotate_left 1
                        focus (intro wS hSw; (try dsimp only at hSw); go_simp; try with_reducible rfl)
                        try simp only [List.setIfInBounds_toArray, List.set_cons_zero, List.set_cons_succ]
                        refine take_slot (i := 3) (d := 267) (v := ?_) rfl rfl (by kernel_rfl) (by kernel_rfl) (by kernel_rfl) (fun _ _ _ h => h) (Or.inl ⟨by rfl, ?_⟩) (by assumption) ?_
                        rotate_left 1
                        focus (intro wS hSw; (try dsimp only at hSw); go_simp; try with_reducible rfl)
                        try simp only [List.setIfInBounds_toArray, List.set_cons_zero, List.set_cons_succ]
                        refine take_slot (i := 4) (d := 268) (v := ?_) rfl rfl (by kernel_rfl) (by kernel_rfl) (by kernel_rfl) (fun _ _ _ h => h) (Or.inl ⟨by rfl, ?_⟩) (by assumption) ?_
                        rotate_left 1
                        focus (intro wS hSw; (try dsimp only at hSw); go_simp; try with_reducible rfl)
                        try simp only [List.setIfInBounds_toArray, List.set_cons_zero, List.set_cons_succ]
                        refine take_slot (i := 5) (d := 269) (v := ?_) rfl rfl (by kernel_rfl) (by kernel_rfl) (by kernel_rfl) (fun _ _ _ h => h) (Or.inl ⟨by rfl, ?_⟩) (by assumption) ?_
                        rotate_left 1
                        focus (intro wS hSw; (try dsimp only at hSw); go_simp; try with_reducible rfl)
                        try simp only [List.setIfInBounds_toArray, List.set_cons_zero, List.set_cons_succ]
                        refine take_slot (i := 6) (d := 270) (v := ?_) rfl rfl (by kernel_rfl) (by kernel_rfl) (by kernel_rfl) (fun _ _ _ h => h) (Or.inl ⟨by rfl, ?_⟩) (by assumption) ?_
                        rotate_left 1
                        focus (intro wS hSw; (try dsimp only at hSw); go_simp; try with_reducible rfl)
                        try simp only [List.setIfInBounds_toArray, List.set_cons_zero, List.set_cons_succ]
                        refine take_slot (i := 7) (d := 271) (v := ?_) rfl rfl (by kernel_rfl) (by kernel_rfl) (by kernel_rfl) (fun _ _ _ h => h) (Or.inl ⟨by rfl, ?_⟩) (by assumption) ?_
                        rotate_left 1
                        focus (intro wS hSw; (try dsimp only at hSw); go_simp; try with_reducible rfl)
                        try simp only [List.setIfInBounds_toArray, List.set_cons_zero, List.set_cons_succ]
                        refine take_slot (i := 8) (d := 272) (v := ?_) rfl rfl (by kernel_rfl) (by kernel_rfl) (by kernel_rfl) (fun _ _ _ h => h) (Or.inl ⟨by rfl, ?_⟩) (by assumption) ?_
                        rotate_left 1
                        focus (intro wS hSw; (try dsimp only at hSw); go_simp; try with_reducible rfl)
                        try simp only [List.setIfInBounds_toArray, List.set_cons_zero, List.set_cons_succ]
                        refine take_slot (i := 9) (d := 273) (v := ?_) rfl rfl (by kernel_rfl) (by kernel_rfl) (by kernel_rfl) (fun _ _ _ h => h) (Or.inl ⟨by rfl, ?_⟩) (by assumption) ?_
                        rotate_left 1
                        focus (intro wS hSw; (try dsimp only at hSw); go_simp; try with_reducible rfl)
                        try simp only [List.setIfInBounds_toArray, List.set_cons_zero, List.set_cons_succ]
                        refine take_slot (i := 10) (d := 274) (v := ?_) rfl rfl (by kernel_rfl) (by kernel_rfl) (by kernel_rfl) (fun _ _ _ h => h) (Or.inl ⟨by rfl, ?_⟩) (by assumption) ?_
                        rotate_left 1
                        focus (intro wS hSw; (try dsimp only at hSw); go_simp; try with_reducible rfl)
                        try simp only [List.setIfInBounds_toArray, List.set_cons_zero, List.set_cons_succ]
                        refine take_slot (i := 11) (d := 275) (v := ?_) rfl rfl (by kernel_rfl) (by kernel_rfl) (by kernel_rfl) (fun _ _ _ h => h) (Or.inl ⟨by rfl, ?_⟩) (by assumption) ?_
                        rotate_left 1
                        focus (intro wS hSw; (try dsimp only at hSw); go_simp; try with_reducible rfl)
                        try simp only [List.setIfInBounds_toArray, List.set_cons_zero, List.set_cons_succ]
                        refine take_slot (i := 12) (d := 276) (v := ?_) rfl rfl (by kernel_rfl) (by kernel_rfl) (by kernel_rfl) (fun _ _ _ h => h) (Or.inl ⟨by rfl, ?_⟩) (by assumption) ?_
                        rotate_left 1
                        focus (intro wS hSw; (try dsimp only at hSw); go_simp; try with_reducible rfl)
                        try simp only [List.setIfInBounds_toArray, List.set_cons_zero, List.set_cons_succ]
                        refine take_slot (i := 13) (d := 277) (v := ?_) rfl rfl (by kernel_rfl) (by kernel_rfl) (by kernel_rfl) (fun _ _ _ h => h) (Or.inl ⟨by rfl, ?_⟩) (by assumption) ?_
                        rotate_left 1
                        focus (intro wS hSw; (try dsimp only at hSw); go_simp; try with_reducible rfl)
                        try simp only [List.setIfInBounds_toArray, List.set_cons_zero, List.set_cons_succ]
                        refine take_slot (i := 14) (d := 278) (v := ?_) rfl rfl (by kernel_rfl) (by kernel_rfl) (by kernel_rfl) (fun _ _ _ h => h) (Or.inl ⟨by rfl, ?_⟩) (by assumption) ?_
                        rotate_left 1
                        focus (intro wS hSw; (try dsimp only at hSw); go_simp; try with_reducible rfl)
                        try simp only [List.setIfInBounds_toArray, List.set_cons_zero, List.set_cons_succ]
                        refine take_slot (i := 15) (d := 279) (v := ?_) rfl rfl (by kernel_rfl) (by kernel_rfl) (by kernel_rfl) (fun _ _ _ h => h) (Or.inl ⟨by rfl, ?_⟩) (by assumption) ?_
                        rotate_left 1
                        focus (intro wS hSw; (try dsimp only at hSw); go_simp; try with_reducible rfl)
                        try simp only [List.setIfInBounds_toArray, List.set_cons_zero, List.set_cons_succ]
                        refine take_slot (i := 16) (d := 280) (v := ?_) rfl rfl (by kernel_rfl) (by kernel_rfl) (by kernel_rfl) (fun _ _ _ h => h) (Or.inl ⟨by rfl, ?_⟩) (by assumption) ?_
                        rotate_left 1
                        focus (intro wS hSw; (try dsimp only at hSw); go_simp; try with_reducible rfl)
                        try simp only [List.setIfInBounds_toArray, List.set_cons_zero, List.set_cons_succ]
                        refine take_slot (i := 17) (d := 281) (v := ?_) rfl rfl (by kernel_rfl) (by kernel_rfl) (by kernel_rfl) (fun _ _ _ h => h) (Or.inl ⟨by rfl, ?_⟩) (by assumption) ?_
                        rotate_left 1
                        focus (intro wS hSw; (try dsimp only at hSw); go_simp; try with_reducible rfl)
                        try simp only [List.setIfInBounds_toArray, List.set_cons_zero, List.set_cons_succ]
                        refine take_slot (i := 18) (d := 282) (v := ?_) rfl rfl (by kernel_rfl) (by kernel_rfl) (by kernel_rfl) (fun _ _ _ h => h) (Or.inl ⟨by rfl, ?_⟩) (by assumption) ?_
                        rotate_left 1
                        focus (intro wS hSw; (try dsimp only at hSw); go_simp; try with_reducible rfl)
                        try simp only [List.setIfInBounds_toArray, List.set_cons_zero, List.set_cons_succ]
                        refine take_slot (i := 19) (d := 283) (v := ?_) rfl rfl (by kernel_rfl) (by kernel_rfl) (by kernel_rfl) (fun _ _ _ h => h) (Or.inl ⟨by rfl, ?_⟩) (by assumption) ?_
                        rotate_left 1
                        focus (intro wS hSw; (try dsimp only at hSw); go_simp; try with_reducible rfl)
                        try simp only [List.setIfInBounds_toArray, List.set_cons_zero, List.set_cons_succ]
                        refine take_slot (i := 20) (d := 284) (v := ?_) rfl rfl (by kernel_rfl) (by kernel_rfl) (by kernel_rfl) (fun _ _ _ h => h) (Or.inl ⟨by rfl, ?_⟩) (by assumption) ?_
                        rotate_left 1
                        focus (intro wS hSw; (try dsimp only at hSw); go_simp; try with_reducible rfl)
                        try simp only [List.setIfInBounds_toArray, List.set_cons_zero, List.set_cons_succ]
                        refine take_slot (i := 21) (d := 285) (v := ?_) rfl rfl (by kernel_rfl) (by kernel_rfl) (by kernel_rfl) (fun _ _ _ h => h) (Or.inl ⟨by rfl, ?_⟩) (by assumption) ?_
                        rotate_left 1
                        focus (intro wS hSw; (try dsimp only at hSw); go_simp; try with_reducible rfl)
                        try simp only [List.setIfInBounds_toArray, List.set_cons_zero, List.set_cons_succ]
                        refine take_slot (i := 22) (d := 286) (v := ?_) rfl rfl (by kernel_rfl) (by kernel_rfl) (by kernel_rfl) (fun _ _ _ h => h) (Or.inl ⟨by rfl, ?_⟩) (by assumption) ?_
                        rotate_left 1
                        focus (intro wS hSw; (try dsimp only at hSw); go_simp; try with_reducible rfl)
                        try simp only [List.setIfInBounds_toArray, List.set_cons_zero, List.set_cons_succ]
                        refine take_slot (i := 23) (d := 287) (v := ?_) rfl rfl (by kernel_rfl) (by kernel_rfl) (by kernel_rfl) (fun _ _ _ h => h) (Or.inl ⟨by rfl, ?_⟩) (by assumption) ?_
                        rotate_left 1
                        focus (intro wS hSw; (try dsimp only at hSw); go_simp; try with_reducible rfl)
                        try simp only [List.setIfInBounds_toArray, List.set_cons_zero, List.set_cons_succ]
                        refine take_slot (i := 24) (d := 288) (v := ?_) rfl rfl (by kernel_rfl) (by kernel_rfl) (by kernel_rfl) (fun _ _ _ h => h) (Or.inl ⟨by rfl, ?_⟩) (by assumption) ?_
                        rotate_left 1
                        focus (intro wS hSw; (try dsimp only at hSw); go_simp; try with_reducible rfl)
                        try simp only [List.setIfInBounds_toArray, List.set_cons_zero, List.set_cons_succ]
                        refine take_slot (i := 25) (d := 289) (v := ?_) rfl rfl (by kernel_rfl) (by kernel_rfl) (by kernel_rfl) (fun _ _ _ h => h) (Or.inl ⟨by rfl, ?_⟩) (by assumption) ?_
                        rotate_left 1
                        focus (intro wS hSw; (try dsimp only at hSw); go_simp; try with_reducible rfl)
                        try simp only [List.setIfInBounds_toArray, List.set_cons_zero, List.set_cons_succ]
                        refine wpAnyH_ready (rs := [26]) (by kernel_rfl) (by simp) ?_
                        refine AllReadyH.cons rfl (fun K hK => ?_) AllReadyH.nil
                        skip
                        go_simp
                        refine (HA1.out _).mono ?_; rintro e W21 ⟨rfl, hb⟩
                        refine hK.out _ _ ?_ (fun hHeld => ?_)
                        focus (exact SB.out _ (hHeld.2.2.2.2.2.2.trans (hb.mono hHeld.2.2.2.2.2.2.size)))
                        clear hK K
                        try simp only [Act.put, List.setIfInBounds_toArray, List.set_cons_zero, List.set_cons_succ]
                        refine take_slot (i := 27) (d := 291) (v := ?_) rfl rfl (by kernel_rfl) (by kernel_rfl) (by kernel_rfl) (fun _ _ _ h => h) (Or.inl ⟨by rfl, ?_⟩) (by assumption) ?_
                        rotate_left 1
                        focus (intro wS hSw; (try dsimp only at hSw); go_simp; try with_reducible rfl)
                        try simp only [List.setIfInBounds_toArray, List.set_cons_zero, List.set_cons_succ]
                        refine take_slot (i := 28) (d := 292) (v := ?_) rfl rfl (by kernel_rfl) (by kernel_rfl) (by kernel_rfl) (fun _ _ _ h => h) (Or.inl ⟨by rfl, ?_⟩) (by assumption) ?_
                        rotate_left 1
                        focus (intro wS hSw; (try dsimp only at hSw); go_simp; try with_reducible rfl)
                        try simp only [List.setIfInBounds_toArray, List.set_cons_zero, List.set_cons_succ]
                        refine take_slot (i := 29) (d := 293) (v := ?_) rfl rfl (by kernel_rfl) (by kernel_rfl) (by kernel_rfl) (fun _ _ _ h => h) (Or.inl ⟨by rfl, ?_⟩) (by assumption) ?_
                        rotate_left 1
                        focus (intro wS hSw; (try dsimp only at hSw); go_simp; try with_reducible rfl)
                        try simp only [List.setIfInBounds_toArray, List.set_cons_zero, List.set_cons_succ]
                        refine take_slot (i := 30) (d := 294) (v := ?_) rfl rfl (by kernel_rfl) (by kernel_rfl) (by kernel_rfl) (fun _ _ _ h => h) (Or.inl ⟨by rfl, ?_⟩) (by assumption) ?_
                        rotate_left 1
                        focus (intro wS hSw; (try dsimp only at hSw); go_simp; try with_reducible rfl)
                        try simp only [List.setIfInBounds_toArray, List.set_cons_zero, List.set_cons_succ]
                        refine take_slot (i := 31) (d := 295) (v := ?_) rfl rfl (by kernel_rfl) (by kernel_rfl) (by kernel_rfl) (fun _ _ _ h => h) (Or.inl ⟨by rfl, ?_⟩) (by assumption) ?_
                        rotate_left 1
                        focus (intro wS hSw; (try dsimp only at hSw); go_simp; try with_reducible rfl)
                        try simp only [List.setIfInBounds_toArray, List.set_cons_zero, List.set_cons_succ]
                        refine take_slot (i := 32) (d := 296) (v := ?_) rfl rfl (by kernel_rfl) (by kernel_rfl) (by kernel_rfl) (fun _ _ _ h => h) (Or.inl ⟨by rfl, ?_⟩) (by assumption) ?_
                        rotate_left 1
                        focus (intro wS hSw; (try dsimp only at hSw); go_simp; try with_reducible rfl)
                        try simp only [List.setIfInBounds_toArray, List.set_cons_zero, List.set_cons_succ]
                        refine take_slot (i := 33) (d := 297) (v := ?_) rfl rfl (by kernel_rfl) (by kernel_rfl) (by kernel_rfl) (fun _ _ _ h => h) (Or.inl ⟨by rfl, ?_⟩) (by assumption) ?_
                        rotate_left 1
                        focus (intro wS hSw; (try dsimp only at hSw); go_simp; try with_reducible rfl)
                        try simp only [List.setIfInBounds_toArray, List.set_cons_zero, List.set_cons_succ]
                        refine wpAnyH_ready (rs := [34]) (by kernel_rfl) (by simp) ?_
                        refine AllReadyH.cons rfl (fun K hK => ?_) AllReadyH.nil
                        skip
                        go_simp
                        refine (HA2.out _).mono ?_; rintro e W22 ⟨rfl, hb⟩
                        refine hK.out _ _ ?_ (fun hHeld => ?_)
                        focus (exact SB.out _ (hHeld.2.2.2.2.2.2.trans (hb.mono hHeld.2.2.2.2.2.2.size)))
                        clear hK K
                        try simp only [Act.put, List.setIfInBounds_toArray, List.set_cons_zero, List.set_cons_succ]
                        refine take_slot (i := 35) (d := 299) (v := ?_) rfl rfl (by kernel_rfl) (by kernel_rfl) (by kernel_rfl) (fun _ _ _ h => h) (Or.inl ⟨by rfl, ?_⟩) (by assumption) ?_
                        rotate_left 1
                        focus (intro wS hSw; (try dsimp only at hSw); go_simp; try with_reducible rfl)
                        try simp only [List.setIfInBounds_toArray, List.set_cons_zero, List.set_cons_succ]
                        refine take_slot (i := 36) (d := 300) (v := ?_) rfl rfl (by kernel_rfl) (by kernel_rfl) (by kernel_rfl) (fun _ _ _ h => h) (Or.inl ⟨by rfl, ?_⟩) (by assumption) ?_
                        rotate_left 1
                        focus (intro wS hSw; (try dsimp only at hSw); go_simp; try with_reducible rfl)
                        try simp only [List.setIfInBounds_toArray, List.set_cons_zero, List.set_cons_succ]
                        refine take_slot (i := 37) (d := 301) (v := ?_) rfl rfl (by kernel_rfl) (by kernel_rfl) (by kernel_rfl) (fun _ _ _ h => h) (Or.inl ⟨by rfl, ?_⟩) (by assumption) ?_
                        rotate_left 1
                        focus (intro wS hSw; (try dsimp only at hSw); go_simp; try with_reducible rfl)
                        try simp only [List.setIfInBounds_toArray, List.set_cons_zero, List.set_cons_succ]
                        refine wpAnyH_done (by kernel_rfl) ?_ _
                        replace hb := hHeld.2.2.2.2.2.2
                        clear hHeld SB t0 t1
                        replace hT := hT.trans (hb.mono hT.size)
                        replace hP := hP.trans (hb.mono hP.size)
                        replace hE := hE.trans (hb.mono hE.size)
                        replace hJ := hJ.trans (hb.mono hJ.size)
                        replace A0 := cell_next hb nA A0
                        replace A1 := cell_next hb nA A1
                        replace nA := Nat.lt_of_lt_of_le nA hb.size
                        replace B0 := cell_next hb nB B0
                        replace B1 := cell_next hb nB B1
                        replace nB := Nat.lt_of_lt_of_le nB hb.size
                        replace R0 := cell_next hb nR R0
                        replace R1 := cell_next hb nR R1
                        replace nR := Nat.lt_of_lt_of_le nR hb.size
                        replace V0 := cell_next hb nV V0
                        replace V1 := cell_next hb nV V1
                        replace nV := Nat.lt_of_lt_of_le nV hb.size
                        replace Y0 := cell_next hb nY Y0
                        replace Y1 := cell_next hb nY Y1
                        replace nY := Nat.lt_of_lt_of_le nY hb.size
                        replace S0 := cell_next hb nS S0
                        replace S1 := cell_next hb nS S1
                        replace nS := Nat.lt_of_lt_of_le nS hb.size
                        replace hB := hB.trans (hb.mono hB.size)
                        clear hb
                        go_wp2_with fail
                        go_roundw
                        case rel => exact ⟨j + 1, by omega, by go_num, hbk18.trans (hJ.mono hbk18.size)⟩
                        case measure => simp [RowKit.intOf]; omega
                · obtain rfl : k = j := by omega
                  clear hlt hj hbk18
                  as_aux_lemma =>
                    have u0 : (va1 != va2) = false := by have := HG1.out; simp; omega
                    by_cases hxf : x = f.1
                    · have u1 : (x == f.1) = true := by simpa using hxf
                      clear hxf
                      go_wp2_with fail
                      refine (HK.out _).mono ?_
                      rintro e W20 ⟨rfl, hb⟩
                      replace hT := hT.trans (hb.mono hT.size)
                      replace hP := hP.trans (hb.mono hP.size)
                      replace hE := hE.trans (hb.mono hE.size)
                      replace A0 := cell_next hb nA A0
                      replace A1 := cell_next hb nA A1
                      replace nA := Nat.lt_of_lt_of_le nA hb.size
                      replace B0 := cell_next hb nB B0
                      replace B1 := cell_next hb nB B1
                      replace nB := Nat.lt_of_lt_of_le nB hb.size
                      replace R0 := cell_next hb nR R0
                      replace R1 := cell_next hb nR R1
                      replace nR := Nat.lt_of_lt_of_le nR hb.size
                      replace V0 := cell_next hb nV V0
                      replace V1 := cell_next hb nV V1
                      replace nV := Nat.lt_of_lt_of_le nV hb.size
                      replace Y0 := cell_next hb nY Y0
                      replace Y1 := cell_next hb nY Y1
                      replace nY := Nat.lt_of_lt_of_le nY hb.size
                      replace S0 := cell_next hb nS S0
                      replace S1 := cell_next hb nS S1
                      replace nS := Nat.lt_of_lt_of_le nS hb.size
                      replace hB := hB.trans (hb.mono hB.size)
                      clear hb
                      go_wp2_with fail
                      go_ret
                      exact ⟨rfl, hB⟩
                    · have u1 : (x == f.1) = false := by simpa using hxf
                      by_cases hxl : x = l.1
                      · have u2 : (x == l.1) = true := by simpa using hxl
                        clear hxl hxf
                        go_wp2_with fail
                        refine (HK.out _).mono ?_
                        rintro e W20 ⟨rfl, hb⟩
                        replace hT := hT.trans (hb.mono hT.size)
                        replace hP := hP.trans (hb.mono hP.size)
                        replace hE := hE.trans (hb.mono hE.size)
                        replace A0 := cell_next hb nA A0
                        replace A1 := cell_next hb nA A1
                        replace nA := Nat.lt_of_lt_of_le nA hb.size
                        replace B0 := cell_next hb nB B0
                        replace B1 := cell_next hb nB B1
                        replace nB := Nat.lt_of_lt_of_le nB hb.size
                        replace R0 := cell_next hb nR R0
                        replace R1 := cell_next hb nR R1
                        replace nR := Nat.lt_of_lt_of_le nR hb.size
                        replace V0 := cell_next hb nV V0
                        replace V1 := cell_next hb nV V1
                        replace nV := Nat.lt_of_lt_of_le nV hb.size
                        replace Y0 := cell_next hb nY Y0
                        replace Y1 := cell_next hb nY Y1
                        replace nY := Nat.lt_of_lt_of_le nY hb.size
                        replace S0 := cell_next hb nS S0
                        replace S1 := cell_next hb nS S1
                        replace nS := Nat.lt_of_lt_of_le nS hb.size
                        replace hB := hB.trans (hb.mono hB.size)
                        clear hb
                        go_wp2_with fail
                        go_ret
                        exact ⟨rfl, hB⟩
                      · have u2 : (x == l.1) = false := by simpa using hxl
                        have HNX := Lib.hid (And.intro hxf hxl)
                        clear hxl hxf
                        as_aux_lemma =>
                          go_wp2_with fail
                          obtain ⟨wq, hwq⟩ : ∃ wq : World, wq = W19 := ⟨_, rfl⟩
                          go_loopw [32, 33, 34] (fun v b i wr => ∃ j : Nat, j ≤ k ∧ i = .int .i64 (j : Int) ∧ b = .bool (mrS x va1 (xs.take j)).2 ∧ Hid (wr.ownsRow wq.heap.size 30 2 v (mrS x va1 (xs.take j)).1.length (flat (mrS x va1 (xs.take j)).1)) ∧ Hid (∀ p ∈ xs.take j, p.1 ≠ x) ∧ Below wq.heap.size wq wr) (fun _ _ i _ => k - (RowKit.intOf i).toNat)
                          case atStart => exact ⟨0, Nat.zero_le _, rfl, rfl, by rw [hwq]; exact Lib.hid (own_madeR _ _), Lib.hid (fun p hp => by simp at hp), by rw [hwq]; exact (Below.refl _ _).alloc (Nat.le_refl _) _⟩
                          case round =>
                            subst hwq
                            obtain ⟨j, hj, rfl, rfl, HOM, HNE, hb5⟩ := hrel
                            generalize wr = w5 at *
                            have hz5 := hb5.size
                            by_cases hlt : (j : Int) < (k : Int)
                            · obtain ⟨p, hp⟩ : ∃ p, xs[j]? = some p := ⟨_, List.getElem?_eq_getElem (by rw [HLen.out]; omega)⟩
                              obtain ⟨t0, t1⟩ := (HTr.out _ (hT.trans (hb5.mono hT.size))) j p hp
                              have hgT := World.block_lt_of_cell? _ _ t0
                              have hnext : Hid (mrS x va1 (xs.take (j + 1)) = mrJ x va1 (mrS x va1 (xs.take j)) p) := Lib.hid (by rw [take_snocR xs j p hp, mrS_snoc])
                              have hlen5 := mrS_len x va1 _ (xs.take j) rfl
                              rw [show (xs.take j).length = j from by rw [List.length_take, HLen.out]; omega] at hlen5
                              have hln : (mrS x va1 (xs.take j)).1.length ≤ j + 1 := by rw [hlen5]; split <;> omega
                              clear hlen5
                              have Hp := Lib.hid hp
                              have hj0 : (0 : Int) ≤ (j : Int) := by omega
                              have htk : Hid (xs.take (j + 1) = xs.take j ++ [p]) := Lib.hid (take_snocR xs j p hp)
                              generalize mrS x va1 (xs.take j) = s at *
                              obtain ⟨sl, sb⟩ := s
                              dsimp only at *
                              obtain ⟨ml, hml⟩ : ∃ ml, sl.length = ml := ⟨_, rfl⟩
                              rw [hml] at HOM hln
                              have Hml := Lib.hid hml
                              clear hml hp
                              by_cases hpx : p.1 = x
                              · have u3 : (p.1 == x) = true := by simpa using hpx
                                have hBq := hB.trans (hb5.mono hB.size)
                                clear hpx
                                go_wp2_with fail
                                refine (HK.out _).mono ?_
                                rintro e w9 ⟨rfl, hb9⟩
                                have hB9 := hBq.trans (hb9.mono hBq.size)
                                clear hb9
                                go_wp2_with fail
                                go_ret
                                exact ⟨rfl, hB9⟩
                              · have u3 : (p.1 == x) = false := by simpa using hpx
                                have HNE2 : Hid (∀ q ∈ xs.take (j + 1), q.1 ≠ x) := Lib.hid (fun q hq => by rw [htk.out] at hq; rcases List.mem_append.1 hq with h | h; exact HNE.out q h; rw [List.mem_singleton.1 h]; exact hpx)
                                clear hpx HNE htk
                                by_cases hxp : x < p.1
                                · have u4 : decide (x < p.1) = true := by simpa using hxp
                                  cases sb
                                  · have hn2 : Hid (mrS x va1 (xs.take (j + 1)) = (sl ++ [(x, va1)] ++ [p], true)) := Lib.hid (by rw [hnext.out]; unfold mrJ; rw [if_pos ⟨hxp, rfl⟩])
                                    clear hnext hxp
                                    obtain ⟨V0', V1'⟩ := And.intro (cell_next hb5 nV V0) (cell_next hb5 nV V1)
                                    have nV5 := Nat.lt_of_lt_of_le nV hb5.size
                                    go_wp2_with (at_builtin; go_must (refine wpList_append_own_at _ rfl (.tmp 344) (.tmp 349) 28 rfl (wq.heap.size) 30 i0 (.agg #[.int .i64 0, .int .i64 0]) 2 16 Try.underlying28 hi0 iz0 iz1 iz2 rfl (by decide) _ (ml) (flat sl) rfl (HOM.out.alloc _) ⟨w5.heap.size, 0, none⟩ 1 1 [.int .i64 (x), .int .i64 (va1)] rfl rfl ?a1 ?a2 ?a3 ?a4 ?a5 ?a6))
                                    try (case a1 => intro j u hj; rcases j with _ | _ | j; { simp at hj; subst hj; exact (cell_at _ _ _ _ _ (by simp)) }; { simp at hj; subst hj; exact (cell_at _ _ _ _ _ (by simp)) }; { simp at hj })
                                    case a2 => simp [Value.oneCell']
                                    case a3 => unfold maxLen; omega
                                    case a4 => omega
                                    case a5 => first | omega | (simp; omega)
                                    case a6 =>
                                      intro v' w7 own7 hgrow _ hat
                                      have hB7 := (hb5.alloc hb5.size _).grown hgrow (by have := hb5.size; simp; omega) (fun r hr => by have := (HOM.out.lt r hr).1; omega)
                                      have HO7 := Lib.hid own7
                                      clear hgrow hat own7 t0 t1 V0' V1' nV5 hgT hz5
                                      obtain ⟨t0, t1⟩ := (HTr.out _ (hT.trans (hB7.mono hT.size))) j p Hp.out
                                      have hgT := World.block_lt_of_cell? _ _ t0
                                      have hz7 := hB7.size
                                      go_wp2_with (at_builtin; go_must (refine wpList_append_own_at _ rfl (.tmp 351) (.tmp 356) 28 rfl (wq.heap.size) 30 i0 (.agg #[.int .i64 0, .int .i64 0]) 2 16 Try.underlying28 hi0 iz0 iz1 iz2 rfl (by decide) _ (ml + 1) (flat sl ++ [.int .i64 x, .int .i64 va1]) rfl (HO7.out.alloc _) ⟨w7.heap.size, 0, none⟩ 1 1 [.int .i64 (p.1), .int .i64 (p.2)] rfl rfl ?b1 ?b2 ?b3 ?b4 ?b5 ?b6))
                                      try (case b1 => intro j u hj; rcases j with _ | _ | j; { simp at hj; subst hj; exact (cell_at _ _ _ _ _ (by simp)) }; { simp at hj; subst hj; exact (cell_at _ _ _ _ _ (by simp)) }; { simp at hj })
                                      case b2 => simp [Value.oneCell']
                                      case b3 => unfold maxLen; omega
                                      case b4 => omega
                                      case b5 => first | omega | (simp; omega)
                                      case b6 =>
                                        intro v'' w8 own8 hgrow _ hat
                                        have hB8 := (hB7.alloc hB7.size _).grown hgrow (by have := hB7.size; simp; omega) (fun r hr => by have := (HO7.out.lt r hr).1; omega)
                                        have HO8 := Lib.hid own8
                                        clear hgrow hat own8 t0 t1
                                        go_wp2_with fail
                                        go_roundw
                                        case rel => exact ⟨j + 1, by omega, by go_num, by rw [hn2.out], Lib.hid (by rw [hn2.out]; dsimp only; rw [flat_append, flat_append, flat_one, flat_one, List.length_append, List.length_append, List.length_singleton, List.length_singleton, Hml.out, List.append_assoc]; exact HO8.out), HNE2, hB8⟩
                                        case measure => simp [RowKit.intOf]; omega
                                  · clear hxp
                                    have hn2 : Hid (mrS x va1 (xs.take (j + 1)) = (sl ++ [p], true)) := Lib.hid (by rw [hnext.out]; unfold mrJ; rw [if_neg (by simp <;> first | omega | (intro; omega) | simp [*])])
                                    clear hnext
                                    go_wp2_with (at_builtin; go_must (refine wpList_append_own_at _ rfl (.tmp 351) (.tmp 356) 28 rfl (wq.heap.size) 30 i0 (.agg #[.int .i64 0, .int .i64 0]) 2 16 Try.underlying28 hi0 iz0 iz1 iz2 rfl (by decide) _ (ml) (flat sl) rfl (HOM.out.alloc _) ⟨w5.heap.size, 0, none⟩ 1 1 [.int .i64 (p.1), .int .i64 (p.2)] rfl rfl ?a1 ?a2 ?a3 ?a4 ?a5 ?a6))
                                    try (case a1 => intro j u hj; rcases j with _ | _ | j; { simp at hj; subst hj; exact (cell_at _ _ _ _ _ (by simp)) }; { simp at hj; subst hj; exact (cell_at _ _ _ _ _ (by simp)) }; { simp at hj })
                                    case a2 => simp [Value.oneCell']
                                    case a3 => unfold maxLen; omega
                                    case a4 => omega
                                    case a5 => first | omega | (simp; omega)
                                    case a6 =>
                                      intro v' w7 own7 hgrow _ hat
                                      have hB7 := (hb5.alloc hb5.size _).grown hgrow (by have := hb5.size; simp; omega) (fun r hr => by have := (HOM.out.lt r hr).1; omega)
                                      have HO7 := Lib.hid own7
                                      clear hgrow hat own7 t0 t1
                                      go_wp2_with fail
                                      go_roundw
                                      case rel => exact ⟨j + 1, by omega, by go_num, by rw [hn2.out], Lib.hid (by rw [hn2.out]; dsimp only; rw [flat_append, flat_one, List.length_append, List.length_singleton, Hml.out]; exact HO7.out), HNE2, hB7⟩
                                      case measure => simp [RowKit.intOf]; omega
                                · have u4 : decide (x < p.1) = false := by simpa using hxp
                                  have hn2 : Hid (mrS x va1 (xs.take (j + 1)) = (sl ++ [p], sb)) := Lib.hid (by rw [hnext.out]; unfold mrJ; rw [if_neg (by simp <;> first | omega | (intro; omega) | simp [*])])
                                  clear hnext
                                  go_wp2_with (at_builtin; go_must (refine wpList_append_own_at _ rfl (.tmp 351) (.tmp 356) 28 rfl (wq.heap.size) 30 i0 (.agg #[.int .i64 0, .int .i64 0]) 2 16 Try.underlying28 hi0 iz0 iz1 iz2 rfl (by decide) _ (ml) (flat sl) rfl (HOM.out.alloc _) ⟨w5.heap.size, 0, none⟩ 1 1 [.int .i64 (p.1), .int .i64 (p.2)] rfl rfl ?a1 ?a2 ?a3 ?a4 ?a5 ?a6))
                                  try (case a1 => intro j u hj; rcases j with _ | _ | j; { simp at hj; subst hj; exact (cell_at _ _ _ _ _ (by simp)) }; { simp at hj; subst hj; exact (cell_at _ _ _ _ _ (by simp)) }; { simp at hj })
                                  case a2 => simp [Value.oneCell']
                                  case a3 => unfold maxLen; omega
                                  case a4 => omega
                                  case a5 => first | omega | (simp; omega)
                                  case a6 =>
                                    intro v' w7 own7 hgrow _ hat
                                    have hB7 := (hb5.alloc hb5.size _).grown hgrow (by have := hb5.size; simp; omega) (fun r hr => by have := (HOM.out.lt r hr).1; omega)
                                    have HO7 := Lib.hid own7
                                    clear hgrow hat own7 t0 t1
                                    go_wp2_with fail
                                    go_roundw
                                    case rel => exact ⟨j + 1, by omega, by go_num, by rw [hn2.out], Lib.hid (by rw [hn2.out]; dsimp only; rw [flat_append, flat_one, List.length_append, List.length_singleton, Hml.out]; exact HO7.out), HNE2, hB7⟩
                                    case measure => simp [RowKit.intOf]; omega
                            · obtain rfl : k = j := by omega
                              have hTk : xs.take k = xs := List.take_of_length_le (by rw [HLen.out]; exact Nat.le_refl _)
                              rw [hTk] at HOM HNE ⊢
                              clear hlt hj hTk hz5
                              as_aux_lemma =>
                                have hb := hb5
                                clear hb5
                                replace hT := hT.trans (hb.mono hT.size)
                                replace hP := hP.trans (hb.mono hP.size)
                                replace hE := hE.trans (hb.mono hE.size)
                                replace A0 := cell_next hb nA A0
                                replace A1 := cell_next hb nA A1
                                replace nA := Nat.lt_of_lt_of_le nA hb.size
                                replace B0 := cell_next hb nB B0
                                replace B1 := cell_next hb nB B1
                                replace nB := Nat.lt_of_lt_of_le nB hb.size
                                replace R0 := cell_next hb nR R0
                                replace R1 := cell_next hb nR R1
                                replace nR := Nat.lt_of_lt_of_le nR hb.size
                                replace V0 := cell_next hb nV V0
                                replace V1 := cell_next hb nV V1
                                replace nV := Nat.lt_of_lt_of_le nV hb.size
                                replace Y0 := cell_next hb nY Y0
                                replace Y1 := cell_next hb nY Y1
                                replace nY := Nat.lt_of_lt_of_le nY hb.size
                                replace S0 := cell_next hb nS S0
                                replace S1 := cell_next hb nS S1
                                replace nS := Nat.lt_of_lt_of_le nS hb.size
                                replace hB := hB.trans (hb.mono hB.size)
                                clear hb
                                have hva : va1 = va2 := by have := HG1.out; omega
                                obtain ⟨nx1, nx2⟩ := HNX.out
                                obtain ⟨vbd1, vbd2⟩ := HVB.out
                                obtain ⟨f1', f2', f3', f4'⟩ := Hb0.out f (List.mem_of_getElem? Hf.out)
                                obtain ⟨M1', M2', M3', M4', M5'⟩ := more_fine HT0.out (by rw [HLen.out]; omega) HM1.out Hf.out Hl.out (x := x) (V := va1) (by omega) (by omega) HNE.out (by rw [HVX.out, ← hva]) (by have := HVB2.out; omega)
                                have hML : (mrS x va1 xs).1.length ≤ 20 := by rw [M2']; have := HLen.out; have := HM1.out; omega
                                have hcz : covB (mrS x va1 xs).1 z = true := cov_of M2' M3' M4' (by omega) (by omega)
                                have hwl : whV (mrS x va1 xs).1 yl yh = L := by rw [← HWL.out]; exact (whV_same HT0.out M1' yl yh hyy HM1.out M2' Hf.out M3' Hl.out M4' (fun n h1 h2 => (M5' n h1 h2).symm)).symm
                                have hvz : valV (mrS x va1 xs).1 z = (vb1, vb2) := by rw [M5' z (by omega) (by omega), HVZ.out]
                                have rM := own_rowR _ _ rfl _ w5 HOM.out
                                generalize (mrS x va1 xs).1 = M at *
                                have HVM : Hid (∀ (u : Value) (W : World), SetAt W.heap.size W u M → Calls Try.prog 5 #[u, .int .i64 z] W fun e w' => e = .returned (.tuple #[.agg #[.int .i64 vb1, .int .i64 vb2], .int .i64 0]) ∧ Below W.heap.size W w') := Lib.hid (fun u W h => by
                                  have h1 := value_any u M z W h
                                  have ez : vaE M z = 0 := by unfold vaE; rw [if_pos (tabE_of M1'), if_pos hcz]
                                  have er : vaR M z = (vb1, vb2) := by unfold vaR; rw [if_pos ez, hvz]
                                  rw [ez, er] at h1
                                  exact h1)
                                have HRM := Lib.hid (fun (u : Value) (W : World) (h : ArgAt W u M) => lRows_any u M (by omega) W h)
                                have HWM := Lib.hid (fun (u : Value) (W : World) (h : SetAt W.heap.size W u M) => where_any u M yl yh W h)
                                have hvy : vrB yl yh = true := HVY.out
                                have ew : whE M yl yh = 0 := by unfold whE; rw [if_pos (tabE_of M1'), if_pos hvy]
                                have er : whR M yl yh = L := by unfold whR; rw [if_pos ew, hwl]
                                rw [ew, er] at HWM
                                have HSm := Lib.hid (fun (u v : Value) (W : World) (hu : SetAt W.heap.size W u L) (hv : SetAt W.heap.size W v L) => lSame_any u v L (by rw [Hm.out]; omega) W hu hv)
                                clear M1' M2' M3' M4' M5' hcz hwl hvz ew er hvy hva nx1 nx2 vbd1 vbd2 f1' f2' f3' f4' HOM HNE
                                have HM := Lib.hid (fun (W : World) (h : Below w5.heap.size w5 W) => (rM.below h (Nat.le_refl _)).mono h.size)
                                have hM := Below.refl w5.heap.size w5
                                clear rM
                                skip
                                go_wp2_with fail
                                refine (HVM.out _ _ (HM.out _ hM).set).mono ?_
                                rintro e W20 ⟨rfl, hb⟩
                                replace hT := hT.trans (hb.mono hT.size)
                                replace hP := hP.trans (hb.mono hP.size)
                                replace hE := hE.trans (hb.mono hE.size)
                                replace hM := hM.trans (hb.mono hM.size)
                                replace A0 := cell_next hb nA A0
                                replace A1 := cell_next hb nA A1
                                replace nA := Nat.lt_of_lt_of_le nA hb.size
                                replace B0 := cell_next hb nB B0
                                replace B1 := cell_next hb nB B1
                                replace nB := Nat.lt_of_lt_of_le nB hb.size
                                replace R0 := cell_next hb nR R0
                                replace R1 := cell_next hb nR R1
                                replace nR := Nat.lt_of_lt_of_le nR hb.size
                                replace V0 := cell_next hb nV V0
                                replace V1 := cell_next hb nV V1
                                replace nV := Nat.lt_of_lt_of_le nV hb.size
                                replace Y0 := cell_next hb nY Y0
                                replace Y1 := cell_next hb nY Y1
                                replace nY := Nat.lt_of_lt_of_le nY hb.size
                                replace S0 := cell_next hb nS S0
                                replace S1 := cell_next hb nS S1
                                replace nS := Nat.lt_of_lt_of_le nS hb.size
                                replace hB := hB.trans (hb.mono hB.size)
                                clear hb
                                go_wp2_with fail
                                have hb := (Below.refl W20.heap.size W20).alloc (Nat.le_refl _) (.cells #[.int .i64 vb1, .int .i64 vb2] 32)
                                have Q0 : (W20.alloc (.cells #[.int .i64 vb1, .int .i64 vb2] 32)).cell? ⟨W20.heap.size, 0, none⟩ = some (.int .i64 vb1) := cell_new _ _ _ 0
                                have Q1 : (W20.alloc (.cells #[.int .i64 vb1, .int .i64 vb2] 32)).cell? ⟨W20.heap.size, 1, none⟩ = some (.int .i64 vb2) := cell_new _ _ _ 1
                                have nQ : W20.heap.size < (W20.alloc (.cells #[.int .i64 vb1, .int .i64 vb2] 32)).heap.size := by simp
                                generalize W20.alloc (.cells #[.int .i64 vb1, .int .i64 vb2] 32) = W21 at *
                                replace hT := hT.trans (hb.mono hT.size)
                                replace hP := hP.trans (hb.mono hP.size)
                                replace hE := hE.trans (hb.mono hE.size)
                                replace hM := hM.trans (hb.mono hM.size)
                                replace A0 := cell_next hb nA A0
                                replace A1 := cell_next hb nA A1
                                replace nA := Nat.lt_of_lt_of_le nA hb.size
                                replace B0 := cell_next hb nB B0
                                replace B1 := cell_next hb nB B1
                                replace nB := Nat.lt_of_lt_of_le nB hb.size
                                replace R0 := cell_next hb nR R0
                                replace R1 := cell_next hb nR R1
                                replace nR := Nat.lt_of_lt_of_le nR hb.size
                                replace V0 := cell_next hb nV V0
                                replace V1 := cell_next hb nV V1
                                replace nV := Nat.lt_of_lt_of_le nV hb.size
                                replace Y0 := cell_next hb nY Y0
                                replace Y1 := cell_next hb nY Y1
                                replace nY := Nat.lt_of_lt_of_le nY hb.size
                                replace S0 := cell_next hb nS S0
                                replace S1 := cell_next hb nS S1
                                replace nS := Nat.lt_of_lt_of_le nS hb.size
                                replace hB := hB.trans (hb.mono hB.size)
                                clear hb
                                go_wp2_with fail
                                have SB : Hid (∀ W' : World, Below W21.heap.size W21 W' → (fun w' => w'.cell? ⟨q2, 0, none⟩ = some (.int .i64 yl) ∧ w'.cell? ⟨q2, 1, none⟩ = some (.int .i64 yh) ∧ Below W21.heap.size W21 w') W') := Lib.hid (fun W' h => ⟨cell_next h nR R0, cell_next h nR R1, h⟩)
                                refine wp_region_held_drew (S := fun w' => w'.cell? ⟨q2, 0, none⟩ = some (.int .i64 yl) ∧ w'.cell? ⟨q2, 1, none⟩ = some (.int .i64 yh) ∧ Below W21.heap.size W21 w') (by kernel_rfl) ?_ (fun hHeld => ?_)
                                focus (exact SB.out _ (Below.drew (Below.refl _ _)))
                                refine take_slot (i := 0) (d := 365) (v := ?_) rfl rfl (by kernel_rfl) (by kernel_rfl) (by kernel_rfl) (fun _ _ _ h => h) (Or.inl ⟨by rfl, ?_⟩) (by assumption) ?_
                                rotate_left 1
                                focus (intro wS hSw; (try dsimp only at hSw); go_simp; try with_reducible rfl)
                                try simp only [List.setIfInBounds_toArray, List.set_cons_zero, List.set_cons_succ]
                                refine take_slot (i := 2) (d := 367) (v := ?_) rfl rfl (by kernel_rfl) (by kernel_rfl) (by kernel_rfl) (fun _ _ _ h => h) (Or.inl ⟨by rfl, ?_⟩) (by assumption) ?_
                                rotate_left 1
                                focus (intro wS hSw; (try dsimp only at hSw); go_simp; try with_reducible rfl)
                                try simp only [List.setIfInBounds_toArray, List.set_cons_zero, List.set_cons_succ]
                                refine wpAnyH_ready (rs := [1]) (by kernel_rfl) (by simp) ?_
                                refine AllReadyH.cons rfl (fun K hK => ?_) AllReadyH.nil
                                skip
                                go_simp
                                (refine (HRM.out _ _ (HM.out _ (hM.trans (hHeld.2.2.mono hM.size))).argR).mono ?_)
                                rintro e W22 ⟨vC9, rfl, rC9, hb⟩
                                refine hK.out _ _ ?_ (fun hHeld => ?_)
                                focus (exact SB.out _ (hHeld.2.2.trans (hb.mono hHeld.2.2.size)))
                                clear hK K
                                try simp only [Act.put, List.setIfInBounds_toArray, List.set_cons_zero, List.set_cons_succ]
                                refine wpAnyH_ready (rs := [3]) (by kernel_rfl) (by simp) ?_
                                refine AllReadyH.cons rfl (fun K hK => ?_) AllReadyH.nil
                                skip
                                go_simp
                                (refine (HWM.out _ _ rC9.set).mono ?_)
                                rintro e W23 ⟨vP9, rfl, ownP9, hb⟩
                                refine hK.out _ _ ?_ (fun hHeld => ?_)
                                focus (exact SB.out _ (hHeld.2.2.trans (hb.mono hHeld.2.2.size)))
                                clear hK K
                                try simp only [Act.put, List.setIfInBounds_toArray, List.set_cons_zero, List.set_cons_succ]
                                refine take_slot (i := 4) (d := 364) (v := ?_) rfl rfl (by kernel_rfl) (by kernel_rfl) (by kernel_rfl) (fun _ _ _ h => h) (Or.inl ⟨by rfl, ?_⟩) (by assumption) ?_
                                rotate_left 1
                                focus (intro wS hSw; (try dsimp only at hSw); go_simp; try with_reducible rfl)
                                try simp only [List.setIfInBounds_toArray, List.set_cons_zero, List.set_cons_succ]
                                refine take_slot (i := 5) (d := 369) (v := ?_) rfl rfl (by kernel_rfl) (by kernel_rfl) (by kernel_rfl) (fun _ _ _ h => h) (Or.inl ⟨by rfl, ?_⟩) (by assumption) ?_
                                rotate_left 1
                                focus (intro wS hSw; (try dsimp only at hSw); go_simp; try with_reducible rfl)
                                try simp only [List.setIfInBounds_toArray, List.set_cons_zero, List.set_cons_succ]
                                refine take_slot (i := 6) (d := 370) (v := ?_) rfl rfl (by kernel_rfl) (by kernel_rfl) (by kernel_rfl) (fun _ _ _ h => h) (Or.inl ⟨by rfl, ?_⟩) (by assumption) ?_
                                rotate_left 1
                                focus (intro wS hSw; (try dsimp only at hSw); go_simp; try with_reducible rfl)
                                try simp only [List.setIfInBounds_toArray, List.set_cons_zero, List.set_cons_succ]
                                refine take_slot (i := 7) (d := 36) (v := ?_) rfl rfl (by kernel_rfl) (by kernel_rfl) (by kernel_rfl) (fun _ _ _ h => h) (Or.inl ⟨by rfl, ?_⟩) (by assumption) ?_
                                rotate_left 1
                                focus (intro wS hSw; (try dsimp only at hSw); go_simp; try with_reducible rfl)
                                try simp only [List.setIfInBounds_toArray, List.set_cons_zero, List.set_cons_succ]
                                refine take_slot (i := 8) (d := 18) (v := ?_) rfl rfl (by kernel_rfl) (by kernel_rfl) (by kernel_rfl) (fun _ _ _ h => h) (Or.inl ⟨by rfl, ?_⟩) (by assumption) ?_
                                rotate_left 1
                                focus (intro wS hSw; (try dsimp only at hSw); go_simp; try with_reducible rfl)
                                try simp only [List.setIfInBounds_toArray, List.set_cons_zero, List.set_cons_succ]
                                refine wpAnyH_done (by kernel_rfl) ?_ _
                                clear hb
                                have hb := hHeld.2.2
                                clear hHeld SB
                                replace hT := hT.trans (hb.mono hT.size)
                                replace hP := hP.trans (hb.mono hP.size)
                                replace hE := hE.trans (hb.mono hE.size)
                                replace hM := hM.trans (hb.mono hM.size)
                                replace A0 := cell_next hb nA A0
                                replace A1 := cell_next hb nA A1
                                replace nA := Nat.lt_of_lt_of_le nA hb.size
                                replace B0 := cell_next hb nB B0
                                replace B1 := cell_next hb nB B1
                                replace nB := Nat.lt_of_lt_of_le nB hb.size
                                replace R0 := cell_next hb nR R0
                                replace R1 := cell_next hb nR R1
                                replace nR := Nat.lt_of_lt_of_le nR hb.size
                                replace V0 := cell_next hb nV V0
                                replace V1 := cell_next hb nV V1
                                replace nV := Nat.lt_of_lt_of_le nV hb.size
                                replace Y0 := cell_next hb nY Y0
                                replace Y1 := cell_next hb nY Y1
                                replace nY := Nat.lt_of_lt_of_le nY hb.size
                                replace S0 := cell_next hb nS S0
                                replace S1 := cell_next hb nS S1
                                replace nS := Nat.lt_of_lt_of_le nS hb.size
                                replace Q0 := cell_next hb nQ Q0
                                replace Q1 := cell_next hb nQ Q1
                                replace nQ := Nat.lt_of_lt_of_le nQ hb.size
                                replace hB := hB.trans (hb.mono hB.size)
                                clear hb
                                clear rC9
                                have R9 := own_row _ _ rfl vP9 _ ownP9
                                have HP9 := Lib.hid (fun (W : World) (h : Below W23.heap.size W23 W) => (R9.below h (Nat.le_refl _)).mono h.size)
                                have hP9 := Below.refl W23.heap.size W23
                                clear R9 ownP9
                                go_wp2_with fail
                                refine (HSm.out _ _ _ (HP9.out _ hP9).set (HP.out _ hP).set).mono ?_
                                rintro e W24 ⟨rfl, hb⟩
                                replace hT := hT.trans (hb.mono hT.size)
                                replace hP := hP.trans (hb.mono hP.size)
                                replace hE := hE.trans (hb.mono hE.size)
                                replace hM := hM.trans (hb.mono hM.size)
                                replace hP9 := hP9.trans (hb.mono hP9.size)
                                replace A0 := cell_next hb nA A0
                                replace A1 := cell_next hb nA A1
                                replace nA := Nat.lt_of_lt_of_le nA hb.size
                                replace B0 := cell_next hb nB B0
                                replace B1 := cell_next hb nB B1
                                replace nB := Nat.lt_of_lt_of_le nB hb.size
                                replace R0 := cell_next hb nR R0
                                replace R1 := cell_next hb nR R1
                                replace nR := Nat.lt_of_lt_of_le nR hb.size
                                replace V0 := cell_next hb nV V0
                                replace V1 := cell_next hb nV V1
                                replace nV := Nat.lt_of_lt_of_le nV hb.size
                                replace Y0 := cell_next hb nY Y0
                                replace Y1 := cell_next hb nY Y1
                                replace nY := Nat.lt_of_lt_of_le nY hb.size
                                replace S0 := cell_next hb nS S0
                                replace S1 := cell_next hb nS S1
                                replace nS := Nat.lt_of_lt_of_le nS hb.size
                                replace Q0 := cell_next hb nQ Q0
                                replace Q1 := cell_next hb nQ Q1
                                replace nQ := Nat.lt_of_lt_of_le nQ hb.size
                                replace hB := hB.trans (hb.mono hB.size)
                                clear hb
                                go_wp2_with fail
                                refine (HK.out _).mono ?_
                                rintro e W25 ⟨rfl, hb⟩
                                replace hT := hT.trans (hb.mono hT.size)
                                replace hP := hP.trans (hb.mono hP.size)
                                replace hE := hE.trans (hb.mono hE.size)
                                replace hM := hM.trans (hb.mono hM.size)
                                replace hP9 := hP9.trans (hb.mono hP9.size)
                                replace A0 := cell_next hb nA A0
                                replace A1 := cell_next hb nA A1
                                replace nA := Nat.lt_of_lt_of_le nA hb.size
                                replace B0 := cell_next hb nB B0
                                replace B1 := cell_next hb nB B1
                                replace nB := Nat.lt_of_lt_of_le nB hb.size
                                replace R0 := cell_next hb nR R0
                                replace R1 := cell_next hb nR R1
                                replace nR := Nat.lt_of_lt_of_le nR hb.size
                                replace V0 := cell_next hb nV V0
                                replace V1 := cell_next hb nV V1
                                replace nV := Nat.lt_of_lt_of_le nV hb.size
                                replace Y0 := cell_next hb nY Y0
                                replace Y1 := cell_next hb nY Y1
                                replace nY := Nat.lt_of_lt_of_le nY hb.size
                                replace S0 := cell_next hb nS S0
                                replace S1 := cell_next hb nS S1
                                replace nS := Nat.lt_of_lt_of_le nS hb.size
                                replace Q0 := cell_next hb nQ Q0
                                replace Q1 := cell_next hb nQ Q1
                                replace nQ := Nat.lt_of_lt_of_le nQ hb.size
                                replace hB := hB.trans (hb.mono hB.size)
                                clear hb
                                go_wp2_with fail
                                go_ret
                                exact ⟨rfl, hB⟩
end Go.Proofs.Ytkhongbemoahpaa
