/- The walk of the statement on sums and differences. -/
import Derived.Test.YtgakniehfnegiaaR11
import Derived.Test.YtgakniehfnegiaaK2
namespace Go.Proofs.Ytgakniehfnegiaa
open Go.RowKit Go.Lib Go.Shelf
set_option linter.unusedVariables false
set_option linter.unusedSimpArgs false
attribute [local go_sem ↓] Go.wp_at_zero Go.wp_at_succ

theorem ArgAt.below {w W : World} {v : Value} {xs : List (Int × Int)} (h : ArgAt w v xs) (hb : Below w.heap.size w W) : ArgAt W v xs := by
  rcases h with h | ⟨g, off, c, rfl, hc, hg, hr⟩
  · exact Or.inl h
  · exact Or.inr ⟨g, off, c, rfl, hc, Nat.lt_of_lt_of_le hg hb.size, hr.below hb hg⟩

set_option maxRecDepth 40000 in
set_option maxHeartbeats 6000000 in
theorem sums_walk (v : Value) (xs : List (Int × Int)) (a1 a2 b1 b2 : Int) (w : World) (hv : ArgAt w v xs) :
    Calls Try.prog 3 #[v, .agg #[.int .i64 a1, .int .i64 a2], .agg #[.int .i64 b1, .int .i64 b2]] w fun e w' => e = .returned (.bool true) ∧ Below w.heap.size w w' := by
  obtain ⟨A, c, rfl⟩ : ∃ A c, v = .slice A xs.length c := by
    rcases hv with ⟨⟨A, c, rfl⟩, rfl⟩ | ⟨g, off, c, rfl, _⟩
    · exact ⟨A, c, rfl⟩
    · exact ⟨_, c, rfl⟩
  by_cases hbig : 120 < xs.length
  · clear hv
    generalize xs.length = n at *
    go_enter Try.func3, Try.ntmps3
    go_wp2_with fail
    refine (known_any _).mono ?_
    rintro e w1 ⟨rfl, hb⟩
    have hB := below2 hb
    clear hb
    go_wp2_with fail
    go_ret
    exact ⟨rfl, hB⟩
  · have HL := Lib.hid (fun (W : World) (h : Below w.heap.size w W) => (hv.row.set.below h (Nat.le_refl _)).mono h.size)
    have HR := Lib.hid (fun (W : World) (h : Below w.heap.size w W) => lRanges_any _ xs (by omega) W (hv.below h))
    have HS := Lib.hid (fun (u : Value) (W : World) (h : SetAt W.heap.size W u xs) => sum_any u xs W h)
    have HM := Lib.hid (fun (u : Value) (W : World) (h : RowAt W.heap.size W u xs) => meet_any u xs W h)
    have HU := Lib.hid (fun (u : Value) (W : World) (h : RowAt W.heap.size W u xs) => hullAll_any u xs W h)
    have HrS := Lib.hid (fun (u : Value) (W : World) (h : SetAt W.heap.size W u xs) => rSum_any u xs W h)
    have HrM := Lib.hid (fun (u : Value) (W : World) (h : SetAt W.heap.size W u xs) => rMeet_any u xs W h)
    have HrU := Lib.hid (fun (u : Value) (W : World) (h : SetAt W.heap.size W u xs) => rHull_any u xs W h)
    have HE := Lib.hid (fun (u v : Value) (W : World) (h : SetAt W.heap.size W u xs) (k : SetAt W.heap.size W v xs) => lSame_any u v xs (by omega) W h k)
    have cd := Lib.hid (less_any a1 a2 b1 b2)
    have ce := Lib.hid (rLess_any a1 a2 b1 b2)
    have cf := Lib.hid (atMost_any a1 a2 b1 b2)
    have cg := Lib.hid (rRange_any a1 a2)
    have ck := Lib.hid (rRange_any b1 b2)
    clear hv
    generalize smL xs = sl at *
    generalize smH xs = sh at *
    generalize smE xs = se at *
    generalize meL xs = ml at *
    generalize meH xs = mh at *
    generalize meE xs = me at *
    generalize huL xs = ul at *
    generalize huH xs = uh at *
    generalize huE xs = ue at *
    generalize lsL a1 a2 b1 b2 = dl at *
    generalize lsH a1 a2 b1 b2 = dh at *
    generalize lsE a1 a2 b1 b2 = de at *
    generalize vrB a1 a2 = p at *
    generalize vrB b1 b2 = q at *
    generalize xs.length = n at *
    go_enter Try.func3, Try.ntmps3
    go_wp2_with fail
    refine (HR.out _ (by exact ((Below.refl _ _).alloc (Nat.le_refl _) _).alloc (by simp) _)).mono ?_
    rintro e W1 ⟨vi, rfl, hri, hb⟩
    have A0 := cell_next hb (b := w.heap.size) (o := 0) (by simp <;> omega) (v := some (.int .i64 a1)) (by simp [go_sem])
    have A1 := cell_next hb (b := w.heap.size) (o := 1) (by simp <;> omega) (v := some (.int .i64 a2)) (by simp [go_sem])
    have nA : w.heap.size < W1.heap.size := by have := hb.size; simp at this; omega
    have B0 := cell_next hb (b := w.heap.size + 1) (o := 0) (by simp <;> omega) (v := some (.int .i64 b1)) (by simp [go_sem])
    have B1 := cell_next hb (b := w.heap.size + 1) (o := 1) (by simp <;> omega) (v := some (.int .i64 b2)) (by simp [go_sem])
    have nB : w.heap.size + 1 < W1.heap.size := by have := hb.size; simp at this; omega
    have hB := (below2 hb)
    clear hb
    have HI := Lib.hid (fun (W : World) (h : Below W1.heap.size W1 W) => (hri.below h (Nat.le_refl _)).mono h.size)
    have hI := Below.refl W1.heap.size W1
    clear hri
    go_wp2_with fail
    refine (HS.out _ _ (by first | exact (HI.out _ hI).set | exact (HI.out _ (hI.alloc hI.size _)).set)).mono ?_
    rintro e W2 ⟨rfl, hb⟩
    replace A0 := cell_next hb nA A0
    replace A1 := cell_next hb nA A1
    replace nA := Nat.lt_of_lt_of_le nA hb.size
    replace B0 := cell_next hb nB B0
    replace B1 := cell_next hb nB B1
    replace nB := Nat.lt_of_lt_of_le nB hb.size
    replace hB := hB.trans (hb.mono hB.size)
    replace hI := hI.trans (hb.mono hI.size)
    clear hb
    go_wp2_with fail
    refine (HM.out _ _ (by first | exact HI.out _ hI | exact HI.out _ (hI.alloc hI.size _))).mono ?_
    rintro e W3 ⟨rfl, hb⟩
    replace A0 := cell_next (below1 hb) nA A0
    replace A1 := cell_next (below1 hb) nA A1
    replace nA := Nat.lt_of_lt_of_le nA (below1 hb).size
    replace B0 := cell_next (below1 hb) nB B0
    replace B1 := cell_next (below1 hb) nB B1
    replace nB := Nat.lt_of_lt_of_le nB (below1 hb).size
    have s0 := cell_next hb (b := W2.heap.size) (o := 0) (by simp <;> omega) (v := some (.int .i64 sl)) (by simp [go_sem])
    have s1 := cell_next hb (b := W2.heap.size) (o := 1) (by simp <;> omega) (v := some (.int .i64 sh)) (by simp [go_sem])
    have ns : W2.heap.size < W3.heap.size := by have := hb.size; simp at this; omega
    replace hB := hB.trans ((below1 hb).mono hB.size)
    replace hI := hI.trans ((below1 hb).mono hI.size)
    clear hb
    generalize W2.heap.size = q3 at *
    go_wp2_with fail
    refine (HU.out _ _ (by first | exact HI.out _ hI | exact HI.out _ (hI.alloc hI.size _))).mono ?_
    rintro e W4 ⟨rfl, hb⟩
    replace A0 := cell_next (below1 hb) nA A0
    replace A1 := cell_next (below1 hb) nA A1
    replace nA := Nat.lt_of_lt_of_le nA (below1 hb).size
    replace B0 := cell_next (below1 hb) nB B0
    replace B1 := cell_next (below1 hb) nB B1
    replace nB := Nat.lt_of_lt_of_le nB (below1 hb).size
    replace s0 := cell_next (below1 hb) ns s0
    replace s1 := cell_next (below1 hb) ns s1
    replace ns := Nat.lt_of_lt_of_le ns (below1 hb).size
    have m0 := cell_next hb (b := W3.heap.size) (o := 0) (by simp <;> omega) (v := some (.int .i64 ml)) (by simp [go_sem])
    have m1 := cell_next hb (b := W3.heap.size) (o := 1) (by simp <;> omega) (v := some (.int .i64 mh)) (by simp [go_sem])
    have nm : W3.heap.size < W4.heap.size := by have := hb.size; simp at this; omega
    replace hB := hB.trans ((below1 hb).mono hB.size)
    replace hI := hI.trans ((below1 hb).mono hI.size)
    clear hb
    generalize W3.heap.size = q4 at *
    go_wp2_with fail
    refine (HE.out _ _ _ (by first | exact (HI.out _ hI).set | exact (HI.out _ (hI.alloc hI.size _)).set) (by first | exact HL.out _ hB | exact HL.out _ (hB.alloc hB.size _))).mono ?_
    rintro e W5 ⟨rfl, hb⟩
    replace A0 := cell_next (below1 hb) nA A0
    replace A1 := cell_next (below1 hb) nA A1
    replace nA := Nat.lt_of_lt_of_le nA (below1 hb).size
    replace B0 := cell_next (below1 hb) nB B0
    replace B1 := cell_next (below1 hb) nB B1
    replace nB := Nat.lt_of_lt_of_le nB (below1 hb).size
    replace s0 := cell_next (below1 hb) ns s0
    replace s1 := cell_next (below1 hb) ns s1
    replace ns := Nat.lt_of_lt_of_le ns (below1 hb).size
    replace m0 := cell_next (below1 hb) nm m0
    replace m1 := cell_next (below1 hb) nm m1
    replace nm := Nat.lt_of_lt_of_le nm (below1 hb).size
    have h0 := cell_next hb (b := W4.heap.size) (o := 0) (by simp <;> omega) (v := some (.int .i64 ul)) (by simp [go_sem])
    have h1 := cell_next hb (b := W4.heap.size) (o := 1) (by simp <;> omega) (v := some (.int .i64 uh)) (by simp [go_sem])
    have nh : W4.heap.size < W5.heap.size := by have := hb.size; simp at this; omega
    replace hB := hB.trans ((below1 hb).mono hB.size)
    replace hI := hI.trans ((below1 hb).mono hI.size)
    clear hb
    generalize W4.heap.size = q5 at *
    go_wp2_with fail
    refine (HrS.out _ _ (by first | exact HL.out _ hB | exact HL.out _ (hB.alloc hB.size _))).mono ?_
    rintro e W6 ⟨rfl, hb⟩
    replace A0 := cell_next hb nA A0
    replace A1 := cell_next hb nA A1
    replace nA := Nat.lt_of_lt_of_le nA hb.size
    replace B0 := cell_next hb nB B0
    replace B1 := cell_next hb nB B1
    replace nB := Nat.lt_of_lt_of_le nB hb.size
    replace s0 := cell_next hb ns s0
    replace s1 := cell_next hb ns s1
    replace ns := Nat.lt_of_lt_of_le ns hb.size
    replace m0 := cell_next hb nm m0
    replace m1 := cell_next hb nm m1
    replace nm := Nat.lt_of_lt_of_le nm hb.size
    replace h0 := cell_next hb nh h0
    replace h1 := cell_next hb nh h1
    replace nh := Nat.lt_of_lt_of_le nh hb.size
    replace hB := hB.trans (hb.mono hB.size)
    replace hI := hI.trans (hb.mono hI.size)
    clear hb
    have lx := nB
    go_wp2_with fail
    refine (HrM.out _ _ (by first | exact HL.out _ hB | exact HL.out _ (hB.alloc hB.size _))).mono ?_
    rintro e W7 ⟨rfl, hb⟩
    replace A0 := cell_next (below1 hb) nA A0
    replace A1 := cell_next (below1 hb) nA A1
    replace nA := Nat.lt_of_lt_of_le nA (below1 hb).size
    replace B0 := cell_next (below1 hb) nB B0
    replace B1 := cell_next (below1 hb) nB B1
    replace nB := Nat.lt_of_lt_of_le nB (below1 hb).size
    replace s0 := cell_next (below1 hb) ns s0
    replace s1 := cell_next (below1 hb) ns s1
    replace ns := Nat.lt_of_lt_of_le ns (below1 hb).size
    replace m0 := cell_next (below1 hb) nm m0
    replace m1 := cell_next (below1 hb) nm m1
    replace nm := Nat.lt_of_lt_of_le nm (below1 hb).size
    replace h0 := cell_next (below1 hb) nh h0
    replace h1 := cell_next (below1 hb) nh h1
    replace nh := Nat.lt_of_lt_of_le nh (below1 hb).size
    have x0 := cell_next hb (b := W6.heap.size) (o := 0) (by simp <;> omega) (v := some (.int .i64 sl)) (by simp [go_sem])
    have x1 := cell_next hb (b := W6.heap.size) (o := 1) (by simp <;> omega) (v := some (.int .i64 sh)) (by simp [go_sem])
    have fx0 := frozen_next hb (b := W6.heap.size) (o := 0) (by simp <;> omega) (v := false) (by simp [go_sem])
    have fx1 := frozen_next hb (b := W6.heap.size) (o := 1) (by simp <;> omega) (v := false) (by simp [go_sem])
    have nx : W6.heap.size < W7.heap.size := by have := hb.size; simp at this; omega
    replace hB := hB.trans ((below1 hb).mono hB.size)
    replace hI := hI.trans ((below1 hb).mono hI.size)
    clear hb
    generalize W6.heap.size = q7 at *
    go_wp2_with fail
    refine (HrU.out _ _ (by first | exact HL.out _ hB | exact HL.out _ (hB.alloc hB.size _))).mono ?_
    rintro e W8 ⟨rfl, hb⟩
    replace A0 := cell_next (below1 hb) nA A0
    replace A1 := cell_next (below1 hb) nA A1
    replace nA := Nat.lt_of_lt_of_le nA (below1 hb).size
    replace B0 := cell_next (below1 hb) nB B0
    replace B1 := cell_next (below1 hb) nB B1
    replace nB := Nat.lt_of_lt_of_le nB (below1 hb).size
    replace s0 := cell_next (below1 hb) ns s0
    replace s1 := cell_next (below1 hb) ns s1
    replace ns := Nat.lt_of_lt_of_le ns (below1 hb).size
    replace m0 := cell_next (below1 hb) nm m0
    replace m1 := cell_next (below1 hb) nm m1
    replace nm := Nat.lt_of_lt_of_le nm (below1 hb).size
    replace h0 := cell_next (below1 hb) nh h0
    replace h1 := cell_next (below1 hb) nh h1
    replace nh := Nat.lt_of_lt_of_le nh (below1 hb).size
    replace x0 := cell_next (below1 hb) nx x0
    replace x1 := cell_next (below1 hb) nx x1
    replace fx0 := frozen_next (below1 hb) nx fx0
    replace fx1 := frozen_next (below1 hb) nx fx1
    replace nx := Nat.lt_of_lt_of_le nx (below1 hb).size
    have y0 := cell_next hb (b := W7.heap.size) (o := 0) (by simp <;> omega) (v := some (.int .i64 ml)) (by simp [go_sem])
    have y1 := cell_next hb (b := W7.heap.size) (o := 1) (by simp <;> omega) (v := some (.int .i64 mh)) (by simp [go_sem])
    have ny : W7.heap.size < W8.heap.size := by have := hb.size; simp at this; omega
    replace hB := hB.trans ((below1 hb).mono hB.size)
    replace hI := hI.trans ((below1 hb).mono hI.size)
    clear hb
    generalize W7.heap.size = q8 at *
    clear HI hI
    go_wp2_with fail
    refine (cd.out _).mono ?_
    rintro e W9 ⟨rfl, hb⟩
    replace A0 := cell_next (below1 hb) nA A0
    replace A1 := cell_next (below1 hb) nA A1
    replace nA := Nat.lt_of_lt_of_le nA (below1 hb).size
    replace B0 := cell_next (below1 hb) nB B0
    replace B1 := cell_next (below1 hb) nB B1
    replace nB := Nat.lt_of_lt_of_le nB (below1 hb).size
    replace s0 := cell_next (below1 hb) ns s0
    replace s1 := cell_next (below1 hb) ns s1
    replace ns := Nat.lt_of_lt_of_le ns (below1 hb).size
    replace m0 := cell_next (below1 hb) nm m0
    replace m1 := cell_next (below1 hb) nm m1
    replace nm := Nat.lt_of_lt_of_le nm (below1 hb).size
    replace h0 := cell_next (below1 hb) nh h0
    replace h1 := cell_next (below1 hb) nh h1
    replace nh := Nat.lt_of_lt_of_le nh (below1 hb).size
    replace x0 := cell_next (below1 hb) nx x0
    replace x1 := cell_next (below1 hb) nx x1
    replace fx0 := frozen_next (below1 hb) nx fx0
    replace fx1 := frozen_next (below1 hb) nx fx1
    replace nx := Nat.lt_of_lt_of_le nx (below1 hb).size
    replace y0 := cell_next (below1 hb) ny y0
    replace y1 := cell_next (below1 hb) ny y1
    replace ny := Nat.lt_of_lt_of_le ny (below1 hb).size
    have z0 := cell_next hb (b := W8.heap.size) (o := 0) (by simp <;> omega) (v := some (.int .i64 ul)) (by simp [go_sem])
    have z1 := cell_next hb (b := W8.heap.size) (o := 1) (by simp <;> omega) (v := some (.int .i64 uh)) (by simp [go_sem])
    have nz : W8.heap.size < W9.heap.size := by have := hb.size; simp at this; omega
    replace hB := hB.trans ((below1 hb).mono hB.size)
    clear hb
    generalize W8.heap.size = q9 at *
    have ld := nx
    go_wp2_with fail
    refine (ce.out _).mono ?_
    rintro e W10 ⟨rfl, hb⟩
    replace A0 := cell_next (below1 hb) nA A0
    replace A1 := cell_next (below1 hb) nA A1
    replace nA := Nat.lt_of_lt_of_le nA (below1 hb).size
    replace B0 := cell_next (below1 hb) nB B0
    replace B1 := cell_next (below1 hb) nB B1
    replace nB := Nat.lt_of_lt_of_le nB (below1 hb).size
    replace s0 := cell_next (below1 hb) ns s0
    replace s1 := cell_next (below1 hb) ns s1
    replace ns := Nat.lt_of_lt_of_le ns (below1 hb).size
    replace m0 := cell_next (below1 hb) nm m0
    replace m1 := cell_next (below1 hb) nm m1
    replace nm := Nat.lt_of_lt_of_le nm (below1 hb).size
    replace h0 := cell_next (below1 hb) nh h0
    replace h1 := cell_next (below1 hb) nh h1
    replace nh := Nat.lt_of_lt_of_le nh (below1 hb).size
    replace x0 := cell_next (below1 hb) nx x0
    replace x1 := cell_next (below1 hb) nx x1
    replace fx0 := frozen_next (below1 hb) nx fx0
    replace fx1 := frozen_next (below1 hb) nx fx1
    replace nx := Nat.lt_of_lt_of_le nx (below1 hb).size
    replace y0 := cell_next (below1 hb) ny y0
    replace y1 := cell_next (below1 hb) ny y1
    replace ny := Nat.lt_of_lt_of_le ny (below1 hb).size
    replace z0 := cell_next (below1 hb) nz z0
    replace z1 := cell_next (below1 hb) nz z1
    replace nz := Nat.lt_of_lt_of_le nz (below1 hb).size
    have d0 := cell_next hb (b := W9.heap.size) (o := 0) (by simp <;> omega) (v := some (.int .i64 dl)) (by simp [go_sem])
    have d1 := cell_next hb (b := W9.heap.size) (o := 1) (by simp <;> omega) (v := some (.int .i64 dh)) (by simp [go_sem])
    have nd : W9.heap.size < W10.heap.size := by have := hb.size; simp at this; omega
    replace hB := hB.trans ((below1 hb).mono hB.size)
    clear hb
    generalize W9.heap.size = q10 at *
    clear s0 s1 ns
    clear m0 m1 nm
    clear h0 h1 nh
    clear y0 y1 ny
    clear z0 z1 nz
    go_wp2_with fail
    refine (cf.out _).mono ?_
    rintro e V1 ⟨rfl, hb⟩
    have hx1 : w.heap.size ≤ q7 := by omega
    obtain ⟨y0, y1⟩ := set2 (.int .i64 dl) (.int .i64 dh) x0 x1
    replace A0 := set2_far (b := q7) (.int .i64 dl) (.int .i64 dh) (by omega) A0
    replace A1 := set2_far (b := q7) (.int .i64 dl) (.int .i64 dh) (by omega) A1
    replace B0 := set2_far (b := q7) (.int .i64 dl) (.int .i64 dh) (by omega) B0
    replace B1 := set2_far (b := q7) (.int .i64 dl) (.int .i64 dh) (by omega) B1
    replace d0 := set2_far (b := q7) (.int .i64 dl) (.int .i64 dh) (by omega) d0
    replace d1 := set2_far (b := q7) (.int .i64 dl) (.int .i64 dh) (by omega) d1
    have hset := (hB.setCell (p := ⟨q7, 0, none⟩) hx1 (.int .i64 dl)).setCell (p := ⟨q7, 1, none⟩) hx1 (.int .i64 dh)
    have hsz : ((W10.setCell ⟨q7, 0, none⟩ (.int .i64 dl)).setCell ⟨q7, 1, none⟩ (.int .i64 dh)).heap.size = W10.heap.size := by simp
    replace y0 := cell_next hb (by omega) y0
    replace y1 := cell_next hb (by omega) y1
    replace A0 := cell_next hb (by omega) A0
    replace A1 := cell_next hb (by omega) A1
    replace B0 := cell_next hb (by omega) B0
    replace B1 := cell_next hb (by omega) B1
    replace d0 := cell_next hb (by omega) d0
    replace d1 := cell_next hb (by omega) d1
    have nV : w.heap.size + 1 < V1.heap.size := by have := hb.size; omega
    replace hB := hset.trans (hb.mono hset.size)
    clear hb hset hsz x0 x1 nA nB nx nd lx ld hx1 fx0 fx1
    obtain ⟨u1, hu1⟩ : ∃ u, decide (a2 ≤ b1) = u := ⟨_, rfl⟩
    obtain ⟨u2, hu2⟩ : ∃ u, decide (a1 ≤ b2) = u := ⟨_, rfl⟩
    have Hu1 := Lib.hid hu1
    have Hu2 := Lib.hid hu2
    obtain ⟨fe, hfe⟩ : ∃ fe : Int, (if (p && q) = true then (0 : Int) else 2) = fe := ⟨_, rfl⟩
    have HF := Lib.hid hfe
    rw [hu1, hu2, hfe]
    clear hu1 hu2 hfe
    go_wp2_with fail
    refine (cg.out _).mono ?_
    rintro e V2 ⟨rfl, hb⟩
    clear y0 y1 d0 d1
    have nA : w.heap.size < V1.heap.size := by omega
    replace A0 := cell_next hb nA A0
    replace A1 := cell_next hb nA A1
    replace B0 := cell_next hb nV B0
    replace B1 := cell_next hb nV B1
    replace nV := Nat.lt_of_lt_of_le nV hb.size
    replace hB := hB.trans (hb.mono hB.size)
    clear hb nA
    cases p
    · obtain rfl : fe = 2 := by have := HF.out; simpa using this.symm
      clear HF
      go_wp2_with fail
      refine (known_any _).mono ?_
      rintro e V3 ⟨rfl, hb⟩
      replace hB := hB.trans (hb.mono hB.size)
      clear hb
      go_wp2_with fail
      go_ret
      exact ⟨rfl, hB⟩
    · go_wp2_with fail
      refine (ck.out _).mono ?_
      rintro e V3 ⟨rfl, hb⟩
      have nA : w.heap.size < V2.heap.size := by omega
      replace A0 := cell_next hb nA A0
      replace A1 := cell_next hb nA A1
      replace B0 := cell_next hb nV B0
      replace B1 := cell_next hb nV B1
      replace hB := hB.trans (hb.mono hB.size)
      clear hb nA nV
      cases q
      · obtain rfl : fe = 2 := by have := HF.out; simpa using this.symm
        clear HF
        go_wp2_with fail
        refine (known_any _).mono ?_
        rintro e V4 ⟨rfl, hb⟩
        replace hB := hB.trans (hb.mono hB.size)
        clear hb
        go_wp2_with fail
        go_ret
        exact ⟨rfl, hB⟩
      · obtain rfl : fe = 0 := by have := HF.out; simpa using this.symm
        clear HF
        have hu1 := Hu1.out
        have hu2 := Hu2.out
        clear Hu1 Hu2
        cases u1 <;> cases u2
        all_goals
          go_wp2_with fail
          refine (known_any _).mono ?_
          rintro e V4 ⟨rfl, hb⟩
          replace hB := hB.trans (hb.mono hB.size)
          clear hb
          go_wp2_with fail
          go_ret
          exact ⟨rfl, hB⟩
end Go.Proofs.Ytgakniehfnegiaa
