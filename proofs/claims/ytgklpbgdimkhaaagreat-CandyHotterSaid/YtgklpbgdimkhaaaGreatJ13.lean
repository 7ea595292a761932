/- Plain: what the calls of chapter 11's examples come to. -/
import Derived.Test.YtgklpbgdimkhaaaGreatJ11
import Derived.Test.YtgklpbgdimkhaaaGreatJ12
namespace Go.Proofs.YtgklpbgdimkhaaaGreat
open Go.RowKit Go.Lib Go.Shelf
set_option linter.unusedVariables false
set_option linter.unusedSimpArgs false


theorem dnF_eq {xs : List (Int × Int)} (he : ElOk xs) {h x : Int} (h1 : hdX xs ≤ x) (h2 : x ≤ ltX xs) (h3 : h ≤ (valV xs x).1) (h4 : x = hdX xs ∨ (valV xs (x - 1)).1 < h) : dnF xs h = x := by
 obtain ⟨m, f, l, hm, hf, hl, e1, e2, _⟩ := tab_ends he.tab
 refine firstIs_one (dnF_is he.tab h) ⟨h1, by omega, fun y a b => ?_, fun _ => ?_⟩
 ·rcases h4 with h4 | h4
  ·omega
  ·have := el_mono he (x := y) (y := x - 1) (cov_of hm hf hl (by omega) (by omega)) (cov_of hm hf hl (by omega) (by omega)) (by omega)
   unfold denP; simp; omega
 ·unfold denP; simpa using h3
def xsU : List (Int × Int) := [(0, 0), (6600, 40), (8600, 180), (9500, 300)]
def ysU : List (Int × Int) := [(0, 6400), (1000, 8300)]
def psU : List Pd := [⟨8400, 8700, 0, 300, 15, 60, 0, 90⟩, ⟨8500, 9000, 600, 1000, 2, 6, 0, 60⟩, ⟨9000, 9600, 900, 1300, 5, 20, 0, 40⟩]
def RU : Cr := ⟨xsU, ysU, 995, 1005, psU⟩
theorem elU : ElOk xsU := elB_ok (by decide +kernel)
theorem crU : crB RU = true := by decide +kernel
theorem dnU {h x : Int} (hx : 6601 ≤ x) (hx2 : x ≤ 8600) (h3 : h ≤ (segV (6600, 40) (8600, 180) x).1) (h4 : (segV (6600, 40) (8600, 180) (x - 1)).1 < h) : dnF xsU h = x := by
 have e1 : hdX xsU = 0 := by decide +kernel
 have e2 : ltX xsU = 9500 := by decide +kernel
 have s1 := seg_val elU.tab (k := 1) (p := (6600, 40)) (q := (8600, 180)) rfl rfl x (by simp; omega) (by simp; omega)
 have s2 := seg_val elU.tab (k := 1) (p := (6600, 40)) (q := (8600, 180)) rfl rfl (x - 1) (by simp; omega) (by simp; omega)
 exact dnF_eq elU (by rw [e1]; omega) (by rw [e2]; omega) (by rw [s1]; exact h3) (.inr (by rw [s2]; exact h4))
theorem dnU' {h x : Int} (hx : 8601 ≤ x) (hx2 : x ≤ 9500) (h3 : h ≤ (segV (8600, 180) (9500, 300) x).1) (h4 : (segV (8600, 180) (9500, 300) (x - 1)).1 < h) : dnF xsU h = x := by
 have e1 : hdX xsU = 0 := by decide +kernel
 have e2 : ltX xsU = 9500 := by decide +kernel
 have s1 := seg_val elU.tab (k := 2) (p := (8600, 180)) (q := (9500, 300)) rfl rfl x (by simp; omega) (by simp; omega)
 have s2 := seg_val elU.tab (k := 2) (p := (8600, 180)) (q := (9500, 300)) rfl rfl (x - 1) (by simp; omega) (by simp; omega)
 exact dnF_eq elU (by rw [e1]; omega) (by rw [e2]; omega) (by rw [s1]; exact h3) (.inr (by rw [s2]; exact h4))
theorem ltU : ltX xsU = 9500 := by decide +kernel
theorem dn125 : dnF xsU 125 = 7815 := dnU (by omega) (by omega) (by decide +kernel) (by decide +kernel)
theorem dn140 : dnF xsU 140 = 8029 := dnU (by omega) (by omega) (by decide +kernel) (by decide +kernel)
theorem dn175 : dnF xsU 175 = 8529 := dnU (by omega) (by omega) (by decide +kernel) (by decide +kernel)
theorem dn185 : dnF xsU 185 = 8638 := dnU' (by omega) (by omega) (by decide +kernel) (by decide +kernel)
theorem dnU1 : dnE xsU 995 1005 1130 1135 = 0 ∧ dnR xsU 995 1005 1130 1135 = (7815, 8029) := by
 have := dnE_ok (xs := xsU) (bl := 995) (bh := 1005) (tl := 1130) (th := 1135) (by decide +kernel) (by rw [show (1135 : Int) - 995 = 140 from rfl, dn140, ltU]; omega)
 rw [show (1135 : Int) - 995 = 140 from rfl, show (1130 : Int) - 1005 = 125 from rfl, dn140, dn125] at this
 exact this
theorem dnU2 : dnE xsU 995 1005 1180 1180 = 0 ∧ dnR xsU 995 1005 1180 1180 = (8529, 8638) := by
 have := dnE_ok (xs := xsU) (bl := 995) (bh := 1005) (tl := 1180) (th := 1180) (by decide +kernel) (by rw [show (1180 : Int) - 995 = 185 from rfl, dn185, ltU]; omega)
 rw [show (1180 : Int) - 995 = 185 from rfl, show (1180 : Int) - 1005 = 175 from rfl, dn185, dn175] at this
 exact this
theorem rdU : rdE RU 1130 1135 = 0 ∧ rdR RU 1130 1135 = (7815, 8029) := by
 unfold rdE rdR
 rw [if_pos crU, if_pos crU]
 exact dnU1
theorem slU : slB ysU = true := by decide +kernel
theorem vlU : vlE ysU 0 0 = 0 ∧ vlR ysU 0 0 = (6400, 6400) := by
 have ht := (slB_ok slU).1
 have e0 : vlE ysU 0 0 = 0 := by decide +kernel
 refine ⟨e0, ?_⟩
 have s1 : valV ysU 0 = (6400, 6400) := (seg_val ht (k := 0) (p := (0, 6400)) (q := (1000, 8300)) rfl rfl 0 (by simp) (by simp)).trans (by decide +kernel)
 unfold vlR
 rw [if_pos e0]
 unfold valsV vs0
 rw [s1]
 decide +kernel
theorem ccU : ccE RU 340 660 0 0 = 0 ∧ ccR RU 340 660 0 0 = (56, 56) := by
 have e0 : ccE RU 340 660 0 0 = 0 := by
  unfold ccE
  rw [if_pos crU, if_pos (by decide +kernel)]
  exact vlU.1
 refine ⟨e0, ?_⟩
 unfold ccR
 rw [if_pos e0, show RU.ys = ysU from rfl, vlU.2]
 decide +kernel
def s1U : St := ⟨8529, 8638, 1180, 1180, 0, 0, 0, 0, false, 0⟩
def s2U : St := ⟨8529, 8638, 200, 250, 0, 0, 0, 0, false, 0⟩
def s3U : St := ⟨8529, 8638, 200, 250, 200, 250, 20, 20, true, 0⟩
def actsU : List Ac := [⟨1, 1180, 1180, 0⟩, ⟨2, 200, 250, 0⟩, ⟨3, 20, 20, 0⟩]
theorem st0U : st0 2000 4000 = ⟨6666, 6667, 0, 0, 0, 0, 0, 0, false, 0⟩ := by
 show (⟨brL 2000 4000, brH 2000 4000, 0, 0, 0, 0, 0, 0, false, 0⟩ : St) = _
 rw [show brL 2000 4000 = 6666 from by decide +kernel, show brH 2000 4000 = 6667 from by decide +kernel]
theorem a1U : acE RU (st0 2000 4000) ⟨1, 1180, 1180, 0⟩ = 0 ∧ acS RU (st0 2000 4000) ⟨1, 1180, 1180, 0⟩ = s1U := by
 have e : ckE RU (st0 2000 4000) 1180 1180 = 0 := by
  rw [st0U]; unfold ckE; rw [if_neg (by simp)]; exact dnU2.1
 refine ⟨?_, ?_⟩
 ·unfold acE; rw [if_pos rfl, if_pos rfl]; exact e
 ·unfold acS; rw [if_pos rfl, if_pos rfl]; unfold ckS; rw [if_pos e, st0U, show dnR RU.xs RU.bl RU.bh 1180 1180 = (8529, 8638) from dnU2.2]; rfl
theorem a2U : acE RU s1U ⟨2, 200, 250, 0⟩ = 0 ∧ acS RU s1U ⟨2, 200, 250, 0⟩ = s2U := by
 have e : coE s1U 200 250 = 0 := by decide +kernel
 refine ⟨?_, ?_⟩
 ·unfold acE; rw [if_neg (by simp), if_pos rfl, if_pos rfl]; exact e
 ·unfold acS; rw [if_neg (by simp), if_pos rfl, if_pos rfl]; unfold coS; rw [if_pos e]; rfl
theorem a3U : acE RU s2U ⟨3, 20, 20, 0⟩ = 0 ∧ acS RU s2U ⟨3, 20, 20, 0⟩ = s3U := by
 have e : siE s2U 20 20 = 0 := by decide +kernel
 refine ⟨?_, ?_⟩
 ·unfold acE; rw [if_neg (by simp), if_neg (by simp), if_pos rfl, if_pos rfl]; exact e
 ·unfold acS; rw [if_neg (by simp), if_neg (by simp), if_pos rfl, if_pos rfl]; unfold siS; rw [if_pos e]; rfl
theorem okU : okTo RU (st0 2000 4000) actsU 3 := by
 intro j a hj ha
 obtain rfl | rfl | rfl : j = 0 ∨ j = 1 ∨ j = 2 := by omega
 ·simp [actsU] at ha; subst ha; exact a1U.1
 ·simp [actsU] at ha; subst ha
  show acE RU (acS RU (st0 2000 4000) ⟨1, 1180, 1180, 0⟩) _ = 0
  rw [a1U.2]; exact a2U.1
 ·simp [actsU] at ha; subst ha
  show acE RU (acS RU (acS RU (st0 2000 4000) ⟨1, 1180, 1180, 0⟩) ⟨2, 200, 250, 0⟩) _ = 0
  rw [a1U.2, a2U.2]; exact a3U.1
theorem stU : stL RU (st0 2000 4000) actsU 3 = [s1U, s2U, s3U] := by
 show [acS RU (st0 2000 4000) ⟨1, 1180, 1180, 0⟩, acS RU (acS RU (st0 2000 4000) ⟨1, 1180, 1180, 0⟩) ⟨2, 200, 250, 0⟩, acS RU (acS RU (acS RU (st0 2000 4000) ⟨1, 1180, 1180, 0⟩) ⟨2, 200, 250, 0⟩) ⟨3, 20, 20, 0⟩] = _
 rw [a1U.2, a2U.2, a3U.2]
theorem nbU : nbE RU 2000 4000 = 0 := by
 unfold nbE; rw [if_pos crU]; decide +kernel
theorem mkU : MkRes RU 2000 4000 actsU 0 0 := .inr (.inr ⟨nbU, by decide, .inr ⟨okU, rfl, rfl⟩⟩)
theorem pcU : pcE RU s3U = 0 := by unfold pcE; rw [if_pos crU]; decide +kernel
theorem cbU : cbL (stC s3U) s3U.se RU.ps = [0] := by
 have e : ddL (pdF s3U.se RU.ps) (ptsL (stC s3U) (RU.ps.map pdC)) = [0] := by decide +kernel
 unfold cbL; rw [e]; simp
theorem yiU : yiE 2000 4000 s3U = 0 ∧ yiR 2000 4000 s3U = (4630, 4689) := by decide +kernel
theorem ndU : ndE RU ⟨0, 1000, 0⟩ = 0 ∧ ndS RU.ps ⟨0, 1000, 0⟩ = 870 ∧ ndW RU.ps ⟨0, 1000, 0⟩ = 90 := by
 refine ⟨?_, by decide +kernel, by decide +kernel⟩
 unfold ndE; rw [if_pos crU]; decide +kernel
end Go.Proofs.YtgklpbgdimkhaaaGreat
