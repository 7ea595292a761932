/- Plain: what is hotter is no less dense, yields no more, and of it no more crystallizes. -/
import Derived.Test.YtgklpbgdimkhaaaGreatJ4
namespace Go.Proofs.YtgklpbgdimkhaaaGreat
open Go.RowKit Go.Lib Go.Shelf
set_option linter.unusedVariables false
set_option linter.unusedSimpArgs false

theorem jmin2 {P : Program} (tys : Array TypeId) (ty : TypeId) (k : IntKind) (x y : Int) (w : World) : (Builtin.min_ tys ty #[.int k x, .int k y]).run P w = .ok (.int k (min x y)) w := by
 simp [Builtin.min_, Builtin.min2]
 split <;> omega
theorem div_anti {n c d : Int} (hn : 0 ≤ n) (hd : 0 < d) (hc : d ≤ c) : n / c ≤ n / d := by
 refine Int.le_ediv_of_mul_le hd ?_
 have h0 : 0 ≤ n / c := Int.ediv_nonneg hn (by omega)
 have h1 : n / c * d ≤ n / c * c := Int.mul_le_mul_of_nonneg_left hc h0
 have h2 : n / c * c ≤ n := Int.ediv_mul_le n (by omega)
 omega
theorem rd_at {R : Cr} (hc : crB R = true) {tl th : Int} (h : rgB (-2000) 2000 tl th = true) : rdE R tl th = (if dnF R.xs (th - R.bl) ≤ ltX R.xs then 0 else 7) ∧ (dnF R.xs (th - R.bl) ≤ ltX R.xs → rdR R tl th = (dnF R.xs (tl - R.bh), dnF R.xs (th - R.bl))) := by
 have e : rdE R tl th = (if dnF R.xs (th - R.bl) ≤ ltX R.xs then 0 else 7) := by unfold rdE dnE; rw [if_pos hc, if_pos h]
 refine ⟨e, fun hd => ?_⟩
 unfold rdR
 rw [if_pos hc]
 exact (dnE_ok h hd).2
theorem va_of {xs : List (Int × Int)} (ht : TabOk xs) {x : Int} (hc : covB xs x = true) : vaE xs x = 0 ∧ vaR xs x = valV xs x := by
 have e : vaE xs x = 0 := by unfold vaE; rw [if_pos (tabE_of ht), if_pos hc]
 exact ⟨e, by unfold vaR; rw [if_pos e]⟩
theorem cov_lt {xs : List (Int × Int)} (ht : TabOk xs) {x : Int} (h1 : hdX xs ≤ x) (h2 : x ≤ ltX xs) : covB xs x = true := by
 obtain ⟨m, f, l, hm, hf, hl, e1, e2, _⟩ := tab_ends ht
 exact cov_of hm hf hl (by omega) (by omega)
theorem dn_reach {xs : List (Int × Int)} (he : ElOk xs) {h : Int} (hd : dnF xs h ≤ ltX xs) : vaE xs (dnF xs h) = 0 ∧ h ≤ (vaR xs (dnF xs h)).2 := by
 obtain ⟨a1, a2, a3, a4⟩ := dnF_is he.tab h
 have hc := cov_lt he.tab a1 hd
 obtain ⟨e1, e2⟩ := va_of he.tab hc
 have hp := a4 hd
 have hg := valV_gap he.tab hc
 simp [denP] at hp
 rw [e2]
 exact ⟨e1, by omega⟩
theorem dn_before {xs : List (Int × Int)} (he : ElOk xs) {h : Int} (hlt : hdX xs < dnF xs h) : vaE xs (dnF xs h - 1) = 0 ∧ (vaR xs (dnF xs h - 1)).1 < h := by
 obtain ⟨a1, a2, a3, a4⟩ := dnF_is he.tab h
 have hc := cov_lt he.tab (x := dnF xs h - 1) (by omega) (by omega)
 obtain ⟨e1, e2⟩ := va_of he.tab hc
 have hp := a3 (dnF xs h - 1) (by omega) (by omega)
 simp [denP] at hp
 rw [e2]
 exact ⟨e1, by omega⟩
theorem dn_none {xs : List (Int × Int)} (he : ElOk xs) {h : Int} (hd : ¬ dnF xs h ≤ ltX xs) {m : Nat} {l : Int × Int} (hm : xs.length = m + 1) (hl : xs[m]? = some l) : l.2 < h := by
 obtain ⟨m', f, l', hm', hf, hl', e1, e2, e3⟩ := tab_ends he.tab
 obtain rfl : m = m' := by omega
 rw [hl] at hl'
 injection hl' with hl'
 subst hl'
 obtain ⟨a1, a2, a3, a4⟩ := dnF_is he.tab h
 have hp := a3 (ltX xs) (by omega) (by omega)
 have hv := valV_row he.tab (List.mem_of_getElem? hl)
 rw [e2] at hp
 unfold denP at hp
 rw [hv] at hp
 simpa using hp
theorem lt_bd {xs : List (Int × Int)} (he : ElOk xs) : 0 ≤ hdX xs ∧ ltX xs ≤ 10000 := by
 obtain ⟨m, f, l, _, hf, hl, e1, e2, _⟩ := tab_ends he.tab
 have r1 := he.row f (List.mem_of_getElem? hf)
 have r2 := he.row l (List.mem_of_getElem? hl)
 omega

theorem boilW_is {a s b : Int} (h : spB a s = true) (h0 : s ≠ 0) (hb : 1 ≤ b) (hb2 : b ≤ 10000) : boilW a s b = max 0 (a + s - s * 10000 / b) := by
 have e : cbE a s b = 0 := by unfold cbE; rw [if_pos h, if_neg (by omega), if_neg h0]
 unfold boilW
 rw [if_pos e]
theorem bdV_facts {a s b c : Int} (h : spB a s = true) (h0 : s ≠ 0) (hb : 1 ≤ b) (hbc : b ≤ c) (hc : c ≤ 10000) : bdV a s c ≤ bdV a s b ∧ s ≤ bdV a s c ∧ bdV a s b ≤ a + s := by
 have hs := spB_ge h
 unfold bdV
 rw [boilW_is h h0 hb (by omega), boilW_is h h0 (by omega) hc]
 have h1 := div_anti (n := s * 10000) (by omega) (show (0 : Int) < b by omega) hbc
 have h2 : s ≤ s * 10000 / c := Int.le_ediv_of_mul_le (by omega) (Int.mul_le_mul_of_nonneg_left hc hs.2.2.1)
 omega
def stD (dl dh : Int) : St := ⟨dl, dh, 0, 0, 0, 0, 0, 0, false, 0⟩
theorem yi_at {a s dl dh : Int} (h : spB a s = true) (h0 : s ≠ 0) (h1 : 1 ≤ dl) (h2 : dl ≤ dh) (h3 : dh ≤ 10000) : yiE a s (stD dl dh) = 0 ∧ yiR a s (stD dl dh) = (bdV a s dh + 0, bdV a s dl + 0) := by
 have hb : yiB a s (stD dl dh) = true := by show (spB a s && rgB 1 10000 dl dh && inB 0 1000000 0) = true; rw [h]; simp [rgB, inB]; omega
 have e : yiE a s (stD dl dh) = 0 := by unfold yiE; rw [if_pos hb, if_neg h0]
 exact ⟨e, by unfold yiR; rw [if_pos e]; rfl⟩

theorem cyV_anti {a s y z : Int} (ha : 0 ≤ a) (hy : 0 ≤ y) (hyz : y ≤ z) (hz : z ≤ 9999) : cyV a s z ≤ cyV a s y := by
 have h1 : a * y ≤ a * z := Int.mul_le_mul_of_nonneg_left hyz ha
 have h2 := Int.ediv_le_ediv (a := a * y) (b := a * z) (c := 10000 - y) (by omega) h1
 have h3 := div_anti (n := a * z) (c := 10000 - y) (d := 10000 - z) (Int.mul_nonneg ha (by omega)) (by omega) (by omega)
 unfold cyV
 omega
theorem cyV_bd {a s y : Int} (ha : 0 ≤ a) (hs : 0 ≤ s) (hy : 0 ≤ y) (hz : y ≤ 9999) : 0 ≤ cyV a s y ∧ cyV a s y ≤ s := by
 have h1 : 0 ≤ a * y / (10000 - y) := Int.ediv_nonneg (Int.mul_nonneg ha hy) (by omega)
 unfold cyV
 omega
theorem vals_pt {xs : List (Int × Int)} (ht : TabOk xs) {p : Int × Int} (hp : p ∈ xs) : valsV xs p.1 p.1 = (p.2, p.2) := by
 have key : ∀ (l : List (Int × Int)) (s : Int × Int), l.foldl (vsJ p.1 p.1) s = s := by
  intro l
  induction l with
  | nil => intro s; rfl
  | cons q l ih => intro s; rw [List.foldl_cons, ih]; unfold vsJ; rw [if_neg (by omega)]
 unfold valsV
 rw [key]
 unfold vs0
 rw [valV_row ht hp]
 simp
theorem cc_at {R : Cr} (hc : crB R = true) {a s tl th : Int} (hs : spB a s = true) (h1 : covB R.ys tl = true) (h2 : covB R.ys th = true) (h3 : vrB tl th = true) : ccE R a s tl th = 0 ∧ ccR R a s tl th = (cyV a s (valsV R.ys tl th).2, cyV a s (valsV R.ys tl th).1) := by
 obtain ⟨ht, hr⟩ := slB_ok (crB_ok hc).2.1
 have e0 : vlE R.ys tl th = 0 := by unfold vlE; rw [if_pos (tabE_of ht), if_pos h3, if_pos ⟨h1, h2⟩]
 have e1 : vlR R.ys tl th = valsV R.ys tl th := by unfold vlR; rw [if_pos e0]
 have e : ccE R a s tl th = 0 := by unfold ccE; rw [if_pos hc, if_pos hs]; exact e0
 refine ⟨e, ?_⟩
 unfold ccR
 rw [if_pos e, e1]
/-- what crystallizes at the first temperature alone, and at all of the table -/
theorem cc_hot {R : Cr} (hc : crB R = true) {a s : Int} (hs : spB a s = true) {m : Nat} {f l : Int × Int} (hm : R.ys.length = m + 1) (hf : R.ys[0]? = some f) (hl : R.ys[m]? = some l) :
  ∃ c dl dh : Int, ccE R a s f.1 f.1 = 0 ∧ ccR R a s f.1 f.1 = (c, c) ∧ ccE R a s f.1 l.1 = 0 ∧ ccR R a s f.1 l.1 = (dl, dh) ∧ 0 ≤ c ∧ c ≤ s ∧ dl ≤ c ∧ c ≤ dh := by
 obtain ⟨ht, hr⟩ := slB_ok (crB_ok hc).2.1
 have hlt := ht.2.2.2 0 m f l (by have := ht.1; omega) hf hl
 have r1 := hr f (List.mem_of_getElem? hf)
 have r2 := hr l (List.mem_of_getElem? hl)
 have c1 : covB R.ys f.1 = true := cov_of hm hf hl (Int.le_refl _) (by omega)
 have c2 : covB R.ys l.1 = true := cov_of hm hf hl (by omega) (Int.le_refl _)
 obtain ⟨a1, a2⟩ := cc_at hc hs c1 c1 (by simp [vrB]; omega)
 obtain ⟨b1, b2⟩ := cc_at hc hs c1 c2 (by simp [vrB]; omega)
 have hsp := spB_ge hs
 have hv := (valsV_in ht f.1 l.1).1
 have hw := valV_row ht (List.mem_of_getElem? hf)
 rw [hw] at hv
 have hi := vals_in ht (lo := 0) (hi := 9999) (fun p hp => by have := hr p hp; omega) c1 c2
 rw [vals_pt ht (List.mem_of_getElem? hf)] at a2
 dsimp only at hv a2
 have k1 := cyV_bd (a := a) (s := s) (y := f.2) hsp.1 hsp.2.2.1 (by omega) (by omega)
 have k2 := cyV_anti (a := a) (s := s) (y := f.2) (z := (valsV R.ys f.1 l.1).2) hsp.1 (by omega) (by omega) (by omega)
 have k3 := cyV_anti (a := a) (s := s) (y := (valsV R.ys f.1 l.1).1) (z := f.2) hsp.1 (by omega) (by omega) (by omega)
 exact ⟨_, _, _, a1, a2, b1, b2, k1.1, k1.2, k2, k3⟩
end Go.Proofs.YtgklpbgdimkhaaaGreat
