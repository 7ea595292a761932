/- Plain: the least density at which the elevation reaches a heat. -/
import Derived.Test.YtgklpbgdimkhaaaGreatKA7
import Derived.Test.YtgklpbgdimkhaaaGreatKA9
namespace Go.Proofs.YtgklpbgdimkhaaaGreat
open Go.RowKit Go.Lib Go.Shelf
set_option linter.unusedVariables false
set_option linter.unusedSimpArgs false

/-- the rows of an elevation -/
def elUp (xs : List (Int × Int)) (k : Nat) (y : Int) : Bool := match k with | 0 => true | j + 1 => match xs[j]? with | none => true | some q => decide (q.2 < y)
def elRow (xs : List (Int × Int)) (k : Nat) : Bool := match xs[k]? with
 | none => true
 | some p => inB 0 10000 p.1 && inB 0 2000 p.2 && elUp xs k p.2
def elRows (xs : List (Int × Int)) : Nat → Bool | 0 => true | n + 1 => elRows xs n && elRow xs n
def elB (xs : List (Int × Int)) : Bool := decide (tabE xs = 0) && elRows xs xs.length
def slP (p : Int × Int) : Bool := inB (-2000) 2000 p.1 && inB 0 9999 p.2
def slB (xs : List (Int × Int)) : Bool := decide (tabE xs = 0) && xs.all slP
theorem elRow_of {xs : List (Int × Int)} {k : Nat} {p : Int × Int} (h : xs[k]? = some p) : elRow xs k = (inB 0 10000 p.1 && inB 0 2000 p.2 && elUp xs k p.2) := by
 unfold elRow
 simp only [h]
theorem elUp_succ {xs : List (Int × Int)} {j : Nat} {q : Int × Int} (hq : xs[j]? = some q) (y : Int) : elUp xs (j + 1) y = decide (q.2 < y) := by unfold elUp; simp only [hq]
theorem elRows_no (xs : List (Int × Int)) (n k : Nat) (hk : k < n) (h : elRow xs k = false) : elRows xs n = false := by
 induction n with
 | zero => omega
 | succ n ih =>
  unfold elRows
  by_cases e : k = n
  ·subst e; rw [h]; simp
  ·rw [ih (by omega)]; simp
theorem elRows_at (xs : List (Int × Int)) (n : Nat) (h : elRows xs n = true) (k : Nat) (hk : k < n) : elRow xs k = true := by
 cases e : elRow xs k
 ·rw [elRows_no xs n k hk e] at h; cases h
 ·rfl

/-- an elevation -/
structure ElOk (xs : List (Int × Int)) : Prop where
 tab : TabOk xs
 row : ∀ p ∈ xs, 0 ≤ p.1 ∧ p.1 ≤ 10000 ∧ 0 ≤ p.2 ∧ p.2 ≤ 2000
 up : ∀ (i j : Nat) (p q : Int × Int), i < j → xs[i]? = some p → xs[j]? = some q → p.2 < q.2
theorem elB_ok {xs : List (Int × Int)} (h : elB xs = true) : ElOk xs := by
 unfold elB at h
 rw [Bool.and_eq_true] at h
 obtain ⟨h1, h2⟩ := h
 have hrow : ∀ p ∈ xs, 0 ≤ p.1 ∧ p.1 ≤ 10000 ∧ 0 ≤ p.2 ∧ p.2 ≤ 2000 := fun p hp => by
  obtain ⟨k, hk⟩ := List.getElem?_of_mem hp
  have h3 := elRows_at xs _ h2 k (List.getElem?_eq_some_iff.1 hk).1
  rw [elRow_of hk, Bool.and_eq_true, Bool.and_eq_true] at h3
  have h4 := h3.1
  simp [inB] at h4
  omega
 refine ⟨tabOk_of (by simpa using h1), hrow, ?_⟩
 intro i j p q hij hp hq
 have hjl : j < xs.length := (List.getElem?_eq_some_iff.1 hq).1
 induction j generalizing q with
 | zero => omega
 | succ j ih =>
  obtain ⟨r, hr⟩ : ∃ r, xs[j]? = some r := ⟨_, List.getElem?_eq_getElem (by omega)⟩
  have h3 := elRows_at xs _ h2 (j + 1) hjl
  rw [elRow_of hq, Bool.and_eq_true, elUp_succ hr] at h3
  have h4 : r.2 < q.2 := by simpa using h3.2
  by_cases e : i = j
  ·subst e; rw [hp] at hr; injection hr with hr; subst hr; exact h4
  ·have := ih r (by omega) hr (by omega)
   omega
theorem slB_ok {xs : List (Int × Int)} (h : slB xs = true) : TabOk xs ∧ ∀ p ∈ xs, -2000 ≤ p.1 ∧ p.1 ≤ 2000 ∧ 0 ≤ p.2 ∧ p.2 ≤ 9999 := by
 unfold slB at h
 rw [Bool.and_eq_true] at h
 refine ⟨tabOk_of (by simpa using h.1), fun p hp => ?_⟩
 have := List.all_eq_true.1 h.2 p hp
 simp [slP, inB] at this
 omega

theorem seg_between {p q : Int × Int} (hw : p.1 < q.1) {x : Int} (h1 : p.1 ≤ x) (h2 : x ≤ q.1) : min p.2 q.2 ≤ (segV p q x).1 ∧ (segV p q x).1 ≤ max p.2 q.2 ∧ min p.2 q.2 ≤ (segV p q x).2 ∧ (segV p q x).2 ≤ max p.2 q.2 := by
 unfold segV
 simp only
 have hd : 0 < q.1 - p.1 := by omega
 have h3 : 0 ≤ x - p.1 := by omega
 have h4 : x - p.1 ≤ q.1 - p.1 := by omega
 generalize x - p.1 = e at *
 generalize q.1 - p.1 = d at *
 rcases Int.lt_or_le (q.2 - p.2) 0 with hn | hn
 ·have m1 : (q.2 - p.2) * d ≤ (q.2 - p.2) * e := Int.mul_le_mul_of_nonpos_left (by omega) h4
  have m2 : (q.2 - p.2) * e ≤ 0 := Int.mul_nonpos_of_nonpos_of_nonneg (by omega) h3
  have a1 := Int.le_ediv_of_mul_le (a := q.2 - p.2) (b := (q.2 - p.2) * e) hd m1
  have a2 := Int.ediv_le_of_le_mul (a := (q.2 - p.2) * e) (b := 0) hd (by rw [Int.zero_mul]; exact m2)
  have a3 := Int.ediv_le_of_le_mul (a := -((q.2 - p.2) * e)) (b := -(q.2 - p.2)) hd (by rw [Int.neg_mul]; omega)
  have a4 := Int.le_ediv_of_mul_le (a := 0) (b := -((q.2 - p.2) * e)) hd (by rw [Int.zero_mul]; omega)
  omega
 ·have m1 : 0 ≤ (q.2 - p.2) * e := Int.mul_nonneg hn h3
  have m2 : (q.2 - p.2) * e ≤ (q.2 - p.2) * d := Int.mul_le_mul_of_nonneg_left h4 hn
  have a1 := Int.le_ediv_of_mul_le (a := 0) (b := (q.2 - p.2) * e) hd (by rw [Int.zero_mul]; exact m1)
  have a2 := Int.ediv_le_of_le_mul (a := (q.2 - p.2) * e) (b := q.2 - p.2) hd m2
  have a3 := Int.ediv_le_of_le_mul (a := -((q.2 - p.2) * e)) (b := 0) hd (by rw [Int.zero_mul]; omega)
  have a4 := Int.le_ediv_of_mul_le (a := -(q.2 - p.2)) (b := -((q.2 - p.2) * e)) hd (by rw [Int.neg_mul]; omega)
  omega
theorem seg_up {p q : Int × Int} (hw : p.1 < q.1) (hu : p.2 ≤ q.2) {x y : Int} (h : x ≤ y) : (segV p q x).1 ≤ (segV p q y).1 := by
 unfold segV
 simp only
 have := Int.ediv_le_ediv (a := (q.2 - p.2) * (x - p.1)) (b := (q.2 - p.2) * (y - p.1)) (c := q.1 - p.1) (by omega) (Int.mul_le_mul_of_nonneg_left (by omega) (by omega))
 omega

/-- the values of an elevation -/
theorem el_val {xs : List (Int × Int)} (h : ElOk xs) {x : Int} (hc : covB xs x = true) : 0 ≤ (valV xs x).1 ∧ (valV xs x).2 ≤ 2000 := by
 obtain ⟨k, p, q, hp, hq, h1, h2, _⟩ := seg_first h.tab hc
 have hpq := h.tab.2.2.2 k (k + 1) p q (by omega) hp hq
 have r1 := h.row p (List.mem_of_getElem? hp)
 have r2 := h.row q (List.mem_of_getElem? hq)
 rw [seg_val h.tab hp hq x h1 h2]
 have := seg_between hpq h1 h2
 omega
theorem el_mono {xs : List (Int × Int)} (h : ElOk xs) {x y : Int} (hx : covB xs x = true) (hy : covB xs y = true) (hxy : x ≤ y) : (valV xs x).1 ≤ (valV xs y).1 := by
 obtain ⟨k, p, q, hp, hq, h1, h2, _⟩ := seg_first h.tab hx
 obtain ⟨l, p', q', hp', hq', h1', h2', _⟩ := seg_first h.tab hy
 have hpq := h.tab.2.2.2 k (k + 1) p q (by omega) hp hq
 have hpq' := h.tab.2.2.2 l (l + 1) p' q' (by omega) hp' hq'
 have u1 := h.up k (k + 1) p q (by omega) hp hq
 have u2 := h.up l (l + 1) p' q' (by omega) hp' hq'
 rw [seg_val h.tab hp hq x h1 h2, seg_val h.tab hp' hq' y h1' h2']
 rcases Nat.lt_trichotomy k l with hkl | hkl | hkl
 ·have b1 := seg_between hpq h1 h2
  have b2 := seg_between hpq' h1' h2'
  have : q.2 ≤ p'.2 := by
   by_cases e : k + 1 = l
   ·subst e; rw [hq] at hp'; injection hp' with hp'; subst hp'; exact Int.le_refl _
   ·have := h.up (k + 1) l q p' (by omega) hq hp'; omega
  omega
 ·subst hkl
  rw [hp] at hp'; rw [hq] at hq'
  injection hp' with hp'; injection hq' with hq'
  subst hp' hq'
  exact seg_up hpq (by omega) hxy
 ·have : q'.1 ≤ p.1 := by
   by_cases e : l + 1 = k
   ·subst e; rw [hp] at hq'; injection hq' with hq'; subst hq'; exact Int.le_refl _
   ·have := h.tab.2.2.2 (l + 1) k q' p (by omega) hq' hp; omega
  obtain rfl : x = y := by omega
  rw [← seg_val h.tab hp hq x h1 h2, ← seg_val h.tab hp' hq' x h1' h2']
  exact Int.le_refl _

theorem firstIs_some (P : Int → Bool) : ∀ (n : Nat) (a b : Int), b + 1 - a = n → ∃ f, firstIs P a b f := by
 intro n
 induction n with
 | zero => intro a b h; exact ⟨a, Int.le_refl _, by omega, fun x h1 h2 => by omega, fun h1 => by omega⟩
 | succ n ih =>
  intro a b h
  by_cases hp : P a = true
  ·exact ⟨a, Int.le_refl _, by omega, fun x h1 h2 => by omega, fun _ => hp⟩
  ·obtain ⟨f, h1, h2, h3, h4⟩ := ih (a + 1) b (by omega)
   refine ⟨f, by omega, h2, fun x h5 h6 => ?_, h4⟩
   by_cases e : x = a
   ·subst e; simpa using hp
   ·exact h3 x (by omega) h6
def hdX (xs : List (Int × Int)) : Int := (xs.head?.getD (0, 0)).1
def ltX (xs : List (Int × Int)) : Int := (xs.getLast?.getD (0, 0)).1
noncomputable def denP (xs : List (Int × Int)) (h x : Int) : Bool := decide (h ≤ (valV xs x).1)
open Classical in
/-- the least density at which the elevation is at least so much; one behind the last place if there is none -/
noncomputable def dnF (xs : List (Int × Int)) (h : Int) : Int := if e : ∃ f, firstIs (denP xs h) (hdX xs) (ltX xs) f then e.choose else 0
theorem tab_ends {xs : List (Int × Int)} (ht : TabOk xs) : ∃ m f l, xs.length = m + 1 ∧ xs[0]? = some f ∧ xs[m]? = some l ∧ hdX xs = f.1 ∧ ltX xs = l.1 ∧ f.1 < l.1 := by
 obtain ⟨m, hm⟩ : ∃ m, xs.length = m + 1 := ⟨xs.length - 1, by have := ht.1; omega⟩
 obtain ⟨f, hf⟩ : ∃ f, xs[0]? = some f := ⟨_, List.getElem?_eq_getElem (by omega)⟩
 obtain ⟨l, hl⟩ : ∃ l, xs[m]? = some l := ⟨_, List.getElem?_eq_getElem (by omega)⟩
 refine ⟨m, f, l, hm, hf, hl, ?_, ?_, ht.2.2.2 0 m f l (by have := ht.1; omega) hf hl⟩
 ·unfold hdX; rw [List.head?_eq_getElem?, hf]; rfl
 ·unfold ltX; rw [List.getLast?_eq_getElem?, hm, show m + 1 - 1 = m from rfl, hl]; rfl
theorem dnF_is {xs : List (Int × Int)} (ht : TabOk xs) (h : Int) : firstIs (denP xs h) (hdX xs) (ltX xs) (dnF xs h) := by
 obtain ⟨m, f, l, _, _, _, e1, e2, e3⟩ := tab_ends ht
 have he := firstIs_some (denP xs h) (ltX xs + 1 - hdX xs).toNat (hdX xs) (ltX xs) (by omega)
 unfold dnF
 rw [dif_pos he]
 exact he.choose_spec
theorem dnF_mono {xs : List (Int × Int)} (ht : TabOk xs) {h k : Int} (hk : h ≤ k) : dnF xs h ≤ dnF xs k := by
 obtain ⟨a1, a2, a3, a4⟩ := dnF_is ht h
 obtain ⟨b1, b2, b3, b4⟩ := dnF_is ht k
 rcases Int.lt_or_le (dnF xs k) (dnF xs h) with hlt | hlt
 ·have h1 := a3 _ b1 hlt
  have h2 := b4 (by omega)
  simp [denP] at h1 h2
  omega
 ·exact hlt
/-- the first place at which the value is in a range that ends above all -/
theorem wh_first {xs : List (Int × Int)} (he : ElOk xs) (h : Int) (hh : h ≤ 2000) :
  match whV xs h 2000 with
  | [] => dnF xs h = ltX xs + 1
  | r :: _ => dnF xs h = r.1 ∧ r.1 ≤ ltX xs := by
 have ht := he.tab
 obtain ⟨m, f, l, hm, hf, hl, e1, e2, e3⟩ := tab_ends ht
 obtain ⟨w1, w2, w3⟩ := whV_is ht h 2000 hh hm hf hl
 have hP : ∀ x, f.1 ≤ x → x ≤ l.1 → memB (whV xs h 2000) x = denP xs h x := fun x h1 h2 => by
  rw [w3 x h1 h2]
  have := el_val he (cov_of hm hf hl h1 h2)
  unfold insideB denP
  simp; omega
 have hd := dnF_is ht h
 rw [e1, e2] at hd
 rw [e2]
 cases hL : whV xs h 2000 with
 | nil =>
  rw [hL] at hP
  refine firstIs_one hd ⟨by omega, Int.le_refl _, fun x h1 h2 => ?_, fun h1 => by omega⟩
  rw [← hP x h1 (by omega)]; rfl
 | cons r R =>
  rw [hL] at w1 w2 hP
  obtain ⟨a1, a2, a3⟩ := apart_cons w1
  have b := w2 r (by simp)
  refine ⟨firstIs_one hd ⟨b.1, by omega, fun x h1 h2 => ?_, fun h1 => ?_⟩, by omega⟩
  ·rw [← hP x h1 (by omega), memB_cons, memB_low (b := x) (fun q hq => by have := a3 q hq; omega) (Int.le_refl _)]
   simp; omega
  ·rw [← hP r.1 b.1 (by omega), memB_cons]
   simp; omega

/-- Dense -/
noncomputable def dnE (xs : List (Int × Int)) (bl bh tl th : Int) : Int := if rgB (-2000) 2000 tl th then (if dnF xs (th - bl) ≤ ltX xs then 0 else 7) else 2
noncomputable def dnR (xs : List (Int × Int)) (bl bh tl th : Int) : Int × Int := if dnE xs bl bh tl th = 0 then (dnF xs (tl - bh), dnF xs (th - bl)) else (0, 0)
end Go.Proofs.YtgklpbgdimkhaaaGreat

