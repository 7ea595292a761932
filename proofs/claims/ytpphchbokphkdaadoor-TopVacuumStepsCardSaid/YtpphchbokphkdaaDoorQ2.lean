/- Plain: pipes, losses, vacuums that are told one after another; the bounds of loads, losses and vacuums. -/
import Derived.Test.YtpphchbokphkdaaDoorQ1
namespace Go.Proofs.YtpphchbokphkdaaDoor
set_option linter.unusedVariables false
set_option linter.unusedSimpArgs false

structure Pp where
  pa : Int
  ln : Int
  bo : Int
  dr : Int
  ta : Int
def p0 : Pp := ⟨-1, 0, 0, 0, 0⟩
/-- whether a pipe is valid, with a parent up to k -/
def pvB (p : Pp) (k : Int) : Bool := (decide (0 ≤ p.pa) && decide (p.pa ≤ k)) && (decide (1 ≤ p.ln) && decide (p.ln ≤ 100000)) && (decide (4 ≤ p.bo) && decide (p.bo ≤ 80)) && (decide (-10000 ≤ p.dr) && decide (p.dr ≤ 10000)) && (decide (0 ≤ p.ta) && decide (p.ta ≤ 1000))
theorem pvB_of {p : Pp} {k : Int} (h : pvB p k = true) : (0 ≤ p.pa ∧ p.pa ≤ k) ∧ (1 ≤ p.ln ∧ p.ln ≤ 100000) ∧ (4 ≤ p.bo ∧ p.bo ≤ 80) ∧ (-10000 ≤ p.dr ∧ p.dr ≤ 10000) ∧ (0 ≤ p.ta ∧ p.ta ≤ 1000) := by
  simp [pvB] at h; omega
theorem pvB_mono {p : Pp} {k l : Int} (h : pvB p k = true) (hkl : k ≤ l) : pvB p l = true := by
  have := pvB_of h
  simp [pvB]; omega
def lossV (p : Pp) (f : Int) : Int := (p.ln * f + 10000 * p.bo * p.bo - 1) / (10000 * p.bo * p.bo) + 10 * max 0 (-p.dr)
theorem by_bd {b : Int} (h1 : 4 ≤ b) (h2 : b ≤ 80) : 160000 ≤ 10000 * b * b ∧ 10000 * b * b ≤ 64000000 := by
  have a1 : 4 * 4 ≤ b * b := Int.mul_le_mul h1 h1 (by omega) (by omega)
  have a2 : b * b ≤ 80 * 80 := Int.mul_le_mul h2 h2 (by omega) (by omega)
  rw [Int.mul_assoc]
  omega
theorem lf_bd {l f : Int} (h1 : 1 ≤ l) (h2 : l ≤ 100000) (f1 : 0 ≤ f) (f2 : f ≤ 60000000000) : 0 ≤ l * f ∧ l * f ≤ 6000000000000000 := by
  have a1 : 0 ≤ l * f := Int.mul_nonneg (by omega) f1
  have a2 : l * f ≤ 100000 * 60000000000 := Int.mul_le_mul h2 f2 f1 (by omega)
  omega
theorem lossV_mono {p : Pp} {f g : Int} (h : pvB p 60 = true) (hfg : f ≤ g) : lossV p f ≤ lossV p g := by
  obtain ⟨_, ⟨l1, l2⟩, ⟨b1, b2⟩, _, _⟩ := pvB_of h
  obtain ⟨y1, y2⟩ := by_bd b1 b2
  have hm : p.ln * f ≤ p.ln * g := Int.mul_le_mul_of_nonneg_left hfg (by omega)
  unfold lossV
  generalize 10000 * p.bo * p.bo = y at *
  have : (p.ln * f + y - 1) / y ≤ (p.ln * g + y - 1) / y := Int.ediv_le_ediv (by omega) (by omega)
  omega
theorem lossV_bd {p : Pp} {f : Int} (h : pvB p 60 = true) (f1 : 0 ≤ f) (f2 : f ≤ 60000000000) : 0 ≤ lossV p f ∧ lossV p f ≤ 100000000000 := by
  obtain ⟨_, ⟨l1, l2⟩, ⟨b1, b2⟩, ⟨d1, d2⟩, _⟩ := pvB_of h
  obtain ⟨y1, y2⟩ := by_bd b1 b2
  obtain ⟨m1, m2⟩ := lf_bd l1 l2 f1 f2
  unfold lossV
  generalize 10000 * p.bo * p.bo = y at *
  generalize p.ln * f = m at *
  have e1 : 0 ≤ (m + y - 1) / y := Int.ediv_nonneg (by omega) (by omega)
  have e2 : (m + y - 1) / y ≤ (m + y - 1) / 160000 := by
    have h1 := Int.mul_ediv_self_le (x := m + y - 1) (k := y) (by omega)
    have h2 : 160000 * ((m + y - 1) / y) ≤ y * ((m + y - 1) / y) := Int.mul_le_mul_of_nonneg_right y1 e1
    omega
  omega

/-! vacuums -/
def vcN (ps : List Pp) (ld vs : List (Int × Int)) (i : Nat) : Int × Int :=
  (max 0 ((vs.getD (ps.getD i p0).pa.toNat (0, 0)).1 - lossV (ps.getD i p0) (ld.getD i (0, 0)).2), max 0 ((vs.getD (ps.getD i p0).pa.toNat (0, 0)).2 - lossV (ps.getD i p0) (ld.getD i (0, 0)).1))
def vcS (ps : List Pp) (ld : List (Int × Int)) (pump : Int) : Nat → List (Int × Int)
  | 0 => [(pump, pump)]
  | k + 1 => vcS ps ld pump k ++ [vcN ps ld (vcS ps ld pump k) (k + 1)]
theorem vcS_length (ps : List Pp) (ld : List (Int × Int)) (pump : Int) (k : Nat) : (vcS ps ld pump k).length = k + 1 := by
  induction k with
  | zero => rfl
  | succ k ih => rw [vcS, List.length_append, ih]; rfl
theorem getD_left {α : Type} (xs ys : List α) (i : Nat) (d : α) (h : i < xs.length) : (xs ++ ys).getD i d = xs.getD i d := by
  rw [List.getD_eq_getElem?_getD, List.getD_eq_getElem?_getD, List.getElem?_append_left h]
theorem vcS_up (ps : List Pp) (ld : List (Int × Int)) (pump : Int) (k m i : Nat) (h : i ≤ k) (hm : k ≤ m) : (vcS ps ld pump m).getD i (0, 0) = (vcS ps ld pump k).getD i (0, 0) := by
  induction m with
  | zero => obtain rfl : k = 0 := by omega
            rfl
  | succ m ih =>
    rcases Nat.lt_or_ge k (m + 1) with h1 | h1
    · rw [vcS, getD_left _ _ _ _ (by rw [vcS_length]; omega)]
      exact ih (by omega)
    · obtain rfl : k = m + 1 := by omega
      rfl
/-- each vacuum is its parent's, less the loss -/
theorem vcS_at (ps : List Pp) (ld : List (Int × Int)) (pump : Int) (m i : Nat) (h0 : 0 < i) (hi : i ≤ m) (hp : (ps.getD i p0).pa.toNat < i) : (vcS ps ld pump m).getD i (0, 0) = vcN ps ld (vcS ps ld pump m) i := by
  obtain ⟨j, rfl⟩ : ∃ j, i = j + 1 := ⟨i - 1, by omega⟩
  have e : vcN ps ld (vcS ps ld pump m) (j + 1) = vcN ps ld (vcS ps ld pump j) (j + 1) := by
    unfold vcN
    rw [vcS_up ps ld pump j m _ (by omega) (by omega)]
  rw [e, vcS_up ps ld pump (j + 1) m _ (Nat.le_refl _) hi, vcS, List.getD_eq_getElem?_getD, List.getElem?_append_right (by rw [vcS_length]; omega), vcS_length, Nat.sub_self]
  rfl

/-! valid tubing, flows -/
def netOk (pump : Int) (ps : List Pp) : Prop := (1 ≤ ps.length ∧ ps.length ≤ 60) ∧ (0 ≤ pump ∧ pump ≤ 10000) ∧ ps.getD 0 p0 = p0 ∧ ∀ i, i + 1 < ps.length → pvB (ps.getD (i + 1) p0) i = true
def flB (q : Int × Int) : Bool := decide (0 ≤ q.1) && decide (q.1 ≤ q.2) && decide (q.2 ≤ 1000000000)
theorem flB_of {q : Int × Int} (h : flB q = true) : 0 ≤ q.1 ∧ q.1 ≤ q.2 ∧ q.2 ≤ 1000000000 := by simp [flB] at h; omega
def parN (ps : List Pp) (i : Nat) : Nat := (ps.getD i p0).pa.toNat
theorem netOk.par {pump : Int} {ps : List Pp} (h : netOk pump ps) {i : Nat} (h0 : 0 < i) (hi : i < ps.length) : pvB (ps.getD i p0) (((i - 1 : Nat) : Int)) = true ∧ parN ps i < i ∧ ((parN ps i : Nat) : Int) = (ps.getD i p0).pa := by
  obtain ⟨_, _, _, h⟩ := h
  obtain ⟨j, rfl⟩ : ∃ j, i = j + 1 := ⟨i - 1, by omega⟩
  have := h j hi
  have hb := pvB_of this
  refine ⟨by simpa using this, ?_, ?_⟩ <;> unfold parN <;> omega
theorem netOk.valid {pump : Int} {ps : List Pp} (h : netOk pump ps) {i : Nat} (h0 : 0 < i) (hi : i < ps.length) : pvB (ps.getD i p0) 60 = true :=
  pvB_mono (h.par h0 hi).1 (by have := h.1; omega)
/-- the loads of all nodes -/
def loadsL (ps : List Pp) (fl : List (Int × Int)) : List (Int × Int) := ldS (parN ps) fl (fl.length - 1)
theorem loadsL_length (ps : List Pp) (fl : List (Int × Int)) : (loadsL ps fl).length = fl.length := ldS_length _ _ _

def sumN (a : Nat → Int) : Nat → Int
  | 0 => 0
  | k + 1 => sumN a k + a k
theorem sumN_le {a : Nat → Int} {k i : Nat} (h : ∀ j, j < k → 0 ≤ a j) (hi : i < k) : a i ≤ sumN a k := by
  induction k with
  | zero => omega
  | succ k ih =>
    have h0 : 0 ≤ sumN a k := by
      clear ih hi
      have : ∀ m, m ≤ k → 0 ≤ sumN a m := fun m => by
        induction m with
        | zero => intro _; exact Int.le_refl _
        | succ m im => intro hm; have := im (by omega); have := h m (by omega); rw [sumN]; omega
      exact this k (Nat.le_refl _)
    rw [sumN]
    have := h k (by omega)
    rcases Nat.lt_or_ge i k with h1 | h1
    · have := ih (fun j hj => h j (by omega)) h1
      omega
    · obtain rfl : i = k := by omega
      omega
theorem sumN_congr {a b : Nat → Int} {k : Nat} (h : ∀ j, j < k → a j = b j) : sumN a k = sumN b k := by
  induction k with
  | zero => rfl
  | succ k ih => rw [sumN, sumN, ih fun j hj => h j (by omega), h k (by omega)]
theorem sumN_set {a b : Nat → Int} {k p : Nat} {d : Int} (hp : p < k) (h1 : b p = a p + d) (h2 : ∀ j, j ≠ p → b j = a j) : sumN b k = sumN a k + d := by
  induction k with
  | zero => omega
  | succ k ih =>
    rw [sumN, sumN]
    rcases Nat.lt_or_ge p k with h3 | h3
    · rw [ih h3, h2 k (by omega)]; omega
    · obtain rfl : p = k := by omega
      rw [sumN_congr (b := a) fun j hj => h2 j (by omega), h1]; omega
theorem sumN_bd {a : Nat → Int} {M : Int} {k : Nat} (h : ∀ j, j < k → a j ≤ M) : sumN a k ≤ M * k := by
  induction k with
  | zero => simp [sumN]
  | succ k ih =>
    have := ih fun j hj => h j (by omega)
    have := h k (by omega)
    rw [sumN, Int.natCast_succ, Int.mul_add]
    omega
/-- the loads are no less than 0, their lows at most their highs, and none is greater than all that comes in -/
theorem ldS_bd (par : Nat → Nat) (fl : List (Int × Int)) (hp : ∀ k, 0 < k → k < fl.length → par k < k) (h : ∀ i, i < fl.length → flB (fl.getD i (0, 0)) = true) : ∀ d, d + 1 ≤ fl.length →
    (∀ i, i < fl.length → 0 ≤ ((ldS par fl d).getD i (0, 0)).1 ∧ ((ldS par fl d).getD i (0, 0)).1 ≤ ((ldS par fl d).getD i (0, 0)).2 ∧ ((ldS par fl d).getD i (0, 0)).2 ≤ 1000000000 * fl.length) ∧
    sumN (fun i => ((ldS par fl d).getD i (0, 0)).2) (fl.length - d) ≤ 1000000000 * fl.length := by
  intro d
  induction d with
  | zero =>
    intro hd
    have hb : ∀ i, i < fl.length → (fl.getD i (0, 0)).2 ≤ 1000000000 := fun i hi => (flB_of (h i hi)).2.2
    refine ⟨fun i hi => ?_, ?_⟩
    · have := flB_of (h i hi)
      rw [ldS]
      omega
    · rw [Nat.sub_zero, ldS]
      exact sumN_bd hb
  | succ d ih =>
    intro hd
    obtain ⟨i1, i2⟩ := ih (by omega)
    have hk : fl.length - 1 - d < fl.length := by omega
    have hpar := hp (fl.length - 1 - d) (by omega) hk
    have hm : fl.length - d = fl.length - 1 - d + 1 := by omega
    have hn : fl.length - (d + 1) = fl.length - 1 - d := by omega
    rw [hm] at i2
    rw [hn]
    generalize hk' : fl.length - 1 - d = k at *
    have hS : ∀ j, (ldS par fl (d + 1)).getD j (0, 0) = if j = par k then padd ((ldS par fl d).getD (par k) (0, 0)) ((ldS par fl d).getD k (0, 0)) else (ldS par fl d).getD j (0, 0) := fun j => by
      rw [ldS, hk']
      exact ldA_get _ _ _ _ (by rw [ldS_length]; omega)
    have a1 := i1 (par k) (by omega)
    have a2 := i1 k hk
    have e1 : ((ldS par fl (d + 1)).getD (par k) (0, 0)) = padd ((ldS par fl d).getD (par k) (0, 0)) ((ldS par fl d).getD k (0, 0)) := by rw [hS, if_pos rfl]
    have hsum : sumN (fun i => ((ldS par fl (d + 1)).getD i (0, 0)).2) k = sumN (fun i => ((ldS par fl d).getD i (0, 0)).2) k + ((ldS par fl d).getD k (0, 0)).2 := by
      refine sumN_set hpar ?_ fun j hj => ?_
      · rw [e1]; rfl
      · rw [hS, if_neg hj]
    have hle : sumN (fun i => ((ldS par fl (d + 1)).getD i (0, 0)).2) k ≤ 1000000000 * fl.length := by rw [hsum]; exact i2
    have hnn : ∀ i, i < fl.length → 0 ≤ ((ldS par fl (d + 1)).getD i (0, 0)).1 ∧ ((ldS par fl (d + 1)).getD i (0, 0)).1 ≤ ((ldS par fl (d + 1)).getD i (0, 0)).2 := fun i hi => by
      rw [hS]
      by_cases hj : i = par k
      · rw [if_pos hj]
        unfold padd
        dsimp only
        omega
      · rw [if_neg hj]
        have := i1 i hi
        omega
    refine ⟨fun i hi => ?_, hle⟩
    obtain ⟨n1, n2⟩ := hnn i hi
    refine ⟨n1, n2, ?_⟩
    by_cases hj : i = par k
    · have := sumN_le (a := fun i => ((ldS par fl (d + 1)).getD i (0, 0)).2) (k := k) (i := i) (fun j hj => by have := hnn j (by omega); omega) (by omega)
      omega
    · rw [hS, if_neg hj]
      exact (i1 i hi).2.2
theorem loadsL_bd {pump : Int} {ps : List Pp} {fl : List (Int × Int)} (hn : netOk pump ps) (hl : fl.length = ps.length) (h : ∀ i, i < fl.length → flB (fl.getD i (0, 0)) = true) {i : Nat} (hi : i < ps.length) :
    0 ≤ ((loadsL ps fl).getD i (0, 0)).1 ∧ ((loadsL ps fl).getD i (0, 0)).1 ≤ ((loadsL ps fl).getD i (0, 0)).2 ∧ ((loadsL ps fl).getD i (0, 0)).2 ≤ 60000000000 := by
  have h1 := hn.1
  have := (ldS_bd (parN ps) fl (fun k h0 hk => (hn.par h0 (by omega)).2.1) h (fl.length - 1) (by omega)).1 i (by omega)
  unfold loadsL
  omega
/-- the vacuums of all nodes -/
def vacsL (pump : Int) (ps : List Pp) (fl : List (Int × Int)) : List (Int × Int) := vcS ps (loadsL ps fl) pump (ps.length - 1)
theorem vacsL_length {pump : Int} {ps : List Pp} {fl : List (Int × Int)} (h : 1 ≤ ps.length) : (vacsL pump ps fl).length = ps.length := by
  unfold vacsL; rw [vcS_length]; omega
theorem vcS_bd {pump : Int} {ps : List Pp} {fl : List (Int × Int)} (hn : netOk pump ps) (hl : fl.length = ps.length) (h : ∀ i, i < fl.length → flB (fl.getD i (0, 0)) = true) : ∀ m, m < ps.length →
    ∀ i, i ≤ m → 0 ≤ ((vcS ps (loadsL ps fl) pump m).getD i (0, 0)).1 ∧ ((vcS ps (loadsL ps fl) pump m).getD i (0, 0)).1 ≤ ((vcS ps (loadsL ps fl) pump m).getD i (0, 0)).2 ∧ ((vcS ps (loadsL ps fl) pump m).getD i (0, 0)).2 ≤ pump := by
  intro m hm i
  have hp := hn.2.1
  induction i using Nat.strongRecOn with
  | ind i ih =>
    intro hi
    rcases Nat.eq_zero_or_pos i with h0 | h0
    · subst h0
      rw [vcS_up ps _ pump 0 m 0 (Nat.le_refl _) (Nat.zero_le _)]
      show 0 ≤ pump ∧ pump ≤ pump ∧ pump ≤ pump
      omega
    · have hpar := (hn.par h0 (by omega)).2.1
      rw [vcS_at ps _ pump m i h0 hi hpar]
      unfold parN at hpar
      have a := ih (ps.getD i p0).pa.toNat (by omega) (by omega)
      have v := hn.valid h0 (by omega)
      have b := loadsL_bd hn hl h (i := i) (by omega)
      have m1 := lossV_mono v b.2.1
      have n1 := lossV_bd v b.1 (by omega)
      unfold vcN
      dsimp only
      generalize lossV (ps.getD i p0) _ = x1 at *
      generalize lossV (ps.getD i p0) _ = x2 at *
      omega
/-- what a node's vacuum is -/
theorem vacsL_at {pump : Int} {ps : List Pp} {fl : List (Int × Int)} (hn : netOk pump ps) {i : Nat} (h0 : 0 < i) (hi : i < ps.length) :
    (vacsL pump ps fl).getD i (0, 0) = (max 0 (((vacsL pump ps fl).getD (parN ps i) (0, 0)).1 - lossV (ps.getD i p0) ((loadsL ps fl).getD i (0, 0)).2), max 0 (((vacsL pump ps fl).getD (parN ps i) (0, 0)).2 - lossV (ps.getD i p0) ((loadsL ps fl).getD i (0, 0)).1)) :=
  vcS_at ps _ pump (ps.length - 1) i h0 (by omega) (hn.par h0 hi).2.1
theorem vacsL_bd {pump : Int} {ps : List Pp} {fl : List (Int × Int)} (hn : netOk pump ps) (hl : fl.length = ps.length) (h : ∀ i, i < fl.length → flB (fl.getD i (0, 0)) = true) {i : Nat} (hi : i < ps.length) :
    0 ≤ ((vacsL pump ps fl).getD i (0, 0)).1 ∧ ((vacsL pump ps fl).getD i (0, 0)).1 ≤ ((vacsL pump ps fl).getD i (0, 0)).2 ∧ ((vacsL pump ps fl).getD i (0, 0)).2 ≤ pump :=
  vcS_bd hn hl h (ps.length - 1) (by omega) i (by omega)

/-- the nodes behind, one more looked at -/
theorem kids_snoc (par : Nat → Nat) {m n : Nat} (h : m ≤ n) (i : Nat) : kids par m (n + 1) i = kids par m n i ++ (if par n = i then [n] else []) := by
  unfold kids
  rw [show n + 1 - m = (n - m) + 1 from by omega, List.range'_concat, List.filter_append, Nat.one_mul, show m + (n - m) = n from by omega]
  congr 1
  by_cases hp : par n = i
  · rw [if_pos hp, List.filter_cons, if_pos (by simpa using hp)]; rfl
  · rw [if_neg hp, List.filter_cons, if_neg (by simpa using hp)]; rfl
theorem kids_length (par : Nat → Nat) (m n i : Nat) : (kids par m n i).length ≤ n - m := by
  unfold kids
  exact Nat.le_trans (List.length_filter_le _ _) (by simp)
end Go.Proofs.YtpphchbokphkdaaDoor
