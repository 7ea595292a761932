/- Plain: what placesBetween returns is where the reference's searches come to. -/
import Derived.Test.YtkhongbemoahpaaC30
import Derived.Test.YtkhongbemoahpaaT5
import Derived.Test.YtkhongbemoahpaaT2
namespace Go.Proofs.Ytkhongbemoahpaa
open Go.Lib
set_option linter.unusedVariables false
set_option linter.unusedSimpArgs false

theorem floor_ceil (n c : Int) (hc : 0 < c) : n / c ≤ -(-n / c) := by
  have h1 := Int.ediv_mul_le n (b := c) (by omega)
  have h2 := Int.ediv_mul_le (-n) (b := c) (by omega)
  generalize n / c = X at *
  generalize -n / c = Y at *
  rcases Int.lt_or_le (X + Y) 1 with h | h
  · omega
  · have h3 := Int.mul_le_mul_of_nonneg_right h (show (0 : Int) ≤ c by omega)
    rw [Int.add_mul, Int.one_mul] at h3
    omega
theorem q_any {a b c : Int} (hb : 0 < b) (hc : 0 < c) : (qLo a b c = a * b / c ∧ qHi a b c = -(-(a * b) / c)) ∨ (1000000000000000000 ≤ a * b / c ∧ a * b / c ≤ -(-(a * b) / c) ∧ qLo a b c = 1000000000000000000 ∧ qHi a b c = 1000000000000000000) ∨
    (-(-(a * b) / c) ≤ -1000000000000000000 ∧ a * b / c ≤ -(-(a * b) / c) ∧ qLo a b c = -1000000000000000000 ∧ qHi a b c = -1000000000000000000) := by
  by_cases h : a.natAbs * b.natAbs / c.natAbs ≤ 1000000000000000000
  · exact Or.inl (q_pos hc h)
  · have hW : qW a b c = 1000000000000000000 := by unfold qW; rw [if_pos (by omega)]
    have hR : qR a b c = 0 := by unfold qR; rw [if_pos (by omega)]
    have hle := floor_ceil (a * b) c hc
    have hN : qNeg a b c = decide (a < 0) := by
      unfold qNeg
      rw [show decide (b < 0) = false from by simp; omega, show decide (c < 0) = false from by simp; omega]
      simp
    obtain ⟨B, rfl⟩ := Int.eq_ofNat_of_zero_le (by omega : 0 ≤ b)
    obtain ⟨C, rfl⟩ := Int.eq_ofNat_of_zero_le (by omega : 0 ≤ c)
    rw [Int.natAbs_natCast, Int.natAbs_natCast] at h
    unfold qLo qHi
    rw [hW, hR, hN]
    by_cases ha : a < 0
    · obtain ⟨A, hA⟩ := Int.eq_ofNat_of_zero_le (by omega : 0 ≤ -a)
      obtain rfl : a = -(A : Int) := by omega
      rw [Int.natAbs_neg, Int.natAbs_natCast] at h
      have e : -(-(A : Int) * (B : Int)) / (C : Int) = ((A * B / C : Nat) : Int) := by rw [Int.neg_mul, Int.neg_neg]; simp
      rw [e] at hle ⊢
      refine Or.inr (Or.inr ⟨by omega, hle, ?_, ?_⟩)
      · rw [decide_eq_true ha]; rfl
      · rw [decide_eq_true ha]; rfl
    · obtain ⟨A, rfl⟩ := Int.eq_ofNat_of_zero_le (by omega : 0 ≤ a)
      rw [Int.natAbs_natCast] at h
      have e : ((A : Int) * (B : Int)) / (C : Int) = ((A * B / C : Nat) : Int) := by simp
      refine Or.inr (Or.inl ⟨by rw [e]; omega, hle, ?_, ?_⟩)
      · rw [decide_eq_false ha]; rfl
      · rw [decide_eq_false ha]; rfl
theorem q_flip (a b c : Int) (hc : c < 0) : qLo a b c = qLo (-a) b (-c) ∧ qHi a b c = qHi (-a) b (-c) := by
  have hW : qW (-a) b (-c) = qW a b c := by unfold qW; rw [Int.natAbs_neg, Int.natAbs_neg]
  have hR : qR (-a) b (-c) = qR a b c := by unfold qR; rw [Int.natAbs_neg, Int.natAbs_neg]
  by_cases ha : a = 0
  · subst ha
    have w0 : qW 0 b c = 0 := by unfold qW; simp
    have r0 : qR 0 b c = 0 := by unfold qR; simp
    unfold qLo qHi
    rw [hW, hR, w0, r0]
    simp
  · have hN : qNeg (-a) b (-c) = qNeg a b c := by
      unfold qNeg
      have e1 : decide (-a < 0) = !decide (a < 0) := by rw [Bool.eq_iff_iff]; simp; omega
      have e2 : decide (-c < 0) = !decide (c < 0) := by rw [Bool.eq_iff_iff]; simp; omega
      rw [e1, e2]
      cases decide (a < 0) <;> cases decide (b < 0) <;> cases decide (c < 0) <;> rfl
    unfold qLo qHi
    rw [hW, hR, hN]
    exact ⟨rfl, rfl⟩
theorem q_bd (a b c : Int) : -1000000000000000001 ≤ qLo a b c ∧ qLo a b c ≤ 1000000000000000000 ∧ -1000000000000000000 ≤ qHi a b c ∧ qHi a b c ≤ 1000000000000000001 := by
  have := qW_le a b c
  unfold qLo qHi
  refine ⟨?_, ?_, ?_, ?_⟩ <;> (repeat' split) <;> omega

/-- what placesBetween returns -/
def plP (p q : Int × Int) (yl yh : Int) : (Int × Int) × Bool :=
  if q.2 - p.2 = 0 then ((p.1, q.1), decide (yl ≤ p.2) && decide (p.2 ≤ yh))
  else if q.2 - p.2 < 0 then ((p.1 + max 0 (qHi (yh - p.2) (q.1 - p.1) (q.2 - p.2)), p.1 + min (q.1 - p.1) (qLo (yl - p.2) (q.1 - p.1) (q.2 - p.2))), decide (max 0 (qHi (yh - p.2) (q.1 - p.1) (q.2 - p.2)) ≤ min (q.1 - p.1) (qLo (yl - p.2) (q.1 - p.1) (q.2 - p.2))))
  else ((p.1 + max 0 (qHi (yl - p.2) (q.1 - p.1) (q.2 - p.2)), p.1 + min (q.1 - p.1) (qLo (yh - p.2) (q.1 - p.1) (q.2 - p.2))), decide (max 0 (qHi (yl - p.2) (q.1 - p.1) (q.2 - p.2)) ≤ min (q.1 - p.1) (qLo (yh - p.2) (q.1 - p.1) (q.2 - p.2))))
theorem plP_hi (p q : Int × Int) (yl yh : Int) : (plP p q yl yh).1.2 ≤ q.1 := by
  unfold plP
  split
  · exact Int.le_refl _
  · split <;> (simp only; omega)
theorem plP_lo (p q : Int × Int) (yl yh : Int) (h : (plP p q yl yh).2 = true) : p.1 ≤ q.1 → p.1 ≤ (plP p q yl yh).1.1 ∧ (plP p q yl yh).1.1 ≤ (plP p q yl yh).1.2 := by
  unfold plP at h ⊢
  split at h
  · rename_i e; rw [if_pos e]; intro h2; exact ⟨Int.le_refl _, h2⟩
  · rename_i e
    rw [if_neg e]
    split at h
    · rename_i e2; rw [if_pos e2]; simp only [decide_eq_true_eq] at h; intro _; simp only; omega
    · rename_i e2; rw [if_neg e2]; simp only [decide_eq_true_eq] at h; intro _; simp only; omega

theorem firstIs_congr {P Q : Int → Bool} {a b f : Int} (h : ∀ x, a ≤ x → x ≤ b → P x = Q x) (hf : firstIs P a b f) : firstIs Q a b f :=
  ⟨hf.1, hf.2.1, fun x h1 h2 => by rw [← h x h1 (by have := hf.2.1; omega)]; exact hf.2.2.1 x h1 h2, fun h1 => by rw [← h f hf.1 h1]; exact hf.2.2.2 h1⟩

/-- where a test of a stretch stands at a bound -/
theorem seg_bound (p q : Int × Int) (hw : p.1 < q.1) (yl yh : Int) (behind : Bool) : ∃ n, ∀ x, p.1 ≤ x → x ≤ q.1 → (srP yl yh (decide (p.2 ≤ q.2)) behind (segV p q x) = true ↔ n ≤ x) := by
  rcases Int.lt_trichotomy p.2 q.2 with hr | hr | hr
  · rw [decide_eq_true (show p.2 ≤ q.2 by omega)]
    cases behind
    · refine ⟨p.1 + -(-((yl - p.2) * (q.1 - p.1)) / (q.2 - p.2)), fun x _ _ => ?_⟩
      simp only [srP]
      rw [decide_eq_true_iff, rise_in hw hr]
      omega
    · refine ⟨p.1 + ((yh - p.2) * (q.1 - p.1) / (q.2 - p.2) + 1), fun x _ _ => ?_⟩
      simp only [srP]
      rw [decide_eq_true_iff, rise_out hw hr]
      omega
  · rw [decide_eq_true (show p.2 ≤ q.2 by omega)]
    cases behind
    · by_cases h : yl ≤ p.2
      · exact ⟨p.1, fun x h1 h2 => by simp only [srP]; rw [flat_val hr, decide_eq_true_iff]; simp only; omega⟩
      · exact ⟨q.1 + 1, fun x h1 h2 => by simp only [srP]; rw [flat_val hr, decide_eq_true_iff]; simp only; omega⟩
    · by_cases h : yh < p.2
      · exact ⟨p.1, fun x h1 h2 => by simp only [srP]; rw [flat_val hr, decide_eq_true_iff]; simp only; omega⟩
      · exact ⟨q.1 + 1, fun x h1 h2 => by simp only [srP]; rw [flat_val hr, decide_eq_true_iff]; simp only; omega⟩
  · rw [decide_eq_false (show ¬ p.2 ≤ q.2 by omega)]
    cases behind
    · refine ⟨p.1 + -(-((p.2 - yh) * (q.1 - p.1)) / (p.2 - q.2)), fun x _ _ => ?_⟩
      simp only [srP]
      rw [decide_eq_true_iff, fall_in hw hr]
      omega
    · refine ⟨p.1 + ((p.2 - yl) * (q.1 - p.1) / (p.2 - q.2) + 1), fun x _ _ => ?_⟩
      simp only [srP]
      rw [decide_eq_true_iff, fall_out hw hr]
      omega
theorem pl_is (p q : Int × Int) (hw : p.1 < q.1) (hwb : q.1 - p.1 ≤ 2000000000) (yl yh : Int) (hy : yl ≤ yh) (f1 f2 : Int)
    (h1 : firstIs (fun x => srP yl yh (decide (p.2 ≤ q.2)) false (segV p q x)) p.1 q.1 f1) (h2 : firstIs (fun x => srP yl yh (decide (p.2 ≤ q.2)) true (segV p q x)) p.1 q.1 f2) :
    (plP p q yl yh).2 = decide (f1 ≤ f2 - 1) ∧ (f1 ≤ f2 - 1 → (plP p q yl yh).1 = (f1, f2 - 1)) := by
  rcases Int.lt_trichotomy p.2 q.2 with hr | hr | hr
  · rw [decide_eq_true (show p.2 ≤ q.2 by omega)] at h1 h2
    simp only [srP] at h1 h2
    have e1 := firstIs_one h1 (firstIs_bound (n := p.1 + -(-((yl - p.2) * (q.1 - p.1)) / (q.2 - p.2))) (by omega) (fun x _ _ => by rw [decide_eq_true_iff, rise_in hw hr]; omega))
    have e2 := firstIs_one h2 (firstIs_bound (n := p.1 + ((yh - p.2) * (q.1 - p.1) / (q.2 - p.2) + 1)) (by omega) (fun x _ _ => by rw [decide_eq_true_iff, rise_out hw hr]; omega))
    have q1 := q_any (a := yl - p.2) (b := q.1 - p.1) (c := q.2 - p.2) (by omega) (by omega)
    have q2 := q_any (a := yh - p.2) (b := q.1 - p.1) (c := q.2 - p.2) (by omega) (by omega)
    unfold plP
    rw [if_neg (by omega), if_neg (by omega)]
    clear h1 h2
    generalize qHi (yl - p.2) (q.1 - p.1) (q.2 - p.2) = F at *
    generalize qLo (yh - p.2) (q.1 - p.1) (q.2 - p.2) = L at *
    generalize -(-((yl - p.2) * (q.1 - p.1)) / (q.2 - p.2)) = C1 at *
    generalize (yh - p.2) * (q.1 - p.1) / (q.2 - p.2) = F2 at *
    subst e1 e2
    refine ⟨?_, fun h => ?_⟩
    · simp only
      rw [decide_eq_decide]
      omega
    · simp only
      ext <;> simp only <;> omega
  · rw [decide_eq_true (show p.2 ≤ q.2 by omega)] at h1 h2
    simp only [srP] at h1 h2
    have e1 := firstIs_one h1 (firstIs_bound (n := if yl ≤ p.2 then p.1 else q.1 + 1) (by omega) (fun x _ _ => by rw [flat_val hr, decide_eq_true_iff]; simp only; split <;> omega))
    have e2 := firstIs_one h2 (firstIs_bound (n := if yh < p.2 then p.1 else q.1 + 1) (by omega) (fun x _ _ => by rw [flat_val hr, decide_eq_true_iff]; simp only; split <;> omega))
    unfold plP
    rw [if_pos (by omega)]
    clear h1 h2
    subst e1 e2
    refine ⟨?_, fun h => ?_⟩
    · simp only
      rw [Bool.eq_iff_iff]
      simp only [Bool.and_eq_true, decide_eq_true_eq]
      split <;> split <;> omega
    · simp only
      split at h <;> split at h <;> (ext <;> simp only <;> omega)
  · rw [decide_eq_false (show ¬ p.2 ≤ q.2 by omega)] at h1 h2
    simp only [srP] at h1 h2
    have e1 := firstIs_one h1 (firstIs_bound (n := p.1 + -(-((p.2 - yh) * (q.1 - p.1)) / (p.2 - q.2))) (by omega) (fun x _ _ => by rw [decide_eq_true_iff, fall_in hw hr]; omega))
    have e2 := firstIs_one h2 (firstIs_bound (n := p.1 + ((p.2 - yl) * (q.1 - p.1) / (p.2 - q.2) + 1)) (by omega) (fun x _ _ => by rw [decide_eq_true_iff, fall_out hw hr]; omega))
    have q1 := q_any (a := p.2 - yh) (b := q.1 - p.1) (c := p.2 - q.2) (by omega) (by omega)
    have q2 := q_any (a := p.2 - yl) (b := q.1 - p.1) (c := p.2 - q.2) (by omega) (by omega)
    have g1 := (q_flip (yh - p.2) (q.1 - p.1) (q.2 - p.2) (by omega)).2
    have g2 := (q_flip (yl - p.2) (q.1 - p.1) (q.2 - p.2) (by omega)).1
    rw [show -(yh - p.2) = p.2 - yh from by omega, show -(q.2 - p.2) = p.2 - q.2 from by omega] at g1
    rw [show -(yl - p.2) = p.2 - yl from by omega, show -(q.2 - p.2) = p.2 - q.2 from by omega] at g2
    unfold plP
    rw [if_neg (by omega), if_pos (by omega), g1, g2]
    clear h1 h2 g1 g2
    generalize qHi (p.2 - yh) (q.1 - p.1) (p.2 - q.2) = F at *
    generalize qLo (p.2 - yl) (q.1 - p.1) (p.2 - q.2) = L at *
    generalize -(-((p.2 - yh) * (q.1 - p.1)) / (p.2 - q.2)) = C1 at *
    generalize (p.2 - yl) * (q.1 - p.1) / (p.2 - q.2) = F2 at *
    subst e1 e2
    refine ⟨?_, fun h => ?_⟩
    · simp only
      rw [decide_eq_decide]
      omega
    · simp only
      ext <;> simp only <;> omega

/-- what placesBetween returns for the rows k and k + 1 -/
def plK (xs : List (Int × Int)) (yl yh : Int) (k : Nat) : (Int × Int) × Bool := match xs[k]?, xs[k + 1]? with
  | some p, some q => plP p q yl yh
  | _, _ => ((0, 0), false)
theorem plK_of {xs : List (Int × Int)} {yl yh : Int} {k : Nat} {p q : Int × Int} (hp : xs[k]? = some p) (hq : xs[k + 1]? = some q) : plK xs yl yh k = plP p q yl yh := by
  unfold plK; rw [hp, hq]
/-- the places of a valid table at which the value lies in a range -/
def whV (xs : List (Int × Int)) (yl yh : Int) : List (Int × Int) := whereAt (plK xs yl yh) (xs.length - 1)
theorem whV_length (xs : List (Int × Int)) (yl yh : Int) : (whV xs yl yh).length ≤ xs.length - 1 := whereAt_length _ _
theorem whereAt_hi {xs : List (Int × Int)} (ht : TabOk xs) (yl yh : Int) : ∀ (k : Nat) (p : Int × Int), xs[k]? = some p → ∀ r ∈ whereAt (plK xs yl yh) k, r.2 ≤ p.1 := by
  intro k
  induction k with
  | zero => intro p _ r hr; simp [whereAt] at hr
  | succ k ih =>
    intro q hq
    obtain ⟨p, hp⟩ : ∃ p, xs[k]? = some p := ⟨_, List.getElem?_eq_getElem (by have := (List.getElem?_eq_some_iff.1 hq).1; omega)⟩
    have hpq := ht.2.2.2 k (k + 1) p q (by omega) hp hq
    have hK := plK_of (yl := yl) (yh := yh) hp hq
    unfold whereAt
    split
    · exact extP_bd (fun z => z ≤ q.1) (fun r hr => by have := ih p hp r hr; omega) (by rw [hK]; exact plP_hi p q yl yh)
    · intro r hr
      have := ih p hp r hr
      omega
theorem seg_val {xs : List (Int × Int)} (ht : TabOk xs) {k : Nat} {p q : Int × Int} (hp : xs[k]? = some p) (hq : xs[k + 1]? = some q) (x : Int) (h1 : p.1 ≤ x) (h2 : x ≤ q.1) : valV xs x = segV p q x :=
  valV_is ht ⟨k, p, q, hp, hq, h1, h2, rfl⟩
theorem seg_cov {xs : List (Int × Int)} (ht : TabOk xs) {k : Nat} {p q : Int × Int} (hp : xs[k]? = some p) (hq : xs[k + 1]? = some q) (x : Int) (h1 : p.1 ≤ x) (h2 : x ≤ q.1) : covB xs x = true := by
  obtain ⟨m, hm⟩ : ∃ m, xs.length = m + 1 := ⟨xs.length - 1, by have := ht.1; omega⟩
  have hk : k + 1 < m + 1 := by rw [← hm]; exact (List.getElem?_eq_some_iff.1 hq).1
  obtain ⟨r, hr⟩ : ∃ r, xs[0]? = some r := ⟨_, List.getElem?_eq_getElem (by omega)⟩
  obtain ⟨s, hs⟩ : ∃ s, xs[m]? = some s := ⟨_, List.getElem?_eq_getElem (by omega)⟩
  rw [covB_of x hm hr hs]
  have a1 : r.1 ≤ p.1 := by
    rcases Nat.eq_zero_or_pos k with h | h
    · subst h; rw [hr] at hp; injection hp with hp; subst hp; omega
    · have := ht.2.2.2 0 k r p h hr hp; omega
  have a2 : q.1 ≤ s.1 := by
    rcases Nat.lt_or_ge (k + 1) m with h | h
    · have := ht.2.2.2 (k + 1) m q s h hq hs; omega
    · obtain rfl : m = k + 1 := by omega
      rw [hs] at hq; injection hq with hq; subst hq; omega
  simp; omega
end Go.Proofs.Ytkhongbemoahpaa

