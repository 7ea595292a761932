/- Contracts: P13, P14, P15, joined. -/
import Derived.Test.YtgklpbgdimkhaaaGreatKA6
import Derived.Test.YtgklpbgdimkhaaaGreatT5
import Derived.Test.YtgklpbgdimkhaaaGreatT2
import Derived.Test.YtgklpbgdimkhaaaGreatKA3
namespace Go.Proofs.YtgklpbgdimkhaaaGreat
open Go.Lib
set_option linter.unusedVariables false
set_option linter.unusedSimpArgs false

theorem floor_ceil (n c : Int) (hc : 0 < c) : n / c ≤ -(-n / c) := by
  have h1 := Int.ediv_mul_le n (b := c) (by omega)
  have h2 := Int.ediv_mul_le (-n) (b := c) (by omega)
  generalize n / c = X at *
  generalize -n / c = Y at *
  rcases Int.lt_or_le (X + Y) 1 with h | h
  · omega
  · have h3 := Int.mul_le_mul_of_nonneg_right h (show (0 : Int) ≤ c by omega)
    rw [Int.add_mul, Int.one_mul] at h3
    omega
theorem q_any {a b c : Int} (hb : 0 < b) (hc : 0 < c) : (qLo a b c = a * b / c ∧ qHi a b c = -(-(a * b) / c)) ∨ (1000000000000000000 ≤ a * b / c ∧ a * b / c ≤ -(-(a * b) / c) ∧ qLo a b c = 1000000000000000000 ∧ qHi a b c = 1000000000000000000) ∨
    (-(-(a * b) / c) ≤ -1000000000000000000 ∧ a * b / c ≤ -(-(a * b) / c) ∧ qLo a b c = -1000000000000000000 ∧ qHi a b c = -1000000000000000000) := by
  by_cases h : a.natAbs * b.natAbs / c.natAbs ≤ 1000000000000000000
  · exact Or.inl (q_pos hc h)
  · have hW : qW a b c = 1000000000000000000 := by unfold qW; rw [if_pos (by omega)]
    have hR : qR a b c = 0 := by unfold qR; rw [if_pos (by omega)]
    have hle := floor_ceil (a * b) c hc
    have hN : qNeg a b c = decide (a < 0) := by
      unfold qNeg
      rw [show decide (b < 0) = false from by simp; omega, show decide (c < 0) = false from by simp; omega]
      simp
    obtain ⟨B, rfl⟩ := Int.eq_ofNat_of_zero_le (by omega : 0 ≤ b)
    obtain ⟨C, rfl⟩ := Int.eq_ofNat_of_zero_le (by omega : 0 ≤ c)
    rw [Int.natAbs_natCast, Int.natAbs_natCast] at h
    unfold qLo qHi
    rw [hW, hR, hN]
    by_cases ha : a < 0
    · obtain ⟨A, hA⟩ := Int.eq_ofNat_of_zero_le (by omega : 0 ≤ -a)
      obtain rfl : a = -(A : Int) := by omega
      rw [Int.natAbs_neg, Int.natAbs_natCast] at h
      have e : -(-(A : Int) * (B : Int)) / (C : Int) = ((A * B / C : Nat) : Int) := by rw [Int.neg_mul, Int.neg_neg]; simp
      rw [e] at hle ⊢
      refine Or.inr (Or.inr ⟨by omega, hle, ?_, ?_⟩)
      · rw [decide_eq_true ha]; rfl
      · rw [decide_eq_true ha]; rfl
    · obtain ⟨A, rfl⟩ := Int.eq_ofNat_of_zero_le (by omega : 0 ≤ a)
      rw [Int.natAbs_natCast] at h
      have e : ((A : Int) * (B : Int)) / (C : Int) = ((A * B / C : Nat) : Int) := by simp
      refine Or.inr (Or.inl ⟨by rw [e]; omega, hle, ?_, ?_⟩)
      · rw [decide_eq_false ha]; rfl
      · rw [decide_eq_false ha]; rfl
theorem q_flip (a b c : Int) (hc : c < 0) : qLo a b c = qLo (-a) b (-c) ∧ qHi a b c = qHi (-a) b (-c) := by
  have hW : qW (-a) b (-c) = qW a b c := by unfold qW; rw [Int.natAbs_neg, Int.natAbs_neg]
  have hR : qR (-a) b (-c) = qR a b c := by unfold qR; rw [Int.natAbs_neg, Int.natAbs_neg]
  by_cases ha : a = 0
  · subst ha
    have w0 : qW 0 b c = 0 := by unfold qW; simp
    have r0 : qR 0 b c = 0 := by unfold qR; simp
    unfold qLo qHi
    rw [hW, hR, w0, r0]
    simp
  · have hN : qNeg (-a) b (-c) = qNeg a b c := by
      unfold qNeg
      have e1 : decide (-a < 0) = !decide (a < 0) := by rw [Bool.eq_iff_iff]; simp; omega
      have e2 : decide (-c < 0) = !decide (c < 0) := by rw [Bool.eq_iff_iff]; simp; omega
      rw [e1, e2]
      cases decide (a < 0) <;> cases decide (b < 0) <;> cases decide (c < 0) <;> rfl
    unfold qLo qHi
    rw [hW, hR, hN]
    exact ⟨rfl, rfl⟩
theorem q_bd (a b c : Int) : -1000000000000000001 ≤ qLo a b c ∧ qLo a b c ≤ 1000000000000000000 ∧ -1000000000000000000 ≤ qHi a b c ∧ qHi a b c ≤ 1000000000000000001 := by
  have := qW_le a b c
  unfold qLo qHi
  refine ⟨?_, ?_, ?_, ?_⟩ <;> (repeat' split) <;> omega

/-- what placesBetween returns -/
def plP (p q : Int × Int) (yl yh : Int) : (Int × Int) × Bool :=
  if q.2 - p.2 = 0 then ((p.1, q.1), decide (yl ≤ p.2) && decide (p.2 ≤ yh))
  else if q.2 - p.2 < 0 then ((p.1 + max 0 (qHi (yh - p.2) (q.1 - p.1) (q.2 - p.2)), p.1 + min (q.1 - p.1) (qLo (yl - p.2) (q.1 - p.1) (q.2 - p.2))), decide (max 0 (qHi (yh - p.2) (q.1 - p.1) (q.2 - p.2)) ≤ min (q.1 - p.1) (qLo (yl - p.2) (q.1 - p.1) (q.2 - p.2))))
  else ((p.1 + max 0 (qHi (yl - p.2) (q.1 - p.1) (q.2 - p.2)), p.1 + min (q.1 - p.1) (qLo (yh - p.2) (q.1 - p.1) (q.2 - p.2))), decide (max 0 (qHi (yl - p.2) (q.1 - p.1) (q.2 - p.2)) ≤ min (q.1 - p.1) (qLo (yh - p.2) (q.1 - p.1) (q.2 - p.2))))
theorem plP_hi (p q : Int × Int) (yl yh : Int) : (plP p q yl yh).1.2 ≤ q.1 := by
  unfold plP
  split
  · exact Int.le_refl _
  · split <;> (simp only; omega)
theorem plP_lo (p q : Int × Int) (yl yh : Int) (h : (plP p q yl yh).2 = true) : p.1 ≤ q.1 → p.1 ≤ (plP p q yl yh).1.1 ∧ (plP p q yl yh).1.1 ≤ (plP p q yl yh).1.2 := by
  unfold plP at h ⊢
  split at h
  · rename_i e; rw [if_pos e]; intro h2; exact ⟨Int.le_refl _, h2⟩
  · rename_i e
    rw [if_neg e]
    split at h
    · rename_i e2; rw [if_pos e2]; simp only [decide_eq_true_eq] at h; intro _; simp only; omega
    · rename_i e2; rw [if_neg e2]; simp only [decide_eq_true_eq] at h; intro _; simp only; omega

/-- where a test of a stretch stands at a bound -/
theorem seg_bound (p q : Int × Int) (hw : p.1 < q.1) (yl yh : Int) (behind : Bool) : ∃ n, ∀ x, p.1 ≤ x → x ≤ q.1 → (srP yl yh (decide (p.2 ≤ q.2)) behind (segV p q x) = true ↔ n ≤ x) := by
  rcases Int.lt_trichotomy p.2 q.2 with hr | hr | hr
  · rw [decide_eq_true (show p.2 ≤ q.2 by omega)]
    cases behind
    · refine ⟨p.1 + -(-((yl - p.2) * (q.1 - p.1)) / (q.2 - p.2)), fun x _ _ => ?_⟩
      simp only [srP]
      rw [decide_eq_true_iff, rise_in hw hr]
      omega
    · refine ⟨p.1 + ((yh - p.2) * (q.1 - p.1) / (q.2 - p.2) + 1), fun x _ _ => ?_⟩
      simp only [srP]
      rw [decide_eq_true_iff, rise_out hw hr]
      omega
  · rw [decide_eq_true (show p.2 ≤ q.2 by omega)]
    cases behind
    · by_cases h : yl ≤ p.2
      · exact ⟨p.1, fun x h1 h2 => by simp only [srP]; rw [flat_val hr, decide_eq_true_iff]; simp only; omega⟩
      · exact ⟨q.1 + 1, fun x h1 h2 => by simp only [srP]; rw [flat_val hr, decide_eq_true_iff]; simp only; omega⟩
    · by_cases h : yh < p.2
      · exact ⟨p.1, fun x h1 h2 => by simp only [srP]; rw [flat_val hr, decide_eq_true_iff]; simp only; omega⟩
      · exact ⟨q.1 + 1, fun x h1 h2 => by simp only [srP]; rw [flat_val hr, decide_eq_true_iff]; simp only; omega⟩
  · rw [decide_eq_false (show ¬ p.2 ≤ q.2 by omega)]
    cases behind
    · refine ⟨p.1 + -(-((p.2 - yh) * (q.1 - p.1)) / (p.2 - q.2)), fun x _ _ => ?_⟩
      simp only [srP]
      rw [decide_eq_true_iff, fall_in hw hr]
      omega
    · refine ⟨p.1 + ((p.2 - yl) * (q.1 - p.1) / (p.2 - q.2) + 1), fun x _ _ => ?_⟩
      simp only [srP]
      rw [decide_eq_true_iff, fall_out hw hr]
      omega
theorem pl_is (p q : Int × Int) (hw : p.1 < q.1) (hwb : q.1 - p.1 ≤ 2000000000) (yl yh : Int) (hy : yl ≤ yh) (f1 f2 : Int)
    (h1 : firstIs (fun x => srP yl yh (decide (p.2 ≤ q.2)) false (segV p q x)) p.1 q.1 f1) (h2 : firstIs (fun x => srP yl yh (decide (p.2 ≤ q.2)) true (segV p q x)) p.1 q.1 f2) :
    (plP p q yl yh).2 = decide (f1 ≤ f2 - 1) ∧ (f1 ≤ f2 - 1 → (plP p q yl yh).1 = (f1, f2 - 1)) := by
  rcases Int.lt_trichotomy p.2 q.2 with hr | hr | hr
  · rw [decide_eq_true (show p.2 ≤ q.2 by omega)] at h1 h2
    simp only [srP] at h1 h2
    have e1 := firstIs_one h1 (firstIs_bound (n := p.1 + -(-((yl - p.2) * (q.1 - p.1)) / (q.2 - p.2))) (by omega) (fun x _ _ => by rw [decide_eq_true_iff, rise_in hw hr]; omega))
    have e2 := firstIs_one h2 (firstIs_bound (n := p.1 + ((yh - p.2) * (q.1 - p.1) / (q.2 - p.2) + 1)) (by omega) (fun x _ _ => by rw [decide_eq_true_iff, rise_out hw hr]; omega))
    have q1 := q_any (a := yl - p.2) (b := q.1 - p.1) (c := q.2 - p.2) (by omega) (by omega)
    have q2 := q_any (a := yh - p.2) (b := q.1 - p.1) (c := q.2 - p.2) (by omega) (by omega)
    unfold plP
    rw [if_neg (by omega), if_neg (by omega)]
    clear h1 h2
    generalize qHi (yl - p.2) (q.1 - p.1) (q.2 - p.2) = F at *
    generalize qLo (yh - p.2) (q.1 - p.1) (q.2 - p.2) = L at *
    generalize -(-((yl - p.2) * (q.1 - p.1)) / (q.2 - p.2)) = C1 at *
    generalize (yh - p.2) * (q.1 - p.1) / (q.2 - p.2) = F2 at *
    subst e1 e2
    refine ⟨?_, fun h => ?_⟩
    · simp only
      rw [decide_eq_decide]
      omega
    · simp only
      ext <;> simp only <;> omega
  · rw [decide_eq_true (show p.2 ≤ q.2 by omega)] at h1 h2
    simp only [srP] at h1 h2
    have e1 := firstIs_one h1 (firstIs_bound (n := if yl ≤ p.2 then p.1 else q.1 + 1) (by omega) (fun x _ _ => by rw [flat_val hr, decide_eq_true_iff]; simp only; split <;> omega))
    have e2 := firstIs_one h2 (firstIs_bound (n := if yh < p.2 then p.1 else q.1 + 1) (by omega) (fun x _ _ => by rw [flat_val hr, decide_eq_true_iff]; simp only; split <;> omega))
    unfold plP
    rw [if_pos (by omega)]
    clear h1 h2
    subst e1 e2
    refine ⟨?_, fun h => ?_⟩
    · simp only
      rw [Bool.eq_iff_iff]
      simp only [Bool.and_eq_true, decide_eq_true_eq]
      split <;> split <;> omega
    · simp only
      split at h <;> split at h <;> (ext <;> simp only <;> omega)
  · rw [decide_eq_false (show ¬ p.2 ≤ q.2 by omega)] at h1 h2
    simp only [srP] at h1 h2
    have e1 := firstIs_one h1 (firstIs_bound (n := p.1 + -(-((p.2 - yh) * (q.1 - p.1)) / (p.2 - q.2))) (by omega) (fun x _ _ => by rw [decide_eq_true_iff, fall_in hw hr]; omega))
    have e2 := firstIs_one h2 (firstIs_bound (n := p.1 + ((p.2 - yl) * (q.1 - p.1) / (p.2 - q.2) + 1)) (by omega) (fun x _ _ => by rw [decide_eq_true_iff, fall_out hw hr]; omega))
    have q1 := q_any (a := p.2 - yh) (b := q.1 - p.1) (c := p.2 - q.2) (by omega) (by omega)
    have q2 := q_any (a := p.2 - yl) (b := q.1 - p.1) (c := p.2 - q.2) (by omega) (by omega)
    have g1 := (q_flip (yh - p.2) (q.1 - p.1) (q.2 - p.2) (by omega)).2
    have g2 := (q_flip (yl - p.2) (q.1 - p.1) (q.2 - p.2) (by omega)).1
    rw [show -(yh - p.2) = p.2 - yh from by omega, show -(q.2 - p.2) = p.2 - q.2 from by omega] at g1
    rw [show -(yl - p.2) = p.2 - yl from by omega, show -(q.2 - p.2) = p.2 - q.2 from by omega] at g2
    unfold plP
    rw [if_neg (by omega), if_pos (by omega), g1, g2]
    clear h1 h2 g1 g2
    generalize qHi (p.2 - yh) (q.1 - p.1) (p.2 - q.2) = F at *
    generalize qLo (p.2 - yl) (q.1 - p.1) (p.2 - q.2) = L at *
    generalize -(-((p.2 - yh) * (q.1 - p.1)) / (p.2 - q.2)) = C1 at *
    generalize (p.2 - yl) * (q.1 - p.1) / (p.2 - q.2) = F2 at *
    subst e1 e2
    refine ⟨?_, fun h => ?_⟩
    · simp only
      rw [decide_eq_decide]
      omega
    · simp only
      ext <;> simp only <;> omega

/-- what placesBetween returns for the rows k and k + 1 -/
def plK (xs : List (Int × Int)) (yl yh : Int) (k : Nat) : (Int × Int) × Bool := match xs[k]?, xs[k + 1]? with
  | some p, some q => plP p q yl yh
  | _, _ => ((0, 0), false)
theorem plK_of {xs : List (Int × Int)} {yl yh : Int} {k : Nat} {p q : Int × Int} (hp : xs[k]? = some p) (hq : xs[k + 1]? = some q) : plK xs yl yh k = plP p q yl yh := by
  unfold plK; rw [hp, hq]
/-- the places of a valid table at which the value lies in a range -/
def whV (xs : List (Int × Int)) (yl yh : Int) : List (Int × Int) := whereAt (plK xs yl yh) (xs.length - 1)
theorem seg_val {xs : List (Int × Int)} (ht : TabOk xs) {k : Nat} {p q : Int × Int} (hp : xs[k]? = some p) (hq : xs[k + 1]? = some q) (x : Int) (h1 : p.1 ≤ x) (h2 : x ≤ q.1) : valV xs x = segV p q x :=
  valV_is ht ⟨k, p, q, hp, hq, h1, h2, rfl⟩

open Go.Lib
set_option linter.unusedVariables false
set_option linter.unusedSimpArgs false

theorem memB_snoc (l : List (Int × Int)) (p : Int × Int) (n : Int) : memB (l ++ [p]) n = (memB l n || (decide (p.1 ≤ n) && decide (n ≤ p.2))) := by simp [memB]
theorem memB_iff {xs : List (Int × Int)} {n : Int} : memB xs n = true ↔ ∃ p ∈ xs, p.1 ≤ n ∧ n ≤ p.2 := by simp [memB]
def Apart (L : List (Int × Int)) : Prop := (∀ p ∈ L, p.1 ≤ p.2) ∧ L.Pairwise fun p q => p.2 + 1 < q.1
theorem last_split {L : List (Int × Int)} {q : Int × Int} (h : L.getLast? = some q) : ∃ l, L = l ++ [q] ∧ L.dropLast = l := by
  rcases List.eq_nil_or_concat L with rfl | ⟨l, a, rfl⟩
  · simp at h
  · rw [List.concat_eq_append] at *
    simp at h
    subst h
    exact ⟨l, rfl, by simp⟩
theorem apart_snoc {l : List (Int × Int)} {q : Int × Int} : Apart (l ++ [q]) ↔ Apart l ∧ q.1 ≤ q.2 ∧ ∀ p ∈ l, p.2 + 1 < q.1 := by
  unfold Apart
  rw [List.pairwise_append]
  constructor
  · rintro ⟨h1, h2, _, h4⟩
    exact ⟨⟨fun p hp => h1 p (by simp [hp]), h2⟩, h1 q (by simp), fun p hp => h4 p hp q (by simp)⟩
  · rintro ⟨⟨h1, h2⟩, h3, h4⟩
    refine ⟨?_, h2, by simp, ?_⟩
    · intro p hp
      rcases List.mem_append.1 hp with hp | hp
      · exact h1 p hp
      · simp at hp; subst hp; exact h3
    · intro p hp r hr
      simp at hr; subst hr; exact h4 p hp
theorem memB_extP (acc : List (Int × Int)) (a : Int × Int) (n : Int) (h : ∀ q, acc.getLast? = some q → q.1 ≤ a.1 ∧ q.2 ≤ a.2) :
    memB (extP acc a) n = (memB acc n || (decide (a.1 ≤ n) && decide (n ≤ a.2))) := by
  unfold extP
  cases hq : acc.getLast? with
  | none =>
    obtain rfl := List.getLast?_eq_none_iff.1 hq
    simp [memB]
  | some q =>
    obtain ⟨h1, h2⟩ := h q hq
    obtain ⟨l, rfl, hl⟩ := last_split hq
    simp only
    split
    · rw [hl, memB_snoc, memB_snoc]
      rw [Bool.eq_iff_iff]
      simp
      cases memB l n
      · simp; omega
      · simp
    · rw [memB_snoc]
theorem apart_extP {acc : List (Int × Int)} {a : Int × Int} (ha : Apart acc) (haa : a.1 ≤ a.2) (h : ∀ q, acc.getLast? = some q → q.1 ≤ a.1 ∧ q.2 ≤ a.2) : Apart (extP acc a) := by
  unfold extP
  cases hq : acc.getLast? with
  | none => exact ⟨by simpa using haa, by simp⟩
  | some q =>
    obtain ⟨h1, h2⟩ := h q hq
    obtain ⟨l, rfl, hl⟩ := last_split hq
    obtain ⟨b1, b2, b3⟩ := apart_snoc.1 ha
    simp only
    split
    · rw [hl]
      exact apart_snoc.2 ⟨b1, by simp only; omega, b3⟩
    · refine apart_snoc.2 ⟨ha, haa, fun p hp => ?_⟩
      rcases List.mem_append.1 hp with hp | hp
      · have := b3 p hp; omega
      · simp at hp; subst hp; omega
theorem apart_cons {p : Int × Int} {l : List (Int × Int)} (h : Apart (p :: l)) : Apart l ∧ p.1 ≤ p.2 ∧ ∀ q ∈ l, p.2 + 1 < q.1 := by
  obtain ⟨h1, h2⟩ := h
  rw [List.pairwise_cons] at h2
  exact ⟨⟨fun q hq => h1 q (by simp [hq]), h2.2⟩, h1 p (by simp), h2.1⟩
theorem memB_cons (p : Int × Int) (l : List (Int × Int)) (n : Int) : memB (p :: l) n = ((decide (p.1 ≤ n) && decide (n ≤ p.2)) || memB l n) := by simp [memB]
theorem memB_low {l : List (Int × Int)} {n b : Int} (h : ∀ q ∈ l, b < q.1) (hn : n ≤ b) : memB l n = false := by
  rw [Bool.eq_false_iff]
  intro hm
  obtain ⟨p, hp, h1, h2⟩ := memB_iff.1 hm
  have := h p hp
  omega
theorem firstIs_ex {P : Int → Bool} {a b n : Int} (hab : a ≤ b + 1) (h : ∀ x, a ≤ x → x ≤ b → (P x = true ↔ n ≤ x)) : ∃ f, firstIs P a b f ∧ ∀ x, a ≤ x → x ≤ b → (P x = true ↔ f ≤ x) :=
  ⟨_, firstIs_bound hab h, fun x h1 h2 => by rw [h x h1 h2]; omega⟩
def insideB (yl yh : Int) (v : Int × Int) : Bool := decide (yl ≤ v.1) && decide (v.2 ≤ yh)
theorem inside_sr (yl yh : Int) (rises : Bool) (v : Int × Int) : insideB yl yh v = (srP yl yh rises false v && !srP yl yh rises true v) := by
  unfold insideB
  cases rises
  · simp only [srP]
    rw [Bool.eq_iff_iff]; simp; omega
  · simp only [srP]
    rw [Bool.eq_iff_iff]; simp
/-- the places of a stretch -/
theorem seg_mem (p q : Int × Int) (hw : p.1 < q.1) (hwb : q.1 - p.1 ≤ 2000000000) (yl yh : Int) (hy : yl ≤ yh) :
    ((plP p q yl yh).2 = true → p.1 ≤ (plP p q yl yh).1.1 ∧ (plP p q yl yh).1.1 ≤ (plP p q yl yh).1.2 ∧ (plP p q yl yh).1.2 ≤ q.1) ∧
    ∀ n, p.1 ≤ n → n ≤ q.1 → (insideB yl yh (segV p q n) = true ↔ (plP p q yl yh).2 = true ∧ (plP p q yl yh).1.1 ≤ n ∧ n ≤ (plP p q yl yh).1.2) := by
  obtain ⟨n1, h1⟩ := seg_bound p q hw yl yh false
  obtain ⟨n2, h2⟩ := seg_bound p q hw yl yh true
  obtain ⟨f1, hf1, g1⟩ := firstIs_ex (by omega) h1
  obtain ⟨f2, hf2, g2⟩ := firstIs_ex (by omega) h2
  have hp := pl_is p q hw hwb yl yh hy f1 f2 hf1 hf2
  have hlo := plP_lo p q yl yh
  have hhi := plP_hi p q yl yh
  refine ⟨fun h => ?_, fun n a1 a2 => ?_⟩
  · have := hlo h (by omega)
    omega
  · rw [inside_sr yl yh (decide (p.2 ≤ q.2))]
    rw [Bool.and_eq_true, g1 n a1 a2, Bool.not_eq_true', Bool.eq_false_iff, Ne, g2 n a1 a2, hp.1]
    constructor
    · rintro ⟨h3, h4⟩
      have hle : f1 ≤ f2 - 1 := by omega
      rw [hp.2 hle]
      exact ⟨by simpa using hle, h3, by simp only; omega⟩
    · rintro ⟨h3, h4, h5⟩
      have hle : f1 ≤ f2 - 1 := by simpa using h3
      rw [hp.2 hle] at h4 h5
      simp only at h4 h5
      omega
theorem last_mem {L : List (Int × Int)} {q : Int × Int} (h : L.getLast? = some q) : q ∈ L := by
  obtain ⟨l, rfl, _⟩ := last_split h
  simp
theorem extP_mem (D : Int × Int → Prop) {acc : List (Int × Int)} {a : Int × Int} (h : ∀ p ∈ acc, D p) (ha : D a) (hj : ∀ p, D p → D (p.1, a.2)) : ∀ p ∈ extP acc a, D p := by
  unfold extP
  split
  · simpa using ha
  · rename_i q hq
    split
    · intro p hp
      rcases List.mem_append.1 hp with hp | hp
      · exact h p (List.dropLast_subset _ hp)
      · simp at hp; subst hp; exact hj q (h q (last_mem hq))
    · intro p hp
      rcases List.mem_append.1 hp with hp | hp
      · exact h p hp
      · simp at hp; subst hp; exact ha
/-- what the places of the first stretches are -/
theorem whereAt_is {xs : List (Int × Int)} (ht : TabOk xs) (yl yh : Int) (hy : yl ≤ yh) {f : Int × Int} (hf : xs[0]? = some f) : ∀ (k : Nat) (p : Int × Int), xs[k]? = some p →
    Apart (whereAt (plK xs yl yh) k) ∧ (∀ r ∈ whereAt (plK xs yl yh) k, f.1 ≤ r.1 ∧ r.2 ≤ p.1) ∧
    ∀ n, f.1 ≤ n → n ≤ p.1 → (memB (whereAt (plK xs yl yh) k) n = true ↔ 0 < k ∧ insideB yl yh (valV xs n) = true) := by
  intro k
  induction k with
  | zero => intro p _; exact ⟨⟨by simp [whereAt], by simp [whereAt]⟩, by simp [whereAt], by simp [whereAt, memB]⟩
  | succ k ih =>
    intro q hq
    obtain ⟨p, hp⟩ : ∃ p, xs[k]? = some p := ⟨_, List.getElem?_eq_getElem (by have := (List.getElem?_eq_some_iff.1 hq).1; omega)⟩
    have hpq := ht.2.2.2 k (k + 1) p q (by omega) hp hq
    obtain ⟨r1, r2, r3, r4⟩ := rowB_of (ht.2.2.1 p (List.mem_of_getElem? hp))
    obtain ⟨s1, s2, s3, s4⟩ := rowB_of (ht.2.2.1 q (List.mem_of_getElem? hq))
    have hfp : f.1 ≤ p.1 ∧ (k = 0 → f = p) := by
      rcases Nat.eq_zero_or_pos k with h | h
      · subst h; rw [hf] at hp; injection hp with hp; subst hp; exact ⟨Int.le_refl _, fun _ => rfl⟩
      · have := ht.2.2.2 0 k f p h hf hp; exact ⟨by omega, fun h' => by omega⟩
    obtain ⟨i1, i2, i3⟩ := ih p hp
    obtain ⟨j1, j2⟩ := seg_mem p q hpq (by omega) yl yh hy
    have hsv : ∀ n, p.1 ≤ n → n ≤ q.1 → valV xs n = segV p q n := fun n h1 h2 => seg_val ht hp hq n h1 h2
    have hK := plK_of (yl := yl) (yh := yh) hp hq
    generalize hA : whereAt (plK xs yl yh) k = A at *
    have hfar : ∀ n, p.1 < n → memB A n = false := fun n hn => by
      rw [Bool.eq_false_iff]; intro hm
      obtain ⟨r, hr, _, h2⟩ := memB_iff.1 hm
      have := i2 r hr; omega
    unfold whereAt
    rw [hA, hK]
    by_cases h2 : (plP p q yl yh).2 = true
    · rw [if_pos h2]
      obtain ⟨u1, u2, u3⟩ := j1 h2
      generalize (plP p q yl yh).1 = a at *
      have hl : ∀ r, A.getLast? = some r → r.1 ≤ a.1 ∧ r.2 ≤ a.2 := fun r hr => by
        have h3 := i2 r (last_mem hr)
        have h4 := i1.1 r (last_mem hr)
        omega
      refine ⟨apart_extP i1 u2 hl, extP_mem (fun r => f.1 ≤ r.1 ∧ r.2 ≤ q.1) (fun r hr => by have := i2 r hr; omega) ⟨by omega, u3⟩ (fun r hr => ⟨hr.1, u3⟩), fun n h3 h4 => ?_⟩
      rw [memB_extP A a n hl]
      rcases Int.lt_trichotomy n p.1 with h | h | h
      · rw [Bool.or_eq_true, i3 n h3 (by omega)]
        constructor
        · rintro (h5 | h5)
          · exact ⟨by omega, h5.2⟩
          · simp at h5; omega
        · rintro ⟨_, h5⟩
          refine Or.inl ⟨?_, h5⟩
          rcases Nat.eq_zero_or_pos k with h6 | h6
          · have := hfp.2 h6; subst this; omega
          · exact h6
      · subst h
        rw [Bool.or_eq_true, i3 p.1 h3 (by omega), hsv p.1 (by omega) (by omega), j2 p.1 (by omega) (by omega)]
        simp [h2]
        try omega
      · rw [hfar n h, hsv n (by omega) h4, j2 n (by omega) h4]
        simp [h2]
    · rw [if_neg h2]
      refine ⟨i1, fun r hr => by have := i2 r hr; omega, fun n h3 h4 => ?_⟩
      rcases Int.lt_trichotomy n p.1 with h | h | h
      · rw [i3 n h3 (by omega)]
        have : 0 < k := by
          rcases Nat.eq_zero_or_pos k with h6 | h6
          · have := hfp.2 h6; subst this; omega
          · exact h6
        simp [this]
      · subst h
        rw [i3 p.1 h3 (by omega), hsv p.1 (by omega) (by omega), j2 p.1 (by omega) (by omega)]
        simp [h2]
      · rw [hfar n h, hsv n (by omega) h4, j2 n (by omega) h4]
        simp [h2]
theorem whV_is {xs : List (Int × Int)} (ht : TabOk xs) (yl yh : Int) (hy : yl ≤ yh) {f l : Int × Int} {m : Nat} (hm : xs.length = m + 1) (hf : xs[0]? = some f) (hl : xs[m]? = some l) :
    Apart (whV xs yl yh) ∧ (∀ r ∈ whV xs yl yh, f.1 ≤ r.1 ∧ r.2 ≤ l.1) ∧ ∀ n, f.1 ≤ n → n ≤ l.1 → memB (whV xs yl yh) n = insideB yl yh (valV xs n) := by
  obtain ⟨h1, h2, h3⟩ := whereAt_is ht yl yh hy hf m l hl
  unfold whV
  rw [hm, show m + 1 - 1 = m from rfl]
  refine ⟨h1, h2, fun n a b => ?_⟩
  rw [Bool.eq_iff_iff, h3 n a b]
  have := ht.1
  exact ⟨fun h => h.2, fun h => ⟨by omega, h⟩⟩
/-! ### the same line -/
theorem seg_gap {p q : Int × Int} (hw : p.1 < q.1) (x : Int) : (segV p q x).2 - (segV p q x).1 = 0 ∨ (segV p q x).2 - (segV p q x).1 = 1 := by
  unfold segV
  simp only
  have hW : 0 < q.1 - p.1 := by omega
  generalize (q.2 - p.2) * (x - p.1) = A at *
  generalize q.1 - p.1 = W at *
  have h1 := floor_ceil A W hW
  have h2 := Int.lt_ediv_add_one_mul_self A hW
  have h3 := Int.lt_ediv_add_one_mul_self (-A) hW
  generalize A / W = X at *
  generalize -A / W = Y at *
  rcases Int.lt_or_le (-Y - X) 2 with h | h
  · omega
  · have h4 := Int.mul_le_mul_of_nonneg_right (show X + Y + 2 ≤ 0 by omega) (show (0 : Int) ≤ W by omega)
    rw [Int.zero_mul, Int.add_mul, Int.add_mul] at h4
    rw [Int.add_mul, Int.one_mul] at h2 h3
    omega

open Go.Lib
set_option linter.unusedVariables false
set_option linter.unusedSimpArgs false

theorem tabE_of {xs : List (Int × Int)} (h : TabOk xs) : tabE xs = 0 := by
  refine tabE_yes h.1 h.2.1 ?_
  unfold rowsOk
  rw [List.all_eq_true]
  intro k hk
  have hk' : k < xs.length := by simpa using hk
  have hp : xs[k]? = some xs[k] := List.getElem?_eq_getElem hk'
  rw [rowOk_of hp, h.2.2.1 _ (List.getElem_mem hk'), Bool.true_and]
  cases k with
  | zero => rfl
  | succ j =>
    have hj : xs[j]? = some xs[j] := List.getElem?_eq_getElem (by omega)
    simp only [hj]
    have := h.2.2.2 j (j + 1) _ _ (by omega) hj hp
    simpa using this
theorem cov_of {xs : List (Int × Int)} {m : Nat} {f l : Int × Int} (hm : xs.length = m + 1) (hf : xs[0]? = some f) (hl : xs[m]? = some l) {x : Int} (h1 : f.1 ≤ x) (h2 : x ≤ l.1) : covB xs x = true := by
  rw [covB_of x hm hf hl]; simp; omega
theorem valV_gap {xs : List (Int × Int)} (ht : TabOk xs) {x : Int} (hc : covB xs x = true) : (valV xs x).2 - (valV xs x).1 = 0 ∨ (valV xs x).2 - (valV xs x).1 = 1 := by
  obtain ⟨k, p, q, hp, hq, h1, h2, _⟩ := seg_first ht hc
  rw [seg_val ht hp hq x h1 h2]
  exact seg_gap (ht.2.2.2 k (k + 1) p q (by omega) hp hq) x
theorem vsK_le (a b : Int) : ∀ (l : List (Int × Int)) (s : Int × Int), (l.foldl (vsK a b) s).1 ≤ s.1 ∧ s.2 ≤ (l.foldl (vsK a b) s).2 ∧ ∀ p ∈ l, a ≤ p.1 → p.1 ≤ b → (l.foldl (vsK a b) s).1 ≤ p.2 ∧ p.2 ≤ (l.foldl (vsK a b) s).2 := by
  intro l
  induction l with
  | nil => intro s; exact ⟨Int.le_refl _, Int.le_refl _, fun p hp => by cases hp⟩
  | cons q l ih =>
    intro s
    obtain ⟨h1, h2, h3⟩ := ih (vsK a b s q)
    rw [List.foldl_cons]
    have hs : (vsK a b s q).1 ≤ s.1 ∧ s.2 ≤ (vsK a b s q).2 ∧ (a ≤ q.1 → q.1 ≤ b → (vsK a b s q).1 ≤ q.2 ∧ q.2 ≤ (vsK a b s q).2) := by
      unfold vsK
      split
      · simp only; omega
      · rename_i hn; exact ⟨Int.le_refl _, Int.le_refl _, fun h4 h5 => absurd ⟨h4, h5⟩ hn⟩
    refine ⟨by omega, by omega, fun p hp h4 h5 => ?_⟩
    rcases List.mem_cons.1 hp with rfl | hp
    · have := hs.2.2 h4 h5; omega
    · exact h3 p hp h4 h5
theorem valsV_in {xs : List (Int × Int)} (ht : TabOk xs) (a b : Int) : ((valsV xs a b).1 ≤ (valV xs a).1 ∧ (valV xs a).2 ≤ (valsV xs a b).2) ∧ ((valsV xs a b).1 ≤ (valV xs b).1 ∧ (valV xs b).2 ≤ (valsV xs a b).2) ∧
    ∀ p ∈ xs, a ≤ p.1 → p.1 ≤ b → (valsV xs a b).1 ≤ p.2 ∧ p.2 ≤ (valsV xs a b).2 := by
  obtain ⟨h1, h2, h3⟩ := vsK_le a b xs (vs0 xs a b)
  rw [vs_same ht a b] at h1 h2 h3
  have e : vs0 xs a b = (min (valV xs a).1 (valV xs b).1, max (valV xs a).2 (valV xs b).2) := rfl
  rw [e] at h1 h2
  simp only at h1 h2
  exact ⟨⟨by omega, by omega⟩, ⟨by omega, by omega⟩, h3⟩

/-! ### the table by steps -/
/-! ### a row more -/
end Go.Proofs.YtgklpbgdimkhaaaGreat
