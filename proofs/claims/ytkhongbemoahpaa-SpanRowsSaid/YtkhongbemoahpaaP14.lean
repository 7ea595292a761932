/- Plain: where a table's value lies in a range; a row more on one of its lines. -/
import Derived.Test.YtkhongbemoahpaaP13
import Derived.Test.YtkhongbemoahpaaT7
namespace Go.Proofs.Ytkhongbemoahpaa
open Go.Lib
set_option linter.unusedVariables false
set_option linter.unusedSimpArgs false

theorem memB_snoc (l : List (Int × Int)) (p : Int × Int) (n : Int) : memB (l ++ [p]) n = (memB l n || (decide (p.1 ≤ n) && decide (n ≤ p.2))) := by simp [memB]
theorem memB_iff {xs : List (Int × Int)} {n : Int} : memB xs n = true ↔ ∃ p ∈ xs, p.1 ≤ n ∧ n ≤ p.2 := by simp [memB]
def Apart (L : List (Int × Int)) : Prop := (∀ p ∈ L, p.1 ≤ p.2) ∧ L.Pairwise fun p q => p.2 + 1 < q.1
theorem last_split {L : List (Int × Int)} {q : Int × Int} (h : L.getLast? = some q) : ∃ l, L = l ++ [q] ∧ L.dropLast = l := by
  rcases List.eq_nil_or_concat L with rfl | ⟨l, a, rfl⟩
  · simp at h
  · rw [List.concat_eq_append] at *
    simp at h
    subst h
    exact ⟨l, rfl, by simp⟩
theorem apart_snoc {l : List (Int × Int)} {q : Int × Int} : Apart (l ++ [q]) ↔ Apart l ∧ q.1 ≤ q.2 ∧ ∀ p ∈ l, p.2 + 1 < q.1 := by
  unfold Apart
  rw [List.pairwise_append]
  constructor
  · rintro ⟨h1, h2, _, h4⟩
    exact ⟨⟨fun p hp => h1 p (by simp [hp]), h2⟩, h1 q (by simp), fun p hp => h4 p hp q (by simp)⟩
  · rintro ⟨⟨h1, h2⟩, h3, h4⟩
    refine ⟨?_, h2, by simp, ?_⟩
    · intro p hp
      rcases List.mem_append.1 hp with hp | hp
      · exact h1 p hp
      · simp at hp; subst hp; exact h3
    · intro p hp r hr
      simp at hr; subst hr; exact h4 p hp
theorem memB_extP (acc : List (Int × Int)) (a : Int × Int) (n : Int) (h : ∀ q, acc.getLast? = some q → q.1 ≤ a.1 ∧ q.2 ≤ a.2) :
    memB (extP acc a) n = (memB acc n || (decide (a.1 ≤ n) && decide (n ≤ a.2))) := by
  unfold extP
  cases hq : acc.getLast? with
  | none =>
    obtain rfl := List.getLast?_eq_none_iff.1 hq
    simp [memB]
  | some q =>
    obtain ⟨h1, h2⟩ := h q hq
    obtain ⟨l, rfl, hl⟩ := last_split hq
    simp only
    split
    · rw [hl, memB_snoc, memB_snoc]
      rw [Bool.eq_iff_iff]
      simp
      cases memB l n
      · simp; omega
      · simp
    · rw [memB_snoc]
theorem apart_extP {acc : List (Int × Int)} {a : Int × Int} (ha : Apart acc) (haa : a.1 ≤ a.2) (h : ∀ q, acc.getLast? = some q → q.1 ≤ a.1 ∧ q.2 ≤ a.2) : Apart (extP acc a) := by
  unfold extP
  cases hq : acc.getLast? with
  | none => exact ⟨by simpa using haa, by simp⟩
  | some q =>
    obtain ⟨h1, h2⟩ := h q hq
    obtain ⟨l, rfl, hl⟩ := last_split hq
    obtain ⟨b1, b2, b3⟩ := apart_snoc.1 ha
    simp only
    split
    · rw [hl]
      exact apart_snoc.2 ⟨b1, by simp only; omega, b3⟩
    · refine apart_snoc.2 ⟨ha, haa, fun p hp => ?_⟩
      rcases List.mem_append.1 hp with hp | hp
      · have := b3 p hp; omega
      · simp at hp; subst hp; omega
theorem setE_apart {L : List (Int × Int)} (hA : Apart L) (hl : L.length ≤ 200) (hb : ∀ p ∈ L, -1000000000000000 ≤ p.1 ∧ p.2 ≤ 1000000000000000) : setE L = 0 := by
  refine setE_yes hl ?_
  unfold rngsOk
  rw [List.all_eq_true]
  intro k hk
  have hk' : k < L.length := by simpa using hk
  have hp : L[k]? = some L[k] := List.getElem?_eq_getElem hk'
  rw [rngOk_of hp]
  have h1 := hb _ (List.getElem_mem hk')
  have h2 := hA.1 _ (List.getElem_mem hk')
  have hv : vrB L[k].1 L[k].2 = true := by simp [vrB]; omega
  rw [hv, Bool.true_and]
  cases k with
  | zero => rfl
  | succ j =>
    have hj : L[j]? = some L[j] := List.getElem?_eq_getElem (by omega)
    simp only [hj]
    have := List.pairwise_iff_getElem.1 hA.2 j (j + 1) (by omega) hk' (by omega)
    simpa using this

theorem apart_cons {p : Int × Int} {l : List (Int × Int)} (h : Apart (p :: l)) : Apart l ∧ p.1 ≤ p.2 ∧ ∀ q ∈ l, p.2 + 1 < q.1 := by
  obtain ⟨h1, h2⟩ := h
  rw [List.pairwise_cons] at h2
  exact ⟨⟨fun q hq => h1 q (by simp [hq]), h2.2⟩, h1 p (by simp), h2.1⟩
theorem memB_cons (p : Int × Int) (l : List (Int × Int)) (n : Int) : memB (p :: l) n = ((decide (p.1 ≤ n) && decide (n ≤ p.2)) || memB l n) := by simp [memB]
theorem memB_low {l : List (Int × Int)} {n b : Int} (h : ∀ q ∈ l, b < q.1) (hn : n ≤ b) : memB l n = false := by
  rw [Bool.eq_false_iff]
  intro hm
  obtain ⟨p, hp, h1, h2⟩ := memB_iff.1 hm
  have := h p hp
  omega
/-- lists that are apart and have the same numbers are the same -/
theorem apart_ext : ∀ (m : Nat) (A B : List (Int × Int)), A.length = m → Apart A → Apart B → (∀ n, memB A n = memB B n) → A = B := by
  intro m
  induction m with
  | zero =>
    intro A B hA _ hB h
    have : A = [] := List.eq_nil_of_length_eq_zero hA
    subst this
    cases B with
    | nil => rfl
    | cons q l =>
      have := h q.1
      rw [memB_cons] at this
      have h2 := hB.1 q (by simp)
      simp [memB] at this
      omega
  | succ m ih =>
    intro A B hA h1 h2 h
    cases A with
    | nil => simp at hA
    | cons p a =>
      obtain ⟨a1, a2, a3⟩ := apart_cons h1
      cases B with
      | nil =>
        have := h p.1
        rw [memB_cons] at this
        simp [memB] at this
        omega
      | cons q b =>
        obtain ⟨b1, b2, b3⟩ := apart_cons h2
        have la : ∀ n, n ≤ p.2 + 1 → memB a n = false := fun n hn => memB_low a3 hn
        have lb : ∀ n, n ≤ q.2 + 1 → memB b n = false := fun n hn => memB_low b3 hn
        have e1 : p.1 = q.1 := by
          rcases Int.lt_trichotomy p.1 q.1 with e | e | e
          · have := h p.1
            rw [memB_cons, memB_cons, la p.1 (by omega), lb p.1 (by omega), Bool.eq_iff_iff] at this
            simp at this
            omega
          · exact e
          · have := h q.1
            rw [memB_cons, memB_cons, la q.1 (by omega), lb q.1 (by omega), Bool.eq_iff_iff] at this
            simp at this
            omega
        have e2 : p.2 = q.2 := by
          rcases Int.lt_trichotomy p.2 q.2 with e | e | e
          · have := h (p.2 + 1)
            rw [memB_cons, memB_cons, la (p.2 + 1) (by omega), lb (p.2 + 1) (by omega), Bool.eq_iff_iff] at this
            simp at this
            omega
          · exact e
          · have := h (q.2 + 1)
            rw [memB_cons, memB_cons, la (q.2 + 1) (by omega), lb (q.2 + 1) (by omega), Bool.eq_iff_iff] at this
            simp at this
            omega
        obtain rfl : p = q := by ext <;> assumption
        congr 1
        refine ih a b (by simpa using hA) a1 b1 (fun n => ?_)
        by_cases hn : n ≤ p.2 + 1
        · rw [la n hn, lb n hn]
        · have := h n
          rw [memB_cons, memB_cons, show (decide (n ≤ p.2)) = false from by simp; omega] at this
          simpa using this

theorem firstIs_ex {P : Int → Bool} {a b n : Int} (hab : a ≤ b + 1) (h : ∀ x, a ≤ x → x ≤ b → (P x = true ↔ n ≤ x)) : ∃ f, firstIs P a b f ∧ ∀ x, a ≤ x → x ≤ b → (P x = true ↔ f ≤ x) :=
  ⟨_, firstIs_bound hab h, fun x h1 h2 => by rw [h x h1 h2]; omega⟩
def insideB (yl yh : Int) (v : Int × Int) : Bool := decide (yl ≤ v.1) && decide (v.2 ≤ yh)
theorem inside_sr (yl yh : Int) (rises : Bool) (v : Int × Int) : insideB yl yh v = (srP yl yh rises false v && !srP yl yh rises true v) := by
  unfold insideB
  cases rises
  · simp only [srP]
    rw [Bool.eq_iff_iff]; simp; omega
  · simp only [srP]
    rw [Bool.eq_iff_iff]; simp
/-- the places of a stretch -/
theorem seg_mem (p q : Int × Int) (hw : p.1 < q.1) (hwb : q.1 - p.1 ≤ 2000000000) (yl yh : Int) (hy : yl ≤ yh) :
    ((plP p q yl yh).2 = true → p.1 ≤ (plP p q yl yh).1.1 ∧ (plP p q yl yh).1.1 ≤ (plP p q yl yh).1.2 ∧ (plP p q yl yh).1.2 ≤ q.1) ∧
    ∀ n, p.1 ≤ n → n ≤ q.1 → (insideB yl yh (segV p q n) = true ↔ (plP p q yl yh).2 = true ∧ (plP p q yl yh).1.1 ≤ n ∧ n ≤ (plP p q yl yh).1.2) := by
  obtain ⟨n1, h1⟩ := seg_bound p q hw yl yh false
  obtain ⟨n2, h2⟩ := seg_bound p q hw yl yh true
  obtain ⟨f1, hf1, g1⟩ := firstIs_ex (by omega) h1
  obtain ⟨f2, hf2, g2⟩ := firstIs_ex (by omega) h2
  have hp := pl_is p q hw hwb yl yh hy f1 f2 hf1 hf2
  have hlo := plP_lo p q yl yh
  have hhi := plP_hi p q yl yh
  refine ⟨fun h => ?_, fun n a1 a2 => ?_⟩
  · have := hlo h (by omega)
    omega
  · rw [inside_sr yl yh (decide (p.2 ≤ q.2))]
    rw [Bool.and_eq_true, g1 n a1 a2, Bool.not_eq_true', Bool.eq_false_iff, Ne, g2 n a1 a2, hp.1]
    constructor
    · rintro ⟨h3, h4⟩
      have hle : f1 ≤ f2 - 1 := by omega
      rw [hp.2 hle]
      exact ⟨by simpa using hle, h3, by simp only; omega⟩
    · rintro ⟨h3, h4, h5⟩
      have hle : f1 ≤ f2 - 1 := by simpa using h3
      rw [hp.2 hle] at h4 h5
      simp only at h4 h5
      omega
theorem last_mem {L : List (Int × Int)} {q : Int × Int} (h : L.getLast? = some q) : q ∈ L := by
  obtain ⟨l, rfl, _⟩ := last_split h
  simp
theorem extP_mem (D : Int × Int → Prop) {acc : List (Int × Int)} {a : Int × Int} (h : ∀ p ∈ acc, D p) (ha : D a) (hj : ∀ p, D p → D (p.1, a.2)) : ∀ p ∈ extP acc a, D p := by
  unfold extP
  split
  · simpa using ha
  · rename_i q hq
    split
    · intro p hp
      rcases List.mem_append.1 hp with hp | hp
      · exact h p (List.dropLast_subset _ hp)
      · simp at hp; subst hp; exact hj q (h q (last_mem hq))
    · intro p hp
      rcases List.mem_append.1 hp with hp | hp
      · exact h p hp
      · simp at hp; subst hp; exact ha
/-- what the places of the first stretches are -/
theorem whereAt_is {xs : List (Int × Int)} (ht : TabOk xs) (yl yh : Int) (hy : yl ≤ yh) {f : Int × Int} (hf : xs[0]? = some f) : ∀ (k : Nat) (p : Int × Int), xs[k]? = some p →
    Apart (whereAt (plK xs yl yh) k) ∧ (∀ r ∈ whereAt (plK xs yl yh) k, f.1 ≤ r.1 ∧ r.2 ≤ p.1) ∧
    ∀ n, f.1 ≤ n → n ≤ p.1 → (memB (whereAt (plK xs yl yh) k) n = true ↔ 0 < k ∧ insideB yl yh (valV xs n) = true) := by
  intro k
  induction k with
  | zero => intro p _; exact ⟨⟨by simp [whereAt], by simp [whereAt]⟩, by simp [whereAt], by simp [whereAt, memB]⟩
  | succ k ih =>
    intro q hq
    obtain ⟨p, hp⟩ : ∃ p, xs[k]? = some p := ⟨_, List.getElem?_eq_getElem (by have := (List.getElem?_eq_some_iff.1 hq).1; omega)⟩
    have hpq := ht.2.2.2 k (k + 1) p q (by omega) hp hq
    obtain ⟨r1, r2, r3, r4⟩ := rowB_of (ht.2.2.1 p (List.mem_of_getElem? hp))
    obtain ⟨s1, s2, s3, s4⟩ := rowB_of (ht.2.2.1 q (List.mem_of_getElem? hq))
    have hfp : f.1 ≤ p.1 ∧ (k = 0 → f = p) := by
      rcases Nat.eq_zero_or_pos k with h | h
      · subst h; rw [hf] at hp; injection hp with hp; subst hp; exact ⟨Int.le_refl _, fun _ => rfl⟩
      · have := ht.2.2.2 0 k f p h hf hp; exact ⟨by omega, fun h' => by omega⟩
    obtain ⟨i1, i2, i3⟩ := ih p hp
    obtain ⟨j1, j2⟩ := seg_mem p q hpq (by omega) yl yh hy
    have hsv : ∀ n, p.1 ≤ n → n ≤ q.1 → valV xs n = segV p q n := fun n h1 h2 => seg_val ht hp hq n h1 h2
    have hK := plK_of (yl := yl) (yh := yh) hp hq
    generalize hA : whereAt (plK xs yl yh) k = A at *
    have hfar : ∀ n, p.1 < n → memB A n = false := fun n hn => by
      rw [Bool.eq_false_iff]; intro hm
      obtain ⟨r, hr, _, h2⟩ := memB_iff.1 hm
      have := i2 r hr; omega
    unfold whereAt
    rw [hA, hK]
    by_cases h2 : (plP p q yl yh).2 = true
    · rw [if_pos h2]
      obtain ⟨u1, u2, u3⟩ := j1 h2
      generalize (plP p q yl yh).1 = a at *
      have hl : ∀ r, A.getLast? = some r → r.1 ≤ a.1 ∧ r.2 ≤ a.2 := fun r hr => by
        have h3 := i2 r (last_mem hr)
        have h4 := i1.1 r (last_mem hr)
        omega
      refine ⟨apart_extP i1 u2 hl, extP_mem (fun r => f.1 ≤ r.1 ∧ r.2 ≤ q.1) (fun r hr => by have := i2 r hr; omega) ⟨by omega, u3⟩ (fun r hr => ⟨hr.1, u3⟩), fun n h3 h4 => ?_⟩
      rw [memB_extP A a n hl]
      rcases Int.lt_trichotomy n p.1 with h | h | h
      · rw [Bool.or_eq_true, i3 n h3 (by omega)]
        constructor
        · rintro (h5 | h5)
          · exact ⟨by omega, h5.2⟩
          · simp at h5; omega
        · rintro ⟨_, h5⟩
          refine Or.inl ⟨?_, h5⟩
          rcases Nat.eq_zero_or_pos k with h6 | h6
          · have := hfp.2 h6; subst this; omega
          · exact h6
      · subst h
        rw [Bool.or_eq_true, i3 p.1 h3 (by omega), hsv p.1 (by omega) (by omega), j2 p.1 (by omega) (by omega)]
        simp [h2]
        try omega
      · rw [hfar n h, hsv n (by omega) h4, j2 n (by omega) h4]
        simp [h2]
    · rw [if_neg h2]
      refine ⟨i1, fun r hr => by have := i2 r hr; omega, fun n h3 h4 => ?_⟩
      rcases Int.lt_trichotomy n p.1 with h | h | h
      · rw [i3 n h3 (by omega)]
        have : 0 < k := by
          rcases Nat.eq_zero_or_pos k with h6 | h6
          · have := hfp.2 h6; subst this; omega
          · exact h6
        simp [this]
      · subst h
        rw [i3 p.1 h3 (by omega), hsv p.1 (by omega) (by omega), j2 p.1 (by omega) (by omega)]
        simp [h2]
      · rw [hfar n h, hsv n (by omega) h4, j2 n (by omega) h4]
        simp [h2]
theorem whV_is {xs : List (Int × Int)} (ht : TabOk xs) (yl yh : Int) (hy : yl ≤ yh) {f l : Int × Int} {m : Nat} (hm : xs.length = m + 1) (hf : xs[0]? = some f) (hl : xs[m]? = some l) :
    Apart (whV xs yl yh) ∧ (∀ r ∈ whV xs yl yh, f.1 ≤ r.1 ∧ r.2 ≤ l.1) ∧ ∀ n, f.1 ≤ n → n ≤ l.1 → memB (whV xs yl yh) n = insideB yl yh (valV xs n) := by
  obtain ⟨h1, h2, h3⟩ := whereAt_is ht yl yh hy hf m l hl
  unfold whV
  rw [hm, show m + 1 - 1 = m from rfl]
  refine ⟨h1, h2, fun n a b => ?_⟩
  rw [Bool.eq_iff_iff, h3 n a b]
  have := ht.1
  exact ⟨fun h => h.2, fun h => ⟨by omega, h⟩⟩
theorem whV_set {xs : List (Int × Int)} (ht : TabOk xs) (yl yh : Int) (hy : yl ≤ yh) : setE (whV xs yl yh) = 0 := by
  obtain ⟨m, hm⟩ : ∃ m, xs.length = m + 1 := ⟨xs.length - 1, by have := ht.1; omega⟩
  obtain ⟨f, hf⟩ : ∃ f, xs[0]? = some f := ⟨_, List.getElem?_eq_getElem (by omega)⟩
  obtain ⟨l, hl⟩ : ∃ l, xs[m]? = some l := ⟨_, List.getElem?_eq_getElem (by omega)⟩
  obtain ⟨h1, h2, _⟩ := whV_is ht yl yh hy hm hf hl
  have r1 := rowB_of (ht.2.2.1 f (List.mem_of_getElem? hf))
  have r2 := rowB_of (ht.2.2.1 l (List.mem_of_getElem? hl))
  have h5 := whV_length xs yl yh
  have h6 := ht.2.1
  exact setE_apart h1 (by omega) (fun p hp => by have := h2 p hp; omega)
/-- tables with the same values at the same places -/
theorem whV_same {xs ys : List (Int × Int)} (hx : TabOk xs) (hy : TabOk ys) (yl yh : Int) (h : yl ≤ yh) {f l : Int × Int} {m k : Nat} (hm : xs.length = m + 1) (hk : ys.length = k + 1) (f1 : xs[0]? = some f) (f2 : ys[0]? = some f) (l1 : xs[m]? = some l) (l2 : ys[k]? = some l)
    (hv : ∀ n, f.1 ≤ n → n ≤ l.1 → valV xs n = valV ys n) : whV xs yl yh = whV ys yl yh := by
  obtain ⟨a1, a2, a3⟩ := whV_is hx yl yh h hm f1 l1
  obtain ⟨b1, b2, b3⟩ := whV_is hy yl yh h hk f2 l2
  refine apart_ext _ _ _ rfl a1 b1 (fun n => ?_)
  by_cases hn : f.1 ≤ n ∧ n ≤ l.1
  · rw [a3 n hn.1 hn.2, b3 n hn.1 hn.2, hv n hn.1 hn.2]
  · have out : ∀ L : List (Int × Int), (∀ r ∈ L, f.1 ≤ r.1 ∧ r.2 ≤ l.1) → memB L n = false := fun L hL => by
      rw [Bool.eq_false_iff]; intro hm'
      obtain ⟨r, hr, h3, h4⟩ := memB_iff.1 hm'
      have := hL r hr; omega
    rw [out _ a2, out _ b2]

/-! ### the same line -/
theorem div_line {x y a W : Int} (ha : 0 < a) (hW : 0 < W) (h : x * W = y * a) : x / a = y / W := by
  rw [← Int.mul_ediv_mul_of_pos_left x a hW, h, Int.mul_comm a W, Int.mul_ediv_mul_of_pos_left y W ha]
theorem seg_left {p q : Int × Int} {at' V : Int} (h1 : p.1 < at') (h2 : at' < q.1) (hV : (V - p.2) * (q.1 - p.1) = (q.2 - p.2) * (at' - p.1)) (z : Int) : segV p (at', V) z = segV p q z := by
  have key : ∀ d, (V - p.2) * d / (at' - p.1) = (q.2 - p.2) * d / (q.1 - p.1) := fun d => div_line (by omega) (by omega) (by
    rw [Int.mul_assoc, Int.mul_comm d, ← Int.mul_assoc, hV, Int.mul_assoc, Int.mul_comm (at' - p.1), ← Int.mul_assoc])
  have k1 := key (z - p.1)
  have k2 := key (-(z - p.1))
  rw [Int.mul_neg, Int.mul_neg] at k2
  unfold segV
  simp only
  rw [k1, k2]
theorem add_line (A B W : Int) (hW : 0 < W) (u : Int) (h : A = W * u + B) : A / W = u + B / W := by
  rw [h, Int.add_comm, Int.add_mul_ediv_left _ _ (by omega)]; omega
theorem seg_right {p q : Int × Int} {at' V : Int} (h1 : p.1 < at') (h2 : at' < q.1) (hV : (V - p.2) * (q.1 - p.1) = (q.2 - p.2) * (at' - p.1)) (z : Int) : segV (at', V) q z = segV p q z := by
  have hQ : (q.2 - V) * (q.1 - p.1) = (q.2 - p.2) * (q.1 - at') := by
    have e1 : (q.2 - V) * (q.1 - p.1) = (q.2 - p.2) * (q.1 - p.1) - (V - p.2) * (q.1 - p.1) := by rw [← Int.sub_mul]; congr 1; omega
    have e2 : (q.2 - p.2) * (q.1 - at') = (q.2 - p.2) * (q.1 - p.1) - (q.2 - p.2) * (at' - p.1) := by rw [← Int.mul_sub]; congr 1; omega
    rw [e1, e2, hV]
  have key : ∀ d, (q.2 - V) * d / (q.1 - at') = (q.2 - p.2) * d / (q.1 - p.1) := fun d => div_line (by omega) (by omega) (by
    rw [Int.mul_assoc, Int.mul_comm d, ← Int.mul_assoc, hQ, Int.mul_assoc, Int.mul_comm (q.1 - at'), ← Int.mul_assoc])
  have k1 := key (z - at')
  have k2 := key (-(z - at'))
  rw [Int.mul_neg, Int.mul_neg] at k2
  have e : (q.2 - p.2) * (z - p.1) = (q.1 - p.1) * (V - p.2) + (q.2 - p.2) * (z - at') := by
    rw [Int.mul_comm (q.1 - p.1), hV, ← Int.mul_add]; congr 1; omega
  have a1 := add_line _ ((q.2 - p.2) * (z - at')) (q.1 - p.1) (by omega) (V - p.2) e
  have a2 := add_line (-((q.2 - p.2) * (z - p.1))) (-((q.2 - p.2) * (z - at'))) (q.1 - p.1) (by omega) (-(V - p.2)) (by rw [e, Int.mul_neg]; omega)
  unfold segV
  simp only
  rw [k1, k2, a1, a2]
  ext <;> simp only <;> omega
theorem exact_line {p q : Int × Int} {x : Int} (hw : p.1 < q.1) (h : (segV p q x).1 = (segV p q x).2) : ((segV p q x).1 - p.2) * (q.1 - p.1) = (q.2 - p.2) * (x - p.1) := by
  unfold segV at h ⊢
  simp only at h ⊢
  have hW : 0 < q.1 - p.1 := by omega
  generalize (q.2 - p.2) * (x - p.1) = A at *
  generalize q.1 - p.1 = W at *
  have h1 := Int.ediv_mul_le A (b := W) (by omega)
  have h2 := Int.ediv_mul_le (-A) (b := W) (by omega)
  have e : -A / W = -(A / W) := by omega
  rw [e, Int.neg_mul] at h2
  rw [show p.2 + A / W - p.2 = A / W from by omega]
  omega
theorem seg_gap {p q : Int × Int} (hw : p.1 < q.1) (x : Int) : (segV p q x).2 - (segV p q x).1 = 0 ∨ (segV p q x).2 - (segV p q x).1 = 1 := by
  unfold segV
  simp only
  have hW : 0 < q.1 - p.1 := by omega
  generalize (q.2 - p.2) * (x - p.1) = A at *
  generalize q.1 - p.1 = W at *
  have h1 := floor_ceil A W hW
  have h2 := Int.lt_ediv_add_one_mul_self A hW
  have h3 := Int.lt_ediv_add_one_mul_self (-A) hW
  generalize A / W = X at *
  generalize -A / W = Y at *
  rcases Int.lt_or_le (-Y - X) 2 with h | h
  · omega
  · have h4 := Int.mul_le_mul_of_nonneg_right (show X + Y + 2 ≤ 0 by omega) (show (0 : Int) ≤ W by omega)
    rw [Int.zero_mul, Int.add_mul, Int.add_mul] at h4
    rw [Int.add_mul, Int.one_mul] at h2 h3
    omega
end Go.Proofs.Ytkhongbemoahpaa

