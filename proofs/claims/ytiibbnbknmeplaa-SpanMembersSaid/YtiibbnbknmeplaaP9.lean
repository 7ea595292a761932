/- Plain sets of ranges: which numbers are in what is joined, widened and narrowed, how many there are, and which one is nearest. -/
import Derived.Test.YtiibbnbknmeplaaC20
namespace Go.Proofs.Ytiibbnbknmeplaa
open Go.Lib
set_option linter.unusedVariables false
set_option linter.unusedSimpArgs false

/-- ranges in order, apart from each other -/
def Apart (L : List (Int × Int)) : Prop := (∀ p ∈ L, p.1 ≤ p.2) ∧ L.Pairwise fun p q => p.2 + 1 < q.1
theorem last_split {L : List (Int × Int)} {q : Int × Int} (h : L.getLast? = some q) : ∃ l, L = l ++ [q] ∧ L.dropLast = l := by
  rcases List.eq_nil_or_concat L with rfl | ⟨l, a, rfl⟩
  · simp at h
  · rw [List.concat_eq_append] at *
    simp at h
    subst h
    exact ⟨l, rfl, by simp⟩
theorem apart_snoc {l : List (Int × Int)} {q : Int × Int} : Apart (l ++ [q]) ↔ Apart l ∧ q.1 ≤ q.2 ∧ ∀ p ∈ l, p.2 + 1 < q.1 := by
  unfold Apart
  rw [List.pairwise_append]
  constructor
  · rintro ⟨h1, h2, _, h4⟩
    exact ⟨⟨fun p hp => h1 p (by simp [hp]), h2⟩, h1 q (by simp), fun p hp => h4 p hp q (by simp)⟩
  · rintro ⟨⟨h1, h2⟩, h3, h4⟩
    refine ⟨?_, h2, by simp, ?_⟩
    · intro p hp
      rcases List.mem_append.1 hp with hp | hp
      · exact h1 p hp
      · simp at hp; subst hp; exact h3
    · intro p hp r hr
      simp at hr; subst hr; exact h4 p hp
theorem memB_extP (acc : List (Int × Int)) (a : Int × Int) (n : Int) (h : ∀ q, acc.getLast? = some q → q.1 ≤ a.1 ∧ q.2 ≤ a.2) :
    memB (extP acc a) n = (memB acc n || (decide (a.1 ≤ n) && decide (n ≤ a.2))) := by
  unfold extP
  cases hq : acc.getLast? with
  | none =>
    obtain rfl := List.getLast?_eq_none_iff.1 hq
    simp [memB]
  | some q =>
    obtain ⟨h1, h2⟩ := h q hq
    obtain ⟨l, rfl, hl⟩ := last_split hq
    simp only
    split
    · rw [hl, memB_snoc, memB_snoc]
      rw [Bool.eq_iff_iff]
      simp
      cases memB l n
      · simp; omega
      · simp
    · rw [memB_snoc]
theorem apart_extP {acc : List (Int × Int)} {a : Int × Int} (ha : Apart acc) (haa : a.1 ≤ a.2) (h : ∀ q, acc.getLast? = some q → q.1 ≤ a.1 ∧ q.2 ≤ a.2) : Apart (extP acc a) := by
  unfold extP
  cases hq : acc.getLast? with
  | none => exact ⟨by simpa using haa, by simp⟩
  | some q =>
    obtain ⟨h1, h2⟩ := h q hq
    obtain ⟨l, rfl, hl⟩ := last_split hq
    obtain ⟨b1, b2, b3⟩ := apart_snoc.1 ha
    simp only
    split
    · rw [hl]
      exact apart_snoc.2 ⟨b1, by simp only; omega, b3⟩
    · refine apart_snoc.2 ⟨ha, haa, fun p hp => ?_⟩
      rcases List.mem_append.1 hp with hp | hp
      · have := b3 p hp; omega
      · simp at hp; subst hp; omega
theorem extP_last (acc : List (Int × Int)) (a : Int × Int) : ∃ q, (extP acc a).getLast? = some q ∧ q.2 = a.2 ∧ (∀ r, acc.getLast? = some r → r.1 ≤ a.1 → q.1 ≤ a.1) ∧ (acc = [] → q = a) := by
  unfold extP
  cases hq : acc.getLast? with
  | none =>
    obtain rfl := List.getLast?_eq_none_iff.1 hq
    exact ⟨a, by simp, rfl, fun r hr => by simp at hr, fun _ => rfl⟩
  | some q =>
    simp only
    split
    · exact ⟨(q.1, a.2), by simp, rfl, fun r hr h => by injection hr with hr; subst hr; exact h, fun h => by subst h; simp at hq⟩
    · exact ⟨a, by simp, rfl, fun r hr h => Int.le_refl _, fun h => by subst h; simp at hq⟩

/-- what is widened: apart, and of these numbers -/
theorem widL_is (b : Int) (hb : 0 ≤ b) : ∀ (m : Nat) (xs : List (Int × Int)), xs.length = m → Apart xs → (∀ p ∈ xs, -1000000000000000 ≤ p.1 - b ∧ p.2 + b ≤ 1000000000000000) →
    Apart (widL b xs) ∧ (∀ n, memB (widL b xs) n = xs.any fun p => decide (p.1 - b ≤ n) && decide (n ≤ p.2 + b)) ∧
    (∀ q, (widL b xs).getLast? = some q → ∃ p, xs.getLast? = some p ∧ q.2 = p.2 + b ∧ q.1 ≤ p.1 - b) ∧ (∀ q ∈ widL b xs, ∃ p r, p ∈ xs ∧ r ∈ xs ∧ q.1 = p.1 - b ∧ q.2 = r.2 + b) := by
  intro m
  induction m with
  | zero => intro xs hx _ _; obtain rfl := List.eq_nil_of_length_eq_zero hx; exact ⟨⟨by simp [widL], by simp [widL]⟩, by simp [widL, memB], by simp [widL], by simp [widL]⟩
  | succ m ih =>
    intro xs hx ha hbd
    rcases List.eq_nil_or_concat xs with rfl | ⟨l, p, rfl⟩
    · simp at hx
    rw [List.concat_eq_append] at *
    obtain ⟨a1, a2, a3⟩ := apart_snoc.1 ha
    obtain ⟨i1, i2, i3, i4⟩ := ih l (by simp at hx; exact hx) a1 (fun q hq => hbd q (by simp [hq]))
    have hp := hbd p (by simp)
    have hw : wdP b p = (p.1 - b, p.2 + b) := by unfold wdP; ext <;> simp <;> omega
    rw [widL_snoc, hw]
    have hl : ∀ q, (widL b l).getLast? = some q → q.1 ≤ p.1 - b ∧ q.2 ≤ p.2 + b := by
      intro q hq
      obtain ⟨r, hr, e1, e2⟩ := i3 q hq
      have hr' := List.mem_of_getLast? hr
      have := a3 r hr'
      have := a1.1 r hr'
      omega
    refine ⟨apart_extP i1 (by simp only; omega) hl, ?_, ?_, ?_⟩
    · intro n
      rw [memB_extP _ _ _ hl, i2, List.any_append]
      simp
    · intro q hq
      obtain ⟨q', e1, e2, e3, e4⟩ := extP_last (widL b l) (p.1 - b, p.2 + b)
      rw [e1] at hq
      injection hq with hq
      subst hq
      refine ⟨p, by simp, e2, ?_⟩
      cases hq2 : (widL b l).getLast? with
      | none => have := e4 (List.getLast?_eq_none_iff.1 hq2); rw [this]; exact Int.le_refl _
      | some r => exact e3 r hq2 (hl r hq2).1
    · intro q hq
      unfold extP at hq
      cases hq2 : (widL b l).getLast? with
      | none => rw [hq2] at hq; simp at hq; subst hq; exact ⟨p, p, by simp, by simp, rfl, rfl⟩
      | some r =>
        rw [hq2] at hq
        simp only at hq
        split at hq
        · rcases List.mem_append.1 hq with hq | hq
          · obtain ⟨u, v, h1, h2, h3, h4⟩ := i4 q (List.dropLast_subset _ hq)
            exact ⟨u, v, by simp [h1], by simp [h2], h3, h4⟩
          · simp at hq
            subst hq
            obtain ⟨u, v, h1, h2, h3, h4⟩ := i4 r (List.mem_of_getLast? hq2)
            exact ⟨u, p, by simp [h1], by simp, h3, rfl⟩
        · rcases List.mem_append.1 hq with hq | hq
          · obtain ⟨u, v, h1, h2, h3, h4⟩ := i4 q hq
            exact ⟨u, v, by simp [h1], by simp [h2], h3, h4⟩
          · simp at hq; subst hq; exact ⟨p, p, by simp, by simp, rfl, rfl⟩
theorem memB_iff {xs : List (Int × Int)} {n : Int} : memB xs n = true ↔ ∃ p ∈ xs, p.1 ≤ n ∧ n ≤ p.2 := by simp [memB]
theorem wid_mem {b : Int} (hb : 0 ≤ b) {xs : List (Int × Int)} (ha : Apart xs) (hbd : ∀ p ∈ xs, -1000000000000000 ≤ p.1 - b ∧ p.2 + b ≤ 1000000000000000) (n : Int) :
    memB (widL b xs) n = true ↔ ∃ k, n - b ≤ k ∧ k ≤ n + b ∧ memB xs k = true := by
  rw [(widL_is b hb _ xs rfl ha hbd).2.1 n]
  simp only [List.any_eq_true, Bool.and_eq_true, decide_eq_true_eq, memB_iff]
  constructor
  · rintro ⟨p, hp, h1, h2⟩
    have := ha.1 p hp
    exact ⟨max p.1 (min n p.2), by omega, by omega, p, hp, by omega, by omega⟩
  · rintro ⟨k, h1, h2, p, hp, h3, h4⟩
    exact ⟨p, hp, by omega, by omega⟩
theorem nwL_apart {b : Int} (hb : 0 ≤ b) {xs : List (Int × Int)} (ha : Apart xs) : Apart (nwL b xs) := by
  unfold nwL
  constructor
  · intro q hq
    obtain ⟨p, hp, rfl⟩ := List.mem_map.1 hq
    have := (List.mem_filter.1 hp).2
    simpa using this
  · rw [List.pairwise_map]
    exact (ha.2.sublist List.filter_sublist).imp (fun h => by omega)
theorem nw_mem {b : Int} (hb : 0 ≤ b) {xs : List (Int × Int)} (ha : Apart xs) (n : Int) : memB (nwL b xs) n = true ↔ ∀ k, n - b ≤ k → k ≤ n + b → memB xs k = true := by
  have h0 : memB (nwL b xs) n = true ↔ ∃ p ∈ xs, p.1 + b ≤ n ∧ n ≤ p.2 - b := by
    rw [memB_iff]
    unfold nwL
    constructor
    · rintro ⟨q, hq, h1, h2⟩
      obtain ⟨p, hp, rfl⟩ := List.mem_map.1 hq
      exact ⟨p, (List.mem_filter.1 hp).1, h1, h2⟩
    · rintro ⟨p, hp, h1, h2⟩
      exact ⟨(p.1 + b, p.2 - b), List.mem_map.2 ⟨p, List.mem_filter.2 ⟨hp, by simp; omega⟩, rfl⟩, h1, h2⟩
  rw [h0]
  constructor
  · rintro ⟨p, hp, h1, h2⟩ k h3 h4
    exact memB_iff.2 ⟨p, hp, by omega, by omega⟩
  · intro h
    obtain ⟨p, hp, h1, h2⟩ := memB_iff.1 (h (n - b) (by omega) (by omega))
    refine ⟨p, hp, by omega, ?_⟩
    refine Int.not_lt.1 fun hlt => ?_
    obtain ⟨q, hq, h3, h4⟩ := memB_iff.1 (h (p.2 + 1) (by omega) (by omega))
    obtain ⟨i, hi, rfl⟩ := List.getElem_of_mem hp
    obtain ⟨j, hj, rfl⟩ := List.getElem_of_mem hq
    have pw := List.pairwise_iff_getElem.1 ha.2
    rcases Nat.lt_trichotomy i j with c | c | c
    · have := pw i j hi hj c; omega
    · subst c; omega
    · have := pw j i hj hi c; have := ha.1 _ (List.getElem_mem hi); omega
/-- the runs of changes: apart, and of the numbers that are kept -/
theorem cjL_is (K : Bool → Bool → Bool) (xs ys : List (Int × Int)) (f : Int → Bool) (hf : ∀ n, f n = K (memB xs n) (memB ys n)) : ∀ (m : Nat) (C : List Int), C.length = m → C.Pairwise (· < ·) →
    (∀ (y z : Int) (l : List Int) (r : List Int), C = l ++ y :: z :: r → ∀ n, y ≤ n → n < z → f n = f y) →
    Apart (cjL K xs ys C) ∧ (∀ q ∈ cjL K xs ys C, ∀ y, C.getLast? = some y → q.2 + 1 ≤ y) ∧ (∀ q ∈ cjL K xs ys C, ∃ u v, u ∈ C ∧ v ∈ C ∧ q.1 = u ∧ q.2 = v - 1) ∧ (cjL K xs ys C).length ≤ C.length ∧
    (∀ n, memB (cjL K xs ys C) n = true ↔ f n = true ∧ ∃ a z, C.head? = some a ∧ C.getLast? = some z ∧ a ≤ n ∧ n < z) := by
  intro m
  induction m with
  | zero =>
    intro C hC _ _
    obtain rfl := List.eq_nil_of_length_eq_zero hC
    refine ⟨⟨by simp [cjL, whereAt], by simp [cjL, whereAt]⟩, by simp [cjL, whereAt], by simp [cjL, whereAt], by simp [cjL, whereAt], fun n => by simp [cjL, whereAt, memB]⟩
  | succ m ih =>
    intro C hC hp hseg
    rcases List.eq_nil_or_concat C with rfl | ⟨D, z, rfl⟩
    · simp at hC
    rw [List.concat_eq_append] at *
    have hD : D.length = m := by simp at hC; exact hC
    obtain ⟨p1, _, p3⟩ := List.pairwise_append.1 hp
    obtain ⟨i1, i2, i3, i4, i5⟩ := ih D hD p1 (fun y w l r h n h1 h2 => hseg y w l (r ++ [z]) (by rw [h]; simp) n h1 h2)
    cases hl : D.getLast? with
    | none =>
      obtain rfl := List.getLast?_eq_none_iff.1 hl
      refine ⟨⟨by simp [cjL, whereAt], by simp [cjL, whereAt]⟩, by simp [cjL, whereAt], by simp [cjL, whereAt], by simp [cjL, whereAt], fun n => ?_⟩
      simp [cjL, whereAt, memB]
      try (intro _ h1; omega)
    | some y =>
      obtain ⟨E, hE, _⟩ : ∃ E, D = E ++ [y] ∧ True := by
        rcases List.eq_nil_or_concat D with rfl | ⟨l, a, rfl⟩
        · simp at hl
        · rw [List.concat_eq_append] at hl ⊢
          simp at hl
          subst hl
          exact ⟨l, rfl, trivial⟩
      have hyz : y < z := p3 y (List.mem_of_getLast? hl) z (by simp)
      have hsg := hseg y z E [] (by rw [hE]; simp)
      have hh : (D ++ [z]).head? = D.head? := by rw [hE]; cases E <;> simp
      have hfy : K (memB xs y) (memB ys y) = f y := (hf y).symm
      rw [cjL_snoc K xs ys D y z hl, hfy]
      have hlast : (D ++ [z]).getLast? = some z := by simp
      cases hk : f y
      · simp only [Bool.false_eq_true, if_false]
        refine ⟨i1, ?_, ?_, by simp; omega, ?_⟩
        · intro q hq w hw
          rw [hlast] at hw; injection hw with hw; subst hw
          have := i2 q hq y hl; omega
        · intro q hq
          obtain ⟨u, v, h1, h2, h3, h4⟩ := i3 q hq
          exact ⟨u, v, by simp [h1], by simp [h2], h3, h4⟩
        · intro n
          rw [i5 n, hh, hlast, hl]
          constructor
          · rintro ⟨h1, a, w, h2, h3, h4, h5⟩
            injection h3 with h3; subst h3
            exact ⟨h1, a, z, h2, rfl, h4, by omega⟩
          · rintro ⟨h1, a, w, h2, h3, h4, h5⟩
            injection h3 with h3; subst h3
            refine ⟨h1, a, y, h2, rfl, h4, ?_⟩
            refine Int.not_le.1 fun hc => ?_
            rw [hsg n hc h5, hk] at h1
            cases h1
      · simp only [if_true]
        have hcond : ∀ q, (cjL K xs ys D).getLast? = some q → q.1 ≤ (y, z - 1).1 ∧ q.2 ≤ (y, z - 1).2 := by
          intro q hq
          have h1 := i2 q (List.mem_of_getLast? hq) y hl
          have h2 := i1.1 q (List.mem_of_getLast? hq)
          simp only
          omega
        have hbnd : ∀ q ∈ extP (cjL K xs ys D) (y, z - 1), q.2 + 1 ≤ z := ext_bd _ y z (by omega) (fun q hq => i2 q hq y hl)
        refine ⟨apart_extP i1 (by simp only; omega) hcond, ?_, ?_, ?_, ?_⟩
        · intro q hq w hw
          rw [hlast] at hw; injection hw with hw; subst hw
          exact hbnd q hq
        · intro q hq
          have hyD := List.mem_of_getLast? hl
          unfold extP at hq
          cases hq2 : (cjL K xs ys D).getLast? with
          | none => rw [hq2] at hq; simp at hq; subst hq; exact ⟨y, z, by simp [hyD], by simp, rfl, rfl⟩
          | some r =>
            rw [hq2] at hq
            simp only at hq
            split at hq
            · rcases List.mem_append.1 hq with hq | hq
              · obtain ⟨u, v, h1, h2, h3, h4⟩ := i3 q (List.dropLast_subset _ hq)
                exact ⟨u, v, by simp [h1], by simp [h2], h3, h4⟩
              · simp at hq
                subst hq
                obtain ⟨u, v, h1, h2, h3, h4⟩ := i3 r (List.mem_of_getLast? hq2)
                exact ⟨u, z, by simp [h1], by simp, h3, rfl⟩
            · rcases List.mem_append.1 hq with hq | hq
              · obtain ⟨u, v, h1, h2, h3, h4⟩ := i3 q hq
                exact ⟨u, v, by simp [h1], by simp [h2], h3, h4⟩
              · simp at hq; subst hq; exact ⟨y, z, by simp [hyD], by simp, rfl, rfl⟩
        · have : (extP (cjL K xs ys D) (y, z - 1)).length ≤ (cjL K xs ys D).length + 1 := by
            unfold extP
            split
            · simp
            · split
              · simp
                try omega
              · simp
          simp; omega
        · intro n
          rw [memB_extP _ _ _ hcond, Bool.or_eq_true, i5 n, hh, hlast, hl]
          simp only [Bool.and_eq_true, decide_eq_true_eq]
          obtain ⟨a0, ha0⟩ : ∃ a, D.head? = some a := by rw [hE]; cases E <;> simp
          have hay : a0 ≤ y := by
            cases E with
            | nil => rw [hE] at ha0; simp at ha0; omega
            | cons e t =>
              rw [hE] at ha0 p1; simp at ha0; subst ha0
              have := (List.pairwise_append.1 p1).2.2 e (by simp) y (by simp); omega
          rw [ha0]
          constructor
          · rintro (⟨h1, a, w, h2, h3, h4, h5⟩ | ⟨h1, h2⟩)
            · injection h3 with h3; subst h3
              exact ⟨h1, a, z, h2, rfl, h4, by omega⟩
            · exact ⟨by rw [hsg n h1 (by omega)]; exact hk, a0, z, rfl, rfl, by omega, by omega⟩
          · rintro ⟨h1, a, w, h2, h3, h4, h5⟩
            injection h3 with h3; subst h3
            by_cases hc : n < y
            · exact .inl ⟨h1, a, y, h2, rfl, h4, hc⟩
            · exact .inr ⟨by omega, by omega⟩
theorem mem_compact' (zs : List Int) (z : Int) : ∀ (m : Nat), zs.length = m → z ∈ zs → z ∈ compact zs := by
  intro m
  induction m generalizing zs with
  | zero => intro h; obtain rfl := List.eq_nil_of_length_eq_zero h; simp
  | succ m ih =>
    intro hm hz
    rcases List.eq_nil_or_concat zs with rfl | ⟨l, a, rfl⟩
    · simp at hz
    · rw [List.concat_eq_append] at *
      rw [compact_snoc]
      cases hl : l.getLast? with
      | none => obtain rfl := List.getLast?_eq_none_iff.1 hl; simpa using hz
      | some y =>
        simp only
        rcases List.mem_append.1 hz with h | h
        · have := ih l (by simp at hm; exact hm) h
          split
          · exact this
          · simp [this]
        · simp at h
          subst h
          split
          · rename_i e
            exact ih l (by simp at hm; exact hm) (by rw [e]; exact List.mem_of_getLast? hl)
          · simp
theorem compact_up (zs : List Int) : ∀ (m : Nat), zs.length = m → zs.Pairwise (· ≤ ·) → (compact zs).Pairwise (· < ·) := by
  intro m
  induction m generalizing zs with
  | zero => intro h _; obtain rfl := List.eq_nil_of_length_eq_zero h; simp [compact, compactUpTo]
  | succ m ih =>
    intro hm hp
    rcases List.eq_nil_or_concat zs with rfl | ⟨l, a, rfl⟩
    · simp at hm
    · rw [List.concat_eq_append] at *
      obtain ⟨p1, _, p3⟩ := List.pairwise_append.1 hp
      rw [compact_snoc]
      cases hl : l.getLast? with
      | none => simp
      | some y =>
        have i := ih l (by simp at hm; exact hm) p1
        simp only
        split
        · exact i
        · rename_i e
          rw [List.pairwise_append]
          refine ⟨i, by simp, ?_⟩
          intro u hu v hv
          simp at hv; subst hv
          have hya := p3 y (List.mem_of_getLast? hl) v (by simp)
          -- u is at most the last one
          have hlast := compact_last l y _ rfl hl
          obtain ⟨t, ht, _⟩ : ∃ t, compact l = t ++ [y] ∧ True := by
            rcases List.eq_nil_or_concat (compact l) with h | ⟨s, b, h⟩
            · rw [h] at hlast; simp at hlast
            · rw [List.concat_eq_append] at h
              rw [h] at hlast; simp at hlast; subst hlast
              exact ⟨s, h, trivial⟩
          rw [ht] at hu i
          rcases List.mem_append.1 hu with h | h
          · have := (List.pairwise_append.1 i).2.2 u h y (by simp); omega
          · simp at h; subst h; omega
theorem memB_congr {xs : List (Int × Int)} {n y : Int} (h : ∀ p ∈ xs, (p.1 ≤ n ↔ p.1 ≤ y) ∧ (n ≤ p.2 ↔ y ≤ p.2)) : memB xs n = memB xs y := by
  rw [Bool.eq_iff_iff, memB_iff, memB_iff]
  constructor
  · rintro ⟨p, hp, h1, h2⟩; exact ⟨p, hp, (h p hp).1.1 h1, (h p hp).2.1 h2⟩
  · rintro ⟨p, hp, h1, h2⟩; exact ⟨p, hp, (h p hp).1.2 h1, (h p hp).2.2 h2⟩
theorem in_up {l r : List Int} {y z u : Int} (hp : (l ++ y :: z :: r).Pairwise (· < ·)) (hu : u ∈ l ++ y :: z :: r) : u ≤ y ∨ z ≤ u := by
  rw [List.pairwise_append] at hp
  obtain ⟨p1, p2, p3⟩ := hp
  rcases List.mem_append.1 hu with h | h
  · have := p3 u h y (by simp); omega
  · rcases List.mem_cons.1 h with h | h
    · omega
    · rcases List.mem_cons.1 h with h | h
      · omega
      · have := (List.pairwise_cons.1 (List.pairwise_cons.1 p2).2).1 u h; omega
theorem up_ends {C : List Int} (hp : C.Pairwise (· < ·)) {u : Int} (hu : u ∈ C) : ∃ a z, C.head? = some a ∧ C.getLast? = some z ∧ a ≤ u ∧ u ≤ z := by
  cases C with
  | nil => cases hu
  | cons a t =>
    rcases List.eq_nil_or_concat (a :: t) with h | ⟨l, z, h⟩
    · cases h
    rw [List.concat_eq_append] at h
    refine ⟨a, z, rfl, by rw [h]; simp, ?_, ?_⟩
    · rcases List.mem_cons.1 hu with e | e
      · omega
      · have := (List.pairwise_cons.1 hp).1 u e; omega
    · rw [h] at hu hp
      rcases List.mem_append.1 hu with e | e
      · have := (List.pairwise_append.1 hp).2.2 u e z (by simp); omega
      · simp at e; omega
theorem join_is (K : Bool → Bool → Bool) (hK : K false false = false) (xs ys : List (Int × Int)) (hx : Apart xs) (hy : Apart ys) (S : List Int)
    (hS : ∀ p, p ∈ xs ∨ p ∈ ys → p.1 ∈ S ∧ p.2 + 1 ∈ S) :
    Apart (cjL K xs ys (compact (S.mergeSort fun x y => decide (x ≤ y)))) ∧ (∀ n, memB (cjL K xs ys (compact (S.mergeSort fun x y => decide (x ≤ y)))) n = K (memB xs n) (memB ys n)) ∧
    (∀ q ∈ cjL K xs ys (compact (S.mergeSort fun x y => decide (x ≤ y))), q.1 ∈ S ∧ q.2 + 1 ∈ S) := by
  have hsort := List.pairwise_mergeSort (le := fun x y : Int => decide (x ≤ y)) (fun a b c h1 h2 => by simp at *; omega) (fun a b => by simp; omega) S
  have hsort' : (S.mergeSort fun x y => decide (x ≤ y)).Pairwise (· ≤ ·) := hsort.imp (fun h => by simpa using h)
  have hup := compact_up _ _ rfl hsort'
  have hmem : ∀ u, u ∈ compact (S.mergeSort fun x y => decide (x ≤ y)) → u ∈ S := fun u hu => by
    have h2 : ∀ (m : Nat) (zs : List Int), zs.length = m → ∀ u, u ∈ compact zs → u ∈ zs := by
      intro m
      induction m with
      | zero => intro zs h u hu; obtain rfl := List.eq_nil_of_length_eq_zero h; simp [compact, compactUpTo] at hu
      | succ m ih =>
        intro zs hm u hu
        rcases List.eq_nil_or_concat zs with rfl | ⟨l, a, rfl⟩
        · simp at hm
        · rw [List.concat_eq_append] at *
          rw [compact_snoc] at hu
          have i := ih l (by simp at hm; exact hm) u
          cases hl : l.getLast? with
          | none => rw [hl] at hu; simp at hu; simp [hu]
          | some y =>
            rw [hl] at hu
            simp only at hu
            split at hu
            · simp [i hu]
            · rcases List.mem_append.1 hu with h | h
              · simp [i h]
              · simp at h; simp [h]
    exact List.mem_mergeSort.1 (h2 _ _ rfl u hu)
  have hmem' : ∀ u, u ∈ S → u ∈ compact (S.mergeSort fun x y => decide (x ≤ y)) := fun u hu => mem_compact' _ _ _ rfl (List.mem_mergeSort.2 hu)
  generalize compact (S.mergeSort fun x y => decide (x ≤ y)) = C at *
  have key := cjL_is K xs ys (fun n => K (memB xs n) (memB ys n)) (fun n => rfl) _ C rfl hup (by
    intro y z l r hC n h1 h2
    have hin : ∀ u, u ∈ S → u ≤ y ∨ z ≤ u := fun u hu => by
      have := hmem' u hu
      rw [hC] at this hup
      exact in_up hup this
    have e1 : memB xs n = memB xs y := memB_congr (fun p hp => by
      have a := hin _ (hS p (.inl hp)).1
      have b := hin _ (hS p (.inl hp)).2
      omega)
    have e2 : memB ys n = memB ys y := memB_congr (fun p hp => by
      have a := hin _ (hS p (.inr hp)).1
      have b := hin _ (hS p (.inr hp)).2
      omega)
    show K (memB xs n) (memB ys n) = K (memB xs y) (memB ys y)
    rw [e1, e2])
  obtain ⟨k1, k2, k3, k4, k5⟩ := key
  refine ⟨k1, fun n => ?_, fun q hq => ?_⟩
  · rw [Bool.eq_iff_iff, k5 n]
    constructor
    · exact fun h => h.1
    · intro h
      refine ⟨h, ?_⟩
      have hor : memB xs n = true ∨ memB ys n = true := by
        cases hx' : memB xs n <;> cases hy' : memB ys n
        · rw [hx', hy', hK] at h; cases h
        · exact .inr rfl
        · exact .inl rfl
        · exact .inl rfl
      have hp : ∃ p, (p ∈ xs ∨ p ∈ ys) ∧ p.1 ≤ n ∧ n ≤ p.2 := by
        rcases hor with h | h
        · obtain ⟨p, hp, h1⟩ := memB_iff.1 h; exact ⟨p, .inl hp, h1⟩
        · obtain ⟨p, hp, h1⟩ := memB_iff.1 h; exact ⟨p, .inr hp, h1⟩
      obtain ⟨p, hp, h1, h2⟩ := hp
      obtain ⟨a, z, e1, e2, e3, e4⟩ := up_ends hup (hmem' _ (hS p hp).1)
      obtain ⟨a', z', f1, f2, f3, f4⟩ := up_ends hup (hmem' _ (hS p hp).2)
      rw [e1] at f1; injection f1 with f1
      rw [e2] at f2; injection f2 with f2
      exact ⟨a, z, e1, e2, by omega, by omega⟩
  · obtain ⟨u, v, h1, h2, h3, h4⟩ := k3 q hq
    exact ⟨by rw [h3]; exact hmem u h1, by rw [h4, Int.sub_add_cancel]; exact hmem v h2⟩

/-- how many numbers from a on, m of them, are kept -/
def cw (f : Int → Bool) (a : Int) : Nat → Int
  | 0 => 0
  | m + 1 => cw f a m + if f (a + m) then 1 else 0
theorem cw_congr {f g : Int → Bool} (a : Int) (m : Nat) (h : ∀ n, f n = g n) : cw f a m = cw g a m := by
  induction m with
  | zero => rfl
  | succ m ih => simp only [cw, ih, h]
theorem cw_both (f g : Int → Bool) (a : Int) (m : Nat) : cw (fun n => f n || g n) a m + cw (fun n => f n && g n) a m = cw f a m + cw g a m := by
  induction m with
  | zero => rfl
  | succ m ih =>
    simp only [cw]
    by_cases h1 : f (a + m) = true <;> by_cases h2 : g (a + m) = true <;> simp [h1, h2] <;> omega
theorem cw_none (a : Int) (m : Nat) : cw (fun _ => false) a m = 0 := by
  induction m with
  | zero => rfl
  | succ m ih => simp [cw, ih]
theorem cw_one (p : Int × Int) (a : Int) (hp : p.1 ≤ p.2) (h1 : a ≤ p.1) (m : Nat) : cw (fun n => decide (p.1 ≤ n) && decide (n ≤ p.2)) a m = max 0 (min p.2 (a + m - 1) - p.1 + 1) := by
  induction m with
  | zero => simp only [cw]; omega
  | succ m ih =>
    simp only [cw, ih]
    by_cases c1 : p.1 ≤ a + m <;> by_cases c2 : a + m ≤ p.2 <;> simp [c1, c2] <;> omega
theorem cnt_is (a : Int) (m : Nat) : ∀ (k : Nat) (L : List (Int × Int)), L.length = k → Apart L → (∀ p ∈ L, a ≤ p.1 ∧ p.2 < a + m) → cntL L = cw (memB L) a m := by
  intro k
  induction k with
  | zero =>
    intro L h _ _
    obtain rfl := List.eq_nil_of_length_eq_zero h
    have e := cw_congr (f := memB []) (g := fun _ => false) a m (fun n => rfl)
    rw [e, cw_none]; rfl
  | succ k ih =>
    intro L hL hA hb
    rcases List.eq_nil_or_concat L with rfl | ⟨l, p, rfl⟩
    · simp at hL
    rw [List.concat_eq_append] at *
    obtain ⟨b1, b2, b3⟩ := apart_snoc.1 hA
    have i := ih l (by simp at hL; exact hL) b1 (fun q hq => hb q (by simp [hq]))
    have hp := hb p (by simp)
    have c := cw_both (memB l) (fun n => decide (p.1 ≤ n) && decide (n ≤ p.2)) a m
    have e1 : cw (memB (l ++ [p])) a m = cw (fun n => memB l n || (decide (p.1 ≤ n) && decide (n ≤ p.2))) a m := cw_congr a m (fun n => memB_snoc l p n)
    have e2 : cw (fun n => memB l n && (decide (p.1 ≤ n) && decide (n ≤ p.2))) a m = 0 := by
      rw [cw_congr (g := fun _ => false) a m, cw_none]
      intro n
      rw [Bool.eq_false_iff]
      intro h
      simp only [Bool.and_eq_true, decide_eq_true_eq] at h
      obtain ⟨q, hq, h1, h2⟩ := memB_iff.1 h.1
      have := b3 q hq
      omega
    rw [cw_one p a b2 hp.1 m] at c
    rw [cntL_snoc, e1, i]
    omega
/-- what is nearest -/
theorem near_is (x : Int) : ∀ (m : Nat) (xs : List (Int × Int)), xs.length = m → xs ≠ [] → Apart xs → memB xs (nrV x xs) = true ∧ ∀ k, memB xs k = true → (nrV x xs - x).natAbs ≤ (k - x).natAbs ∧ ((k - x).natAbs = (nrV x xs - x).natAbs → nrV x xs ≤ k) := by
  intro m
  induction m with
  | zero => intro xs h hne; exact absurd (List.eq_nil_of_length_eq_zero h) hne
  | succ m ih =>
    intro xs hL hne hA
    rcases List.eq_nil_or_concat xs with rfl | ⟨l, p, rfl⟩
    · exact absurd rfl hne
    rw [List.concat_eq_append] at *
    obtain ⟨b1, b2, b3⟩ := apart_snoc.1 hA
    have hpp : p.1 ≤ nrP x p ∧ nrP x p ≤ p.2 ∧ ∀ k, p.1 ≤ k → k ≤ p.2 → (nrP x p - x).natAbs ≤ (k - x).natAbs ∧ ((k - x).natAbs = (nrP x p - x).natAbs → nrP x p ≤ k) := by
      unfold nrP
      refine ⟨by omega, by omega, fun k h1 h2 => ⟨by omega, by omega⟩⟩
    cases l with
    | nil =>
      have e : nrV x ([] ++ [p]) = nrP x p := rfl
      rw [e]
      refine ⟨memB_iff.2 ⟨p, by simp, hpp.1, hpp.2.1⟩, fun k hk => ?_⟩
      obtain ⟨q, hq, h1, h2⟩ := memB_iff.1 hk
      simp at hq; subst hq
      exact hpp.2.2 k h1 h2
    | cons r t =>
      obtain ⟨i1, i2⟩ := ih (r :: t) (by simp at hL ⊢; exact hL) (by simp) b1
      have e : nrV x (r :: t ++ [p]) = nrJ x (nrV x (r :: t)) p := by simp [nrV, List.foldl_append]
      rw [e]
      have hmv := i1
      generalize nrV x (r :: t) = b at *
      generalize r :: t = l at *
      unfold nrJ
      have hbl : ∀ k, memB l k = true → k + 1 < p.1 := fun k hk => by
        obtain ⟨q, hq, h1, h2⟩ := memB_iff.1 hk
        have := b3 q hq; omega
      obtain ⟨c1, c2, c3⟩ := hpp
      have hsplit : ∀ k, memB (l ++ [p]) k = true → memB l k = true ∨ (p.1 ≤ k ∧ k ≤ p.2) := fun k hk => by
        rw [memB_snoc] at hk
        simpa using hk
      split
      · refine ⟨by rw [memB_snoc]; simp; omega, fun k hk => ?_⟩
        rcases hsplit k hk with h | h
        · have := i2 k h; omega
        · exact c3 k h.1 h.2
      · refine ⟨by rw [memB_snoc, hmv]; rfl, fun k hk => ?_⟩
        rcases hsplit k hk with h | h
        · exact i2 k h
        · have := c3 k h.1 h.2
          have := hbl b hmv
          omega
end Go.Proofs.Ytiibbnbknmeplaa
