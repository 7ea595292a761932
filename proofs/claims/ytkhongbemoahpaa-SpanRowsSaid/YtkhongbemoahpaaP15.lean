/- Plain: tables by steps, their values, and a row more. -/
import Derived.Test.YtkhongbemoahpaaP14
namespace Go.Proofs.Ytkhongbemoahpaa
open Go.Lib
set_option linter.unusedVariables false
set_option linter.unusedSimpArgs false

theorem tabE_of {xs : List (Int × Int)} (h : TabOk xs) : tabE xs = 0 := by
  refine tabE_yes h.1 h.2.1 ?_
  unfold rowsOk
  rw [List.all_eq_true]
  intro k hk
  have hk' : k < xs.length := by simpa using hk
  have hp : xs[k]? = some xs[k] := List.getElem?_eq_getElem hk'
  rw [rowOk_of hp, h.2.2.1 _ (List.getElem_mem hk'), Bool.true_and]
  cases k with
  | zero => rfl
  | succ j =>
    have hj : xs[j]? = some xs[j] := List.getElem?_eq_getElem (by omega)
    simp only [hj]
    have := h.2.2.2 j (j + 1) _ _ (by omega) hj hp
    simpa using this
theorem cov_of {xs : List (Int × Int)} {m : Nat} {f l : Int × Int} (hm : xs.length = m + 1) (hf : xs[0]? = some f) (hl : xs[m]? = some l) {x : Int} (h1 : f.1 ≤ x) (h2 : x ≤ l.1) : covB xs x = true := by
  rw [covB_of x hm hf hl]; simp; omega
theorem valV_gap {xs : List (Int × Int)} (ht : TabOk xs) {x : Int} (hc : covB xs x = true) : (valV xs x).2 - (valV xs x).1 = 0 ∨ (valV xs x).2 - (valV xs x).1 = 1 := by
  obtain ⟨k, p, q, hp, hq, h1, h2, _⟩ := seg_first ht hc
  rw [seg_val ht hp hq x h1 h2]
  exact seg_gap (ht.2.2.2 k (k + 1) p q (by omega) hp hq) x
theorem valV_bd {xs : List (Int × Int)} (ht : TabOk xs) {x : Int} (hc : covB xs x = true) : -2000000000 ≤ (valV xs x).1 ∧ (valV xs x).1 ≤ (valV xs x).2 ∧ (valV xs x).2 ≤ 2000000001 := by
  have hg := valV_gap ht hc
  obtain ⟨k, p, q, hp, hq, h1, h2, _⟩ := seg_first ht hc
  have hpq := ht.2.2.2 k (k + 1) p q (by omega) hp hq
  obtain ⟨r1, r2, r3, r4⟩ := rowB_of (ht.2.2.1 p (List.mem_of_getElem? hp))
  obtain ⟨s1, s2, s3, s4⟩ := rowB_of (ht.2.2.1 q (List.mem_of_getElem? hq))
  rw [seg_val ht hp hq x h1 h2] at hg ⊢
  have key : min p.2 q.2 ≤ (segV p q x).1 ∧ (segV p q x).1 ≤ max p.2 q.2 := by
    unfold segV
    simp only
    have hd : 0 < q.1 - p.1 := by omega
    have h3 : 0 ≤ x - p.1 := by omega
    have h4 : x - p.1 ≤ q.1 - p.1 := by omega
    generalize x - p.1 = e at *
    generalize q.1 - p.1 = d at *
    rcases Int.lt_or_le (q.2 - p.2) 0 with hn | hn
    · have a1 := Int.le_ediv_of_mul_le (a := q.2 - p.2) (b := (q.2 - p.2) * e) hd (Int.mul_le_mul_of_nonpos_left (by omega) h4)
      have a2 := Int.ediv_le_of_le_mul (a := (q.2 - p.2) * e) (b := 0) hd (by rw [Int.zero_mul]; exact Int.mul_nonpos_of_nonpos_of_nonneg (by omega) h3)
      omega
    · have a1 := Int.le_ediv_of_mul_le (a := 0) (b := (q.2 - p.2) * e) hd (by rw [Int.zero_mul]; exact Int.mul_nonneg hn h3)
      have a2 := Int.ediv_le_of_le_mul (a := (q.2 - p.2) * e) (b := q.2 - p.2) hd (Int.mul_le_mul_of_nonneg_left h4 hn)
      omega
  omega
theorem vsK_le (a b : Int) : ∀ (l : List (Int × Int)) (s : Int × Int), (l.foldl (vsK a b) s).1 ≤ s.1 ∧ s.2 ≤ (l.foldl (vsK a b) s).2 ∧ ∀ p ∈ l, a ≤ p.1 → p.1 ≤ b → (l.foldl (vsK a b) s).1 ≤ p.2 ∧ p.2 ≤ (l.foldl (vsK a b) s).2 := by
  intro l
  induction l with
  | nil => intro s; exact ⟨Int.le_refl _, Int.le_refl _, fun p hp => by cases hp⟩
  | cons q l ih =>
    intro s
    obtain ⟨h1, h2, h3⟩ := ih (vsK a b s q)
    rw [List.foldl_cons]
    have hs : (vsK a b s q).1 ≤ s.1 ∧ s.2 ≤ (vsK a b s q).2 ∧ (a ≤ q.1 → q.1 ≤ b → (vsK a b s q).1 ≤ q.2 ∧ q.2 ≤ (vsK a b s q).2) := by
      unfold vsK
      split
      · simp only; omega
      · rename_i hn; exact ⟨Int.le_refl _, Int.le_refl _, fun h4 h5 => absurd ⟨h4, h5⟩ hn⟩
    refine ⟨by omega, by omega, fun p hp h4 h5 => ?_⟩
    rcases List.mem_cons.1 hp with rfl | hp
    · have := hs.2.2 h4 h5; omega
    · exact h3 p hp h4 h5
theorem valsV_in {xs : List (Int × Int)} (ht : TabOk xs) (a b : Int) : ((valsV xs a b).1 ≤ (valV xs a).1 ∧ (valV xs a).2 ≤ (valsV xs a b).2) ∧ ((valsV xs a b).1 ≤ (valV xs b).1 ∧ (valV xs b).2 ≤ (valsV xs a b).2) ∧
    ∀ p ∈ xs, a ≤ p.1 → p.1 ≤ b → (valsV xs a b).1 ≤ p.2 ∧ p.2 ≤ (valsV xs a b).2 := by
  obtain ⟨h1, h2, h3⟩ := vsK_le a b xs (vs0 xs a b)
  rw [vs_same ht a b] at h1 h2 h3
  have e : vs0 xs a b = (min (valV xs a).1 (valV xs b).1, max (valV xs a).2 (valV xs b).2) := rfl
  rw [e] at h1 h2
  simp only at h1 h2
  exact ⟨⟨by omega, by omega⟩, ⟨by omega, by omega⟩, h3⟩

/-! ### the table by steps -/
def stJ (s : List (Int × Int) × Int) (p : Int × Int) : List (Int × Int) × Int := (s.1 ++ [(s.2 + (1 + p.1 % 65536), p.2)], s.2 + (1 + p.1 % 65536))
def stS (ps : List (Int × Int)) : List (Int × Int) × Int := ps.foldl stJ ([], 0)
theorem stS_snoc (ps : List (Int × Int)) (p : Int × Int) : stS (ps ++ [p]) = stJ (stS ps) p := by simp [stS, List.foldl_append]
theorem stS_is : ∀ (m : Nat) (ps : List (Int × Int)), ps.length = m → (∀ p ∈ ps, -32768 ≤ p.2 ∧ p.2 ≤ 32767) → (stS ps).1.length = m ∧ 0 ≤ (stS ps).2 ∧ (stS ps).2 ≤ 65536 * m ∧
    (∀ r ∈ (stS ps).1, 1 ≤ r.1 ∧ r.1 ≤ (stS ps).2 ∧ -32768 ≤ r.2 ∧ r.2 ≤ 32767) ∧ (stS ps).1.Pairwise fun p q => p.1 < q.1 := by
  intro m
  induction m with
  | zero =>
    intro ps h _
    have : ps = [] := List.eq_nil_of_length_eq_zero h
    subst this
    exact ⟨rfl, Int.le_refl _, Int.le_refl _, by simp [stS], by simp [stS]⟩
  | succ m ih =>
    intro ps h hb
    rcases List.eq_nil_or_concat ps with rfl | ⟨l, p, rfl⟩
    · simp at h
    rw [List.concat_eq_append] at *
    obtain ⟨h1, h2, h3, h4, h5⟩ := ih l (by simpa using h) (fun q hq => hb q (by simp [hq]))
    have hp := hb p (by simp)
    rw [stS_snoc]
    generalize stS l = s at *
    unfold stJ
    simp only
    have hm : 0 ≤ p.1 % 65536 ∧ p.1 % 65536 < 65536 := by omega
    refine ⟨by simp [h1], by omega, by omega, ?_, ?_⟩
    · intro r hr
      rcases List.mem_append.1 hr with hr | hr
      · have := h4 r hr; omega
      · simp at hr; subst hr; simp only; omega
    · rw [List.pairwise_append]
      refine ⟨h5, by simp, fun a ha b hb' => ?_⟩
      simp at hb'
      subst hb'
      have := h4 a ha
      simp only; omega
theorem tabOk_up {xs : List (Int × Int)} (h1 : 2 ≤ xs.length) (h2 : xs.length ≤ 60) (h3 : ∀ r ∈ xs, -1000000000 ≤ r.1 ∧ r.1 ≤ 1000000000 ∧ -1000000000 ≤ r.2 ∧ r.2 ≤ 1000000000) (h4 : xs.Pairwise fun p q => p.1 < q.1) : TabOk xs := by
  refine ⟨h1, h2, fun p hp => by have := h3 p hp; simp [rowB]; omega, fun i j p q hij hp hq => ?_⟩
  obtain ⟨a1, rfl⟩ := List.getElem?_eq_some_iff.1 hp
  obtain ⟨b1, rfl⟩ := List.getElem?_eq_some_iff.1 hq
  exact List.pairwise_iff_getElem.1 h4 i j a1 b1 hij
theorem st_fine {ps : List (Int × Int)} (h1 : 2 ≤ ps.length) (h2 : ps.length ≤ 12) (hb : ∀ p ∈ ps, -32768 ≤ p.2 ∧ p.2 ≤ 32767) : TabOk (stS ps).1 ∧ (stS ps).1.length = ps.length ∧ ∀ r ∈ (stS ps).1, 1 ≤ r.1 ∧ r.1 ≤ 786432 ∧ -32768 ≤ r.2 ∧ r.2 ≤ 32767 := by
  obtain ⟨a1, a2, a3, a4, a5⟩ := stS_is _ ps rfl hb
  exact ⟨tabOk_up (by omega) (by omega) (fun r hr => by have := a4 r hr; omega) a5, a1, fun r hr => by have := a4 r hr; omega⟩

/-! ### a row more -/
def mrJ (x V : Int) (s : List (Int × Int) × Bool) (p : Int × Int) : List (Int × Int) × Bool := if x < p.1 ∧ s.2 = false then (s.1 ++ [(x, V)] ++ [p], true) else (s.1 ++ [p], s.2)
def mrS (x V : Int) (xs : List (Int × Int)) : List (Int × Int) × Bool := xs.foldl (mrJ x V) ([], false)
theorem mrS_snoc (x V : Int) (xs : List (Int × Int)) (p : Int × Int) : mrS x V (xs ++ [p]) = mrJ x V (mrS x V xs) p := by simp [mrS, List.foldl_append]
theorem mrS_len (x V : Int) : ∀ (m : Nat) (xs : List (Int × Int)), xs.length = m → (mrS x V xs).1.length = m + if (mrS x V xs).2 then 1 else 0 := by
  intro m
  induction m with
  | zero =>
    intro xs h
    have : xs = [] := List.eq_nil_of_length_eq_zero h
    subst this
    rfl
  | succ m ih =>
    intro xs h
    rcases List.eq_nil_or_concat xs with rfl | ⟨l, p, rfl⟩
    · simp at h
    rw [List.concat_eq_append] at *
    have := ih l (by simpa using h)
    rw [mrS_snoc]
    generalize mrS x V l = s at *
    unfold mrJ
    split
    · rename_i hc; rw [hc.2] at this; simp at this ⊢; omega
    · simp only [List.length_append, List.length_singleton]; omega
theorem mrS_low (x V : Int) : ∀ (l : List (Int × Int)) (acc : List (Int × Int)), (∀ p ∈ l, p.1 < x) → l.foldl (mrJ x V) (acc, false) = (acc ++ l, false) := by
  intro l
  induction l with
  | nil => intro acc _; simp
  | cons p l ih =>
    intro acc h
    have hp := h p (by simp)
    rw [List.foldl_cons, show mrJ x V (acc, false) p = (acc ++ [p], false) from by unfold mrJ; rw [if_neg (by omega)], ih _ (fun q hq => h q (by simp [hq]))]
    simp
theorem mrS_rest (x V : Int) : ∀ (l : List (Int × Int)) (acc : List (Int × Int)), l.foldl (mrJ x V) (acc, true) = (acc ++ l, true) := by
  intro l
  induction l with
  | nil => intro acc; simp
  | cons p l ih =>
    intro acc
    rw [List.foldl_cons, show mrJ x V (acc, true) p = (acc ++ [p], true) from by unfold mrJ; rw [if_neg (by simp)], ih]
    simp
theorem mrS_is (x V : Int) (l : List (Int × Int)) (q : Int × Int) (r : List (Int × Int)) (hl : ∀ p ∈ l, p.1 < x) (hq : x < q.1) : mrS x V (l ++ q :: r) = (l ++ (x, V) :: q :: r, true) := by
  unfold mrS
  rw [List.foldl_append, mrS_low x V l [] hl, List.foldl_cons, show mrJ x V ([] ++ l, false) q = (l ++ [(x, V)] ++ [q], true) from by unfold mrJ; rw [if_pos ⟨hq, rfl⟩]; simp, mrS_rest]
  simp
theorem split_at {xs : List (Int × Int)} {k : Nat} {q : Int × Int} (hq : xs[k]? = some q) : xs = xs.take k ++ q :: xs.drop (k + 1) := by
  obtain ⟨h1, rfl⟩ := List.getElem?_eq_some_iff.1 hq
  rw [← List.drop_eq_getElem_cons h1, List.take_append_drop]
theorem more_get {xs : List (Int × Int)} {k : Nat} {q a : Int × Int} (hq : xs[k]? = some q) (i : Nat) : (xs.take k ++ a :: q :: xs.drop (k + 1))[i]? = if i < k then xs[i]? else if i = k then some a else xs[i - 1]? := by
  have hk : k < xs.length := (List.getElem?_eq_some_iff.1 hq).1
  have hl : (xs.take k).length = k := by rw [List.length_take]; omega
  by_cases h1 : i < k
  · rw [if_pos h1, List.getElem?_append_left (by omega), List.getElem?_take_of_lt h1]
  · rw [if_neg h1, List.getElem?_append_right (by omega), hl]
    by_cases h2 : i = k
    · subst h2; rw [if_pos rfl, Nat.sub_self]; rfl
    · rw [if_neg h2, show i - k = (i - 1 - k) + 1 from by omega, List.getElem?_cons_succ]
      have e : q :: xs.drop (k + 1) = xs.drop k := by
        obtain ⟨h3, rfl⟩ := List.getElem?_eq_some_iff.1 hq
        exact (List.drop_eq_getElem_cons h3).symm
      rw [e, List.getElem?_drop, show k + (i - 1 - k) = i - 1 from by omega]
theorem more_fine {xs : List (Int × Int)} (ht : TabOk xs) (hl59 : xs.length ≤ 59) {m : Nat} {f l : Int × Int} (hm : xs.length = m + 1) (hf : xs[0]? = some f) (hl : xs[m]? = some l) {x V : Int} (h1 : f.1 < x) (h2 : x < l.1)
    (hne : ∀ p ∈ xs, p.1 ≠ x) (hV : valV xs x = (V, V)) (hVb : -1000000000 ≤ V ∧ V ≤ 1000000000) :
    TabOk (mrS x V xs).1 ∧ (mrS x V xs).1.length = m + 2 ∧ (mrS x V xs).1[0]? = some f ∧ (mrS x V xs).1[m + 1]? = some l ∧ ∀ z, f.1 ≤ z → z ≤ l.1 → valV (mrS x V xs).1 z = valV xs z := by
  obtain ⟨k, p, q, hp, hq, hpx, hxq, _⟩ := seg_first ht (cov_of hm hf hl (by omega) (by omega) : covB xs x = true)
  have np := hne p (List.mem_of_getElem? hp)
  have nq := hne q (List.mem_of_getElem? hq)
  have hpq := ht.2.2.2 k (k + 1) p q (by omega) hp hq
  have hkm : k + 1 < m + 1 := by rw [← hm]; exact (List.getElem?_eq_some_iff.1 hq).1
  have hlow : ∀ r ∈ xs.take (k + 1), r.1 < x := fun r hr => by
    obtain ⟨i, hi, e⟩ := List.mem_iff_getElem.1 hr
    have hi' : i < k + 1 := by have := List.length_take_le (k + 1) xs; omega
    have hg : xs[i]? = some r := by rw [← List.getElem?_take_of_lt hi', List.getElem?_eq_getElem hi, e]
    rcases Nat.lt_or_ge i k with h | h
    · have := ht.2.2.2 i k r p h hg hp; omega
    · obtain rfl : i = k := by omega
      rw [hp] at hg; injection hg with hg; subst hg; omega
  have hM : (mrS x V xs).1 = xs.take (k + 1) ++ (x, V) :: q :: xs.drop (k + 1 + 1) := by
    have e := split_at hq
    rw [show mrS x V xs = mrS x V (xs.take (k + 1) ++ q :: xs.drop (k + 1 + 1)) from congrArg _ e, mrS_is x V _ q _ hlow (by omega)]
  have hG : ∀ i, (mrS x V xs).1[i]? = if i < k + 1 then xs[i]? else if i = k + 1 then some (x, V) else xs[i - 1]? := fun i => by rw [hM]; exact more_get hq i
  have hlen : (mrS x V xs).1.length = m + 2 := by
    rw [hM, List.length_append, List.length_cons, List.length_cons, List.length_take, List.length_drop, hm]
    omega
  generalize (mrS x V xs).1 = M at *
  have hT : TabOk M := by
    refine ⟨by omega, by omega, fun r hr => ?_, fun i j r s hij hr hs => ?_⟩
    · obtain ⟨i, hi, e⟩ := List.mem_iff_getElem.1 hr
      have hg : M[i]? = some r := by rw [List.getElem?_eq_getElem hi, e]
      rw [hG i] at hg
      split at hg
      · exact ht.2.2.1 r (List.mem_of_getElem? hg)
      · split at hg
        · injection hg with hg; subst hg
          have a1 := rowB_of (ht.2.2.1 p (List.mem_of_getElem? hp))
          have a2 := rowB_of (ht.2.2.1 q (List.mem_of_getElem? hq))
          simp [rowB]; omega
        · exact ht.2.2.1 r (List.mem_of_getElem? hg)
    · rw [hG i] at hr
      rw [hG j] at hs
      split at hr
      · split at hs
        · exact ht.2.2.2 i j r s hij hr hs
        · split at hs
          · injection hs with hs; subst hs
            have hm' : r ∈ xs.take (k + 1) := by
              have : (xs.take (k + 1))[i]? = some r := by rw [List.getElem?_take_of_lt (by assumption)]; exact hr
              exact List.mem_of_getElem? this
            exact hlow r hm'
          · exact ht.2.2.2 i (j - 1) r s (by omega) hr hs
      · split at hr
        · injection hr with hr; subst hr
          rw [if_neg (by omega), if_neg (by omega)] at hs
          rcases Nat.lt_or_ge (k + 1) (j - 1) with h | h
          · have := ht.2.2.2 (k + 1) (j - 1) q s h hq hs; simp only; omega
          · rw [show j - 1 = k + 1 from by omega, hq] at hs; injection hs with hs; subst hs; simp only; omega
        · rw [if_neg (by omega), if_neg (by omega)] at hs
          exact ht.2.2.2 (i - 1) (j - 1) r s (by omega) hr hs
  have hVx : segV p q x = (V, V) := by rw [← seg_val ht hp hq x hpx hxq]; exact hV
  have hL := exact_line (x := x) hpq (by rw [hVx])
  rw [hVx] at hL
  simp only at hL
  refine ⟨hT, hlen, by rw [hG 0, if_pos (by omega)]; exact hf, by rw [hG (m + 1), if_neg (by omega), if_neg (by omega)]; exact hl, fun z z1 z2 => ?_⟩
  obtain ⟨k', p', q', hp', hq', hz1, hz2, _⟩ := seg_first ht (cov_of hm hf hl z1 z2 : covB xs z = true)
  rw [seg_val ht hp' hq' z hz1 hz2]
  rcases Nat.lt_trichotomy k' k with h | h | h
  · exact seg_val hT (k := k') (by rw [hG k', if_pos (by omega)]; exact hp') (by rw [hG (k' + 1), if_pos (by omega)]; exact hq') z hz1 hz2
  · subst h
    rw [hp] at hp'; rw [hq] at hq'
    injection hp' with hp'; injection hq' with hq'
    subst hp' hq'
    rcases Int.lt_or_le x z with hz | hz
    · rw [← seg_right (at' := x) (V := V) (by omega) (by omega) hL z]
      exact seg_val hT (k := k' + 1) (by rw [hG (k' + 1), if_neg (by omega), if_pos rfl]) (by rw [hG (k' + 1 + 1), if_neg (by omega), if_neg (by omega)]; exact hq) z (by simp only; omega) hz2
    · rw [← seg_left (at' := x) (V := V) (by omega) (by omega) hL z]
      exact seg_val hT (k := k') (by rw [hG k', if_pos (by omega)]; exact hp) (by rw [hG (k' + 1), if_neg (by omega), if_pos rfl]) z hz1 (by simp only; omega)
  · exact seg_val hT (k := k' + 1) (by rw [hG (k' + 1), if_neg (by omega), if_neg (by omega)]; exact hp') (by rw [hG (k' + 1 + 1), if_neg (by omega), if_neg (by omega)]; exact hq') z hz1 hz2
end Go.Proofs.Ytkhongbemoahpaa

