/- Plain lists: what is sorted by exchanges; the runs between changes, with and without equal neighbours. -/
import Derived.Test.YtiibbnbknmeplaaT11
import Derived.Lib.SlicesCompact
import Derived.Lib.RowBridge
namespace Go.Proofs.Ytiibbnbknmeplaa
open Go.Lib
set_option linter.unusedVariables false
set_option linter.unusedSimpArgs false

theorem compactUpTo_snoc (zs : List Int) (z : Int) (m : Nat) (hm : m ≤ zs.length) : compactUpTo (zs ++ [z]).toArray m = compactUpTo zs.toArray m := by
  unfold compactUpTo
  have hk : ∀ i ∈ List.range m, keeps (zs ++ [z]).toArray i = keeps zs.toArray i := by
    intro i hi
    have hi' := List.mem_range.1 hi
    unfold keeps
    simp only [List.getElem!_toArray]
    rw [List.getElem!_eq_getElem?_getD, List.getElem!_eq_getElem?_getD, List.getElem!_eq_getElem?_getD, List.getElem!_eq_getElem?_getD]
    rw [List.getElem?_append_left (by omega), List.getElem?_append_left (by omega)]
  rw [List.filter_congr hk]
  apply List.map_congr_left
  intro i hi
  have hi' := List.mem_range.1 (List.mem_filter.1 hi).1
  simp only [List.getElem!_toArray]
  rw [List.getElem!_eq_getElem?_getD, List.getElem!_eq_getElem?_getD, List.getElem?_append_left (by omega)]
theorem compact_snoc (zs : List Int) (z : Int) : compact (zs ++ [z]) = match zs.getLast? with | none => [z] | some y => if z = y then compact zs else compact zs ++ [z] := by
  unfold compact
  rw [List.length_append, List.length_singleton, compactUpTo_succ, compactUpTo_snoc zs z _ (Nat.le_refl _)]
  have hz : (zs ++ [z]).toArray[zs.length]! = z := by simp
  cases h : zs.getLast? with
  | none =>
    obtain rfl := List.getLast?_eq_none_iff.1 h
    simp [compactUpTo, keeps]
  | some y =>
    have hne : zs ≠ [] := by intro e; simp [e] at h
    have hl : 0 < zs.length := List.length_pos_iff.2 hne
    have hy : (zs ++ [z]).toArray[zs.length - 1]! = y := by
      simp only [List.getElem!_toArray]
      rw [List.getElem!_eq_getElem?_getD, List.getElem?_append_left (by omega)]
      rw [List.getLast?_eq_getElem?] at h
      rw [h]; rfl
    simp only
    by_cases e : z = y
    · rw [if_pos e, keeps_neg hl (by rw [hz, hy, e])]
      simp
    · rw [if_neg e, keeps_pos (by rw [hz, hy]; exact e), hz]
      simp
theorem compact_last (zs : List Int) (y : Int) : ∀ (m : Nat), zs.length = m → zs.getLast? = some y → (compact zs).getLast? = some y := by
  intro m
  induction m generalizing zs y with
  | zero => intro h0 h; obtain rfl := List.eq_nil_of_length_eq_zero h0; simp at h
  | succ m ih =>
    intro hm h
    rcases List.eq_nil_or_concat zs with rfl | ⟨l, a, rfl⟩
    · simp at h
    · rw [List.concat_eq_append] at *
      simp at h
      subst h
      rw [compact_snoc]
      cases hl : l.getLast? with
      | none => rfl
      | some b =>
        simp only
        split
        · rename_i e
          subst e
          exact ih l a (by simp at hm; exact hm) hl
        · simp
/-- the runs of a list of changes, in order -/
def cjL (K : Bool → Bool → Bool) (xs ys : List (Int × Int)) (C : List Int) : List (Int × Int) := whereAt (runsOf K xs ys C) (C.length - 1)
theorem whereAt_congr (P Q : Nat → (Int × Int) × Bool) (k : Nat) (h : ∀ j, j < k → P j = Q j) : whereAt P k = whereAt Q k := by
  induction k with
  | zero => rfl
  | succ k ih =>
    unfold whereAt
    rw [ih (fun j hj => h j (by omega)), h k (by omega)]
theorem cjL_snoc (K : Bool → Bool → Bool) (xs ys : List (Int × Int)) (C : List Int) (y z : Int) (h : C.getLast? = some y) :
    cjL K xs ys (C ++ [z]) = if K (memB xs y) (memB ys y) then extP (cjL K xs ys C) (y, z - 1) else cjL K xs ys C := by
  have hne : C ≠ [] := by intro e; simp [e] at h
  have hl : 0 < C.length := List.length_pos_iff.2 hne
  obtain ⟨m, hm⟩ : ∃ m, C.length = m + 1 := ⟨C.length - 1, by omega⟩
  have hy : C[m]? = some y := by rw [List.getLast?_eq_getElem?, hm] at h; exact h
  have e1 : (C ++ [z]).getD m 0 = y := by rw [List.getD_eq_getElem?_getD, List.getElem?_append_left (by omega), hy]; rfl
  have e2 : (C ++ [z]).getD (m + 1) 0 = z := by rw [List.getD_eq_getElem?_getD, List.getElem?_append_right (by omega), hm]; simp
  unfold cjL
  rw [List.length_append, List.length_singleton, hm, Nat.add_sub_cancel, Nat.add_sub_cancel]
  have hc : whereAt (runsOf K xs ys (C ++ [z])) m = whereAt (runsOf K xs ys C) m := by
    apply whereAt_congr
    intro j hj
    unfold runsOf
    have e3 : (C ++ [z]).getD j 0 = C.getD j 0 := by rw [List.getD_eq_getElem?_getD, List.getElem?_append_left (by omega), ← List.getD_eq_getElem?_getD]
    have e4 : (C ++ [z]).getD (j + 1) 0 = C.getD (j + 1) 0 := by rw [List.getD_eq_getElem?_getD, List.getElem?_append_left (by omega), ← List.getD_eq_getElem?_getD]
    rw [e3, e4]
  rw [whereAt, hc]
  have er : runsOf K xs ys (C ++ [z]) m = ((y, z - 1), K (memB xs y) (memB ys y)) := by unfold runsOf; rw [e1, e2]
  rw [er]

/-- what the reference has behind k rounds -/
def rfJ (p : List (Int × Int)) (y z : Int) : List (Int × Int) :=
  match p.getLast? with
  | none => [(y, z - 1)]
  | some q => if q.2 + 1 = y then p.dropLast ++ [(q.1, z - 1)] else p ++ [(y, z - 1)]
def refAt (K : Bool → Bool → Bool) (xs ys : List (Int × Int)) (S : List Int) : Nat → List (Int × Int)
  | 0 => []
  | k + 1 => if K (memB xs (S.getD k 0)) (memB ys (S.getD k 0)) && !(S.getD k 0 == S.getD (k + 1) 0) then rfJ (refAt K xs ys S k) (S.getD k 0) (S.getD (k + 1) 0) else refAt K xs ys S k
theorem rfJ_ext (p : List (Int × Int)) (y z : Int) (h : ∀ q ∈ p, q.2 + 1 ≤ y) : rfJ p y z = extP p (y, z - 1) := by
  unfold rfJ extP
  cases hp : p.getLast? with
  | none => rfl
  | some q =>
    have hq := h q (List.mem_of_getLast? hp)
    simp only
    by_cases e : q.2 + 1 = y
    · rw [if_pos e, if_pos (by omega)]
    · rw [if_neg e, if_neg (by omega)]
theorem ext_bd (p : List (Int × Int)) (y z : Int) (hyz : y ≤ z) (h : ∀ q ∈ p, q.2 + 1 ≤ y) : ∀ q ∈ extP p (y, z - 1), q.2 + 1 ≤ z := by
  unfold extP
  cases hp : p.getLast? with
  | none => intro q hq; simp at hq; subst hq; simp
  | some r =>
    simp only
    split
    · intro q hq
      rcases List.mem_append.1 hq with hq | hq
      · have := h q (List.dropLast_subset _ hq); omega
      · simp at hq; subst hq; simp
    · intro q hq
      rcases List.mem_append.1 hq with hq | hq
      · have := h q hq; omega
      · simp at hq; subst hq; simp
theorem refAt_is (K : Bool → Bool → Bool) (xs ys : List (Int × Int)) (S : List Int) (hs : S.Pairwise (· ≤ ·)) : ∀ k, k + 1 ≤ S.length →
    refAt K xs ys S k = cjL K xs ys (compact (S.take (k + 1))) ∧ ∀ q ∈ refAt K xs ys S k, q.2 + 1 ≤ S.getD k 0 := by
  intro k
  induction k with
  | zero =>
    intro h
    obtain ⟨z, t, rfl⟩ : ∃ z t, S = z :: t := by
      cases S with
      | nil => simp at h
      | cons z t => exact ⟨z, t, rfl⟩
    refine ⟨?_, fun q hq => by simp [refAt] at hq⟩
    have : compact [z] = [z] := by have := compact_snoc [] z; simpa using this
    simp [refAt, this, cjL, whereAt]
  | succ k ih =>
    intro h
    obtain ⟨i1, i2⟩ := ih (by omega)
    obtain ⟨y, hy⟩ : ∃ y, S[k]? = some y := ⟨_, List.getElem?_eq_getElem (by omega)⟩
    obtain ⟨z, hz⟩ : ∃ z, S[k + 1]? = some z := ⟨_, List.getElem?_eq_getElem (by omega)⟩
    have dy : S.getD k 0 = y := by rw [List.getD_eq_getElem?_getD, hy]; rfl
    have dz : S.getD (k + 1) 0 = z := by rw [List.getD_eq_getElem?_getD, hz]; rfl
    have hyz : y ≤ z := by
      have h1 := List.getElem?_eq_some_iff.1 hy
      have h2 := List.getElem?_eq_some_iff.1 hz
      obtain ⟨a1, rfl⟩ := h1
      obtain ⟨a2, rfl⟩ := h2
      exact List.pairwise_iff_getElem.1 hs k (k + 1) a1 a2 (by omega)
    have ht : S.take (k + 1 + 1) = S.take (k + 1) ++ [z] := by rw [List.take_add_one, hz]; rfl
    have hlast : (S.take (k + 1)).getLast? = some y := by
      rw [List.getLast?_eq_getElem?, List.length_take, Nat.min_eq_left (by omega), List.getElem?_take, if_pos (by omega)]
      exact hy
    have hcl := compact_last _ y _ rfl hlast
    rw [ht, compact_snoc, hlast]
    simp only
    rw [dy] at i2
    unfold refAt
    rw [dy, dz]
    by_cases e : z = y
    · subst e
      rw [if_pos rfl]
      simp only [beq_self_eq_true, Bool.not_true, Bool.and_false, Bool.false_eq_true, if_false]
      exact ⟨i1, i2⟩
    · rw [if_neg e, cjL_snoc K xs ys _ y z hcl]
      have hne : (!(y == z)) = true := by simp; omega
      rw [hne, Bool.and_true]
      cases hk : K (memB xs y) (memB ys y)
      · simp only [Bool.false_eq_true, if_false]
        exact ⟨i1, fun q hq => by have := i2 q hq; omega⟩
      · simp only [if_true]
        rw [rfJ_ext _ _ _ i2]
        exact ⟨by rw [i1], ext_bd _ y z hyz i2⟩
theorem refAt_all (K : Bool → Bool → Bool) (xs ys : List (Int × Int)) (S : List Int) (hs : S.Pairwise (· ≤ ·)) : refAt K xs ys S (S.length - 1) = cjL K xs ys (compact S) := by
  cases hS : S.length with
  | zero =>
    obtain rfl := List.eq_nil_of_length_eq_zero hS
    have : compact ([] : List Int) = [] := by simp [compact, compactUpTo]
    simp [refAt, this, cjL, whereAt]
  | succ m =>
    have h := (refAt_is K xs ys S hs m (by omega)).1
    rw [List.take_of_length_le (by omega)] at h
    exact h
/-- what is sorted by exchanges is what is sorted -/
theorem sorted_is (L S : List Int) (hp : L.Perm S) (hs : S.Pairwise (· ≤ ·)) : S = L.mergeSort fun x y => decide (x ≤ y) := by
  have h1 : (L.mergeSort fun x y => decide (x ≤ y)).Perm S := (List.mergeSort_perm L _).trans hp
  have h2 := List.pairwise_mergeSort (le := fun x y : Int => decide (x ≤ y)) (fun a b c h1 h2 => by simp at *; omega) (fun a b => by simp; omega) L
  refine (List.Perm.eq_of_pairwise (le := fun x y : Int => x ≤ y) (fun a b _ _ h1 h2 => by omega) (h2.imp (fun h => by simpa using h)) hs h1).symm
/-- an exchange of neighbours -/
theorem swap_perm (L : List Int) (j : Nat) (x y : Int) (hx : L[j]? = some x) (hy : L[j + 1]? = some y) : L.Perm ((L.set (j + 1) x).set j y) := by
  obtain ⟨a1, rfl⟩ := List.getElem?_eq_some_iff.1 hx
  obtain ⟨a2, rfl⟩ := List.getElem?_eq_some_iff.1 hy
  have e1 : L = L.take j ++ (L[j] :: L[j + 1] :: L.drop (j + 2)) := by
    rw [← List.drop_eq_getElem_cons a2, ← List.drop_eq_getElem_cons a1, List.take_append_drop]
  have e2 : ((L.set (j + 1) L[j]).set j L[j + 1]) = L.take j ++ (L[j + 1] :: L[j] :: L.drop (j + 2)) := by
    apply List.ext_getElem
    · simp; omega
    · intro i h1 h2
      simp only [List.getElem_set, List.getElem_append, List.length_take, List.getElem_take]
      have hmin : min j L.length = j := Nat.min_eq_left (by omega)
      simp only [hmin]
      by_cases hi : i < j
      · rw [if_neg (by omega), if_neg (by omega), dif_pos hi]
      · rw [dif_neg hi]
        by_cases hj : i = j
        · subst hj; simp
        · by_cases hj1 : i = j + 1
          · subst hj1
            rw [if_neg (by omega), if_pos rfl]
            simp
          · rw [if_neg (by omega), if_neg (by omega)]
            obtain ⟨m, rfl⟩ : ∃ m, i = j + 2 + m := ⟨i - (j + 2), by omega⟩
            have hm2 : j + 2 + m - j = m + 1 + 1 := by omega
            simp only [hm2, List.getElem_cons_succ, List.getElem_drop]
  rw [e2]
  conv => lhs; rw [e1]
  exact List.Perm.append_left _ (List.Perm.swap _ _ _)
def UpTo (L : List Int) (i : Nat) : Prop := ∀ (a b : Nat) (x y : Int), a < b → b < i → L[a]? = some x → L[b]? = some y → x ≤ y
def UpBut (L : List Int) (i j : Nat) : Prop := ∀ (a b : Nat) (x y : Int), a < b → b ≤ i → b ≠ j → L[a]? = some x → L[b]? = some y → x ≤ y
theorem upTo_one (L : List Int) : UpTo L 1 := fun a b x y h1 h2 => by omega
theorem upBut_in {L : List Int} {i : Nat} (h : UpTo L i) : UpBut L i i := fun a b x y h1 h2 h3 h4 h5 => h a b x y h1 (by omega) h4 h5
theorem upBut_zero {L : List Int} {i : Nat} (h : UpBut L i 0) : UpTo L (i + 1) := fun a b x y h1 h2 h3 h4 => h a b x y h1 (by omega) (by omega) h3 h4
theorem upBut_out {L : List Int} {i j : Nat} {x y : Int} (h : UpBut L i (j + 1)) (hx : L[j]? = some x) (hy : L[j + 1]? = some y) (hxy : x ≤ y) : UpTo L (i + 1) := by
  intro a b u v h1 h2 h3 h4
  by_cases hb : b = j + 1
  · subst hb
    rw [hy] at h4
    obtain rfl := Option.some.inj h4
    by_cases ha : a = j
    · subst ha; rw [hx] at h3; obtain rfl := Option.some.inj h3; exact hxy
    · have := h a j u x (by omega) (by omega) (by omega) h3 hx; omega
  · exact h a b u v h1 (by omega) hb h3 h4
theorem upBut_swap {L : List Int} {i j : Nat} {x y : Int} (h : UpBut L i (j + 1)) (hx : L[j]? = some x) (hy : L[j + 1]? = some y) (hji : j + 1 ≤ i) (hxy : y < x) : UpBut ((L.set (j + 1) x).set j y) i j := by
  have l1 : j + 1 < L.length := (List.getElem?_eq_some_iff.1 hy).1
  have get : ∀ c, ((L.set (j + 1) x).set j y)[c]? = if c = j then some y else if c = j + 1 then some x else L[c]? := by
    intro c
    rw [List.getElem?_set, List.getElem?_set]
    by_cases c1 : c = j
    · subst c1; simp; omega
    · rw [if_neg (by omega), if_neg c1]
      by_cases c2 : c = j + 1
      · subst c2; simp [l1]
      · rw [if_neg (by omega), if_neg c2]
  intro a b u v h1 h2 h3 h4 h5
  rw [get] at h4 h5
  by_cases b1 : b = j + 1
  · rw [if_neg (by omega), if_pos b1] at h5
    obtain rfl := Option.some.inj h5
    by_cases a1 : a = j
    · rw [if_pos a1] at h4; obtain rfl := Option.some.inj h4; omega
    · rw [if_neg a1, if_neg (by omega)] at h4
      exact h a j u x (by omega) (by omega) (by omega) h4 hx
  · rw [if_neg h3, if_neg b1] at h5
    by_cases a1 : a = j
    · rw [if_pos a1] at h4
      obtain rfl := Option.some.inj h4
      exact h (j + 1) b y v (by omega) h2 b1 hy h5
    · by_cases a2 : a = j + 1
      · rw [if_neg a1, if_pos a2] at h4
        obtain rfl := Option.some.inj h4
        exact h j b x v (by omega) h2 b1 hx h5
      · rw [if_neg a1, if_neg a2] at h4
        exact h a b u v h1 h2 b1 h4 h5
theorem upTo_all {L : List Int} (h : UpTo L L.length) : L.Pairwise (· ≤ ·) := by
  rw [List.pairwise_iff_getElem]
  intro i j hi hj hij
  exact h i j _ _ hij hj (List.getElem?_eq_getElem hi) (List.getElem?_eq_getElem hj)
end Go.Proofs.Ytiibbnbknmeplaa
