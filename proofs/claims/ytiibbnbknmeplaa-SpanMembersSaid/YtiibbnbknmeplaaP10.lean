/- Plain: two sets made of gaps and lengths: what all calls of SpanMembers return of them. -/
import Derived.Test.YtiibbnbknmeplaaC22
import Derived.Test.YtiibbnbknmeplaaC23
namespace Go.Proofs.Ytiibbnbknmeplaa
open Go.Lib
set_option linter.unusedVariables false
set_option linter.unusedSimpArgs false

theorem apart_len (a : Int) : ∀ (m : Nat) (L : List (Int × Int)), L.length = m → Apart L → ∀ z, a - 2 ≤ z → (∀ p ∈ L, a ≤ p.1 ∧ p.2 ≤ z) → 2 * (m : Int) ≤ z - a + 2 := by
  intro m
  induction m with
  | zero => intro L _ _ z hz _; omega
  | succ m ih =>
    intro L hL hA z hz hb
    rcases List.eq_nil_or_concat L with rfl | ⟨l, p, rfl⟩
    · simp at hL
    rw [List.concat_eq_append] at *
    obtain ⟨b1, b2, b3⟩ := apart_snoc.1 hA
    have hp := hb p (by simp)
    have := ih l (by simp at hL; exact hL) b1 (p.1 - 2) (by omega) (fun q hq => by have := b3 q hq; have := hb q (by simp [hq]); omega)
    omega
theorem setE_apart {L : List (Int × Int)} (hA : Apart L) (hl : L.length ≤ 200) (hb : ∀ p ∈ L, -1000000000000000 ≤ p.1 ∧ p.2 ≤ 1000000000000000) : setE L = 0 := by
  refine setE_yes hl ?_
  unfold rngsOk
  rw [List.all_eq_true]
  intro k hk
  have hk' : k < L.length := by simpa using hk
  have hp : L[k]? = some L[k] := List.getElem?_eq_getElem hk'
  rw [rngOk_of hp]
  have h1 := hb _ (List.getElem_mem hk')
  have h2 := hA.1 _ (List.getElem_mem hk')
  have hv : vrB L[k].1 L[k].2 = true := by simp [vrB]; omega
  rw [hv, Bool.true_and]
  cases k with
  | zero => rfl
  | succ j =>
    have hj : L[j]? = some L[j] := List.getElem?_eq_getElem (by omega)
    simp only [hj]
    have := List.pairwise_iff_getElem.1 hA.2 j (j + 1) (by omega) hk' (by omega)
    simpa using this
/-- a set: apart, not long, within small bounds -/
def Fine (L : List (Int × Int)) : Prop := Apart L ∧ L.length ≤ 200 ∧ ∀ p ∈ L, -330 ≤ p.1 ∧ p.2 ≤ 120
theorem Fine.set {L : List (Int × Int)} (h : Fine L) : setE L = 0 := setE_apart h.1 h.2.1 (fun p hp => by have := h.2.2 p hp; omega)
theorem fine_md {ps : List (Int × Int)} (h : ps.length ≤ 12) : Apart (mdS ps).1 ∧ (mdS ps).1.length = ps.length ∧ ∀ p ∈ (mdS ps).1, -298 ≤ p.1 ∧ p.2 ≤ 84 := by
  obtain ⟨h1, h2, h3, h4, h5⟩ := mdS_is [] ps.length ps rfl
  exact ⟨h4, h1, fun p hp => by have := h5 p hp; omega⟩
theorem steps_mem {xs : List (Int × Int)} {u : Int} (h : u ∈ stepsOf xs) : ∃ p ∈ xs, u = p.1 ∨ u = p.2 + 1 := by
  simp only [stepsOf, List.mem_flatMap, List.mem_cons, List.not_mem_nil, or_false] at h
  exact h
theorem join_fine (K : Bool → Bool → Bool) (hK : K false false = false) (xs ys : List (Int × Int)) (hx : Apart xs) (hy : Apart ys) (bx : ∀ p ∈ xs, -298 ≤ p.1 ∧ p.2 ≤ 84) (by' : ∀ p ∈ ys, -298 ≤ p.1 ∧ p.2 ≤ 84)
    (hlx : xs.length ≤ 12) (hly : ys.length ≤ 12) :
    jnE K xs ys = 0 ∧ Fine (jnR K xs ys) ∧ (∀ p ∈ jnR K xs ys, -298 ≤ p.1 ∧ p.2 ≤ 84) ∧ ∀ n, memB (jnR K xs ys) n = K (memB xs n) (memB ys n) := by
  have sx := setE_apart hx (by omega) (fun p hp => by have := bx p hp; omega)
  have sy := setE_apart hy (by omega) (fun p hp => by have := by' p hp; omega)
  obtain ⟨j1, j2, j3⟩ := join_is K hK xs ys hx hy (stepsOf xs ++ stepsOf ys) (fun p hp => by
    simp only [stepsOf, List.mem_append, List.mem_flatMap, List.mem_cons, List.not_mem_nil, or_false]
    rcases hp with hp | hp
    · exact ⟨.inl ⟨p, hp, .inl rfl⟩, .inl ⟨p, hp, .inr rfl⟩⟩
    · exact ⟨.inr ⟨p, hp, .inl rfl⟩, .inr ⟨p, hp, .inr rfl⟩⟩)
  have hJ : joinL K xs ys = cjL K xs ys (compact ((stepsOf xs ++ stepsOf ys).mergeSort fun x y => decide (x ≤ y))) := rfl
  rw [← hJ] at j1 j2 j3
  have hb : ∀ p ∈ joinL K xs ys, -298 ≤ p.1 ∧ p.2 ≤ 84 := by
    intro p hp
    obtain ⟨a, b⟩ := j3 p hp
    have hu : ∀ u, u ∈ stepsOf xs ++ stepsOf ys → -298 ≤ u ∧ u ≤ 85 := by
      intro u hu
      rcases List.mem_append.1 hu with h | h
      · obtain ⟨q, hq, h⟩ := steps_mem h
        have := bx q hq; have := hx.1 q hq; omega
      · obtain ⟨q, hq, h⟩ := steps_mem h
        have := by' q hq; have := hy.1 q hq; omega
    have := hu _ a; have := hu _ b; omega
  have hlen := apart_len (-298) _ _ rfl j1 84 (by omega) hb
  have hle : ¬ 200 < (joinL K xs ys).length := by omega
  have e1 : jnE K xs ys = 0 := by unfold jnE; rw [if_pos sx, if_pos sy, if_neg hle]
  have e2 : jnR K xs ys = joinL K xs ys := by unfold jnR; rw [if_pos sx, if_pos sy, if_neg hle]
  rw [e2]
  exact ⟨e1, ⟨j1, by omega, fun p hp => by have := hb p hp; omega⟩, hb, j2⟩
theorem wide_fine (d : Int) (hd : 0 ≤ d ∧ d ≤ 19) (xs : List (Int × Int)) (hx : Apart xs) (bx : ∀ p ∈ xs, -298 ≤ p.1 ∧ p.2 ≤ 84) (hlx : xs.length ≤ 12) :
    stE xs d = 0 ∧ Fine (widL d xs) ∧ ∀ n, memB (widL d xs) n = true ↔ ∃ k, n - d ≤ k ∧ k ≤ n + d ∧ memB xs k = true := by
  have sx := setE_apart hx (by omega) (fun p hp => by have := bx p hp; omega)
  have hbd : ∀ p ∈ xs, -1000000000000000 ≤ p.1 - d ∧ p.2 + d ≤ 1000000000000000 := fun p hp => by have := bx p hp; have := hx.1 p hp; omega
  obtain ⟨w1, _, _, w4⟩ := widL_is d hd.1 _ xs rfl hx hbd
  refine ⟨by unfold stE; rw [if_pos sx, if_neg (by omega)], ⟨w1, by have := widL_len d xs; omega, fun q hq => ?_⟩, wid_mem hd.1 hx hbd⟩
  obtain ⟨p, r, hp, hr, h1, h2⟩ := w4 q hq
  have := bx p hp; have := bx r hr; omega
theorem thin_fine (d : Int) (hd : 0 ≤ d ∧ d ≤ 19) (xs : List (Int × Int)) (hx : Apart xs) (bx : ∀ p ∈ xs, -298 ≤ p.1 ∧ p.2 ≤ 84) (hlx : xs.length ≤ 12) :
    Fine (nwL d xs) ∧ ∀ n, memB (nwL d xs) n = true ↔ ∀ k, n - d ≤ k → k ≤ n + d → memB xs k = true := by
  refine ⟨⟨nwL_apart hd.1 hx, by have := nwL_len d xs; omega, fun q hq => ?_⟩, nw_mem hd.1 hx⟩
  have h := (nwL_apart hd.1 hx).1 q hq
  unfold nwL at hq
  obtain ⟨p, hp, rfl⟩ := List.mem_map.1 hq
  have := bx p (List.mem_filter.1 hp).1
  simp only at h ⊢
  omega
theorem count_fine (xs ys : List (Int × Int)) (hx : Apart xs) (hy : Apart ys) (bx : ∀ p ∈ xs, -298 ≤ p.1 ∧ p.2 ≤ 84) (by' : ∀ p ∈ ys, -298 ≤ p.1 ∧ p.2 ≤ 84)
    (hlx : xs.length ≤ 12) (hly : ys.length ≤ 12) :
    cntV (jnR (fun p q => p || q) xs ys) + cntV (jnR (fun p q => p && q) xs ys) = cntV xs + cntV ys := by
  obtain ⟨_, f1, b1, m1⟩ := join_fine (fun p q => p || q) rfl xs ys hx hy bx by' hlx hly
  obtain ⟨_, f2, b2, m2⟩ := join_fine (fun p q => p && q) rfl xs ys hx hy bx by' hlx hly
  have e : ∀ (L : List (Int × Int)), setE L = 0 → Apart L → (∀ p ∈ L, -298 ≤ p.1 ∧ p.2 ≤ 84) → cntV L = cw (memB L) (-298) 400 := fun L h1 h2 h3 => by
    unfold cntV; rw [if_pos h1]
    exact cnt_is (-298) 400 _ L rfl h2 (fun p hp => by have := h3 p hp; omega)
  rw [e _ f1.set f1.1 b1, e _ f2.set f2.1 b2,
    e _ (setE_apart hx (by omega) (fun p hp => by have := bx p hp; omega)) hx bx, e _ (setE_apart hy (by omega) (fun p hp => by have := by' p hp; omega)) hy by',
    cw_congr _ _ m1, cw_congr _ _ m2]
  exact cw_both _ _ _ _
theorem near_fine (x : Int) (hx' : -32768 ≤ x ∧ x ≤ 32767) (xs : List (Int × Int)) (hx : Apart xs) (bx : ∀ p ∈ xs, -298 ≤ p.1 ∧ p.2 ≤ 84) (hlx : xs.length ≤ 12) :
    (xs.length = 0 → nrE xs x = 7) ∧ (0 < xs.length → nrE xs x = 0 ∧ memB xs (nrR xs x) = true ∧ -298 ≤ nrR xs x ∧ nrR xs x ≤ 84 ∧
      ∀ k, memB xs k = true → (nrR xs x - x).natAbs ≤ (k - x).natAbs ∧ ((k - x).natAbs = (nrR xs x - x).natAbs → nrR xs x ≤ k)) := by
  have sx := setE_apart hx (by omega) (fun p hp => by have := bx p hp; omega)
  have hv : vnB x = true := by simp [vnB]; omega
  have e : nrE xs x = if xs.length = 0 then 7 else 0 := by unfold nrE; rw [if_pos sx, if_pos hv]
  refine ⟨fun h => by rw [e, if_pos h], fun h => ?_⟩
  have e0 : nrE xs x = 0 := by rw [e, if_neg (by omega)]
  have e1 : nrR xs x = nrV x xs := by unfold nrR; rw [if_pos e0]
  rw [e1]
  obtain ⟨n1, n2⟩ := near_is x _ xs rfl (fun h' => by rw [h'] at h; simp at h) hx
  obtain ⟨p, hp, h1, h2⟩ := memB_iff.1 n1
  have := bx p hp
  exact ⟨e0, n1, by omega, by omega, n2⟩
end Go.Proofs.Ytiibbnbknmeplaa
