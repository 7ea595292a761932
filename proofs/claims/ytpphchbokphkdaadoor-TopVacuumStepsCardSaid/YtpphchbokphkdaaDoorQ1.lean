/- Plain: loads that are added up from the last node on; each is what comes in and the loads of those behind. -/
namespace Go.Proofs.YtpphchbokphkdaaDoor
set_option linter.unusedVariables false
set_option linter.unusedSimpArgs false

def padd (p q : Int × Int) : Int × Int := (p.1 + q.1, p.2 + q.2)
theorem padd_comm (p q : Int × Int) : padd p q = padd q p := by unfold padd; ext <;> simp only <;> omega
theorem padd_assoc (p q r : Int × Int) : padd (padd p q) r = padd p (padd q r) := by unfold padd; ext <;> simp only <;> omega
theorem padd_zero (p : Int × Int) : padd (0, 0) p = p := by unfold padd; ext <;> simp
def psum (l : List (Int × Int)) : Int × Int := l.foldl padd (0, 0)
theorem psum_from (l : List (Int × Int)) : ∀ s, l.foldl padd s = padd s (psum l) := by
  induction l with
  | nil => intro s; unfold psum padd; ext <;> simp
  | cons p l ih => intro s; unfold psum; rw [List.foldl_cons, List.foldl_cons, ih, ih (padd (0, 0) p), padd_zero, padd_assoc]
theorem psum_cons (p : Int × Int) (l : List (Int × Int)) : psum (p :: l) = padd p (psum l) := by
  show List.foldl padd (0, 0) (p :: l) = _
  rw [List.foldl_cons, padd_zero, psum_from]

/-- the nodes from m on, up to n, whose parent is i -/
def kids (par : Nat → Nat) (m n i : Nat) : List Nat := (List.range' m (n - m)).filter fun k => par k == i
theorem kids_end (par : Nat → Nat) (n i : Nat) : kids par n n i = [] := by simp [kids]
theorem kids_step (par : Nat → Nat) {m n : Nat} (h : m < n) (i : Nat) : kids par m n i = if par m = i then m :: kids par (m + 1) n i else kids par (m + 1) n i := by
  unfold kids
  rw [show n - m = (n - (m + 1)) + 1 from by omega, List.range'_succ, List.filter_cons]
  by_cases hp : par m = i
  · rw [if_pos hp, if_pos (by simpa using hp)]
  · rw [if_neg hp, if_neg (by simpa using hp)]
theorem kids_mem {par : Nat → Nat} {m n i k : Nat} (h : k ∈ kids par m n i) : m ≤ k ∧ k < n ∧ par k = i := by
  unfold kids at h
  rw [List.mem_filter, List.mem_range'_1] at h
  have h2 : par k = i := by simpa using h.2
  exact ⟨h.1.1, by omega, h2⟩

/-- what the list is when all nodes from m on have been added to their parents -/
def ldA (a : List (Int × Int)) (p k : Nat) : List (Int × Int) := a.set p (padd (a.getD p (0, 0)) (a.getD k (0, 0)))
def ldS (par : Nat → Nat) (fl : List (Int × Int)) : Nat → List (Int × Int)
  | 0 => fl
  | d + 1 => ldA (ldS par fl d) (par (fl.length - 1 - d)) (fl.length - 1 - d)
theorem ldA_length (a : List (Int × Int)) (p k : Nat) : (ldA a p k).length = a.length := by simp [ldA]
theorem ldS_length (par : Nat → Nat) (fl : List (Int × Int)) (d : Nat) : (ldS par fl d).length = fl.length := by
  induction d with
  | zero => rfl
  | succ d ih => rw [ldS, ldA_length, ih]
theorem ldA_get (a : List (Int × Int)) (p k i : Nat) (hp : p < a.length) : (ldA a p k).getD i (0, 0) = if i = p then padd (a.getD p (0, 0)) (a.getD k (0, 0)) else a.getD i (0, 0) := by
  unfold ldA
  rw [List.getD_eq_getElem?_getD, List.getElem?_set]
  by_cases h : i = p
  · subst h; simp [hp]
  · rw [if_neg (by omega), if_neg h, List.getD_eq_getElem?_getD]
/-- each load is what comes in and the loads of those behind, among the nodes that have been added -/
theorem ldS_is (par : Nat → Nat) (fl : List (Int × Int)) (hp : ∀ k, 0 < k → k < fl.length → par k < k) : ∀ d, d + 1 ≤ fl.length →
    ∀ i, i < fl.length → (ldS par fl d).getD i (0, 0) = padd (fl.getD i (0, 0)) (psum ((kids par (fl.length - d) fl.length i).map fun k => (ldS par fl d).getD k (0, 0))) := by
  intro d
  induction d with
  | zero =>
    intro _ i _
    rw [Nat.sub_zero, kids_end, ldS]
    show _ = padd _ (psum [])
    unfold psum padd
    ext <;> simp
  | succ d ih =>
    intro hd i hi
    have hk : fl.length - 1 - d < fl.length := by omega
    have hpar := hp (fl.length - 1 - d) (by omega) hk
    have hn : fl.length - (d + 1) = fl.length - 1 - d := by omega
    have hm : fl.length - d = fl.length - 1 - d + 1 := by omega
    have ih' := ih (by omega)
    rw [hm] at ih'
    rw [hn]
    generalize hk' : fl.length - 1 - d = k at *
    have hS : ∀ j, (ldS par fl (d + 1)).getD j (0, 0) = if j = par k then padd ((ldS par fl d).getD (par k) (0, 0)) ((ldS par fl d).getD k (0, 0)) else (ldS par fl d).getD j (0, 0) := fun j => by
      rw [ldS, hk']
      exact ldA_get _ _ _ _ (by rw [ldS_length]; omega)
    have same : ∀ l : List Nat, (∀ j ∈ l, k ≤ j) → l.map (fun j => (ldS par fl (d + 1)).getD j (0, 0)) = l.map (fun j => (ldS par fl d).getD j (0, 0)) := fun l hl => by
      apply List.map_congr_left
      intro j hj
      rw [hS j, if_neg (by have := hl j hj; omega)]
    rw [same _ (fun j hj => (kids_mem hj).1), kids_step par hk i, hS i]
    by_cases h : par k = i
    · subst h
      rw [if_pos rfl, if_pos rfl, List.map_cons, psum_cons, ih' (par k) (by omega), padd_assoc]
      congr 1
      exact padd_comm _ _
    · rw [if_neg (by omega), if_neg h]
      exact ih' i hi
/-- all of them -/
theorem ld_all (par : Nat → Nat) (fl : List (Int × Int)) (hp : ∀ k, 0 < k → k < fl.length → par k < k) (i : Nat) (hi : i < fl.length) :
    (ldS par fl (fl.length - 1)).getD i (0, 0) = padd (fl.getD i (0, 0)) (psum ((kids par (i + 1) fl.length i).map fun k => (ldS par fl (fl.length - 1)).getD k (0, 0))) := by
  have h := ldS_is par fl hp (fl.length - 1) (by omega) i hi
  rw [show fl.length - (fl.length - 1) = 1 from by omega] at h
  rw [h]
  have e : kids par 1 fl.length i = kids par (i + 1) fl.length i := by
    have key : ∀ j, 1 ≤ j → j ≤ i + 1 → kids par 1 fl.length i = kids par j fl.length i := by
      intro j
      induction j with
      | zero => intro h; omega
      | succ j ih =>
        intro h1 h2
        rcases Nat.eq_zero_or_pos j with h0 | h0
        · subst h0; rfl
        · rw [ih h0 (by omega), kids_step par (show j < fl.length by omega) i, if_neg (by have := hp j h0 (by omega); omega)]
    exact key (i + 1) (by omega) (Nat.le_refl _)
  rw [e]
end Go.Proofs.YtpphchbokphkdaaDoor
