/- What TopMixedKegs asks of numbers; three rows that a call made itself, at once; its list of triples. -/
import Derived.Test.YtloddjjmoaljhaaE4
import Derived.Deep.AppendLies
namespace Go.Proofs.Ytloddjjmoaljhaa
open Go.RowKit Go.Lib Go.Shelf
set_option linter.unusedVariables false
set_option linter.unusedSimpArgs false

/-- triples of small numbers among a law's arguments -/
def U16 (p : Int × Int × Int) : Prop := 0 ≤ p.1 ∧ p.1 ≤ 65535 ∧ 0 ≤ p.2.1 ∧ p.2.1 ≤ 65535 ∧ 0 ≤ p.2.2 ∧ p.2.2 ≤ 65535
def T16 (w : World) (g off : Nat) (ps : List (Int × Int × Int)) : Prop :=
  ∀ (k : Nat) (p : Int × Int × Int), ps[k]? = some p → (w.cell? ⟨g, off + k * 3, none⟩ = some (.int .u16 p.1) ∧ w.cell? ⟨g, off + k * 3 + 1, none⟩ = some (.int .u16 p.2.1) ∧ w.cell? ⟨g, off + k * 3 + 2, none⟩ = some (.int .u16 p.2.2)) ∧ U16 p
def T16At (w : World) (v : Value) (ps : List (Int × Int × Int)) : Prop :=
  ∃ A c, v = .slice A ps.length c ∧ (0 < ps.length → ∃ g off, A = some ⟨g, off, none⟩ ∧ g < w.heap.size ∧ T16 w g off ps)

def kgT (p : Int × Int × Int) : Kg := ⟨p.1, 1 + p.2.1, p.2.2.tmod 1001, 1 + p.2.2.tmod 9⟩
theorem kgT_ok {p : Int × Int × Int} (h : U16 p) : kgB (kgT p) = true := by
  obtain ⟨h1, h2, h3, h4, h5, h6⟩ := h
  have a1 := Int.tmod_nonneg 1001 h5
  have a2 := Int.tmod_lt_of_pos p.2.2 (show (0 : Int) < 1001 by omega)
  have b1 := Int.tmod_nonneg 9 h5
  have b2 := Int.tmod_lt_of_pos p.2.2 (show (0 : Int) < 9 by omega)
  have e : kgB (kgT p) = (spB p.1 (1 + p.2.1) && inB 1 1000000000 (p.1 + (1 + p.2.1)) && inB 0 1000 (p.2.2.tmod 1001) && inB 1 9 (1 + p.2.2.tmod 9)) := rfl
  rw [e]
  generalize p.2.2.tmod 1001 = x at *
  generalize p.2.2.tmod 9 = y at *
  simp only [spB, inB, Bool.and_eq_true, decide_eq_true_eq]
  omega
theorem kgT_all {ps : List (Int × Int × Int)} (h : ∀ p ∈ ps, U16 p) : (ps.map kgT).all kgB = true := by
  rw [List.all_eq_true]
  intro q hq
  obtain ⟨p, hp, rfl⟩ := List.mem_map.1 hq
  exact kgT_ok (h p hp)

/-- the concentration of a keg -/
def brK (k : Kg) : Int × Int := (brL k.a k.s, brH k.a k.s)
theorem br_is {a s : Int} (h1 : 0 ≤ a) (h2 : a ≤ 1000000000000) (h3 : 0 ≤ s) (h4 : s ≤ 1000000000000) (h5 : 1 ≤ a + s) :
    brE a s = 0 ∧ brL a s = s * 10000 / (a + s) ∧ brH a s = -((-(s * 10000)) / (a + s)) := by
  have hE : brE a s = 0 := by unfold brE; rw [if_pos (by simp [spB]; omega), if_neg (by omega)]
  have hn : s.natAbs * (10000 : Int).natAbs / (a + s).natAbs ≤ 1000000000000000000 := by
    refine Nat.le_trans (Nat.div_le_self _ _) ?_
    rw [show (10000 : Int).natAbs = 10000 from rfl]
    omega
  obtain ⟨q1, q2⟩ := q_pos (a := s) (b := 10000) (c := a + s) (by omega) hn
  exact ⟨hE, by unfold brL; rw [if_pos hE, q1], by unfold brH; rw [if_pos hE, q2]⟩
theorem div_lo {x m lo : Int} (hm : 0 < m) : lo ≤ x / m ↔ lo * m ≤ x := Int.le_ediv_iff_mul_le hm
theorem div_hi {x m hi : Int} (hm : 0 < m) : -((-x) / m) ≤ hi ↔ x ≤ hi * m := by
  have h := Int.le_ediv_iff_mul_le (a := -hi) (b := -x) hm
  rw [Int.neg_mul] at h
  omega
theorem brK_ok {k : Kg} (h : kgB k = true) : vrB (brK k).1 (brK k).2 = true := by
  obtain ⟨h1, h2, h3, h4, _⟩ := kgB_of h
  obtain ⟨_, e1, e2⟩ := br_is (a := k.a) (s := k.s) h1 (by omega) h2 (by omega) h3
  have hm : 0 < k.a + k.s := by omega
  have l0 : 0 ≤ k.s * 10000 / (k.a + k.s) := (div_lo hm).2 (by omega)
  have l1 : k.s * 10000 / (k.a + k.s) ≤ k.s * 10000 := Int.ediv_le_self _ (by omega)
  have u0 : -((-(k.s * 10000)) / (k.a + k.s)) ≤ 10000 := (div_hi hm).2 (by omega)
  have u1 : k.s * 10000 / (k.a + k.s) ≤ -((-(k.s * 10000)) / (k.a + k.s)) := by
    have h1 := (div_lo (x := k.s * 10000) (lo := k.s * 10000 / (k.a + k.s)) hm).1 (Int.le_refl _)
    have h2 := (div_hi (x := k.s * 10000) (hi := -((-(k.s * 10000)) / (k.a + k.s))) hm).1 (Int.le_refl _)
    exact Int.le_of_mul_le_mul_right (Int.le_trans h1 h2) hm
  simp only [vrB, brK, e1, e2, Bool.and_eq_true, decide_eq_true_eq]
  omega
theorem hull_fold : ∀ (ys : List (Int × Int)) (acc : Int × Int), (ys.foldl hullJ acc).1 ≤ acc.1 ∧ acc.2 ≤ (ys.foldl hullJ acc).2 ∧ ∀ p ∈ ys, (ys.foldl hullJ acc).1 ≤ p.1 ∧ p.2 ≤ (ys.foldl hullJ acc).2 := by
  intro ys
  induction ys with
  | nil => intro acc; exact ⟨Int.le_refl _, Int.le_refl _, fun p h => by cases h⟩
  | cons q ys ih =>
    intro acc
    obtain ⟨h1, h2, h3⟩ := ih (hullJ acc q)
    have e1 : (hullJ acc q).1 = min acc.1 q.1 := rfl
    have e2 : (hullJ acc q).2 = max acc.2 q.2 := rfl
    rw [e1] at h1
    rw [e2] at h2
    simp only [List.foldl_cons]
    refine ⟨by omega, by omega, fun p hp => ?_⟩
    rcases List.mem_cons.1 hp with rfl | hp
    · exact ⟨by omega, by omega⟩
    · exact h3 p hp
theorem hullP_bd {xs : List (Int × Int)} {p : Int × Int} (hp : p ∈ xs) : (hullP xs).1 ≤ p.1 ∧ p.2 ≤ (hullP xs).2 := by
  cases xs with
  | nil => cases hp
  | cons q ys =>
    obtain ⟨h1, h2, h3⟩ := hull_fold ys (q.1, q.2)
    rcases List.mem_cons.1 hp with rfl | hp
    · exact ⟨h1, h2⟩
    · exact h3 p hp
theorem med_lo (lo : Int) : ∀ (xs : List Kg) (acc : Int × Int), lo * (acc.1 + acc.2) ≤ acc.2 * 10000 → (∀ p ∈ xs, lo * (p.a + p.s) ≤ p.s * 10000) → lo * (((sps xs).foldl addP acc).1 + ((sps xs).foldl addP acc).2) ≤ ((sps xs).foldl addP acc).2 * 10000 := by
  intro xs
  induction xs with
  | nil => intro acc h _; exact h
  | cons p xs ih =>
    intro acc h hp
    have e : (sps (p :: xs)).foldl addP acc = (sps xs).foldl addP (addP acc (p.a, p.s)) := rfl
    rw [e]
    refine ih _ ?_ (fun q hq => hp q (List.mem_cons_of_mem _ hq))
    have h1 := hp p (List.mem_cons_self ..)
    have e1 : (addP acc (p.a, p.s)).1 + (addP acc (p.a, p.s)).2 = (acc.1 + acc.2) + (p.a + p.s) := by simp [addP]; omega
    have e2 : (addP acc (p.a, p.s)).2 = acc.2 + p.s := rfl
    rw [e1, e2, Int.mul_add]
    omega
theorem med_hi (hi : Int) : ∀ (xs : List Kg) (acc : Int × Int), acc.2 * 10000 ≤ hi * (acc.1 + acc.2) → (∀ p ∈ xs, p.s * 10000 ≤ hi * (p.a + p.s)) → ((sps xs).foldl addP acc).2 * 10000 ≤ hi * (((sps xs).foldl addP acc).1 + ((sps xs).foldl addP acc).2) := by
  intro xs
  induction xs with
  | nil => intro acc h _; exact h
  | cons p xs ih =>
    intro acc h hp
    have e : (sps (p :: xs)).foldl addP acc = (sps xs).foldl addP (addP acc (p.a, p.s)) := rfl
    rw [e]
    refine ih _ ?_ (fun q hq => hp q (List.mem_cons_of_mem _ hq))
    have h1 := hp p (List.mem_cons_self ..)
    have e1 : (addP acc (p.a, p.s)).1 + (addP acc (p.a, p.s)).2 = (acc.1 + acc.2) + (p.a + p.s) := by simp [addP]; omega
    have e2 : (addP acc (p.a, p.s)).2 = acc.2 + p.s := rfl
    rw [e1, e2, Int.mul_add]
    omega
/-- the concentrations of all kegs: a valid list, whose hull has the concentration of what is poured together -/
theorem brix_in {xs : List Kg} (hx : xs.all kgB = true) (h0 : 0 < xs.length) (hl : xs.length ≤ 12) :
    huE (xs.map brK) = 0 ∧ huL (xs.map brK) ≤ brL (suU (sps xs)).1 (suU (sps xs)).2 ∧ brH (suU (sps xs)).1 (suU (sps xs)).2 ≤ huH (xs.map brK) ∧ brE (suU (sps xs)).1 (suU (sps xs)).2 = 0 := by
  have hlen : (xs.map brK).length = xs.length := List.length_map ..
  have hv : vrsB (xs.map brK) = true := by
    unfold vrsB
    rw [List.all_eq_true]
    intro q hq
    obtain ⟨p, hp, rfl⟩ := List.mem_map.1 hq
    exact brK_ok (List.all_eq_true.1 hx p hp)
  have hc : chkS (xs.map brK) = 0 := by
    unfold chkS
    rw [chkL_yes (by omega) hv, if_pos rfl, if_neg (by omega)]
  obtain ⟨s1, s2, s3, s4, s5, s6⟩ := su_all hx
  obtain ⟨b0, b1, b2⟩ := br_is (a := (suU (sps xs)).1) (s := (suU (sps xs)).2) s1 (by omega) s3 (by omega) (by omega)
  have hm : 0 < (suU (sps xs)).1 + (suU (sps xs)).2 := by omega
  refine ⟨by unfold huE; rw [if_pos hc], ?_, ?_, b0⟩
  · unfold huL
    rw [if_pos hc, b1]
    refine (div_lo hm).2 (med_lo _ xs (0, 0) (by simp) (fun p hp => ?_))
    obtain ⟨k1, k2, k3, k4, _⟩ := kgB_of (List.all_eq_true.1 hx p hp)
    obtain ⟨_, e1, _⟩ := br_is (a := p.a) (s := p.s) k1 (by omega) k2 (by omega) k3
    have := (hullP_bd (List.mem_map_of_mem (f := brK) hp)).1
    simp only [brK, e1] at this
    exact (div_lo (by omega)).1 this
  · unfold huH
    rw [if_pos hc, b2]
    refine (div_hi hm).2 (med_hi _ xs (0, 0) (by simp) (fun p hp => ?_))
    obtain ⟨k1, k2, k3, k4, _⟩ := kgB_of (List.all_eq_true.1 hx p hp)
    obtain ⟨_, _, e2⟩ := br_is (a := p.a) (s := p.s) k1 (by omega) k2 (by omega) k3
    have := (hullP_bd (List.mem_map_of_mem (f := brK) hp)).2
    simp only [brK, e2] at this
    exact (div_hi (by omega)).1 this

/-- what is drawn: its sugar -/
theorem draw_q {a s m : Int} (h1 : 0 ≤ a) (h3 : 0 ≤ s) (m1 : 1 ≤ m) (m2 : m ≤ a + s) :
    0 ≤ s * m / (a + s) ∧ s * m / (a + s) ≤ s ∧ s * m / (a + s) ≤ m ∧ m - s * m / (a + s) ≤ a := by
  have hT : 0 < a + s := by omega
  have n0 : 0 ≤ s * m := Int.mul_nonneg h3 (by omega)
  have e1 : s * m ≤ s * (a + s) := Int.mul_le_mul_of_nonneg_left m2 h3
  have e2 : m * s ≤ m * (a + s) := Int.mul_le_mul_of_nonneg_left (by omega) (by omega)
  have c1 : s * m / (a + s) ≤ s := Int.ediv_le_of_le_mul hT e1
  have c2 : s * m / (a + s) ≤ m := Int.ediv_le_of_le_mul hT (by rw [Int.mul_comm s m]; exact e2)
  have c3 : m - a ≤ s * m / (a + s) := (div_lo hT).2 (by
    have h4 : a * m ≤ a * (a + s) := Int.mul_le_mul_of_nonneg_left m2 h1
    have e : (m - a) * (a + s) = a * m + s * m - a * (a + s) := by
      rw [Int.sub_mul, Int.mul_add, Int.mul_comm m a, Int.mul_comm m s]
    omega)
  exact ⟨Int.ediv_nonneg n0 (by omega), c1, c2, by omega⟩
theorem kgL_bd : ∀ (xs : List Kg) (m : Int) (acc : Int × Int), xs.all kgB = true → 0 ≤ m → m ≤ 1000 * (acc.1 + acc.2) →
    0 ≤ xs.foldl (fun m p => m + p.l * (p.a + p.s)) m ∧ xs.foldl (fun m p => m + p.l * (p.a + p.s)) m ≤ 1000 * (((sps xs).foldl addP acc).1 + ((sps xs).foldl addP acc).2) := by
  intro xs
  induction xs with
  | nil => intro m acc _ h0 h1; exact ⟨h0, h1⟩
  | cons p xs ih =>
    intro m acc h h0 h1
    simp only [List.all_cons, Bool.and_eq_true] at h
    obtain ⟨k1, k2, k3, k4, k5, k6, _⟩ := kgB_of h.1
    have e : (sps (p :: xs)).foldl addP acc = (sps xs).foldl addP (addP acc (p.a, p.s)) := rfl
    rw [e, List.foldl_cons]
    have l0 : 0 ≤ p.l * (p.a + p.s) := Int.mul_nonneg k5 (by omega)
    have l1 : p.l * (p.a + p.s) ≤ 1000 * (p.a + p.s) := Int.mul_le_mul_of_nonneg_right k6 (by omega)
    refine ih _ _ h.2 (by omega) ?_
    have e1 : (addP acc (p.a, p.s)).1 + (addP acc (p.a, p.s)).2 = (acc.1 + acc.2) + (p.a + p.s) := by simp [addP]; omega
    rw [e1]
    omega
theorem kgF_bd : ∀ (xs : List Kg) (m : Int), xs.all kgB = true → 0 ≤ m → m ≤ 9 → m ≤ xs.foldl (fun m p => max m p.f) m ∧ xs.foldl (fun m p => max m p.f) m ≤ 9 ∧ (0 < xs.length → 1 ≤ xs.foldl (fun m p => max m p.f) m) := by
  intro xs
  induction xs with
  | nil => intro m _ h0 h1; exact ⟨Int.le_refl _, h1, fun h => by simp at h⟩
  | cons p xs ih =>
    intro m h h0 h1
    simp only [List.all_cons, Bool.and_eq_true] at h
    obtain ⟨k1, k2, k3, k4, k5, k6, k7, k8⟩ := kgB_of h.1
    rw [List.foldl_cons]
    obtain ⟨i1, i2, _⟩ := ih (max m p.f) h.2 (by omega) (by omega)
    exact ⟨by omega, i2, fun _ => by omega⟩
/-- light and flavour of what is poured together -/
theorem kgM_bd {xs : List Kg} (hx : xs.all kgB = true) (h0 : 0 < xs.length) : 0 ≤ (kgM xs).l ∧ (kgM xs).l ≤ 1000 ∧ 1 ≤ (kgM xs).f ∧ (kgM xs).f ≤ 9 := by
  obtain ⟨s1, s2, s3, s4, s5, s6⟩ := su_all hx
  obtain ⟨l0, l1⟩ := kgL_bd xs 0 (0, 0) hx (Int.le_refl _) (by simp)
  obtain ⟨_, f1, f2⟩ := kgF_bd xs 0 hx (Int.le_refl _) (by omega)
  have hm : 0 < (suU (sps xs)).1 + (suU (sps xs)).2 := by omega
  have e : (kgM xs).l = kgL xs / ((suU (sps xs)).1 + (suU (sps xs)).2) := by
    show (kgL xs).tdiv _ = _
    exact Int.tdiv_eq_ediv_of_nonneg l0
  refine ⟨by rw [e]; exact Int.ediv_nonneg l0 (by omega), by rw [e]; exact Int.ediv_le_of_le_mul hm l1, f2 h0, f1⟩
theorem again_one {a s l f : Int} (h : 1 ≤ a + s) (hf : 1 ≤ f) : kgM [⟨a, s, l, f⟩] = ⟨a, s, l, f⟩ := by
  have e1 : suU (sps [⟨a, s, l, f⟩]) = (a, s) := by simp [suU, sps, addP]
  have e2 : kgL [⟨a, s, l, f⟩] = l * (a + s) := by simp [kgL]
  have e3 : kgF [⟨a, s, l, f⟩] = f := by simp [kgF]; omega
  unfold kgM
  rw [e1, e2, e3, Int.mul_tdiv_cancel _ (by omega)]
theorem again_two {a s b t l f : Int} (h : 1 ≤ a + s) (h2 : 1 ≤ b + t) (hf : 1 ≤ f) : kgM [⟨a, s, l, f⟩, ⟨b, t, l, f⟩] = ⟨a + b, s + t, l, f⟩ := by
  have e1 : suU (sps [⟨a, s, l, f⟩, ⟨b, t, l, f⟩]) = (a + b, s + t) := by simp [suU, sps, addP]
  have e2 : kgL [⟨a, s, l, f⟩, ⟨b, t, l, f⟩] = l * ((a + b) + (s + t)) := by
    simp only [kgL, List.foldl_cons, List.foldl_nil]
    rw [Int.zero_add, ← Int.mul_add]
    congr 1
    omega
  have e3 : kgF [⟨a, s, l, f⟩, ⟨b, t, l, f⟩] = f := by simp [kgF]; omega
  unfold kgM
  rw [e1, e2, e3, Int.mul_tdiv_cancel _ (by omega)]

/-- the cells of some kegs, one after another -/
def flatK (ks : List Kg) : List Value := ks.flatMap fun p => [.int .i64 p.a, .int .i64 p.s, .int .i64 p.l, .int .i64 p.f]
theorem flatK_append (xs ys : List Kg) : flatK (xs ++ ys) = flatK xs ++ flatK ys := by simp [flatK]
theorem flatK_one (p : Kg) : flatK [p] = [.int .i64 p.a, .int .i64 p.s, .int .i64 p.l, .int .i64 p.f] := rfl
theorem flatK_cons (p : Kg) (xs : List Kg) : flatK (p :: xs) = .int .i64 p.a :: .int .i64 p.s :: .int .i64 p.l :: .int .i64 p.f :: flatK xs := rfl
theorem flatK_length (xs : List Kg) : (flatK xs).length = xs.length * 4 := by
  induction xs with
  | nil => rfl
  | cons p xs ih => rw [flatK_cons]; simp only [List.length_cons, ih]; omega
theorem flatK_small (xs : List Kg) : ∀ u ∈ flatK xs, u.oneCell' = true := by
  intro u hu
  simp only [flatK, List.mem_flatMap] at hu
  obtain ⟨p, _, hp⟩ := hu
  simp at hp
  rcases hp with rfl | rfl | rfl | rfl <;> rfl
theorem flatK_at : ∀ (ps : List Kg) (k : Nat) (p : Kg), ps[k]? = some p → ∀ j, j < 4 → (flatK ps)[k * 4 + j]? = (cKg p)[j]? := by
  intro ps
  induction ps with
  | nil => intro k p h; simp at h
  | cons q ps ih =>
    intro k p h j hj
    rw [flatK_cons]
    rcases k with _ | k
    · simp at h; subst h
      rcases (by omega : j = 0 ∨ j = 1 ∨ j = 2 ∨ j = 3) with rfl | rfl | rfl | rfl <;> rfl
    · have := ih k p (by simpa using h) j hj
      rw [show (k + 1) * 4 + j = k * 4 + j + 1 + 1 + 1 + 1 from by omega]
      simpa using this
theorem own_kegs (ks : List Kg) (n : Nat) (hn : ks.length = n) (v : Value) (w : World) {base : Nat} (h : w.ownsRow base 37 4 v n (flatK ks)) : KsAt w.heap.size w v ks := by
  subst hn
  have hc := h
  obtain ⟨_, ⟨rfl, h0⟩ | ⟨g, cap, cur, rfl, _, hh, hnc, _, _, _⟩⟩ := h
  · have : ks = [] := List.eq_nil_of_length_eq_zero h0
    subst this
    exact ⟨none, 0, rfl, Nat.le_refl _, fun h => by simp at h⟩
  · refine ⟨_, cap, rfl, hnc, fun _ => ⟨g, 0, rfl, ?_, fun k p hk j hj => ?_⟩⟩
    · rcases Nat.lt_or_ge g w.heap.size with h | h
      · exact h
      · rw [Array.getElem?_eq_none h] at hh; cases hh
    · have hf := flatK_at ks k p hk j hj
      obtain ⟨u, hu⟩ : ∃ u, (cKg p)[j]? = some u := by
        rcases (by omega : j = 0 ∨ j = 1 ∨ j = 2 ∨ j = 3) with rfl | rfl | rfl | rfl <;> exact ⟨_, rfl⟩
      rw [hu] at hf ⊢
      have := hc.cells (g := g) rfl _ u hf
      simpa [Addr.add_lit, Nat.add_assoc] using this
theorem infoKeg : (Try.prog.info? 37).map (fun i => (i.zero, i.size, i.bytes)) = some (some (.agg #[.int .i64 0, .int .i64 0, .int .i64 0, .int .i64 0]), 4, 32) := by kernel_rfl
theorem infoRng : (Try.prog.info? 32).map (fun i => (i.zero, i.size, i.bytes)) = some (some (.agg #[.int .i64 0, .int .i64 0]), 2, 16) := by kernel_rfl

/-- three rows of the call's own, that lie in three blocks -/
def NE (u v : Value) : Prop := ∀ g, u.ownBlock = some g → v.ownBlock ≠ some g
def R3 (base : Nat) (W : World) (V5 V6 V7 : Value) (n5 n6 n7 : Nat) (L5 L6 L7 : List Value) : Prop :=
  W.ownsRow base 37 4 V5 n5 L5 ∧ W.ownsRow base 30 2 V6 n6 L6 ∧ W.ownsRow base 32 2 V7 n7 L7 ∧ NE V5 V6 ∧ NE V5 V7 ∧ NE V6 V7
theorem R3.below {base : Nat} {W W' : World} {V5 V6 V7 : Value} {n5 n6 n7 : Nat} {L5 L6 L7 : List Value} (h : R3 base W V5 V6 V7 n5 n6 n7 L5 L6 L7) (hb : Below W.heap.size W W') : R3 base W' V5 V6 V7 n5 n6 n7 L5 L6 L7 :=
  ⟨own_below h.1 hb, own_below h.2.1 hb, own_below h.2.2.1 hb, h.2.2.2⟩
theorem R3.drew {base : Nat} {W : World} {V5 V6 V7 : Value} {n5 n6 n7 : Nat} {L5 L6 L7 : List Value} (h : R3 base W V5 V6 V7 n5 n6 n7 L5 L6 L7) : R3 base W.drew V5 V6 V7 n5 n6 n7 L5 L6 L7 := h
theorem kept_ne {base : Nat} {e : TypeId} {size : Nat} {W W' : World} {u v : Value} {n : Nat} {L : List Value} (h : W.ownsRow base e size v n L) (hne : NE u v) (hg : W.grownBy W' u.ownBlock) : W'.ownsRow base e size v n L :=
  h.kept hg (by
    cases hv : v.ownBlock with
    | none => exact .inl rfl
    | some g => exact .inr fun e => hne g e.symm hv)
theorem ne_new {base : Nat} {e : TypeId} {size : Nat} {W : World} {u u' v : Value} {n : Nat} {L : List Value} (h : W.ownsRow base e size v n L) (hne : NE u v) {g : Nat} (hu' : u'.ownBlock = some g) (hat : u.ownBlock = some g ∨ g = W.heap.size) : NE u' v := fun i hi hv => by
  rw [hu'] at hi
  injection hi with hi
  subst hi
  rcases hat with h1 | h1
  · exact hne _ h1 hv
  · have := (World.ownsRow.lt h _ hv).2
    omega
theorem NE.symm {u v : Value} (h : NE u v) : NE v u := fun g h1 h2 => h g h2 h1
theorem R3.app5 {base : Nat} {W W' : World} {V5 V6 V7 v' : Value} {n5 n6 n7 n' g : Nat} {L5 L6 L7 L' : List Value} (h : R3 base W V5 V6 V7 n5 n6 n7 L5 L6 L7) (hv : v'.ownBlock = some g) (ho : W'.ownsRow base 37 4 v' n' L') (hg : W.grownBy W' V5.ownBlock) (hat : V5.ownBlock = some g ∨ g = W.heap.size) : R3 base W' v' V6 V7 n' n6 n7 L' L6 L7 :=
  ⟨ho, kept_ne h.2.1 h.2.2.2.1 hg, kept_ne h.2.2.1 h.2.2.2.2.1 hg, ne_new h.2.1 h.2.2.2.1 hv hat, ne_new h.2.2.1 h.2.2.2.2.1 hv hat, h.2.2.2.2.2⟩
theorem R3.app6 {base : Nat} {W W' : World} {V5 V6 V7 v' : Value} {n5 n6 n7 n' g : Nat} {L5 L6 L7 L' : List Value} (h : R3 base W V5 V6 V7 n5 n6 n7 L5 L6 L7) (hv : v'.ownBlock = some g) (ho : W'.ownsRow base 30 2 v' n' L') (hg : W.grownBy W' V6.ownBlock) (hat : V6.ownBlock = some g ∨ g = W.heap.size) : R3 base W' V5 v' V7 n5 n' n7 L5 L' L7 :=
  ⟨kept_ne h.1 h.2.2.2.1.symm hg, ho, kept_ne h.2.2.1 h.2.2.2.2.2 hg, (ne_new h.1 h.2.2.2.1.symm hv hat).symm, h.2.2.2.2.1, ne_new h.2.2.1 h.2.2.2.2.2 hv hat⟩
theorem R3.app7 {base : Nat} {W W' : World} {V5 V6 V7 v' : Value} {n5 n6 n7 n' g : Nat} {L5 L6 L7 L' : List Value} (h : R3 base W V5 V6 V7 n5 n6 n7 L5 L6 L7) (hv : v'.ownBlock = some g) (ho : W'.ownsRow base 32 2 v' n' L') (hg : W.grownBy W' V7.ownBlock) (hat : V7.ownBlock = some g ∨ g = W.heap.size) : R3 base W' V5 V6 v' n5 n6 n' L5 L6 L' :=
  ⟨kept_ne h.1 h.2.2.2.2.1.symm hg, kept_ne h.2.1 h.2.2.2.2.2.symm hg, ho, h.2.2.2.1, (ne_new h.1 h.2.2.2.2.1.symm hv hat).symm, (ne_new h.2.1 h.2.2.2.2.2.symm hv hat).symm⟩
theorem own_empty0 (W : World) (T size : Nat) : (W.alloc (.cells #[] T)).ownsRow W.heap.size T size (.slice (some ⟨W.heap.size, 0, none⟩) 0 0) 0 [] :=
  ⟨by simp, .inr ⟨W.heap.size, 0, #[], rfl, Nat.le_refl _, heap_alloc_new W _, Nat.le_refl _, Nat.zero_le _, by simp, by simp⟩⟩
theorem own_base0 {w : World} {base base' : Nat} {e : TypeId} {size : Nat} {v : Value} {n : Nat} {xs : List Value} (h : w.ownsRow base e size v n xs) (hb : base' ≤ base) : w.ownsRow base' e size v n xs := by
  refine ⟨h.1, ?_⟩
  rcases h.2 with hn | ⟨g, cap, cur, hv, hb2, rest⟩
  · exact .inl hn
  · exact .inr ⟨g, cap, cur, hv, by omega, rest⟩
theorem R3.start (w : World) : R3 w.heap.size (((w.alloc (.cells #[] 37)).alloc (.cells #[] 30)).alloc (.cells #[] 32)) (.slice (some ⟨w.heap.size, 0, none⟩) 0 0) (.slice (some ⟨w.heap.size + 1, 0, none⟩) 0 0) (.slice (some ⟨w.heap.size + 1 + 1, 0, none⟩) 0 0) 0 0 0 [] [] [] := by
  have h1 := own_empty0 w 37 4
  have h2 := own_empty0 (w.alloc (.cells #[] 37)) 30 2
  have h3 := own_empty0 ((w.alloc (.cells #[] 37)).alloc (.cells #[] 30)) 32 2
  simp only [World.size_alloc] at h2 h3
  refine ⟨(World.ownsRow.alloc (World.ownsRow.alloc h1 _) _), own_base0 (World.ownsRow.alloc h2 _) (by omega), own_base0 h3 (by omega), ?_, ?_, ?_⟩
  all_goals
    intro g e1 e2
    simp [Value.ownBlock] at e1 e2
    omega
/-- what lies elsewhere stays while one of the three rows grows -/
theorem far_row {W W' : World} {v : Value} (h : W.grownBy W' v.ownBlock) {b o : Nat} {x : Option Value} (hb : b < W.heap.size) (hne : ∀ g, v.ownBlock = some g → g < b) (hc : W.cell? ⟨b, o, none⟩ = x) : W'.cell? ⟨b, o, none⟩ = x :=
  grown_keep h hb (fun e => by have := hne _ e; omega) hc
end Go.Proofs.Ytloddjjmoaljhaa
