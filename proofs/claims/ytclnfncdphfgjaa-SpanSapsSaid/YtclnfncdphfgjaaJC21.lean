/- Contracts: V9, V10, joined. -/
import Derived.Test.YtclnfncdphfgjaaJC12
import Derived.Test.YtclnfncdphfgjaaJC20
namespace Go.Proofs.Ytclnfncdphfgjaa
open Go.RowKit Go.Lib Go.Shelf
set_option linter.unusedVariables false
set_option linter.unusedSimpArgs false
attribute [local go_sem ↓] Go.wp_at_zero Go.wp_at_succ

set_option maxRecDepth 20000 in
set_option maxHeartbeats 1000000 in
theorem bdraw_frz (a s mass q : Int) (g : Nat) (hv : spB a s = true) (m1 : 0 < mass) (m2 : mass ≤ a + s) (hd : Divides s mass (a + s)) (hq : qLo s mass (a + s) = q) (q1 : 0 ≤ q) (q2 : q ≤ 1000000000000) (w : World) (hg : g < w.heap.size)
    (h0 : w.cell? ⟨g, 0, none⟩ = some (.int .i64 a)) (h1 : w.cell? ⟨g, 1, none⟩ = some (.int .i64 s)) (f0 : w.frozen? ⟨g, 0, none⟩ = false) (f1 : w.frozen? ⟨g, 1, none⟩ = false) :
    Calls Try.prog 61 #[.pointer (some ⟨g, 0, none⟩), .int .i64 mass] w fun e w' =>
      e = .returned (.agg #[.int .i64 (mass - q), .int .i64 q]) ∧ w.grownBy w' (some g) ∧ w'.cell? ⟨g, 0, none⟩ = some (.int .i64 (a - (mass - q))) ∧ w'.cell? ⟨g, 1, none⟩ = some (.int .i64 (s - q)) ∧ w'.frozen? ⟨g, 0, none⟩ = false ∧ w'.frozen? ⟨g, 1, none⟩ = false := by
  obtain ⟨p1, p2, p3, p4⟩ := spB_of hv
  have c1 := Lib.hid (sapMass_any a s hv)
  have c2 := Lib.hid (around_of s mass (a + s) hd)
  rw [hq] at c2
  clear hv hd hq
  generalize qHi s mass (a + s) = u at *
  have mb : (mass == 0) = false := by simp; omega
  have hf := field_lo
  obtain ⟨t, ht⟩ : ∃ t, a + s = t := ⟨_, rfl⟩
  rw [ht] at c1 c2
  have tb : t ≤ 2000000000000 := by omega
  have m2' : mass ≤ t := by omega
  clear ht m2
  have hS : w.cell? ⟨g, 0, none⟩ = some (.int .i64 a) ∧ w.cell? ⟨g, 1, none⟩ = some (.int .i64 s) ∧ Kq g w w := ⟨h0, h1, Below.refl _ _, hg⟩
  go_enter Try.func61, Try.ntmps61
  go_wp2_with fail
  obtain ⟨s0, s1, _⟩ := keepq ((Below.refl _ _).alloc (Nat.le_refl _) (.cells #[.int .i64 0, .int .i64 0] 28)) hS
  have hS' := And.intro s0 (And.intro s1 (show Kq g (w.alloc (.cells #[.int .i64 0, .int .i64 0] 28)) (w.alloc (.cells #[.int .i64 0, .int .i64 0] 28)) from ⟨Below.refl _ _, by simp; omega⟩))
  clear hS s0 s1
  go_region_held3 (fun w' => w'.cell? ⟨g, 0, none⟩ = some (.int .i64 a) ∧ w'.cell? ⟨g, 1, none⟩ = some (.int .i64 s) ∧ Kq g (w.alloc (.cells #[.int .i64 0, .int .i64 0] 28)) w')
      (first | exact keepq (Below.drew (Below.refl _ _)) (by assumption) | exact keepq ((Below.refl _ _).alloc (Nat.le_refl _) _) (by assumption) | exact keepq hb5 (by assumption) | exact keepq hb6 (by assumption) | exact keepq hb7 (by assumption) | assumption)
      (first
        | (go_at_call 60; (with_reducible refine (c1.out _).mono ?_); rintro e w5 ⟨rfl, hb5⟩)
        | (go_at_call 65; refine (quotientOf3 s mass t _ _ ?_ ?_ ?_ ?_).mono ?_; (focus (simp [drew_size, drewN_size])); (focus (simp [drew_cell, cell_new])); (focus (simp [drew_cell, cell_new])); (focus (simp [drew_cell, cell_new])); rintro e w6 ⟨rfl, hb6⟩)
        | (go_at_call 66; (with_reducible refine (c2.out _).mono ?_); rintro e w7 ⟨rfl, hb7⟩))
  all_goals
    obtain ⟨s0, s1, k, kz⟩ := ‹_ ∧ _ ∧ Kq _ _ _›
    have k0 := cell_next k (b := w.heap.size) (o := 0) (by simp) (v := some (.int .i64 0)) (by simp)
    have k1 := cell_next k (b := w.heap.size) (o := 1) (by simp) (v := some (.int .i64 0)) (by simp)
    have k2 := frozen_next k (b := w.heap.size) (o := 0) (by simp) (v := false) (by simp)
    have k3 := frozen_next k (b := w.heap.size) (o := 1) (by simp) (v := false) (by simp)
    have kB := below1 k
    replace f0 := frozen_next kB hg f0
    replace f1 := frozen_next kB hg f1
    have hne : g ≠ w.heap.size := by omega
    have hne' : w.heap.size ≠ g := by omega
    clear k h0 h1
    go_wp2_with fail
    refine bodyPost_ret (v := .agg #[.int .i64 (mass - q), .int .i64 q]) (by simp [results, Try.results61, go_sem, k0, k1, hne, hne']) rfl ⟨rfl, ?_, ?_, ?_, ?_, ?_⟩
    · exact only_setCell (p := ⟨w.heap.size, 1, none⟩) (only_setCell (p := ⟨w.heap.size, 0, none⟩) (only_setCell (p := ⟨g, 0, none⟩) (only_setCell (p := ⟨g, 1, none⟩) (only_of_below kB _) (.inl rfl) _) (.inl rfl) _) (.inr (Nat.le_refl _)) _) (.inr (Nat.le_refl _)) _
    · simp [go_sem, hne, hne', s0, s1, k0, k1]
    · simp [go_sem, hne, hne', s0, s1, k0, k1]
    · simp [go_sem, f0]
    · simp [go_sem, f1]

/-- one part is drawn: what is left, and the parts -/
def spS (st : (Int × Int) × List (Int × Int)) (m : Int) : (Int × Int) × List (Int × Int) :=
  ((st.1.1 - (m - dq st.1.1 st.1.2 m), st.1.2 - dq st.1.1 st.1.2 m), st.2 ++ [(m - dq st.1.1 st.1.2 m, dq st.1.1 st.1.2 m)])
def spF (a s : Int) (ms : List Int) : (Int × Int) × List (Int × Int) := ms.foldl spS ((a, s), [])
theorem spF_snoc (a s : Int) (ms : List Int) (m : Int) : spF a s (ms ++ [m]) = spS (spF a s ms) m := by simp [spF, List.foldl_append]
theorem spF_len (a s : Int) (ms : List Int) : (spF a s ms).2.length = ms.length := by
  suffices H : ∀ (ms : List Int) (st : (Int × Int) × List (Int × Int)), (ms.foldl spS st).2.length = st.2.length + ms.length by
    have := H ms ((a, s), []); simpa [spF] using this
  intro ms
  induction ms with
  | nil => intro st; rfl
  | cons m ms ih => intro st; rw [List.foldl_cons, ih]; simp [spS]; omega
/-- masses that can be drawn, one after another -/
theorem spF_ok (a s : Int) (h : spB a s = true) : ∀ (ms : List Int), (∀ m ∈ ms, 0 ≤ m) → ms.foldl (· + ·) 0 ≤ a + s → spB (spF a s ms).1.1 (spF a s ms).1.2 = true ∧ (spF a s ms).1.1 + (spF a s ms).1.2 = a + s - ms.foldl (· + ·) 0 := by
  intro ms
  generalize hn : ms.length = n
  induction n generalizing ms with
  | zero =>
    intro _ _
    obtain rfl := List.eq_nil_of_length_eq_zero hn
    exact ⟨h, by simp [spF]⟩
  | succ n ih =>
    obtain ⟨ms, m, rfl⟩ : ∃ xs x, ms = xs ++ [x] := ⟨ms.dropLast, ms.getLast (by intro e; rw [e] at hn; simp at hn), (List.dropLast_concat_getLast _).symm⟩
    rw [List.length_append] at hn
    simp only [List.length_cons, List.length_nil] at hn
    replace ih := ih ms (by omega)
    intro h1 h2
    rw [List.foldl_append, List.foldl_cons, List.foldl_nil] at h2 ⊢
    have hm := h1 m (by simp)
    obtain ⟨i1, i2⟩ := ih (fun x hx => h1 x (by simp [hx])) (by omega)
    rw [spF_snoc]
    have hd := spB_draw i1 hm (show m ≤ (spF a s ms).1.1 + (spF a s ms).1.2 by omega)
    refine ⟨hd, ?_⟩
    show (spF a s ms).1.1 - (m - dq _ _ m) + ((spF a s ms).1.2 - dq _ _ m) = _
    omega

/-- shares add up, and none is below 0 -/
theorem bump_sum (zs : List Int) (os : List Int) (h : ∀ o ∈ os, 0 ≤ o ∧ o < zs.length) : (bump zs os).foldl (· + ·) 0 = zs.foldl (· + ·) 0 + (os.length : Int) := by
  have set_sum : ∀ (l : List Int) (i : Nat), i < l.length → (l.set i (l.getD i 0 + 1)).foldl (· + ·) 0 = l.foldl (· + ·) 0 + 1 := by
    intro l
    induction l with
    | nil => intro i hi; simp at hi
    | cons x l ih =>
      intro i hi
      rcases i with _ | i
      · simp only [List.set_cons_zero, List.getD_cons_zero, List.foldl_cons]
        rw [sum_acc l (0 + (x + 1)), sum_acc l (0 + x)]; omega
      · simp only [List.set_cons_succ, List.getD_cons_succ, List.foldl_cons]
        rw [sum_acc _ (0 + x), sum_acc l (0 + x), ih i (by simpa using hi)]; omega
  suffices H : ∀ (os zs : List Int), (∀ o ∈ os, 0 ≤ o ∧ o < zs.length) → (os.foldl (fun l o => l.set o.toNat (l.getD o.toNat 0 + 1)) zs).foldl (· + ·) 0 = zs.foldl (· + ·) 0 + (os.length : Int) from H os zs h
  intro os
  induction os with
  | nil => intro zs _; simp
  | cons o os ih =>
    intro zs h
    obtain ⟨h1, h2⟩ := h o (List.mem_cons_self ..)
    rw [List.foldl_cons, ih _ (fun p hp => by rw [List.length_set]; exact h p (List.mem_cons_of_mem _ hp)), set_sum zs o.toNat (by omega), List.length_cons]
    omega
theorem shV_sum (n : Int) (ws : List Int) (h : shE n ws = 0) : (shV n ws).foldl (· + ·) 0 = n ∧ ∀ m ∈ shV n ws, 0 ≤ m := by
  obtain ⟨l2, n1, n2, hw, hs⟩ := shE_ok h
  have l1 : 0 < ws.length := by
    rcases ws with _ | ⟨z, ws⟩
    · simp [wtSum] at hs
    · simp
  have ha : 0 < wtSum ws := by have := (wtSum_bd ws hw).1; omega
  have hq : ∀ z ∈ ws, qLo n z (wtSum ws) = n * z / wtSum ws := fun z hz => by
    obtain ⟨z1, z2, z3⟩ := wt_le_sum ws hw z hz
    exact share_quo n z _ n1 n2 z1 z3 ha
  have hlf := left_ok n (wtSum ws) ha ws hq rfl l1
  have ho : ∀ o ∈ (odZ (rsS n (wtSum ws) ws)).take (shL n ws), 0 ≤ o ∧ o < (flS n (wtSum ws) ws).length := fun o ho => by
    have := odZ_mem _ o (List.mem_of_mem_take ho)
    rw [rsS_length] at this
    rw [flS_length]
    exact this
  have hlen : ((odZ (rsS n (wtSum ws) ws)).take (shL n ws)).length = shL n ws := by
    rw [List.length_take, odZ_length, rsS_length]
    unfold shL
    omega
  unfold shV
  rw [if_pos h]
  refine ⟨?_, fun m hm => ?_⟩
  · rw [bump_sum _ _ ho, hlen]
    unfold shL
    omega
  · exact (bump_bd 4000000000000 _ _ (by omega) (fun y hy => by
      obtain ⟨z, hz, rfl⟩ := List.mem_map.1 hy
      obtain ⟨z1, z2, z3⟩ := wt_le_sum ws hw z hz
      have := shareQ_of n z _ n1 n2 z1 z2 z3 ha (by have := (wtSum_bd ws hw).2; omega)
      have h1 := this.lo
      have h2 := this.hi
      omega) m hm).1

/-- the error, and the parts -/
def spE (a s : Int) (ws : List Int) : Int := if spB a s = true then shE (a + s) ws else 2
def spV (a s : Int) (ws : List Int) : List (Int × Int) := if spE a s ws = 0 then (spF a s (shV (a + s) ws)).2 else []
theorem spV_len {a s : Int} {ws : List Int} (h : spE a s ws = 0) : (spV a s ws).length = ws.length := by
  unfold spE at h
  split at h
  · rename_i hv
    unfold spV spE
    rw [if_pos hv, if_pos h, spF_len, shV_len _ _ h]
  · cases h
def SpPost (w : World) (zs : List (Int × Int)) (r : Int) (e : Ending) (w' : World) : Prop :=
  ∃ v, e = .returned (.tuple #[v, .int .i64 r]) ∧ w'.ownsRow w.heap.size 28 2 v zs.length (flat zs) ∧ Below w.heap.size w w'

open Go.RowKit Go.Lib Go.Shelf
set_option linter.unusedVariables false
set_option linter.unusedSimpArgs false
attribute [local go_sem ↓] Go.wp_at_zero Go.wp_at_succ


theorem infoSapV : (Try.prog.info? 28).map (fun i => (i.zero, i.size, i.bytes)) = some (some (.agg #[.int .i64 0, .int .i64 0]), 2, 16) := by kernel_rfl
theorem bdraw_all (a s m : Int) (g : Nat) (hv : spB a s = true) (m1 : 0 ≤ m) (m2 : m ≤ a + s) (w : World) (hg : g < w.heap.size)
    (h0 : w.cell? ⟨g, 0, none⟩ = some (.int .i64 a)) (h1 : w.cell? ⟨g, 1, none⟩ = some (.int .i64 s)) (f0 : w.frozen? ⟨g, 0, none⟩ = false) (f1 : w.frozen? ⟨g, 1, none⟩ = false) :
    Calls Try.prog 61 #[.pointer (some ⟨g, 0, none⟩), .int .i64 m] w fun e w' =>
      e = .returned (.agg #[.int .i64 (m - dq a s m), .int .i64 (dq a s m)]) ∧ w.grownBy w' (some g) ∧ w'.cell? ⟨g, 0, none⟩ = some (.int .i64 (a - (m - dq a s m))) ∧ w'.cell? ⟨g, 1, none⟩ = some (.int .i64 (s - dq a s m)) ∧ w'.frozen? ⟨g, 0, none⟩ = false ∧ w'.frozen? ⟨g, 1, none⟩ = false := by
  by_cases hm : m = 0
  · subst hm
    rw [show dq a s 0 = 0 from if_pos rfl]
    refine (bdraw_zero g w hg).mono ?_
    rintro e w' ⟨rfl, hb⟩
    exact ⟨by simp, only_of_below hb _, by rw [cell_next hb hg h0]; simp, by rw [cell_next hb hg h1]; simp, frozen_next hb hg f0, frozen_next hb hg f1⟩
  · have hb := dq_bd hv m1 m2
    obtain ⟨a1, a2, s1, s2⟩ := spB_of hv
    have hq : dq a s m = s * m / (a + s) := if_neg hm
    have hp : 0 < a + s := by omega
    have hqq : s.natAbs * m.natAbs / (a + s).natAbs ≤ 1000000000000000000 := by
      have e : (s.natAbs * m.natAbs / (a + s).natAbs : Nat) = (s * m / (a + s)).toNat := by
        obtain ⟨S, hS⟩ := Int.eq_ofNat_of_zero_le s1
        obtain ⟨N, hN⟩ := Int.eq_ofNat_of_zero_le m1
        obtain ⟨D, hD⟩ := Int.eq_ofNat_of_zero_le (Int.le_of_lt hp)
        rw [hD, hS, hN, ← Int.natCast_mul, ← Int.natCast_ediv]
        simp only [Int.natAbs_natCast, Int.toNat_natCast]
      rw [e, ← hq]
      omega
    exact bdraw_frz a s m (dq a s m) g hv (by omega) m2 (fun w => divide_any _ _ _ ⟨by omega, by omega⟩ ⟨by omega, by omega⟩ ⟨by omega, by omega⟩ (by omega) w) ((q_pos hp hqq).1.trans hq.symm) hb.1 (by omega) w hg h0 h1 f0 f1

set_option maxHeartbeats 400000 in
theorem split_bad (a s : Int) (v : Value) (hv : spB a s = false) (w : World) : Calls Try.prog 21 #[.agg #[.int .i64 a, .int .i64 s], v] w (SpPost w [] 2) := by
  have c0 := Lib.hid (sapValid_any a s)
  rw [hv] at c0
  clear hv
  go_enter Try.func21, Try.ntmps21
  go_wp2_with fail
  refine (c0.out _).mono ?_
  rintro e W1 ⟨rfl, hb⟩
  have X0 := cell_next hb (b := w.heap.size) (o := 0) (by simp <;> omega) (v := some (.int .i64 a)) (by simp [go_sem])
  have X1 := cell_next hb (b := w.heap.size) (o := 1) (by simp <;> omega) (v := some (.int .i64 s)) (by simp [go_sem])
  have nX : w.heap.size < W1.heap.size := by have := hb.size; simp at this; omega
  have B0 := cell_next hb (b := w.heap.size + 1) (o := 0) (by simp <;> omega) (v := some (.int .i64 a)) (by simp [go_sem])
  have fB0 := frozen_next hb (b := w.heap.size + 1) (o := 0) (by simp <;> omega) (v := false) (by simp [go_sem])
  have B1 := cell_next hb (b := w.heap.size + 1) (o := 1) (by simp <;> omega) (v := some (.int .i64 s)) (by simp [go_sem])
  have fB1 := frozen_next hb (b := w.heap.size + 1) (o := 1) (by simp <;> omega) (v := false) (by simp [go_sem])
  have nB : w.heap.size + 1 < W1.heap.size := by have := hb.size; simp at this; omega
  have hB := (below2 hb)
  clear hb
  go_wp2_with fail
  go_ret2
  exact ⟨_, rfl, World.ownsRow_nil _ _ _ _, hB⟩

set_option maxHeartbeats 400000 in
theorem split_no (a s r : Int) (v : Value) (ms : List Int) (hv : spB a s = true) (hr : r ≠ 0) (w : World) (c2 : Hid (∀ W : World, Below w.heap.size w W → Calls Try.prog 23 #[.int .i64 (a + s), v] W (ShPost W ms r))) : Calls Try.prog 21 #[.agg #[.int .i64 a, .int .i64 s], v] w (SpPost w [] r) := by
  have c0 := Lib.hid (sapValid_any a s)
  have c1 := Lib.hid (sapMass_any a s hv)
  rw [hv] at c0
  clear hv
  have hre : (r == 0) = false := by simpa using hr
  generalize a + s = t at *
  go_enter Try.func21, Try.ntmps21
  go_wp2_with fail
  refine (c0.out _).mono ?_
  rintro e W1 ⟨rfl, hb⟩
  have X0 := cell_next hb (b := w.heap.size) (o := 0) (by simp <;> omega) (v := some (.int .i64 a)) (by simp [go_sem])
  have X1 := cell_next hb (b := w.heap.size) (o := 1) (by simp <;> omega) (v := some (.int .i64 s)) (by simp [go_sem])
  have nX : w.heap.size < W1.heap.size := by have := hb.size; simp at this; omega
  have B0 := cell_next hb (b := w.heap.size + 1) (o := 0) (by simp <;> omega) (v := some (.int .i64 a)) (by simp [go_sem])
  have fB0 := frozen_next hb (b := w.heap.size + 1) (o := 0) (by simp <;> omega) (v := false) (by simp [go_sem])
  have B1 := cell_next hb (b := w.heap.size + 1) (o := 1) (by simp <;> omega) (v := some (.int .i64 s)) (by simp [go_sem])
  have fB1 := frozen_next hb (b := w.heap.size + 1) (o := 1) (by simp <;> omega) (v := false) (by simp [go_sem])
  have nB : w.heap.size + 1 < W1.heap.size := by have := hb.size; simp at this; omega
  have hB := (below2 hb)
  clear hb
  go_wp2_with fail
  refine (c1.out _).mono ?_
  rintro e W2 ⟨rfl, hb⟩
  replace X0 := cell_next hb nX X0
  replace X1 := cell_next hb nX X1
  replace nX := Nat.lt_of_lt_of_le nX hb.size
  replace B0 := cell_next hb nB B0
  replace fB0 := frozen_next hb nB fB0
  replace B1 := cell_next hb nB B1
  replace fB1 := frozen_next hb nB fB1
  replace nB := Nat.lt_of_lt_of_le nB hb.size
  replace hB := hB.trans (hb.mono hB.size)
  clear hb
  go_wp2_with fail
  refine (c2.out _ hB).mono ?_
  rintro e wS ⟨vm, rfl, hown, hb⟩
  have hB2 := hB.trans (hb.mono hB.size)
  clear hB hb hown
  go_wp2_with fail
  go_ret2
  exact ⟨_, rfl, World.ownsRow_nil _ _ _ _, hB2⟩

set_option maxRecDepth 20000 in
set_option maxHeartbeats 2000000 in
theorem split_ok (a s : Int) (v : Value) (ms : List Int) (hv : spB a s = true) (hms : ∀ m ∈ ms, 0 ≤ m) (hsum : ms.foldl (· + ·) 0 = a + s) (hpos : 0 < ms.length) (hl : ms.length ≤ 1000) (w : World) (c2 : Hid (∀ W : World, Below w.heap.size w W → Calls Try.prog 23 #[.int .i64 (a + s), v] W (ShPost W ms 0))) : Calls Try.prog 21 #[.agg #[.int .i64 a, .int .i64 s], v] w (SpPost w (spF a s ms).2 0) := by
  obtain ⟨j0, hj0, hjz0, hjz1, hjz2⟩ := info_parts infoSapV
  have c0 := Lib.hid (sapValid_any a s)
  have c1 := Lib.hid (sapMass_any a s hv)
  have HST : Hid (∀ k m, ms[k]? = some m → spB (spF a s (ms.take k)).1.1 (spF a s (ms.take k)).1.2 = true ∧ 0 ≤ m ∧ m ≤ (spF a s (ms.take k)).1.1 + (spF a s (ms.take k)).1.2) := Lib.hid fun k m hk => by
    have hkl := (List.getElem?_eq_some_iff.1 hk).1
    have e : ms.foldl (· + ·) 0 = (ms.take k).foldl (· + ·) 0 + (ms.drop k).foldl (· + ·) 0 := by
      conv => lhs; rw [← List.take_append_drop k ms]
      rw [List.foldl_append, sum_acc]
    have e2 : (ms.drop k).foldl (· + ·) 0 = m + (ms.drop (k + 1)).foldl (· + ·) 0 := by
      rw [List.drop_eq_getElem_cons hkl, List.foldl_cons, sum_acc]
      rw [List.getElem?_eq_getElem hkl] at hk
      rw [Option.some.inj hk]
      omega
    have nn : ∀ l : List Int, (∀ x ∈ l, 0 ≤ x) → 0 ≤ l.foldl (· + ·) 0 := by
      intro l
      induction l with
      | nil => intro _; simp
      | cons x l ih => intro h; rw [List.foldl_cons, sum_acc]; have := h x (by simp); have := ih (fun y hy => h y (by simp [hy])); omega
    have n1 := nn (ms.drop (k + 1)) (fun x hx => hms x (List.mem_of_mem_drop hx))
    have hm := hms m (List.mem_of_getElem? hk)
    obtain ⟨i1, i2⟩ := spF_ok a s hv (ms.take k) (fun x hx => hms x (List.mem_of_mem_take hx)) (by omega)
    exact ⟨i1, hm, by omega⟩
  have HLEN := Lib.hid (spF_len a s ms)
  rw [hv] at c0
  clear hv hms hsum
  obtain ⟨n, hn⟩ : ∃ n, ms.length = n := ⟨_, rfl⟩
  have Hn := Lib.hid hn
  have c2' : Hid (∀ W : World, Below w.heap.size w W → Calls Try.prog 23 #[.int .i64 (a + s), v] W fun e w' => ∃ v, e = .returned (.tuple #[v, .int .i64 0]) ∧ w'.ownsRow W.heap.size 3 1 v n (ints ms) ∧ Below W.heap.size W w') := Lib.hid (fun W hW => by have h := c2.out W hW; unfold ShPost at h; rw [hn] at h; exact h)
  rw [hn] at hpos hl
  clear hn c2
  have c2 := c2'
  clear c2'
  obtain ⟨t, ht⟩ : ∃ t, a + s = t := ⟨_, rfl⟩
  rw [ht] at c1 c2
  clear ht
  go_enter Try.func21, Try.ntmps21
  go_wp2_with fail
  refine (c0.out _).mono ?_
  rintro e W1 ⟨rfl, hb⟩
  have X0 := cell_next hb (b := w.heap.size) (o := 0) (by simp <;> omega) (v := some (.int .i64 a)) (by simp [go_sem])
  have X1 := cell_next hb (b := w.heap.size) (o := 1) (by simp <;> omega) (v := some (.int .i64 s)) (by simp [go_sem])
  have nX : w.heap.size < W1.heap.size := by have := hb.size; simp at this; omega
  have B0 := cell_next hb (b := w.heap.size + 1) (o := 0) (by simp <;> omega) (v := some (.int .i64 a)) (by simp [go_sem])
  have fB0 := frozen_next hb (b := w.heap.size + 1) (o := 0) (by simp <;> omega) (v := false) (by simp [go_sem])
  have B1 := cell_next hb (b := w.heap.size + 1) (o := 1) (by simp <;> omega) (v := some (.int .i64 s)) (by simp [go_sem])
  have fB1 := frozen_next hb (b := w.heap.size + 1) (o := 1) (by simp <;> omega) (v := false) (by simp [go_sem])
  have nB : w.heap.size + 1 < W1.heap.size := by have := hb.size; simp at this; omega
  have hB := (below2 hb)
  clear hb
  go_wp2_with fail
  refine (c1.out _).mono ?_
  rintro e W2 ⟨rfl, hb⟩
  replace X0 := cell_next hb nX X0
  replace X1 := cell_next hb nX X1
  replace nX := Nat.lt_of_lt_of_le nX hb.size
  replace B0 := cell_next hb nB B0
  replace fB0 := frozen_next hb nB fB0
  replace B1 := cell_next hb nB B1
  replace fB1 := frozen_next hb nB fB1
  replace nB := Nat.lt_of_lt_of_le nB hb.size
  replace hB := hB.trans (hb.mono hB.size)
  clear hb
  go_wp2_with fail
  refine (c2.out _ hB).mono ?_
  rintro e wS ⟨vm, rfl, hown, hb⟩
  replace B0 := cell_next hb nB B0
  replace B1 := cell_next hb nB B1
  replace fB0 := frozen_next hb nB fB0
  replace fB1 := frozen_next hb nB fB1
  obtain ⟨gm, cm, rfl, hgm1, hgm2, hcm, him⟩ := own_ints' hown hpos
  have hgb : w.heap.size + 1 < gm := by omega
  have hzS := hb.size
  have hB2 := hB.trans (hb.mono hB.size)
  have HIM := Lib.hid him
  clear hB hb hown X0 X1 nX nB him
  go_wp2_with fail

  go_loopw [9, 29] (fun ps i wr => ∃ k : Nat, k ≤ n ∧ i = .int .i64 k ∧ Hid (wr.ownsRow wS.heap.size 28 2 ps k (flat (spF a s (ms.take k)).2)) ∧ wr.cell? ⟨w.heap.size + 1, 0, none⟩ = some (.int .i64 (spF a s (ms.take k)).1.1) ∧ wr.cell? ⟨w.heap.size + 1, 1, none⟩ = some (.int .i64 (spF a s (ms.take k)).1.2) ∧
    wr.frozen? ⟨w.heap.size + 1, 0, none⟩ = false ∧ wr.frozen? ⟨w.heap.size + 1, 1, none⟩ = false ∧ Hid (IntsAt wr gm 0 ms) ∧ wS.heap.size ≤ wr.heap.size ∧ Below w.heap.size w wr) (fun _ i _ => n - (RowKit.intOf i).toNat)
  case atStart => exact ⟨0, Nat.zero_le _, rfl, Lib.hid (World.ownsRow_nil _ _ _ _), B0, B1, fB0, fB1, HIM, Nat.le_refl _, hB2⟩
  case round =>
    clear B0 B1 fB0 fB1 hB2 HIM
    obtain ⟨k, hk, rfl, HOWN, B0, B1, fB0, fB1, HIM, hzr, hbr⟩ := hrel
    by_cases hlt : (k : Int) < (n : Int)
    · obtain ⟨m, hm⟩ : ∃ m, ms[k]? = some m := ⟨_, List.getElem?_eq_getElem (by rw [Hn.out]; omega)⟩
      have cm0 := HIM.out k m hm
      rw [Nat.zero_add] at cm0
      obtain ⟨i1, i2, i3⟩ := HST.out k m hm
      have hD := Lib.hid (bdraw_all _ _ m (w.heap.size + 1) i1 i2 i3 wr (by omega) B0 B1 fB0 fB1)
      have HNX : Hid ((spF a s (ms.take (k + 1))) = spS (spF a s (ms.take k)) m) := Lib.hid (by rw [take_snoc' ms k m hm, spF_snoc])
      have HTL : Hid ((spF a s (ms.take k)).2.length = k) := Lib.hid (by rw [spF_len, List.length_take, Hn.out]; omega)
      generalize hst : spF a s (ms.take k) = st at *
      obtain ⟨⟨x, y⟩, ps⟩ := st
      dsimp only at B0 B1 hD HOWN i1 i3
      generalize hq : dq x y m = q at *
      have HNX2 : Hid ((spF a s (ms.take (k + 1))) = ((x - (m - q), y - q), ps ++ [(m - q, q)])) := Lib.hid (by rw [HNX.out]; show ((x - (m - dq x y m), y - dq x y m), ps ++ [(m - dq x y m, dq x y m)]) = _; rw [hq])
      clear hst hm i1 i2 i3 hq HNX B0 B1 fB0 fB1
      go_wp2_with fail
      refine hD.out.mono ?_
      rintro e w2 ⟨rfl, hg, B0, B1, fB0, fB1⟩
      have hob : ∀ r, u9.ownBlock = some r → wS.heap.size ≤ r ∧ r < wr.heap.size := fun r hr => HOWN.out.lt r hr
      have HOWN2 : Hid (w2.ownsRow wS.heap.size 28 2 u9 k (flat ps)) := Lib.hid (HOWN.out.kept hg (by
        cases hrb : u9.ownBlock with
        | none => exact .inl rfl
        | some r => exact .inr (fun e => by injection e with e; have := hob r hrb; omega)))
      have HIM2 : Hid (IntsAt w2 gm 0 ms) := Lib.hid (fun j z hj => grown_cell hg (by omega) (by omega) (HIM.out j z hj))
      have hz2 := hg.size
      have hb2 := hbr.grown hg hbr.size (fun r hr => by injection hr with hr; omega)
      clear hg hD HOWN HIM hbr cm0
      obtain ⟨pl, pA, pc, rfl⟩ : ∃ (pl : Nat) (pA : Option Addr) (pc : Nat), u9 = Value.slice pA pl pc := by
        rcases HOWN2.out.2 with ⟨rfl, _⟩ | ⟨g, cap, cur, rfl, _⟩
        · exact ⟨_, _, _, rfl⟩
        · exact ⟨_, _, _, rfl⟩
      go_wp2_with (at_builtin; refine wpList_append_own_at _ rfl (.tmp 33) (.tmp 36) 22 rfl wS.heap.size 28 j0 (.agg #[.int .i64 0, .int .i64 0]) 2 16 Try.underlying22 hj0 hjz0 hjz1 hjz2 rfl (by decide) (.slice pA pl pc) k (flat ps) rfl (HOWN2.out.alloc _) ⟨w2.heap.size, 0, none⟩ 1 1 [.int .i64 (m - q), .int .i64 q] rfl rfl ?_ ?_ ?_ ?_ ?_ ?_)
      case refine_1 =>
        intro i u hi
        rcases i with _ | _ | i
        · simp at hi; subst hi; exact (cell_at _ _ _ _ _ (by simp))
        · simp at hi; subst hi; exact (cell_at _ _ _ _ _ (by simp))
        · simp at hi
      case refine_2 => simp [Value.oneCell']
      case refine_3 => unfold maxLen; omega
      case refine_4 => omega
      case refine_5 => simp; omega
      case refine_6 =>
        intro v' w3 hown' hgrow _ hat
        have hz3 := hgrow.size
        simp at hz3
        have hb3 := (hb2.alloc hb2.size (Obj.cells #[Value.int IntKind.i64 (m - q), Value.int IntKind.i64 q] 28)).grown hgrow (by simp; have := hb2.size; omega) (fun r hr => by have := hob r hr; omega)
        have far : ∀ (b o : Nat) (val : Option Value), b < wS.heap.size → w2.cell? ⟨b, o, none⟩ = val → w3.cell? ⟨b, o, none⟩ = val := fun b o val hbl hc =>
          grown_cell' hgrow (by simp; omega) (fun r hr => by have := hob r hr; omega) (by rw [cell_old _ _ _ _ (by omega)]; exact hc)
        have B0' := far (w.heap.size + 1) 0 _ (by omega) B0
        have B1' := far (w.heap.size + 1) 1 _ (by omega) B1
        have HIM3 : Hid (IntsAt w3 gm 0 ms) := Lib.hid (fun j z hj => far gm _ _ (by omega) (HIM2.out j z hj))
        have F0 : w3.frozen? ⟨w.heap.size + 1, 0, none⟩ = false := grown_keepf hgrow (by simp; omega) (fun e => by have := hob _ e; omega) (frozen_next ((Below.refl w2.heap.size w2).alloc (Nat.le_refl _) _) (by omega) fB0)
        have F1 : w3.frozen? ⟨w.heap.size + 1, 1, none⟩ = false := grown_keepf hgrow (by simp; omega) (fun e => by have := hob _ e; omega) (frozen_next ((Below.refl w2.heap.size w2).alloc (Nat.le_refl _) _) (by omega) fB1)
        have HO3 : Hid (w3.ownsRow wS.heap.size 28 2 v' (k + 1) (flat (spF a s (ms.take (k + 1))).2)) := Lib.hid (by
          rw [HNX2.out]
          show w3.ownsRow _ _ 2 v' (k + 1) (flat (ps ++ [(m - q, q)]))
          rw [← flat_snoc]
          exact hown')
        have HB0 : Hid ((spF a s (ms.take (k + 1))).1.1 = x - (m - q) ∧ (spF a s (ms.take (k + 1))).1.2 = y - q) := Lib.hid (by rw [HNX2.out]; exact ⟨rfl, rfl⟩)
        have hz4 : wS.heap.size ≤ w3.heap.size := by omega
        clear hown' hgrow hat far B0 B1 fB0 fB1 hb2 HIM2 HOWN2 hob HNX2
        go_wp2_with fail
        go_roundw
        case rel => exact ⟨k + 1, by omega, by go_num, HO3, by rw [HB0.out.1]; exact B0', by rw [HB0.out.2]; exact B1', F0, F1, HIM3, hz4, hb3⟩
        case measure => simp [RowKit.intOf]; omega
    · obtain rfl : n = k := by omega
      have h := HOWN.out
      rw [List.take_of_length_le (by rw [Hn.out]; exact Nat.le_refl _)] at h
      have hlen : (spF a s ms).2.length = n := by rw [HLEN.out, Hn.out]
      have HF : Hid (wr.ownsRow w.heap.size 28 2 u9 (spF a s ms).2.length (flat (spF a s ms).2)) := Lib.hid (by rw [hlen]; exact own_base h (by omega))
      clear h HOWN B0 B1 fB0 fB1 hlen
      go_wp2_with fail
      go_ret2
      exact ⟨_, rfl, HF.out, hbr⟩

theorem split_all (a s : Int) (ws : List Int) (v : Value) (w : World) (hl : ws.length ≤ 1000) (hv : NumsAt w.heap.size w v ws) : Calls Try.prog 21 #[.agg #[.int .i64 a, .int .i64 s], v] w (SpPost w (spV a s ws) (spE a s ws)) := by
  have hN : ∀ W : World, Below w.heap.size w W → NumsAt W.heap.size W v ws := fun W hW => (hv.below hW (Nat.le_refl _)).mono hW.size
  cases hb : spB a s with
  | false =>
    have e : spE a s ws = 2 := by unfold spE; rw [if_neg (by simp [hb])]
    have e2 : spV a s ws = [] := by unfold spV; rw [if_neg (by rw [e]; decide)]
    rw [e, e2]; exact split_bad a s v hb w
  | true =>
    have e : spE a s ws = shE (a + s) ws := by unfold spE; rw [if_pos hb]
    by_cases h0 : shE (a + s) ws = 0
    · have e2 : spV a s ws = (spF a s (shV (a + s) ws)).2 := by unfold spV; rw [if_pos (by rw [e]; exact h0)]
      obtain ⟨s1, s2⟩ := shV_sum _ _ h0
      have hlen := shV_len _ _ h0
      have hne : 0 < ws.length := by
        obtain ⟨_, _, _, _, h5⟩ := shE_ok h0
        rcases ws with _ | ⟨z, ws⟩
        · simp [wtSum] at h5
        · simp
      rw [e2, e, h0]
      exact split_ok a s v _ hb s2 s1 (by omega) (by omega) w (Lib.hid (fun W hW => by have h := share_any (a + s) ws v W hl (hN W hW); rw [h0] at h; exact h))
    · have e2 : spV a s ws = [] := by unfold spV; rw [if_neg (by rw [e]; exact h0)]
      rw [e2, e]
      exact split_no a s _ v (shV (a + s) ws) hb h0 w (Lib.hid (fun W hW => share_any (a + s) ws v W hl (hN W hW)))
end Go.Proofs.Ytclnfncdphfgjaa
