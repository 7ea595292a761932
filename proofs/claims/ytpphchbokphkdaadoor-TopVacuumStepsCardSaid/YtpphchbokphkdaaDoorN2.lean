/- Contracts: whether pipes and tubing are valid. -/
import Derived.Test.YtpphchbokphkdaaDoorN1
import Derived.Test.YtpphchbokphkdaaDoorQ2
namespace Go.Proofs.YtpphchbokphkdaaDoor
open Go.RowKit Go.Lib Go.Shelf
set_option linter.unusedVariables false
set_option linter.unusedSimpArgs false
attribute [local go_sem ↓] Go.wp_at_zero Go.wp_at_succ

def Pp.vs (p : Pp) : List Value := [.int .i64 p.pa, .int .i64 p.ln, .int .i64 p.bo, .int .i64 p.dr, .int .i64 p.ta]
def Pp.val (p : Pp) : Value := .agg #[.int .i64 p.pa, .int .i64 p.ln, .int .i64 p.bo, .int .i64 p.dr, .int .i64 p.ta]
/-- the pipes ps lie one after another in block g, from off on -/
def PRd (w : World) (g off : Nat) (ps : List Pp) : Prop :=
  ∀ k p, ps[k]? = some p → w.cell? ⟨g, off + k * 5, none⟩ = some (.int .i64 p.pa) ∧ w.cell? ⟨g, off + k * 5 + 1, none⟩ = some (.int .i64 p.ln) ∧ w.cell? ⟨g, off + k * 5 + 2, none⟩ = some (.int .i64 p.bo) ∧ w.cell? ⟨g, off + k * 5 + 3, none⟩ = some (.int .i64 p.dr) ∧ w.cell? ⟨g, off + k * 5 + 4, none⟩ = some (.int .i64 p.ta)
theorem PRd.below {w w' : World} {B g off : Nat} {ps : List Pp} (h : PRd w g off ps) (hb : Below B w w') (hg : g < B) : PRd w' g off ps := fun k p hp => by
  obtain ⟨h0, h1, h2, h3, h4⟩ := h k p hp
  exact ⟨cell_next hb hg h0, cell_next hb hg h1, cell_next hb hg h2, cell_next hb hg h3, cell_next hb hg h4⟩
/-- a slice value that reads as pipes, and has room for them -/
def PipesAt (B : Nat) (w : World) (v : Value) (ps : List Pp) : Prop :=
  ∃ A c, v = .slice A ps.length c ∧ ps.length ≤ c ∧ (0 < ps.length → ∃ g off, A = some ⟨g, off, none⟩ ∧ g < B ∧ PRd w g off ps)
theorem PipesAt.below {B B' : Nat} {w w' : World} {v : Value} {ps : List Pp} (h : PipesAt B w v ps) (hb : Below B' w w') (hB : B ≤ B') : PipesAt B w' v ps := by
  obtain ⟨A, c, rfl, hc, h⟩ := h
  refine ⟨A, c, rfl, hc, fun hn => ?_⟩
  obtain ⟨g, off, rfl, hg, hr⟩ := h hn
  exact ⟨g, off, rfl, hg, hr.below hb (by omega)⟩
theorem PipesAt.mono {B B' : Nat} {w : World} {v : Value} {ps : List Pp} (h : PipesAt B w v ps) (hB : B ≤ B') : PipesAt B' w v ps := by
  obtain ⟨A, c, rfl, hc, h⟩ := h
  refine ⟨A, c, rfl, hc, fun hn => ?_⟩
  obtain ⟨g, off, rfl, hg, hr⟩ := h hn
  exact ⟨g, off, rfl, by omega, hr⟩
/-- the package's variable, as it is laid -/
def Gp (w : World) : Prop := 0 < w.heap.size ∧ w.cell? ⟨0, 0, none⟩ = some (.int .i64 (-1)) ∧ w.cell? ⟨0, 1, none⟩ = some (.int .i64 0) ∧ w.cell? ⟨0, 2, none⟩ = some (.int .i64 0) ∧ w.cell? ⟨0, 3, none⟩ = some (.int .i64 0) ∧ w.cell? ⟨0, 4, none⟩ = some (.int .i64 0)
theorem Gp.below {w w' : World} {B : Nat} (h : Gp w) (hb : Below B w w') (hB : w.heap.size ≤ B) : Gp w' := by
  obtain ⟨h, h0, h1, h2, h3, h4⟩ := h
  exact ⟨Nat.lt_of_lt_of_le h hb.size, cell_next hb (by omega) h0, cell_next hb (by omega) h1, cell_next hb (by omega) h2, cell_next hb (by omega) h3, cell_next hb (by omega) h4⟩

set_option maxHeartbeats 400000 in
theorem in_any (n a b : Int) (w : World) :
    Calls Tryd.prog 25 #[.int .i64 n, .int .i64 a, .int .i64 b] w fun e w' => e = .returned (.bool (decide (a ≤ n) && decide (n ≤ b))) ∧ w = w' := by
  by_cases h1 : a ≤ n <;> by_cases h2 : n ≤ b
  all_goals
    go_enter Tryd.func25, Tryd.ntmps25
    go_wp2
    go_ret
    exact ⟨by simp [*], rfl⟩

set_option maxHeartbeats 1000000 in
theorem validPipe_any (p : Pp) (k : Int) (w : World) :
    Calls Tryd.prog 24 #[p.val, .int .i64 k] w fun e w' => e = .returned (.bool (pvB p k)) ∧ Below w.heap.size w w' := by
  have c1 := Lib.hid (in_any p.pa 0 k)
  have c2 := Lib.hid (in_any p.ln 1 100000)
  have c3 := Lib.hid (in_any p.bo 4 80)
  have c4 := Lib.hid (in_any p.dr (-10000) 10000)
  have c5 := Lib.hid (in_any p.ta 0 1000)
  unfold Pp.val pvB
  obtain ⟨b1, e1⟩ : ∃ b, (decide (0 ≤ p.pa) && decide (p.pa ≤ k)) = b := ⟨_, rfl⟩
  obtain ⟨b2, e2⟩ : ∃ b, (decide (1 ≤ p.ln) && decide (p.ln ≤ 100000)) = b := ⟨_, rfl⟩
  obtain ⟨b3, e3⟩ : ∃ b, (decide (4 ≤ p.bo) && decide (p.bo ≤ 80)) = b := ⟨_, rfl⟩
  obtain ⟨b4, e4⟩ : ∃ b, (decide (-10000 ≤ p.dr) && decide (p.dr ≤ 10000)) = b := ⟨_, rfl⟩
  obtain ⟨b5, e5⟩ : ∃ b, (decide (0 ≤ p.ta) && decide (p.ta ≤ 1000)) = b := ⟨_, rfl⟩
  rw [e1, e2, e3, e4, e5]
  rw [e1] at c1
  rw [e2] at c2
  rw [e3] at c3
  rw [e4] at c4
  rw [e5] at c5
  clear e1 e2 e3 e4 e5
  cases b1
  · go_enter Tryd.func24, Tryd.ntmps24
    go_wp2_with (first | (refine (c1.out _).mono ?_; rintro e w' ⟨rfl, rfl⟩))
    go_ret
    exact ⟨by simp, (Below.refl _ _).alloc (Nat.le_refl _) _⟩
  cases b2
  · go_enter Tryd.func24, Tryd.ntmps24
    go_wp2_with fail
    refine (c1.out _).mono ?_; rintro e w' ⟨rfl, rfl⟩
    go_wp2_with fail
    refine (c2.out _).mono ?_; rintro e w' ⟨rfl, rfl⟩
    go_wp2_with fail
    go_ret
    exact ⟨by simp, (Below.refl _ _).alloc (Nat.le_refl _) _⟩
  cases b3
  · go_enter Tryd.func24, Tryd.ntmps24
    go_wp2_with fail
    refine (c1.out _).mono ?_; rintro e w' ⟨rfl, rfl⟩
    go_wp2_with fail
    refine (c2.out _).mono ?_; rintro e w' ⟨rfl, rfl⟩
    go_wp2_with fail
    refine (c3.out _).mono ?_; rintro e w' ⟨rfl, rfl⟩
    go_wp2_with fail
    go_ret
    exact ⟨by simp, (Below.refl _ _).alloc (Nat.le_refl _) _⟩
  cases b4
  · go_enter Tryd.func24, Tryd.ntmps24
    go_wp2_with fail
    refine (c1.out _).mono ?_; rintro e w' ⟨rfl, rfl⟩
    go_wp2_with fail
    refine (c2.out _).mono ?_; rintro e w' ⟨rfl, rfl⟩
    go_wp2_with fail
    refine (c3.out _).mono ?_; rintro e w' ⟨rfl, rfl⟩
    go_wp2_with fail
    refine (c4.out _).mono ?_; rintro e w' ⟨rfl, rfl⟩
    go_wp2_with fail
    go_ret
    exact ⟨by simp, (Below.refl _ _).alloc (Nat.le_refl _) _⟩
  · go_enter Tryd.func24, Tryd.ntmps24
    go_wp2_with fail
    refine (c1.out _).mono ?_; rintro e w' ⟨rfl, rfl⟩
    go_wp2_with fail
    refine (c2.out _).mono ?_; rintro e w' ⟨rfl, rfl⟩
    go_wp2_with fail
    refine (c3.out _).mono ?_; rintro e w' ⟨rfl, rfl⟩
    go_wp2_with fail
    refine (c4.out _).mono ?_; rintro e w' ⟨rfl, rfl⟩
    go_wp2_with fail
    refine (c5.out _).mono ?_; rintro e w' ⟨rfl, rfl⟩
    go_wp2_with fail
    go_ret
    exact ⟨by simp, (Below.refl _ _).alloc (Nat.le_refl _) _⟩

/-- the program's comparison of two pipes -/
def ppEq (p q : Pp) : Bool := decide (p.pa = q.pa) && decide (p.ln = q.ln) && decide (p.bo = q.bo) && decide (p.dr = q.dr) && decide (p.ta = q.ta)
theorem ppEq_of {p q : Pp} (h : ppEq p q = true) : p = q := by
  cases p; cases q; simp [ppEq] at h; simp; omega
theorem ppEq_self (p : Pp) : ppEq p p = true := by simp [ppEq]
theorem run_neq_pipe (p q : Pp) (w : World) : (binOp .neq 36 p.val q.val).run Tryd.prog w = .ok (.bool (!ppEq p q)) w := by
  unfold Pp.val ppEq
  rw [run_neq_struct]
  simp [go_sem]
  by_cases h1 : p.pa = q.pa <;> by_cases h2 : p.ln = q.ln <;> by_cases h3 : p.bo = q.bo <;> by_cases h4 : p.dr = q.dr <;> by_cases h5 : p.ta = q.ta <;> simp [*]

/-- whether tubing is valid -/
def netB (pump : Int) (ps : List Pp) : Bool := (decide (1 ≤ (ps.length : Int)) && decide ((ps.length : Int) ≤ 60)) && (decide (0 ≤ pump) && decide (pump ≤ 10000)) && ppEq (ps.getD 0 p0) p0 && (List.range (ps.length - 1)).all fun i => pvB (ps.getD (i + 1) p0) i
def netE (pump : Int) (ps : List Pp) : Int := if netB pump ps then 0 else 2
theorem netB_of {pump : Int} {ps : List Pp} (h : netB pump ps = true) : netOk pump ps := by
  simp [netB] at h
  obtain ⟨⟨⟨h1, h2⟩, h3⟩, h4⟩ := h
  exact ⟨by omega, h2, by rw [List.getD_eq_getElem?_getD]; exact ppEq_of h3, fun i hi => by rw [List.getD_eq_getElem?_getD]; exact h4 i (by omega)⟩
theorem netB_no {pump : Int} {ps : List Pp} (i : Nat) (hi : i < ps.length - 1) (h : pvB (ps.getD (i + 1) p0) i = false) : netB pump ps = false := by
  rw [Bool.eq_false_iff]
  intro hn
  have := (netB_of hn).2.2.2 i (by omega)
  rw [this] at h
  cases h
/-- the first m nodes behind the pump are valid -/
def pvsB (ps : List Pp) (m : Nat) : Bool := (List.range m).all fun i => pvB (ps.getD (i + 1) p0) i
theorem pvsB_succ (ps : List Pp) (m : Nat) : pvsB ps (m + 1) = (pvsB ps m && pvB (ps.getD (m + 1) p0) m) := by
  unfold pvsB; rw [List.range_succ, List.all_append]; simp
theorem getD_of {α : Type} {xs : List α} {k : Nat} {d p : α} (h : xs[k]? = some p) : xs.getD k d = p := by rw [List.getD_eq_getElem?_getD, h]; rfl
theorem getElem?_getD {α : Type} {xs : List α} {k : Nat} (d : α) (h : k < xs.length) : xs[k]? = some (xs.getD k d) := by rw [List.getD_eq_getElem?_getD, List.getElem?_eq_getElem h]; rfl
theorem quiet_left {P : Program} {f : FuncId} {args : Array Value} {w : World} {n : Nat} {v : Value}
    (h : Calls P f args (w.drewN n) fun e w' => e = .returned v ∧ w.drewN n = w') : Calls P f args (w.drewN n) fun e w'' => e = .returned v ∧ ∃ m, w'' = w.drewN m :=
  h.mono fun _ _ ⟨he, hm⟩ => ⟨he, n, hm.symm⟩
end Go.Proofs.YtpphchbokphkdaaDoor
