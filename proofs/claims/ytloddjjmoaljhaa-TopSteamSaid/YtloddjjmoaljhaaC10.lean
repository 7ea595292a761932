/- Contracts: how much water must go off, and how much can be added; the concentration. -/
import Derived.Test.YtloddjjmoaljhaaC9
namespace Go.Proofs.Ytloddjjmoaljhaa
open Go.RowKit Go.Lib Go.Shelf
set_option linter.unusedVariables false
set_option linter.unusedSimpArgs false
attribute [local go_sem ↓] Go.wp_at_zero Go.wp_at_succ

/-- since w nothing below has turned, and block b is there -/
def Kq (b : Nat) (w w' : World) : Prop := Below w.heap.size w w' ∧ b < w'.heap.size
theorem keepq {w W W' : World} {b : Nat} {x y : Option Value} (hb : Below W.heap.size W W') (h : W.cell? ⟨b, 0, none⟩ = x ∧ W.cell? ⟨b, 1, none⟩ = y ∧ Kq b w W) :
    W'.cell? ⟨b, 0, none⟩ = x ∧ W'.cell? ⟨b, 1, none⟩ = y ∧ Kq b w W' := by
  obtain ⟨h1, h2, h3, h4⟩ := h
  exact ⟨cell_next hb h4 h1, cell_next hb h4 h2, h3.trans (hb.mono h3.size), Nat.lt_of_lt_of_le h4 hb.size⟩

theorem cbE_ok {a s brix : Int} (h : cbE a s brix = 0) : spB a s = true ∧ 1 ≤ brix ∧ brix ≤ 10000 ∧ s ≠ 0 := by
  unfold cbE at h
  split at h
  · rename_i hs
    split at h
    · omega
    · split at h
      · omega
      · exact ⟨hs, by omega, by omega, by assumption⟩
  · omega

def boilW (a s brix : Int) : Int := if cbE a s brix = 0 then max 0 (a + s - s * 10000 / brix) else 0
def boilE (a s brix : Int) : Int := cbE a s brix

set_option maxRecDepth 20000 in
set_option maxHeartbeats 400000 in
theorem boil_any (a s brix : Int) (w : World) :
    Calls Try.prog 12 #[.agg #[.int .i64 a, .int .i64 s], .int .i64 brix] w fun e w' => e = .returned (.tuple #[.int .i64 (boilW a s brix), .int .i64 (boilE a s brix)]) ∧ Below w.heap.size w w' := by
  have c1 := Lib.hid (checkBrix_any a s brix)
  have eW : Hid (boilW a s brix = if cbE a s brix = 0 then max 0 (a + s - s * 10000 / brix) else 0) := Lib.hid rfl
  have eE : Hid (boilE a s brix = cbE a s brix) := Lib.hid rfl
  generalize boilW a s brix = rw_ at *
  generalize boilE a s brix = re at *
  have c2 : Hid (cbE a s brix = 0 → ∀ w, Calls Try.prog 21 #[.agg #[.int .i64 a, .int .i64 s]] w fun e w' => e = .returned (.int .i64 (a + s)) ∧ Below w.heap.size w w') := fun h w => sapMass_any a s (cbE_ok h).1 w
  have c3 : Hid (cbE a s brix = 0 → ∀ w, Calls Try.prog 33 #[.agg #[.int .i64 a, .int .i64 s], .int .i64 brix] w fun e w' => e = .returned (.int .i64 (s * 10000 / brix)) ∧ Below w.heap.size w w') := fun h w => by
    obtain ⟨h1, h2, h3, h4⟩ := cbE_ok h
    have := spB_of h1
    exact massAt_any a s brix (by omega) (by omega) h2 h3 w
  have hbd : cbE a s brix = 0 → 0 ≤ a + s ∧ a + s ≤ 2000000000000 ∧ 0 ≤ s * 10000 / brix ∧ s * 10000 / brix ≤ 10000000000000000 := fun h => by
    obtain ⟨h1, h2, h3, h4⟩ := cbE_ok h
    have := spB_of h1
    obtain ⟨_, _, p, q⟩ := massAt_q s brix (by omega) (by omega) h2 h3
    exact ⟨by omega, by omega, p, q⟩
  generalize cbE a s brix = r at *
  generalize s * 10000 / brix = q at *
  generalize a + s = m at *
  by_cases hr : r = 0
  · subst hr
    obtain ⟨m1, m2, q1, q2⟩ := hbd rfl
    have d2 := Lib.hid (c2.out rfl)
    have d3 := Lib.hid (c3.out rfl)
    clear hbd c2 c3
    go_enter Try.func12, Try.ntmps12
    go_wp2_with fail
    refine (c1.out _).mono ?_
    rintro e w1 ⟨rfl, hb1⟩
    have hS : w1.cell? ⟨w.heap.size + 1, 0, none⟩ = some (.int .i64 a) ∧ w1.cell? ⟨w.heap.size + 1, 1, none⟩ = some (.int .i64 s) ∧ Kq (w.heap.size + 1) w w1 :=
      ⟨cell_next hb1 (by simp) (by simp [go_sem]), cell_next hb1 (by simp) (by simp [go_sem]), below2 hb1, by have := hb1.size; simp at this; omega⟩
    clear hb1
    obtain ⟨s0, s1, k⟩ := hS
    go_wp2_with fail
    have hwr : IntKind.i64.wrap (m - q) = m - q := IntWalk.i64_in _ (by omega)
    have hS := And.intro s0 (And.intro s1 k)
    clear s0 s1 k
    go_region_held3 (fun w' => w'.cell? ⟨w.heap.size + 1, 0, none⟩ = some (.int .i64 a) ∧ w'.cell? ⟨w.heap.size + 1, 1, none⟩ = some (.int .i64 s) ∧ Kq (w.heap.size + 1) w w')
      (first | exact keepq (Below.drew (Below.refl _ _)) (by assumption) | exact keepq hb6 (by assumption) | exact keepq hb5 (by assumption) | assumption)
      (first
        | (go_at_call 21; (with_reducible refine (d2.out _).mono ?_); rintro e w5 ⟨rfl, hb5⟩)
        | (go_at_call 33; (with_reducible refine (d3.out _).mono ?_); rintro e w6 ⟨rfl, hb6⟩))
    all_goals
      have hk := (‹_ ∧ _ ∧ Kq _ _ _›).2.2.1
      clear hwr
      go_wp2_with fail
      all_goals
        go_ret2
        refine ⟨ret_ints2 ?_ eE.out.symm, hk⟩
        have e := eW.out
        simp only [if_true] at e
        omega
  · have hrb : (r != 0) = true := by simp [hr]
    rw [if_neg hr] at eW
    have hr' := Lib.hid hr
    clear hr c2 c3 hbd
    go_enter Try.func12, Try.ntmps12
    go_wp2_with fail
    refine (c1.out _).mono ?_
    rintro e w1 ⟨rfl, hb1⟩
    have hB := below2 hb1
    clear hb1
    go_wp2_with fail
    go_ret2
    exact ⟨ret_ints2 eW.out.symm eE.out.symm, hB⟩

/-- what Thin returns -/
def thinM (a s brix : Int) : Int := s * 10000 / brix - (a + s)
def thinE (a s brix : Int) : Int := if cbE a s brix = 0 then (if thinM a s brix < 0 then 7 else if 1000000000000 < a + thinM a s brix then 10 else 0) else cbE a s brix
def thinW (a s brix : Int) : Int := if thinE a s brix = 0 then thinM a s brix else 0

end Go.Proofs.Ytloddjjmoaljhaa

