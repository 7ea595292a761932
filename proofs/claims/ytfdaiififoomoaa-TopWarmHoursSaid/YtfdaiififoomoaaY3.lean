/- Plain helpers and small contracts for TopWarmHours. -/
import Derived.Test.YtfdaiififoomoaaY2
import Derived.Test.YtfdaiififoomoaaJB22
import Derived.Test.YtfdaiififoomoaaU8
import Derived.Test.YtfdaiififoomoaaJB23
namespace Go.Proofs.Ytfdaiififoomoaa
open Go.RowKit Go.Lib Go.Shelf
set_option linter.unusedVariables false
set_option linter.unusedSimpArgs false
attribute [local go_sem ↓] Go.wp_at_zero Go.wp_at_succ

theorem meetVat_any (w : World) : Calls Try.prog 16 #[] w fun e w' => ∃ v, e = .returned (.agg #[v, .int .i64 1000, .int .i64 1, .int .i64 2]) ∧ SetAt w'.heap.size w' v kRows ∧ Below w.heap.size w w' := by
  go_enter Try.func16, Try.ntmps16
  go_wp2_with fail
  refine bodyPost_ret (v := .agg #[.slice (some ⟨w.heap.size + 1, 0, none⟩) 3 3, .int .i64 1000, .int .i64 1, .int .i64 2]) (by simp [results, Try.results16, go_sem]) rfl ⟨_, rfl, ⟨_, 3, rfl, fun _ => ⟨w.heap.size + 1, 0, rfl, by simp, ?_⟩⟩, below_al2 w _ _⟩
  intro k p hp
  rcases k with _ | _ | _ | k
  all_goals simp [kRows] at hp
  all_goals (subst hp; simp [go_sem])


set_option maxHeartbeats 400000 in
theorem meetThaw_any (w : World) : Calls Try.prog 19 #[] w fun e w' => e = .returned (.agg (cRu ⟨-10, 20, 2, 8, 1, 3, 2, 500, 800, 1⟩)) ∧ Below w.heap.size w w' := by
  go_enter Try.func19, Try.ntmps19
  go_wp2_with fail
  exact bodyPost_ret (v := .agg (cRu ⟨-10, 20, 2, 8, 1, 3, 2, 500, 800, 1⟩)) (by simp [results, Try.results19, go_sem, cRu]) rfl ⟨rfl, by first | exact (Below.refl _ _).alloc (Nat.le_refl _) _ | exact ((Below.refl _ _).alloc (Nat.le_refl _) _).setCell (Nat.le_refl _) _⟩

/-- the temperatures of an hour, of two bytes -/
def tL (p : Int × Int) : Int := min p.1 p.2 % 200
def tH (p : Int × Int) : Int := tL p + max p.1 p.2 % (201 - tL p)
def tP (p : Int × Int) : Int × Int := (tL p, tH p)
def B8 (p : Int × Int) : Prop := (0 ≤ p.1 ∧ p.1 ≤ 255) ∧ 0 ≤ p.2 ∧ p.2 ≤ 255
def c8 (p : Int × Int) : List Value := [.int .u8 p.1, .int .u8 p.2]
theorem tP_in {p : Int × Int} (h : B8 p) : 0 ≤ tL p ∧ tL p ≤ 199 ∧ 0 ≤ max p.1 p.2 % (201 - tL p) ∧ tL p ≤ tH p ∧ tH p ≤ 200 := by
  obtain ⟨⟨h1, h2⟩, h3, h4⟩ := h
  have m1 := Int.emod_nonneg (min p.1 p.2) (show (200 : Int) ≠ 0 by omega)
  have m2 := Int.emod_lt_of_pos (min p.1 p.2) (show (0 : Int) < 200 by omega)
  unfold tH
  have e : tL p = min p.1 p.2 % 200 := rfl
  rw [← e] at m1 m2
  generalize tL p = q at *
  have m3 := Int.emod_nonneg (max p.1 p.2) (show (201 - q : Int) ≠ 0 by omega)
  have m4 := Int.emod_lt_of_pos (max p.1 p.2) (show (0 : Int) < 201 - q by omega)
  omega
theorem hu_one (p q : Int) (h : vrB p q = true) : huL [(p, q)] = p ∧ huH [(p, q)] = q := by
  have h0 : chkS [(p, q)] = 0 := by
    unfold chkS
    have h1 : chkL [(p, q)] = 0 := by simp [chkL, vrsB, h]
    rw [if_pos h1]
    simp
  unfold huL huH
  rw [if_pos h0, if_pos h0]
  simp [hullP]
/-- what a tank with one lot tells -/
theorem tell_one {sz : Int} {c tk cap base : Nat} {vb : Nat → Nat} {T p1 p2 fl fh : Int} {gv V0 : Value} {lo hi : Int} {q1 q2 : Bool} {W : World} (h : St1 sz c tk cap vb base T p1 p2 fl fh gv V0 [⟨970, 30, lo, hi, 0⟩] W) (hT : 0 ≤ T ∧ T ≤ 1000000) (hl : 0 ≤ lo ∧ lo ≤ hi ∧ hi ≤ 1000000) (h1 : decide (1000 ≤ hi) = q1) (h2 : decide (1000 ≤ lo) = q2) :
    Calls Try.prog 13 #[.pointer (some ⟨c, 0, none⟩), .int .i64 0] W fun e w' =>
      e = .returned (.tuple #[.agg #[.int .i64 970, .int .i64 30, .int .i64 1, .int .i64 lo, .int .i64 hi, .int .i64 T, .int .i64 T, .int .i64 fl, .int .i64 fh, .int .i64 (if q1 then 1 else 0), .int .i64 (if q2 then 1 else 0)], .int .i64 0]) ∧ Below W.heap.size W w' := by
  have key := tell_st1 h (by intro x hx; simp at hx; subst hx; exact ⟨⟨by simp, by simp, by simp, by simp⟩, by simp, by simp⟩) (by simp) hT
  have e1 := hu_one lo hi (by simp [vrB]; omega)
  have e2 := hu_one T T (by simp [vrB]; omega)
  have e3 : ([⟨970, 30, lo, hi, 0⟩] : List Lo).map gm = [(lo, hi)] := rfl
  have e4 : ([⟨970, 30, lo, hi, 0⟩] : List Lo).map (ag T) = [(T, T)] := by simp [ag]
  have e5 : cntL (fun l => decide (1000 ≤ l.hi)) [⟨970, 30, lo, hi, 0⟩] = if q1 then 1 else 0 := by subst h1; simp [cntL, List.filter_cons]; split <;> simp
  have e6 : cntL (fun l => decide (1000 ≤ l.lo)) [⟨970, 30, lo, hi, 0⟩] = if q2 then 1 else 0 := by subst h2; simp [cntL, List.filter_cons]; split <;> simp
  have e7 : lotSum [⟨970, 30, lo, hi, 0⟩] = (970, 30) := rfl
  rw [e3, e4, e5, e6, e7, e1.1, e1.2, e2.1, e2.2] at key
  exact key
theorem ki_facts {a b : Int} (h : a ≤ b) : ∃ (m : Nat) (z0 z1 : Int), (kiL 100 100 a b).length = m + 1 ∧ m ≤ 2 ∧ (kiL 100 100 a b)[0]? = some z0 ∧ (kiL 100 100 a b)[m]? = some z1 ∧ (z1 = 1 → b < 100) ∧ (z0 = 3 → 100 < a) := by
  unfold kiL kiB
  by_cases h1 : a < 100 <;> by_cases h2 : a ≤ 100 <;> by_cases h3 : 100 ≤ b <;> by_cases h4 : 100 < b <;> simp only [h1, h2, h3, h4, decide_true, decide_false, if_true, if_false, and_true, and_false, true_and, false_and, Bool.false_eq_true, List.nil_append, List.append_nil] <;> first
    | (exfalso; omega)
    | exact ⟨0, _, _, rfl, by omega, rfl, rfl, by omega, by omega⟩
    | exact ⟨1, _, _, rfl, by omega, rfl, rfl, by omega, by omega⟩
    | exact ⟨2, _, _, rfl, by omega, rfl, rfl, by omega, by omega⟩
theorem fst_no {f : Nat → Bool} {k : Nat} (h : f k = false) : fstI f (k + 1) = fstI f k := by
  by_cases h0 : 0 ≤ fstI f k
  · exact fstI_keep h0
  · exact fstI_miss (by omega) h
theorem kL_step (hs : List (Int × Int)) (s : Int × Int) (k : Nat) {a b : Int} (h : hs[k]? = some (a, b)) : (kL kRows hs s (k + 1)) = (min 1000000 ((kL kRows hs s k).1 + 1 * (vlR kRows a b).1), min 1000000 ((kL kRows hs s k).2 + 1 * (vlR kRows a b).2)) := by
  show (let p := hs.getD k (0, 0); (min 1000000 ((kL kRows hs s k).1 + 1 * (vlR kRows p.1 p.2).1), min 1000000 ((kL kRows hs s k).2 + 1 * (vlR kRows p.1 p.2).2))) = _
  simp [List.getD, h]
theorem kL_ord (hs : List (Int × Int)) (hb : HrB hs) {s u : Int × Int} (h : 0 ≤ u.1 ∧ u.1 ≤ s.1 ∧ s.1 ≤ s.2 ∧ s.2 ≤ 1000000 ∧ u.2 = s.2) : ∀ k, k ≤ hs.length → 0 ≤ (kL kRows hs u k).1 ∧ (kL kRows hs u k).1 ≤ (kL kRows hs s k).1 ∧ (kL kRows hs s k).1 ≤ (kL kRows hs s k).2 ∧ (kL kRows hs s k).2 ≤ 1000000
  | 0, _ => by unfold kL; omega
  | k + 1, hk => by
    have ih := kL_ord hs hb h k (by omega)
    obtain ⟨⟨a, b⟩, hp⟩ : ∃ p, hs[k]? = some p := ⟨_, List.getElem?_eq_getElem (by omega)⟩
    have hm := hb _ (List.mem_of_getElem? hp)
    have hR := (kR_is hm.1 hm.2.1 hm.2.2).2
    rw [kL_step hs u k hp, kL_step hs s k hp]
    dsimp only at hR ⊢
    omega

theorem pour_one {sz : Int} {c tk cap base : Nat} {vb : Nat → Nat} {gv : Value} {W : World} (F : Fx1 c tk vb base) (h : St1 sz c tk cap vb base 0 0 0 0 0 gv (.slice none 0 0) [] W) (hsz : 1000 ≤ sz) (lo hi : Int) (hl : 0 ≤ lo ∧ lo ≤ hi ∧ hi ≤ 1000000) :
    Calls Try.prog 8 #[.pointer (some ⟨c, 0, none⟩), .int .i64 0, .agg #[.int .i64 970, .int .i64 30], .agg #[.int .i64 lo, .int .i64 hi]] W fun e W' => e = .returned (.int .i64 0) ∧ ∃ V', St1 sz c tk cap vb base 0 970 30 0 0 gv V' [⟨970, 30, lo, hi, 0⟩] W' ∧ (∀ g, V'.ownBlock = some g → W.heap.size ≤ g) ∧ Below c W W' := by
  have hlot : lotB ⟨970, 30, lo, hi, 0⟩ = true := by simp [lotB, spB, rgB, inB]; omega
  refine (pour_st1 F h ⟨970, 30, lo, hi, 0⟩ rfl (by intro x hx; cases hx) (by simp) hlot (by simp [lotSum, saps, suU]; omega) (by decide) (by simp [spB])).mono ?_
  rintro e W' ⟨rfl, V', hS, ho, hk, hb⟩
  refine ⟨rfl, V', ?_, ?_, hb⟩
  · have e1 : ([] ++ [raise 0 0 ⟨970, 30, lo, hi, 0⟩] : List Lo) = [⟨970, 30, lo, hi, 0⟩] := by
      simp only [raise, List.nil_append]
      rw [Int.max_eq_left (by omega), Int.max_eq_left (by omega)]
    rw [e1] at hS
    exact hS
  · intro g hg
    rcases ho with h1 | ⟨g', h1, h2⟩
    · rw [h1] at hg; cases hg
    · rw [h1] at hg
      injection hg with hg
      omega
theorem stay_one {sz : Int} {c tk cap base : Nat} {vb : Nat → Nat} {T fl fh lo hi : Int} {gv V0 : Value} {W : World} (F : Fx1 c tk vb base) (h : St1 sz c tk cap vb base T 970 30 fl fh gv V0 [⟨970, 30, lo, hi, 0⟩] W) (a b gl gh : Int) (hab : 0 ≤ a ∧ a ≤ b ∧ b ≤ 200) (hR : vlR kRows a b = (gl, gh))
    (hl : 0 ≤ lo ∧ lo ≤ hi ∧ hi ≤ 1000000) (hf : (0 ≤ fl ∧ fl ≤ 1000000) ∧ 0 ≤ fh ∧ fh ≤ 1000000) (hT : 0 ≤ T ∧ T ≤ 1000) :
    Calls Try.prog 12 #[.pointer (some ⟨c, 0, none⟩), .int .i64 1, .agg #[.int .i64 a, .int .i64 b]] W fun e W' => e = .returned (.int .i64 0) ∧ ∃ fl' fh', ((0 ≤ fl' ∧ fl' ≤ 1000000) ∧ 0 ≤ fh' ∧ fh' ≤ 1000000) ∧ St1 sz c tk cap vb base (T + 1) 970 30 fl' fh' gv V0 [⟨970, 30, min 1000000 (lo + 1 * gl), min 1000000 (hi + 1 * gh), 0⟩] W' ∧ Kept (Cu c vb V0) W W' ∧ Below c W W' := by
  have hg := (kR_is hab.1 hab.2.1 hab.2.2).2
  rw [hR] at hg
  dsimp only at hg
  refine (stay_st1 F h 1 a b gl gh ⟨by simp, by intro x hx; simp at hx; subst hx; exact ⟨⟨hl.1, by show lo ≤ _; omega⟩, by show 0 ≤ hi; omega, hl.2.2⟩⟩ hf (by omega) (by omega) (by omega) (kE_ok hab.1 hab.2.1 hab.2.2) hR).mono ?_
  rintro e W' ⟨rfl, hS, hk, hb⟩
  exact ⟨rfl, _, _, by omega, hS, hk, hb⟩
end Go.Proofs.Ytfdaiififoomoaa
