/- Contracts: U1, U2, U3, U4, joined. -/
import Derived.Test.YtdlmkjllcejoaaaProg
import Derived.Test.YtdlmkjllcejoaaaC9
import Derived.Test.YtdlmkjllcejoaaaD65
import Derived.RangeFuncNested
import Derived.RangeFuncBound
import Derived.RangeFuncCalls
import Derived.RangeFuncLeaves
import Derived.Shelf.Abstract
import Derived.Shelf.RegionOpen
import Derived.OwnWalkIn
import Derived.TacticsInMore
import Derived.LoopNIn
import Derived.LoopIn
namespace Go.Proofs.Ytdlmkjllcejoaaa
set_option linter.unusedVariables false

/-- the water that a round takes off -/
def offW (w t : Nat) : Nat := w * t / 10000
/-- the sugar that goes with it -/
def offS (w s t p : Nat) : Nat := s * p * offW w t / (w * 10000)
/-- what a round keeps -/
def stp (t p : Nat) (x : Nat × Nat) : Nat × Nat := (x.1 - offW x.1 t, x.2 - offS x.1 x.2 t p)
/-- what k rounds keep -/
def rk (t p : Nat) (x : Nat × Nat) : Nat → Nat × Nat
  | 0 => x
  | k + 1 => stp t p (rk t p x k)

theorem offW_le (w t : Nat) (ht : t ≤ 10000) : offW w t ≤ w := by
  unfold offW
  have h : w * t ≤ w * 10000 := Nat.mul_le_mul_left _ ht
  calc w * t / 10000 ≤ w * 10000 / 10000 := Nat.div_le_div_right h
    _ = w := Nat.mul_div_cancel _ (by omega)
theorem offS_mul (w s t p : Nat) (hp : p ≤ 10000) : offS w s t p * w ≤ s * offW w t := by
  unfold offS
  generalize offW w t = o
  have h1 : s * p * o / (w * 10000) * (w * 10000) ≤ s * p * o := Nat.div_mul_le_self _ _
  have h2 : s * p * o ≤ s * 10000 * o := Nat.mul_le_mul_right _ (Nat.mul_le_mul_left _ hp)
  generalize s * p * o / (w * 10000) = q at *
  have h3 : (q * w) * 10000 ≤ (s * o) * 10000 := by
    calc (q * w) * 10000 = q * (w * 10000) := by rw [Nat.mul_assoc]
      _ ≤ s * 10000 * o := Nat.le_trans h1 h2
      _ = (s * o) * 10000 := by rw [Nat.mul_assoc, Nat.mul_comm 10000 o, ← Nat.mul_assoc]
  exact Nat.le_of_mul_le_mul_right h3 (by omega)
theorem offS_le (w s t p : Nat) (ht : t ≤ 10000) (hp : p ≤ 10000) : offS w s t p ≤ s := by
  rcases Nat.eq_zero_or_pos w with rfl | hw
  · simp [offS]
  · have h1 := offS_mul w s t p hp
    have h2 : s * offW w t ≤ s * w := Nat.mul_le_mul_left _ (offW_le w t ht)
    exact Nat.le_of_mul_le_mul_right (Nat.le_trans h1 h2) hw
theorem stp_conc (t p : Nat) (x : Nat × Nat) (ht : t ≤ 10000) (hp : p ≤ 10000) : x.2 * (stp t p x).1 ≤ (stp t p x).2 * x.1 := by
  obtain ⟨w, s⟩ := x
  show s * (w - offW w t) ≤ (s - offS w s t p) * w
  have h1 := offS_mul w s t p hp
  have h2 := offS_le w s t p ht hp
  have h3 := offW_le w t ht
  generalize offS w s t p = u at *
  generalize offW w t = o at *
  obtain ⟨a, rfl⟩ : ∃ a, w = a + o := ⟨w - o, by omega⟩
  obtain ⟨b, rfl⟩ : ∃ b, s = b + u := ⟨s - u, by omega⟩
  rw [show a + o - o = a from by omega, show b + u - u = b from by omega]
  simp only [Nat.add_mul, Nat.mul_add] at *
  omega
theorem stp_le (t p : Nat) (x : Nat × Nat) : (stp t p x).1 ≤ x.1 ∧ (stp t p x).2 ≤ x.2 := ⟨Nat.sub_le _ _, Nat.sub_le _ _⟩
theorem rk_le (t p : Nat) (x : Nat × Nat) : ∀ k, (rk t p x k).1 ≤ x.1 ∧ (rk t p x k).2 ≤ x.2
  | 0 => ⟨Nat.le_refl _, Nat.le_refl _⟩
  | k + 1 => by
    have h := rk_le t p x k
    have h' := stp_le t p (rk t p x k)
    exact ⟨Nat.le_trans h'.1 h.1, Nat.le_trans h'.2 h.2⟩
theorem rk_conc (t p : Nat) (x : Nat × Nat) (ht : t ≤ 10000) (hp : p ≤ 10000) : ∀ k, x.2 * (rk t p x k).1 ≤ (rk t p x k).2 * x.1
  | 0 => Nat.le_refl _
  | k + 1 => by
    have h := rk_conc t p x ht hp k
    have h1 := stp_conc t p (rk t p x k) ht hp
    have h2 := (stp_le t p (rk t p x k)).1
    show x.2 * (stp t p (rk t p x k)).1 ≤ (stp t p (rk t p x k)).2 * x.1
    generalize (stp t p (rk t p x k)).1 = w2 at *
    generalize (stp t p (rk t p x k)).2 = s2 at *
    generalize (rk t p x k).1 = w1 at *
    generalize (rk t p x k).2 = s1 at *
    generalize x.1 = w0 at *
    generalize x.2 = s0 at *
    rcases Nat.eq_zero_or_pos w1 with rfl | hw
    · obtain rfl : w2 = 0 := by omega
      simp
    · have a1 : s0 * w1 * w2 ≤ s1 * w0 * w2 := Nat.mul_le_mul_right _ h
      have a2 : s1 * w2 * w0 ≤ s2 * w1 * w0 := Nat.mul_le_mul_right _ h1
      refine Nat.le_of_mul_le_mul_right (c := w1) ?_ hw
      calc s0 * w2 * w1 = s0 * w1 * w2 := Nat.mul_right_comm _ _ _
        _ ≤ s1 * w0 * w2 := a1
        _ = s1 * w2 * w0 := Nat.mul_right_comm _ _ _
        _ ≤ s2 * w1 * w0 := a2
        _ = s2 * w0 * w1 := Nat.mul_right_comm _ _ _
theorem rk_pass0 (t : Nat) (x : Nat × Nat) : ∀ k, (rk t 0 x k).2 = x.2
  | 0 => rfl
  | k + 1 => by
    show (rk t 0 x k).2 - offS _ _ t 0 = x.2
    rw [rk_pass0 t x k]
    simp [offS]
theorem rk_water (t p : Nat) (x : Nat × Nat) (ht : t < 10000) (hx : 0 < x.1) : ∀ k, 0 < (rk t p x k).1
  | 0 => hx
  | k + 1 => by
    have h := rk_water t p x ht hx k
    show 0 < (rk t p x k).1 - offW (rk t p x k).1 t
    generalize (rk t p x k).1 = w at *
    have : offW w t < w := by
      unfold offW
      refine Nat.div_lt_of_lt_mul ?_
      rw [Nat.mul_comm]
      exact Nat.mul_lt_mul_of_pos_right ht h
    omega
/-- no sap is less concentrated behind rounds: rounded down -/
theorem floor_mono (T w0 s0 w s : Nat) (h : s0 * w ≤ s * w0) (hs : 0 < s0) (hm : 0 < w + s) : s0 * T / (w0 + s0) ≤ s * T / (w + s) := by
  have hd : s0 * T / (w0 + s0) * (w0 + s0) ≤ s0 * T := Nat.div_mul_le_self _ _
  have hc : s0 * T / (w0 + s0) ≤ T := Nat.div_le_of_le_mul (by rw [Nat.add_mul]; omega)
  obtain ⟨a, ha⟩ : ∃ a, s0 * T / (w0 + s0) = a := ⟨_, rfl⟩
  rw [ha] at hd hc ⊢
  rw [Nat.le_div_iff_mul_le hm]
  obtain ⟨c, rfl⟩ : ∃ c, T = a + c := ⟨T - a, by omega⟩
  have h1 : a * w0 ≤ s0 * c := by rw [Nat.mul_add, Nat.mul_add, Nat.mul_comm s0 a] at hd; omega
  have h2 : a * w ≤ s * c := by
    refine Nat.le_of_mul_le_mul_right (c := s0) ?_ hs
    calc a * w * s0 = a * (s0 * w) := by rw [Nat.mul_assoc, Nat.mul_comm w s0]
      _ ≤ a * (s * w0) := Nat.mul_le_mul_left _ h
      _ = s * (a * w0) := by rw [Nat.mul_left_comm]
      _ ≤ s * (s0 * c) := Nat.mul_le_mul_left _ h1
      _ = s * c * s0 := by rw [Nat.mul_comm s0 c, Nat.mul_assoc]
  rw [Nat.mul_add, Nat.mul_add, Nat.mul_comm s a]
  omega
/-- and rounded up: c is at least the concentration of what is kept -/
theorem ceil_mono (w0 s0 w s c : Nat) (h : s0 * w ≤ s * w0) (hm : 0 < w + s) (hs : 0 < s) (hc : s * 10000 ≤ c * (w + s)) : s0 * 10000 ≤ c * (w0 + s0) := by
  rcases Nat.lt_or_ge 10000 c with h1 | h1
  · rw [Nat.mul_add, Nat.mul_comm s0]
    have := Nat.mul_le_mul_right s0 (show 10000 ≤ c from by omega)
    rw [Nat.mul_comm 10000 s0] at this
    omega
  · generalize 10000 = T at *
    obtain ⟨d, hd⟩ : ∃ d, T = c + d := ⟨T - c, by omega⟩
    rw [hd] at hc ⊢
    rw [Nat.mul_add, Nat.mul_add, Nat.mul_comm s c] at hc
    rw [Nat.mul_add, Nat.mul_add, Nat.mul_comm s0 c]
    have h2 : s * d ≤ c * w := by omega
    have h3 : s0 * d ≤ c * w0 := by
      rcases Nat.eq_zero_or_pos w with rfl | hw
      · have : s * d = 0 := by omega
        rcases Nat.mul_eq_zero.1 this with h0 | rfl
        · omega
        · simp
      · refine Nat.le_of_mul_le_mul_right (c := w) ?_ hw
        calc s0 * d * w = d * (s0 * w) := by rw [Nat.mul_comm s0 d, Nat.mul_assoc]
          _ ≤ d * (s * w0) := Nat.mul_le_mul_left _ h
          _ = (s * d) * w0 := by rw [← Nat.mul_assoc, Nat.mul_comm d s]
          _ ≤ (c * w) * w0 := Nat.mul_le_mul_right _ h2
          _ = c * w0 * w := Nat.mul_right_comm _ _ _
    omega
/-- less water must go off behind rounds -/
theorem boil_less (w0 s0 w s b : Nat) (h : s0 * w ≤ s * w0) (hw : w ≤ w0) (hsl : s ≤ s0) (hs : 0 < s0) (hb : 0 < b) (hb2 : b ≤ 10000) (hc : s0 * 10000 ≤ b * (w0 + s0)) :
    w + s + s0 * 10000 / b ≤ w0 + s0 + s * 10000 / b := by
  obtain ⟨gw, rfl⟩ : ∃ g, w0 = w + g := ⟨w0 - w, by omega⟩
  obtain ⟨gs, rfl⟩ : ∃ g, s0 = s + g := ⟨s0 - s, by omega⟩
  generalize 10000 = T at *
  obtain ⟨d, hd⟩ : ∃ d, T = b + d := ⟨T - b, by omega⟩
  have h1 : (s + gs) * d ≤ b * (w + gw) := by
    rw [hd, Nat.mul_add, Nat.mul_add b, Nat.mul_comm (s + gs) b] at hc; omega
  have h2 : gs * (w + gw) ≤ (s + gs) * gw := by
    simp only [Nat.add_mul, Nat.mul_add] at h ⊢; omega
  have h3 : gs * d ≤ gw * b := by
    refine Nat.le_of_mul_le_mul_right (c := s + gs) ?_ hs
    calc gs * d * (s + gs) = gs * ((s + gs) * d) := by rw [Nat.mul_assoc, Nat.mul_comm d]
      _ ≤ gs * (b * (w + gw)) := Nat.mul_le_mul_left _ h1
      _ = b * (gs * (w + gw)) := by rw [Nat.mul_left_comm]
      _ ≤ b * ((s + gs) * gw) := Nat.mul_le_mul_left _ h2
      _ = gw * b * (s + gs) := by rw [Nat.mul_comm (s + gs) gw, ← Nat.mul_assoc, Nat.mul_comm b gw]
  have h4 : (s + gs) * T ≤ s * T + (gw + gs) * b := by
    rw [Nat.add_mul s gs, Nat.add_mul gw gs]
    have : gs * T = gs * b + gs * d := by rw [← Nat.mul_add, ← hd]
    omega
  have h5 : (s + gs) * T / b ≤ s * T / b + (gw + gs) := by
    refine Nat.le_trans (Nat.div_le_div_right h4) ?_
    rw [Nat.add_mul_div_right _ _ hb]
    exact Nat.le_refl _
  omega
/-- the product of two words that is divided fits -/
theorem off_fits (w s t p : Nat) (hw : 0 < w) (hw2 : w ≤ 1000000000000) (hs : s ≤ 1000000000000) (ht : t ≤ 10000) (hp : p ≤ 10000) :
    s * p ≤ 10000000000000000 ∧ w * 10000 ≤ 10000000000000000 ∧ w * t ≤ 10000000000000000 ∧ s * p * offW w t / 18446744073709551616 < w * 10000 := by
  have h1 : s * p ≤ 1000000000000 * 10000 := Nat.mul_le_mul hs hp
  have h2 : w * t ≤ 1000000000000 * 10000 := Nat.mul_le_mul hw2 ht
  refine ⟨by omega, by omega, by omega, ?_⟩
  have h3 := offW_le w t ht
  have h4 : s * p * offW w t ≤ 10000000000000000 * w := Nat.mul_le_mul (by omega) h3
  generalize s * p * offW w t = m at *
  omega

open Go.RowKit Go.Lib Go.Shelf
set_option linter.unusedVariables false
set_option linter.unusedSimpArgs false
attribute [local go_sem ↓] Go.wp_at_zero Go.wp_at_succ

def inB (lo hi n : Int) : Bool := decide (lo ≤ n) && decide (n ≤ hi)
def insB (lo hi : Int) (xs : List Int) : Bool := xs.all (inB lo hi)
theorem insB_snoc (lo hi : Int) (xs : List Int) (p : Int) : insB lo hi (xs ++ [p]) = (insB lo hi xs && inB lo hi p) := by simp [insB, List.all_append]
theorem insB_no {lo hi : Int} {xs : List Int} {k : Nat} {p : Int} (h : xs[k]? = some p) (hp : inB lo hi p = false) : insB lo hi xs = false := by
  rw [Bool.eq_false_iff]
  intro ha
  have := List.all_eq_true.1 ha p (List.mem_of_getElem? h)
  rw [hp] at this
  cases this
/-- the slice v reads as the numbers xs; it lies below block B -/
def NsAt (B : Nat) (w : World) (v : Value) (xs : List Int) : Prop :=
  ∃ A c, v = .slice A xs.length c ∧ (0 < xs.length → ∃ g off, A = some ⟨g, off, none⟩ ∧ g < B ∧ ∀ k z, xs[k]? = some z → w.cell? ⟨g, off + k, none⟩ = some (.int .i64 z))
theorem NsAt.below {B B' : Nat} {w w' : World} {v : Value} {xs : List Int} (h : NsAt B w v xs) (hb : Below B' w w') (hB : B ≤ B') : NsAt B w' v xs := by
  obtain ⟨A, c, rfl, h⟩ := h
  refine ⟨A, c, rfl, fun hn => ?_⟩
  obtain ⟨g, off, rfl, hg, hr⟩ := h hn
  exact ⟨g, off, rfl, hg, fun k z hz => cell_next hb (by omega) (hr k z hz)⟩
theorem NsAt.mono {B B' : Nat} {w : World} {v : Value} {xs : List Int} (h : NsAt B w v xs) (hB : B ≤ B') : NsAt B' w v xs := by
  obtain ⟨A, c, rfl, h⟩ := h
  refine ⟨A, c, rfl, fun hn => ?_⟩
  obtain ⟨g, off, rfl, hg, hr⟩ := h hn
  exact ⟨g, off, rfl, by omega, hr⟩
theorem ns_one {w : World} {g c : Nat} {x : Int} (h : w.cell? ⟨g, 0, none⟩ = some (.int .i64 x)) : NsAt (g + 1) w (.slice (some ⟨g, 0, none⟩) 1 c) [x] :=
  ⟨_, _, rfl, fun _ => ⟨g, 0, rfl, by omega, fun k z hz => by
    rcases k with _ | k
    · simp at hz; subst hz; simpa using h
    · simp at hz⟩⟩
theorem ns_two {w : World} {g c : Nat} {x y : Int} (h : w.cell? ⟨g, 0, none⟩ = some (.int .i64 x)) (h' : w.cell? ⟨g, 1, none⟩ = some (.int .i64 y)) : NsAt (g + 1) w (.slice (some ⟨g, 0, none⟩) 2 c) [x, y] :=
  ⟨_, _, rfl, fun _ => ⟨g, 0, rfl, by omega, fun k z hz => by
    rcases k with _ | _ | k
    · simp at hz; subst hz; simpa using h
    · simp at hz; subst hz; simpa using h'
    · simp at hz⟩⟩
theorem take_snocN (xs : List Int) (k : Nat) (p : Int) (h : xs[k]? = some p) : xs.take (k + 1) = xs.take k ++ [p] := by rw [List.take_add_one, h]; rfl

set_option maxHeartbeats 400000 in
theorem in1_any (lo hi n : Int) (b b2 : Nat) (w : World) (h0 : w.cell? ⟨b, 0, none⟩ = some (.int .i64 lo)) (h1 : w.cell? ⟨b2, 0, none⟩ = some (.int .i64 hi)) :
    Calls Try.prog 114 #[.int .i64 n, .pointer (some ⟨b, 0, none⟩), .pointer (some ⟨b2, 0, none⟩)] w fun e w' => e = .returned (.bool (!inB lo hi n)) ∧ Below w.heap.size w w' := by
  by_cases c1 : n < lo <;> by_cases c2 : hi < n
  all_goals
    go_enter Try.func114, Try.ntmps114
    go_wp2
    go_ret
    exact ⟨by simp [inB]; omega, Below.refl _ _⟩
theorem enters_in1 : ∀ args w, (callFunc 114 args).run Try.prog w = .ok (.enter 114 args) w := enters_of Try.func114 (by kernel_rfl) rfl

/-- the number of the first element that is meant, or -1 -/
def IxPost (b : Bool) (w : World) (e : Ending) (w' : World) : Prop := ∃ i : Int, e = .returned (.int .i64 i) ∧ (if b then i = -1 else 0 ≤ i ∧ i ≤ 9000000000000000000) ∧ Below w.heap.size w w'

set_option maxRecDepth 20000 in
set_option maxHeartbeats 1000000 in
theorem indexIn_any (lo hi : Int) (b b2 : Nat) (v : Value) (xs : List Int) (w : World) (hl : xs.length ≤ 1000000000000) (hv : NsAt w.heap.size w v xs) (hb : b < w.heap.size) (hb2 : b2 < w.heap.size) (h0 : w.cell? ⟨b, 0, none⟩ = some (.int .i64 lo)) (h1 : w.cell? ⟨b2, 0, none⟩ = some (.int .i64 hi)) :
    Calls Try.prog 153 #[v, .func (Fn.func 114) #[] #[.pointer (some ⟨b, 0, none⟩), .pointer (some ⟨b2, 0, none⟩)]] w (IxPost (insB lo hi xs) w) := by
  have HE := enters_in1
  obtain ⟨A, c, rfl, hr⟩ := hv
  have HN := Lib.hid (fun (k : Nat) (p : Int) (h : xs[k]? = some p) hp => insB_no (lo := lo) (hi := hi) h hp)
  have HC := Lib.hid (fun (n : Int) (W : World) (h : Below w.heap.size w W) => in1_any lo hi n b b2 W (cell_next h hb h0) (cell_next h hb2 h1))
  obtain ⟨r, hrr⟩ : ∃ r, insB lo hi xs = r := ⟨_, rfl⟩
  rw [hrr] at HN ⊢
  have HB := Lib.hid hrr
  clear hrr h0 h1
  obtain ⟨n, hn⟩ : ∃ n, xs.length = n := ⟨_, rfl⟩
  rw [hn] at hr hl ⊢
  have Hn := Lib.hid hn
  have HR := Lib.hid hr
  clear hr hn
  go_enter Try.func153, Try.ntmps153
  go_wp2_with fail
  go_loopw [8] (fun i wr => ∃ k : Nat, k ≤ n ∧ i = .int .i64 k ∧ Hid (insB lo hi (xs.take k) = true) ∧ Below w.heap.size w wr) (fun i _ => n - (RowKit.intOf i).toNat)
  case atStart => exact ⟨0, Nat.zero_le _, rfl, Lib.hid rfl, Below.refl _ _⟩
  case round =>
    obtain ⟨k, hk, rfl, ho, hbr⟩ := hrel
    by_cases hlt : (k : Int) < (n : Int)
    · obtain ⟨p, hp⟩ : ∃ p, xs[k]? = some p := ⟨_, List.getElem?_eq_getElem (by rw [Hn.out]; omega)⟩
      obtain ⟨g, off, rfl, hg, hc⟩ := HR.out (by omega)
      have q0 := cell_next hbr hg (hc k p hp)
      have HNk := Lib.hid (HN.out k p hp)
      have hok : Hid (insB lo hi (xs.take (k + 1)) = inB lo hi p) := Lib.hid (by rw [take_snocN xs k p hp, insB_snoc, ho.out]; rfl)
      have c1 := Lib.hid (HC.out p wr hbr)
      clear hc hp
      generalize inB lo hi p = b' at *
      cases b'
      · have E := Lib.hid (HNk.out rfl)
        go_wp2_with fail
        refine c1.out.mono ?_
        rintro e w1 ⟨rfl, hb⟩
        have hB := hbr.trans (hb.mono hbr.size)
        clear hb
        go_wp2_with fail
        go_ret
        exact ⟨_, rfl, by rw [E.out, if_neg (by simp)]; omega, hB⟩
      · go_wp2_with fail
        refine c1.out.mono ?_
        rintro e w1 ⟨rfl, hb⟩
        have hB := hbr.trans (hb.mono hbr.size)
        clear hb q0 c1
        go_wp2_with fail
        go_roundw
        case rel => exact ⟨k + 1, by omega, by go_num, hok, hB⟩
        case measure => simp [RowKit.intOf]; omega
    · obtain rfl : k = n := by omega
      have E : Hid (r = true) := Lib.hid (HB.out.symm.trans (by have h := ho.out; rwa [List.take_of_length_le (by rw [Hn.out]; exact Nat.le_refl _)] at h))
      go_wp2_with fail
      go_ret
      exact ⟨_, rfl, by rw [E.out, if_pos rfl], hbr⟩

set_option maxHeartbeats 400000 in
theorem anyIn_any (lo hi : Int) (b b2 : Nat) (v : Value) (xs : List Int) (w : World) (hl : xs.length ≤ 1000000000000) (hv : NsAt w.heap.size w v xs) (hb : b < w.heap.size) (hb2 : b2 < w.heap.size) (h0 : w.cell? ⟨b, 0, none⟩ = some (.int .i64 lo)) (h1 : w.cell? ⟨b2, 0, none⟩ = some (.int .i64 hi)) :
    Calls Try.prog 113 #[v, .func (Fn.func 114) #[] #[.pointer (some ⟨b, 0, none⟩), .pointer (some ⟨b2, 0, none⟩)]] w fun e w' => e = .returned (.bool (!insB lo hi xs)) ∧ Below w.heap.size w w' := by
  have c1 := Lib.hid (indexIn_any lo hi b b2 v xs w hl hv hb hb2 h0 h1)
  clear hv h0 h1 hb hb2
  generalize insB lo hi xs = r at *
  go_enter Try.func113, Try.ntmps113
  go_wp2_with fail
  refine c1.out.mono ?_
  rintro e w1 ⟨i, rfl, hi, hb⟩
  cases r
  · obtain ⟨h1, h2⟩ : 0 ≤ i ∧ i ≤ 9000000000000000000 := by simpa using hi
    clear hi
    go_wp2_with fail
    go_ret
    exact ⟨by simp [*], hb⟩
  · obtain rfl : i = -1 := by simpa using hi
    go_wp2_with fail
    go_ret
    exact ⟨by simp, hb⟩

theorem below_al2 (w : World) (o p : Obj) : Below w.heap.size w ((w.alloc o).alloc p) := ((Below.refl _ _).alloc (Nat.le_refl _) _).alloc (by simp) _
set_option maxHeartbeats 400000 in
theorem in_any (lo hi : Int) (v : Value) (xs : List Int) (w : World) (hl : xs.length ≤ 1000000000000) (hv : NsAt w.heap.size w v xs) :
    Calls Try.prog 49 #[.int .i64 lo, .int .i64 hi, v] w fun e w' => e = .returned (.bool (insB lo hi xs)) ∧ Below w.heap.size w w' := by
  have c1 := Lib.hid (fun (W : World) (h : Below w.heap.size w W) => anyIn_any lo hi w.heap.size (w.heap.size + 1) v xs W hl ((hv.below h (Nat.le_refl _)).mono h.size))
  clear hv
  generalize insB lo hi xs = r at *
  go_enter Try.func49, Try.ntmps49
  go_wp2_with fail
  refine (c1.out _ (below_al2 w _ _) (by simp only [World.size_alloc]; omega) (by simp only [World.size_alloc]; omega) (by simp [go_sem]) (by simp [go_sem])).mono ?_
  rintro e w1 ⟨rfl, hb⟩
  have hB := below2 hb
  clear hb
  go_wp2_with fail
  go_ret
  exact ⟨by simp, hB⟩

theorem in2_any (lo hi x y : Int) (g c : Nat) (w : World) (hg : g < w.heap.size) (h : w.cell? ⟨g, 0, none⟩ = some (.int .i64 x)) (h' : w.cell? ⟨g, 1, none⟩ = some (.int .i64 y)) :
    Calls Try.prog 49 #[.int .i64 lo, .int .i64 hi, .slice (some ⟨g, 0, none⟩) 2 c] w fun e w' => e = .returned (.bool (inB lo hi x && inB lo hi y)) ∧ Below w.heap.size w w' := by
  have c1 := in_any lo hi (.slice (some ⟨g, 0, none⟩) 2 c) [x, y] w (by simp) ((ns_two h h').mono (by omega))
  have e : insB lo hi [x, y] = (inB lo hi x && inB lo hi y) := by simp [insB]
  rw [e] at c1
  exact c1
theorem in1v_any (lo hi x : Int) (g c : Nat) (w : World) (hg : g < w.heap.size) (h : w.cell? ⟨g, 0, none⟩ = some (.int .i64 x)) :
    Calls Try.prog 49 #[.int .i64 lo, .int .i64 hi, .slice (some ⟨g, 0, none⟩) 1 c] w fun e w' => e = .returned (.bool (inB lo hi x)) ∧ Below w.heap.size w w' := by
  have c1 := in_any lo hi (.slice (some ⟨g, 0, none⟩) 1 c) [x] w (by simp) ((ns_one h).mono (by omega))
  have e : insB lo hi [x] = inB lo hi x := by simp [insB]
  rw [e] at c1
  exact c1

set_option maxHeartbeats 400000 in
theorem vSap_any (a s : Int) (w : World) :
    Calls Try.prog 48 #[.agg #[.int .i64 a, .int .i64 s]] w fun e w' => e = .returned (.bool (spB a s)) ∧ Below w.heap.size w w' := by
  have hr : Hid ((inB 0 1000000000000 a && inB 0 1000000000000 s) = spB a s) := Lib.hid (by simp [inB, spB, Bool.and_assoc])
  generalize spB a s = r at *
  have c1 := Lib.hid (fun (W : World) (g c : Nat) => in2_any 0 1000000000000 a s g c W)
  rw [hr.out] at c1
  go_enter Try.func48, Try.ntmps48
  go_wp2_with fail
  refine (c1.out _ _ _ (by simp) (by simp [go_sem]) (by simp [go_sem])).mono ?_
  rintro e w1 ⟨rfl, hb⟩
  have hB := below2 hb
  clear hb
  go_wp2_with fail
  go_ret
  exact ⟨rfl, hB⟩

open Go.RowKit Go.Lib Go.Shelf
set_option linter.unusedVariables false
set_option linter.unusedSimpArgs false
attribute [local go_sem ↓] Go.wp_at_zero Go.wp_at_succ

theorem wrapI (n : Nat) (h : n ≤ 9000000000000000000) : IntKind.i64.wrap (n : Int) = (n : Int) := IntWalk.i64_in _ (by omega)

set_option maxRecDepth 20000 in
set_option maxHeartbeats 1000000 in
theorem through_any (a s t p : Nat) (ha : a ≤ 1000000000000) (hs : s ≤ 1000000000000) (ht : t ≤ 10000) (hp : p ≤ 10000) (w : World) :
    Calls Try.prog 116 #[.agg #[.int .i64 a, .int .i64 s], .int .i64 t, .int .i64 p] w fun e w' => e = .returned (.agg #[.int .i64 ((offW a t : Nat) : Int), .int .i64 ((offS a s t p : Nat) : Int)]) ∧ Below w.heap.size w w' := by
  rcases Nat.eq_zero_or_pos a with rfl | ha0
  · have e1 : offW 0 t = 0 := by simp [offW]
    have e2 : offS 0 s t p = 0 := by simp [offS]
    rw [e1, e2]
    go_enter Try.func116, Try.ntmps116
    go_wp2_with fail
    refine bodyPost_ret (v := .agg #[.int .i64 ((0 : Nat) : Int), .int .i64 ((0 : Nat) : Int)]) (by simp [results, Try.results116, go_sem]) rfl ⟨rfl, ?_⟩
    exact (((Below.refl _ _).alloc (Nat.le_refl _) _).alloc (by simp) _)
  · obtain ⟨b1, b2, b3, b4⟩ := off_fits a s t p ha0 ha hs ht hp
    have o1 := offW_le a t ht
    have o2 := offS_le a s t p ht hp
    have hoff : offS a s t p = s * p * offW a t / (a * 10000) := rfl
    have f2 : Int.tdiv ((a * t : Nat) : Int) 10000 = ((offW a t : Nat) : Int) := by
      rw [Int.tdiv_eq_ediv_of_nonneg (by omega)]; unfold offW; omega
    have f1 : IntKind.i64.wrap ((a : Int) * (t : Int)) = ((a * t : Nat) : Int) := by rw [← Int.natCast_mul]; exact wrapI _ (by omega)
    have f3 : IntKind.i64.wrap ((s : Int) * (p : Int)) = ((s * p : Nat) : Int) := by rw [← Int.natCast_mul]; exact wrapI _ (by omega)
    have f6 : IntKind.i64.wrap ((a : Int) * 10000) = ((a * 10000 : Nat) : Int) := by rw [show (a : Int) * 10000 = ((a * 10000 : Nat) : Int) from by omega]; exact wrapI _ (by omega)
    have f4 := wrapU_lt (s * p) (by omega)
    have f7 := wrapU_lt (a * 10000) (by omega)
    have y0 : 0 < a * 10000 := by omega
    generalize offW a t = o at *
    generalize offS a s t p = q at *
    generalize a * t = m at *
    generalize s * p = n at *
    generalize a * 10000 = y at *
    have hq : (n * o / 18446744073709551616 * 18446744073709551616 + n * o % 18446744073709551616) / y = q := by
      rw [hoff, show n * o / 18446744073709551616 * 18446744073709551616 + n * o % 18446744073709551616 = n * o from by omega]
    have hL : n * o % 18446744073709551616 < 18446744073709551616 := Nat.mod_lt _ (by omega)
    have c1 := Lib.hid (mul64_any n o (by omega) (by omega))
    generalize n * o / 18446744073709551616 = H at *
    generalize n * o % 18446744073709551616 = L at *
    have c2 := Lib.hid (div64_any H L y b4 (by omega) hL)
    rw [hq] at c2
    generalize (H * 18446744073709551616 + L) % y = r at *
    have f5 := wrapU_lt o (by omega)
    have f8 := wrapI q (by omega)
    have f9 := wrapI o (by omega)
    have h0 : ((a : Int) == 0) = false := by simp; omega
    clear hq hoff b1 b2 b3 b4 o1 o2 y0 hL ha hs ht hp ha0
    go_enter Try.func116, Try.ntmps116
    go_wp2_with fail
    refine (c1.out _).mono ?_
    rintro e w1 ⟨rfl, rfl⟩
    go_wp2_with fail
    refine (c2.out _).mono ?_
    rintro e w1 ⟨rfl, nn, rfl⟩
    go_wp2_with fail
    refine bodyPost_ret (v := .agg #[.int .i64 (o : Int), .int .i64 (q : Int)]) (by simp [results, Try.results116, go_sem]) rfl ⟨rfl, ?_⟩
    exact ((below_drewN (below_al2 w _ _) nn).setCell (by simp) _).setCell (by simp) _

def addP (a b : Int × Int) : Int × Int := (a.1 + b.1, a.2 + b.2)
def suU (xs : List (Int × Int)) : Int × Int := xs.foldl addP (0, 0)
theorem suU_snoc (xs : List (Int × Int)) (p : Int × Int) : suU (xs ++ [p]) = addP (suU xs) p := by simp [suU, List.foldl_append]
/-- grams, some ten times as many as there may be -/
def smB (p : Int × Int) : Prop := 0 ≤ p.1 ∧ p.1 ≤ 1000000000000000 ∧ 0 ≤ p.2 ∧ p.2 ≤ 1000000000000000

set_option maxRecDepth 20000 in
set_option maxHeartbeats 1000000 in
theorem sums_any (g off : Nat) (xs : List (Int × Int)) (c : Nat) (w : World) (hx : ∀ p ∈ xs, smB p) (hg : g < w.heap.size) (hr : RRd w g off xs) (hl : xs.length ≤ 1000) :
    Calls Try.prog 96 #[.slice (some ⟨g, off, none⟩) xs.length c] w fun e w' =>
      e = .returned (.agg #[.int .i64 (suU xs).1, .int .i64 (suU xs).2]) ∧ Below w.heap.size w w' := by
  obtain ⟨n, hn⟩ : ∃ n, xs.length = n := ⟨_, rfl⟩
  rw [hn] at hl ⊢
  have Hn := Lib.hid hn
  clear hn
  have HX := Lib.hid hx
  have HR := Lib.hid hr
  clear hx hr
  go_enter Try.func96, Try.ntmps96
  go_wp2_with fail
  go_loopw [8] (fun i wr => ∃ (k : Nat) (a : Int × Int), k ≤ n ∧ i = .int .i64 k ∧ Hid (a = suU (xs.take k)) ∧ Hid (0 ≤ a.1 ∧ a.1 ≤ 1000000000000000 * k ∧ 0 ≤ a.2 ∧ a.2 ≤ 1000000000000000 * k) ∧ wr.cell? ⟨w.heap.size + 1, 0, none⟩ = some (.int .i64 a.1) ∧ wr.cell? ⟨w.heap.size + 1, 1, none⟩ = some (.int .i64 a.2) ∧ wr.frozen? ⟨w.heap.size + 1, 0, none⟩ = false ∧ wr.frozen? ⟨w.heap.size + 1, 1, none⟩ = false ∧
      wr.cell? ⟨w.heap.size, 0, none⟩ = some (.int .i64 0) ∧ wr.cell? ⟨w.heap.size, 1, none⟩ = some (.int .i64 0) ∧ wr.frozen? ⟨w.heap.size, 0, none⟩ = false ∧ wr.frozen? ⟨w.heap.size, 1, none⟩ = false ∧ w.heap.size + 1 < wr.heap.size ∧ Below w.heap.size w wr) (fun i _ => n - (RowKit.intOf i).toNat)
  case atStart =>
    refine ⟨0, (0, 0), Nat.zero_le _, rfl, Lib.hid rfl, Lib.hid (by simp), ?_, ?_, ?_, ?_, ?_, ?_, ?_, ?_, ?_, ?_⟩
    all_goals first | (simp; done) | exact below_al2 w _ _
  case round =>
    obtain ⟨k, ⟨a0, a1⟩, hk, rfl, ha, hDa, c0, c1, f0, f1, d0, d1, e0, e1, hz, hbr⟩ := hrel
    have hz0 : w.heap.size < wr.heap.size := by omega
    have hgw : g < wr.heap.size := by omega
    dsimp only at c0 c1
    by_cases hlt : k < n
    · have hkl : k < xs.length := by rw [Hn.out]; exact hlt
      obtain ⟨⟨p0, p1⟩, hp⟩ : ∃ p, xs[k]? = some p := ⟨_, List.getElem?_eq_getElem hkl⟩
      have hpD : smB (p0, p1) := HX.out _ (List.mem_of_getElem? hp)
      obtain ⟨q0, q1⟩ := (HR.out.below hbr hg) k _ hp
      obtain ⟨r1, r2, r3, r4⟩ := hpD
      obtain ⟨r5, r6, r7, r8⟩ := hDa.out
      have haq : Hid ((a0 + p0, a1 + p1) = suU (xs.take (k + 1))) := Lib.hid (by rw [List.take_add_one, hp, show (some (p0, p1)).toList = [(p0, p1)] from rfl, suU_snoc, ← ha.out]; rfl)
      have hDq : Hid (0 ≤ a0 + p0 ∧ a0 + p0 ≤ 1000000000000000 * ((k + 1 : Nat) : Int) ∧ 0 ≤ a1 + p1 ∧ a1 + p1 ≤ 1000000000000000 * ((k + 1 : Nat) : Int)) := Lib.hid ⟨by omega, by omega, by omega, by omega⟩
      have s0 : IntKind.i64.wrap (a0 + p0) = a0 + p0 := IntWalk.i64_in _ (by omega)
      have s1 : IntKind.i64.wrap (a1 + p1) = a1 + p1 := IntWalk.i64_in _ (by omega)
      clear hp r1 r2 r3 r4 r5 r6 r7 r8 hDa ha
      dsimp only at q0 q1
      go_wp2_with fail
      go_roundw
      case rel =>
        refine ⟨k + 1, (a0 + p0, a1 + p1), by omega, by go_num, haq, hDq, ?_, ?_, ?_, ?_, ?_, ?_, ?_, ?_, by simp; omega, ((hbr.setCell (p := ⟨w.heap.size + 1, 0, none⟩) (by simp) _).setCell (p := ⟨w.heap.size + 1, 1, none⟩) (by simp) _).alloc (by simp; omega) _⟩
        all_goals simp [go_sem, *]
      case measure => simp [RowKit.intOf]; omega
    · obtain rfl : k = n := by omega
      have hfin : (a0, a1) = suU xs := by rw [ha.out, List.take_of_length_le (by rw [Hn.out]; omega)]
      have Hfin := Lib.hid hfin
      clear hfin ha hDa
      go_wp2_with fail
      refine bodyPost_ret (v := .agg #[.int .i64 a0, .int .i64 a1]) (by simp [results, Try.results96, go_sem, *]) rfl ⟨by rw [← Hfin.out], ?_⟩
      exact (hbr.setCell (by simp) _).setCell (by simp) _

open Go.RowKit Go.Lib Go.Shelf
set_option linter.unusedVariables false
set_option linter.unusedSimpArgs false

/-- all blocks but those of U lie as they lay -/
def Kept (U : Nat → Prop) (W W' : World) : Prop := W.heap.size ≤ W'.heap.size ∧ ∀ k o, W.heap[k]? = some o → ¬ U k → W'.heap[k]? = some o
theorem Kept.refl (U : Nat → Prop) (W : World) : Kept U W W := ⟨Nat.le_refl _, fun _ _ h _ => h⟩
theorem Kept.trans {U : Nat → Prop} {A B C : World} (h : Kept U A B) (k : Kept U B C) : Kept U A C := ⟨Nat.le_trans h.1 k.1, fun i o ho hu => k.2 i o (h.2 i o ho hu) hu⟩
theorem Kept.mono {U V : Nat → Prop} {W W' : World} (h : Kept U W W') (hv : ∀ k, U k → V k) : Kept V W W' := ⟨h.1, fun k o ho hu => h.2 k o ho fun hc => hu (hv k hc)⟩
theorem Kept.put {U : Nat → Prop} (W : World) {l : Nat} (o' : Obj) (hl : U l) : Kept U W (W.putObj l o') := ⟨by simp, fun k o ho hu => (World.putObj_heap_other (fun e => hu (by rw [e]; exact hl))).trans ho⟩
theorem Kept.heap {U : Nat → Prop} {W W' : World} (h : Kept U W W') {k : Nat} (hk : k < W.heap.size) (hu : ¬ U k) : W'.heap[k]? = W.heap[k]? := by
  rw [Array.getElem?_eq_getElem hk]
  exact h.2 k _ (Array.getElem?_eq_getElem hk) hu
theorem Kept.cell {U : Nat → Prop} {W W' : World} (h : Kept U W W') {p : Addr} (hk : p.block < W.heap.size) (hu : ¬ U p.block) : W'.cell? p = W.cell? p := World.cell?_of_block (w := W) (h.heap hk hu)
theorem Kept.frozen {U : Nat → Prop} {W W' : World} (h : Kept U W W') {p : Addr} (hk : p.block < W.heap.size) (hu : ¬ U p.block) : W'.frozen? p = W.frozen? p := World.frozen?_of_block (w := W) (h.heap hk hu)
theorem below_putU (W : World) {k B : Nat} (o' : Obj) (h : B ≤ k) : Below B W (W.putObj k o') := ⟨rfl, rfl, rfl, by simp, fun i hi => World.putObj_heap_other (by omega)⟩

/-- an iterator (a closure over lb) that yields enc 0, .., enc (N - 1); between two rounds all blocks but those of U lie as they lay -/
def IterAt (n : Nat) (P : Program) (gf : Nat) (lb : Array Value) (enc : Nat → Array Value) (N : Nat) (U : Nat → Prop) (w : World) : Prop :=
  ∀ (l : Nat) (J Jx : Nat → World → Prop) (W : World), Below w.heap.size w W → w.heap.size ≤ l → l < W.heap.size →
    (∀ k A B, J k A → Below W.heap.size A B → J k B) →
    (∀ k W1, k < N → J k W1 → YieldAt Fence.wide (n - 1 - 1) P l (enc k) W1 fun e W' =>
      (e = .returned (.bool true) ∧ J (k + 1) W' ∧ Kept (fun i => U i ∨ i = l) W1 W') ∨ (e = .returned (.bool false) ∧ Jx k W')) →
    J 0 W → CallsIn Fence.wide (n - 1) P gf (#[.func (.yield l) #[] #[]] ++ lb) W fun e W' => (∃ v, e = .returned v) ∧ (J N W' ∨ ∃ k, k < N ∧ Jx k W')

theorem range_law {P : Program} {n : Nat} {g : Operand} {ps : Array Tmp} {assign body : Code} {Q : Exit → Act → World → Prop} {a : Act} {w : World} {gf : Nat} {lb : Array Value} (N : Nat) (U : Nat → Prop) (enc : Nat → Array Value)
    (hg : a.eval g = .func (.func gf) #[] lb) (eg : ∀ args w, (callFunc gf args).run P w = .ok (.enter gf args) w) (hU : ∀ k, w.heap.size ≤ k → ¬ U k)
    (iter : IterAt n P gf lb enc N U w) (hps : ∀ k, (enc k).size = ps.size)
    (I Ix : Nat → World → Prop) (hI : ∀ k A B, I k A → Below w.heap.size A B → I k B) (hIx : ∀ k A B, Ix k A → Below w.heap.size A B → Ix k B) (h0 : I 0 w)
    (Ax : Nat → Act → World → Prop) (hAx : ∀ k a' A B, Ax k a' A → Below w.heap.size A B → Ax k a' B)
    (hassign : ∀ (l k : Nat) (W : World) (K : Act → World → Prop), k < N → I k W → (∀ a' W', Kept U W W' → Ax k a' W' → K a' W') →
      assign.wpIn (Fence.wide.inRound l) (n - 1 - 1) P (Exit.then K (fun _ _ _ => False)) { tmps := (ps.zip (enc k)).foldl (fun t (p, v) => t.setIfInBounds p v) a.tmps, defers := [] } W)
    (hbody : ∀ (l k : Nat) (a' : Act) (W : World), k < N → Ax k a' W → body.wpIn (Fence.wide.inRound l) (n - 1 - 1) P (fun e _ W' => Kept U W W' ∧ ((e = .normal ∧ I (k + 1) W') ∨ (e = .ret ∧ Ix k W'))) a' W)
    (hdone : ∀ (D : Nat) (W : World), w.heap.size ≤ D → I N W → W.heap[D]? = some (.deferred (some [])) → Q .normal { a with defers := { target := .collected D, args := #[] } :: a.defers } W)
    (hstop : ∀ (D k : Nat) (W : World), w.heap.size ≤ D → k < N → Ix k W → W.heap[D]? = some (.deferred (some [])) → Code.ret.wpIn Fence.wide n P Q { a with defers := { target := .collected D, args := #[] } :: a.defers } W) :
    (Code.rangeFunc g ps assign body).wpIn Fence.wide n P Q a w := by
  refine wpIn_rangeFunc fun fn hfn => ?_
  obtain ⟨D, hD⟩ : ∃ D, w.heap.size = D := ⟨_, rfl⟩
  obtain ⟨rc, hrc⟩ : ∃ rc : LoopState → Option Code → Loop, rc = fun st pe => { state := st, pending := pe, fn, tmps := a.tmps, params := ps, assign, body, defers := D } := ⟨_, rfl⟩
  obtain ⟨w1, hw1⟩ : ∃ w1, (w.alloc (.deferred (some []))).alloc (.loop (rc .ready none)) = w1 := ⟨_, rfl⟩
  have hl : w1.heap[D + 1]? = some (.loop (rc .ready none)) := by
    have := World.alloc_heap_new (w.alloc (.deferred (some []))) (.loop (rc .ready none))
    rw [World.size_alloc, hD] at this
    rw [← hw1]; exact this
  have hd : w1.heap[D]? = some (.deferred (some [])) := by
    rw [← hw1, ← hD]
    exact (Below.heap_alloc _ _ _ (by simp)).trans (World.alloc_heap_new w _)
  have hB1 : Below w.heap.size w w1 := by rw [← hw1]; exact ((Below.refl _ w).alloc (Nat.le_refl _) _).alloc (by simp) _
  have hs1 : w1.heap.size = D + 2 := by rw [← hw1]; simp [hD]
  refine ⟨D + 1, [{ target := .collected D, args := #[] }], w1, { target := .fn (.func gf) lb, args := #[.func (.yield (D + 1)) #[] #[]] }, w1, gf, #[.func (.yield (D + 1)) #[] #[]] ++ lb, w1, ?_, ?_, ?_, ?_, fun h => by simp [Fence.wide] at h, ?_⟩
  · rw [← hw1, hrc, ← hD]; exact run_enterLoop_outer _ _ _ _ _
  · simp only [resolve, hg]
    simp [go_sem]
  · intro f' hf'; trivial
  · simp [invoke, go_sem, eg]
  · refine (iter (D + 1) (fun k W => I k W ∧ W.heap[D + 1]? = some (.loop (rc .ready none)) ∧ W.heap[D]? = some (.deferred (some [])))
      (fun k W => Ix k W ∧ W.heap[D + 1]? = some (.loop (rc .done (some .ret))) ∧ W.heap[D]? = some (.deferred (some []))) w1 hB1 (by omega) (by omega) ?_ ?_ ⟨hI _ _ _ h0 hB1, hl, hd⟩).mono ?_
    · rintro k A B ⟨h1, h2, h3⟩ hb
      exact ⟨hI k A B h1 (hb.mono (by omega)), (hb.block _ (by omega)).trans h2, (hb.block _ (by omega)).trans h3⟩
    · rintro k W hk ⟨hi, hlW, hdW⟩
      have hlt := (Array.getElem?_eq_some_iff.1 hlW).1
      have hy := run_yield (P := P) (args := enc k) hlW (by rw [hrc]; exact hps k)
      rw [hrc] at hy
      refine ⟨fn, _, assign, body, hy, roundIn_of_wpIn hfn (hassign _ k W _ hk hi fun a' W2 hK2 hA2 => ?_)⟩
      have hl2 := hK2.2 _ _ hlW (hU _ (by omega))
      have hd2 := hK2.2 _ _ hdW (hU _ (by omega))
      have hlt2 := (Array.getElem?_eq_some_iff.1 hl2).1
      refine ⟨_, run_beginRound hl2 (by rw [hrc]), ?_⟩
      obtain ⟨W3, hW3⟩ : ∃ W3, W2.putObj (D + 1) (.loop { rc .ready none with state := .busy }) = W3 := ⟨_, rfl⟩
      have l3 : W3.heap[D + 1]? = some (.loop { rc .ready none with state := .busy }) := by rw [← hW3]; exact World.putObj_heap_same hlt2
      have d3 : W3.heap[D]? = some (.deferred (some [])) := by rw [← hW3]; exact (World.putObj_heap_other (by omega)).trans hd2
      have k3 : Kept (fun i => U i ∨ i = D + 1) W W3 := (hK2.mono fun i h => .inl h).trans (by rw [← hW3]; exact Kept.put _ _ (.inr rfl))
      have A3 : Ax k a' W3 := hAx _ _ _ _ hA2 (by rw [← hW3]; exact below_putU _ _ (by omega))
      rw [hW3]
      refine wpIn_mono (hbody _ k a' W3 hk A3) ?_
      rintro e a4 W4 ⟨hk4, hp⟩
      have l4 := hk4.2 _ _ l3 (hU _ (by omega))
      have d4 := hk4.2 _ _ d3 (hU _ (by omega))
      have hlt4 := (Array.getElem?_eq_some_iff.1 l4).1
      rcases hp with ⟨rfl, hi4⟩ | ⟨rfl, hi4⟩
      · have he := run_endRound (P := P) none l4
        refine ⟨_, _, he, .inl ⟨rfl, ⟨hI _ _ _ hi4 (below_putU _ _ (by omega)), ?_, ?_⟩, ?_⟩⟩
        · rw [World.putObj_heap_same hlt4, hrc]; rfl
        · exact (World.putObj_heap_other (by omega)).trans d4
        · exact (k3.trans (hk4.mono fun i h => .inl h)).trans (Kept.put _ _ (.inr rfl))
      · have he := run_endRound (P := P) (some .ret) l4
        refine ⟨_, _, he, .inr ⟨rfl, hIx _ _ _ hi4 (below_putU _ _ (by omega)), ?_, ?_⟩⟩
        · rw [World.putObj_heap_same hlt4, hrc]; rfl
        · exact (World.putObj_heap_other (by omega)).trans d4
    · rintro e W2 ⟨⟨v, rfl⟩, ⟨hi, hlW, hdW⟩ | ⟨k, hk, hi, hlW, hdW⟩⟩
      · have hend := run_endLoop (P := P) hlW (by rw [hrc]; simp)
        rw [hrc] at hend
        exact ⟨none, _, hend, hdone D _ (by omega) (hI _ _ _ hi (below_putU _ _ (by omega))) ((World.putObj_heap_other (by omega)).trans hdW)⟩
      · have hend := run_endLoop (P := P) hlW (by rw [hrc]; simp)
        rw [hrc] at hend
        exact ⟨some .ret, _, hend, hstop D k _ (by omega) hk (hIx _ _ _ hi (below_putU _ _ (by omega))) ((World.putObj_heap_other (by omega)).trans hdW)⟩
end Go.Proofs.Ytdlmkjllcejoaaa
