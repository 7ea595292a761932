/- Contracts: the ranges of sums, what ranges have in common, and the least one with all of them. -/
import Derived.Test.YtiibbnbknmeplaaD3
namespace Go.Proofs.Ytiibbnbknmeplaa
open Go.RowKit Go.Lib Go.Shelf
set_option linter.unusedVariables false
set_option linter.unusedSimpArgs false
attribute [local go_sem ↓] Go.wp_at_zero Go.wp_at_succ

set_option maxHeartbeats 1000000 in
theorem together_gen (NL : Nat) (F : Nat) (J : Int × Int → Int × Int → Int × Int) (D : Nat → Int × Int → Prop) (E : Int × Int → Prop) (hE : ∀ args w, (callFunc F args).run Try.prog w = .ok (.enter F args) w) (hJ : ∀ (k : Nat) (a b : Int × Int) (w : World), k < NL → D k a → E b → Calls Try.prog F #[.agg #[.int .i64 a.1, .int .i64 a.2], .agg #[.int .i64 b.1, .int .i64 b.2]] w fun e w' => e = .returned (.agg #[.int .i64 (J a b).1, .int .i64 (J a b).2]) ∧ Below w.heap.size w w') (hD : ∀ k a b, D k a → E b → D (k + 1) (J a b)) (lo hi : Int) (h0 : D 0 (lo, hi)) (g off : Nat) (xs : List (Int × Int)) (c : Nat) (w : World)
    (hx : ∀ p ∈ xs, E p) (hg : g < w.heap.size) (hr : RRd w g off xs) (hl : xs.length ≤ 1000000) (hNL : xs.length ≤ NL) :
    Calls Try.prog 91 #[.agg #[.int .i64 lo, .int .i64 hi], .slice (some ⟨g, off, none⟩) xs.length c, .func (Fn.func F) #[] #[]] w fun e w' =>
      e = .returned (.agg #[.int .i64 (xs.foldl J (lo, hi)).1, .int .i64 (xs.foldl J (lo, hi)).2]) ∧ Below w.heap.size w w' := by
  obtain ⟨n, hn⟩ : ∃ n, xs.length = n := ⟨_, rfl⟩
  rw [hn] at hl hNL ⊢
  have Hn := Lib.hid hn
  clear hn
  have HJ := Lib.hid hJ
  have HD := Lib.hid hD
  have H0 := Lib.hid h0
  have HX := Lib.hid hx
  have HR := Lib.hid hr
  clear hJ hD h0 hx hr
  go_enter Try.func91, Try.ntmps91
  go_wp2_with fail
  go_loopw [11] (fun i wr => ∃ (k : Nat) (a : Int × Int), k ≤ n ∧ i = .int .i64 k ∧ Hid (a = (xs.take k).foldl J (lo, hi)) ∧ D k a ∧ wr.cell? ⟨w.heap.size, 0, none⟩ = some (.int .i64 a.1) ∧ wr.cell? ⟨w.heap.size, 1, none⟩ = some (.int .i64 a.2) ∧ wr.frozen? ⟨w.heap.size, 0, none⟩ = false ∧ wr.frozen? ⟨w.heap.size, 1, none⟩ = false ∧
      wr.cell? ⟨w.heap.size + 1, 0, none⟩ = some (.int .i64 0) ∧ wr.cell? ⟨w.heap.size + 1, 1, none⟩ = some (.int .i64 0) ∧ wr.frozen? ⟨w.heap.size + 1, 0, none⟩ = false ∧ wr.frozen? ⟨w.heap.size + 1, 1, none⟩ = false ∧ w.heap.size + 1 < wr.heap.size ∧ Below w.heap.size w wr) (fun i _ => n - (intOf i).toNat)
  case atStart =>
    refine ⟨0, (lo, hi), Nat.zero_le _, rfl, Lib.hid rfl, H0.out, ?_, ?_, ?_, ?_, ?_, ?_, ?_, ?_, ?_, ?_⟩
    all_goals first | (simp; done) | exact ((Below.refl _ _).alloc (Nat.le_refl _) _).alloc (by simp) _
  case round =>
    obtain ⟨k, a, hk, rfl, ha, hDa, c0, c1, f0, f1, d0, d1, e0, e1, hz, hbr⟩ := hrel
    have hz0 : w.heap.size < wr.heap.size := by omega
    have hz0e : w.heap.size ≤ wr.heap.size := by omega
    have hgw : g < wr.heap.size := by omega
    by_cases hlt : k < n
    · have hkl : k < xs.length := by rw [Hn.out]; exact hlt
      obtain ⟨p, hp⟩ : ∃ p, xs[k]? = some p := ⟨_, List.getElem?_eq_getElem hkl⟩
      have hpD : E p := HX.out p (List.mem_of_getElem? hp)
      obtain ⟨q0, q1⟩ := (HR.out.below hbr hg) k p hp
      have hp' := Lib.hid hp
      clear hp
      go_wp2_with fail
      refine (HJ.out k a p _ (by omega) hDa hpD).mono ?_
      rintro e w1 ⟨rfl, hb1⟩
      have hDq := HD.out k a p hDa hpD
      have haq : Hid (J a p = (xs.take (k + 1)).foldl J (lo, hi)) := Lib.hid (by rw [List.take_add_one, hp'.out, List.foldl_append, ← ha.out]; rfl)
      generalize J a p = q at *
      have hB1 := below1 hb1
      have hz1 := hB1.size
      replace c0 := cell_next hB1 hz0 c0
      replace c1 := cell_next hB1 hz0 c1
      replace f0 := frozen_next hB1 hz0 f0
      replace f1 := frozen_next hB1 hz0 f1
      replace d0 := cell_next hB1 hz d0
      replace d1 := cell_next hB1 hz d1
      replace e0 := frozen_next hB1 hz e0
      replace e1 := frozen_next hB1 hz e1
      replace hbr := hbr.trans (hB1.mono (by omega))
      clear hb1 hB1 q0 q1
      go_wp2_with fail
      go_roundw
      case rel =>
        refine ⟨k + 1, q, by omega, by go_num, haq, hDq, ?_, ?_, ?_, ?_, ?_, ?_, ?_, ?_, by simp; omega, (hbr.setCell (p := ⟨w.heap.size, 0, none⟩) (Nat.le_refl _) _).setCell (p := ⟨w.heap.size, 1, none⟩) (Nat.le_refl _) _⟩
        all_goals simp [go_sem, *]
      case measure => simp [intOf]; omega
    · obtain rfl : k = n := by omega
      have hfin : a = xs.foldl J (lo, hi) := by rw [ha.out, List.take_of_length_le (by rw [Hn.out]; omega)]
      have Hfin := Lib.hid hfin
      clear hfin ha
      go_wp2_with fail
      refine bodyPost_ret (v := .agg #[.int .i64 a.1, .int .i64 a.2]) (by simp [results, Try.results91, go_sem, *]) rfl ⟨by rw [Hfin.out], ?_⟩
      exact (hbr.setCell (by simp) _).setCell (by simp) _

def sumJ (a b : Int × Int) : Int × Int := (a.1 + b.1, a.2 + b.2)
def meetJ (a b : Int × Int) : Int × Int := (max a.1 b.1, min a.2 b.2)

set_option maxHeartbeats 400000 in
theorem sum1_any (a b c d : Int) (ha : -1000000000000000000 ≤ a ∧ a ≤ 1000000000000000000) (hb : -1000000000000000000 ≤ b ∧ b ≤ 1000000000000000000) (hc : -1000000000000000000 ≤ c ∧ c ≤ 1000000000000000000) (hd : -1000000000000000000 ≤ d ∧ d ≤ 1000000000000000000) (w : World) :
    Calls Try.prog 92 #[.agg #[.int .i64 a, .int .i64 b], .agg #[.int .i64 c, .int .i64 d]] w fun e w' => e = .returned (.agg #[.int .i64 (a + c), .int .i64 (b + d)]) ∧ Below w.heap.size w w' := by
  obtain ⟨a1, a2⟩ := ha
  obtain ⟨b1, b2⟩ := hb
  obtain ⟨c1, c2⟩ := hc
  obtain ⟨d1, d2⟩ := hd
  go_enter Try.func92, Try.ntmps92
  go_wp2
  refine bodyPost_ret (v := .agg #[.int .i64 (a + c), .int .i64 (b + d)]) (by simp [results, Try.results92, go_sem]) rfl ⟨rfl, ?_⟩
  exact ((((Below.refl _ _).alloc (Nat.le_refl _) _).alloc (by simp) _).alloc (by simp <;> omega) _)
set_option maxHeartbeats 400000 in
theorem meet1_any (a b c d : Int) (w : World) :
    Calls Try.prog 94 #[.agg #[.int .i64 a, .int .i64 b], .agg #[.int .i64 c, .int .i64 d]] w fun e w' => e = .returned (.agg #[.int .i64 (max a c), .int .i64 (min b d)]) ∧ Below w.heap.size w w' := by
  go_enter Try.func94, Try.ntmps94
  go_wp2
  all_goals
    refine bodyPost_ret (v := .agg #[.int .i64 (max a c), .int .i64 (min b d)]) (by simp [results, Try.results94, go_sem] <;> omega) rfl ⟨rfl, ?_⟩
    exact ((((Below.refl _ _).alloc (Nat.le_refl _) _).alloc (by simp) _).alloc (by simp <;> omega) _)
theorem enters_sum1 : ∀ args w, (callFunc 92 args).run Try.prog w = .ok (.enter 92 args) w := enters_of Try.func92 (by kernel_rfl) rfl
theorem enters_meet1 : ∀ args w, (callFunc 94 args).run Try.prog w = .ok (.enter 94 args) w := enters_of Try.func94 (by kernel_rfl) rfl

/-- an empty list brings nothing together -/
theorem together_nil (F : Nat) (lo hi : Int) (A : Option Addr) (c : Nat) (w : World) :
    Calls Try.prog 91 #[.agg #[.int .i64 lo, .int .i64 hi], .slice A 0 c, .func (Fn.func F) #[] #[]] w fun e w' => e = .returned (.agg #[.int .i64 lo, .int .i64 hi]) ∧ Below w.heap.size w w' := by
  go_enter Try.func91, Try.ntmps91
  go_wp2_with fail
  go_loopw [11] (fun i wr => i = .int .i64 0 ∧ wr = (w.alloc (.cells #[.int .i64 lo, .int .i64 hi] 24)).alloc (.cells #[.int .i64 0, .int .i64 0] 24)) (fun _ _ => 0)
  case atStart => exact ⟨rfl, rfl⟩
  case round =>
    obtain ⟨rfl, rfl⟩ := hrel
    go_wp2_with fail
    refine bodyPost_ret (v := .agg #[.int .i64 lo, .int .i64 hi]) (by simp [results, Try.results91, go_sem]) rfl ⟨rfl, ?_⟩
    exact ((Below.refl _ _).alloc (Nat.le_refl _) _).alloc (by simp) _

def BdK (k : Nat) (a : Int × Int) : Prop := -1000000000000000 * ((k : Int) + 1) ≤ a.1 ∧ a.1 ≤ 1000000000000000 * ((k : Int) + 1) ∧ -1000000000000000 * ((k : Int) + 1) ≤ a.2 ∧ a.2 ≤ 1000000000000000 * ((k : Int) + 1)
def BdE (a : Int × Int) : Prop := -1000000000000000 ≤ a.1 ∧ a.1 ≤ 1000000000000000 ∧ -1000000000000000 ≤ a.2 ∧ a.2 ≤ 1000000000000000
theorem vrsB_bd {xs : List (Int × Int)} (h : vrsB xs = true) : ∀ p ∈ xs, BdE p := fun p hp => by
  have := vrB_of' (List.all_eq_true.1 h p hp)
  exact ⟨by omega, by omega, by omega, by omega⟩

/-- a slice value that reads as ranges, and has room for them -/
def RowAt (B : Nat) (w : World) (v : Value) (xs : List (Int × Int)) : Prop :=
  ∃ A c, v = .slice A xs.length c ∧ xs.length ≤ c ∧ (0 < xs.length → ∃ g off, A = some ⟨g, off, none⟩ ∧ g < B ∧ RRd w g off xs)
theorem RowAt.set {B : Nat} {w : World} {v : Value} {xs : List (Int × Int)} (h : RowAt B w v xs) : SetAt B w v xs := by
  obtain ⟨A, c, rfl, _, h⟩ := h
  exact ⟨A, c, rfl, h⟩
theorem RowAt.below {B B' : Nat} {w w' : World} {v : Value} {xs : List (Int × Int)} (h : RowAt B w v xs) (hb : Below B' w w') (hB : B ≤ B') : RowAt B w' v xs := by
  obtain ⟨A, c, rfl, hc, h⟩ := h
  refine ⟨A, c, rfl, hc, fun hn => ?_⟩
  obtain ⟨g, off, rfl, hg, hr⟩ := h hn
  exact ⟨g, off, rfl, hg, hr.below hb (by omega)⟩
theorem RowAt.mono {B B' : Nat} {w : World} {v : Value} {xs : List (Int × Int)} (h : RowAt B w v xs) (hB : B ≤ B') : RowAt B' w v xs := by
  obtain ⟨A, c, rfl, hc, h⟩ := h
  refine ⟨A, c, rfl, hc, fun hn => ?_⟩
  obtain ⟨g, off, rfl, hg, hr⟩ := h hn
  exact ⟨g, off, rfl, by omega, hr⟩
theorem RRd.tail {w : World} {g off : Nat} {p : Int × Int} {xs : List (Int × Int)} (h : RRd w g off (p :: xs)) : RRd w g (off + 2) xs := fun k q hq => by
  have := h (k + 1) q (by simpa using hq)
  rw [show off + 2 + k * 2 = off + (k + 1) * 2 from by omega]
  exact this

theorem keepg {w W W' : World} {g o1 o2 : Nat} {x y : Option Value} (hg : g < w.heap.size) (hb : Below W.heap.size W W') (h : W.cell? ⟨g, o1, none⟩ = x ∧ W.cell? ⟨g, o2, none⟩ = y ∧ Kp w.heap.size w W) :
    W'.cell? ⟨g, o1, none⟩ = x ∧ W'.cell? ⟨g, o2, none⟩ = y ∧ Kp w.heap.size w W' := by
  obtain ⟨h1, h2, h3⟩ := h
  have := h3.2.1
  exact ⟨cell_next hb (by omega) h1, cell_next hb (by omega) h2, h3.next h3.1.size hb⟩
theorem keepg_res {w W : World} {g o1 o2 : Nat} {x y : Option Value} {u v : Value} (hg : g < w.heap.size) (h : W.cell? ⟨g, o1, none⟩ = x ∧ W.cell? ⟨g, o2, none⟩ = y ∧ Kp w.heap.size w W) :
    ((W.setCell ⟨w.heap.size, 0, none⟩ u).setCell ⟨w.heap.size, 1, none⟩ v).cell? ⟨g, o1, none⟩ = x ∧ ((W.setCell ⟨w.heap.size, 0, none⟩ u).setCell ⟨w.heap.size, 1, none⟩ v).cell? ⟨g, o2, none⟩ = y ∧ Kp w.heap.size w ((W.setCell ⟨w.heap.size, 0, none⟩ u).setCell ⟨w.heap.size, 1, none⟩ v) := by
  obtain ⟨h1, h2, h3⟩ := h
  refine ⟨?_, ?_, h3.set (Nat.le_refl _) u v⟩
  · rw [World.cell?_setCell_other _ _ _ _ (by intro e; injection e; omega), World.cell?_setCell_other _ _ _ _ (by intro e; injection e; omega)]; exact h1
  · rw [World.cell?_setCell_other _ _ _ _ (by intro e; injection e; omega), World.cell?_setCell_other _ _ _ _ (by intro e; injection e; omega)]; exact h2

/-- all ranges summed; the least and the greatest -/
def sumP (xs : List (Int × Int)) : Int × Int := xs.foldl sumJ (0, 0)
def smL (xs : List (Int × Int)) : Int := if chkL xs = 0 then fitL (sumP xs).1 (sumP xs).2 else 0
def smH (xs : List (Int × Int)) : Int := if chkL xs = 0 then fitH (sumP xs).1 (sumP xs).2 else 0
def smE (xs : List (Int × Int)) : Int := if chkL xs = 0 then fitE (sumP xs).1 (sumP xs).2 else chkL xs
theorem chkL_ok {xs : List (Int × Int)} (h : chkL xs = 0) : xs.length ≤ 100 ∧ vrsB xs = true := by
  unfold chkL at h
  split at h
  · cases h
  · split at h
    · exact ⟨by omega, by assumption⟩
    · cases h
theorem sum_together (v : Value) (xs : List (Int × Int)) (w W : World) (hb : Below w.heap.size w W) (hv : SetAt w.heap.size w v xs) (h : chkL xs = 0) :
    Calls Try.prog 91 #[.agg #[.int .i64 0, .int .i64 0], v, .func (Fn.func 92) #[] #[]] W fun e w' => e = .returned (.agg #[.int .i64 (sumP xs).1, .int .i64 (sumP xs).2]) ∧ Below W.heap.size W w' := by
  obtain ⟨hl, hvs⟩ := chkL_ok h
  obtain ⟨A, c, rfl, hr⟩ := hv
  rcases Nat.eq_zero_or_pos xs.length with h0 | h0
  · obtain rfl := List.eq_nil_of_length_eq_zero h0
    exact together_nil 92 0 0 A c W
  · obtain ⟨g, off, rfl, hg, hr⟩ := hr h0
    have hz := hb.size
    refine together_gen 100 92 sumJ BdK BdE enters_sum1 ?_ ?_ 0 0 ⟨by show -1000000000000000 * (((0 : Nat) : Int) + 1) ≤ 0; omega, by show 0 ≤ 1000000000000000 * (((0 : Nat) : Int) + 1); omega, by show -1000000000000000 * (((0 : Nat) : Int) + 1) ≤ 0; omega, by show 0 ≤ 1000000000000000 * (((0 : Nat) : Int) + 1); omega⟩ g off xs c W (vrsB_bd hvs) (by omega) (hr.below hb hg) (by omega) hl
    · rintro k ⟨x1, x2⟩ ⟨y1, y2⟩ W' hk ⟨h1, h2, h3, h4⟩ ⟨h5, h6, h7, h8⟩
      simp only at h1 h2 h3 h4 h5 h6 h7 h8
      exact sum1_any x1 x2 y1 y2 ⟨by omega, by omega⟩ ⟨by omega, by omega⟩ ⟨by omega, by omega⟩ ⟨by omega, by omega⟩ W'
    · rintro k ⟨x1, x2⟩ ⟨y1, y2⟩ ⟨h1, h2, h3, h4⟩ ⟨h5, h6, h7, h8⟩
      simp only at h1 h2 h3 h4 h5 h6 h7 h8
      refine ⟨?_, ?_, ?_, ?_⟩ <;> simp only [sumJ] <;> push_cast <;> omega

set_option maxRecDepth 20000 in
set_option maxHeartbeats 1000000 in
theorem sum_any (v : Value) (xs : List (Int × Int)) (w : World) (hv : SetAt w.heap.size w v xs) :
    Calls Try.prog 18 #[v] w fun e w' => e = .returned (.tuple #[.agg #[.int .i64 (smL xs), .int .i64 (smH xs)], .int .i64 (smE xs)]) ∧ Below w.heap.size w w' := by
  have HC : Hid (∀ W : World, Below w.heap.size w W → Calls Try.prog 89 #[v] W fun e w' => e = .returned (.int .i64 (chkL xs)) ∧ Below W.heap.size W w') := Lib.hid fun W hb => checkList_any v xs W ((hv.below hb (Nat.le_refl _)).mono hb.size)
  have HT : Hid (chkL xs = 0 → ∀ W : World, Below w.heap.size w W → Calls Try.prog 91 #[.agg #[.int .i64 0, .int .i64 0], v, .func (Fn.func 92) #[] #[]] W fun e w' => e = .returned (.agg #[.int .i64 (sumP xs).1, .int .i64 (sumP xs).2]) ∧ Below W.heap.size W w') := Lib.hid fun h W hb => sum_together v xs w W hb hv h
  have E0 : Hid (smE xs = if chkL xs = 0 then fitE (sumP xs).1 (sumP xs).2 else chkL xs) := Lib.hid rfl
  have E1 : Hid (smL xs = if chkL xs = 0 then fitL (sumP xs).1 (sumP xs).2 else 0) := Lib.hid rfl
  have E2 : Hid (smH xs = if chkL xs = 0 then fitH (sumP xs).1 (sumP xs).2 else 0) := Lib.hid rfl
  generalize smL xs = rl at *
  generalize smH xs = rh at *
  generalize smE xs = re at *
  generalize chkL xs = ce at *
  generalize sumP xs = p at *
  obtain ⟨A, c, rfl, _⟩ := hv
  generalize xs.length = n at *
  by_cases h0 : ce = 0
  · have HT' := Lib.hid (HT.out h0)
    have E0' : Hid (re = fitE p.1 p.2) := Lib.hid (by rw [E0.out, if_pos h0])
    have E1' : Hid (rl = fitL p.1 p.2) := Lib.hid (by rw [E1.out, if_pos h0])
    have E2' : Hid (rh = fitH p.1 p.2) := Lib.hid (by rw [E2.out, if_pos h0])
    clear HT E0 E1 E2
    subst h0
    have c3 := Lib.hid (within_any p.1 p.2)
    generalize fitE p.1 p.2 = te at *
    generalize fitL p.1 p.2 = tl at *
    generalize fitH p.1 p.2 = th at *
    go_enter Try.func18, Try.ntmps18
    go_wp2_with fail
    refine (HC.out _ ((Below.refl _ _).alloc (Nat.le_refl _) _)).mono ?_
    rintro e w1 ⟨rfl, hb⟩
    have r0 := cell_next hb (b := w.heap.size) (o := 0) (by simp <;> omega) (v := some (.int .i64 0)) (by simp [go_sem])
    have r1 := cell_next hb (b := w.heap.size) (o := 1) (by simp <;> omega) (v := some (.int .i64 0)) (by simp [go_sem])
    have f0 := frozen_next hb (b := w.heap.size) (o := 0) (by simp <;> omega) (v := false) (by simp [go_sem])
    have f1 := frozen_next hb (b := w.heap.size) (o := 1) (by simp <;> omega) (v := false) (by simp [go_sem])
    have nz : w.heap.size < w1.heap.size := by have := hb.size; simp at this; omega
    have hB := below1 hb
    clear hb
    go_wp2_with fail
    refine (HT'.out _ hB).mono ?_
    rintro e w2 ⟨rfl, hb⟩
    replace r0 := cell_next hb nz r0
    replace r1 := cell_next hb nz r1
    replace f0 := frozen_next hb nz f0
    replace f1 := frozen_next hb nz f1
    replace nz := Nat.lt_of_lt_of_le nz hb.size
    replace hB := hB.trans (hb.mono hB.size)
    clear hb
    go_wp2_with fail
    refine (c3.out _).mono ?_
    rintro e w3 ⟨rfl, hb⟩
    replace r0 := cell_next hb nz r0
    replace r1 := cell_next hb nz r1
    replace f0 := frozen_next hb nz f0
    replace f1 := frozen_next hb nz f1
    replace hB := hB.trans (hb.mono hB.size)
    clear hb
    go_wp2_with fail
    refine bodyPost_ret (v := .tuple #[.agg #[.int .i64 tl, .int .i64 th], .int .i64 te]) (by simp [results, Try.results18, go_sem, r0, r1, f0, f1]) rfl ⟨by rw [E0'.out, E1'.out, E2'.out], ?_⟩
    exact (hB.setCell (p := ⟨w.heap.size, 0, none⟩) (Nat.le_refl _) _).setCell (p := ⟨w.heap.size, 1, none⟩) (Nat.le_refl _) _
  · have E0' : Hid (re = ce) := Lib.hid (by rw [E0.out, if_neg h0])
    have E1' : Hid (rl = 0) := Lib.hid (by rw [E1.out, if_neg h0])
    have E2' : Hid (rh = 0) := Lib.hid (by rw [E2.out, if_neg h0])
    have hne : (ce != 0) = true := by simpa using h0
    clear HT E0 E1 E2 h0
    go_enter Try.func18, Try.ntmps18
    go_wp2_with fail
    refine (HC.out _ ((Below.refl _ _).alloc (Nat.le_refl _) _)).mono ?_
    rintro e w1 ⟨rfl, hb⟩
    have r0 := cell_next hb (b := w.heap.size) (o := 0) (by simp <;> omega) (v := some (.int .i64 0)) (by simp [go_sem])
    have r1 := cell_next hb (b := w.heap.size) (o := 1) (by simp <;> omega) (v := some (.int .i64 0)) (by simp [go_sem])
    have f0 := frozen_next hb (b := w.heap.size) (o := 0) (by simp <;> omega) (v := false) (by simp [go_sem])
    have f1 := frozen_next hb (b := w.heap.size) (o := 1) (by simp <;> omega) (v := false) (by simp [go_sem])
    have hB := below1 hb
    clear hb
    go_wp2_with fail
    refine bodyPost_ret (v := .tuple #[.agg #[.int .i64 0, .int .i64 0], .int .i64 ce]) (by simp [results, Try.results18, go_sem, r0, r1, f0, f1]) rfl ⟨by rw [E0'.out, E1'.out, E2'.out], ?_⟩
    exact (hB.setCell (p := ⟨w.heap.size, 0, none⟩) (Nat.le_refl _) _).setCell (p := ⟨w.heap.size, 1, none⟩) (Nat.le_refl _) _

end Go.Proofs.Ytiibbnbknmeplaa
