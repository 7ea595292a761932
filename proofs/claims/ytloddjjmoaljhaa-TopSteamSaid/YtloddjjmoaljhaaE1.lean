/- Contracts of package barrel: numbers within bounds; what sap weighs; whether a keg is valid. -/
import Derived.Test.YtloddjjmoaljhaaU2
namespace Go.Proofs.Ytloddjjmoaljhaa
open Go.RowKit Go.Lib Go.Shelf
set_option linter.unusedVariables false
set_option linter.unusedSimpArgs false
attribute [local go_sem ↓] Go.wp_at_zero Go.wp_at_succ

set_option maxHeartbeats 400000 in
theorem bin1_any (lo hi n : Int) (b b2 : Nat) (w : World) (h0 : w.cell? ⟨b, 0, none⟩ = some (.int .i64 lo)) (h1 : w.cell? ⟨b2, 0, none⟩ = some (.int .i64 hi)) :
    Calls Try.prog 62 #[.int .i64 n, .pointer (some ⟨b, 0, none⟩), .pointer (some ⟨b2, 0, none⟩)] w fun e w' => e = .returned (.bool (!inB lo hi n)) ∧ Below w.heap.size w w' := by
  by_cases c1 : n < lo <;> by_cases c2 : hi < n
  all_goals
    go_enter Try.func62, Try.ntmps62
    go_wp2
    go_ret
    exact ⟨by simp [inB]; omega, Below.refl _ _⟩
theorem benters_in1 : ∀ args w, (callFunc 62 args).run Try.prog w = .ok (.enter 62 args) w := enters_of Try.func62 (by kernel_rfl) rfl

set_option maxRecDepth 20000 in
set_option maxHeartbeats 1000000 in
theorem bindexIn_any (lo hi : Int) (b b2 : Nat) (v : Value) (xs : List Int) (w : World) (hl : xs.length ≤ 1000000000000) (hv : NsAt w.heap.size w v xs) (hb : b < w.heap.size) (hb2 : b2 < w.heap.size) (h0 : w.cell? ⟨b, 0, none⟩ = some (.int .i64 lo)) (h1 : w.cell? ⟨b2, 0, none⟩ = some (.int .i64 hi)) :
    Calls Try.prog 69 #[v, .func (Fn.func 62) #[] #[.pointer (some ⟨b, 0, none⟩), .pointer (some ⟨b2, 0, none⟩)]] w (IxPost (insB lo hi xs) w) := by
  have HE := benters_in1
  obtain ⟨A, c, rfl, hr⟩ := hv
  have HN := Lib.hid (fun (k : Nat) (p : Int) (h : xs[k]? = some p) hp => insB_no (lo := lo) (hi := hi) h hp)
  have HC := Lib.hid (fun (n : Int) (W : World) (h : Below w.heap.size w W) => bin1_any lo hi n b b2 W (cell_next h hb h0) (cell_next h hb2 h1))
  obtain ⟨r, hrr⟩ : ∃ r, insB lo hi xs = r := ⟨_, rfl⟩
  rw [hrr] at HN ⊢
  have HB := Lib.hid hrr
  clear hrr h0 h1
  obtain ⟨n, hn⟩ : ∃ n, xs.length = n := ⟨_, rfl⟩
  rw [hn] at hr hl ⊢
  have Hn := Lib.hid hn
  have HR := Lib.hid hr
  clear hr hn
  go_enter Try.func69, Try.ntmps69
  go_wp2_with fail
  go_loopw [8] (fun i wr => ∃ k : Nat, k ≤ n ∧ i = .int .i64 k ∧ Hid (insB lo hi (xs.take k) = true) ∧ Below w.heap.size w wr) (fun i _ => n - (RowKit.intOf i).toNat)
  case atStart => exact ⟨0, Nat.zero_le _, rfl, Lib.hid rfl, Below.refl _ _⟩
  case round =>
    obtain ⟨k, hk, rfl, ho, hbr⟩ := hrel
    by_cases hlt : (k : Int) < (n : Int)
    · obtain ⟨p, hp⟩ : ∃ p, xs[k]? = some p := ⟨_, List.getElem?_eq_getElem (by rw [Hn.out]; omega)⟩
      obtain ⟨g, off, rfl, hg, hc⟩ := HR.out (by omega)
      have q0 := cell_next hbr hg (hc k p hp)
      have HNk := Lib.hid (HN.out k p hp)
      have hok : Hid (insB lo hi (xs.take (k + 1)) = inB lo hi p) := Lib.hid (by rw [take_snocN xs k p hp, insB_snoc, ho.out]; rfl)
      have c1 := Lib.hid (HC.out p wr hbr)
      clear hc hp
      generalize inB lo hi p = b' at *
      cases b'
      · have E := Lib.hid (HNk.out rfl)
        go_wp2_with fail
        refine c1.out.mono ?_
        rintro e w1 ⟨rfl, hb⟩
        have hB := hbr.trans (hb.mono hbr.size)
        clear hb
        go_wp2_with fail
        go_ret
        exact ⟨_, rfl, by rw [E.out, if_neg (by simp)]; omega, hB⟩
      · go_wp2_with fail
        refine c1.out.mono ?_
        rintro e w1 ⟨rfl, hb⟩
        have hB := hbr.trans (hb.mono hbr.size)
        clear hb q0 c1
        go_wp2_with fail
        go_roundw
        case rel => exact ⟨k + 1, by omega, by go_num, hok, hB⟩
        case measure => simp [RowKit.intOf]; omega
    · obtain rfl : k = n := by omega
      have E : Hid (r = true) := Lib.hid (HB.out.symm.trans (by have h := ho.out; rwa [List.take_of_length_le (by rw [Hn.out]; exact Nat.le_refl _)] at h))
      go_wp2_with fail
      go_ret
      exact ⟨_, rfl, by rw [E.out, if_pos rfl], hbr⟩

set_option maxHeartbeats 400000 in
theorem banyIn_any (lo hi : Int) (b b2 : Nat) (v : Value) (xs : List Int) (w : World) (hl : xs.length ≤ 1000000000000) (hv : NsAt w.heap.size w v xs) (hb : b < w.heap.size) (hb2 : b2 < w.heap.size) (h0 : w.cell? ⟨b, 0, none⟩ = some (.int .i64 lo)) (h1 : w.cell? ⟨b2, 0, none⟩ = some (.int .i64 hi)) :
    Calls Try.prog 57 #[v, .func (Fn.func 62) #[] #[.pointer (some ⟨b, 0, none⟩), .pointer (some ⟨b2, 0, none⟩)]] w fun e w' => e = .returned (.bool (!insB lo hi xs)) ∧ Below w.heap.size w w' := by
  have c1 := Lib.hid (bindexIn_any lo hi b b2 v xs w hl hv hb hb2 h0 h1)
  clear hv h0 h1 hb hb2
  generalize insB lo hi xs = r at *
  go_enter Try.func57, Try.ntmps57
  go_wp2_with fail
  refine c1.out.mono ?_
  rintro e w1 ⟨i, rfl, hi, hb⟩
  cases r
  · obtain ⟨h1, h2⟩ : 0 ≤ i ∧ i ≤ 9000000000000000000 := by simpa using hi
    clear hi
    go_wp2_with fail
    go_ret
    exact ⟨by simp [*], hb⟩
  · obtain rfl : i = -1 := by simpa using hi
    go_wp2_with fail
    go_ret
    exact ⟨by simp, hb⟩

set_option maxHeartbeats 400000 in
theorem bin_any (lo hi : Int) (v : Value) (xs : List Int) (w : World) (hl : xs.length ≤ 1000000000000) (hv : NsAt w.heap.size w v xs) :
    Calls Try.prog 35 #[.int .i64 lo, .int .i64 hi, v] w fun e w' => e = .returned (.bool (insB lo hi xs)) ∧ Below w.heap.size w w' := by
  have c1 := Lib.hid (fun (W : World) (h : Below w.heap.size w W) => banyIn_any lo hi w.heap.size (w.heap.size + 1) v xs W hl ((hv.below h (Nat.le_refl _)).mono h.size))
  clear hv
  generalize insB lo hi xs = r at *
  go_enter Try.func35, Try.ntmps35
  go_wp2_with fail
  refine (c1.out _ (below_al2 w _ _) (by simp only [World.size_alloc]; omega) (by simp only [World.size_alloc]; omega) (by simp [go_sem]) (by simp [go_sem])).mono ?_
  rintro e w1 ⟨rfl, hb⟩
  have hB := below2 hb
  clear hb
  go_wp2_with fail
  go_ret
  exact ⟨by simp, hB⟩

theorem bin2_any (lo hi x y : Int) (g c : Nat) (w : World) (hg : g < w.heap.size) (h : w.cell? ⟨g, 0, none⟩ = some (.int .i64 x)) (h' : w.cell? ⟨g, 1, none⟩ = some (.int .i64 y)) :
    Calls Try.prog 35 #[.int .i64 lo, .int .i64 hi, .slice (some ⟨g, 0, none⟩) 2 c] w fun e w' => e = .returned (.bool (inB lo hi x && inB lo hi y)) ∧ Below w.heap.size w w' := by
  have c1 := bin_any lo hi (.slice (some ⟨g, 0, none⟩) 2 c) [x, y] w (by simp) ((ns_two h h').mono (by omega))
  have e : insB lo hi [x, y] = (inB lo hi x && inB lo hi y) := by simp [insB]
  rw [e] at c1
  exact c1
theorem bin1v_any (lo hi x : Int) (g c : Nat) (w : World) (hg : g < w.heap.size) (h : w.cell? ⟨g, 0, none⟩ = some (.int .i64 x)) :
    Calls Try.prog 35 #[.int .i64 lo, .int .i64 hi, .slice (some ⟨g, 0, none⟩) 1 c] w fun e w' => e = .returned (.bool (inB lo hi x)) ∧ Below w.heap.size w w' := by
  have c1 := bin_any lo hi (.slice (some ⟨g, 0, none⟩) 1 c) [x] w (by simp) ((ns_one h).mono (by omega))
  have e : insB lo hi [x] = inB lo hi x := by simp [insB]
  rw [e] at c1
  exact c1


set_option maxHeartbeats 400000 in
theorem bmass_any (a s : Int) (h : spB a s = true) (w : World) :
    Calls Try.prog 53 #[.agg #[.int .i64 a, .int .i64 s]] w fun e w' => e = .returned (.int .i64 (a + s)) ∧ Below w.heap.size w w' := by
  obtain ⟨h1, h2, h3, h4⟩ := spB_of h
  have hwr : IntKind.i64.wrap (a + s) = a + s := IntWalk.i64_in _ (by omega)
  clear h h1 h2 h3 h4
  go_enter Try.func53, Try.ntmps53
  go_wp2_with fail
  go_ret
  exact ⟨rfl, (Below.refl _ _).alloc (Nat.le_refl _) _⟩

/-- a keg: water, sugar, light, flavour -/
structure Kg where
  a : Int
  s : Int
  l : Int
  f : Int
def cKg (p : Kg) : Array Value := #[.int .i64 p.a, .int .i64 p.s, .int .i64 p.l, .int .i64 p.f]
/-- whether a keg is valid -/
def kgB (p : Kg) : Bool := spB p.a p.s && inB 1 1000000000 (p.a + p.s) && inB 0 1000 p.l && inB 1 9 p.f

set_option maxRecDepth 20000 in
set_option maxHeartbeats 1000000 in
theorem validKeg_any (p : Kg) (w : World) :
    Calls Try.prog 52 #[.agg (cKg p)] w fun e w' => e = .returned (.bool (kgB p)) ∧ Below w.heap.size w w' := by
  obtain ⟨a, s, l, f⟩ := p
  simp only [cKg]
  have hr : Hid (kgB ⟨a, s, l, f⟩ = (spB a s && inB 1 1000000000 (a + s) && inB 0 1000 l && inB 1 9 f)) := Lib.hid rfl
  generalize kgB ⟨a, s, l, f⟩ = r at *
  have hsp : (inB 0 1000000000000 a && inB 0 1000000000000 s) = spB a s := by simp [inB, spB, Bool.and_assoc]
  have C1 := Lib.hid (fun (W : World) (g c : Nat) => bin2_any 0 1000000000000 a s g c W)
  rw [hsp] at C1
  have CM := Lib.hid (fun h => bmass_any a s h)
  have C2 := Lib.hid (fun (W : World) (g c : Nat) => bin1v_any 1 1000000000 (a + s) g c W)
  have C3 := Lib.hid (fun (W : World) (g c : Nat) => bin1v_any 0 1000 l g c W)
  have C4 := Lib.hid (fun (W : World) (g c : Nat) => bin1v_any 1 9 f g c W)
  clear hsp
  generalize inB 1 1000000000 (a + s) = b2 at *
  generalize inB 0 1000 l = b3 at *
  generalize inB 1 9 f = b4 at *
  generalize a + s = m at *
  generalize spB a s = b1 at *
  cases b1
  · obtain rfl : r = false := hr.out.trans (by rfl)
    go_enter Try.func52, Try.ntmps52
    go_wp2_with fail
    refine (C1.out _ _ _ (by simp) (by simp [go_sem]) (by simp [go_sem])).mono ?_
    rintro e w1 ⟨rfl, hb1⟩
    have hB := below2 hb1
    clear hb1
    go_wp2_with fail
    go_ret
    exact ⟨rfl, hB⟩
  · replace CM := Lib.hid (CM.out rfl)
    cases b2
    · obtain rfl : r = false := hr.out.trans (by rfl)
      go_enter Try.func52, Try.ntmps52
      go_wp2_with fail
      refine (C1.out _ _ _ (by simp) (by simp [go_sem]) (by simp [go_sem])).mono ?_
      rintro e w1 ⟨rfl, hb1⟩
      have x0 := cell_next hb1 (b := w.heap.size) (o := 0) (by simp <;> omega) (v := some (.int .i64 a)) (by simp [go_sem])
      have x1 := cell_next hb1 (b := w.heap.size) (o := 1) (by simp <;> omega) (v := some (.int .i64 s)) (by simp [go_sem])
      have x2 := cell_next hb1 (b := w.heap.size) (o := 2) (by simp <;> omega) (v := some (.int .i64 l)) (by simp [go_sem])
      have x3 := cell_next hb1 (b := w.heap.size) (o := 3) (by simp <;> omega) (v := some (.int .i64 f)) (by simp [go_sem])
      have hz : w.heap.size < w1.heap.size := by have := hb1.size; simp at this; omega
      have hB := below2 hb1
      clear hb1
      go_wp2_with fail
      refine (CM.out _).mono ?_
      rintro e w2 ⟨rfl, hb2⟩
      have hB2 := hb2
      replace x0 := cell_next hB2 hz x0
      replace x1 := cell_next hB2 hz x1
      replace x2 := cell_next hB2 hz x2
      replace x3 := cell_next hB2 hz x3
      replace hz : w.heap.size < w2.heap.size := Nat.lt_of_lt_of_le hz hB2.size
      replace hB := hB.trans (hB2.mono hB.size)
      clear hb2 hB2
      go_wp2_with fail
      refine (C2.out _ _ _ (by simp) (by simp [go_sem])).mono ?_
      rintro e w3 ⟨rfl, hb3⟩
      have hB3 := (below1 hb3)
      replace x0 := cell_next hB3 hz x0
      replace x1 := cell_next hB3 hz x1
      replace x2 := cell_next hB3 hz x2
      replace x3 := cell_next hB3 hz x3
      replace hz : w.heap.size < w3.heap.size := Nat.lt_of_lt_of_le hz hB3.size
      replace hB := hB.trans (hB3.mono hB.size)
      clear hb3 hB3
      go_wp2_with fail
      go_ret
      exact ⟨rfl, hB⟩
    · cases b3
      · obtain rfl : r = false := hr.out.trans (by rfl)
        go_enter Try.func52, Try.ntmps52
        go_wp2_with fail
        refine (C1.out _ _ _ (by simp) (by simp [go_sem]) (by simp [go_sem])).mono ?_
        rintro e w1 ⟨rfl, hb1⟩
        have x0 := cell_next hb1 (b := w.heap.size) (o := 0) (by simp <;> omega) (v := some (.int .i64 a)) (by simp [go_sem])
        have x1 := cell_next hb1 (b := w.heap.size) (o := 1) (by simp <;> omega) (v := some (.int .i64 s)) (by simp [go_sem])
        have x2 := cell_next hb1 (b := w.heap.size) (o := 2) (by simp <;> omega) (v := some (.int .i64 l)) (by simp [go_sem])
        have x3 := cell_next hb1 (b := w.heap.size) (o := 3) (by simp <;> omega) (v := some (.int .i64 f)) (by simp [go_sem])
        have hz : w.heap.size < w1.heap.size := by have := hb1.size; simp at this; omega
        have hB := below2 hb1
        clear hb1
        go_wp2_with fail
        refine (CM.out _).mono ?_
        rintro e w2 ⟨rfl, hb2⟩
        have hB2 := hb2
        replace x0 := cell_next hB2 hz x0
        replace x1 := cell_next hB2 hz x1
        replace x2 := cell_next hB2 hz x2
        replace x3 := cell_next hB2 hz x3
        replace hz : w.heap.size < w2.heap.size := Nat.lt_of_lt_of_le hz hB2.size
        replace hB := hB.trans (hB2.mono hB.size)
        clear hb2 hB2
        go_wp2_with fail
        refine (C2.out _ _ _ (by simp) (by simp [go_sem])).mono ?_
        rintro e w3 ⟨rfl, hb3⟩
        have hB3 := (below1 hb3)
        replace x0 := cell_next hB3 hz x0
        replace x1 := cell_next hB3 hz x1
        replace x2 := cell_next hB3 hz x2
        replace x3 := cell_next hB3 hz x3
        replace hz : w.heap.size < w3.heap.size := Nat.lt_of_lt_of_le hz hB3.size
        replace hB := hB.trans (hB3.mono hB.size)
        clear hb3 hB3
        go_wp2_with fail
        refine (C3.out _ _ _ (by simp) (by simp [go_sem])).mono ?_
        rintro e w4 ⟨rfl, hb4⟩
        have hB4 := (below1 hb4)
        replace x0 := cell_next hB4 hz x0
        replace x1 := cell_next hB4 hz x1
        replace x2 := cell_next hB4 hz x2
        replace x3 := cell_next hB4 hz x3
        replace hz : w.heap.size < w4.heap.size := Nat.lt_of_lt_of_le hz hB4.size
        replace hB := hB.trans (hB4.mono hB.size)
        clear hb4 hB4
        go_wp2_with fail
        go_ret
        exact ⟨rfl, hB⟩
      · obtain rfl : r = b4 := hr.out.trans (by cases b4 <;> rfl)
        go_enter Try.func52, Try.ntmps52
        go_wp2_with fail
        refine (C1.out _ _ _ (by simp) (by simp [go_sem]) (by simp [go_sem])).mono ?_
        rintro e w1 ⟨rfl, hb1⟩
        have x0 := cell_next hb1 (b := w.heap.size) (o := 0) (by simp <;> omega) (v := some (.int .i64 a)) (by simp [go_sem])
        have x1 := cell_next hb1 (b := w.heap.size) (o := 1) (by simp <;> omega) (v := some (.int .i64 s)) (by simp [go_sem])
        have x2 := cell_next hb1 (b := w.heap.size) (o := 2) (by simp <;> omega) (v := some (.int .i64 l)) (by simp [go_sem])
        have x3 := cell_next hb1 (b := w.heap.size) (o := 3) (by simp <;> omega) (v := some (.int .i64 f)) (by simp [go_sem])
        have hz : w.heap.size < w1.heap.size := by have := hb1.size; simp at this; omega
        have hB := below2 hb1
        clear hb1
        go_wp2_with fail
        refine (CM.out _).mono ?_
        rintro e w2 ⟨rfl, hb2⟩
        have hB2 := hb2
        replace x0 := cell_next hB2 hz x0
        replace x1 := cell_next hB2 hz x1
        replace x2 := cell_next hB2 hz x2
        replace x3 := cell_next hB2 hz x3
        replace hz : w.heap.size < w2.heap.size := Nat.lt_of_lt_of_le hz hB2.size
        replace hB := hB.trans (hB2.mono hB.size)
        clear hb2 hB2
        go_wp2_with fail
        refine (C2.out _ _ _ (by simp) (by simp [go_sem])).mono ?_
        rintro e w3 ⟨rfl, hb3⟩
        have hB3 := (below1 hb3)
        replace x0 := cell_next hB3 hz x0
        replace x1 := cell_next hB3 hz x1
        replace x2 := cell_next hB3 hz x2
        replace x3 := cell_next hB3 hz x3
        replace hz : w.heap.size < w3.heap.size := Nat.lt_of_lt_of_le hz hB3.size
        replace hB := hB.trans (hB3.mono hB.size)
        clear hb3 hB3
        go_wp2_with fail
        refine (C3.out _ _ _ (by simp) (by simp [go_sem])).mono ?_
        rintro e w4 ⟨rfl, hb4⟩
        have hB4 := (below1 hb4)
        replace x0 := cell_next hB4 hz x0
        replace x1 := cell_next hB4 hz x1
        replace x2 := cell_next hB4 hz x2
        replace x3 := cell_next hB4 hz x3
        replace hz : w.heap.size < w4.heap.size := Nat.lt_of_lt_of_le hz hB4.size
        replace hB := hB.trans (hB4.mono hB.size)
        clear hb4 hB4
        go_wp2_with fail
        refine (C4.out _ _ _ (by simp) (by simp [go_sem])).mono ?_
        rintro e w5 ⟨rfl, hb5⟩
        have hB5 := (below1 hb5)
        replace x0 := cell_next hB5 hz x0
        replace x1 := cell_next hB5 hz x1
        replace x2 := cell_next hB5 hz x2
        replace x3 := cell_next hB5 hz x3
        replace hz : w.heap.size < w5.heap.size := Nat.lt_of_lt_of_le hz hB5.size
        replace hB := hB.trans (hB5.mono hB.size)
        clear hb5 hB5
        go_wp2_with fail
        go_ret
        exact ⟨rfl, hB⟩
end Go.Proofs.Ytloddjjmoaljhaa
