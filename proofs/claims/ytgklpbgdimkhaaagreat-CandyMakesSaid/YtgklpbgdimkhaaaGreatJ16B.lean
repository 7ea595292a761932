/- Contracts of the reference of chapter 11: spread, Rules, density, Dense. -/
import Derived.Test.YtgklpbgdimkhaaaGreatJ15B
import Derived.Deep.QuietTactic
import Derived.BigQuiet
namespace Go.Proofs.YtgklpbgdimkhaaaGreat
open Go.RowKit Go.Lib Go.Shelf
set_option linter.unusedVariables false
set_option linter.unusedSimpArgs false
attribute [local go_sem ↓] Go.wp_at_zero Go.wp_at_succ


set_option maxRecDepth 20000 in
set_option maxHeartbeats 1000000 in
theorem rSpread_any (lo hi a b : Int) (w : World) :
  Calls Tryz.prog 52 #[.agg #[.int .i64 a, .int .i64 b], .int .i64 lo, .int .i64 hi] w fun e w' => e = .returned (.bool (rgB lo hi a b)) ∧ Below w.heap.size w w' := by
 have c1 := Lib.hid (rIn_any a lo hi)
 have c2 := Lib.hid (rIn_any b a hi)
 have hv : Hid (rgB lo hi a b = ((decide (lo ≤ a) && decide (a ≤ hi)) && (decide (a ≤ b) && decide (b ≤ hi)))) := Lib.hid (by rw [Bool.eq_iff_iff]; simp [rgB, inB]; omega)
 generalize (decide (lo ≤ a) && decide (a ≤ hi)) = p at *
 generalize (decide (a ≤ b) && decide (b ≤ hi)) = q at *
 cases p
 ·go_enter Tryz.func52, Tryz.ntmps52
  go_wp2_with fail
  refine (c1.out _).mono ?_
  rintro e w1 ⟨rfl, rfl⟩
  go_wp2_with fail
  go_ret
  exact ⟨by rw [hv.out]; rfl, (Below.refl _ _).alloc (Nat.le_refl _) _⟩
 ·go_enter Tryz.func52, Tryz.ntmps52
  go_wp2_with fail
  refine (c1.out _).mono ?_
  rintro e w1 ⟨rfl, rfl⟩
  go_wp2_with fail
  refine (c2.out _).mono ?_
  rintro e w1 ⟨rfl, rfl⟩
  go_wp2_with fail
  go_ret
  exact ⟨by rw [hv.out]; simp, (Below.refl _ _).alloc (Nat.le_refl _) _⟩

section
variable {xs ys : List (Int × Int)} {bl bh : Int} {ps : List Pd}
theorem crB_f4 (h : ¬ (1 ≤ (ps.length : Int) ∧ (ps.length : Int) ≤ 8)) : crB ⟨xs, ys, bl, bh, ps⟩ = false := by
 have : inB 1 8 (ps.length : Int) = false := by
  rw [Bool.eq_false_iff]; intro h'; simp [inB] at h'; omega
 simp [crB, this]
theorem crB_f6 (k : Nat) (p : Int × Int) (hp : ys[k]? = some p) (h : slP p = false) : crB ⟨xs, ys, bl, bh, ps⟩ = false := by
 have : ys.all slP = false := List.all_eq_false.2 ⟨p, List.mem_of_getElem? hp, by simp [h]⟩
 simp [crB, slB, this]
theorem crB_f7 (k : Nat) (p : Pd) (hp : ps[k]? = some p) (h : pdB p = false) : crB ⟨xs, ys, bl, bh, ps⟩ = false := by
 have : ps.any (fun x => !pdB x) = true := List.any_eq_true.2 ⟨p, List.mem_of_getElem? hp, by simp [h]⟩
 simp [crB, this]
theorem crB_fy (h1 : decide (tabE xs = 0) = true) (h2 : decide (tabE ys = 0) = true) (h3 : rgB 0 2000 bl bh = true) (h4 : 1 ≤ (ps.length : Int) ∧ (ps.length : Int) ≤ 8) (h5 : elRows xs xs.length = true) (h6 : (ys.take ys.length).all slP = true) (h7 : (ps.take ps.length).all pdB = true) : crB ⟨xs, ys, bl, bh, ps⟩ = true := by
 rw [List.take_length] at h6 h7
 have a4 : inB 1 8 (ps.length : Int) = true := by simp [inB]; omega
 have a7 : ps.any (fun x => !pdB x) = false := by
  rw [List.any_eq_false]; intro x hx; rw [List.all_eq_true] at h7; simp [h7 x hx]
 simp only [crB, elB, slB, h1, h2, h3, a4, h5, h6, a7]; rfl
end

set_option maxRecDepth 20000 in
set_option maxHeartbeats 4000000 in
theorem rRules_any (v1 v2 v3 : Value) (R : Cr) (w : World) (hl1 : R.xs.length ≤ 1000000) (hl2 : R.ys.length ≤ 1000000) (hv : CrAt w.heap.size w v1 v2 v3 R) :
  Calls Tryz.prog 16 #[.agg (cCr v1 v2 v3 R).toArray] w fun e w' => e = .returned (.bool (crB R)) ∧ Below w.heap.size w w' := by
 have C1 := Lib.hid (fun (W : World) (h : Below w.heap.size w W) => rTable_any v1 R.xs (by omega) W (hv.next h).e)
 have C2 := Lib.hid (fun (W : World) (h : Below w.heap.size w W) => rTable_any v2 R.ys (by omega) W (hv.next h).s)
 have C3 := Lib.hid (rSpread_any 0 2000 R.bl R.bh)
 have H1 := hv.e.toRs
 have H2 := hv.s.toRs
 have H3 := hv.p
 obtain ⟨A1, c1, rfl, h1⟩ := H1
 obtain ⟨A2, c2, rfl, h2⟩ := H2
 obtain ⟨A3, c3, rfl, h3⟩ := H3
 clear hv
 obtain ⟨xs, ys, bl, bh, ps⟩ := R
 dsimp only [cCr] at *
 have F1 := Lib.hid (fun (h : decide (tabE xs = 0) = false) => (by simp [crB, elB, h] : crB ⟨xs, ys, bl, bh, ps⟩ = false))
 have F2 := Lib.hid (fun (h : decide (tabE ys = 0) = false) => (by simp [crB, slB, h] : crB ⟨xs, ys, bl, bh, ps⟩ = false))
 have F3 := Lib.hid (fun (h : rgB 0 2000 bl bh = false) => (by simp [crB, h] : crB ⟨xs, ys, bl, bh, ps⟩ = false))
 have F4 := Lib.hid (fun h => crB_f4 (xs := xs) (ys := ys) (bl := bl) (bh := bh) (ps := ps) h)
 have F5 := Lib.hid (fun (k : Nat) (hk : k < xs.length) (h : elRow xs k = false) => (by simp [crB, elB, elRows_no xs _ k hk h] : crB ⟨xs, ys, bl, bh, ps⟩ = false))
 have F6 := Lib.hid (fun k p hp h => crB_f6 (xs := xs) (ys := ys) (bl := bl) (bh := bh) (ps := ps) k p hp h)
 have F7 := Lib.hid (fun k p hp h => crB_f7 (xs := xs) (ys := ys) (bl := bl) (bh := bh) (ps := ps) k p hp h)
 have FY := Lib.hid (fun h1 h2 h3 h4 h5 h6 h7 => crB_fy (xs := xs) (ys := ys) (bl := bl) (bh := bh) (ps := ps) h1 h2 h3 h4 h5 h6 h7)
 generalize crB ⟨xs, ys, bl, bh, ps⟩ = r at *
 generalize decide (tabE xs = 0) = t1 at *
 generalize decide (tabE ys = 0) = t2 at *
 generalize rgB 0 2000 bl bh = z3 at *
 obtain ⟨n1, hn1⟩ : ∃ n, xs.length = n := ⟨_, rfl⟩
 obtain ⟨n2, hn2⟩ : ∃ n, ys.length = n := ⟨_, rfl⟩
 obtain ⟨n3, hn3⟩ : ∃ n, ps.length = n := ⟨_, rfl⟩
 rw [hn1] at h1 hl1 C1 F5 FY ⊢
 rw [hn2] at h2 hl2 C2 FY ⊢
 rw [hn3] at h3 F4 FY ⊢
 have H1 := Lib.hid h1
 have H2 := Lib.hid h2
 have H3 := Lib.hid h3
 have N1 := Lib.hid hn1
 have N2 := Lib.hid hn2
 have N3 := Lib.hid hn3
 have S6 := Lib.hid (fun (k : Nat) (p : Int × Int) (hp : ys[k]? = some p) (ha : (ys.take k).all slP = true) (h : slP p = true) => (by rw [List.take_add_one, hp, List.all_append, ha]; simp [h] : (ys.take (k + 1)).all slP = true))
 have S7 := Lib.hid (fun (k : Nat) (p : Pd) (hp : ps[k]? = some p) (ha : (ps.take k).all pdB = true) (h : pdB p = true) => (by rw [List.take_add_one, hp, List.all_append, ha]; simp [h] : (ps.take (k + 1)).all pdB = true))
 clear h1 h2 h3 hn1 hn2 hn3
 go_enter Tryz.func16, Tryz.ntmps16
 go_wp2_with fail
 refine (C1.out _ ((Below.refl _ _).alloc (Nat.le_refl _) _)).mono ?_
 rintro e W1 ⟨rfl, hb⟩
 have b0 := cell_next hb (b := w.heap.size) (o := 0) (by simp <;> omega) (v := some (.slice A1 n1 c1)) (by simp [go_sem])
 have b1 := cell_next hb (b := w.heap.size) (o := 1) (by simp <;> omega) (v := some (.slice A2 n2 c2)) (by simp [go_sem])
 have b2 := cell_next hb (b := w.heap.size) (o := 2) (by simp <;> omega) (v := some (.int .i64 bl)) (by simp [go_sem])
 have b3 := cell_next hb (b := w.heap.size) (o := 3) (by simp <;> omega) (v := some (.int .i64 bh)) (by simp [go_sem])
 have b4 := cell_next hb (b := w.heap.size) (o := 4) (by simp <;> omega) (v := some (.slice A3 n3 c3)) (by simp [go_sem])
 have nb : w.heap.size < W1.heap.size := by have := hb.size; simp at this; omega
 have hB := (below1 hb)
 clear hb
 cases t1
 ·obtain rfl : r = false := F1.out rfl
  go_wp2_with fail
  go_ret
  exact ⟨rfl, hB⟩
 ·go_wp2_with fail
  refine (C2.out _ hB).mono ?_
  rintro e W2 ⟨rfl, hb⟩
  replace b0 := cell_next hb nb b0
  replace b1 := cell_next hb nb b1
  replace b2 := cell_next hb nb b2
  replace b3 := cell_next hb nb b3
  replace b4 := cell_next hb nb b4
  replace nb := Nat.lt_of_lt_of_le nb hb.size
  replace hB := hB.trans (hb.mono hB.size)
  clear hb
  cases t2
  ·obtain rfl : r = false := F2.out rfl
   go_wp2_with fail
   go_ret
   exact ⟨rfl, hB⟩
  ·go_wp2_with fail
   refine (C3.out _).mono ?_
   rintro e W3 ⟨rfl, hb⟩
   replace b0 := cell_next hb nb b0
   replace b1 := cell_next hb nb b1
   replace b2 := cell_next hb nb b2
   replace b3 := cell_next hb nb b3
   replace b4 := cell_next hb nb b4
   replace nb := Nat.lt_of_lt_of_le nb hb.size
   replace hB := hB.trans (hb.mono hB.size)
   clear hb
   cases z3
   ·obtain rfl : r = false := F3.out rfl
    go_wp2_with fail
    go_ret
    exact ⟨rfl, hB⟩
   ·by_cases d1 : (n3 : Int) < 1
    ·obtain rfl : r = false := F4.out (by omega)
     go_wp2_with fail
     go_ret
     exact ⟨rfl, hB⟩
    ·by_cases d2 : 8 < (n3 : Int)
     ·obtain rfl : r = false := F4.out (by omega)
      go_wp2_with fail
      go_ret
      exact ⟨rfl, hB⟩
     ·have FZ := Lib.hid (FY.out (by simp) (by simp) (by simp) (by omega))
      clear FY F1 F2 F3 F4 C1 C2 C3
      go_wp2_with fail
      go_loopw [3] (fun i wr => ∃ k : Nat, k ≤ n1 ∧ i = .int .i64 k ∧ Hid (elRows xs k = true) ∧ Below w.heap.size w wr ∧ w.heap.size < wr.heap.size ∧ wr.cell? ⟨w.heap.size, 0, none⟩ = some (.slice A1 n1 c1) ∧ wr.cell? ⟨w.heap.size, 1, none⟩ = some (.slice A2 n2 c2) ∧ wr.cell? ⟨w.heap.size, 2, none⟩ = some (.int .i64 bl) ∧ wr.cell? ⟨w.heap.size, 3, none⟩ = some (.int .i64 bh) ∧ wr.cell? ⟨w.heap.size, 4, none⟩ = some (.slice A3 n3 c3)) (fun i _ => n1 - (RowKit.intOf i).toNat)
      case atStart => exact ⟨0, Nat.zero_le _, rfl, Lib.hid rfl, hB, nb, b0, b1, b2, b3, b4⟩
      case round =>
       clear hB nb b0 b1 b2 b3 b4
       obtain ⟨k, hk, rfl, hok, hB, nb, b0, b1, b2, b3, b4⟩ := hrel
       by_cases hlt : k < n1
       ·have hkl : k < xs.length := by rw [N1.out]; exact hlt
        obtain ⟨p, hp⟩ : ∃ p, xs[k]? = some p := ⟨_, List.getElem?_eq_getElem hkl⟩
        obtain ⟨g, off, rfl, hg, hc⟩ := H1.out (by omega)
        have hgw := Nat.lt_of_lt_of_le hg hB.size
        have q0 := cell_next hB hg (hc k p hp 0 _ rfl)
        have q1 := cell_next hB hg (hc k p hp 1 _ rfl)
        simp only [Nat.add_zero] at q0
        have c1 := Lib.hid (rIn_any p.1 0 10000)
        have c2 := Lib.hid (rIn_any p.2 0 2000)
        have hrow := elRow_of hp
        rw [show inB 0 10000 p.1 = (decide (0 ≤ p.1) && decide (p.1 ≤ 10000)) from rfl, show inB 0 2000 p.2 = (decide (0 ≤ p.2) && decide (p.2 ≤ 2000)) from rfl] at hrow
        generalize (decide (0 ≤ p.1) && decide (p.1 ≤ 10000)) = b1' at *
        generalize (decide (0 ≤ p.2) && decide (p.2 ≤ 2000)) = b2' at *
        have hk0 : (0 : Int) ≤ (k : Int) := by omega
        have hkn : (k : Int) < (n1 : Int) := by omega
        have HS := Lib.hid (fun (h : elRow xs k = true) => (by unfold elRows; rw [hok.out, h]; rfl : elRows xs (k + 1) = true))
        have HN := Lib.hid (fun (h : elRow xs k = false) => F5.out k hlt h)
        by_cases hb : b1' = true ∧ b2' = true
        ·obtain ⟨rfl, rfl⟩ := hb
         obtain rfl | ⟨j, rfl⟩ : k = 0 ∨ ∃ j, k = j + 1 := by cases k with | zero => exact .inl rfl | succ j => exact .inr ⟨j, rfl⟩
         ·have hok1 := Lib.hid (HS.out (by rw [hrow]; rfl))
          clear hrow hok hp HS HN hc
          simp only [Nat.zero_mul, Nat.add_zero, Int.natCast_zero] at q0 q1
          go_wp2_with fail
          have hb := (Below.refl wr.heap.size wr).alloc (Nat.le_refl _) (Obj.cells #[.int .i64 p.1, .int .i64 p.2] 39)
          have x0 : (wr.alloc (Obj.cells #[.int .i64 p.1, .int .i64 p.2] 39)).cell? ⟨wr.heap.size, 0, none⟩ = some (.int .i64 p.1) := cell_new _ _ _ 0
          have x1 : (wr.alloc (Obj.cells #[.int .i64 p.1, .int .i64 p.2] 39)).cell? ⟨wr.heap.size, 1, none⟩ = some (.int .i64 p.2) := cell_new _ _ _ 1
          replace hB := hB.trans (hb.mono hB.size)
          replace b0 := cell_next hb nb b0
          replace b1 := cell_next hb nb b1
          replace b2 := cell_next hb nb b2
          replace b3 := cell_next hb nb b3
          replace b4 := cell_next hb nb b4
          replace nb := Nat.lt_of_lt_of_le nb hb.size
          clear q0 q1 hb
          generalize wr.alloc (Obj.cells #[.int .i64 p.1, .int .i64 p.2] 39) = W1 at *
          generalize wr.heap.size = qb at *
          go_quiet ((go_at_call 53; first | (with_reducible exact quiet_left (c1.out _)) | (with_reducible exact quiet_left (c2.out _))))
          go_wp2_with fail
          go_roundw
          case rel => exact ⟨0 + 1, by omega, by go_num, hok1, below_drewN hB _, nb, b0, b1, b2, b3, b4⟩
          case measure => simp [RowKit.intOf]; omega
         ·obtain ⟨q, hq⟩ : ∃ q, xs[j]? = some q := ⟨_, List.getElem?_eq_getElem (by omega)⟩
          have z0 := cell_next hB hg (hc j q hq 0 _ rfl)
          have z1 := cell_next hB hg (hc j q hq 1 _ rfl)
          simp only [Nat.add_zero] at z0
          rw [elUp_succ hq] at hrow
          have wj : IntKind.i64.wrap ((j : Int) + 1 - 1) = j := by rw [show ((j : Int) + 1 - 1) = j from by omega]; exact IntWalk.i64_in _ (by omega)
          by_cases ho : q.2 < p.2
          ·have ho' : decide (p.2 ≤ q.2) = false := by simp; omega
           have hok1 := Lib.hid (HS.out (by rw [hrow]; simpa using ho))
           clear hrow hok hq hp HS HN hc
           go_wp2_with fail
           have hb := (Below.refl wr.heap.size wr).alloc (Nat.le_refl _) (Obj.cells #[.int .i64 p.1, .int .i64 p.2] 39)
           have x0 : (wr.alloc (Obj.cells #[.int .i64 p.1, .int .i64 p.2] 39)).cell? ⟨wr.heap.size, 0, none⟩ = some (.int .i64 p.1) := cell_new _ _ _ 0
           have x1 : (wr.alloc (Obj.cells #[.int .i64 p.1, .int .i64 p.2] 39)).cell? ⟨wr.heap.size, 1, none⟩ = some (.int .i64 p.2) := cell_new _ _ _ 1
           replace hB := hB.trans (hb.mono hB.size)
           replace z0 := cell_next hb hgw z0
           replace z1 := cell_next hb hgw z1
           replace b0 := cell_next hb nb b0
           replace b1 := cell_next hb nb b1
           replace b2 := cell_next hb nb b2
           replace b3 := cell_next hb nb b3
           replace b4 := cell_next hb nb b4
           replace nb := Nat.lt_of_lt_of_le nb hb.size
           clear q0 q1 hb
           generalize wr.alloc (Obj.cells #[.int .i64 p.1, .int .i64 p.2] 39) = W1 at *
           generalize wr.heap.size = qb at *
           go_quiet ((go_at_call 53; first | (with_reducible exact quiet_left (c1.out _)) | (with_reducible exact quiet_left (c2.out _))))
           go_wp2_with fail
           go_roundw
           case rel => exact ⟨j + 1 + 1, by omega, by go_num, hok1, below_drewN hB _, nb, b0, b1, b2, b3, b4⟩
           case measure => simp [RowKit.intOf]; omega
          ·have ho' : decide (p.2 ≤ q.2) = true := by simp; omega
           obtain rfl : r = false := HN.out (by rw [hrow]; simp; omega)
           clear hrow hok hq hp HS HN hc
           go_wp2_with fail
           have hb := (Below.refl wr.heap.size wr).alloc (Nat.le_refl _) (Obj.cells #[.int .i64 p.1, .int .i64 p.2] 39)
           have x0 : (wr.alloc (Obj.cells #[.int .i64 p.1, .int .i64 p.2] 39)).cell? ⟨wr.heap.size, 0, none⟩ = some (.int .i64 p.1) := cell_new _ _ _ 0
           have x1 : (wr.alloc (Obj.cells #[.int .i64 p.1, .int .i64 p.2] 39)).cell? ⟨wr.heap.size, 1, none⟩ = some (.int .i64 p.2) := cell_new _ _ _ 1
           replace hB := hB.trans (hb.mono hB.size)
           replace z0 := cell_next hb hgw z0
           replace z1 := cell_next hb hgw z1
           replace b0 := cell_next hb nb b0
           replace b1 := cell_next hb nb b1
           replace b2 := cell_next hb nb b2
           replace b3 := cell_next hb nb b3
           replace b4 := cell_next hb nb b4
           replace nb := Nat.lt_of_lt_of_le nb hb.size
           clear q0 q1 hb
           generalize wr.alloc (Obj.cells #[.int .i64 p.1, .int .i64 p.2] 39) = W1 at *
           generalize wr.heap.size = qb at *
           go_quiet ((go_at_call 53; first | (with_reducible exact quiet_left (c1.out _)) | (with_reducible exact quiet_left (c2.out _))))
           go_wp2_with fail
           go_ret
           exact ⟨rfl, below_drewN hB _⟩
        ·obtain rfl : r = false := HN.out (by rw [hrow]; cases b1' <;> cases b2' <;> simp at hb ⊢)
         clear hrow hok hp HS HN hc
         cases b1' <;> cases b2' <;> simp only [and_self, not_true_eq_false, Bool.false_eq_true, and_false, false_and, not_false_eq_true] at hb
         all_goals
          go_wp2_with fail
          have hb := (Below.refl wr.heap.size wr).alloc (Nat.le_refl _) (Obj.cells #[.int .i64 p.1, .int .i64 p.2] 39)
          have x0 : (wr.alloc (Obj.cells #[.int .i64 p.1, .int .i64 p.2] 39)).cell? ⟨wr.heap.size, 0, none⟩ = some (.int .i64 p.1) := cell_new _ _ _ 0
          have x1 : (wr.alloc (Obj.cells #[.int .i64 p.1, .int .i64 p.2] 39)).cell? ⟨wr.heap.size, 1, none⟩ = some (.int .i64 p.2) := cell_new _ _ _ 1
          replace hB := hB.trans (hb.mono hB.size)
          replace b0 := cell_next hb nb b0
          replace b1 := cell_next hb nb b1
          replace b2 := cell_next hb nb b2
          replace b3 := cell_next hb nb b3
          replace b4 := cell_next hb nb b4
          replace nb := Nat.lt_of_lt_of_le nb hb.size
          clear q0 q1 hb
          generalize wr.alloc (Obj.cells #[.int .i64 p.1, .int .i64 p.2] 39) = W1 at *
          generalize wr.heap.size = qb at *
          go_quiet ((go_at_call 53; first | (with_reducible exact quiet_left (c1.out _)) | (with_reducible exact quiet_left (c2.out _))))
          go_wp2_with fail
          go_ret
          exact ⟨rfl, below_drewN hB _⟩
       ·obtain rfl : n1 = k := by omega
        have FX := Lib.hid (FZ.out hok.out)
        clear FZ F5 hok H1 N1
        go_wp2_with fail
        go_loopw [5] (fun i wr => ∃ k : Nat, k ≤ n2 ∧ i = .int .i64 k ∧ Hid ((ys.take k).all slP = true) ∧ Below w.heap.size w wr ∧ w.heap.size < wr.heap.size ∧ wr.cell? ⟨w.heap.size, 0, none⟩ = some (.slice A1 n1 c1) ∧ wr.cell? ⟨w.heap.size, 1, none⟩ = some (.slice A2 n2 c2) ∧ wr.cell? ⟨w.heap.size, 2, none⟩ = some (.int .i64 bl) ∧ wr.cell? ⟨w.heap.size, 3, none⟩ = some (.int .i64 bh) ∧ wr.cell? ⟨w.heap.size, 4, none⟩ = some (.slice A3 n3 c3)) (fun i _ => n2 - (RowKit.intOf i).toNat)
        case atStart => exact ⟨0, Nat.zero_le _, rfl, Lib.hid rfl, hB, nb, b0, b1, b2, b3, b4⟩
        case round =>
         clear hB nb b0 b1 b2 b3 b4
         obtain ⟨k, hk, rfl, hok, hB, nb, b0, b1, b2, b3, b4⟩ := hrel
         by_cases hlt : (k : Int) < (n2 : Int)
         ·obtain ⟨p, hp⟩ : ∃ p, ys[k]? = some p := ⟨_, List.getElem?_eq_getElem (by rw [N2.out]; omega)⟩
          obtain ⟨g, off, rfl, hg, hc⟩ := H2.out (by omega)
          have q0 := cell_next hB hg (hc k p hp 0 _ rfl)
          have q1 := cell_next hB hg (hc k p hp 1 _ rfl)
          simp only [Nat.add_zero] at q0
          have HS := Lib.hid (fun (h : slP p = true) => S6.out k p hp hok.out h)
          have HN := Lib.hid (fun (h : slP p = false) => F6.out k p hp h)
          have HE : slP p = ((decide (-2000 ≤ p.1) && decide (p.1 ≤ 2000)) && (decide (0 ≤ p.2) && decide (p.2 ≤ 9999))) := rfl
          have D1 := Lib.hid (rIn_any p.1 (-2000) 2000)
          have D2 := Lib.hid (rIn_any p.2 0 9999)
          rw [HE] at HS HN
          clear HE hc hp hok
          generalize (decide (-2000 ≤ p.1) && decide (p.1 ≤ 2000)) = e1 at *
          generalize (decide (0 ≤ p.2) && decide (p.2 ≤ 9999)) = e2 at *
          cases e1
          ·obtain rfl : r = false := HN.out (by simp)
           go_wp2_with fail
           refine (D1.out _).mono ?_
           rintro e w1 ⟨rfl, rfl⟩
           go_wp2_with fail
           go_ret
           exact ⟨rfl, hB⟩
          ·go_wp2_with fail
           refine (D1.out _).mono ?_
           rintro e w1 ⟨rfl, rfl⟩
           go_wp2_with fail
           refine (D2.out _).mono ?_
           rintro e w1 ⟨rfl, rfl⟩
           cases e2
           ·obtain rfl : r = false := HN.out (by simp)
            go_wp2_with fail
            go_ret
            exact ⟨rfl, hB⟩
           ·have hok1 := Lib.hid (HS.out (by simp))
            go_wp2_with fail
            go_roundw
            case rel => exact ⟨k + 1, by omega, by go_num, hok1, hB, nb, b0, b1, b2, b3, b4⟩
            case measure => simp [RowKit.intOf]; omega
         ·obtain rfl : n2 = k := by omega
          have FX2 := Lib.hid (FX.out hok.out)
          clear FX F6 hok H2 N2 S6
          go_wp2_with fail
          go_loopw [6] (fun i wr => ∃ k : Nat, k ≤ n3 ∧ i = .int .i64 k ∧ Hid ((ps.take k).all pdB = true) ∧ Below w.heap.size w wr ∧ w.heap.size < wr.heap.size ∧ wr.cell? ⟨w.heap.size, 0, none⟩ = some (.slice A1 n1 c1) ∧ wr.cell? ⟨w.heap.size, 1, none⟩ = some (.slice A2 n2 c2) ∧ wr.cell? ⟨w.heap.size, 2, none⟩ = some (.int .i64 bl) ∧ wr.cell? ⟨w.heap.size, 3, none⟩ = some (.int .i64 bh) ∧ wr.cell? ⟨w.heap.size, 4, none⟩ = some (.slice A3 n3 c3)) (fun i _ => n3 - (RowKit.intOf i).toNat)
          case atStart => exact ⟨0, Nat.zero_le _, rfl, Lib.hid rfl, hB, nb, b0, b1, b2, b3, b4⟩
          case round =>
           clear hB nb b0 b1 b2 b3 b4
           obtain ⟨k, hk, rfl, hok, hB, nb, b0, b1, b2, b3, b4⟩ := hrel
           by_cases hlt : (k : Int) < (n3 : Int)
           ·obtain ⟨p, hp⟩ : ∃ p, ps[k]? = some p := ⟨_, List.getElem?_eq_getElem (by rw [N3.out]; omega)⟩
            obtain ⟨g, off, rfl, hg, hc⟩ := H3.out (by omega)
            have q0 := cell_next hB hg (hc k p hp 0 _ rfl)
            have q1 := cell_next hB hg (hc k p hp 1 _ rfl)
            have q2 := cell_next hB hg (hc k p hp 2 _ rfl)
            have q3 := cell_next hB hg (hc k p hp 3 _ rfl)
            have q4 := cell_next hB hg (hc k p hp 4 _ rfl)
            have q5 := cell_next hB hg (hc k p hp 5 _ rfl)
            have q6 := cell_next hB hg (hc k p hp 6 _ rfl)
            have q7 := cell_next hB hg (hc k p hp 7 _ rfl)
            simp only [Nat.add_zero] at q0
            have HS := Lib.hid (fun (h : pdB p = true) => S7.out k p hp hok.out h)
            have HN := Lib.hid (fun (h : pdB p = false) => F7.out k p hp h)
            obtain ⟨dl, dh, sl, sh, tl, th, se, wo⟩ := p
            have D1 := Lib.hid (rSpread_any 1 10000 dl dh)
            have D2 := Lib.hid (rSpread_any (-2000) 2000 sl sh)
            have D3 := Lib.hid (rSpread_any 0 1000 tl th)
            have D4 := Lib.hid (rIn_any se 0 1000000)
            have D5 := Lib.hid (rIn_any wo 0 100000)
            have HE : pdB ⟨dl, dh, sl, sh, tl, th, se, wo⟩ = (rgB 1 10000 dl dh && rgB (-2000) 2000 sl sh && rgB 0 1000 tl th && (decide (0 ≤ se) && decide (se ≤ 1000000)) && (decide (0 ≤ wo) && decide (wo ≤ 100000))) := rfl
            rw [HE] at HS HN
            clear HE hc hp hok
            dsimp only at q0 q1 q2 q3 q4 q5 q6 q7
            generalize rgB 1 10000 dl dh = e1 at *
            generalize rgB (-2000) 2000 sl sh = e2 at *
            generalize rgB 0 1000 tl th = e3 at *
            generalize (decide (0 ≤ se) && decide (se ≤ 1000000)) = e4 at *
            generalize (decide (0 ≤ wo) && decide (wo ≤ 100000)) = e5 at *
            go_wp2_with fail
            refine (D1.out _).mono ?_
            rintro e W1 ⟨rfl, hb⟩
            replace b0 := cell_next (below1 hb) nb b0
            replace b1 := cell_next (below1 hb) nb b1
            replace b2 := cell_next (below1 hb) nb b2
            replace b3 := cell_next (below1 hb) nb b3
            replace b4 := cell_next (below1 hb) nb b4
            replace nb := Nat.lt_of_lt_of_le nb (below1 hb).size
            have x0 := cell_next hb (b := wr.heap.size) (o := 0) (by simp <;> omega) (v := some (.int .i64 dl)) (by simp [go_sem])
            have x1 := cell_next hb (b := wr.heap.size) (o := 1) (by simp <;> omega) (v := some (.int .i64 dh)) (by simp [go_sem])
            have x2 := cell_next hb (b := wr.heap.size) (o := 2) (by simp <;> omega) (v := some (.int .i64 sl)) (by simp [go_sem])
            have x3 := cell_next hb (b := wr.heap.size) (o := 3) (by simp <;> omega) (v := some (.int .i64 sh)) (by simp [go_sem])
            have x4 := cell_next hb (b := wr.heap.size) (o := 4) (by simp <;> omega) (v := some (.int .i64 tl)) (by simp [go_sem])
            have x5 := cell_next hb (b := wr.heap.size) (o := 5) (by simp <;> omega) (v := some (.int .i64 th)) (by simp [go_sem])
            have x6 := cell_next hb (b := wr.heap.size) (o := 6) (by simp <;> omega) (v := some (.int .i64 se)) (by simp [go_sem])
            have x7 := cell_next hb (b := wr.heap.size) (o := 7) (by simp <;> omega) (v := some (.int .i64 wo)) (by simp [go_sem])
            have nx : wr.heap.size < W1.heap.size := by have := hb.size; simp at this; omega
            replace hB := hB.trans ((below1 hb).mono hB.size)
            clear hb
            generalize wr.heap.size = q1 at *
            cases e1
            ·obtain rfl : r = false := HN.out (by simp)
             go_wp2_with fail
             go_ret
             exact ⟨rfl, hB⟩
            ·go_wp2_with fail
             refine (D2.out _).mono ?_
             rintro e W2 ⟨rfl, hb⟩
             replace b0 := cell_next hb nb b0
             replace b1 := cell_next hb nb b1
             replace b2 := cell_next hb nb b2
             replace b3 := cell_next hb nb b3
             replace b4 := cell_next hb nb b4
             replace nb := Nat.lt_of_lt_of_le nb hb.size
             replace x0 := cell_next hb nx x0
             replace x1 := cell_next hb nx x1
             replace x2 := cell_next hb nx x2
             replace x3 := cell_next hb nx x3
             replace x4 := cell_next hb nx x4
             replace x5 := cell_next hb nx x5
             replace x6 := cell_next hb nx x6
             replace x7 := cell_next hb nx x7
             replace nx := Nat.lt_of_lt_of_le nx hb.size
             replace hB := hB.trans (hb.mono hB.size)
             clear hb
             cases e2
             ·obtain rfl : r = false := HN.out (by simp)
              go_wp2_with fail
              go_ret
              exact ⟨rfl, hB⟩
             ·go_wp2_with fail
              refine (D3.out _).mono ?_
              rintro e W3 ⟨rfl, hb⟩
              replace b0 := cell_next hb nb b0
              replace b1 := cell_next hb nb b1
              replace b2 := cell_next hb nb b2
              replace b3 := cell_next hb nb b3
              replace b4 := cell_next hb nb b4
              replace nb := Nat.lt_of_lt_of_le nb hb.size
              replace x0 := cell_next hb nx x0
              replace x1 := cell_next hb nx x1
              replace x2 := cell_next hb nx x2
              replace x3 := cell_next hb nx x3
              replace x4 := cell_next hb nx x4
              replace x5 := cell_next hb nx x5
              replace x6 := cell_next hb nx x6
              replace x7 := cell_next hb nx x7
              replace nx := Nat.lt_of_lt_of_le nx hb.size
              replace hB := hB.trans (hb.mono hB.size)
              clear hb
              cases e3
              ·obtain rfl : r = false := HN.out (by simp)
               go_wp2_with fail
               go_ret
               exact ⟨rfl, hB⟩
              ·go_wp2_with fail
               refine (D4.out _).mono ?_
               rintro e w' ⟨rfl, rfl⟩
               cases e4
               ·obtain rfl : r = false := HN.out (by simp)
                go_wp2_with fail
                go_ret
                exact ⟨rfl, hB⟩
               ·go_wp2_with fail
                refine (D5.out _).mono ?_
                rintro e w' ⟨rfl, rfl⟩
                cases e5
                ·obtain rfl : r = false := HN.out (by simp)
                 go_wp2_with fail
                 go_ret
                 exact ⟨rfl, hB⟩
                ·have hok1 := Lib.hid (HS.out (by simp))
                 go_wp2_with fail
                 go_roundw
                 case rel => exact ⟨k + 1, by omega, by go_num, hok1, hB, nb, b0, b1, b2, b3, b4⟩
                 case measure => simp [RowKit.intOf]; omega
           ·obtain rfl : n3 = k := by omega
            obtain rfl : r = true := FX2.out hok.out
            go_wp2_with fail
            go_ret
            exact ⟨rfl, hB⟩
end Go.Proofs.YtgklpbgdimkhaaaGreat
