/- The walk of CandyMakes. -/
import Derived.Test.YtgklpbgdimkhaaaGreatJ24B
import Derived.Test.YtgklpbgdimkhaaaGreatJ14B
import Derived.Test.YtgklpbgdimkhaaaGreatJ15B
import Derived.Deep.QuietTactic
import Derived.BigQuiet
import Derived.Deep.AppendLies
import Derived.Laws.OwnMore
namespace Go.Proofs.YtgklpbgdimkhaaaGreat
open Go.RowKit Go.Lib Go.Shelf
set_option linter.unusedVariables false
set_option linter.unusedSimpArgs false
attribute [local go_sem ↓] Go.wp_at_zero Go.wp_at_succ


theorem RsAt.rowM {α : Type} {N : Nat} {c : α → List Value} {B : Nat} {w : World} {A : Option Addr} {n cp : Nat} {xs : List α} (h : RsAt N c B w (.slice A n cp) xs) {k : Nat} {x : α} (hk : xs[k]? = some x) :
  ∃ g off, A = some ⟨g, off, none⟩ ∧ g < B ∧ ∀ j u, (c x)[j]? = some u → w.cell? ⟨g, off + k * N + j, none⟩ = some u := by
 obtain ⟨A', cp', e, h⟩ := h
 injection e with e1 e2 e3
 subst e1
 obtain ⟨g, off, h1, h2, h3⟩ := h (by have := (List.getElem?_eq_some_iff.1 hk).1; omega)
 exact ⟨g, off, h1, h2, h3 k x hk⟩
theorem flatS_get {x : St} {u : Value} {j : Nat} (hj : (cSt x)[j]? = some u) : ∀ {L : List St} {k : Nat}, L[k]? = some x → (flatS L)[k * 10 + j]? = some u := by
 have hl : j < 10 := (List.getElem?_eq_some_iff.1 hj).1
 intro L
 induction L with
 | nil => intro k h; simp at h
 | cons y L ih =>
  intro k h
  have e : flatS (y :: L) = cSt y ++ flatS L := by simp [flatS]
  have hy : (cSt y).length = 10 := rfl
  rw [e]
  rcases k with _ | k
  ·simp at h
   subst h
   rw [List.getElem?_append_left (by omega)]
   simpa using hj
  ·simp only [List.getElem?_cons_succ] at h
   rw [List.getElem?_append_right (by omega), hy]
   have := ih h
   rw [show (k + 1) * 10 + j - 10 = k * 10 + j by omega]
   exact this
theorem own_rs {w : World} {B : Nat} {e : TypeId} {sv : Value} {n : Nat} {L : List St} (hn : L.length = n) (h : w.ownsRow B e 10 sv n (flatS L)) : RsAt 10 cSt w.heap.size w sv L := by
 subst hn
 obtain ⟨A, cp, rfl⟩ : ∃ A cp, sv = .slice A L.length cp := by
  rcases h.2 with ⟨e, hz⟩ | ⟨g, cap, cur, e, _⟩
  ·exact ⟨none, 0, by rw [e, hz]⟩
  ·exact ⟨_, _, e⟩
 refine ⟨A, cp, rfl, fun h0 => ?_⟩
 obtain ⟨g, cap, hv, hg1, hg2⟩ := h.form h0
 injection hv with hv1 hv2 hv3
 subst hv1 hv3
 refine ⟨g, 0, rfl, hg2, fun k x hk j u hj => ?_⟩
 have hl : j < 10 := (List.getElem?_eq_some_iff.1 hj).1
 have hk' : k < L.length := (List.getElem?_eq_some_iff.1 hk).1
 rw [Nat.zero_add]
 exact (h.cellAt (k * 10 + j) (by omega)).trans (flatS_get hj hk)
theorem infoAc : (Tryz.prog.info? 50).map (fun i => (i.zero, i.size, i.bytes)) = some (some (.agg #[.int .i64 0, .int .i64 0, .int .i64 0, .int .i64 0]), 4, 32) := by kernel_rfl

set_option maxRecDepth 20000 in
set_option maxHeartbeats 1000000 in
theorem acts_any (va : Value) (l : List Ac) (w : World) (hl : l.length ≤ 1000000) (ha : RsAt 4 cAc w.heap.size w va l) :
  Calls Tryz.prog 19 #[va] w fun e w' => ∃ v', e = .returned v' ∧ RsAt 4 cAc w'.heap.size w' v' l ∧ Below w.heap.size w w' := by
 obtain ⟨j0, hj0, hjz0, hjz1, hjz2⟩ := info_parts infoAc
 go_enter Tryz.func19, Tryz.ntmps19
 go_wp2_with (at_builtin; refine wpList_copy (c := cAc) _ rfl (.tmp 3) (.tmp 4) 43 50 rfl j0 _ Tryz.underlying43 hj0 hjz0 hjz1 hjz2 (fun x => rfl) _ _ l w.heap.size rfl rfl ?q1 ?q2 ?q3 ?q4 ?q5)
 case q1 => simp
 case q2 => exact ha.below ((Below.refl _ _).alloc (Nat.le_refl _) _) (Nat.le_refl _)
 case q3 => omega
 case q4 => omega
 case q5 =>
  intro v3 Y2 u3 hb2
  have hb := ((Below.refl w.heap.size w).alloc (Nat.le_refl _) (Obj.cells #[] 50)).trans (hb2.mono (by simp))
  go_wp2_with fail
  go_ret
  exact ⟨v3, rfl, u3.rs, hb⟩

set_option maxRecDepth 20000 in
set_option maxHeartbeats 8000000 in
theorem makes_any (v1 v2 v3 va : Value) (R : Cr) (a s : Int) (l : List Ac) (w : World) (hv : CrAt w.heap.size w v1 v2 v3 R) (ha : RsAt 4 cAc w.heap.size w va l) (hk : ∀ x ∈ l, -9223372036854775808 ≤ x.k ∧ x.k ≤ 9223372036854775807) :
  Calls Tryz.prog 4 #[.agg (cCr v1 v2 v3 R).toArray, .agg #[.int .i64 a, .int .i64 s], va] w fun e w' => e = .returned (.bool true) ∧ Below w.heap.size w w' := by
 have C0 := Lib.hid (fun (W : World) (h : Below w.heap.size w W) => large_any v1 v2 v3 R w.heap.size W (hv.below h (Nat.le_refl _)))
 have CK := Lib.hid (fun (W : World) => known_any W)
 have CO := Lib.hid (fun (hl : R.xs.length ≤ 70 ∧ R.ys.length ≤ 70 ∧ R.ps.length ≤ 12) (W : World) (h : Below w.heap.size w W) => own_any v1 v2 v3 R W hl.1 hl.2.1 hl.2.2 (hv.next h))
 have CX := Lib.hid (fun (hn : l.length ≤ 35) (W : World) (h : RsAt 4 cAc W.heap.size W va l) => acts_any va l W (by omega) h)
 have CM := Lib.hid (fun (hn : l.length ≤ 35) (u1 u2 u3 va : Value) (W : World) (h : CrAt W.heap.size W u1 u2 u3 R) (h2 : RsAt 4 cAc W.heap.size W va l) => make_any u1 u2 u3 va R a s l W h h2 (by omega) hk)
 have CR := Lib.hid (fun (hl : R.xs.length ≤ 70 ∧ R.ys.length ≤ 70 ∧ R.ps.length ≤ 12) (W : World) (h : Below w.heap.size w W) => rMake_any v1 v2 v3 va R a s l W (hv.next h) (by omega) (by omega) (ha.next h))
 have HA := Lib.hid ha
 have HL := Lib.hid (fun (h : lgB R = false) => (by simp [lgB] at h; omega : R.xs.length ≤ 70 ∧ R.ys.length ≤ 70 ∧ R.ps.length ≤ 12))
 have ONE := Lib.hid (fun (p q p' q' : Int) (h1 : MkRes R a s l p q) (h2 : MkRes R a s l p' q') => mkRes_one h1 h2)
 have LEN := Lib.hid (stL_length R (st0 a s) l l.length)
 unfold MkPost at CM CR
 obtain ⟨L, hL⟩ : ∃ L, stL R (st0 a s) l l.length = L := ⟨_, rfl⟩
 rw [hL] at CM CR LEN
 obtain ⟨MR, hMR⟩ : ∃ M, MkRes R a s l = M := ⟨_, rfl⟩
 rw [hMR] at CM CR ONE
 clear hL hMR
 obtain ⟨A1, c1, A2, c2, A3, c3, rfl, rfl, rfl⟩ := hv.slices
 obtain ⟨A4, c4, rfl, _⟩ := ha
 clear hv hk
 obtain ⟨xs, ys, bl, bh, ps⟩ := R
 dsimp only [cCr] at *
 generalize lgB ⟨xs, ys, bl, bh, ps⟩ = z1 at *
 obtain ⟨n1, hn1⟩ : ∃ n, xs.length = n := ⟨_, rfl⟩
 obtain ⟨n2, hn2⟩ : ∃ n, ys.length = n := ⟨_, rfl⟩
 obtain ⟨n3, hn3⟩ : ∃ n, ps.length = n := ⟨_, rfl⟩
 obtain ⟨n, hn⟩ : ∃ n, l.length = n := ⟨_, rfl⟩
 simp only [hn1, hn2, hn3, hn] at C0 CO CX CM CR HL HA LEN ⊢
 have N1 := Lib.hid hn1
 have N2 := Lib.hid hn2
 have N3 := Lib.hid hn3
 have NN := Lib.hid hn
 clear hn1 hn2 hn3 hn
 go_enter Tryz.func4, Tryz.ntmps4
 go_wp2_with fail
 refine (C0.out _ (((Below.refl _ _).alloc (Nat.le_refl _) _).alloc (by simp) _)).mono ?_
 rintro e W1 ⟨rfl, hb⟩
 replace HA := Lib.hid (HA.out.next (below2 hb))
 have b0 := cell_next hb (b := w.heap.size) (o := 0) (by simp <;> omega) (v := some (.slice A1 n1 c1)) (by simp [go_sem])
 have b1 := cell_next hb (b := w.heap.size) (o := 1) (by simp <;> omega) (v := some (.slice A2 n2 c2)) (by simp [go_sem])
 have b2 := cell_next hb (b := w.heap.size) (o := 2) (by simp <;> omega) (v := some (.int .i64 bl)) (by simp [go_sem])
 have b3 := cell_next hb (b := w.heap.size) (o := 3) (by simp <;> omega) (v := some (.int .i64 bh)) (by simp [go_sem])
 have b4 := cell_next hb (b := w.heap.size) (o := 4) (by simp <;> omega) (v := some (.slice A3 n3 c3)) (by simp [go_sem])
 have nb : w.heap.size < W1.heap.size := by have := hb.size; simp at this; omega
 have j0 := cell_next hb (b := w.heap.size + 1) (o := 0) (by simp <;> omega) (v := some (.int .i64 a)) (by simp [go_sem])
 have j1 := cell_next hb (b := w.heap.size + 1) (o := 1) (by simp <;> omega) (v := some (.int .i64 s)) (by simp [go_sem])
 have nj : w.heap.size + 1 < W1.heap.size := by have := hb.size; simp at this; omega
 have hB := (below2 hb)
 clear hb
 cases z1
 ·have hl := HL.out (by simp)
  clear HL C0
  by_cases h35 : 35 < n
  ·have d1 : decide ((35 : Int) < (n : Int)) = true := decide_eq_true (by omega)
   go_wp2_with fail
   refine (CK.out _).mono ?_
   rintro e W2 ⟨rfl, hb⟩
   replace HA := Lib.hid (HA.out.next hb)
   replace b0 := cell_next hb nb b0
   replace b1 := cell_next hb nb b1
   replace b2 := cell_next hb nb b2
   replace b3 := cell_next hb nb b3
   replace b4 := cell_next hb nb b4
   replace nb := Nat.lt_of_lt_of_le nb hb.size
   replace j0 := cell_next hb nj j0
   replace j1 := cell_next hb nj j1
   replace nj := Nat.lt_of_lt_of_le nj hb.size
   replace hB := hB.trans (hb.mono hB.size)
   clear hb
   go_wp2_with fail
   go_ret
   exact ⟨rfl, hB⟩
  ·have d1 : decide ((35 : Int) < (n : Int)) = false := decide_eq_false (by omega)
   replace CX := Lib.hid (CX.out (by omega))
   replace CM := Lib.hid (CM.out (by omega))
   go_wp2_with fail
   refine (CX.out _ HA.out).mono ?_
   rintro e W2 ⟨vi, rfl, HI, hb⟩
   replace HI := Lib.hid HI
   clear CX
   replace HA := Lib.hid (HA.out.next hb)
   replace b0 := cell_next hb nb b0
   replace b1 := cell_next hb nb b1
   replace b2 := cell_next hb nb b2
   replace b3 := cell_next hb nb b3
   replace b4 := cell_next hb nb b4
   replace nb := Nat.lt_of_lt_of_le nb hb.size
   replace j0 := cell_next hb nj j0
   replace j1 := cell_next hb nj j1
   replace nj := Nat.lt_of_lt_of_le nj hb.size
   replace hB := hB.trans (hb.mono hB.size)
   clear hb
   go_wp2_with fail
   have hBW : W2.heap.size ≤ W2.heap.size := Nat.le_refl _
   refine wp_region_held_drew (S := fun w' => w'.cell? ⟨w.heap.size, 0, none⟩ = some (.slice A1 n1 c1) ∧ w'.cell? ⟨w.heap.size, 1, none⟩ = some (.slice A2 n2 c2) ∧ w'.cell? ⟨w.heap.size, 2, none⟩ = some (.int .i64 bl) ∧ w'.cell? ⟨w.heap.size, 3, none⟩ = some (.int .i64 bh) ∧ w'.cell? ⟨w.heap.size, 4, none⟩ = some (.slice A3 n3 c3) ∧ w'.cell? ⟨w.heap.size + 1, 0, none⟩ = some (.int .i64 a) ∧ w'.cell? ⟨w.heap.size + 1, 1, none⟩ = some (.int .i64 s) ∧ True) (by kernel_rfl) ?_ (fun hHeld => ?_)
   focus (exact ⟨b0, b1, b2, b3, b4, j0, j1, trivial⟩)
   have hL : Below W2.heap.size W2 W2.drew := Below.drew (Below.refl _ _)
   replace b0 : W2.drew.cell? ⟨w.heap.size, 0, none⟩ = some (.slice A1 n1 c1) := b0
   replace b1 : W2.drew.cell? ⟨w.heap.size, 1, none⟩ = some (.slice A2 n2 c2) := b1
   replace b2 : W2.drew.cell? ⟨w.heap.size, 2, none⟩ = some (.int .i64 bl) := b2
   replace b3 : W2.drew.cell? ⟨w.heap.size, 3, none⟩ = some (.int .i64 bh) := b3
   replace b4 : W2.drew.cell? ⟨w.heap.size, 4, none⟩ = some (.slice A3 n3 c3) := b4
   replace j0 : W2.drew.cell? ⟨w.heap.size + 1, 0, none⟩ = some (.int .i64 a) := j0
   replace j1 : W2.drew.cell? ⟨w.heap.size + 1, 1, none⟩ = some (.int .i64 s) := j1
   replace nb : w.heap.size < W2.drew.heap.size := nb
   replace nj : w.heap.size + 1 < W2.drew.heap.size := nj
   replace HA : Hid (RsAt 4 cAc W2.drew.heap.size W2.drew (.slice A4 n c4) l) := Lib.hid HA.out
   replace HI : Hid (RsAt 4 cAc W2.drew.heap.size W2.drew vi l) := Lib.hid HI.out
   generalize hWd : W2.drew = wd4 at hHeld hL b0 b1 b2 b3 b4 j0 j1 nb nj HA HI ⊢
   clear hWd
   refine tq 0 26 ?_ ?_ ?_; rotate_left; (focus intro w h; (try dsimp only at h); go_simp; try with_reducible rfl); try simp only [sA, sB, sC]
   refine tq 2 28 ?_ ?_ ?_; rotate_left; (focus intro w h; (try dsimp only at h); go_simp; try with_reducible rfl); try simp only [sA, sB, sC]
   refine tq 3 29 ?_ ?_ ?_; rotate_left; (focus intro w h; (try dsimp only at h); go_simp; try with_reducible rfl); try simp only [sA, sB, sC]
   refine rd1 1 (fun K hK => ?_)
   go_simp
   refine (CO.out hl _ (hB.trans (hL.mono hB.size))).mono ?_
   rintro e Z4x1 ⟨u1, u2, u3, rfl, HC, hb⟩
   replace b0 := cell_next hb nb b0
   replace b1 := cell_next hb nb b1
   replace b2 := cell_next hb nb b2
   replace b3 := cell_next hb nb b3
   replace b4 := cell_next hb nb b4
   replace j0 := cell_next hb nj j0
   replace j1 := cell_next hb nj j1
   replace nb := Nat.lt_of_lt_of_le nb hb.size
   replace nj := Nat.lt_of_lt_of_le nj hb.size
   replace hL := hL.trans (hb.mono (Nat.le_trans hBW hL.size))
   replace HA := Lib.hid (HA.out.next hb)
   replace HI := Lib.hid (HI.out.next hb)
   refine hK.out _ _ ⟨b0, b1, b2, b3, b4, j0, j1, trivial⟩ (fun hHeld => ?_)
   clear hK K hb
   try simp only [Act.put, sA, sB, sC]
   refine rd1 4 (fun K hK => ?_)
   go_simp
   refine (CM.out _ _ _ _ _ HC HI.out).mono ?_
   rintro e Z4x2 ⟨sv1, at1, er1, rfl, hb, hm1, ho1, hz1⟩
   replace b0 := cell_next hb nb b0
   replace b1 := cell_next hb nb b1
   replace b2 := cell_next hb nb b2
   replace b3 := cell_next hb nb b3
   replace b4 := cell_next hb nb b4
   replace j0 := cell_next hb nj j0
   replace j1 := cell_next hb nj j1
   replace nb := Nat.lt_of_lt_of_le nb hb.size
   replace nj := Nat.lt_of_lt_of_le nj hb.size
   replace hL := hL.trans (hb.mono (Nat.le_trans hBW hL.size))
   replace HA := Lib.hid (HA.out.next hb)
   replace HI := Lib.hid (HI.out.next hb)
   refine hK.out _ _ ⟨b0, b1, b2, b3, b4, j0, j1, trivial⟩ (fun hHeld => ?_)
   clear hK K hb
   try simp only [Act.put, sA, sB, sC]
   refine tq 5 25 ?_ ?_ ?_; rotate_left; (focus intro w h; (try dsimp only at h); go_simp; try with_reducible rfl); try simp only [sA, sB, sC]
   refine tq 6 31 ?_ ?_ ?_; rotate_left; (focus intro w h; (try dsimp only at h); go_simp; try with_reducible rfl); try simp only [sA, sB, sC]
   refine tq 7 32 ?_ ?_ ?_; rotate_left; (focus intro w h; (try dsimp only at h); go_simp; try with_reducible rfl); try simp only [sA, sB, sC]
   refine tq 8 33 ?_ ?_ ?_; rotate_left; (focus intro w h; (try dsimp only at h); go_simp; try with_reducible rfl); try simp only [sA, sB, sC]
   refine tq 9 8 ?_ ?_ ?_; rotate_left; (focus intro w h; (try dsimp only at h); go_simp; try with_reducible rfl); try simp only [sA, sB, sC]
   refine tq 10 9 ?_ ?_ ?_; rotate_left; (focus intro w h; (try dsimp only at h); go_simp; try with_reducible rfl); try simp only [sA, sB, sC]
   refine tq 11 10 ?_ ?_ ?_; rotate_left; (focus intro w h; (try dsimp only at h); go_simp; try with_reducible rfl); try simp only [sA, sB, sC]
   refine wpAnyH_done (by kernel_rfl) ?_ _
   replace hB := hB.trans (hL.mono hB.size)
   clear hHeld hL hBW
   replace hm1 := Lib.hid hm1
   have HS := Lib.hid (fun h => own_rs LEN.out (ho1 h))
   clear CM CO HC ho1
   go_wp2_with fail
   refine (CR.out hl _ hB).mono ?_
   rintro e W3 ⟨sv2, at2, er2, rfl, hb, hm2, ho2, hz2⟩
   replace hm2 := Lib.hid hm2
   replace HS := Lib.hid (fun h => (HS.out h).next hb)
   have HW := Lib.hid (fun h => own_rs LEN.out (ho2 h))
   clear CR ho2
   replace HA := Lib.hid (HA.out.next hb)
   replace HI := Lib.hid (HI.out.next hb)
   replace b0 := cell_next hb nb b0
   replace b1 := cell_next hb nb b1
   replace b2 := cell_next hb nb b2
   replace b3 := cell_next hb nb b3
   replace b4 := cell_next hb nb b4
   replace nb := Nat.lt_of_lt_of_le nb hb.size
   replace j0 := cell_next hb nj j0
   replace j1 := cell_next hb nj j1
   replace nj := Nat.lt_of_lt_of_le nj hb.size
   replace hB := hB.trans (hb.mono hB.size)
   clear hb
   obtain ⟨e8, e9⟩ := ONE.out _ _ _ _ hm1.out hm2.out
   subst e8 e9
   clear hm1 hm2 ONE
   by_cases hE : er1 = 0
   ·subst hE
    replace HS := Lib.hid (HS.out rfl)
    replace HW := Lib.hid (HW.out rfl)
    obtain ⟨B1, d1', e1⟩ := HS.out.slice
    obtain ⟨B2, d2', e2⟩ := HW.out.slice
    rw [LEN.out] at e1 e2
    subst e1 e2
    clear hz1 hz2
    obtain ⟨A5, c5, e5⟩ := HI.out.slice
    rw [NN.out] at e5
    subst e5
    go_wp2_with fail
    go_loopw [14] (fun i wr => ∃ k : Nat, k ≤ n ∧ i = .int .i64 k ∧ Below W3.heap.size W3 wr) (fun i _ => n - (RowKit.intOf i).toNat)
    case atStart => exact ⟨0, Nat.zero_le _, rfl, Below.refl _ _⟩
    case round =>
     obtain ⟨k, hk, rfl, hb⟩ := hrel
     by_cases hlt : (k : Int) < (n : Int)
     ·obtain ⟨p, hp⟩ : ∃ p, l[k]? = some p := ⟨_, List.getElem?_eq_getElem (by rw [NN.out]; omega)⟩
      obtain ⟨g1, o1, rfl, h1, q1⟩ := (HA.out.next hb).rowM hp
      obtain ⟨g2, o2, rfl, h2, q2⟩ := (HI.out.next hb).rowM hp
      have zlt : decide ((k : Int) < (n : Int)) = true := decide_eq_true hlt
      clear hp
      have x0 := q1 0 _ rfl
      have y0 := q2 0 _ rfl
      have x1 := q1 1 _ rfl
      have y1 := q2 1 _ rfl
      have x2 := q1 2 _ rfl
      have y2 := q2 2 _ rfl
      have x3 := q1 3 _ rfl
      have y3 := q2 3 _ rfl
      obtain ⟨p2, hp2⟩ : ∃ p, L[k]? = some p := ⟨_, List.getElem?_eq_getElem (by rw [LEN.out]; omega)⟩
      obtain ⟨g3, o3, rfl, h3, q3⟩ := (HS.out.next hb).rowM hp2
      obtain ⟨g4, o4, rfl, h4, q4⟩ := (HW.out.next hb).rowM hp2
      clear hp2
      have s0 := q3 0 _ rfl
      have w0 := q4 0 _ rfl
      have s1 := q3 1 _ rfl
      have w1 := q4 1 _ rfl
      have s2 := q3 2 _ rfl
      have w2 := q4 2 _ rfl
      have s3 := q3 3 _ rfl
      have w3 := q4 3 _ rfl
      have s4 := q3 4 _ rfl
      have w4 := q4 4 _ rfl
      have s5 := q3 5 _ rfl
      have w5 := q4 5 _ rfl
      have s6 := q3 6 _ rfl
      have w6 := q4 6 _ rfl
      have s7 := q3 7 _ rfl
      have w7 := q4 7 _ rfl
      have s8 := q3 8 _ rfl
      have w8 := q4 8 _ rfl
      have s9 := q3 9 _ rfl
      have w9 := q4 9 _ rfl
      simp only [Nat.add_zero] at x0 y0 s0 w0
      clear q1 q2 q3 q4
      go_wp2_with fail
      go_quiet (fail)
      go_wp2_with fail
      go_roundw
      case rel => exact ⟨k + 1, by omega, by go_num, below_drewN hb _⟩
      case measure => simp [RowKit.intOf]; omega
     ·obtain rfl : n = k := by omega
      have zlt : decide ((n : Int) < (n : Int)) = false := decide_eq_false hlt
      have hB2 := hB.trans (hb.mono hB.size)
      go_wp2_with fail
      refine (CK.out _).mono ?_
      rintro e W9 ⟨rfl, hb9⟩
      go_wp2_with fail
      go_ret
      exact ⟨rfl, hB2.trans (hb9.mono hB2.size)⟩
   ·have hq1 : (er1 == 0) = false := by simpa using hE
    have hq2 : (er1 != 0) = true := by simpa using hE
    have hq3 : decide (er1 = 0) = false := decide_eq_false hE
    obtain rfl := hz1 hE
    obtain rfl := hz2 hE
    clear HS HW
    obtain ⟨A5, c5, e5⟩ := HI.out.slice
    rw [NN.out] at e5
    subst e5
    go_wp2_with fail
    go_loopw [14] (fun i wr => ∃ k : Nat, k ≤ n ∧ i = .int .i64 k ∧ Below W3.heap.size W3 wr) (fun i _ => n - (RowKit.intOf i).toNat)
    case atStart => exact ⟨0, Nat.zero_le _, rfl, Below.refl _ _⟩
    case round =>
     obtain ⟨k, hk, rfl, hb⟩ := hrel
     by_cases hlt : (k : Int) < (n : Int)
     ·obtain ⟨p, hp⟩ : ∃ p, l[k]? = some p := ⟨_, List.getElem?_eq_getElem (by rw [NN.out]; omega)⟩
      obtain ⟨g1, o1, rfl, h1, q1⟩ := (HA.out.next hb).rowM hp
      obtain ⟨g2, o2, rfl, h2, q2⟩ := (HI.out.next hb).rowM hp
      have zlt : decide ((k : Int) < (n : Int)) = true := decide_eq_true hlt
      clear hp
      have x0 := q1 0 _ rfl
      have y0 := q2 0 _ rfl
      have x1 := q1 1 _ rfl
      have y1 := q2 1 _ rfl
      have x2 := q1 2 _ rfl
      have y2 := q2 2 _ rfl
      have x3 := q1 3 _ rfl
      have y3 := q2 3 _ rfl
      simp only [Nat.add_zero] at x0 y0
      clear q1 q2
      go_wp2_with fail
      go_quiet (fail)
      go_wp2_with fail
      go_roundw
      case rel => exact ⟨k + 1, by omega, by go_num, below_drewN hb _⟩
      case measure => simp [RowKit.intOf]; omega
     ·obtain rfl : n = k := by omega
      have zlt : decide ((n : Int) < (n : Int)) = false := decide_eq_false hlt
      have hB2 := hB.trans (hb.mono hB.size)
      go_wp2_with fail
      refine (CK.out _).mono ?_
      rintro e W9 ⟨rfl, hb9⟩
      go_wp2_with fail
      go_ret
      exact ⟨rfl, hB2.trans (hb9.mono hB2.size)⟩
 ·go_wp2_with fail
  refine (CK.out _).mono ?_
  rintro e W2 ⟨rfl, hb⟩
  replace HA := Lib.hid (HA.out.next hb)
  replace b0 := cell_next hb nb b0
  replace b1 := cell_next hb nb b1
  replace b2 := cell_next hb nb b2
  replace b3 := cell_next hb nb b3
  replace b4 := cell_next hb nb b4
  replace nb := Nat.lt_of_lt_of_le nb hb.size
  replace j0 := cell_next hb nj j0
  replace j1 := cell_next hb nj j1
  replace nj := Nat.lt_of_lt_of_le nj hb.size
  replace hB := hB.trans (hb.mono hB.size)
  clear hb
  go_wp2_with fail
  go_ret
  exact ⟨rfl, hB⟩
end Go.Proofs.YtgklpbgdimkhaaaGreat
