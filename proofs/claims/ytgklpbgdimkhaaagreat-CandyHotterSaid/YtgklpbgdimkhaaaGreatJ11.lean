/- Contracts of package candy: canBe, Products. -/
import Derived.Test.YtgklpbgdimkhaaaGreatJ10
import Derived.Test.YtgklpbgdimkhaaaGreatSh
import Derived.Lib.OwnBridge
import Derived.Maps.OwnIn
import Derived.Sort.OwnSortedInts
namespace Go.Proofs.YtgklpbgdimkhaaaGreat
open Go.RowKit Go.Lib Go.Shelf Go.Sort
set_option linter.unusedVariables false
set_option linter.unusedSimpArgs false
attribute [local go_sem ↓] Go.wp_at_zero Go.wp_at_succ

attribute [local go_sem] Oper.semAt_some
theorem own_set1 {w : World} {base : Nat} {e : TypeId} {size : Nat} {v : Value} {n : Nat} {xs : List Value} (h : w.ownsRow base e size v n xs) {b : Nat} (hne : v.ownBlock ≠ some b) (o : Nat) (x : Value) : (w.setCell ⟨b, o, none⟩ x).ownsRow base e size v n xs := by
 have g1 : w.grownBy (w.setCell ⟨b, o, none⟩ x) (some b) := ⟨rfl, rfl, rfl, by simp [World.setCell], fun i hi hn => Below.heap_setCell w ⟨b, o, none⟩ x i (by rintro rfl; exact hn rfl)⟩
 exact h.kept g1 (.inr hne)
theorem grown_keep {W w' : World} {row : Option Nat} (h : W.grownBy w' row) {b o : Nat} {v : Option Value} (hb : b < W.heap.size) (hne : row ≠ some b) (hc : W.cell? ⟨b, o, none⟩ = v) : w'.cell? ⟨b, o, none⟩ = v :=
 (World.cell?_of_block (h.block b hb (by first | exact hne | exact fun e => hne e.symm))).trans hc
theorem grown_keepf {W w' : World} {row : Option Nat} (h : W.grownBy w' row) {b o : Nat} {v : Bool} (hb : b < W.heap.size) (hne : row ≠ some b) (hc : W.frozen? ⟨b, o, none⟩ = v) : w'.frozen? ⟨b, o, none⟩ = v :=
 (World.frozen?_of_block (h.block b hb (by first | exact hne | exact fun e => hne e.symm))).trans hc

theorem pointsF_any (a0 b0 a1 b1 a2 b2 : Int) (A : Option Addr) (n cp : Nat) (w : World) : Calls Tryz.prog 98 #[.agg #[.int .i64 a0, .int .i64 b0, .int .i64 a1, .int .i64 b1, .int .i64 a2, .int .i64 b2], .slice A n cp] w fun e w' =>
  e = .returned (.func (Fn.func 124) #[] #[.pointer (some ⟨w.heap.size, 0, none⟩), .pointer (some ⟨w.heap.size + 1, 0, none⟩)]) ∧ (∀ j u, (cCu ⟨a0, b0, a1, b1, a2, b2⟩)[j]? = some u → w'.cell? ⟨w.heap.size, j, none⟩ = some u) ∧ w'.cell? ⟨w.heap.size + 1, 0, none⟩ = some (.slice A n cp) ∧ w'.heap.size = w.heap.size + 2 ∧ Below w.heap.size w w' := by
 go_enter Tryz.func98, Tryz.ntmps98
 go_wp2_with fail
 go_ret
 refine ⟨rfl, fun j u hj => ?_, by simp [go_sem], by simp, below_al2 w _ _⟩
 rcases j with _ | j
 ·simp [cCu] at hj; subst hj; simp [go_sem]
 rcases j with _ | j
 ·simp [cCu] at hj; subst hj; simp [go_sem]
 rcases j with _ | j
 ·simp [cCu] at hj; subst hj; simp [go_sem]
 rcases j with _ | j
 ·simp [cCu] at hj; subst hj; simp [go_sem]
 rcases j with _ | j
 ·simp [cCu] at hj; subst hj; simp [go_sem]
 rcases j with _ | j
 ·simp [cCu] at hj; subst hj; simp [go_sem]
 ·simp [cCu] at hj
/-- the products of some truths, each once, in the order in which they come -/
def ddL (f : Pt → Int) (d : List Pt) : List Int := d.foldl (fun acc p => if acc.contains (f p) then acc else acc ++ [f p]) []
theorem ddL_snoc (f : Pt → Int) (d : List Pt) (p : Pt) : ddL f (d ++ [p]) = if (ddL f d).contains (f p) then ddL f d else ddL f d ++ [f p] := by simp [ddL, List.foldl_append]
theorem ddL_fold (f : Pt → Int) : ∀ (d : List Pt) (acc : List Int), acc.Nodup → (d.foldl (fun acc p => if acc.contains (f p) then acc else acc ++ [f p]) acc).Nodup ∧ ∀ n, n ∈ (d.foldl (fun acc p => if acc.contains (f p) then acc else acc ++ [f p]) acc) ↔ n ∈ acc ∨ ∃ p ∈ d, f p = n := by
 intro d
 induction d with
 | nil => intro acc h; exact ⟨h, fun n => by simp⟩
 | cons p d ih =>
  intro acc h
  rw [List.foldl_cons]
  by_cases hc : acc.contains (f p) = true
  ·rw [if_pos hc]
   obtain ⟨h1, h2⟩ := ih acc h
   refine ⟨h1, fun n => ?_⟩
   rw [h2 n]
   have hm : f p ∈ acc := by simpa using hc
   constructor
   ·rintro (h3 | ⟨q, hq, e⟩)
    ·exact .inl h3
    ·exact .inr ⟨q, List.mem_cons_of_mem _ hq, e⟩
   ·rintro (h3 | ⟨q, hq, e⟩)
    ·exact .inl h3
    ·rcases List.mem_cons.1 hq with rfl | hq
     ·exact .inl (e ▸ hm)
     ·exact .inr ⟨q, hq, e⟩
  ·rw [if_neg hc]
   have hm : f p ∉ acc := by simpa using hc
   obtain ⟨h1, h2⟩ := ih (acc ++ [f p]) (by
    rw [List.nodup_append]
    refine ⟨h, by simp, fun a ha b hb => ?_⟩
    simp at hb; subst hb
    intro e; subst e; exact hm ha)
   refine ⟨h1, fun n => ?_⟩
   rw [h2 n, List.mem_append]
   constructor
   ·rintro ((h3 | h3) | ⟨q, hq, e⟩)
    ·exact .inl h3
    ·simp at h3; exact .inr ⟨p, by simp, h3.symm⟩
    ·exact .inr ⟨q, List.mem_cons_of_mem _ hq, e⟩
   ·rintro (h3 | ⟨q, hq, e⟩)
    ·exact .inl (.inl h3)
    ·rcases List.mem_cons.1 hq with rfl | hq
     ·exact .inl (.inr (by simp [e]))
     ·exact .inr ⟨q, hq, e⟩
theorem ddL_nodup (f : Pt → Int) (d : List Pt) : (ddL f d).Nodup := (ddL_fold f d [] List.nodup_nil).1
theorem ddL_mem (f : Pt → Int) (d : List Pt) (n : Int) : n ∈ ddL f d ↔ ∃ p ∈ d, f p = n := by rw [ddL, (ddL_fold f d [] List.nodup_nil).2 n]; simp
/-- numbers that differ and lie in a short range are few -/
theorem nodup_few : ∀ (m : Nat) (a : Int) (l : List Int), l.Nodup → (∀ n ∈ l, a ≤ n ∧ n < a + m) → l.length ≤ m := by
 intro m
 induction m with
 | zero => intro a l _ h; cases l with
  | nil => simp
  | cons x l => have := h x (by simp); omega
 | succ m ih =>
  intro a l hn h
  by_cases hm : a + m ∈ l
  ·obtain ⟨l1, l2, rfl⟩ := List.append_of_mem hm
   rw [List.nodup_append] at hn
   obtain ⟨n1, n2, n3⟩ := hn
   rw [List.nodup_cons] at n2
   have := ih a (l1 ++ l2) (by rw [List.nodup_append]; exact ⟨n1, n2.2, fun x hx y hy => n3 x hx y (List.mem_cons_of_mem _ hy)⟩) (fun n hn => by
    rw [List.mem_append] at hn
    have h1 := h n (by rw [List.mem_append]; rcases hn with hn | hn; exact .inl hn; exact .inr (List.mem_cons_of_mem _ hn))
    have h2 : n ≠ a + m := by
     rintro rfl
     rcases hn with hn | hn
     ·exact n3 _ hn _ (by simp) rfl
     ·exact n2.1 hn
    omega)
   simp only [List.length_append, List.length_cons] at this ⊢
   omega
  ·have := ih a l hn (fun n hn => by have h1 := h n hn; have h2 : n ≠ a + m := fun e => hm (e ▸ hn); omega)
   omega
theorem ixF_lt {α : Type} (p : α → Bool) (xs : List α) : -1 ≤ ixF p xs ∧ ixF p xs < xs.length ∨ ixF p xs = -1 := by
 unfold ixF
 split
 ·rename_i h
  have := List.findIdx_lt_length_of_exists (p := p) (xs := xs) (by simpa [List.any_eq_true] using h)
  left; omega
 ·right; rfl
/-- what a truth is -/
def pdF (sd : Int) (ps : List Pd) (q : Pt) : Int := ixF (prB sd q.1 q.2.1 q.2.2) ps
theorem ddL_len (sd : Int) (ps : List Pd) (h : ps.length ≤ 8) (d : List Pt) : (ddL (pdF sd ps) d).length ≤ 9 := by
 refine nodup_few 9 (-1) _ (ddL_nodup _ _) (fun n hn => ?_)
 obtain ⟨p, _, rfl⟩ := (ddL_mem _ _ _).1 hn
 have := ixF_lt (prB sd p.1 p.2.1 p.2.2) ps
 unfold pdF
 omega
def pdC (p : Pd) : Cu := ⟨p.dl, p.dh, p.sl, p.sh, p.tl, p.th⟩
/-- what a state can be -/
def cbL (c : Cu) (sd : Int) (ps : List Pd) : List Int := (ddL (pdF sd ps) (ptsL c (ps.map pdC))).mergeSort fun x y => decide (x ≤ y)
theorem infoCube : (Tryz.prog.info? 155).map (fun i => (i.zero, i.size, i.bytes)) = some (some (.agg #[.int .i64 0, .int .i64 0, .int .i64 0, .int .i64 0, .int .i64 0, .int .i64 0]), 6, 48) := by kernel_rfl
def flatC (l : List Cu) : List Value := l.flatMap cCu
theorem flatC_at : ∀ (L : List Cu) (k : Nat) (x : Cu), L[k]? = some x → ∀ j u, (cCu x)[j]? = some u → (flatC L)[k * 6 + j]? = some u := by
 intro L
 induction L with
 | nil => intro k x h; simp at h
 | cons a L ih =>
  intro k x h j u hj
  have hjl : j < 6 := (List.getElem?_eq_some_iff.1 hj).1
  have hal : (cCu a).length = 6 := rfl
  have e : flatC (a :: L) = cCu a ++ flatC L := by simp [flatC]
  rw [e]
  rcases k with _ | k
  ·simp at h; subst h
   rw [List.getElem?_append_left (by rw [hal]; omega), Nat.zero_mul, Nat.zero_add]; exact hj
  ·rw [List.getElem?_append_right (by rw [hal]; omega), hal, show (k + 1) * 6 + j - 6 = k * 6 + j from by omega]
   exact ih k x (by simpa using h) j u hj
theorem own_cubes {w : World} {base n : Nat} {v : Value} {Z : List Cu} (h : w.ownsRow base 155 6 v n (flatC Z)) (hn : 0 < n) : ∃ g c, v = .slice (some ⟨g, 0, none⟩) n c ∧ base ≤ g ∧ g < w.heap.size ∧ ∀ k x, Z[k]? = some x → ∀ j u, (cCu x)[j]? = some u → w.cell? ⟨g, 0 + k * 6 + j, none⟩ = some u := by
 have hc := h
 obtain ⟨_, ⟨rfl, h0⟩ | ⟨g, cap, cur, rfl, hbg, hh, hnc, _, _, _⟩⟩ := h
 ·omega
 ·refine ⟨g, cap, rfl, hbg, (Array.getElem?_eq_some_iff.1 hh).1, fun k x hk j u hj => ?_⟩
  have := hc.cells (g := g) rfl (k * 6 + j) u (flatC_at Z k x hk j u hj)
  rw [Addr.add_lit] at this
  simpa using this
theorem contains_any (B : Nat) (sv : Value) (L : List Int) (r : Int) (W : World) (h : W.ownsRow B 3 1 sv L.length (intsJ L)) (hl : L.length ≤ 1000) : Calls Tryz.prog 100 #[sv, .int .i64 r] W fun e w' => e = .returned (.bool (L.contains r)) ∧ w' = W := by
 rcases Nat.eq_zero_or_pos L.length with h0 | h0
 ·have hL : L = [] := List.eq_nil_of_length_eq_zero h0
  subst hL
  obtain ⟨_, ⟨rfl, _⟩ | ⟨g, cap, cur, rfl, _⟩⟩ := h
  ·exact Tryz.slices_Contains_int_empty none 0 r W
  ·exact Tryz.slices_Contains_int_empty _ cap r W
 ·obtain ⟨g, c, rfl, _, _, hc⟩ := own_intsJ h h0
  have := Tryz.slices_Contains_int g 0 L.length c L r W (Nat.le_refl _) (by omega) (fun j hj => by
   rw [Nat.zero_add]
   exact hc j _ (by rw [List.getD_eq_getElem?_getD, List.getElem?_eq_getElem hj]; rfl))
  rwa [List.take_length] at this
theorem own_form {W : World} {B : Nat} {T : TypeId} {s n : Nat} {sv : Value} {xs : List Value} (h : W.ownsRow B T s sv n xs) : (sv.ownBlock = none) ∨ ∃ g c, sv = .slice (some ⟨g, 0, none⟩) n c ∧ B ≤ g ∧ ∃ o, W.heap[g]? = some o ∧ o.isCells = true := by
 obtain ⟨_, ⟨rfl, _⟩ | ⟨g, cap, cur, rfl, hb, hh, _⟩⟩ := h
 ·exact .inl rfl
 ·exact .inr ⟨g, cap, rfl, hb, _, hh, rfl⟩
theorem OwnB.own {lb i : Nat} {W : World} {sv : Value} (h : OwnB lb W i) (hc : W.cell? ⟨lb, 0, none⟩ = some sv) : sv.ownBlock = some i := by
 obtain ⟨o, n, c, e⟩ := h
 rw [hc] at e; injection e with e; subst e; rfl
/-- what the body of canBe's range keeps -/
structure CbI (w : World) (B lb b : Nat) (f : Pt → Int) (d : List Pt) (W : World) : Prop where
 h : Below w.heap.size w W
 p : w.heap.size < W.heap.size
 l : lb < W.heap.size
 z : B ≤ W.heap.size
 c : W.cell? ⟨w.heap.size, 0, none⟩ = some (.pointer (some ⟨b, 0, none⟩))
 fl : W.frozen? ⟨lb, 0, none⟩ = false
 r : ∃ sv, W.cell? ⟨lb, 0, none⟩ = some sv ∧ W.ownsRow B 3 1 sv (ddL f d).length (intsJ (ddL f d))
theorem CbI.below {w W W' : World} {B lb b : Nat} {f : Pt → Int} {d : List Pt} (h : CbI w B lb b f d W) (hb : Below W.heap.size W W') : CbI w B lb b f d W' := by
 obtain ⟨sv, h1, h2⟩ := h.r
 exact ⟨h.h.trans (hb.mono h.h.size), Nat.lt_of_lt_of_le h.p hb.size, Nat.lt_of_lt_of_le h.l hb.size, Nat.le_trans h.z hb.size, cell_next hb h.p h.c, frozen_next hb h.l h.fl, sv, cell_next hb h.l h1, own_below h2 hb⟩
theorem cell_cells {W : World} {b o : Nat} {x : Value} {ob : Obj} (hc : W.cell? ⟨b, o, none⟩ = some x) (h : W.heap[b]? = some ob) : ob.isCells = true := by
 simp only [World.cell?, h] at hc
 cases ob <;> first | rfl | (simp at hc)
theorem CbI.put {w W : World} {B lb b : Nat} {f : Pt → Int} {d : List Pt} (h : CbI w B lb b f d W) (hw : w.heap.size ≤ B) {i : Nat} {o : Obj} (o' : Obj) (hi : B ≤ i) (hh : W.heap[i]? = some o) (hn : o.isCells = false) : CbI w B lb b f d (W.putObj i o') := by
 obtain ⟨sv, h1, h2⟩ := h.r
 have ne : ∀ {b o x}, W.cell? ⟨b, o, none⟩ = some x → b ≠ i := fun hc e => by subst e; rw [cell_cells hc hh] at hn; cases hn
 have hk : Kept (fun k => k = i) W (W.putObj i o') := Kept.put W o' rfl
 refine ⟨h.h.trans (below_putU W o' (Nat.le_trans hw hi)), Nat.lt_of_lt_of_le h.p hk.1, Nat.lt_of_lt_of_le h.l hk.1, Nat.le_trans h.z hk.1, (hk.cell (p := ⟨_, 0, none⟩) h.p (ne h.c)).trans h.c, (hk.frozen (p := ⟨_, 0, none⟩) h.l (ne h1)).trans h.fl, sv, (hk.cell (p := ⟨_, 0, none⟩) h.l (ne h1)).trans h1, ownsRow_kept h2 hk (fun g hg e => ?_)⟩
 rcases own_form h2 with h3 | ⟨g', c, rfl, _, ob, h4, h5⟩
 ·rw [h3] at hg; cases hg
 ·simp [Value.ownBlock] at hg; subst hg; subst e; rw [hh] at h4; injection h4 with h4; subst h4; rw [h5] at hn; cases hn
theorem CbI.own {w W : World} {B lb b : Nat} {f : Pt → Int} {d : List Pt} (h : CbI w B lb b f d W) {i : Nat} (ho : OwnB lb W i) : B ≤ i ∧ ∃ o, W.heap[i]? = some o ∧ o.isCells = true := by
 obtain ⟨sv, h1, h2⟩ := h.r
 have h3 := ho.own h1
 rcases own_form h2 with h4 | ⟨g, c, rfl, h5, ob, h6, h7⟩
 ·rw [h4] at h3; cases h3
 ·simp [Value.ownBlock] at h3; subst h3; exact ⟨h5, ob, h6, h7⟩
theorem Fr.app {lb : Nat} {X : Nat → Prop} {W w9 : World} {B n : Nat} {xs : List Value} {sv sv' : Value} (hc : W.cell? ⟨lb, 0, none⟩ = some sv) (ho : W.ownsRow B 3 1 sv n xs) (hg : W.grownBy w9 sv.ownBlock) (hnew : sv'.ownBlock = sv.ownBlock ∨ ∃ g, sv'.ownBlock = some g ∧ W.heap.size ≤ g) (hl9 : (w9.setCell ⟨lb, 0, none⟩ sv').cell? ⟨lb, 0, none⟩ = some sv') : Fr lb X W (w9.setCell ⟨lb, 0, none⟩ sv') := by
 refine ⟨by simpa [World.setCell] using hg.size, fun i o hi h1 h2 _ => ?_, fun i hi => ?_⟩
 ·refine (Below.heap_setCell _ _ _ _ (fun e => h1 e)).trans ((hg.block i (Array.getElem?_eq_some_iff.1 hi).1 (fun e => h2 ?_)).trans hi)
  rcases own_form ho with h4 | ⟨g, c, rfl, _⟩
  ·rw [h4] at e; cases e
  ·simp [Value.ownBlock] at e; subst e; exact ⟨0, _, c, hc⟩
 ·have h3 := hi.own hl9
  rcases hnew with h4 | ⟨g, h4, h5⟩
  ·left
   rw [h4] at h3
   rcases own_form ho with h6 | ⟨g, c, rfl, _⟩
   ·rw [h6] at h3; cases h3
   ·simp [Value.ownBlock] at h3; subst h3; exact ⟨0, _, c, hc⟩
  ·right; rw [h4] at h3; injection h3 with h3; omega
def CbPost (w : World) (L : List Int) (e : Ending) (w' : World) : Prop := ∃ v, e = .returned v ∧ w'.ownsRow w.heap.size 3 1 v L.length (intsJ L) ∧ Below w.heap.size w w'

set_option maxRecDepth 40000 in
set_option maxHeartbeats 4000000 in
theorem canBe_any (b : Nat) (x : St) (v1 v2 v3 : Value) (R : Cr) (w : World) (hr : crB R = true) (hx : rgB (-1000000000000000) 1000000000000000 x.dl x.dh = true) (h : BtAt b w x v1 v2 v3 R) (hv : RsAt 8 cPd w.heap.size w v3 R.ps) :
  Calls Tryz.prog 62 #[.pointer (some ⟨b, 0, none⟩)] w (CbPost w (cbL ⟨x.dl, x.dh, x.sl, x.sh, x.tl, x.th⟩ x.se R.ps)) := by
 obtain ⟨i0, hi0, hz0, hz1, hz2⟩ := info_parts infoCube
 obtain ⟨i1, hi1, hy0, hy1, hy2⟩ := info_parts infoJI
 have hps := (crB_ok hr).2.2.2.1
 have hpd := (crB_ok hr).2.2.2.2
 obtain ⟨dl, dh, hl, hh, sl, sh, tl, th, bg, se⟩ := x
 obtain ⟨xs, ys, bl, bh, ps⟩ := R
 dsimp only at *
 have np := h.n
 have HB := Lib.hid (fun (W : World) (hW : Below w.heap.size w W) => h.next hW)
 have C1 := Lib.hid (fun (p : Pd) (W : World) => cubeOf_any p W)
 have C2 := Lib.hid (fun (W : World) (hW : Below w.heap.size w W) => truths_any b dl dh sl sh tl th W (h.next hW).n ((h.next hW).c 0 _ rfl) ((h.next hW).c 1 _ rfl) ((h.next hW).c 4 _ rfl) ((h.next hW).c 5 _ rfl) ((h.next hW).c 6 _ rfl) ((h.next hW).c 7 _ rfl))
 have C3 := Lib.hid (fun (p : Pt) (W : World) (hW : Below w.heap.size w W) => product_any b se p.1 p.2.1 p.2.2 v3 ps W (by omega) (h.next hW).n ((h.next hW).c 9 _ rfl) ((h.next hW).c 14 _ rfl) ((hv.below hW (Nat.le_refl _)).mono hW.size))
 have hp14 := h.c 14 _ rfl
 have hlen := fun d => ddL_len se ps hps.2 d
 obtain ⟨Q, hQ⟩ : ∃ Q, CbPost w (cbL ⟨dl, dh, sl, sh, tl, th⟩ se ps) = Q := ⟨_, rfl⟩
 have HQ : Hid (∀ v w', w'.ownsRow w.heap.size 3 1 v (cbL ⟨dl, dh, sl, sh, tl, th⟩ se ps).length (intsJ (cbL ⟨dl, dh, sl, sh, tl, th⟩ se ps)) → Below w.heap.size w w' → Q (.returned v) w') := Lib.hid (fun v w' h h' => by rw [← hQ]; exact ⟨v, rfl, h, h'⟩)
 rw [hQ]
 have HPD := Lib.hid hpd
 have HLEN := Lib.hid hlen
 obtain ⟨A3, c3, rfl, hr3⟩ := hv
 obtain ⟨n, hn⟩ : ∃ n, ps.length = n := ⟨_, rfl⟩
 rw [hn] at hr3 hp14 hps HB
 have Hn := Lib.hid hn
 have HR := Lib.hid hr3
 clear h hr hx hpd hlen hQ hn hr3
 refine (callsIn_wide (n := 10)).1 (callsIn_of_wp_marks Tryz.func62 rfl trivial ?_ rfl)
 refine wpIn_mono (wpIn_wide.2 ?_) qm_post
 simp only [Tryz.ntmps62, List.size_toArray, List.length_cons, List.length_nil, Nat.reduceAdd, Nat.reduceSub, Array.replicate_succ, Array.replicate_zero, List.push_toArray, List.append_toArray, List.nil_append, List.cons_append]
 have p14 := fun o => cell_next ((Below.refl w.heap.size w).alloc (Nat.le_refl _) o) np hp14
 go_wp2_with fail
 have hal0 := (Below.refl w.heap.size w).alloc (Nat.le_refl _) (Obj.cells #[.pointer (some ⟨b, 0, none⟩)] 109)
 go_loopw [3, 15] (fun sv i wr => ∃ k : Nat, k ≤ n ∧ i = .int .i64 k ∧ Hid (wr.ownsRow (w.heap.size + 1) 155 6 sv k (flatC ((ps.take k).map pdC))) ∧ Below w.heap.size w wr ∧ w.heap.size < wr.heap.size ∧ wr.cell? ⟨w.heap.size, 0, none⟩ = some (.pointer (some ⟨b, 0, none⟩))) (fun _ i _ => n - (RowKit.intOf i).toNat)
 case atStart => exact ⟨0, Nat.zero_le _, rfl, Lib.hid (World.ownsRow_nil _ _ _ _), hal0, by simp, by simp [go_sem]⟩
 case round =>
  obtain ⟨k, hk, rfl, HO, hbr, nP, P0⟩ := hrel
  by_cases hlt : (k : Int) < (n : Int)
  ·obtain ⟨p, hp⟩ : ∃ x, ps[k]? = some x := ⟨_, List.getElem?_eq_getElem (by have := Hn.out; omega)⟩
   obtain ⟨g, off, rfl, hg, hc⟩ := HR.out (by omega)
   have HNX : Hid (flatC ((ps.take (k + 1)).map pdC) = flatC ((ps.take k).map pdC) ++ cCu (pdC p)) := Lib.hid (by rw [List.take_add_one, hp]; simp [flatC])
   obtain ⟨pl, ph, ql, qh, rl, rh, pse, pwo⟩ := p
   have q0 : wr.cell? ⟨g, off + k * 8, none⟩ = some (.int .i64 pl) := cell_next hbr hg (hc k _ hp 0 _ rfl)
   have q1 : wr.cell? ⟨g, off + k * 8 + 1, none⟩ = some (.int .i64 ph) := cell_next hbr hg (hc k _ hp 1 _ rfl)
   have q2 : wr.cell? ⟨g, off + k * 8 + 2, none⟩ = some (.int .i64 ql) := cell_next hbr hg (hc k _ hp 2 _ rfl)
   have q3 : wr.cell? ⟨g, off + k * 8 + 3, none⟩ = some (.int .i64 qh) := cell_next hbr hg (hc k _ hp 3 _ rfl)
   have q4 : wr.cell? ⟨g, off + k * 8 + 4, none⟩ = some (.int .i64 rl) := cell_next hbr hg (hc k _ hp 4 _ rfl)
   have q5 : wr.cell? ⟨g, off + k * 8 + 5, none⟩ = some (.int .i64 rh) := cell_next hbr hg (hc k _ hp 5 _ rfl)
   have q6 : wr.cell? ⟨g, off + k * 8 + 6, none⟩ = some (.int .i64 pse) := cell_next hbr hg (hc k _ hp 6 _ rfl)
   have q7 : wr.cell? ⟨g, off + k * 8 + 7, none⟩ = some (.int .i64 pwo) := cell_next hbr hg (hc k _ hp 7 _ rfl)
   clear hc hp
   have C1p := Lib.hid (C1.out ⟨pl, ph, ql, qh, rl, rh, pse, pwo⟩)
   dsimp only [cPd, cubB] at C1p
   go_wp2_with fail
   have hal := (Below.refl wr.heap.size wr).alloc (Nat.le_refl _) (Obj.cells #[.int .i64 pl, .int .i64 ph, .int .i64 ql, .int .i64 qh, .int .i64 rl, .int .i64 rh, .int .i64 pse, .int .i64 pwo] 41)
   refine (C1p.out _).mono ?_
   rintro e W2 ⟨rfl, hb2⟩
   have hb2' := hal.trans (hb2.mono hal.size)
   have hB2 := hbr.trans (hb2'.mono hbr.size)
   replace P0 := cell_next hb2' nP P0
   replace nP := Nat.lt_of_lt_of_le nP hb2'.size
   replace HO := Lib.hid (own_below HO.out hb2')
   clear hb2 hb2' hal hbr q0 q1 q2 q3 q4 q5 q6 q7 C1p
   go_wp2_with (at_builtin; refine wpList_append_own_at _ rfl (.tmp 19) (.tmp 22) 153 rfl (w.heap.size + 1) 155 i0 (.agg #[.int .i64 0, .int .i64 0, .int .i64 0, .int .i64 0, .int .i64 0, .int .i64 0]) 6 48 Tryz.underlying153 hi0 hz0 hz1 hz2 rfl (by decide) _ k (flatC ((ps.take k).map pdC)) rfl (HO.out.alloc _) ⟨W2.heap.size, 0, none⟩ 1 1 (cCu ⟨pl, ph, ql, qh, rl, rh⟩) rfl rfl ?_ ?_ ?_ ?_ ?_ ?_)
   case refine_1 =>
    intro j u hj
    rcases j with _ | j
    ·simp [cCu] at hj; subst hj; exact cell_new _ _ _ 0
    rcases j with _ | j
    ·simp [cCu] at hj; subst hj; exact cell_new _ _ _ 1
    rcases j with _ | j
    ·simp [cCu] at hj; subst hj; exact cell_new _ _ _ 2
    rcases j with _ | j
    ·simp [cCu] at hj; subst hj; exact cell_new _ _ _ 3
    rcases j with _ | j
    ·simp [cCu] at hj; subst hj; exact cell_new _ _ _ 4
    rcases j with _ | j
    ·simp [cCu] at hj; subst hj; exact cell_new _ _ _ 5
    ·simp [cCu] at hj
   case refine_2 => simp [cCu, Value.oneCell']
   case refine_3 => unfold maxLen; omega
   case refine_4 => omega
   case refine_5 => have := hB2.size; simp; omega
   case refine_6 =>
    intro sv' W3 hown' hgrow _ hat
    have hrow : ∀ r, Value.ownBlock _ = some r → w.heap.size + 1 ≤ r := fun r hr => (World.ownsRow.lt HO.out r hr).1
    have hal3 := (Below.refl W2.heap.size W2).alloc (Nat.le_refl _) (Obj.cells #[.int .i64 pl, .int .i64 ph, .int .i64 ql, .int .i64 qh, .int .i64 rl, .int .i64 rh] 155)
    have hB3 := (hB2.alloc hB2.size (Obj.cells #[.int .i64 pl, .int .i64 ph, .int .i64 ql, .int .i64 qh, .int .i64 rl, .int .i64 rh] 155)).grown hgrow (by have := hB2.size; simp; omega) (fun r hr => by have := hrow r hr; omega)
    replace P0 := grown_cell' hgrow (Nat.lt_of_lt_of_le nP hal3.size) (fun r hr => by have := hrow r hr; omega) (cell_next hal3 nP P0)
    replace nP := Nat.lt_of_lt_of_le (Nat.lt_of_lt_of_le nP hal3.size) hgrow.size
    have HO' : Hid (W3.ownsRow (w.heap.size + 1) 155 6 sv' (k + 1) (flatC ((ps.take (k + 1)).map pdC))) := Lib.hid (by rw [HNX.out, List.map_take]; exact hown')
    clear hown' hgrow hat hrow hal3 HO HNX
    go_wp2_with fail
    go_roundw
    case rel => exact ⟨k + 1, by omega, by go_num, HO', hB3, nP, P0⟩
    case measure => simp [RowKit.intOf]; omega
  ·obtain rfl : k = n := by omega
   have HOS : Hid (wr.ownsRow (w.heap.size + 1) 155 6 u3 k (flatC (ps.map pdC))) := Lib.hid (by have := HO.out; rwa [List.take_of_length_le (by rw [Hn.out]; exact Nat.le_refl _)] at this)
   clear HO
   obtain ⟨gq, cq, rfl, hgq, hgq2, hcq⟩ := own_cubes HOS.out (by omega)
   have HCQ := Lib.hid hcq
   clear HOS hcq
   have hal1 := (Below.refl wr.heap.size wr).alloc (Nat.le_refl _) (Obj.cells #[.slice none 0 0] 54)
   have C2b := Lib.hid (C2.out (wr.alloc (Obj.cells #[.slice none 0 0] 54)) (hbr.alloc hbr.size _))
   have P0' := cell_next hal1 nP P0
   go_wp2_with fail
   refine (C2b.out).mono ?_
   rintro e W2 ⟨rfl, hb2⟩
   have hb2' := hal1.trans (hb2.mono hal1.size)
   have hB2 := hbr.trans (hb2'.mono hbr.size)
   have L0 := cell_next hb2 (b := wr.heap.size) (o := 0) (by simp) (v := some (.slice none 0 0)) (by simp [go_sem])
   have fL0 := frozen_next hb2 (b := wr.heap.size) (o := 0) (by simp) (v := false) (by simp [go_sem])
   have nL : wr.heap.size < W2.heap.size := by have := hb2.size; simp at this; omega
   replace P0 := cell_next hb2' nP P0
   replace nP := Nat.lt_of_lt_of_le nP hb2'.size
   replace HCQ := Lib.hid (fun kk x hx j u hj => cell_next hb2' hgq2 (HCQ.out kk x hx j u hj))
   have hgL : gq < wr.heap.size := hgq2
   have hWl : w.heap.size < wr.heap.size := by omega
   replace hgq2 := Nat.lt_of_lt_of_le hgq2 hb2'.size
   generalize wr.heap.size = lb at *
   clear hb2 hb2' hal1 C2b hbr P0'
   go_wp2_with fail
   refine (pointsF_any dl dh sl sh tl th _ k cq W2).mono ?_
   rintro e W3 ⟨rfl, hc1, hc2, hsz, hb3⟩
   have hB3 := hB2.trans (hb3.mono hB2.size)
   replace P0 := cell_next hb3 nP P0
   replace L0 := cell_next hb3 nL L0
   replace fL0 := frozen_next hb3 nL fL0
   replace HCQ := Lib.hid (fun kk x hx j u hj => cell_next hb3 hgq2 (HCQ.out kk x hx j u hj))
   have hG1 : W2.heap.size < W3.heap.size := by omega
   have hG2 : W2.heap.size + 1 < W3.heap.size := by omega
   have hlbg : lb < W2.heap.size := nL
   replace nP := Nat.lt_of_lt_of_le nP hb3.size
   replace nL := Nat.lt_of_lt_of_le nL hb3.size
   have hgq3 := hgq2
   replace hgq2 := Nat.lt_of_lt_of_le hgq2 hb3.size
   generalize W2.heap.size = gp at *
   clear hb3 hB2
   have HC1 := Lib.hid hc1
   clear hc1
   go_wp2_with fail
   have hI0 : CbI w W3.heap.size lb b (pdF se ps) [] W3 := ⟨hB3, nP, nL, Nat.le_refl _, P0, fL0, _, L0, World.ownsRow_nil _ _ _ _⟩
   have hW3 := hB3.size
   have hgb : ∀ (l : Nat) (W : World), Below W3.heap.size W3 W → W3.heap.size ≤ l → CbI w W3.heap.size lb b (pdF se ps) [] W → PtC lb l W gp (gp + 1) ⟨dl, dh, sl, sh, tl, th⟩ (.slice (some ⟨gq, 0, none⟩) k cq) (ps.map pdC) := fun l W hW hl hI => by
    have sf : ∀ g, g < W3.heap.size → g ≠ lb → Sf lb l W g := fun g h1 h2 => ⟨Nat.lt_of_lt_of_le h1 hW.size, h2, by omega, fun hc => by have := (hI.own hc).1; omega⟩
    exact ⟨sf gp hG1 (by omega), sf (gp + 1) hG2 (by omega), fun j u hj => cell_next hW hG1 (HC1.out j u hj), cell_next hW hG2 hc2, _, cq, by rw [List.length_map, Hn.out], fun _ => ⟨gq, 0, rfl, sf gq hgq2 (by omega), fun kk x hx j u hj => cell_next hW hgq2 (HCQ.out kk x hx j u hj)⟩⟩
   have hbd : ∀ o ∈ ps.map pdC, ∀ ax, -1000000000000000 ≤ (axR ax o).2 ∧ (axR ax o).2 ≤ 1000000000000000 := fun o ho ax => by
    obtain ⟨p, hp, rfl⟩ := List.mem_map.1 ho
    have := HPD.out p hp
    simp only [pdB, Bool.and_eq_true] at this
    have r1 := rgB_of this.1.1.1.1
    have r2 := rgB_of this.1.1.1.2
    have r3 := rgB_of this.1.1.2
    unfold axR pdC
    split
    ·dsimp only; omega
    ·split <;> (dsimp only; omega)
   clear P0 L0 fL0 hsz
   refine (wpIn_wide (n := 10)).1 (range_own (w := W3) (ptsL ⟨dl, dh, sl, sh, tl, th⟩ (ps.map pdC)) ptE lb nL (gf := 124) (lb := #[.pointer (some ⟨gp, 0, none⟩), .pointer (some ⟨gp + 1, 0, none⟩)]) rfl (enters_of Tryz.func124 (by kernel_rfl) rfl)
    (fun l J W hW hl1 hl2 hJb hJo hY h0 => points_in 10 (by omega) dl dh sl sh tl th (ps.map pdC) (.slice (some ⟨gq, 0, none⟩) k cq) gp (gp + 1) lb l W3.heap.size J W (by rw [List.length_map, Hn.out]; omega) hbd (Nat.lt_of_lt_of_le nL hW.size) hl2 (hgb l W hW hl1 (hI0.below hW)) hJb hJo hY h0)
    ptE_size (fun d W => CbI w W3.heap.size lb b (pdF se ps) d W) hI0 (fun d W W' h hb => h.below hb) (fun d W i o o' h h1 h2 h3 => h.put hW3 o' h1 h2 h3) (fun d W i h ho => h.own ho)
    (fun d p a' W => ∃ tb : Nat, W3.heap.size ≤ tb ∧ a' = ({ tmps := #[.pointer (some ⟨b, 0, none⟩), .pointer (some ⟨w.heap.size, 0, none⟩), .slice none 0 0, .slice (some ⟨gq, 0, none⟩) k cq, undef, u5, .pointer (some ⟨lb, 0, none⟩), .pointer (some ⟨tb, 0, none⟩), undef, .pointer (some ⟨b, 0, none⟩), .pointer (some ⟨b, 0, none⟩), .pointer (some ⟨b, 10, none⟩), .pointer (some ⟨b, 14, none⟩), .slice A3 k c3, .int .i64 (k : Int), .int .i64 (k : Int), .bool false, u17, u18, u19, u20, u21, u22, u23, u24, .pointer (some ⟨b, 0, none⟩), .agg #[.int .i64 dl, .int .i64 dh, .int .i64 sl, .int .i64 sh, .int .i64 tl, .int .i64 th], .slice (some ⟨gq, 0, none⟩) k cq, .func (Fn.func 124) #[] #[.pointer (some ⟨gp, 0, none⟩), .pointer (some ⟨gp + 1, 0, none⟩)], .agg #[.int .i64 p.1, .int .i64 p.2.1, .int .i64 p.2.2], undef, undef, undef, undef, undef, undef, undef, undef, undef, undef, undef, undef, undef, undef], defers := [] } : Act) ∧ W.heap[tb]? = some (.cells #[.int .i64 p.1, .int .i64 p.2.1, .int .i64 p.2.2] 162) ∧ CbI w W3.heap.size lb b (pdF se ps) d W)
    (fun d p a' W i o o' h h1 h2 h3 => by
     obtain ⟨tb, ht, ha, hh, hI⟩ := h
     refine ⟨tb, ht, ha, ?_, hI.put hW3 o' h1 h2 h3⟩
     rw [World.putObj_heap_other (fun e => by subst e; rw [hh] at h2; injection h2 with h2; subst h2; cases h3)]
     exact hh) ?assign ?body ?done)
   case assign =>
    intro l d p W K hI hK
    obtain ⟨x, y, z⟩ := p
    simp only [ptE]
    have hbA : ∀ O, Below W.heap.size W (W.alloc O) := fun O => (Below.refl _ _).alloc (Nat.le_refl _) O
    gi_wp2
    exact hK _ _ (StayB.of_below (hbA _)) (Fr.of_below (hbA _) hI.l) ⟨W.heap.size, hI.z, rfl, heap_alloc_new W _, hI.below (hbA _)⟩
   case body =>
    rintro l d ⟨x, y, z⟩ a' W ⟨tb, htb, rfl, hobj, hI⟩
    have hbtl : tb < W.heap.size := (Array.getElem?_eq_some_iff.1 hobj).1
    have T0 : W.cell? ⟨tb, 0, none⟩ = some (.int .i64 x) := cell_of_row _ _ 0 _ _ (0, 0) hobj
    have T1 : W.cell? ⟨tb, 1, none⟩ = some (.int .i64 y) := cell_of_row _ _ 1 _ _ (0, 0) hobj
    have T2 : W.cell? ⟨tb, 2, none⟩ = some (.int .i64 z) := cell_of_row _ _ 2 _ _ (0, 0) hobj
    have P0 := hI.c
    have C3p := Lib.hid (C3.out (x, y, z) W hI.h)
    dsimp only at C3p ⊢
    obtain ⟨r, hr⟩ : ∃ r, ixF (prB se x y z) ps = r := ⟨_, rfl⟩
    rw [hr] at C3p
    have hpf : Hid (pdF se ps (x, y, z) = r) := Lib.hid hr
    have HII := Lib.hid hI
    have HLd := Lib.hid (HLEN.out d)
    clear hI hr hobj
    generalize hB5 : W3.heap.size = B5 at *
    gi_wp2
    refine ⟨trivial, (CallsIn.inRound l (callsIn_wide.2 C3p.out)).mono ?_⟩
    rintro e W4 ⟨rfl, hb4⟩
    have hI4 := HII.out.below hb4
    have hS4 : Hid (StayB B5 W W4) := Lib.hid (StayB.of_below hb4)
    have hF4 : Hid (Fr lb (fun _ => False) W W4) := Lib.hid (Fr.of_below hb4 HII.out.l)
    obtain ⟨sv, c7, hO⟩ := hI4.r
    have C4 := Lib.hid (contains_any B5 sv (ddL (pdF se ps) d) r W4 hO (by have := HLd.out; omega))
    have HI4 := Lib.hid hI4
    have HO := Lib.hid hO
    have hsn := ddL_snoc (pdF se ps) d (x, y, z)
    rw [hpf.out] at hsn
    clear hI4 hO T0 T1 T2 P0 C3p hb4 HII
    gi_wp2
    refine ⟨trivial, (CallsIn.inRound l (callsIn_wide.2 C4.out)).mono ?_⟩
    rintro e W5 ⟨rfl, rfl⟩
    cases hct : (ddL (pdF se ps) d).contains r
    ·rw [hct] at hsn
     have HSN : Hid (ddL (pdF se ps) (d ++ [(x, y, z)]) = ddL (pdF se ps) d ++ [r]) := Lib.hid (by rw [hsn]; simp)
     have hLl : (ddL (pdF se ps) d).length ≤ 9 := HLd.out
     have hB5w : w.heap.size ≤ B5 := by omega
     have i5 := HI4.out
     have l5 := i5.l
     have f5 := i5.fl
     have z5 := i5.z
     have HI5 := Lib.hid i5
     clear hct hsn C4 HLd i5 HI4
     obtain ⟨ln, hln⟩ : ∃ n, (ddL (pdF se ps) d).length = n := ⟨_, rfl⟩
     rw [hln] at HO hLl
     have HLN := Lib.hid hln
     clear hln
     gi_wp2_with (gi_at_builtin; refine wpListIn_append_own_at _ rfl (.tmp 37) (.tmp 39) 54 rfl B5 3 i1 (.int .i64 0) 1 8 Tryz.underlying54 hi1 hy0 hy1 hy2 rfl (by decide) sv ln (intsJ (ddL (pdF se ps) d)) rfl (World.ownsRow.alloc HO.out _) ⟨W5.heap.size, 0, none⟩ 1 1 [.int .i64 r] rfl rfl ?_ ?_ ?_ ?_ ?_ ?_)
     case refine_6 =>
      intro v' w9 hown' hgrow _ hat
      obtain ⟨g7, cap7, rfl, hg7a, hg7b⟩ := hown'.form (by omega)
      have hbA : Below W5.heap.size W5 (W5.alloc (.cells #[.int .i64 r] 3)) := (Below.refl _ _).alloc (Nat.le_refl _) _
      have hob : ∀ i, sv.ownBlock = some i → B5 ≤ i := fun i h => (World.ownsRow.lt HO.out i h).1
      have hoW : ∀ i, sv.ownBlock = some i → B5 ≤ i ∧ i < W5.heap.size := fun i h => World.ownsRow.lt HO.out i h
      have hlbn : sv.ownBlock ≠ some lb := fun e => by have := hob _ e; omega
      have i5 := HI5.out.below hbA
      have cA := cell_next hbA l5 c7
      have d7 := grown_keep hgrow i5.l hlbn cA
      have e7 := grown_keepf hgrow i5.l hlbn i5.fl
      have d8 := grown_keep hgrow i5.p (fun e => by have := hob _ e; omega) i5.c
      have z9 : Below w.heap.size w w9 := i5.h.grown hgrow (by have := i5.h.size; omega) (fun i h => by have := hob i h; omega)
      have ne7 : (Value.slice (some ⟨g7, 0, none⟩) (ln + 1) cap7).ownBlock ≠ some lb := fun e => by
       rcases hat with h | h
       ·exact hlbn (h.symm.trans e)
       ·rw [h] at e; injection e with e; have := hbA.size; omega
      have hcs : (w9.setCell ⟨lb, 0, none⟩ (.slice (some ⟨g7, 0, none⟩) (ln + 1) cap7)).cell? ⟨lb, 0, none⟩ = some (.slice (some ⟨g7, 0, none⟩) (ln + 1) cap7) := by simp [go_sem, d7]
      have HFr : Hid (Fr lb (fun _ => False) W (w9.setCell ⟨lb, 0, none⟩ (.slice (some ⟨g7, 0, none⟩) (ln + 1) cap7))) := Lib.hid ((hF4.out.trans (Fr.of_below hbA l5)).trans (Fr.app cA (World.ownsRow.alloc HO.out _) hgrow (by
       rcases hat with h | h
       ·exact .inl h
       ·exact .inr ⟨_, h, by simp⟩) hcs))
      have HSt : Hid (StayB B5 W (w9.setCell ⟨lb, 0, none⟩ (.slice (some ⟨g7, 0, none⟩) (ln + 1) cap7))) := Lib.hid (((hS4.out.trans (StayB.of_below hbA)).trans (fun i o hi ho hc => by
       by_cases hx : sv.ownBlock = some i
       ·exfalso
        rcases own_form HO.out with h | ⟨gg, cap, rfl, _, ob, hh, hcc⟩
        ·rw [h] at hx; cases hx
        ·simp [Value.ownBlock] at hx
         subst hx
         rw [hbA.block _ (Array.getElem?_eq_some_iff.1 hh).1, hh] at ho
         injection ho with ho
         subst ho
         rw [hcc] at hc; cases hc
       ·exact (hgrow.block i (Array.getElem?_eq_some_iff.1 ho).1 (fun e => hx e.symm)).trans ho)).trans (fun i o hi ho _ => (Below.heap_setCell _ _ _ _ (fun e => by have : i = lb := e; omega)).trans ho))
      have HFin : Hid (CbI w B5 lb b (pdF se ps) (d ++ [(x, y, z)]) (w9.setCell ⟨lb, 0, none⟩ (.slice (some ⟨g7, 0, none⟩) (ln + 1) cap7))) := Lib.hid (by
       have hz9 := hgrow.size
       have hzA := hbA.size
       refine ⟨z9.setCell (p := ⟨lb, 0, none⟩) (by show w.heap.size ≤ lb; omega) _, ?_, ?_, ?_, ?_, ?_, _, hcs, ?_⟩
       ·have := i5.p; simp [World.setCell]; omega
       ·have := i5.l; simp [World.setCell]; omega
       ·have := i5.z; simp [World.setCell]; omega
       ·rw [so (by omega)]; exact d8
       ·rw [World.frozen?_setCell]; exact e7
       ·rw [HSN.out, List.length_append, HLN.out, intsJ_snoc]
        exact own_set1 hown' ne7 0 _)
      clear hown' hgrow hat hbA hob hoW hlbn cA d8 z9 ne7 hcs i5 HO HI5 hS4 hF4 c7
      gi_wp2
      exact ⟨HSt.out, HFr.out, HFin.out⟩
     all_goals first
      | (intro i u hi; rcases i with _ | i <;> simp at hi <;> subst hi <;> exact (cell_at _ _ _ _ _ (by simp)))
      | (simp [Value.oneCell']; done)
      | (unfold maxLen; omega)
      | omega
      | (simp; omega)
    ·rw [hct] at hsn
     have HSN : Hid (ddL (pdF se ps) (d ++ [(x, y, z)]) = ddL (pdF se ps) d) := Lib.hid (by rw [hsn]; simp)
     clear hct hsn C4
     gi_wp2
     refine ⟨hS4.out, hF4.out, ?_⟩
     have := HI4.out
     exact ⟨this.h, this.p, this.l, this.z, this.c, this.fl, sv, c7, by rw [HSN.out]; exact HO.out⟩
   case done =>
    intro D W hD hI hKD
    obtain ⟨h1, h2, h3, h4, h5, h6, sv, c7, hO⟩ := hI
    have HLE := Lib.hid (HLEN.out (ptsL ⟨dl, dh, sl, sh, tl, th⟩ (ps.map pdC)))
    obtain ⟨L, hL⟩ : ∃ L, ddL (pdF se ps) (ptsL ⟨dl, dh, sl, sh, tl, th⟩ (ps.map pdC)) = L := ⟨_, rfl⟩
    have HQ' : Hid (∀ v w', w'.ownsRow w.heap.size 3 1 v (L.mergeSort fun x y => decide (x ≤ y)).length (intsJ (L.mergeSort fun x y => decide (x ≤ y))) → Below w.heap.size w w' → Q (.returned v) w') := Lib.hid (by
     have := HQ.out
     unfold cbL at this
     rwa [hL] at this)
    rw [hL] at hO HLE
    have HLE2 := HLE.out
    clear hL HQ HLE
    have hDl := (Array.getElem?_eq_some_iff.1 hKD).1
    have hW3B := hB3.size
    generalize hB5 : W3.heap.size = B5 at *
    rcases hO.2 with ⟨rfl, h0⟩ | ⟨g, cap, cur, rfl, hb, hg, hn, hm, hs, ht⟩
    ·obtain rfl : L = [] := List.eq_nil_of_length_eq_zero h0
     go_wp2_with fail
     refine (Tryz.slices_Sort_int_none none 0 W).mono ?_
     rintro e w2 ⟨rfl, rfl⟩
     go_wp2_with fail
     show LeavesInM Fence.wide 10 _ _ _ _ _ .returning _
     refine ⟨by simp, .inl ⟨D, _, rfl, run_takeDeferred hKD, ?_⟩⟩
     have HF := HQ'.out (.slice none 0 0) (w2.putObj D (.deferred none)) (by simpa [intsJ] using World.ownsRow_nil _ _ _ _) (h1.trans (below_putU w2 _ (by omega)))
     first
      | exact ⟨_, by simp [results, Tryz.results62, go_sem], HF⟩
      | exact ⟨_, by simp [results, Tryz.results62, go_sem], rfl, HF⟩
    ·obtain ⟨g', cap', e1, _, hglt, _, _, _, hH⟩ := holds_of_ownsRow (enc := Value.int .i64) hO (by simp)
     obtain ⟨rfl, rfl⟩ : g = g' ∧ cap = cap' := by simpa using e1
     have own2 := fun (n : Nat) os => ownsRow_sortedI (n := n) (os := os) (ss := L) (ts := L.mergeSort fun x y => decide (x ≤ y)) (w := W) (base := B5) (g := g) (cap := cap) (by simp) hb hg hn hm hs
     go_wp2_with fail
     refine (Tryz.slices_Sort_int g 0 cap L W hH hglt (by omega)).mono ?_
     rintro e w2 ⟨rfl, q, os, hw2⟩
     have hgr := (grownBy_sortedI (w := W) (n := q) (os := os) (g := g) (L.mergeSort fun x y => decide (x ≤ y)).toArray)
     replace own2 := own2 q os
     rw [← hw2] at hgr own2
     have hDg : D ≠ g := fun e => by subst e; rw [hg] at hKD; cases hKD
     have hB2 := h1.grown hgr h1.size (fun r hr => by cases hr; omega)
     have c72 := grown_keep hgr h3 (by simp; omega) c7
     have hKD2 := (hgr.block D hDl (by simp [hDg])).trans hKD
     clear hw2 hgr
     go_wp2_with fail
     show LeavesInM Fence.wide 10 _ _ _ _ _ .returning _
     refine ⟨by simp, .inl ⟨D, _, rfl, run_takeDeferred hKD2, ?_⟩⟩
     have hl2 : (L.mergeSort fun x y => decide (x ≤ y)).length = L.length := List.length_mergeSort _
     have HF := HQ'.out (.slice (some ⟨g, 0, none⟩) L.length cap) (w2.putObj D (.deferred none)) (by
      rw [hl2]
      exact own_monoJ (ownsRow_kept own2 (Kept.put (U := fun i => i = D) w2 _ rfl) (fun i hi e => by simp [Value.ownBlock] at hi; omega)) (by omega)) (hB2.trans (below_putU w2 _ (by omega)))
     first
      | exact ⟨_, by simp [results, Tryz.results62, go_sem], HF⟩
      | exact ⟨_, by simp [results, Tryz.results62, go_sem], rfl, HF⟩

def mxB (a b : Int) : Bool := rgB (-1000000000000000) 1000000000000000 a b
def pcB (x : St) : Bool := mxB x.dl x.dh && mxB x.sl x.sh && mxB x.tl x.th
def pcE (R : Cr) (x : St) : Int := if crB R then (if pcB x then (if x.bg then 0 else 9) else 2) else 2
def stC (x : St) : Cu := ⟨x.dl, x.dh, x.sl, x.sh, x.tl, x.th⟩
def PcPost (w : World) (R : Cr) (x : St) (e : Ending) (w' : World) : Prop :=
 ∃ v, e = .returned (.tuple #[v, .int .i64 (pcE R x)]) ∧ Below w.heap.size w w' ∧ (pcE R x = 0 → w'.ownsRow w.heap.size 3 1 v (cbL (stC x) x.se R.ps).length (intsJ (cbL (stC x) x.se R.ps))) ∧ (pcE R x ≠ 0 → v = .slice none 0 0)
theorem pc_bad {w w' : World} {R : Cr} {x : St} {E : Int} (hE : pcE R x = E) (h : E ≠ 0) (hB : Below w.heap.size w w') : PcPost w R x (.returned (.tuple #[.slice none 0 0, .int .i64 E])) w' := ⟨_, by rw [hE], hB, fun h0 => absurd (hE.symm.trans h0) h, fun _ => rfl⟩
theorem pc_good {w w' : World} {R : Cr} {x : St} {v : Value} (hE : pcE R x = 0) (ho : w'.ownsRow w.heap.size 3 1 v (cbL (stC x) x.se R.ps).length (intsJ (cbL (stC x) x.se R.ps))) (hB : Below w.heap.size w w') : PcPost w R x (.returned (.tuple #[v, .int .i64 0])) w' := ⟨_, by rw [hE], hB, fun _ => ho, fun h => absurd hE h⟩
theorem lie3v_any (lo hi a b c d e' f : Int) (g cp : Nat) (w : World) (hg : g < w.heap.size) (h0 : w.cell? ⟨g, 0, none⟩ = some (.int .i64 a)) (h1 : w.cell? ⟨g, 1, none⟩ = some (.int .i64 b)) (h2 : w.cell? ⟨g, 2, none⟩ = some (.int .i64 c)) (h3 : w.cell? ⟨g, 3, none⟩ = some (.int .i64 d)) (h4 : w.cell? ⟨g, 4, none⟩ = some (.int .i64 e')) (h5 : w.cell? ⟨g, 5, none⟩ = some (.int .i64 f)) :
  Calls Tryz.prog 44 #[.int .i64 lo, .int .i64 hi, .slice (some ⟨g, 0, none⟩) 3 cp] w fun e w' => e = .returned (.bool (rgB lo hi a b && rgB lo hi c d && rgB lo hi e' f)) ∧ Below w.heap.size w w' := by
 have hR : RsAt 2 cR w.heap.size w (.slice (some ⟨g, 0, none⟩) 3 cp) [(a, b), (c, d), (e', f)] := ⟨_, _, rfl, fun _ => ⟨g, 0, rfl, hg, fun k p hp j u hj => by
  rcases k with _ | _ | _ | k
  ·simp at hp; subst hp
   rcases j with _ | _ | j
   ·simp [cR] at hj; subst hj; simpa using h0
   ·simp [cR] at hj; subst hj; simpa using h1
   ·simp [cR] at hj
  ·simp at hp; subst hp
   rcases j with _ | _ | j
   ·simp [cR] at hj; subst hj; simpa using h2
   ·simp [cR] at hj; subst hj; simpa using h3
   ·simp [cR] at hj
  ·simp at hp; subst hp
   rcases j with _ | _ | j
   ·simp [cR] at hj; subst hj; simpa using h4
   ·simp [cR] at hj; subst hj; simpa using h5
   ·simp [cR] at hj
  ·simp at hp⟩⟩
 have c1 := lie_any lo hi (.slice (some ⟨g, 0, none⟩) 3 cp) [(a, b), (c, d), (e', f)] w (by simp) hR
 have e : (!([(a, b), (c, d), (e', f)] : List (Int × Int)).any (rgW lo hi)) = (rgB lo hi a b && rgB lo hi c d && rgB lo hi e' f) := by simp [rgW, Bool.and_assoc]
 rw [e] at c1
 exact c1

set_option maxRecDepth 20000 in
set_option maxHeartbeats 2000000 in
theorem products_any (v1 v2 v3 : Value) (R : Cr) (x : St) (w : World) (hv : CrAt w.heap.size w v1 v2 v3 R) : Calls Tryz.prog 22 #[.agg (cCr v1 v2 v3 R).toArray, .agg (cSt x).toArray] w (PcPost w R x) := by
 have C1 := Lib.hid (fun (W : World) (h : Below w.heap.size w W) => jCheck_any v1 v2 v3 R W (hv.next h))
 obtain ⟨dl, dh, hl, hh, sl, sh, tl, th, bg, se⟩ := x
 have C2 := Lib.hid (fun (W : World) (g c : Nat) => lie3v_any (-1000000000000000) 1000000000000000 dl dh sl sh tl th g c W)
 have HP0 := Lib.hid (fun (E : Int) (w' : World) => @pc_bad w w' R ⟨dl, dh, hl, hh, sl, sh, tl, th, bg, se⟩ E)
 have HP1 := Lib.hid (fun (v : Value) (w' : World) => @pc_good w w' R ⟨dl, dh, hl, hh, sl, sh, tl, th, bg, se⟩ v)
 have HE : Hid (pcE R ⟨dl, dh, hl, hh, sl, sh, tl, th, bg, se⟩ = if crB R then (if (rgB (-1000000000000000) 1000000000000000 dl dh && rgB (-1000000000000000) 1000000000000000 sl sh && rgB (-1000000000000000) 1000000000000000 tl th) = true then (if bg then 0 else 9) else 2) else 2) := Lib.hid rfl
 have C3 := Lib.hid (fun (b : Nat) (W : World) (hr : crB R = true) (hx : rgB (-1000000000000000) 1000000000000000 dl dh = true) (hW : Below w.heap.size w W) (hb : BtAt b W ⟨dl, dh, hl, hh, sl, sh, tl, th, bg, se⟩ v1 v2 v3 R) => canBe_any b ⟨dl, dh, hl, hh, sl, sh, tl, th, bg, se⟩ v1 v2 v3 R W hr hx hb (hv.next hW).p)
 obtain ⟨Q, hQ⟩ : ∃ Q, PcPost w R ⟨dl, dh, hl, hh, sl, sh, tl, th, bg, se⟩ = Q := ⟨_, rfl⟩
 rw [hQ] at HP0 HP1 ⊢
 clear hQ
 obtain ⟨A1, c1, A2, c2, A3, c3, rfl, rfl, rfl⟩ := hv.slices
 clear hv
 generalize pcE R ⟨dl, dh, hl, hh, sl, sh, tl, th, bg, se⟩ = E0 at *
 obtain ⟨xs, ys, bl, bh, ps⟩ := R
 unfold CbPost at C3
 dsimp only [cCr, cSt, stC] at *
 generalize cbL ⟨dl, dh, sl, sh, tl, th⟩ se ps = L at *
 generalize crB ⟨xs, ys, bl, bh, ps⟩ = z1 at *
 generalize rgB (-1000000000000000) 1000000000000000 dl dh = z2 at *
 generalize rgB (-1000000000000000) 1000000000000000 sl sh = z3 at *
 generalize rgB (-1000000000000000) 1000000000000000 tl th = z4 at *
 have BTC := Lib.hid (fun (b : Nat) (W : World) (n : b < W.heap.size) hc hf => (⟨n, hc, hf⟩ : BtAt b W ⟨dl, dh, hl, hh, sl, sh, tl, th, bg, se⟩ (.slice A1 xs.length c1) (.slice A2 ys.length c2) (.slice A3 ps.length c3) ⟨xs, ys, bl, bh, ps⟩))
 generalize hn1 : xs.length = n1 at *
 generalize hn2 : ys.length = n2 at *
 generalize hn3 : ps.length = n3 at *
 clear hn1 hn2 hn3
 go_enter Tryz.func22, Tryz.ntmps22
 go_wp2_with fail
 refine (C1.out _ (((Below.refl _ _).alloc (Nat.le_refl _) _).alloc (by simp) _)).mono ?_
 rintro e W1 ⟨rfl, hb⟩
 have r0 := cell_next hb (b := w.heap.size) (o := 0) (by simp <;> omega) (v := some (.slice A1 n1 c1)) (by simp [go_sem])
 have r1 := cell_next hb (b := w.heap.size) (o := 1) (by simp <;> omega) (v := some (.slice A2 n2 c2)) (by simp [go_sem])
 have r2 := cell_next hb (b := w.heap.size) (o := 2) (by simp <;> omega) (v := some (.int .i64 bl)) (by simp [go_sem])
 have r3 := cell_next hb (b := w.heap.size) (o := 3) (by simp <;> omega) (v := some (.int .i64 bh)) (by simp [go_sem])
 have r4 := cell_next hb (b := w.heap.size) (o := 4) (by simp <;> omega) (v := some (.slice A3 n3 c3)) (by simp [go_sem])
 have nr : w.heap.size < W1.heap.size := by have := hb.size; simp at this; omega
 have x0 := cell_next hb (b := w.heap.size + 1) (o := 0) (by simp <;> omega) (v := some (.int .i64 dl)) (by simp [go_sem])
 have x1 := cell_next hb (b := w.heap.size + 1) (o := 1) (by simp <;> omega) (v := some (.int .i64 dh)) (by simp [go_sem])
 have x2 := cell_next hb (b := w.heap.size + 1) (o := 2) (by simp <;> omega) (v := some (.int .i64 hl)) (by simp [go_sem])
 have x3 := cell_next hb (b := w.heap.size + 1) (o := 3) (by simp <;> omega) (v := some (.int .i64 hh)) (by simp [go_sem])
 have x4 := cell_next hb (b := w.heap.size + 1) (o := 4) (by simp <;> omega) (v := some (.int .i64 sl)) (by simp [go_sem])
 have x5 := cell_next hb (b := w.heap.size + 1) (o := 5) (by simp <;> omega) (v := some (.int .i64 sh)) (by simp [go_sem])
 have x6 := cell_next hb (b := w.heap.size + 1) (o := 6) (by simp <;> omega) (v := some (.int .i64 tl)) (by simp [go_sem])
 have x7 := cell_next hb (b := w.heap.size + 1) (o := 7) (by simp <;> omega) (v := some (.int .i64 th)) (by simp [go_sem])
 have x8 := cell_next hb (b := w.heap.size + 1) (o := 8) (by simp <;> omega) (v := some (.bool bg)) (by simp [go_sem])
 have x9 := cell_next hb (b := w.heap.size + 1) (o := 9) (by simp <;> omega) (v := some (.int .i64 se)) (by simp [go_sem])
 have nx : w.heap.size + 1 < W1.heap.size := by have := hb.size; simp at this; omega
 have hB := (below2 hb)
 clear hb
 cases z1
 ·have hE := HE.out.trans (show _ = (2 : Int) by simp)
  go_wp2_with fail
  exact HP0.out _ _ hE (by omega) hB
 ·go_wp2_with fail
  refine (C2.out _ _ _ (by simp) (by simp [go_sem]) (by simp [go_sem]) (by simp [go_sem]) (by simp [go_sem]) (by simp [go_sem]) (by simp [go_sem])).mono ?_
  rintro e W2 ⟨rfl, hb⟩
  replace r0 := cell_next (below1 hb) nr r0
  replace r1 := cell_next (below1 hb) nr r1
  replace r2 := cell_next (below1 hb) nr r2
  replace r3 := cell_next (below1 hb) nr r3
  replace r4 := cell_next (below1 hb) nr r4
  replace nr := Nat.lt_of_lt_of_le nr (below1 hb).size
  replace x0 := cell_next (below1 hb) nx x0
  replace x1 := cell_next (below1 hb) nx x1
  replace x2 := cell_next (below1 hb) nx x2
  replace x3 := cell_next (below1 hb) nx x3
  replace x4 := cell_next (below1 hb) nx x4
  replace x5 := cell_next (below1 hb) nx x5
  replace x6 := cell_next (below1 hb) nx x6
  replace x7 := cell_next (below1 hb) nx x7
  replace x8 := cell_next (below1 hb) nx x8
  replace x9 := cell_next (below1 hb) nx x9
  replace nx := Nat.lt_of_lt_of_le nx (below1 hb).size
  replace hB := hB.trans ((below1 hb).mono hB.size)
  clear hb
  generalize W1.heap.size = q2 at *
  cases z2
  ·have hE := HE.out.trans (show _ = (2 : Int) by simp)
   go_wp2_with fail
   exact HP0.out _ _ hE (by omega) hB
  ·cases z3
   ·have hE := HE.out.trans (show _ = (2 : Int) by simp)
    go_wp2_with fail
    exact HP0.out _ _ hE (by omega) hB
   ·cases z4
    ·have hE := HE.out.trans (show _ = (2 : Int) by simp)
     go_wp2_with fail
     exact HP0.out _ _ hE (by omega) hB
    ·cases bg
     ·have hE := HE.out.trans (show _ = (9 : Int) by simp)
      go_wp2_with fail
      exact HP0.out _ _ hE (by omega) hB
     ·go_wp2_with fail
      have hE := HE.out.trans (show _ = (0 : Int) by simp)
      refine (C3.out _ _ (by simp) (by simp) (hB.alloc hB.size _) (BTC.out _ _ (by simp) (bt_cells (by simp [go_sem]) (by simp [go_sem]) (by simp [go_sem]) (by simp [go_sem]) (by simp [go_sem]) (by simp [go_sem]) (by simp [go_sem]) (by simp [go_sem]) (by simp [go_sem]) (by simp [go_sem]) (by simp [go_sem]) (by simp [go_sem]) (by simp [go_sem]) (by simp [go_sem]) (by simp [go_sem])) (bt_froz (by simp [go_sem]) (by simp [go_sem]) (by simp [go_sem]) (by simp [go_sem]) (by simp [go_sem]) (by simp [go_sem]) (by simp [go_sem]) (by simp [go_sem]) (by simp [go_sem]) (by simp [go_sem]) (by simp [go_sem]) (by simp [go_sem]) (by simp [go_sem]) (by simp [go_sem]) (by simp [go_sem])))).mono ?_
      rintro e Wz ⟨u, rfl, ho, hb⟩
      have hB2 := hB.trans ((below1 hb).mono hB.size)
      have hO := Lib.hid (own_monoJ ho (show w.heap.size ≤ _ by have := hB.size; simp; omega))
      clear ho hb
      go_wp2_with fail
      exact HP1.out _ _ hE hO.out hB2
end Go.Proofs.YtgklpbgdimkhaaaGreat
