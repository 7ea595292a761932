/- Tools: a range over a function whose body owns a box and the row that it points to; package candy: points. -/
import Derived.Test.YtgklpbgdimkhaaaGreatJ9
import Derived.RangeFuncBound
import Derived.RangeFuncCalls
import Derived.RangeFuncLeaves
import Derived.Shelf.Abstract
import Derived.Shelf.RegionOpen
import Derived.OwnWalkIn
import Derived.TacticsInMore
import Derived.LoopNIn
import Derived.LoopIn
import Derived.Laws.MakeOwn
namespace Go.Proofs.YtgklpbgdimkhaaaGreat
open Go.RowKit Go.Lib Go.Shelf
set_option linter.unusedVariables false
set_option linter.unusedSimpArgs false

theorem below_putU (W : World) {k B : Nat} (o' : Obj) (h : B ≤ k) : Below B W (W.putObj k o') := ⟨rfl, rfl, rfl, by simp, fun i hi => World.putObj_heap_other (by omega)⟩
/-- how a function with marks is left, where it never panics -/
def QM (F : Fence) (n : Nat) (P : Program) (fn : Func) (R : Ending → World → Prop) : Exit → Act → World → Prop
 | .normal, a, w | .ret, a, w => LeavesInM F n P fn a.tmps R a.defers .returning w
 | _, _, _ => False
theorem qm_post {F : Fence} {n : Nat} {P : Program} {fn : Func} {R : Ending → World → Prop} (e : Exit) (a : Act) (w : World) (h : QM F n P fn R e a w) : bodyPostM F n P fn R e a w := by
 cases e <;> first | exact h | exact h.elim
attribute [local go_sem] Oper.semAt_some
/-- what is no row of cells and lies from B on lies as it lay -/
def StayB (B : Nat) (W W' : World) : Prop := ∀ (k : Nat) (o : Obj), B ≤ k → W.heap[k]? = some o → o.isCells = false → W'.heap[k]? = some o
theorem StayB.trans {B : Nat} {a b c : World} (h : StayB B a b) (k : StayB B b c) : StayB B a c := fun i o hi ho hc => k i o hi (h i o hi ho hc) hc
theorem StayB.refl (B : Nat) (W : World) : StayB B W W := fun _ _ _ h _ => h
theorem StayB.of_below {B : Nat} {W W' : World} (h : Below W.heap.size W W') : StayB B W W' := fun i o _ ho _ => (h.block i (Array.getElem?_eq_some_iff.1 ho).1).trans ho

/-- block i is the row that the box lb points to -/
def OwnB (lb : Nat) (W : World) (i : Nat) : Prop := ∃ o n c, W.cell? ⟨lb, 0, none⟩ = some (.slice (some ⟨i, o, none⟩) n c)
/-- all lies as it lay but the box lb, its row, and the blocks of X; and its row is the old one or new -/
def Fr (lb : Nat) (X : Nat → Prop) (W W' : World) : Prop :=
 W.heap.size ≤ W'.heap.size ∧ (∀ i o, W.heap[i]? = some o → i ≠ lb → ¬ OwnB lb W i → ¬ X i → W'.heap[i]? = some o) ∧ (∀ i, OwnB lb W' i → OwnB lb W i ∨ W.heap.size ≤ i)
theorem Fr.refl (lb : Nat) (X : Nat → Prop) (W : World) : Fr lb X W W := ⟨Nat.le_refl _, fun _ _ h _ _ _ => h, fun _ h => .inl h⟩
theorem Fr.trans {lb : Nat} {X : Nat → Prop} {a b c : World} (h : Fr lb X a b) (k : Fr lb X b c) : Fr lb X a c :=
 ⟨Nat.le_trans h.1 k.1, fun i o ho h1 h2 h3 => k.2.1 i o (h.2.1 i o ho h1 h2 h3) h1 (fun hc => by
  rcases h.2.2 i hc with h4 | h4
  ·exact h2 h4
  ·have := (Array.getElem?_eq_some_iff.1 ho).1; omega) h3, fun i hi => by
  rcases k.2.2 i hi with h4 | h4
  ·exact h.2.2 i h4
  ·exact .inr (Nat.le_trans h.1 h4)⟩
theorem Fr.mono {lb : Nat} {X Y : Nat → Prop} {W W' : World} (h : Fr lb X W W') (hXY : ∀ i, X i → Y i) : Fr lb Y W W' := ⟨h.1, fun i o ho h1 h2 h3 => h.2.1 i o ho h1 h2 (fun hc => h3 (hXY i hc)), h.2.2⟩
theorem OwnB.of_cell {lb i : Nat} {W W' : World} (h : OwnB lb W' i) (hc : W'.cell? ⟨lb, 0, none⟩ = W.cell? ⟨lb, 0, none⟩) : OwnB lb W i := by
 obtain ⟨o, n, c, e⟩ := h
 exact ⟨o, n, c, by rw [← hc]; exact e⟩
theorem Fr.of_below {lb : Nat} {X : Nat → Prop} {W W' : World} (h : Below W.heap.size W W') (hl : lb < W.heap.size) : Fr lb X W W' :=
 ⟨h.size, fun i o ho _ _ _ => (h.block i (Array.getElem?_eq_some_iff.1 ho).1).trans ho, fun i hi => .inl (hi.of_cell (h.cell (p := ⟨lb, 0, none⟩) hl))⟩
theorem Fr.put {lb l : Nat} (W : World) (o' : Obj) (hl : l ≠ lb) : Fr lb (fun i => i = l) W (W.putObj l o') :=
 ⟨by simp, fun i o ho _ _ h3 => (World.putObj_heap_other (fun e => h3 e)).trans ho, fun i hi => .inl (hi.of_cell (World.cell?_of_block (World.putObj_heap_other (fun e => hl e.symm))))⟩
theorem range_own {P : Program} {n : Nat} {g : Operand} {ps : Array Tmp} {assign body : Code} {Q : Exit → Act → World → Prop} {a : Act} {w : World} {gf : Nat} {lb : Array Value} {α : Type} (all : List α) (enc : α → Array Value) (bx : Nat) (hbx : bx < w.heap.size)
  (hg : a.eval g = .func (.func gf) #[] lb) (eg : ∀ args w, (callFunc gf args).run P w = .ok (.enter gf args) w)
  (iter : ∀ (l : Nat) (J : List α → World → Prop) (W : World), Below w.heap.size w W → w.heap.size ≤ l → l < W.heap.size →
   (∀ d W W', J d W → Below W.heap.size W W' → J d W') → (∀ d W i, J d W → OwnB bx W i → w.heap.size ≤ i ∧ i < W.heap.size ∧ i ≠ l) →
   (∀ d p W1, J d W1 → YieldAt Fence.wide (n - 1 - 1) P l (enc p) W1 fun e W' => e = .returned (.bool true) ∧ J (d ++ [p]) W' ∧ Fr bx (fun i => i = l) W1 W') →
   J [] W → CallsIn Fence.wide (n - 1) P gf (#[.func (.yield l) #[] #[]] ++ lb) W fun e W' => (∃ v, e = .returned v) ∧ J all W')
  (hps : ∀ p, (enc p).size = ps.size) (I : List α → World → Prop) (h0 : I [] w) (hIb : ∀ d W W', I d W → Below W.heap.size W W' → I d W')
  (hIp : ∀ d W i o o', I d W → w.heap.size ≤ i → W.heap[i]? = some o → o.isCells = false → I d (W.putObj i o'))
  (hIo : ∀ d W i, I d W → OwnB bx W i → w.heap.size ≤ i ∧ ∃ o, W.heap[i]? = some o ∧ o.isCells = true)
  (Ax : List α → α → Act → World → Prop) (hAx : ∀ d p a' W i o o', Ax d p a' W → w.heap.size ≤ i → W.heap[i]? = some o → o.isCells = false → Ax d p a' (W.putObj i o'))
  (hassign : ∀ (l : Nat) (d : List α) (p : α) (W : World) (K : Act → World → Prop), I d W → (∀ a' W', StayB w.heap.size W W' → Fr bx (fun _ => False) W W' → Ax d p a' W' → K a' W') →
   assign.wpIn (Fence.wide.inRound l) (n - 1 - 1) P (Exit.then K (fun _ _ _ => False)) { tmps := (ps.zip (enc p)).foldl (fun t (p, v) => t.setIfInBounds p v) a.tmps, defers := [] } W)
  (hbody : ∀ (l : Nat) (d : List α) (p : α) (a' : Act) (W : World), Ax d p a' W → body.wpIn (Fence.wide.inRound l) (n - 1 - 1) P (fun e _ W' => e = .normal ∧ StayB w.heap.size W W' ∧ Fr bx (fun _ => False) W W' ∧ I (d ++ [p]) W') a' W)
  (hdone : ∀ (D : Nat) (W : World), w.heap.size ≤ D → I all W → W.heap[D]? = some (.deferred (some [])) → Q .normal { a with defers := { target := .collected D, args := #[] } :: a.defers } W) :
  (Code.rangeFunc g ps assign body).wpIn Fence.wide n P Q a w := by
 refine wpIn_rangeFunc fun fn hfn => ?_
 obtain ⟨D, hD⟩ : ∃ D, w.heap.size = D := ⟨_, rfl⟩
 obtain ⟨rc, hrc⟩ : ∃ rc : LoopState → Loop, rc = fun st => { state := st, pending := none, fn, tmps := a.tmps, params := ps, assign, body, defers := D } := ⟨_, rfl⟩
 obtain ⟨w1, hw1⟩ : ∃ w1, (w.alloc (.deferred (some []))).alloc (.loop (rc .ready)) = w1 := ⟨_, rfl⟩
 have hl : w1.heap[D + 1]? = some (.loop (rc .ready)) := by
  have := World.alloc_heap_new (w.alloc (.deferred (some []))) (.loop (rc .ready))
  rw [World.size_alloc, hD] at this
  rw [← hw1]; exact this
 have hd : w1.heap[D]? = some (.deferred (some [])) := by
  rw [← hw1, ← hD]
  exact (Below.heap_alloc _ _ _ (by simp)).trans (World.alloc_heap_new w _)
 have hB1 : Below w.heap.size w w1 := by rw [← hw1]; exact ((Below.refl _ w).alloc (Nat.le_refl _) _).alloc (by simp) _
 refine ⟨D + 1, [{ target := .collected D, args := #[] }], w1, { target := .fn (.func gf) lb, args := #[.func (.yield (D + 1)) #[] #[]] }, w1, gf, #[.func (.yield (D + 1)) #[] #[]] ++ lb, w1, ?_, ?_, ?_, ?_, fun h => by simp [Fence.wide] at h, ?_⟩
 ·rw [← hw1, hrc, ← hD]; exact run_enterLoop_outer _ _ _ _ _
 ·simp only [resolve, hg]
  simp [go_sem]
 ·intro f' hf'; trivial
 ·simp [invoke, go_sem, eg]
 ·refine (iter (D + 1) (fun d W => I d W ∧ W.heap[D + 1]? = some (.loop (rc .ready)) ∧ W.heap[D]? = some (.deferred (some []))) w1 hB1 (by omega) (Array.getElem?_eq_some_iff.1 hl).1 ?_ ?_ ?_ ⟨hIb _ _ _ h0 hB1, hl, hd⟩).mono ?_
  ·rintro d W W' ⟨hi, hlW, hdW⟩ hb
   exact ⟨hIb _ _ _ hi hb, (hb.block _ (Array.getElem?_eq_some_iff.1 hlW).1).trans hlW, (hb.block _ (Array.getElem?_eq_some_iff.1 hdW).1).trans hdW⟩
  ·rintro d W i ⟨hi, hlW, hdW⟩ ho
   obtain ⟨h1, o, h2, h3⟩ := hIo _ _ _ hi ho
   refine ⟨h1, (Array.getElem?_eq_some_iff.1 h2).1, fun e => ?_⟩
   subst e
   rw [hlW] at h2; injection h2 with h2; subst h2; cases h3
  ·rintro d p W ⟨hi, hlW, hdW⟩
   have hy := run_yield (P := P) (args := enc p) hlW (by rw [hrc]; exact hps p)
   rw [hrc] at hy
   refine ⟨fn, _, assign, body, hy, roundIn_of_wpIn hfn (hassign _ d p W _ hi fun a' W2 hS2 hK2 hA2 => ?_)⟩
   have hl2 := hS2 _ _ (by omega) hlW rfl
   have hd2 := hS2 _ _ (by omega) hdW rfl
   have hlt2 := (Array.getElem?_eq_some_iff.1 hl2).1
   refine ⟨_, run_beginRound hl2 (by rw [hrc]), ?_⟩
   obtain ⟨W3, hW3⟩ : ∃ W3, W2.putObj (D + 1) (.loop { rc .ready with state := .busy }) = W3 := ⟨_, rfl⟩
   have l3 : W3.heap[D + 1]? = some (.loop { rc .ready with state := .busy }) := by rw [← hW3]; exact World.putObj_heap_same hlt2
   have d3 : W3.heap[D]? = some (.deferred (some [])) := by rw [← hW3]; exact (World.putObj_heap_other (by omega)).trans hd2
   have k3 : Fr bx (fun i => i = D + 1) W W3 := (hK2.mono fun i h => h.elim).trans (by rw [← hW3]; exact Fr.put _ _ (by omega))
   have A3 : Ax d p a' W3 := by rw [← hW3]; exact hAx _ _ _ _ _ _ _ hA2 (by omega) hl2 rfl
   rw [hW3]
   refine wpIn_mono (hbody _ d p a' W3 A3) ?_
   rintro e a4 W4 ⟨rfl, hs4, hk4, hi4⟩
   have l4 := hs4 _ _ (by omega) l3 rfl
   have d4 := hs4 _ _ (by omega) d3 rfl
   have hlt4 := (Array.getElem?_eq_some_iff.1 l4).1
   have he := run_endRound (P := P) none l4
   refine ⟨_, _, he, rfl, ⟨hIp _ _ _ _ _ hi4 (by omega) l4 rfl, ?_, ?_⟩, ?_⟩
   ·rw [World.putObj_heap_same hlt4, hrc]; rfl
   ·exact (World.putObj_heap_other (by omega)).trans d4
   ·exact (k3.trans (hk4.mono fun i h => h.elim)).trans (Fr.put _ _ (by omega))
  ·rintro e W2 ⟨⟨v, rfl⟩, hi, hlW, hdW⟩
   have hend := run_endLoop (P := P) hlW (by rw [hrc]; simp)
   rw [hrc] at hend
   exact ⟨none, _, hend, hdone D _ (by omega) (hIp _ _ _ _ _ hi (by omega) hlW rfl) ((World.putObj_heap_other (by omega)).trans hdW)⟩

/-- a block that the body of such a range leaves alone -/
def Sf (bx l : Nat) (W : World) (g : Nat) : Prop := g < W.heap.size ∧ g ≠ bx ∧ g ≠ l ∧ ¬ OwnB bx W g
theorem Sf.fr {bx l g : Nat} {W W' : World} (h : Sf bx l W g) (k : Fr bx (fun i => i = l) W W') : Sf bx l W' g :=
 ⟨Nat.lt_of_lt_of_le h.1 k.1, h.2.1, h.2.2.1, fun hc => by rcases k.2.2 g hc with h4 | h4; exact h.2.2.2 h4; have := h.1; omega⟩
theorem Sf.cell {bx l g o : Nat} {W W' : World} {x : Option Value} (h : Sf bx l W g) (k : Fr bx (fun i => i = l) W W') (hc : W.cell? ⟨g, o, none⟩ = x) : W'.cell? ⟨g, o, none⟩ = x := by
 have h1 : W.heap[g]? = some (W.heap[g]'h.1) := Array.getElem?_eq_getElem h.1
 exact (World.cell?_of_block (w := W) ((k.2.1 g _ h1 h.2.1 h.2.2.2 h.2.2.1).trans h1.symm)).trans hc
/-- a row of numbers in such a block -/
def Rw (bx l : Nat) (W : World) (vx : Value) (xs : List Int) : Prop := ∃ g c, vx = .slice (some ⟨g, 0, none⟩) xs.length c ∧ Sf bx l W g ∧ ∀ k x, xs[k]? = some x → W.cell? ⟨g, k, none⟩ = some (.int .i64 x)
theorem Rw.fr {bx l : Nat} {W W' : World} {vx : Value} {xs : List Int} (h : Rw bx l W vx xs) (k : Fr bx (fun i => i = l) W W') : Rw bx l W' vx xs := by
 obtain ⟨g, c, rfl, hs, hc⟩ := h
 exact ⟨g, c, rfl, hs.fr k, fun j x hx => hs.cell k (hc j x hx)⟩
theorem own_intsJ {w : World} {base n : Nat} {v : Value} {Z : List Int} (h : w.ownsRow base 3 1 v n (intsJ Z)) (hn : 0 < n) : ∃ g c, v = .slice (some ⟨g, 0, none⟩) n c ∧ base ≤ g ∧ g < w.heap.size ∧ ∀ k x, Z[k]? = some x → w.cell? ⟨g, k, none⟩ = some (.int .i64 x) := by
 have hc := h
 obtain ⟨_, ⟨rfl, h0⟩ | ⟨g, cap, cur, rfl, hbg, hh, hnc, _, _, _⟩⟩ := h
 ·omega
 ·refine ⟨g, cap, rfl, hbg, (Array.getElem?_eq_some_iff.1 hh).1, fun k x hk => ?_⟩
  have := hc.cells (g := g) rfl k (.int .i64 x) (by simp [intsJ, hk])
  rw [Addr.add_lit] at this
  simpa using this
/-- a row that a call has just made -/
theorem Rw.made {bx l : Nat} {W W' : World} {v : Value} {Z : List Int} (h : W'.ownsRow W.heap.size 3 1 v Z.length (intsJ Z)) (hb : Below W.heap.size W W') (hn : 0 < Z.length) (hbx : bx < W.heap.size) (hl : l < W.heap.size) (ho : ∀ i, OwnB bx W i → i < W.heap.size) : Rw bx l W' v Z := by
 obtain ⟨g, c, rfl, h1, h2, h3⟩ := own_intsJ h hn
 refine ⟨g, c, rfl, ⟨h2, by omega, by omega, fun hc => ?_⟩, h3⟩
 have := ho g (hc.of_cell (hb.cell (p := ⟨bx, 0, none⟩) hbx))
 omega
/-- what points has caught: the cube and the others -/
structure PtC (bx l : Nat) (W : World) (b1 b2 : Nat) (c : Cu) (vo : Value) (os : List Cu) : Prop where
 s1 : Sf bx l W b1
 s2 : Sf bx l W b2
 c1 : ∀ j u, (cCu c)[j]? = some u → W.cell? ⟨b1, j, none⟩ = some u
 c2 : W.cell? ⟨b2, 0, none⟩ = some vo
 o : ∃ A cp, vo = .slice A os.length cp ∧ (0 < os.length → ∃ g off, A = some ⟨g, off, none⟩ ∧ Sf bx l W g ∧ ∀ k x, os[k]? = some x → ∀ j u, (cCu x)[j]? = some u → W.cell? ⟨g, off + k * 6 + j, none⟩ = some u)
theorem PtC.fr {bx l b1 b2 : Nat} {W W' : World} {c : Cu} {vo : Value} {os : List Cu} (h : PtC bx l W b1 b2 c vo os) (k : Fr bx (fun i => i = l) W W') : PtC bx l W' b1 b2 c vo os := by
 obtain ⟨A, cp, h1, h2⟩ := h.o
 refine ⟨h.s1.fr k, h.s2.fr k, fun j u hj => h.s1.cell k (h.c1 j u hj), h.s2.cell k h.c2, A, cp, h1, fun hn => ?_⟩
 obtain ⟨g, off, hA, hs, hc⟩ := h2 hn
 exact ⟨g, off, hA, hs.fr k, fun i x hx j u hj => hs.cell k (hc i x hx j u hj)⟩
theorem PtC.rs {bx l b1 b2 : Nat} {W : World} {c : Cu} {vo : Value} {os : List Cu} (h : PtC bx l W b1 b2 c vo os) : RsAt 6 cCu W.heap.size W vo os := by
 obtain ⟨A, cp, h1, h2⟩ := h.o
 refine ⟨A, cp, h1, fun hn => ?_⟩
 obtain ⟨g, off, hA, hs, hc⟩ := h2 hn
 exact ⟨g, off, hA, hs.1, hc⟩
abbrev Pt := Int × Int × Int
def ptE (p : Pt) : Array Value := #[.agg #[.int .i64 p.1, .int .i64 p.2.1, .int .i64 p.2.2]]
theorem ptE_size (p : Pt) : (ptE p).size = 1 := rfl
def ptA (xs ys zs : List Int) : List Pt := xs.flatMap fun x => ys.flatMap fun y => zs.map fun z => (x, y, z)
def pt1 (xs ys zs : List Int) (k : Nat) : List Pt := ptA (xs.take k) ys zs
def pt2 (xs ys zs : List Int) (k : Nat) (x : Int) (j : Nat) : List Pt := pt1 xs ys zs k ++ (ys.take j).flatMap fun y => zs.map fun z => (x, y, z)
def pt3 (xs ys zs : List Int) (k : Nat) (x : Int) (j : Nat) (y : Int) (m : Nat) : List Pt := pt2 xs ys zs k x j ++ (zs.take m).map fun z => (x, y, z)
theorem pt3_zero (xs ys zs : List Int) (k : Nat) (x : Int) (j : Nat) (y : Int) : pt3 xs ys zs k x j y 0 = pt2 xs ys zs k x j := by simp [pt3]
theorem pt3_next (xs ys zs : List Int) (k : Nat) (x : Int) (j : Nat) (y : Int) (m : Nat) (z : Int) (h : zs[m]? = some z) : pt3 xs ys zs k x j y (m + 1) = pt3 xs ys zs k x j y m ++ [(x, y, z)] := by
 unfold pt3; rw [List.take_add_one, h]; simp
theorem pt3_end (xs ys zs : List Int) (k : Nat) (x : Int) (j : Nat) (y : Int) (h : ys[j]? = some y) : pt3 xs ys zs k x j y zs.length = pt2 xs ys zs k x (j + 1) := by
 have e : ys.take (j + 1) = ys.take j ++ [y] := by rw [List.take_add_one, h]; rfl
 unfold pt3 pt2; rw [List.take_of_length_le (Nat.le_refl _), e, List.flatMap_append]; simp
theorem pt2_zero (xs ys zs : List Int) (k : Nat) (x : Int) : pt2 xs ys zs k x 0 = pt1 xs ys zs k := by simp [pt2]
theorem pt2_end (xs ys zs : List Int) (k : Nat) (x : Int) (h : xs[k]? = some x) : pt2 xs ys zs k x ys.length = pt1 xs ys zs (k + 1) := by
 have e : xs.take (k + 1) = xs.take k ++ [x] := by rw [List.take_add_one, h]; rfl
 unfold pt2 pt1 ptA; rw [List.take_of_length_le (Nat.le_refl _), e, List.flatMap_append]; simp
theorem pt1_zero (xs ys zs : List Int) : pt1 xs ys zs 0 = [] := by simp [pt1, ptA]
theorem pt1_end (xs ys zs : List Int) : pt1 xs ys zs xs.length = ptA xs ys zs := by unfold pt1; rw [List.take_of_length_le (Nat.le_refl _)]
def ptsL (c : Cu) (os : List Cu) : List Pt := ptA (stpL 0 c os) (stpL 1 c os) (stpL 2 c os)
theorem stpL_len (ax : Nat) (c : Cu) (os : List Cu) : (stpL ax c os).length ≤ 1 + 2 * os.length + 2 := by rw [← stpK_end]; exact stpK_len _ _ _ _ _
theorem stpL_pos (ax : Nat) (c : Cu) (os : List Cu) : 0 < (stpL ax c os).length := by simp [stpL]

set_option maxRecDepth 40000 in
set_option maxHeartbeats 4000000 in
theorem points_in (n : Nat) (hn : 3 ≤ n) (a0 b0 a1 b1 a2 b2 : Int) (os : List Cu) (vo : Value) (g1 g2 bx l B : Nat) (J : List Pt → World → Prop) (W : World) (hos : os.length ≤ 1000)
  (hbd : ∀ o ∈ os, ∀ ax, -1000000000000000 ≤ (axR ax o).2 ∧ (axR ax o).2 ≤ 1000000000000000) (hbx : bx < W.heap.size) (hl : l < W.heap.size) (hC : PtC bx l W g1 g2 ⟨a0, b0, a1, b1, a2, b2⟩ vo os)
  (hJb : ∀ d W W', J d W → Below W.heap.size W W' → J d W') (hJo : ∀ d W i, J d W → OwnB bx W i → B ≤ i ∧ i < W.heap.size ∧ i ≠ l)
  (hY : ∀ d p W1, J d W1 → YieldAt Fence.wide (n - 1 - 1) Tryz.prog l (ptE p) W1 fun e W' => e = .returned (.bool true) ∧ J (d ++ [p]) W' ∧ Fr bx (fun i => i = l) W1 W')
  (h0 : J [] W) : CallsIn Fence.wide (n - 1) Tryz.prog 124 (#[.func (.yield l) #[] #[]] ++ #[.pointer (some ⟨g1, 0, none⟩), .pointer (some ⟨g2, 0, none⟩)]) W fun e W' => (∃ v, e = .returned v) ∧ J (ptsL ⟨a0, b0, a1, b1, a2, b2⟩ os) W' := by
 have S0 := Lib.hid (fun (W : World) (hv : RsAt 6 cCu W.heap.size W vo os) => steps0_any a0 b0 a1 b1 a2 b2 os vo W hos (fun o ho => hbd o ho 0) hv)
 have S1 := Lib.hid (fun (W : World) (hv : RsAt 6 cCu W.heap.size W vo os) => steps1_any a0 b0 a1 b1 a2 b2 os vo W hos (fun o ho => hbd o ho 1) hv)
 have S2 := Lib.hid (fun (W : World) (hv : RsAt 6 cCu W.heap.size W vo os) => steps2_any a0 b0 a1 b1 a2 b2 os vo W hos (fun o ho => hbd o ho 2) hv)
 have HY := Lib.hid hY
 have HJb := Lib.hid hJb
 have HJo := Lib.hid (fun d W i h h' => (hJo d W i h h').2)
 have H0 := Lib.hid h0
 have hC' := Lib.hid hC
 have p0 := stpL_pos 0 ⟨a0, b0, a1, b1, a2, b2⟩ os
 have l0 := stpL_len 0 ⟨a0, b0, a1, b1, a2, b2⟩ os
 have p1 := stpL_pos 1 ⟨a0, b0, a1, b1, a2, b2⟩ os
 have l1 := stpL_len 1 ⟨a0, b0, a1, b1, a2, b2⟩ os
 have p2 := stpL_pos 2 ⟨a0, b0, a1, b1, a2, b2⟩ os
 have l2 := stpL_len 2 ⟨a0, b0, a1, b1, a2, b2⟩ os
 unfold ptsL
 obtain ⟨xs, hxs⟩ : ∃ xs, stpL 0 ⟨a0, b0, a1, b1, a2, b2⟩ os = xs := ⟨_, rfl⟩
 obtain ⟨ys, hys⟩ : ∃ xs, stpL 1 ⟨a0, b0, a1, b1, a2, b2⟩ os = xs := ⟨_, rfl⟩
 obtain ⟨zs, hzs⟩ : ∃ xs, stpL 2 ⟨a0, b0, a1, b1, a2, b2⟩ os = xs := ⟨_, rfl⟩
 rw [hxs] at S0 p0 l0 ⊢
 rw [hys] at S1 p1 l1 ⊢
 rw [hzs] at S2 p2 l2 ⊢
 have k0 : W.cell? ⟨g1, 0, none⟩ = some (.int .i64 a0) := hC.c1 0 _ rfl
 have k1 : W.cell? ⟨g1, 1, none⟩ = some (.int .i64 b0) := hC.c1 1 _ rfl
 have k2 : W.cell? ⟨g1, 2, none⟩ = some (.int .i64 a1) := hC.c1 2 _ rfl
 have k3 : W.cell? ⟨g1, 3, none⟩ = some (.int .i64 b1) := hC.c1 3 _ rfl
 have k4 : W.cell? ⟨g1, 4, none⟩ = some (.int .i64 a2) := hC.c1 4 _ rfl
 have k5 : W.cell? ⟨g1, 5, none⟩ = some (.int .i64 b2) := hC.c1 5 _ rfl
 have k6 := hC.c2
 obtain ⟨A, cp, rfl, _⟩ := hC.o
 clear hxs hys hzs hY hJb hJo h0 hC hbd
 obtain ⟨m, hm⟩ : ∃ m, os.length = m := ⟨_, rfl⟩
 rw [hm] at S0 S1 S2 hC' k6
 unfold StpPost at S0 S1 S2
 refine callsIn_of_wp Tryz.func124 rfl trivial ?_ rfl
 simp only [Tryz.ntmps124, List.size_toArray, List.length_cons, List.length_nil, Nat.reduceAdd, Nat.reduceSub, Array.replicate_succ, Array.replicate_zero, List.push_toArray, List.append_toArray, List.nil_append, List.cons_append]
 gi_wp2
 refine ⟨trivial, fun _ => by omega, (callsIn_wide.2 (S0.out W hC'.out.rs)).mono ?_⟩
 have nbx := hbx
 have nl := hl
 have HJ := H0
 have HC := hC'
 rintro e Wa ⟨vx, rfl, hoox, hqqx⟩
 have hf := Fr.of_below (X := fun i => i = l) hqqx nbx
 have HRx := Lib.hid (Rw.made hoox hqqx p0 nbx nl (fun i hi => (HJo.out _ _ _ HJ.out hi).1))
 replace HC := Lib.hid (HC.out.fr hf)
 replace HJ := Lib.hid (HJb.out _ _ _ HJ.out hqqx)
 replace nbx := Nat.lt_of_lt_of_le nbx hqqx.size
 replace nl := Nat.lt_of_lt_of_le nl hqqx.size
 obtain ⟨gx, cx, hvx, _⟩ := HRx.out
 subst hvx
 clear H0 hC' k0 k1 k2 k3 k4 k5 k6 hbx hl S0 hf hoox hqqx
 obtain ⟨nx, hnx⟩ : ∃ n, xs.length = n := ⟨_, rfl⟩
 rw [hnx] at HRx ⊢
 have lnx : nx ≤ 3003 := by omega
 have HNX := Lib.hid hnx
 clear hnx
 have HZ1 := Lib.hid (pt1_end xs ys zs)
 rw [HNX.out] at HZ1
 replace HJ : Hid (J (pt1 xs ys zs 0) Wa) := Lib.hid (by rw [pt1_zero]; exact HJ.out)
 have hn1 : 1 ≤ n - 1 := by omega
 have hn2 : 1 ≤ n - 1 - 1 := by omega
 gi_wp2
 gi_loopw [14] (fun i wr => ∃ k : Nat, k ≤ nx ∧ i = .int .i64 k ∧ Hid (J (pt1 xs ys zs k) wr) ∧ Hid (Rw bx l wr (.slice (some ⟨gx, 0, none⟩) nx cx) xs) ∧ Hid (PtC bx l wr g1 g2 ⟨a0, b0, a1, b1, a2, b2⟩ (.slice A m cp) os) ∧ bx < wr.heap.size ∧ l < wr.heap.size) (fun i _ => nx - (RowKit.intOf i).toNat)
 case atStart => exact ⟨0, Nat.zero_le _, rfl, HJ, HRx, HC, nbx, nl⟩
 case round =>
  clear HJ HRx HC nbx nl
  obtain ⟨k, hk, rfl, HJ, HRx, HC, nbx, nl⟩ := hrel
  by_cases hlt : (k : Int) < (nx : Int)
  ·obtain ⟨x, hpx⟩ : ∃ x, xs[k]? = some x := ⟨_, List.getElem?_eq_getElem (by have := HNX.out; omega)⟩
   have q0 : wr.cell? ⟨gx, k, none⟩ = some (.int .i64 x) := by
    obtain ⟨g', c', e, _, hc⟩ := HRx.out
    injection e with e1 e2 e3; injection e1 with e1; injection e1 with e1; subst e1
    exact hc k x hpx
   have HE2 := Lib.hid (pt2_end xs ys zs k x hpx)
   clear hpx
   have k0 := HC.out.c1 0 _ rfl
   have k1 := HC.out.c1 1 _ rfl
   have k2 := HC.out.c1 2 _ rfl
   have k3 := HC.out.c1 3 _ rfl
   have k4 := HC.out.c1 4 _ rfl
   have k5 := HC.out.c1 5 _ rfl
   have k6 := HC.out.c2
   gi_wp2
   refine ⟨trivial, (callsIn_wide.2 (S1.out wr HC.out.rs)).mono ?_⟩
   rintro e Wb ⟨vy, rfl, hooy, hqqy⟩
   have hf := Fr.of_below (X := fun i => i = l) hqqy nbx
   have HRy := Lib.hid (Rw.made hooy hqqy p1 nbx nl (fun i hi => (HJo.out _ _ _ HJ.out hi).1))
   replace HC := Lib.hid (HC.out.fr hf)
   replace HJ := Lib.hid (HJb.out _ _ _ HJ.out hqqy)
   replace nbx := Nat.lt_of_lt_of_le nbx hqqy.size
   replace nl := Nat.lt_of_lt_of_le nl hqqy.size
   obtain ⟨gy, cy, hvy, _⟩ := HRy.out
   subst hvy
   replace HRx := Lib.hid (HRx.out.fr hf)
   clear q0 k0 k1 k2 k3 k4 k5 k6 hf hooy hqqy
   obtain ⟨ny, hny⟩ : ∃ n, ys.length = n := ⟨_, rfl⟩
   rw [hny] at HRy HE2 ⊢
   have lny : ny ≤ 3003 := by omega
   have HNY := Lib.hid hny
   clear hny
   replace HJ : Hid (J (pt2 xs ys zs k x 0) Wb) := Lib.hid (by rw [pt2_zero]; exact HJ.out)
   gi_wp2
   gi_loopw [22] (fun i wr => ∃ j : Nat, j ≤ ny ∧ i = .int .i64 j ∧ Hid (J (pt2 xs ys zs k x j) wr) ∧ Hid (Rw bx l wr (.slice (some ⟨gx, 0, none⟩) nx cx) xs) ∧ Hid (Rw bx l wr (.slice (some ⟨gy, 0, none⟩) ny cy) ys) ∧ Hid (PtC bx l wr g1 g2 ⟨a0, b0, a1, b1, a2, b2⟩ (.slice A m cp) os) ∧ bx < wr.heap.size ∧ l < wr.heap.size) (fun i _ => ny - (RowKit.intOf i).toNat)
   case atStart => exact ⟨0, Nat.zero_le _, rfl, HJ, HRx, HRy, HC, nbx, nl⟩
   case round =>
    clear HJ HRx HRy HC nbx nl
    obtain ⟨j, hj, rfl, HJ, HRx, HRy, HC, nbx, nl⟩ := hrel
    by_cases hlj : (j : Int) < (ny : Int)
    ·obtain ⟨y, hpy⟩ : ∃ x, ys[j]? = some x := ⟨_, List.getElem?_eq_getElem (by have := HNY.out; omega)⟩
     have q0 : wr.cell? ⟨gy, j, none⟩ = some (.int .i64 y) := by
      obtain ⟨g', c', e, _, hc⟩ := HRy.out
      injection e with e1 e2 e3; injection e1 with e1; injection e1 with e1; subst e1
      exact hc j y hpy
     have HE3 := Lib.hid (pt3_end xs ys zs k x j y hpy)
     clear hpy
     have k0 := HC.out.c1 0 _ rfl
     have k1 := HC.out.c1 1 _ rfl
     have k2 := HC.out.c1 2 _ rfl
     have k3 := HC.out.c1 3 _ rfl
     have k4 := HC.out.c1 4 _ rfl
     have k5 := HC.out.c1 5 _ rfl
     have k6 := HC.out.c2
     gi_wp2
     refine ⟨trivial, (callsIn_wide.2 (S2.out wr HC.out.rs)).mono ?_⟩
     rintro e Wc ⟨vz, rfl, hooz, hqqz⟩
     have hf := Fr.of_below (X := fun i => i = l) hqqz nbx
     have HRz := Lib.hid (Rw.made hooz hqqz p2 nbx nl (fun i hi => (HJo.out _ _ _ HJ.out hi).1))
     replace HC := Lib.hid (HC.out.fr hf)
     replace HJ := Lib.hid (HJb.out _ _ _ HJ.out hqqz)
     replace nbx := Nat.lt_of_lt_of_le nbx hqqz.size
     replace nl := Nat.lt_of_lt_of_le nl hqqz.size
     obtain ⟨gz, cz, hvz, _⟩ := HRz.out
     subst hvz
     replace HRx := Lib.hid (HRx.out.fr hf)
     replace HRy := Lib.hid (HRy.out.fr hf)
     clear q0 k0 k1 k2 k3 k4 k5 k6 hf hooz hqqz
     obtain ⟨nz, hnz⟩ : ∃ n, zs.length = n := ⟨_, rfl⟩
     rw [hnz] at HRz HE3 ⊢
     have lnz : nz ≤ 3003 := by omega
     have HNZ := Lib.hid hnz
     clear hnz
     replace HJ : Hid (J (pt3 xs ys zs k x j y 0) Wc) := Lib.hid (by rw [pt3_zero]; exact HJ.out)
     gi_wp2
     gi_loopw [30] (fun i wr => ∃ r : Nat, r ≤ nz ∧ i = .int .i64 r ∧ Hid (J (pt3 xs ys zs k x j y r) wr) ∧ Hid (Rw bx l wr (.slice (some ⟨gx, 0, none⟩) nx cx) xs) ∧ Hid (Rw bx l wr (.slice (some ⟨gy, 0, none⟩) ny cy) ys) ∧ Hid (Rw bx l wr (.slice (some ⟨gz, 0, none⟩) nz cz) zs) ∧ Hid (PtC bx l wr g1 g2 ⟨a0, b0, a1, b1, a2, b2⟩ (.slice A m cp) os) ∧ bx < wr.heap.size ∧ l < wr.heap.size) (fun i _ => nz - (RowKit.intOf i).toNat)
     case atStart => exact ⟨0, Nat.zero_le _, rfl, HJ, HRx, HRy, HRz, HC, nbx, nl⟩
     case round =>
      clear HJ HRx HRy HRz HC nbx nl
      obtain ⟨r, hr, rfl, HJ, HRx, HRy, HRz, HC, nbx, nl⟩ := hrel
      by_cases hlr : (r : Int) < (nz : Int)
      ·obtain ⟨z, hpz⟩ : ∃ x, zs[r]? = some x := ⟨_, List.getElem?_eq_getElem (by have := HNZ.out; omega)⟩
       have q0 : wr.cell? ⟨gz, r, none⟩ = some (.int .i64 z) := by
        obtain ⟨g', c', e, _, hc⟩ := HRz.out
        injection e with e1 e2 e3; injection e1 with e1; injection e1 with e1; subst e1
        exact hc r z hpz
       have HE4 := Lib.hid (pt3_next xs ys zs k x j y r z hpz)
       clear hpz
       obtain ⟨fn, tmps, assign, body, hy, hRd⟩ := HY.out _ (x, y, z) wr HJ.out
       simp only [ptE] at hy
       gi_wp2
       refine hRd.mono ?_
       rintro e Wd ⟨rfl, hJ', hf⟩
       have HJ' : Hid (J (pt3 xs ys zs k x j y (r + 1)) Wd) := Lib.hid (by rw [HE4.out]; exact hJ')
       replace HRx := Lib.hid (HRx.out.fr hf)
       replace HRy := Lib.hid (HRy.out.fr hf)
       replace HRz := Lib.hid (HRz.out.fr hf)
       replace HC := Lib.hid (HC.out.fr hf)
       replace nbx := Nat.lt_of_lt_of_le nbx hf.1
       replace nl := Nat.lt_of_lt_of_le nl hf.1
       clear hf hJ' hy hRd q0 HJ
       gi_wp2
       go_roundw
       case rel => exact ⟨r + 1, by omega, by go_num, HJ', HRx, HRy, HRz, HC, nbx, nl⟩
       case measure => simp [RowKit.intOf]; omega
      ·obtain rfl : r = nz := by omega
       have HJ' : Hid (J (pt2 xs ys zs k x (j + 1)) wr) := Lib.hid (by rw [← HE3.out]; exact HJ.out)
       clear HJ
       gi_wp2
       go_roundw
       case rel => exact ⟨j + 1, by omega, by go_num, HJ', HRx, HRy, HC, nbx, nl⟩
       case measure => simp [RowKit.intOf]; omega
    ·obtain rfl : j = ny := by omega
     have HJ' : Hid (J (pt1 xs ys zs (k + 1)) wr) := Lib.hid (by rw [← HE2.out]; exact HJ.out)
     clear HJ
     gi_wp2
     go_roundw
     case rel => exact ⟨k + 1, by omega, by go_num, HJ', HRx, HC, nbx, nl⟩
     case measure => simp [RowKit.intOf]; omega
  ·obtain rfl : k = nx := by omega
   have HJ' := Lib.hid (show J (ptA xs ys zs) wr by rw [← HZ1.out]; exact HJ.out)
   clear HJ
   gi_wp2
   go_end0
   exact ⟨⟨_, rfl⟩, HJ'.out⟩
end Go.Proofs.YtgklpbgdimkhaaaGreat
