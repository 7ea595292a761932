/- Contracts: U4, U5, U6, U7, joined. -/
import Derived.Test.YtclnfncdphfgjaaJC10
import Derived.RangeFuncNested
import Derived.RangeFuncBound
import Derived.RangeFuncCalls
import Derived.RangeFuncLeaves
import Derived.Shelf.Abstract
import Derived.Shelf.RegionOpen
import Derived.OwnWalkIn
import Derived.TacticsInMore
import Derived.LoopNIn
import Derived.LoopIn
namespace Go.Proofs.Ytclnfncdphfgjaa
open Go.RowKit Go.Lib Go.Shelf
set_option linter.unusedVariables false
set_option linter.unusedSimpArgs false

/-- all blocks but those of U lie as they lay -/
def Kept (U : Nat → Prop) (W W' : World) : Prop := W.heap.size ≤ W'.heap.size ∧ ∀ k o, W.heap[k]? = some o → ¬ U k → W'.heap[k]? = some o
theorem Kept.refl (U : Nat → Prop) (W : World) : Kept U W W := ⟨Nat.le_refl _, fun _ _ h _ => h⟩
theorem Kept.trans {U : Nat → Prop} {A B C : World} (h : Kept U A B) (k : Kept U B C) : Kept U A C := ⟨Nat.le_trans h.1 k.1, fun i o ho hu => k.2 i o (h.2 i o ho hu) hu⟩
theorem Kept.mono {U V : Nat → Prop} {W W' : World} (h : Kept U W W') (hv : ∀ k, U k → V k) : Kept V W W' := ⟨h.1, fun k o ho hu => h.2 k o ho fun hc => hu (hv k hc)⟩
theorem Kept.put {U : Nat → Prop} (W : World) {l : Nat} (o' : Obj) (hl : U l) : Kept U W (W.putObj l o') := ⟨by simp, fun k o ho hu => (World.putObj_heap_other (fun e => hu (by rw [e]; exact hl))).trans ho⟩
theorem Kept.heap {U : Nat → Prop} {W W' : World} (h : Kept U W W') {k : Nat} (hk : k < W.heap.size) (hu : ¬ U k) : W'.heap[k]? = W.heap[k]? := by
  rw [Array.getElem?_eq_getElem hk]
  exact h.2 k _ (Array.getElem?_eq_getElem hk) hu
theorem Kept.cell {U : Nat → Prop} {W W' : World} (h : Kept U W W') {p : Addr} (hk : p.block < W.heap.size) (hu : ¬ U p.block) : W'.cell? p = W.cell? p := World.cell?_of_block (w := W) (h.heap hk hu)
theorem Kept.frozen {U : Nat → Prop} {W W' : World} (h : Kept U W W') {p : Addr} (hk : p.block < W.heap.size) (hu : ¬ U p.block) : W'.frozen? p = W.frozen? p := World.frozen?_of_block (w := W) (h.heap hk hu)
theorem below_putU (W : World) {k B : Nat} (o' : Obj) (h : B ≤ k) : Below B W (W.putObj k o') := ⟨rfl, rfl, rfl, by simp, fun i hi => World.putObj_heap_other (by omega)⟩

/-- an iterator (a closure over lb) that yields enc 0, .., enc (N - 1); between two rounds all blocks but those of U lie as they lay -/
def IterAt (n : Nat) (P : Program) (gf : Nat) (lb : Array Value) (enc : Nat → Array Value) (N : Nat) (U : Nat → Prop) (w : World) : Prop :=
  ∀ (l : Nat) (J Jx : Nat → World → Prop) (W : World), Below w.heap.size w W → w.heap.size ≤ l → l < W.heap.size →
    (∀ k A B, J k A → Below W.heap.size A B → J k B) →
    (∀ k W1, k < N → J k W1 → YieldAt Fence.wide (n - 1 - 1) P l (enc k) W1 fun e W' =>
      (e = .returned (.bool true) ∧ J (k + 1) W' ∧ Kept (fun i => U i ∨ i = l) W1 W') ∨ (e = .returned (.bool false) ∧ Jx k W')) →
    J 0 W → CallsIn Fence.wide (n - 1) P gf (#[.func (.yield l) #[] #[]] ++ lb) W fun e W' => (∃ v, e = .returned v) ∧ (J N W' ∨ ∃ k, k < N ∧ Jx k W')

theorem range_law {P : Program} {n : Nat} {g : Operand} {ps : Array Tmp} {assign body : Code} {Q : Exit → Act → World → Prop} {a : Act} {w : World} {gf : Nat} {lb : Array Value} (N : Nat) (U : Nat → Prop) (enc : Nat → Array Value)
    (hg : a.eval g = .func (.func gf) #[] lb) (eg : ∀ args w, (callFunc gf args).run P w = .ok (.enter gf args) w) (hU : ∀ k, w.heap.size ≤ k → ¬ U k)
    (iter : IterAt n P gf lb enc N U w) (hps : ∀ k, (enc k).size = ps.size)
    (I Ix : Nat → World → Prop) (hI : ∀ k A B, I k A → Below w.heap.size A B → I k B) (hIx : ∀ k A B, Ix k A → Below w.heap.size A B → Ix k B) (h0 : I 0 w)
    (Ax : Nat → Act → World → Prop) (hAx : ∀ k a' A B, Ax k a' A → Below w.heap.size A B → Ax k a' B)
    (hassign : ∀ (l k : Nat) (W : World) (K : Act → World → Prop), k < N → I k W → (∀ a' W', Kept U W W' → Ax k a' W' → K a' W') →
      assign.wpIn (Fence.wide.inRound l) (n - 1 - 1) P (Exit.then K (fun _ _ _ => False)) { tmps := (ps.zip (enc k)).foldl (fun t (p, v) => t.setIfInBounds p v) a.tmps, defers := [] } W)
    (hbody : ∀ (l k : Nat) (a' : Act) (W : World), k < N → Ax k a' W → body.wpIn (Fence.wide.inRound l) (n - 1 - 1) P (fun e _ W' => Kept U W W' ∧ ((e = .normal ∧ I (k + 1) W') ∨ (e = .ret ∧ Ix k W'))) a' W)
    (hdone : ∀ (D : Nat) (W : World), w.heap.size ≤ D → I N W → W.heap[D]? = some (.deferred (some [])) → Q .normal { a with defers := { target := .collected D, args := #[] } :: a.defers } W)
    (hstop : ∀ (D k : Nat) (W : World), w.heap.size ≤ D → k < N → Ix k W → W.heap[D]? = some (.deferred (some [])) → Code.ret.wpIn Fence.wide n P Q { a with defers := { target := .collected D, args := #[] } :: a.defers } W) :
    (Code.rangeFunc g ps assign body).wpIn Fence.wide n P Q a w := by
  refine wpIn_rangeFunc fun fn hfn => ?_
  obtain ⟨D, hD⟩ : ∃ D, w.heap.size = D := ⟨_, rfl⟩
  obtain ⟨rc, hrc⟩ : ∃ rc : LoopState → Option Code → Loop, rc = fun st pe => { state := st, pending := pe, fn, tmps := a.tmps, params := ps, assign, body, defers := D } := ⟨_, rfl⟩
  obtain ⟨w1, hw1⟩ : ∃ w1, (w.alloc (.deferred (some []))).alloc (.loop (rc .ready none)) = w1 := ⟨_, rfl⟩
  have hl : w1.heap[D + 1]? = some (.loop (rc .ready none)) := by
    have := World.alloc_heap_new (w.alloc (.deferred (some []))) (.loop (rc .ready none))
    rw [World.size_alloc, hD] at this
    rw [← hw1]; exact this
  have hd : w1.heap[D]? = some (.deferred (some [])) := by
    rw [← hw1, ← hD]
    exact (Below.heap_alloc _ _ _ (by simp)).trans (World.alloc_heap_new w _)
  have hB1 : Below w.heap.size w w1 := by rw [← hw1]; exact ((Below.refl _ w).alloc (Nat.le_refl _) _).alloc (by simp) _
  have hs1 : w1.heap.size = D + 2 := by rw [← hw1]; simp [hD]
  refine ⟨D + 1, [{ target := .collected D, args := #[] }], w1, { target := .fn (.func gf) lb, args := #[.func (.yield (D + 1)) #[] #[]] }, w1, gf, #[.func (.yield (D + 1)) #[] #[]] ++ lb, w1, ?_, ?_, ?_, ?_, fun h => by simp [Fence.wide] at h, ?_⟩
  · rw [← hw1, hrc, ← hD]; exact run_enterLoop_outer _ _ _ _ _
  · simp only [resolve, hg]
    simp [go_sem]
  · intro f' hf'; trivial
  · simp [invoke, go_sem, eg]
  · refine (iter (D + 1) (fun k W => I k W ∧ W.heap[D + 1]? = some (.loop (rc .ready none)) ∧ W.heap[D]? = some (.deferred (some [])))
      (fun k W => Ix k W ∧ W.heap[D + 1]? = some (.loop (rc .done (some .ret))) ∧ W.heap[D]? = some (.deferred (some []))) w1 hB1 (by omega) (by omega) ?_ ?_ ⟨hI _ _ _ h0 hB1, hl, hd⟩).mono ?_
    · rintro k A B ⟨h1, h2, h3⟩ hb
      exact ⟨hI k A B h1 (hb.mono (by omega)), (hb.block _ (by omega)).trans h2, (hb.block _ (by omega)).trans h3⟩
    · rintro k W hk ⟨hi, hlW, hdW⟩
      have hlt := (Array.getElem?_eq_some_iff.1 hlW).1
      have hy := run_yield (P := P) (args := enc k) hlW (by rw [hrc]; exact hps k)
      rw [hrc] at hy
      refine ⟨fn, _, assign, body, hy, roundIn_of_wpIn hfn (hassign _ k W _ hk hi fun a' W2 hK2 hA2 => ?_)⟩
      have hl2 := hK2.2 _ _ hlW (hU _ (by omega))
      have hd2 := hK2.2 _ _ hdW (hU _ (by omega))
      have hlt2 := (Array.getElem?_eq_some_iff.1 hl2).1
      refine ⟨_, run_beginRound hl2 (by rw [hrc]), ?_⟩
      obtain ⟨W3, hW3⟩ : ∃ W3, W2.putObj (D + 1) (.loop { rc .ready none with state := .busy }) = W3 := ⟨_, rfl⟩
      have l3 : W3.heap[D + 1]? = some (.loop { rc .ready none with state := .busy }) := by rw [← hW3]; exact World.putObj_heap_same hlt2
      have d3 : W3.heap[D]? = some (.deferred (some [])) := by rw [← hW3]; exact (World.putObj_heap_other (by omega)).trans hd2
      have k3 : Kept (fun i => U i ∨ i = D + 1) W W3 := (hK2.mono fun i h => .inl h).trans (by rw [← hW3]; exact Kept.put _ _ (.inr rfl))
      have A3 : Ax k a' W3 := hAx _ _ _ _ hA2 (by rw [← hW3]; exact below_putU _ _ (by omega))
      rw [hW3]
      refine wpIn_mono (hbody _ k a' W3 hk A3) ?_
      rintro e a4 W4 ⟨hk4, hp⟩
      have l4 := hk4.2 _ _ l3 (hU _ (by omega))
      have d4 := hk4.2 _ _ d3 (hU _ (by omega))
      have hlt4 := (Array.getElem?_eq_some_iff.1 l4).1
      rcases hp with ⟨rfl, hi4⟩ | ⟨rfl, hi4⟩
      · have he := run_endRound (P := P) none l4
        refine ⟨_, _, he, .inl ⟨rfl, ⟨hI _ _ _ hi4 (below_putU _ _ (by omega)), ?_, ?_⟩, ?_⟩⟩
        · rw [World.putObj_heap_same hlt4, hrc]; rfl
        · exact (World.putObj_heap_other (by omega)).trans d4
        · exact (k3.trans (hk4.mono fun i h => .inl h)).trans (Kept.put _ _ (.inr rfl))
      · have he := run_endRound (P := P) (some .ret) l4
        refine ⟨_, _, he, .inr ⟨rfl, hIx _ _ _ hi4 (below_putU _ _ (by omega)), ?_, ?_⟩⟩
        · rw [World.putObj_heap_same hlt4, hrc]; rfl
        · exact (World.putObj_heap_other (by omega)).trans d4
    · rintro e W2 ⟨⟨v, rfl⟩, ⟨hi, hlW, hdW⟩ | ⟨k, hk, hi, hlW, hdW⟩⟩
      · have hend := run_endLoop (P := P) hlW (by rw [hrc]; simp)
        rw [hrc] at hend
        exact ⟨none, _, hend, hdone D _ (by omega) (hI _ _ _ hi (below_putU _ _ (by omega))) ((World.putObj_heap_other (by omega)).trans hdW)⟩
      · have hend := run_endLoop (P := P) hlW (by rw [hrc]; simp)
        rw [hrc] at hend
        exact ⟨some .ret, _, hend, hstop D k _ (by omega) hk (hIx _ _ _ hi (below_putU _ _ (by omega))) ((World.putObj_heap_other (by omega)).trans hdW)⟩

open Go.RowKit Go.Lib Go.Shelf
set_option linter.unusedVariables false
set_option linter.unusedSimpArgs false
attribute [local go_sem] Oper.semAt_some

/-- what the iterator yields after k rounds -/
def encK (t p a s : Nat) (k : Nat) : Array Value :=
  #[.agg #[.int .i64 (((rk t p (a, s) k).1 : Nat) : Int), .int .i64 (((rk t p (a, s) k).2 : Nat) : Int)], .agg #[.int .i64 ((a - (rk t p (a, s) k).1 : Nat) : Int), .int .i64 ((s - (rk t p (a, s) k).2 : Nat) : Int)]]

/-- one round, as the walk meets it -/
theorem rk_next (t p a s k : Nat) (ht : t ≤ 10000) (hp : p ≤ 10000) (x1 x2 : Nat) (h1 : (rk t p (a, s) k).1 = x1) (h2 : (rk t p (a, s) k).2 = x2) :
    x1 ≤ a ∧ x2 ≤ s ∧ offW x1 t ≤ x1 ∧ offS x1 x2 t p ≤ x2 ∧ (rk t p (a, s) (k + 1)).1 = x1 - offW x1 t ∧ (rk t p (a, s) (k + 1)).2 = x2 - offS x1 x2 t p := by
  have h := rk_le t p (a, s) k
  rw [h1, h2] at h
  refine ⟨h.1, h.2, offW_le _ _ ht, offS_le _ _ _ _ ht hp, ?_, ?_⟩
  · show (rk t p (a, s) k).1 - offW (rk t p (a, s) k).1 t = _
    rw [h1]
  · show (rk t p (a, s) k).2 - offS (rk t p (a, s) k).1 (rk t p (a, s) k).2 t p = _
    rw [h1, h2]

theorem Kept.of_below {B : Nat} {U : Nat → Prop} {W W' : World} (h : Below B W W') (hU : ∀ k, ¬ U k → k < B) : Kept U W W' := ⟨h.size, fun k o ho hu => (h.block k (hU k hu)).trans ho⟩

open Go.RowKit Go.Lib Go.Shelf
set_option linter.unusedVariables false
set_option linter.unusedSimpArgs false
attribute [local go_sem ↓] Go.wp_at_zero Go.wp_at_succ
attribute [local go_sem] Oper.semAt_some

/-- how a function with marks is left, where it never panics -/
def QM (F : Fence) (n : Nat) (P : Program) (fn : Func) (R : Ending → World → Prop) : Exit → Act → World → Prop
  | .normal, a, w | .ret, a, w => LeavesInM F n P fn a.tmps R a.defers .returning w
  | _, _, _ => False
theorem qm_post {F : Fence} {n : Nat} {P : Program} {fn : Func} {R : Ending → World → Prop} (e : Exit) (a : Act) (w : World) (h : QM F n P fn R e a w) : bodyPostM F n P fn R e a w := by
  cases e <;> first | exact h | exact h.elim

theorem Kept.set {U : Nat → Prop} (W : World) {p : Addr} (hp : U p.block) (v : Value) : Kept U W (W.setCell p v) := ⟨by simp [World.setCell], fun k o ho hu => (Below.heap_setCell _ _ _ _ (fun e => hu (by rw [e]; exact hp))).trans ho⟩

/-- between two rounds: the results' cells -/
def RI (b t p a s : Nat) (w : World) (k : Nat) (W : World) : Prop :=
  Below b w W ∧ b + 2 < W.heap.size ∧ ∃ x1 x2 y1 y2 : Int, W.cell? ⟨b + 1, 0, none⟩ = some (.int .i64 x1) ∧ W.cell? ⟨b + 1, 1, none⟩ = some (.int .i64 x2) ∧ W.cell? ⟨b + 2, 0, none⟩ = some (.int .i64 y1) ∧ W.cell? ⟨b + 2, 1, none⟩ = some (.int .i64 y2) ∧
    W.frozen? ⟨b + 1, 0, none⟩ = false ∧ W.frozen? ⟨b + 1, 1, none⟩ = false ∧ W.frozen? ⟨b + 2, 0, none⟩ = false ∧ W.frozen? ⟨b + 2, 1, none⟩ = false ∧
    (0 < k → x1 = ((rk t p (a, s) (k - 1)).1 : Nat) ∧ x2 = ((rk t p (a, s) (k - 1)).2 : Nat) ∧ y1 = ((a - (rk t p (a, s) (k - 1)).1 : Nat) : Int) ∧ y2 = ((s - (rk t p (a, s) (k - 1)).2 : Nat) : Int))
theorem RI.next {b t p a s k : Nat} {w A B : World} {C : Nat} (h : RI b t p a s w k A) (hb : Below C A B) (hC : b + 2 < C) : RI b t p a s w k B := by
  obtain ⟨h1, h2, x1, x2, y1, y2, c1, c2, c3, c4, f1, f2, f3, f4, hk⟩ := h
  exact ⟨h1.trans (hb.mono (by omega)), Nat.lt_of_lt_of_le h2 hb.size, x1, x2, y1, y2, cell_next hb (by omega) c1, cell_next hb (by omega) c2, cell_next hb (by omega) c3, cell_next hb (by omega) c4, frozen_next hb (by omega) f1, frozen_next hb (by omega) f2, frozen_next hb (by omega) f3, frozen_next hb (by omega) f4, hk⟩

open Go.RowKit Go.Lib Go.Shelf
set_option linter.unusedVariables false
set_option linter.unusedSimpArgs false
attribute [local go_sem ↓] Go.wp_at_zero Go.wp_at_succ

set_option maxRecDepth 20000 in
set_option maxHeartbeats 1000000 in
theorem mix_ok (g off : Nat) (xs : List (Int × Int)) (c : Nat) (w : World) (hx : ∀ p ∈ xs, spB p.1 p.2 = true) (hg : g < w.heap.size) (hr : RRd w g off xs) (hl : xs.length ≤ 100) (hS : spB (suU xs).1 (suU xs).2 = true) :
    Calls Try.prog 17 #[.slice (some ⟨g, off, none⟩) xs.length c] w fun e w' =>
      e = .returned (.tuple #[.agg #[.int .i64 (suU xs).1, .int .i64 (suU xs).2], .int .i64 0]) ∧ Below w.heap.size w w' := by
  obtain ⟨n, hn⟩ : ∃ n, xs.length = n := ⟨_, rfl⟩
  rw [hn] at hl ⊢
  have Hn := Lib.hid hn
  clear hn
  have HX := Lib.hid hx
  have HR := Lib.hid hr
  have HS := Lib.hid hS
  clear hx hr hS
  go_enter Try.func17, Try.ntmps17
  have t0 : decide ((100 : Int) < (n : Int)) = false := by simp; omega
  go_wp2_with fail
  go_loopw [13] (fun i wr => ∃ (k : Nat) (a : Int × Int), k ≤ n ∧ i = .int .i64 k ∧ Hid (a = suU (xs.take k)) ∧ Hid (0 ≤ a.1 ∧ a.1 ≤ 10000000000000 * k ∧ 0 ≤ a.2 ∧ a.2 ≤ 10000000000000 * k) ∧ wr.cell? ⟨w.heap.size + 1, 0, none⟩ = some (.int .i64 a.1) ∧ wr.cell? ⟨w.heap.size + 1, 1, none⟩ = some (.int .i64 a.2) ∧ wr.frozen? ⟨w.heap.size + 1, 0, none⟩ = false ∧ wr.frozen? ⟨w.heap.size + 1, 1, none⟩ = false ∧
      wr.cell? ⟨w.heap.size, 0, none⟩ = some (.int .i64 0) ∧ wr.cell? ⟨w.heap.size, 1, none⟩ = some (.int .i64 0) ∧ wr.frozen? ⟨w.heap.size, 0, none⟩ = false ∧ wr.frozen? ⟨w.heap.size, 1, none⟩ = false ∧ w.heap.size + 1 < wr.heap.size ∧ Below w.heap.size w wr) (fun i _ => n - (RowKit.intOf i).toNat)
  case atStart =>
    refine ⟨0, (0, 0), Nat.zero_le _, rfl, Lib.hid rfl, Lib.hid (by simp), ?_, ?_, ?_, ?_, ?_, ?_, ?_, ?_, ?_, ?_⟩
    all_goals first | (simp; done) | exact below_al2 w _ _
  case round =>
    obtain ⟨k, ⟨a0, a1⟩, hk, rfl, ha, hDa, c0, c1, f0, f1, d0, d1, e0, e1, hz, hbr⟩ := hrel
    have hz0 : w.heap.size < wr.heap.size := by omega
    have hgw : g < wr.heap.size := by omega
    dsimp only at c0 c1
    by_cases hlt : k < n
    · have hkl : k < xs.length := by rw [Hn.out]; exact hlt
      obtain ⟨⟨p0, p1⟩, hp⟩ : ∃ p, xs[k]? = some p := ⟨_, List.getElem?_eq_getElem hkl⟩
      have hpS : spB p0 p1 = true := HX.out _ (List.mem_of_getElem? hp)
      have v1 := Lib.hid (sapValid_any p0 p1)
      rw [hpS] at v1
      obtain ⟨q0, q1⟩ := (HR.out.below hbr hg) k _ hp
      obtain ⟨r1, r2, r3, r4⟩ := spB_of hpS
      obtain ⟨r5, r6, r7, r8⟩ := hDa.out
      have haq : Hid ((a0 + p0, a1 + p1) = suU (xs.take (k + 1))) := Lib.hid (by rw [List.take_add_one, hp, show (some (p0, p1)).toList = [(p0, p1)] from rfl, suU_snoc, ← ha.out]; rfl)
      have hDq : Hid (0 ≤ a0 + p0 ∧ a0 + p0 ≤ 10000000000000 * ((k + 1 : Nat) : Int) ∧ 0 ≤ a1 + p1 ∧ a1 + p1 ≤ 10000000000000 * ((k + 1 : Nat) : Int)) := Lib.hid ⟨by omega, by omega, by omega, by omega⟩
      have s0 : IntKind.i64.wrap (a0 + p0) = a0 + p0 := IntWalk.i64_in _ (by omega)
      have s1 : IntKind.i64.wrap (a1 + p1) = a1 + p1 := IntWalk.i64_in _ (by omega)
      clear hp r1 r2 r3 r4 r5 r6 r7 r8 hDa ha hpS
      dsimp only at q0 q1
      go_wp2_with fail
      refine (v1.out _).mono ?_
      rintro e w1 ⟨rfl, hb1⟩
      have x0 := cell_next hb1 (b := wr.heap.size) (o := 0) (by simp) (v := some (.int .i64 p0)) (by simp [go_sem])
      have x1 := cell_next hb1 (b := wr.heap.size) (o := 1) (by simp) (v := some (.int .i64 p1)) (by simp [go_sem])
      have hB1 := below1 hb1
      have hz1 : wr.heap.size < w1.heap.size := by have := hb1.size; simp at this; omega
      replace c0 := cell_next hB1 hz c0
      replace c1 := cell_next hB1 hz c1
      replace f0 := frozen_next hB1 hz f0
      replace f1 := frozen_next hB1 hz f1
      replace d0 := cell_next hB1 hz0 d0
      replace d1 := cell_next hB1 hz0 d1
      replace e0 := frozen_next hB1 hz0 e0
      replace e1 := frozen_next hB1 hz0 e1
      have hne : w.heap.size + 1 ≠ wr.heap.size := by omega
      replace hbr := hbr.trans (hB1.mono (by omega))
      clear hb1 hB1 q0 q1 v1
      go_wp2_with fail
      go_roundw
      case rel =>
        refine ⟨k + 1, (a0 + p0, a1 + p1), by omega, by go_num, haq, hDq, ?_, ?_, ?_, ?_, ?_, ?_, ?_, ?_, by simp; omega, ((hbr.setCell (p := ⟨w.heap.size + 1, 0, none⟩) (by simp) _).setCell (p := ⟨w.heap.size + 1, 1, none⟩) (by simp) _)⟩
        all_goals simp [go_sem, *]
      case measure => simp [RowKit.intOf]; omega
    · obtain rfl : k = n := by omega
      have hfin : (a0, a1) = suU xs := by rw [ha.out, List.take_of_length_le (by rw [Hn.out]; omega)]
      have Hfin := Lib.hid hfin
      have v1 := Lib.hid (sapValid_any a0 a1)
      rw [show spB a0 a1 = true from by have h := HS.out; rw [← hfin] at h; exact h] at v1
      clear hfin ha hDa
      go_wp2_with fail
      refine (v1.out _).mono ?_
      rintro e w1 ⟨rfl, hb1⟩
      replace c0 := cell_next hb1 hz c0
      replace c1 := cell_next hb1 hz c1
      replace d0 := cell_next hb1 hz0 d0
      replace d1 := cell_next hb1 hz0 d1
      replace e0 := frozen_next hb1 hz0 e0
      replace e1 := frozen_next hb1 hz0 e1
      replace hbr := hbr.trans (hb1.mono (by omega))
      clear hb1 v1 f0 f1
      go_wp2_with fail
      refine bodyPost_ret (v := .tuple #[.agg #[.int .i64 a0, .int .i64 a1], .int .i64 0]) (by simp [results, Try.results17, go_sem, *]) rfl ⟨by rw [← Hfin.out], ?_⟩
      exact (hbr.setCell (by simp) _).setCell (by simp) _
end Go.Proofs.Ytclnfncdphfgjaa
