/- A range over a closure whose iterator writes memory of its own, and whose body may return: a law of our own. -/
import Derived.Test.YtloddjjmoaljhaaU3
import Derived.RangeFuncNested
import Derived.RangeFuncBound
import Derived.RangeFuncCalls
import Derived.RangeFuncLeaves
import Derived.Shelf.Abstract
import Derived.Shelf.RegionOpen
import Derived.OwnWalkIn
import Derived.TacticsInMore
import Derived.LoopNIn
import Derived.LoopIn
namespace Go.Proofs.Ytloddjjmoaljhaa
open Go.RowKit Go.Lib Go.Shelf
set_option linter.unusedVariables false
set_option linter.unusedSimpArgs false

/-- all blocks but those of U lie as they lay -/
def Kept (U : Nat → Prop) (W W' : World) : Prop := W.heap.size ≤ W'.heap.size ∧ ∀ k o, W.heap[k]? = some o → ¬ U k → W'.heap[k]? = some o
theorem Kept.refl (U : Nat → Prop) (W : World) : Kept U W W := ⟨Nat.le_refl _, fun _ _ h _ => h⟩
theorem Kept.trans {U : Nat → Prop} {A B C : World} (h : Kept U A B) (k : Kept U B C) : Kept U A C := ⟨Nat.le_trans h.1 k.1, fun i o ho hu => k.2 i o (h.2 i o ho hu) hu⟩
theorem Kept.mono {U V : Nat → Prop} {W W' : World} (h : Kept U W W') (hv : ∀ k, U k → V k) : Kept V W W' := ⟨h.1, fun k o ho hu => h.2 k o ho fun hc => hu (hv k hc)⟩
theorem Kept.put {U : Nat → Prop} (W : World) {l : Nat} (o' : Obj) (hl : U l) : Kept U W (W.putObj l o') := ⟨by simp, fun k o ho hu => (World.putObj_heap_other (fun e => hu (by rw [e]; exact hl))).trans ho⟩
theorem Kept.heap {U : Nat → Prop} {W W' : World} (h : Kept U W W') {k : Nat} (hk : k < W.heap.size) (hu : ¬ U k) : W'.heap[k]? = W.heap[k]? := by
  rw [Array.getElem?_eq_getElem hk]
  exact h.2 k _ (Array.getElem?_eq_getElem hk) hu
theorem Kept.cell {U : Nat → Prop} {W W' : World} (h : Kept U W W') {p : Addr} (hk : p.block < W.heap.size) (hu : ¬ U p.block) : W'.cell? p = W.cell? p := World.cell?_of_block (w := W) (h.heap hk hu)
theorem Kept.frozen {U : Nat → Prop} {W W' : World} (h : Kept U W W') {p : Addr} (hk : p.block < W.heap.size) (hu : ¬ U p.block) : W'.frozen? p = W.frozen? p := World.frozen?_of_block (w := W) (h.heap hk hu)
theorem below_putU (W : World) {k B : Nat} (o' : Obj) (h : B ≤ k) : Below B W (W.putObj k o') := ⟨rfl, rfl, rfl, by simp, fun i hi => World.putObj_heap_other (by omega)⟩

/-- an iterator (a closure over lb) that yields enc 0, .., enc (N - 1); between two rounds all blocks but those of U lie as they lay -/
def IterAt (n : Nat) (P : Program) (gf : Nat) (lb : Array Value) (enc : Nat → Array Value) (N : Nat) (U : Nat → Prop) (w : World) : Prop :=
  ∀ (l : Nat) (J Jx : Nat → World → Prop) (W : World), Below w.heap.size w W → w.heap.size ≤ l → l < W.heap.size →
    (∀ k A B, J k A → Below W.heap.size A B → J k B) →
    (∀ k W1, k < N → J k W1 → YieldAt Fence.wide (n - 1 - 1) P l (enc k) W1 fun e W' =>
      (e = .returned (.bool true) ∧ J (k + 1) W' ∧ Kept (fun i => U i ∨ i = l) W1 W') ∨ (e = .returned (.bool false) ∧ Jx k W')) →
    J 0 W → CallsIn Fence.wide (n - 1) P gf (#[.func (.yield l) #[] #[]] ++ lb) W fun e W' => (∃ v, e = .returned v) ∧ (J N W' ∨ ∃ k, k < N ∧ Jx k W')

theorem range_law {P : Program} {n : Nat} {g : Operand} {ps : Array Tmp} {assign body : Code} {Q : Exit → Act → World → Prop} {a : Act} {w : World} {gf : Nat} {lb : Array Value} (N : Nat) (U : Nat → Prop) (enc : Nat → Array Value)
    (hg : a.eval g = .func (.func gf) #[] lb) (eg : ∀ args w, (callFunc gf args).run P w = .ok (.enter gf args) w) (hU : ∀ k, w.heap.size ≤ k → ¬ U k)
    (iter : IterAt n P gf lb enc N U w) (hps : ∀ k, (enc k).size = ps.size)
    (I Ix : Nat → World → Prop) (hI : ∀ k A B, I k A → Below w.heap.size A B → I k B) (hIx : ∀ k A B, Ix k A → Below w.heap.size A B → Ix k B) (h0 : I 0 w)
    (Ax : Nat → Act → World → Prop) (hAx : ∀ k a' A B, Ax k a' A → Below w.heap.size A B → Ax k a' B)
    (hassign : ∀ (l k : Nat) (W : World) (K : Act → World → Prop), k < N → I k W → (∀ a' W', Kept U W W' → Ax k a' W' → K a' W') →
      assign.wpIn (Fence.wide.inRound l) (n - 1 - 1) P (Exit.then K (fun _ _ _ => False)) { tmps := (ps.zip (enc k)).foldl (fun t (p, v) => t.setIfInBounds p v) a.tmps, defers := [] } W)
    (hbody : ∀ (l k : Nat) (a' : Act) (W : World), k < N → Ax k a' W → body.wpIn (Fence.wide.inRound l) (n - 1 - 1) P (fun e _ W' => Kept U W W' ∧ ((e = .normal ∧ I (k + 1) W') ∨ (e = .ret ∧ Ix k W'))) a' W)
    (hdone : ∀ (D : Nat) (W : World), w.heap.size ≤ D → I N W → W.heap[D]? = some (.deferred (some [])) → Q .normal { a with defers := { target := .collected D, args := #[] } :: a.defers } W)
    (hstop : ∀ (D k : Nat) (W : World), w.heap.size ≤ D → k < N → Ix k W → W.heap[D]? = some (.deferred (some [])) → Code.ret.wpIn Fence.wide n P Q { a with defers := { target := .collected D, args := #[] } :: a.defers } W) :
    (Code.rangeFunc g ps assign body).wpIn Fence.wide n P Q a w := by
  refine wpIn_rangeFunc fun fn hfn => ?_
  obtain ⟨D, hD⟩ : ∃ D, w.heap.size = D := ⟨_, rfl⟩
  obtain ⟨rc, hrc⟩ : ∃ rc : LoopState → Option Code → Loop, rc = fun st pe => { state := st, pending := pe, fn, tmps := a.tmps, params := ps, assign, body, defers := D } := ⟨_, rfl⟩
  obtain ⟨w1, hw1⟩ : ∃ w1, (w.alloc (.deferred (some []))).alloc (.loop (rc .ready none)) = w1 := ⟨_, rfl⟩
  have hl : w1.heap[D + 1]? = some (.loop (rc .ready none)) := by
    have := World.alloc_heap_new (w.alloc (.deferred (some []))) (.loop (rc .ready none))
    rw [World.size_alloc, hD] at this
    rw [← hw1]; exact this
  have hd : w1.heap[D]? = some (.deferred (some [])) := by
    rw [← hw1, ← hD]
    exact (Below.heap_alloc _ _ _ (by simp)).trans (World.alloc_heap_new w _)
  have hB1 : Below w.heap.size w w1 := by rw [← hw1]; exact ((Below.refl _ w).alloc (Nat.le_refl _) _).alloc (by simp) _
  have hs1 : w1.heap.size = D + 2 := by rw [← hw1]; simp [hD]
  refine ⟨D + 1, [{ target := .collected D, args := #[] }], w1, { target := .fn (.func gf) lb, args := #[.func (.yield (D + 1)) #[] #[]] }, w1, gf, #[.func (.yield (D + 1)) #[] #[]] ++ lb, w1, ?_, ?_, ?_, ?_, fun h => by simp [Fence.wide] at h, ?_⟩
  · rw [← hw1, hrc, ← hD]; exact run_enterLoop_outer _ _ _ _ _
  · simp only [resolve, hg]
    simp [go_sem]
  · intro f' hf'; trivial
  · simp [invoke, go_sem, eg]
  · refine (iter (D + 1) (fun k W => I k W ∧ W.heap[D + 1]? = some (.loop (rc .ready none)) ∧ W.heap[D]? = some (.deferred (some [])))
      (fun k W => Ix k W ∧ W.heap[D + 1]? = some (.loop (rc .done (some .ret))) ∧ W.heap[D]? = some (.deferred (some []))) w1 hB1 (by omega) (by omega) ?_ ?_ ⟨hI _ _ _ h0 hB1, hl, hd⟩).mono ?_
    · rintro k A B ⟨h1, h2, h3⟩ hb
      exact ⟨hI k A B h1 (hb.mono (by omega)), (hb.block _ (by omega)).trans h2, (hb.block _ (by omega)).trans h3⟩
    · rintro k W hk ⟨hi, hlW, hdW⟩
      have hlt := (Array.getElem?_eq_some_iff.1 hlW).1
      have hy := run_yield (P := P) (args := enc k) hlW (by rw [hrc]; exact hps k)
      rw [hrc] at hy
      refine ⟨fn, _, assign, body, hy, roundIn_of_wpIn hfn (hassign _ k W _ hk hi fun a' W2 hK2 hA2 => ?_)⟩
      have hl2 := hK2.2 _ _ hlW (hU _ (by omega))
      have hd2 := hK2.2 _ _ hdW (hU _ (by omega))
      have hlt2 := (Array.getElem?_eq_some_iff.1 hl2).1
      refine ⟨_, run_beginRound hl2 (by rw [hrc]), ?_⟩
      obtain ⟨W3, hW3⟩ : ∃ W3, W2.putObj (D + 1) (.loop { rc .ready none with state := .busy }) = W3 := ⟨_, rfl⟩
      have l3 : W3.heap[D + 1]? = some (.loop { rc .ready none with state := .busy }) := by rw [← hW3]; exact World.putObj_heap_same hlt2
      have d3 : W3.heap[D]? = some (.deferred (some [])) := by rw [← hW3]; exact (World.putObj_heap_other (by omega)).trans hd2
      have k3 : Kept (fun i => U i ∨ i = D + 1) W W3 := (hK2.mono fun i h => .inl h).trans (by rw [← hW3]; exact Kept.put _ _ (.inr rfl))
      have A3 : Ax k a' W3 := hAx _ _ _ _ hA2 (by rw [← hW3]; exact below_putU _ _ (by omega))
      rw [hW3]
      refine wpIn_mono (hbody _ k a' W3 hk A3) ?_
      rintro e a4 W4 ⟨hk4, hp⟩
      have l4 := hk4.2 _ _ l3 (hU _ (by omega))
      have d4 := hk4.2 _ _ d3 (hU _ (by omega))
      have hlt4 := (Array.getElem?_eq_some_iff.1 l4).1
      rcases hp with ⟨rfl, hi4⟩ | ⟨rfl, hi4⟩
      · have he := run_endRound (P := P) none l4
        refine ⟨_, _, he, .inl ⟨rfl, ⟨hI _ _ _ hi4 (below_putU _ _ (by omega)), ?_, ?_⟩, ?_⟩⟩
        · rw [World.putObj_heap_same hlt4, hrc]; rfl
        · exact (World.putObj_heap_other (by omega)).trans d4
        · exact (k3.trans (hk4.mono fun i h => .inl h)).trans (Kept.put _ _ (.inr rfl))
      · have he := run_endRound (P := P) (some .ret) l4
        refine ⟨_, _, he, .inr ⟨rfl, hIx _ _ _ hi4 (below_putU _ _ (by omega)), ?_, ?_⟩⟩
        · rw [World.putObj_heap_same hlt4, hrc]; rfl
        · exact (World.putObj_heap_other (by omega)).trans d4
    · rintro e W2 ⟨⟨v, rfl⟩, ⟨hi, hlW, hdW⟩ | ⟨k, hk, hi, hlW, hdW⟩⟩
      · have hend := run_endLoop (P := P) hlW (by rw [hrc]; simp)
        rw [hrc] at hend
        exact ⟨none, _, hend, hdone D _ (by omega) (hI _ _ _ hi (below_putU _ _ (by omega))) ((World.putObj_heap_other (by omega)).trans hdW)⟩
      · have hend := run_endLoop (P := P) hlW (by rw [hrc]; simp)
        rw [hrc] at hend
        exact ⟨some .ret, _, hend, hstop D k _ (by omega) hk (hIx _ _ _ hi (below_putU _ _ (by omega))) ((World.putObj_heap_other (by omega)).trans hdW)⟩
end Go.Proofs.Ytloddjjmoaljhaa

