/- A law for a range over a function whose body writes blocks of the caller's own; slices.Backward over things. -/
import Derived.Test.YtloddjjmoaljhaaG6
import Derived.Maps.OwnIn
import Derived.RangeFuncNested
import Derived.RangeFuncCalls
import Derived.TacticsInMore
namespace Go.Proofs.Ytloddjjmoaljhaa
open Go.RowKit Go.Lib Go.Shelf Go.Maps
set_option linter.unusedVariables false
set_option linter.unusedSimpArgs false
attribute [local go_sem] Oper.semAt_some

/-- what is no row of cells and lies from B on lies as it lay -/
def StayB (B : Nat) (W W' : World) : Prop := ∀ (k : Nat) (o : Obj), B ≤ k → W.heap[k]? = some o → o.isCells = false → W'.heap[k]? = some o
/-- the blocks of T lie as they lay -/
def KpT (T : Nat → Prop) (W W' : World) : Prop := ∀ (k : Nat) (o : Obj), T k → W.heap[k]? = some o → W'.heap[k]? = some o
theorem StayB.trans {B : Nat} {a b c : World} (h : StayB B a b) (k : StayB B b c) : StayB B a c := fun i o hi ho hc => k i o hi (h i o hi ho hc) hc
theorem KpT.trans {T : Nat → Prop} {a b c : World} (h : KpT T a b) (k : KpT T b c) : KpT T a c := fun i o hi ho => k i o hi (h i o hi ho)
theorem StayB.refl (B : Nat) (W : World) : StayB B W W := fun _ _ _ h _ => h
theorem KpT.refl (T : Nat → Prop) (W : World) : KpT T W W := fun _ _ _ h => h
theorem StayB.of_below {B : Nat} {W W' : World} (h : Below W.heap.size W W') : StayB B W W' := fun i o _ ho _ => (h.block i (Array.getElem?_eq_some_iff.1 ho).1).trans ho
theorem KpT.of_below {T : Nat → Prop} {W W' : World} (h : Below W.heap.size W W') : KpT T W W' := fun i o _ ho => (h.block i (Array.getElem?_eq_some_iff.1 ho).1).trans ho
theorem KpT.cell {T : Nat → Prop} {W W' : World} (h : KpT T W W') {b o : Nat} {x : Value} (hb : T b) (hc : W.cell? ⟨b, o, none⟩ = some x) : W'.cell? ⟨b, o, none⟩ = some x := by
  have hlt : b < W.heap.size := World.block_lt_of_cell? W ⟨b, o, none⟩ hc
  have hk : W.heap[b]? = some W.heap[b] := Array.getElem?_eq_getElem hlt
  exact (World.cell?_of_block (w := W) ((h b _ hb hk).trans hk.symm)).trans hc

theorem range_stay {P : Program} {n : Nat} {g : Operand} {ps : Array Tmp} {assign body : Code} {Q : Exit → Act → World → Prop} {a : Act} {w : World} {gf : Nat} {lb : Array Value} (N : Nat) (T : Nat → Prop) (enc : Nat → Array Value)
    (hg : a.eval g = .func (.func gf) #[] lb) (eg : ∀ args w, (callFunc gf args).run P w = .ok (.enter gf args) w) (hT : ∀ k, T k → k < w.heap.size)
    (iter : ∀ (l : Nat) (J : Nat → World → Prop) (W : World), Below w.heap.size w W →
      (∀ k W1, k < N → J k W1 → YieldAt Fence.wide (n - 1 - 1) P l (enc k) W1 fun e W' => e = .returned (.bool true) ∧ J (k + 1) W' ∧ KpT T W1 W') →
      J 0 W → CallsIn Fence.wide (n - 1) P gf (#[.func (.yield l) #[] #[]] ++ lb) W fun e W' => (∃ v, e = .returned v) ∧ J N W')
    (hps : ∀ k, (enc k).size = ps.size) (I : Nat → World → Prop) (h0 : I 0 w) (hIa : ∀ k W o, I k W → I k (W.alloc o))
    (hIp : ∀ k W i o o', I k W → w.heap.size ≤ i → W.heap[i]? = some o → o.isCells = false → I k (W.putObj i o'))
    (Ax : Nat → Act → World → Prop) (hAx : ∀ k a' W i o o', Ax k a' W → w.heap.size ≤ i → W.heap[i]? = some o → o.isCells = false → Ax k a' (W.putObj i o'))
    (hassign : ∀ (l k : Nat) (W : World) (K : Act → World → Prop), k < N → I k W → (∀ a' W', StayB w.heap.size W W' → KpT T W W' → Ax k a' W' → K a' W') →
      assign.wpIn (Fence.wide.inRound l) (n - 1 - 1) P (Exit.then K (fun _ _ _ => False)) { tmps := (ps.zip (enc k)).foldl (fun t (p, v) => t.setIfInBounds p v) a.tmps, defers := [] } W)
    (hbody : ∀ (l k : Nat) (a' : Act) (W : World), k < N → Ax k a' W → body.wpIn (Fence.wide.inRound l) (n - 1 - 1) P (fun e _ W' => e = .normal ∧ StayB w.heap.size W W' ∧ KpT T W W' ∧ I (k + 1) W') a' W)
    (hdone : ∀ (D : Nat) (W : World), w.heap.size ≤ D → I N W → W.heap[D]? = some (.deferred (some [])) → Q .normal { a with defers := { target := .collected D, args := #[] } :: a.defers } W) :
    (Code.rangeFunc g ps assign body).wpIn Fence.wide n P Q a w := by
  refine wpIn_rangeFunc fun fn hfn => ?_
  obtain ⟨D, hD⟩ : ∃ D, w.heap.size = D := ⟨_, rfl⟩
  obtain ⟨rc, hrc⟩ : ∃ rc : LoopState → Loop, rc = fun st => { state := st, pending := none, fn, tmps := a.tmps, params := ps, assign, body, defers := D } := ⟨_, rfl⟩
  obtain ⟨w1, hw1⟩ : ∃ w1, (w.alloc (.deferred (some []))).alloc (.loop (rc .ready)) = w1 := ⟨_, rfl⟩
  have hl : w1.heap[D + 1]? = some (.loop (rc .ready)) := by
    have := World.alloc_heap_new (w.alloc (.deferred (some []))) (.loop (rc .ready))
    rw [World.size_alloc, hD] at this
    rw [← hw1]; exact this
  have hd : w1.heap[D]? = some (.deferred (some [])) := by
    rw [← hw1, ← hD]
    exact (Below.heap_alloc _ _ _ (by simp)).trans (World.alloc_heap_new w _)
  have hB1 : Below w.heap.size w w1 := by rw [← hw1]; exact ((Below.refl _ w).alloc (Nat.le_refl _) _).alloc (by simp) _
  have hKb : ∀ (W : World) (k : Nat) (o' : Obj), D ≤ k → KpT T W (W.putObj k o') := fun W k o' hk i o hi ho => (World.putObj_heap_other (by have := hT i hi; omega)).trans ho
  refine ⟨D + 1, [{ target := .collected D, args := #[] }], w1, { target := .fn (.func gf) lb, args := #[.func (.yield (D + 1)) #[] #[]] }, w1, gf, #[.func (.yield (D + 1)) #[] #[]] ++ lb, w1, ?_, ?_, ?_, ?_, fun h => by simp [Fence.wide] at h, ?_⟩
  · rw [← hw1, hrc, ← hD]; exact run_enterLoop_outer _ _ _ _ _
  · simp only [resolve, hg]
    simp [go_sem]
  · intro f' hf'; trivial
  · simp [invoke, go_sem, eg]
  · refine (iter (D + 1) (fun k W => I k W ∧ W.heap[D + 1]? = some (.loop (rc .ready)) ∧ W.heap[D]? = some (.deferred (some []))) w1 hB1 ?_ ⟨by rw [← hw1]; exact hIa _ _ _ (hIa _ _ _ h0), hl, hd⟩).mono ?_
    · rintro k W hk ⟨hi, hlW, hdW⟩
      have hy := run_yield (P := P) (args := enc k) hlW (by rw [hrc]; exact hps k)
      rw [hrc] at hy
      refine ⟨fn, _, assign, body, hy, roundIn_of_wpIn hfn (hassign _ k W _ hk hi fun a' W2 hS2 hK2 hA2 => ?_)⟩
      have hl2 := hS2 _ _ (by omega) hlW rfl
      have hd2 := hS2 _ _ (by omega) hdW rfl
      have hlt2 := (Array.getElem?_eq_some_iff.1 hl2).1
      refine ⟨_, run_beginRound hl2 (by rw [hrc]), ?_⟩
      obtain ⟨W3, hW3⟩ : ∃ W3, W2.putObj (D + 1) (.loop { rc .ready with state := .busy }) = W3 := ⟨_, rfl⟩
      have l3 : W3.heap[D + 1]? = some (.loop { rc .ready with state := .busy }) := by rw [← hW3]; exact World.putObj_heap_same hlt2
      have d3 : W3.heap[D]? = some (.deferred (some [])) := by rw [← hW3]; exact (World.putObj_heap_other (by omega)).trans hd2
      have k3 : KpT T W W3 := hK2.trans (by rw [← hW3]; exact hKb _ _ _ (by omega))
      have A3 : Ax k a' W3 := by rw [← hW3]; exact hAx _ _ _ _ _ _ hA2 (by omega) hl2 rfl
      rw [hW3]
      refine wpIn_mono (hbody _ k a' W3 hk A3) ?_
      rintro e a4 W4 ⟨rfl, hs4, hk4, hi4⟩
      have l4 := hs4 _ _ (by omega) l3 rfl
      have d4 := hs4 _ _ (by omega) d3 rfl
      have hlt4 := (Array.getElem?_eq_some_iff.1 l4).1
      have he := run_endRound (P := P) none l4
      refine ⟨_, _, he, rfl, ⟨hIp _ _ _ _ _ hi4 (by omega) l4 rfl, ?_, ?_⟩, ?_⟩
      · rw [World.putObj_heap_same hlt4, hrc]; rfl
      · exact (World.putObj_heap_other (by omega)).trans d4
      · exact (k3.trans hk4).trans (hKb _ _ _ (by omega))
    · rintro e W2 ⟨⟨v, rfl⟩, hi, hlW, hdW⟩
      have hend := run_endLoop (P := P) hlW (by rw [hrc]; simp)
      rw [hrc] at hend
      exact ⟨none, _, hend, hdone D _ (by omega) (hIp _ _ _ _ _ hi (by omega) hlW rfl) ((World.putObj_heap_other (by omega)).trans hdW)⟩

/-- what Backward hands on: a thing's number, and the thing -/
def encB (hs : List (Value × Th)) (N k : Nat) : Array Value :=
  match hs[N - 1 - k]? with
  | some q => #[.int .i64 ((N - 1 - k : Nat) : Int), vTh q]
  | none => #[.int .i64 0, .int .i64 0]
theorem encB_size (hs : List (Value × Th)) (N k : Nat) : (encB hs N k).size = 2 := by
  unfold encB; split <;> rfl
set_option maxRecDepth 40000 in
set_option maxHeartbeats 4000000 in
theorem back1_in (n : Nat) (hn : 2 ≤ n) (hs : List (Value × Th)) (N sb g c : Nat) (hN : N ≤ hs.length) (hN2 : hs.length ≤ 1000) (w : World) (lsb : sb < w.heap.size) (lg : g < w.heap.size)
    (s0 : w.cell? ⟨sb, 0, none⟩ = some (.slice (some ⟨g, 0, none⟩) N c)) (hr : ∀ k p, hs[k]? = some p → w.cell? ⟨g, k * 3, none⟩ = some p.1 ∧ w.cell? ⟨g, k * 3 + 1, none⟩ = some (.int .i64 p.2.m) ∧ w.cell? ⟨g, k * 3 + 2, none⟩ = some (.int .i64 p.2.l))
    (l : Nat) (J : Nat → World → Prop) (W : World) (hW : Below w.heap.size w W)
    (hY : ∀ k W1, k < N → J k W1 → YieldAt Fence.wide (n - 1 - 1) Try.prog l (encB hs N k) W1 fun e W' => e = .returned (.bool true) ∧ J (k + 1) W' ∧ KpT (fun i => i = sb ∨ i = g) W1 W')
    (h0 : J 0 W) :
    CallsIn Fence.wide (n - 1) Try.prog 63 (#[.func (.yield l) #[] #[]] ++ #[.pointer (some ⟨sb, 0, none⟩)]) W fun e W' => (∃ v, e = .returned v) ∧ J N W' := by
  have HS0 := Lib.hid (cell_next hW lsb s0)
  have HR : Hid (∀ k p, hs[k]? = some p → W.cell? ⟨g, k * 3, none⟩ = some p.1 ∧ W.cell? ⟨g, k * 3 + 1, none⟩ = some (.int .i64 p.2.m) ∧ W.cell? ⟨g, k * 3 + 2, none⟩ = some (.int .i64 p.2.l)) := Lib.hid (fun k p h => ⟨cell_next hW lg (hr k p h).1, cell_next hW lg (hr k p h).2.1, cell_next hW lg (hr k p h).2.2⟩)
  have HY := Lib.hid hY
  have z0 := HS0.out
  have y0 : IntKind.i64.wrap ((N : Int) - 1) = (N : Int) - 1 := IntWalk.i64_in _ (by omega)
  clear s0 hr hY
  refine callsIn_of_wp Try.func63 rfl trivial ?_ rfl
  simp only [Try.ntmps63, List.size_toArray, List.length_cons, List.length_nil, Nat.reduceAdd, Nat.reduceSub, Array.replicate_succ, Array.replicate_zero, List.push_toArray, List.append_toArray, List.nil_append, List.cons_append]
  gi_wp2
  gi_loopw [3] (fun i wr => ∃ r : Nat, r ≤ N ∧ i = .int .i64 ((r : Int) - 1) ∧ Hid (J (N - r) wr) ∧ Hid (KpT (fun i => i = sb ∨ i = g) W wr)) (fun i _ => (RowKit.intOf i + 1).toNat)
  case atStart => exact ⟨N, Nat.le_refl _, rfl, Lib.hid (by rw [Nat.sub_self]; exact h0), Lib.hid (KpT.refl _ _)⟩
  case round =>
    obtain ⟨r, hr, rfl, hJ, hK⟩ := hrel
    rcases r with _ | j
    · have t1 : decide ((0 : Int) ≤ ((0 : Nat) : Int) - 1) = false := by simp
      gi_wp2
      go_end0
      exact ⟨⟨_, rfl⟩, hJ.out⟩
    · have e : (((j + 1 : Nat) : Int) - 1) = (j : Int) := by omega
      rw [e]
      obtain ⟨⟨tv, th⟩, hp⟩ : ∃ p, hs[j]? = some p := ⟨_, List.getElem?_eq_getElem (by omega)⟩
      obtain ⟨q0, q1, q2⟩ := HR.out j _ hp
      replace q0 := hK.out.cell (.inr rfl) q0
      replace q1 := hK.out.cell (.inr rfl) q1
      replace q2 := hK.out.cell (.inr rfl) q2
      have s1 := hK.out.cell (.inl rfl) HS0.out
      obtain ⟨fn, tmps, assign, body, hy, hRd⟩ := HY.out (N - (j + 1)) wr (by omega) hJ.out
      have hidx : N - 1 - (N - (j + 1)) = j := by omega
      simp only [encB, hidx, hp, vTh] at hy
      have hjN : (j : Int) < (N : Int) := by omega
      have y1 : IntKind.i64.wrap ((j : Int) - 1) = (j : Int) - 1 := IntWalk.i64_in _ (by omega)
      have hn1 : 1 ≤ n - 1 := by omega
      dsimp only at q0 q1 q2 hy
      gi_wp2
      refine hRd.mono ?_
      rintro e W3 ⟨rfl, hJ3, hk3⟩
      have HJ3 : Hid (J (N - j) W3) := Lib.hid (by rw [show N - j = N - (j + 1) + 1 from by omega]; exact hJ3)
      have HK3 := Lib.hid (hK.out.trans hk3)
      clear hk3 hy hRd hJ hK hJ3 hp
      gi_wp2
      exact ⟨⟨j, by omega, rfl, HJ3, HK3⟩, by simp [RowKit.intOf]; try omega⟩
end Go.Proofs.Ytloddjjmoaljhaa
