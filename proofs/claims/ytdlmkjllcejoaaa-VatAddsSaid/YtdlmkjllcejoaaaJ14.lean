/- Contracts: U31, U32, U33, U34, U35, joined. -/
import Derived.Test.YtdlmkjllcejoaaaJ11
import Derived.Test.YtdlmkjllcejoaaaJ12
import Derived.Test.YtdlmkjllcejoaaaJ1
import Derived.Test.YtdlmkjllcejoaaaJ10
namespace Go.Proofs.Ytdlmkjllcejoaaa
set_option linter.unusedVariables false

/-- a concentration is reached -/
def dnB (b : Nat) (x : Nat × Nat) : Bool := decide (0 < x.2) && decide (b * (x.1 + x.2) ≤ x.2 * 10000)
/-- the first number below N for which f holds, or -1 -/
def fstI (f : Nat → Bool) : Nat → Int
  | 0 => -1
  | n + 1 => if 0 ≤ fstI f n then fstI f n else if f n = true then (n : Int) else -1
theorem fstI_spec (f : Nat → Bool) : ∀ N, (fstI f N = -1 ∧ ∀ j, j < N → f j = false) ∨ ∃ k, k < N ∧ fstI f N = (k : Int) ∧ f k = true ∧ ∀ j, j < k → f j = false
  | 0 => .inl ⟨rfl, fun j h => absurd h (Nat.not_lt_zero j)⟩
  | n + 1 => by
    rcases fstI_spec f n with ⟨h1, h2⟩ | ⟨k, hk, h1, h2, h3⟩
    · by_cases hf : f n = true
      · exact .inr ⟨n, by omega, by simp [fstI, h1, hf], hf, h2⟩
      · refine .inl ⟨by simp [fstI, h1, hf], fun j hj => ?_⟩
        rcases Nat.lt_or_ge j n with h | h
        · exact h2 j h
        · obtain rfl : j = n := by omega
          simpa using hf
    · exact .inr ⟨k, by omega, by simp [fstI, h1], h2, h3⟩
theorem fstI_at {f : Nat → Bool} {N k : Nat} (hk : k < N) (h : f k = true) (hj : ∀ j, j < k → f j = false) : fstI f N = (k : Int) := by
  rcases fstI_spec f N with ⟨_, h2⟩ | ⟨m, hm, h1, h2, h3⟩
  · rw [h2 k hk] at h; cases h
  · rcases Nat.lt_trichotomy m k with c | c | c
    · rw [hj m c] at h2; cases h2
    · rw [h1, c]
    · rw [h3 k c] at h; cases h
theorem fstI_no {f : Nat → Bool} {N : Nat} (hj : ∀ j, j < N → f j = false) : fstI f N = -1 := by
  rcases fstI_spec f N with ⟨h1, _⟩ | ⟨m, hm, h1, h2, h3⟩
  · exact h1
  · rw [hj m hm] at h2; cases h2
theorem fstI_rng (f : Nat → Bool) (N : Nat) : -1 ≤ fstI f N ∧ fstI f N < N := by
  rcases fstI_spec f N with ⟨h1, _⟩ | ⟨m, hm, h1, h2, h3⟩ <;> omega
/-- where g holds wherever f does, it holds no later -/
theorem fstI_le {f g : Nat → Bool} {N : Nat} (h : ∀ k, f k = true → g k = true) (hf : fstI f N ≠ -1) : fstI g N ≠ -1 ∧ 0 ≤ fstI g N ∧ fstI g N ≤ fstI f N := by
  rcases fstI_spec f N with ⟨h1, _⟩ | ⟨m, hm, h1, h2, h3⟩
  · exact absurd h1 hf
  · rcases fstI_spec g N with ⟨g1, g2⟩ | ⟨n, hn, g1, g2, g3⟩
    · have := g2 m hm
      rw [h m h2] at this; cases this
    · rcases Nat.lt_or_ge m n with c | c
      · have := g3 m c
        rw [h m h2] at this; cases this
      · omega

/-- rounds of one kind -/
def lsI (b t p : Nat) (x : Nat × Nat) (most : Nat) : Int := fstI (fun k => dnB b (rk t p x k)) (most + 1)

theorem offS_sugar (w s d t p : Nat) (hw : 0 < w) (ht : t ≤ 10000) (hp : p ≤ 10000) : offS w (s + d) t p ≤ offS w s t p + d := by
  unfold offS
  have ho := offW_le w t ht
  generalize offW w t = o at *
  have h1 : d * p * o ≤ d * (w * 10000) := by
    calc d * p * o ≤ d * 10000 * w := Nat.mul_le_mul (Nat.mul_le_mul_left _ hp) ho
      _ = d * (w * 10000) := by rw [Nat.mul_assoc, Nat.mul_comm 10000 w]
  have hD : 0 < w * 10000 := by omega
  have h2 : (s + d) * p * o ≤ s * p * o + d * (w * 10000) := by
    rw [Nat.add_mul, Nat.add_mul]; omega
  generalize w * 10000 = D at *
  refine Nat.le_trans (Nat.div_le_div_right h2) ?_
  rw [Nat.add_mul_div_right _ _ hD]
  exact Nat.le_refl _
theorem offS_pass (w s t p p' : Nat) (hp : p ≤ p') : offS w s t p ≤ offS w s t p' := by
  unfold offS
  exact Nat.div_le_div_right (Nat.mul_le_mul_right _ (Nat.mul_le_mul_left _ hp))
/-- the more passes, the less sugar is kept, beside the same water -/
theorem rk_pass (t p p' : Nat) (x : Nat × Nat) (ht : t ≤ 10000) (hp : p ≤ p') (hp' : p' ≤ 10000) : ∀ k, (rk t p' x k).1 = (rk t p x k).1 ∧ (rk t p' x k).2 ≤ (rk t p x k).2
  | 0 => ⟨rfl, Nat.le_refl _⟩
  | k + 1 => by
    obtain ⟨h1, h2⟩ := rk_pass t p p' x ht hp hp' k
    show (rk t p' x k).1 - offW (rk t p' x k).1 t = (rk t p x k).1 - offW (rk t p x k).1 t ∧ (rk t p' x k).2 - offS (rk t p' x k).1 (rk t p' x k).2 t p' ≤ (rk t p x k).2 - offS (rk t p x k).1 (rk t p x k).2 t p
    rw [h1]
    refine ⟨rfl, ?_⟩
    generalize (rk t p x k).1 = w at *
    generalize (rk t p x k).2 = s at *
    generalize (rk t p' x k).2 = s' at *
    rcases Nat.eq_zero_or_pos w with rfl | hw
    · simp [offS]; exact h2
    · obtain ⟨d, rfl⟩ : ∃ d, s = s' + d := ⟨s - s', by omega⟩
      have a1 := offS_sugar w s' d t p hw ht (by omega)
      have a2 := offS_pass w s' t p p' hp
      have a3 := offS_le w s' t p' ht hp'
      omega
theorem dnB_mono (b w s s' : Nat) (hb : b ≤ 10000) (h : s' ≤ s) (hd : dnB b (w, s') = true) : dnB b (w, s) = true := by
  simp only [dnB, Bool.and_eq_true, decide_eq_true_eq] at hd ⊢
  obtain ⟨h1, h2⟩ := hd
  refine ⟨by omega, ?_⟩
  obtain ⟨d, rfl⟩ : ∃ d, s = s' + d := ⟨s - s', by omega⟩
  have : b * d ≤ 10000 * d := Nat.mul_le_mul_right _ hb
  rw [← Nat.add_assoc, Nat.mul_add, Nat.add_mul]
  omega
theorem dn_pass (b t p p' : Nat) (x : Nat × Nat) (hb : b ≤ 10000) (ht : t ≤ 10000) (hp : p ≤ p') (hp' : p' ≤ 10000) (k : Nat) (h : dnB b (rk t p' x k) = true) : dnB b (rk t p x k) = true := by
  obtain ⟨h1, h2⟩ := rk_pass t p p' x ht hp hp' k
  have e : rk t p' x k = ((rk t p x k).1, (rk t p' x k).2) := by rw [← h1]
  rw [e] at h
  exact dnB_mono b _ _ _ hb h2 h
/-- and the more rounds are needed -/
theorem lsI_pass (b t p p' : Nat) (x : Nat × Nat) (most : Nat) (hb : b ≤ 10000) (ht : t ≤ 10000) (hp : p ≤ p') (hp' : p' ≤ 10000) (h : lsI b t p' x most ≠ -1) :
    lsI b t p x most ≠ -1 ∧ 0 ≤ lsI b t p x most ∧ lsI b t p x most ≤ lsI b t p' x most :=
  fstI_le (fun k => dn_pass b t p p' x hb ht hp hp' k) h
theorem rk_add (t p : Nat) (x : Nat × Nat) (a : Nat) : ∀ b, rk t p x (a + b) = rk t p (rk t p x a) b
  | 0 => rfl
  | b + 1 => by
    show stp t p (rk t p x (a + b)) = stp t p (rk t p (rk t p x a) b)
    rw [rk_add t p x a b]

open Go.RowKit Go.Lib Go.Shelf
set_option linter.unusedVariables false
set_option linter.unusedSimpArgs false
attribute [local go_sem ↓] Go.wp_at_zero Go.wp_at_succ
attribute [local go_sem] Oper.semAt_some

set_option maxHeartbeats 1000000 in
theorem dense_any (a s b : Nat) (ha : a ≤ 1000000000000) (hs : s ≤ 1000000000000) (hb : b ≤ 10000) (g : Nat) (w : World) (h : w.cell? ⟨g, 0, none⟩ = some (.int .i64 (b : Int))) (hg : g < w.heap.size) :
    Calls Try.prog 50 #[.agg #[.int .i64 (a : Int), .int .i64 (s : Int)], .pointer (some ⟨g, 0, none⟩)] w fun e w' => e = .returned (.bool (dnB b (a, s))) ∧ Below w.heap.size w w' := by
  have hD : Hid (dnB b (a, s) = (decide (0 < s) && decide (b * (a + s) ≤ s * 10000))) := Lib.hid rfl
  have hm : b * (a + s) ≤ 10000 * 2000000000000 := Nat.mul_le_mul hb (by omega)
  generalize dnB b (a, s) = r at *
  have f2 : IntKind.i64.wrap ((a : Int) + (s : Int)) = ((a + s : Nat) : Int) := by rw [← Int.natCast_add]; exact IntWalk.i64_in _ (by omega)
  have f3 : IntKind.i64.wrap ((b : Int) * ((a + s : Nat) : Int)) = ((b * (a + s) : Nat) : Int) := by rw [← Int.natCast_mul]; exact IntWalk.i64_in _ (by omega)
  have f1 : IntKind.i64.wrap ((s : Int) * 10000) = ((s * 10000 : Nat) : Int) := by rw [show (s : Int) * 10000 = ((s * 10000 : Nat) : Int) from by omega]; exact IntWalk.i64_in _ (by omega)
  have hg' : ¬ g = w.heap.size := by omega
  by_cases h0 : 0 < s
  · obtain ⟨q, hq⟩ : ∃ q, decide (((b * (a + s) : Nat) : Int) ≤ ((s * 10000 : Nat) : Int)) = q := ⟨_, rfl⟩
    have hR : Hid (r = q) := Lib.hid (by rw [hD.out, ← hq, show decide (0 < s) = true from by simpa using h0, Bool.true_and]; exact decide_eq_decide.2 (by omega))
    have t0 : decide ((0 : Int) < (s : Int)) = true := by simp; omega
    clear hD hm h0 ha hs hb
    generalize ((b * (a + s) : Nat) : Int) = M at *
    generalize ((s * 10000 : Nat) : Int) = T at *
    generalize ((a + s : Nat) : Int) = U at *
    generalize (s : Int) = S at *
    generalize (a : Int) = A at *
    generalize (b : Int) = B at *
    go_enter Try.func50, Try.ntmps50
    go_wp2_with fail
    go_ret
    exact ⟨by rw [hR.out]; rfl, (Below.refl _ _).alloc (Nat.le_refl _) _⟩
  · have hR : Hid (r = false) := Lib.hid (by rw [hD.out, show decide (0 < s) = false from by simpa using h0]; rfl)
    have t0 : decide ((0 : Int) < (s : Int)) = false := by simp; omega
    clear hD hm h0 ha hs hb f1 f2 f3
    generalize (s : Int) = S at *
    generalize (a : Int) = A at *
    generalize (b : Int) = B at *
    go_enter Try.func50, Try.ntmps50
    go_wp2_with fail
    go_ret
    exact ⟨by rw [hR.out]; rfl, (Below.refl _ _).alloc (Nat.le_refl _) _⟩
theorem enters_dense : ∀ args w, (callFunc 50 args).run Try.prog w = .ok (.enter 50 args) w := enters_of Try.func50 (by kernel_rfl) rfl

/-- the same, where what is assigned may lie in a block of the round's own -/
theorem range_law2 {P : Program} {n : Nat} {g : Operand} {ps : Array Tmp} {assign body : Code} {Q : Exit → Act → World → Prop} {a : Act} {w : World} {gf : Nat} {lb : Array Value} (N : Nat) (U : Nat → Prop) (enc : Nat → Array Value)
    (hg : a.eval g = .func (.func gf) #[] lb) (eg : ∀ args w, (callFunc gf args).run P w = .ok (.enter gf args) w) (hU : ∀ k, w.heap.size ≤ k → ¬ U k)
    (iter : IterAt n P gf lb enc N U w) (hps : ∀ k, (enc k).size = ps.size)
    (I Ix : Nat → World → Prop) (hI : ∀ k A B, I k A → Below w.heap.size A B → I k B) (hIx : ∀ k A B, Ix k A → Below w.heap.size A B → Ix k B) (h0 : I 0 w)
    (Ax : Nat → Act → World → Prop) (hAx : ∀ k a' A o, Ax k a' A → Ax k a' (A.putObj (w.heap.size + 1) o))
    (hassign : ∀ (l k : Nat) (W : World) (K : Act → World → Prop), k < N → w.heap.size + 1 < W.heap.size → I k W → (∀ a' W', Kept U W W' → Ax k a' W' → K a' W') →
      assign.wpIn (Fence.wide.inRound l) (n - 1 - 1) P (Exit.then K (fun _ _ _ => False)) { tmps := (ps.zip (enc k)).foldl (fun t (p, v) => t.setIfInBounds p v) a.tmps, defers := [] } W)
    (hbody : ∀ (l k : Nat) (a' : Act) (W : World), k < N → Ax k a' W → body.wpIn (Fence.wide.inRound l) (n - 1 - 1) P (fun e _ W' => Kept U W W' ∧ ((e = .normal ∧ I (k + 1) W') ∨ (e = .ret ∧ Ix k W'))) a' W)
    (hdone : ∀ (D : Nat) (W : World), w.heap.size ≤ D → I N W → W.heap[D]? = some (.deferred (some [])) → Q .normal { a with defers := { target := .collected D, args := #[] } :: a.defers } W)
    (hstop : ∀ (D k : Nat) (W : World), w.heap.size ≤ D → k < N → Ix k W → W.heap[D]? = some (.deferred (some [])) → Code.ret.wpIn Fence.wide n P Q { a with defers := { target := .collected D, args := #[] } :: a.defers } W) :
    (Code.rangeFunc g ps assign body).wpIn Fence.wide n P Q a w := by
  refine wpIn_rangeFunc fun fn hfn => ?_
  obtain ⟨D, hD⟩ : ∃ D, w.heap.size = D := ⟨_, rfl⟩
  obtain ⟨rc, hrc⟩ : ∃ rc : LoopState → Option Code → Loop, rc = fun st pe => { state := st, pending := pe, fn, tmps := a.tmps, params := ps, assign, body, defers := D } := ⟨_, rfl⟩
  obtain ⟨w1, hw1⟩ : ∃ w1, (w.alloc (.deferred (some []))).alloc (.loop (rc .ready none)) = w1 := ⟨_, rfl⟩
  have hl : w1.heap[D + 1]? = some (.loop (rc .ready none)) := by
    have := World.alloc_heap_new (w.alloc (.deferred (some []))) (.loop (rc .ready none))
    rw [World.size_alloc, hD] at this
    rw [← hw1]; exact this
  have hd : w1.heap[D]? = some (.deferred (some [])) := by
    rw [← hw1, ← hD]
    exact (Below.heap_alloc _ _ _ (by simp)).trans (World.alloc_heap_new w _)
  have hB1 : Below w.heap.size w w1 := by rw [← hw1]; exact ((Below.refl _ w).alloc (Nat.le_refl _) _).alloc (by simp) _
  have hs1 : w1.heap.size = D + 2 := by rw [← hw1]; simp [hD]
  refine ⟨D + 1, [{ target := .collected D, args := #[] }], w1, { target := .fn (.func gf) lb, args := #[.func (.yield (D + 1)) #[] #[]] }, w1, gf, #[.func (.yield (D + 1)) #[] #[]] ++ lb, w1, ?_, ?_, ?_, ?_, fun h => by simp [Fence.wide] at h, ?_⟩
  · rw [← hw1, hrc, ← hD]; exact run_enterLoop_outer _ _ _ _ _
  · simp only [resolve, hg]
    simp [go_sem]
  · intro f' hf'; trivial
  · simp [invoke, go_sem, eg]
  · refine (iter (D + 1) (fun k W => I k W ∧ W.heap[D + 1]? = some (.loop (rc .ready none)) ∧ W.heap[D]? = some (.deferred (some [])))
      (fun k W => Ix k W ∧ W.heap[D + 1]? = some (.loop (rc .done (some .ret))) ∧ W.heap[D]? = some (.deferred (some []))) w1 hB1 (by omega) (by omega) ?_ ?_ ⟨hI _ _ _ h0 hB1, hl, hd⟩).mono ?_
    · rintro k A B ⟨h1, h2, h3⟩ hb
      exact ⟨hI k A B h1 (hb.mono (by omega)), (hb.block _ (by omega)).trans h2, (hb.block _ (by omega)).trans h3⟩
    · rintro k W hk ⟨hi, hlW, hdW⟩
      have hlt := (Array.getElem?_eq_some_iff.1 hlW).1
      have hy := run_yield (P := P) (args := enc k) hlW (by rw [hrc]; exact hps k)
      rw [hrc] at hy
      refine ⟨fn, _, assign, body, hy, roundIn_of_wpIn hfn (hassign _ k W _ hk (by omega) hi fun a' W2 hK2 hA2 => ?_)⟩
      have hl2 := hK2.2 _ _ hlW (hU _ (by omega))
      have hd2 := hK2.2 _ _ hdW (hU _ (by omega))
      have hlt2 := (Array.getElem?_eq_some_iff.1 hl2).1
      refine ⟨_, run_beginRound hl2 (by rw [hrc]), ?_⟩
      obtain ⟨W3, hW3⟩ : ∃ W3, W2.putObj (D + 1) (.loop { rc .ready none with state := .busy }) = W3 := ⟨_, rfl⟩
      have l3 : W3.heap[D + 1]? = some (.loop { rc .ready none with state := .busy }) := by rw [← hW3]; exact World.putObj_heap_same hlt2
      have d3 : W3.heap[D]? = some (.deferred (some [])) := by rw [← hW3]; exact (World.putObj_heap_other (by omega)).trans hd2
      have k3 : Kept (fun i => U i ∨ i = D + 1) W W3 := (hK2.mono fun i h => .inl h).trans (by rw [← hW3]; exact Kept.put _ _ (.inr rfl))
      have A3 : Ax k a' W3 := (by rw [← hW3, ← hD]; exact hAx _ _ _ _ hA2)
      rw [hW3]
      refine wpIn_mono (hbody _ k a' W3 hk A3) ?_
      rintro e a4 W4 ⟨hk4, hp⟩
      have l4 := hk4.2 _ _ l3 (hU _ (by omega))
      have d4 := hk4.2 _ _ d3 (hU _ (by omega))
      have hlt4 := (Array.getElem?_eq_some_iff.1 l4).1
      rcases hp with ⟨rfl, hi4⟩ | ⟨rfl, hi4⟩
      · have he := run_endRound (P := P) none l4
        refine ⟨_, _, he, .inl ⟨rfl, ⟨hI _ _ _ hi4 (below_putU _ _ (by omega)), ?_, ?_⟩, ?_⟩⟩
        · rw [World.putObj_heap_same hlt4, hrc]; rfl
        · exact (World.putObj_heap_other (by omega)).trans d4
        · exact (k3.trans (hk4.mono fun i h => .inl h)).trans (Kept.put _ _ (.inr rfl))
      · have he := run_endRound (P := P) (some .ret) l4
        refine ⟨_, _, he, .inr ⟨rfl, hIx _ _ _ hi4 (below_putU _ _ (by omega)), ?_, ?_⟩⟩
        · rw [World.putObj_heap_same hlt4, hrc]; rfl
        · exact (World.putObj_heap_other (by omega)).trans d4
    · rintro e W2 ⟨⟨v, rfl⟩, ⟨hi, hlW, hdW⟩ | ⟨k, hk, hi, hlW, hdW⟩⟩
      · have hend := run_endLoop (P := P) hlW (by rw [hrc]; simp)
        rw [hrc] at hend
        exact ⟨none, _, hend, hdone D _ (by omega) (hI _ _ _ hi (below_putU _ _ (by omega))) ((World.putObj_heap_other (by omega)).trans hdW)⟩
      · have hend := run_endLoop (P := P) hlW (by rw [hrc]; simp)
        rw [hrc] at hend
        exact ⟨some .ret, _, hend, hstop D k _ (by omega) hk (hIx _ _ _ hi (below_putU _ _ (by omega))) ((World.putObj_heap_other (by omega)).trans hdW)⟩

theorem Kept.belowW {U : Nat → Prop} {W W' : World} (h : Below W.heap.size W W') : Kept U W W' := ⟨h.size, fun k o ho _ => (h.block k (Array.getElem?_eq_some_iff.1 ho).1).trans ho⟩
/-- between two rounds of first: none was dense yet -/
def FI (b : Nat) (H : Value) (f : Nat → Bool) (w : World) (k : Nat) (W : World) : Prop :=
  Below b w W ∧ b + 1 + 1 < W.heap.size ∧ W.cell? ⟨b, 0, none⟩ = some H ∧ W.cell? ⟨b + 1, 0, none⟩ = some (.int .i64 0) ∧ W.cell? ⟨b + 1 + 1, 0, none⟩ = some (.int .i64 (k : Int)) ∧
    W.frozen? ⟨b + 1, 0, none⟩ = false ∧ W.frozen? ⟨b + 1 + 1, 0, none⟩ = false ∧ ∀ j, j < k → f j = false
theorem FI.next {b k : Nat} {H : Value} {f : Nat → Bool} {w A B : World} {C : Nat} (h : FI b H f w k A) (hb : Below C A B) (hC : b + 1 + 1 < C) : FI b H f w k B := by
  obtain ⟨h1, h2, c0, c1, c2, f1, f2, hk⟩ := h
  exact ⟨h1.trans (hb.mono (by omega)), Nat.lt_of_lt_of_le h2 hb.size, cell_next hb (by omega) c0, cell_next hb (by omega) c1, cell_next hb (by omega) c2, frozen_next hb (by omega) f1, frozen_next hb (by omega) f2, hk⟩
/-- it was left in round k -/
def FX (b : Nat) (f : Nat → Bool) (w : World) (k : Nat) (W : World) : Prop :=
  Below b w W ∧ b + 1 + 1 < W.heap.size ∧ W.cell? ⟨b + 1, 0, none⟩ = some (.int .i64 (k : Int)) ∧ f k = true ∧ ∀ j, j < k → f j = false
theorem FX.next {b k : Nat} {f : Nat → Bool} {w A B : World} {C : Nat} (h : FX b f w k A) (hb : Below C A B) (hC : b + 1 + 1 < C) : FX b f w k B := by
  obtain ⟨h1, h2, c1, hf, hk⟩ := h
  exact ⟨h1.trans (hb.mono (by omega)), Nat.lt_of_lt_of_le h2 hb.size, cell_next hb (by omega) c1, hf, hk⟩
def FA (b D : Nat) (H : Value) (f : Nat → Bool) (xs : Nat → Nat × Nat) (w : World) (k : Nat) (a' : Act) (W : World) : Prop :=
  FI b H f w k W ∧ ∃ (g : Nat) (x0 x1 x2 x7 x8 x9 x10 x11 x12 x13 x14 x15 : Value), a' = { tmps := #[x0, x1, x2, .pointer (some ⟨b, 0, none⟩), .pointer (some ⟨b + 1, 0, none⟩), .pointer (some ⟨b + 1 + 1, 0, none⟩), .pointer (some ⟨g, 0, none⟩), x7, x8, x9, x10, x11, x12, x13, x14, x15], defers := [] } ∧
    b + 1 + 1 < g ∧ D + 1 < g ∧ g < W.heap.size ∧ W.cell? ⟨g, 0, none⟩ = some (.int .i64 ((xs k).1 : Int)) ∧ W.cell? ⟨g, 1, none⟩ = some (.int .i64 ((xs k).2 : Int))

set_option maxRecDepth 40000 in
set_option maxHeartbeats 4000000 in
theorem first_any (t p a s R b bs br bt bp bb : Nat) (ha : a ≤ 1000000000000) (hs : s ≤ 1000000000000) (ht : t ≤ 10000) (hp : p ≤ 10000) (hR : R ≤ 200) (hbq : b ≤ 10000) (w : World)
    (ls : bs < w.heap.size) (lr : br < w.heap.size) (lt : bt < w.heap.size) (lp : bp < w.heap.size) (lb : bb < w.heap.size)
    (s0 : w.cell? ⟨bs, 0, none⟩ = some (.int .i64 (a : Int))) (s1 : w.cell? ⟨bs, 1, none⟩ = some (.int .i64 (s : Int))) (r0 : w.cell? ⟨br, 0, none⟩ = some (.int .i64 (R : Int))) (t0 : w.cell? ⟨bt, 0, none⟩ = some (.int .i64 (t : Int))) (p0 : w.cell? ⟨bp, 0, none⟩ = some (.int .i64 (p : Int))) (b0 : w.cell? ⟨bb, 0, none⟩ = some (.int .i64 (b : Int))) :
    Calls Try.prog 51 #[.func (Fn.func 115) #[] #[.pointer (some ⟨bs, 0, none⟩), .pointer (some ⟨br, 0, none⟩), .pointer (some ⟨bt, 0, none⟩), .pointer (some ⟨bp, 0, none⟩)], .func (Fn.func 50) #[] #[.pointer (some ⟨bb, 0, none⟩)]] w fun e w' =>
      e = .returned (.int .i64 (lsI b t p (a, s) R)) ∧ Below w.heap.size w w' := by
  have HE := enters_dense
  obtain ⟨f, hf⟩ : ∃ f : Nat → Bool, f = fun k => dnB b (rk t p (a, s) k) := ⟨_, rfl⟩
  have hL : lsI b t p (a, s) R = fstI f (R + 1) := by rw [hf]; rfl
  rw [hL]
  obtain ⟨r, hr⟩ : ∃ r, fstI f (R + 1) = r := ⟨_, rfl⟩
  rw [hr]
  have Hr := Lib.hid hr
  clear hr
  have Hf := Lib.hid hf
  have CD := Lib.hid (fun (k : Nat) (W : World) (h : Below w.heap.size w W) => dense_any (rk t p (a, s) k).1 (rk t p (a, s) k).2 b (Nat.le_trans (rk_le t p (a, s) k).1 ha) (Nat.le_trans (rk_le t p (a, s) k).2 hs) hbq bb W (cell_next h lb b0) (Nat.lt_of_lt_of_le lb h.size))
  have CD' : Hid (∀ (k : Nat) (W : World), Below w.heap.size w W → Calls Try.prog 50 #[.agg #[.int .i64 ((rk t p (a, s) k).1 : Int), .int .i64 ((rk t p (a, s) k).2 : Int)], .pointer (some ⟨bb, 0, none⟩)] W fun e w' => e = .returned (.bool (f k)) ∧ Below W.heap.size W w') := Lib.hid (fun k W h => by rw [hf]; exact CD.out k W h)
  clear CD hf hL b0
  refine (callsIn_wide (n := 10)).1 (callsIn_of_wp_marks Try.func51 rfl trivial ?_ rfl)
  refine wpIn_mono (wpIn_wide.2 ?_) qm_post
  simp only [Try.ntmps51, List.size_toArray, List.length_cons, List.length_nil, Nat.reduceAdd, Nat.reduceSub, Array.replicate_succ, Array.replicate_zero, List.push_toArray, List.append_toArray, List.nil_append, List.cons_append]
  go_wp2_with fail
  generalize hWW : ((w.alloc (Obj.cells #[.func (Fn.func 50) #[] #[.pointer (some ⟨bb, 0, none⟩)]] 118)).alloc (Obj.cells #[.int .i64 0] 3)).alloc (Obj.cells #[.int .i64 0] 3) = W0
  have hB : Below w.heap.size w W0 := by rw [← hWW]; exact (below_al2 w _ _).trans (((Below.refl _ _).alloc (Nat.le_refl _) _).mono (by simp; omega))
  have hz : w.heap.size + 1 + 1 < W0.heap.size := by rw [← hWW]; simp
  have HI : FI w.heap.size (.func (Fn.func 50) #[] #[.pointer (some ⟨bb, 0, none⟩)]) f w 0 W0 := by
    refine ⟨hB, hz, ?_, ?_, ?_, ?_, ?_, fun j h => absurd h (Nat.not_lt_zero j)⟩ <;> rw [← hWW] <;> simp [go_sem]
  clear hWW
  replace s0 := cell_next hB ls s0
  replace s1 := cell_next hB ls s1
  replace r0 := cell_next hB lr r0
  replace t0 := cell_next hB lt t0
  replace p0 := cell_next hB lp p0
  have hWz := hB.size
  refine (wpIn_wide (n := 10)).1 (range_law2 (w := W0) (R + 1) (fun i => i = w.heap.size + 1 ∨ i = w.heap.size + 1 + 1) (encK t p a s) (gf := 115) (lb := #[.pointer (some ⟨bs, 0, none⟩), .pointer (some ⟨br, 0, none⟩), .pointer (some ⟨bt, 0, none⟩), .pointer (some ⟨bp, 0, none⟩)]) rfl (enters_of Try.func115 (by kernel_rfl) rfl) (fun k hk h => by rcases h with h | h <;> omega)
    (behind1_in 10 (by omega) t p a s R _ _ _ _ ha hs ht hp hR _ W0 (by omega) (by omega) (by omega) (by omega) (fun h => by rcases h with h | h <;> omega) (fun h => by rcases h with h | h <;> omega) (fun h => by rcases h with h | h <;> omega) (fun h => by rcases h with h | h <;> omega) (fun k hk h => by rcases h with h | h <;> omega) s0 s1 r0 t0 p0)
    (fun k => rfl) (FI w.heap.size (.func (Fn.func 50) #[] #[.pointer (some ⟨bb, 0, none⟩)]) f w) (FX w.heap.size f w) (fun k A B h hb => h.next hb (by omega)) (fun k A B h hb => h.next hb (by omega)) HI (FA w.heap.size W0.heap.size (.func (Fn.func 50) #[] #[.pointer (some ⟨bb, 0, none⟩)]) f (rk t p (a, s)) w) (fun k a' A o h => by
      obtain ⟨h1, g, x0, x1, x2, x7, x8, x9, x10, x11, x12, x13, x14, x15, rfl, h2, h3, h4, h5, h6⟩ := h
      have hb : Below W0.heap.size A (A.putObj (W0.heap.size + 1) o) := below_putU _ _ (by omega)
      have hne : ∀ q, (A.putObj (W0.heap.size + 1) o).cell? ⟨g, q, none⟩ = A.cell? ⟨g, q, none⟩ := fun q => World.cell?_of_block (w := A) (World.putObj_heap_other (by dsimp only; omega))
      exact ⟨h1.next hb (by omega), g, x0, x1, x2, x7, x8, x9, x10, x11, x12, x13, x14, x15, rfl, h2, h3, by simpa using h4, (hne 0).trans h5, (hne 1).trans h6⟩) ?assign ?body ?done ?stop)
  case assign =>
    intro l k W K hk hDW hi hK
    obtain ⟨h1, h2, c0, c1, c2, f1, f2, hj⟩ := hi
    simp only [encK]
    gi_wp2
    have hb : Below W.heap.size W (W.alloc (Obj.cells #[.int .i64 ((rk t p (a, s) k).1 : Int), .int .i64 ((rk t p (a, s) k).2 : Int)] 36)) := (Below.refl _ _).alloc (Nat.le_refl _) _
    exact hK _ _ (Kept.belowW hb) ⟨FI.next (b := w.heap.size) ⟨h1, h2, c0, c1, c2, f1, f2, hj⟩ hb h2, W.heap.size, _, _, _, _, _, _, _, _, _, _, _, _, rfl, by omega, by omega, by simp, cell_new _ _ _ 0, cell_new _ _ _ 1⟩
  case body =>
    intro l k a' W hk hA
    obtain ⟨hI, g, x0, x1, x2, x7, x8, x9, x10, x11, x12, x13, x14, x15, rfl, hg1, hg5, hg2, hg3, hg4⟩ := hA
    obtain ⟨h1, h2, c0, c1, c2, f1, f2, hj⟩ := hI
    have cd := Lib.hid (CD'.out k W h1)
    obtain ⟨z1, hz1⟩ : ∃ z : Int, ((rk t p (a, s) k).1 : Int) = z := ⟨_, rfl⟩
    obtain ⟨z2, hz2⟩ : ∃ z : Int, ((rk t p (a, s) k).2 : Int) = z := ⟨_, rfl⟩
    rw [hz1] at cd hg3
    rw [hz2] at cd hg4
    obtain ⟨q, hq⟩ : ∃ q, f k = q := ⟨_, rfl⟩
    rw [hq] at cd
    have Hq := Lib.hid hq
    have wk : IntKind.i64.wrap ((k : Int) + 1) = ((k + 1 : Nat) : Int) := IntWalk.i64_in _ (by omega)
    clear hz1 hz2 hq
    have hn1 : 1 ≤ 10 - 1 - 1 := by omega
    gi_wp2
    refine ⟨trivial, (CallsIn.inRound l (callsIn_wide.2 cd.out)).mono ?_⟩
    rintro e W2 ⟨rfl, hb⟩
    have hz2 := hb.size
    replace c0 := cell_next hb (by omega) c0
    replace c1 := cell_next hb (by omega) c1
    replace c2 := cell_next hb (by omega) c2
    replace f1 := frozen_next hb (by omega) f1
    replace f2 := frozen_next hb (by omega) f2
    have h1' := h1.trans (hb.mono h1.size)
    have h2' : w.heap.size + 1 + 1 < W2.heap.size := by omega
    have HK : Hid (Kept (fun i => i = w.heap.size + 1 ∨ i = w.heap.size + 1 + 1) W W2) := Lib.hid (Kept.belowW hb)
    clear hb cd hg3 hg4 CD'
    cases q
    · gi_wp2
      refine ⟨HK.out.trans (Kept.set _ (.inr rfl) _), h1'.setCell (by dsimp only; omega) _, by simpa [World.setCell] using h2', ?_, ?_, ?_, ?_, ?_, fun j hjk => ?_⟩
      rotate_right
      · rcases Nat.lt_or_ge j k with h | h
        · exact hj j h
        · obtain rfl : j = k := by omega
          exact Hq.out
      all_goals simp [go_sem, *]
    · gi_wp2
      refine ⟨HK.out.trans (Kept.set _ (.inl rfl) _), h1'.setCell (by dsimp only; omega) _, by simpa [World.setCell] using h2', ?_, Hq.out, hj⟩
      simp [go_sem, *]
  case stop =>
    intro D k W hD hk h hK
    obtain ⟨h1, h2, c1, hfk, hj⟩ := h
    have e1 : fstI f (R + 1) = (k : Int) := fstI_at (by omega) hfk hj
    obtain rfl : r = (k : Int) := Hr.out.symm.trans e1
    refine (wpIn_wide (n := 10)).2 ?_
    go_wp2_with fail
    show LeavesInM Fence.wide 10 _ _ _ _ _ .returning _
    refine ⟨by simp, .inl ⟨D, _, rfl, run_takeDeferred hK, ?_⟩⟩
    have hBp := below_putU (B := D) W (.deferred none) (Nat.le_refl D)
    have v1 := cell_next hBp (by omega) c1
    have hZe := h1.trans (hBp.mono (by omega))
    generalize W.putObj D (.deferred none) = Y at *
    exact ⟨_, by simp [results, Try.results51, go_sem, v1], rfl, hZe⟩
  case done =>
    intro D W hD hI hK
    obtain ⟨h1, h2, c0, c1, c2, f1, f2, hj⟩ := hI
    have e1 : fstI f (R + 1) = -1 := fstI_no hj
    obtain rfl : r = -1 := Hr.out.symm.trans e1
    go_wp2_with fail
    show LeavesInM Fence.wide 10 _ _ _ _ _ .returning _
    have z1 : (W.setCell ⟨w.heap.size + 1, 0, none⟩ (.int .i64 (-1))).cell? ⟨w.heap.size + 1, 0, none⟩ = some (.int .i64 (-1)) := by simp [go_sem, c1]
    have hZb : Below w.heap.size w (W.setCell ⟨w.heap.size + 1, 0, none⟩ (.int .i64 (-1))) := h1.setCell (by dsimp only; omega) _
    have hZD : (W.setCell ⟨w.heap.size + 1, 0, none⟩ (.int .i64 (-1))).heap[D]? = some (.deferred (some [])) := (Below.heap_setCell _ _ _ _ (by dsimp only; omega)).trans hK
    generalize W.setCell ⟨w.heap.size + 1, 0, none⟩ (.int .i64 (-1)) = Z at *
    refine ⟨by simp, .inl ⟨D, _, rfl, run_takeDeferred hZD, ?_⟩⟩
    have hBp := below_putU (B := D) Z (.deferred none) (Nat.le_refl D)
    have v1 := cell_next hBp (by omega) z1
    have hZe := hZb.trans (hBp.mono (by omega))
    generalize Z.putObj D (.deferred none) = Y at *
    exact ⟨_, by simp [results, Try.results51, go_sem, v1], rfl, hZe⟩

open Go.RowKit Go.Lib Go.Shelf
set_option linter.unusedVariables false
set_option linter.unusedSimpArgs false
attribute [local go_sem ↓] Go.wp_at_zero Go.wp_at_succ

/-- the error of Reach, but for that of a concentration that is not reached -/
def rcE (a s t lo hi b m : Int) : Int := if (spB a s && inB 0 10000 t && rgB 0 10000 lo hi) = true then (if (inB 1 10000 b && inB 0 200 m) = true then 0 else 3) else 2
def zP (x y e : Int) : Value := .tuple #[.agg #[.int .i64 x, .int .i64 y], .int .i64 e]


set_option maxRecDepth 40000 in
set_option maxHeartbeats 4000000 in
theorem reach_bad (a s t lo hi b m : Int) (h : rcE a s t lo hi b m ≠ 0) (w : World) :
    Calls Try.prog 15 #[.agg #[.int .i64 a, .int .i64 s], .agg #[.int .i64 t, .int .i64 lo, .int .i64 hi], .int .i64 b, .int .i64 m] w fun e w' => e = .returned (zP 0 0 (rcE a s t lo hi b m)) ∧ Below w.heap.size w w' := by
  have c1 := Lib.hid (vSap_any a s)
  have c2 := Lib.hid (fun (W : World) (g c : Nat) => in1v_any 0 10000 t g c W)
  have c3 := Lib.hid (rangeIn_any 0 10000 lo hi)
  have c4 := Lib.hid (fun (W : World) (g c : Nat) => in1v_any 1 10000 b g c W)
  have c5 := Lib.hid (fun (W : World) (g c : Nat) => in1v_any 0 200 m g c W)
  unfold rcE at h ⊢
  generalize spB a s = p1 at *
  generalize inB 0 10000 t = p2 at *
  generalize rgB 0 10000 lo hi = p3 at *
  generalize inB 1 10000 b = p4 at *
  generalize inB 0 200 m = p5 at *
  go_enter Try.func15, Try.ntmps15
  go_wp2_with fail
  refine (c1.out _).mono ?_
  rintro e W1 ⟨rfl, hb⟩
  have s0 := cell_next hb (b := w.heap.size) (o := 0) (by simp <;> omega) (v := some (.int .i64 a)) (by simp [go_sem])
  have s1 := cell_next hb (b := w.heap.size) (o := 1) (by simp <;> omega) (v := some (.int .i64 s)) (by simp [go_sem])
  have ns : w.heap.size < W1.heap.size := by have := hb.size; simp at this; omega
  have M0 := cell_next hb (b := w.heap.size + 1) (o := 0) (by simp <;> omega) (v := some (.int .i64 t)) (by simp [go_sem])
  have M1 := cell_next hb (b := w.heap.size + 1) (o := 1) (by simp <;> omega) (v := some (.int .i64 lo)) (by simp [go_sem])
  have M2 := cell_next hb (b := w.heap.size + 1) (o := 2) (by simp <;> omega) (v := some (.int .i64 hi)) (by simp [go_sem])
  have nM : w.heap.size + 1 < W1.heap.size := by have := hb.size; simp at this; omega
  have b0 := cell_next hb (b := w.heap.size + 1 + 1) (o := 0) (by simp <;> omega) (v := some (.int .i64 b)) (by simp [go_sem])
  have nb : w.heap.size + 1 + 1 < W1.heap.size := by have := hb.size; simp at this; omega
  have r0 := cell_next hb (b := w.heap.size + 1 + 1 + 1) (o := 0) (by simp <;> omega) (v := some (.int .i64 0)) (by simp [go_sem])
  have fr0 := frozen_next hb (b := w.heap.size + 1 + 1 + 1) (o := 0) (by simp <;> omega) (v := false) (by simp [go_sem])
  have r1 := cell_next hb (b := w.heap.size + 1 + 1 + 1) (o := 1) (by simp <;> omega) (v := some (.int .i64 0)) (by simp [go_sem])
  have fr1 := frozen_next hb (b := w.heap.size + 1 + 1 + 1) (o := 1) (by simp <;> omega) (v := false) (by simp [go_sem])
  have nr : w.heap.size + 1 + 1 + 1 < W1.heap.size := by have := hb.size; simp at this; omega
  have hB := (below4 hb)
  clear hb
  cases p1
  · clear c1 c2 c3 c4 c5 h
    go_wp2_with fail
    refine bodyPost_ret (v := .tuple #[.agg #[.int .i64 0, .int .i64 0], .int .i64 2]) (by simp [results, Try.results15, go_sem, r0, r1, fr0, fr1]) rfl ⟨rfl, ?_⟩
    exact ((hB.setCell (p := ⟨w.heap.size + 1 + 1 + 1, 0, none⟩) (by simp <;> omega) _).setCell (p := ⟨w.heap.size + 1 + 1 + 1, 1, none⟩) (by simp <;> omega) _)
  · go_wp2_with fail
    refine (c2.out _ _ _ (by simp) (by simp [go_sem, *])).mono ?_
    rintro e W2 ⟨rfl, hb⟩
    replace s0 := cell_next (below1 hb) ns s0
    replace s1 := cell_next (below1 hb) ns s1
    replace ns := Nat.lt_of_lt_of_le ns (below1 hb).size
    replace M0 := cell_next (below1 hb) nM M0
    replace M1 := cell_next (below1 hb) nM M1
    replace M2 := cell_next (below1 hb) nM M2
    replace nM := Nat.lt_of_lt_of_le nM (below1 hb).size
    replace b0 := cell_next (below1 hb) nb b0
    replace nb := Nat.lt_of_lt_of_le nb (below1 hb).size
    replace r0 := cell_next (below1 hb) nr r0
    replace fr0 := frozen_next (below1 hb) nr fr0
    replace r1 := cell_next (below1 hb) nr r1
    replace fr1 := frozen_next (below1 hb) nr fr1
    replace nr := Nat.lt_of_lt_of_le nr (below1 hb).size
    replace hB := hB.trans ((below1 hb).mono hB.size)
    clear hb
    generalize W1.heap.size = q2 at *
    cases p2
    · clear c1 c2 c3 c4 c5 h
      go_wp2_with fail
      refine bodyPost_ret (v := .tuple #[.agg #[.int .i64 0, .int .i64 0], .int .i64 2]) (by simp [results, Try.results15, go_sem, r0, r1, fr0, fr1]) rfl ⟨rfl, ?_⟩
      exact ((hB.setCell (p := ⟨w.heap.size + 1 + 1 + 1, 0, none⟩) (by simp <;> omega) _).setCell (p := ⟨w.heap.size + 1 + 1 + 1, 1, none⟩) (by simp <;> omega) _)
    · go_wp2_with fail
      refine (c3.out _).mono ?_
      rintro e W3 ⟨rfl, hb⟩
      replace s0 := cell_next hb ns s0
      replace s1 := cell_next hb ns s1
      replace ns := Nat.lt_of_lt_of_le ns hb.size
      replace M0 := cell_next hb nM M0
      replace M1 := cell_next hb nM M1
      replace M2 := cell_next hb nM M2
      replace nM := Nat.lt_of_lt_of_le nM hb.size
      replace b0 := cell_next hb nb b0
      replace nb := Nat.lt_of_lt_of_le nb hb.size
      replace r0 := cell_next hb nr r0
      replace fr0 := frozen_next hb nr fr0
      replace r1 := cell_next hb nr r1
      replace fr1 := frozen_next hb nr fr1
      replace nr := Nat.lt_of_lt_of_le nr hb.size
      replace hB := hB.trans (hb.mono hB.size)
      clear hb
      cases p3
      · clear c1 c2 c3 c4 c5 h
        go_wp2_with fail
        refine bodyPost_ret (v := .tuple #[.agg #[.int .i64 0, .int .i64 0], .int .i64 2]) (by simp [results, Try.results15, go_sem, r0, r1, fr0, fr1]) rfl ⟨rfl, ?_⟩
        exact ((hB.setCell (p := ⟨w.heap.size + 1 + 1 + 1, 0, none⟩) (by simp <;> omega) _).setCell (p := ⟨w.heap.size + 1 + 1 + 1, 1, none⟩) (by simp <;> omega) _)
      · go_wp2_with fail
        refine (c4.out _ _ _ (by simp) (by simp [go_sem, *])).mono ?_
        rintro e W4 ⟨rfl, hb⟩
        replace s0 := cell_next (below1 hb) ns s0
        replace s1 := cell_next (below1 hb) ns s1
        replace ns := Nat.lt_of_lt_of_le ns (below1 hb).size
        replace M0 := cell_next (below1 hb) nM M0
        replace M1 := cell_next (below1 hb) nM M1
        replace M2 := cell_next (below1 hb) nM M2
        replace nM := Nat.lt_of_lt_of_le nM (below1 hb).size
        replace b0 := cell_next (below1 hb) nb b0
        replace nb := Nat.lt_of_lt_of_le nb (below1 hb).size
        replace r0 := cell_next (below1 hb) nr r0
        replace fr0 := frozen_next (below1 hb) nr fr0
        replace r1 := cell_next (below1 hb) nr r1
        replace fr1 := frozen_next (below1 hb) nr fr1
        replace nr := Nat.lt_of_lt_of_le nr (below1 hb).size
        replace hB := hB.trans ((below1 hb).mono hB.size)
        clear hb
        generalize W3.heap.size = q4 at *
        cases p4
        · clear c1 c2 c3 c4 c5 h
          go_wp2_with fail
          refine bodyPost_ret (v := .tuple #[.agg #[.int .i64 0, .int .i64 0], .int .i64 3]) (by simp [results, Try.results15, go_sem, r0, r1, fr0, fr1]) rfl ⟨rfl, ?_⟩
          exact ((hB.setCell (p := ⟨w.heap.size + 1 + 1 + 1, 0, none⟩) (by simp <;> omega) _).setCell (p := ⟨w.heap.size + 1 + 1 + 1, 1, none⟩) (by simp <;> omega) _)
        · go_wp2_with fail
          refine (c5.out _ _ _ (by simp) (by simp [go_sem, *])).mono ?_
          rintro e W5 ⟨rfl, hb⟩
          replace s0 := cell_next (below1 hb) ns s0
          replace s1 := cell_next (below1 hb) ns s1
          replace ns := Nat.lt_of_lt_of_le ns (below1 hb).size
          replace M0 := cell_next (below1 hb) nM M0
          replace M1 := cell_next (below1 hb) nM M1
          replace M2 := cell_next (below1 hb) nM M2
          replace nM := Nat.lt_of_lt_of_le nM (below1 hb).size
          replace b0 := cell_next (below1 hb) nb b0
          replace nb := Nat.lt_of_lt_of_le nb (below1 hb).size
          replace r0 := cell_next (below1 hb) nr r0
          replace fr0 := frozen_next (below1 hb) nr fr0
          replace r1 := cell_next (below1 hb) nr r1
          replace fr1 := frozen_next (below1 hb) nr fr1
          replace nr := Nat.lt_of_lt_of_le nr (below1 hb).size
          replace hB := hB.trans ((below1 hb).mono hB.size)
          clear hb
          generalize W4.heap.size = q5 at *
          cases p5
          · clear c1 c2 c3 c4 c5 h
            go_wp2_with fail
            refine bodyPost_ret (v := .tuple #[.agg #[.int .i64 0, .int .i64 0], .int .i64 3]) (by simp [results, Try.results15, go_sem, r0, r1, fr0, fr1]) rfl ⟨rfl, ?_⟩
            exact ((hB.setCell (p := ⟨w.heap.size + 1 + 1 + 1, 0, none⟩) (by simp <;> omega) _).setCell (p := ⟨w.heap.size + 1 + 1 + 1, 1, none⟩) (by simp <;> omega) _)
          · exact absurd rfl h

set_option maxRecDepth 40000 in
set_option maxHeartbeats 4000000 in
theorem reach_ok (a s t lo hi b m : Nat) (ha : a ≤ 1000000000000) (hs : s ≤ 1000000000000) (ht : t ≤ 10000) (hlo : lo ≤ hi) (hhi : hi ≤ 10000) (hb1 : 1 ≤ b) (hb2 : b ≤ 10000) (hm : m ≤ 200) (w : World) :
    Calls Try.prog 15 #[.agg #[.int .i64 (a : Int), .int .i64 (s : Int)], .agg #[.int .i64 (t : Int), .int .i64 (lo : Int), .int .i64 (hi : Int)], .int .i64 (b : Int), .int .i64 (m : Int)] w fun e w' => e = .returned (if lsI b t hi (a, s) m < 0 then zP 0 0 7 else zP (lsI b t lo (a, s) m) (lsI b t hi (a, s) m) 0) ∧ Below w.heap.size w w' := by
  have c1 := Lib.hid (vSap_any (a : Int) (s : Int))
  rw [show spB (a : Int) (s : Int) = true from by simp [spB]; omega] at c1
  have c2 := Lib.hid (fun (W : World) (g c : Nat) => in1v_any 0 10000 (t : Int) g c W)
  rw [show inB 0 10000 (t : Int) = true from by simp [inB]; omega] at c2
  have c3 := Lib.hid (rangeIn_any 0 10000 (lo : Int) (hi : Int))
  rw [show rgB 0 10000 (lo : Int) (hi : Int) = true from by simp [rgB, inB]; omega] at c3
  have c4 := Lib.hid (fun (W : World) (g c : Nat) => in1v_any 1 10000 (b : Int) g c W)
  rw [show inB 1 10000 (b : Int) = true from by simp [inB]; omega] at c4
  have c5 := Lib.hid (fun (W : World) (g c : Nat) => in1v_any 0 200 (m : Int) g c W)
  rw [show inB 0 200 (m : Int) = true from by simp [inB]; omega] at c5
  have CB := Lib.hid (fun (p : Int) (W : World) => behind_any (a : Int) (s : Int) (t : Int) p (m : Int) W)
  have CF := Lib.hid (fun (p : Nat) (hp : p ≤ 10000) (q bb : Nat) (W : World) (l0 : q + 3 < W.heap.size) (lb : bb < W.heap.size) k0 k1 k2 k3 k4 kb => first_any t p a s m b q (q + 3) (q + 1) (q + 2) bb ha hs ht hp hm hb2 W (by omega) (by omega) (by omega) (by omega) lb k0 k1 k2 k3 k4 kb)
  obtain ⟨L, hL⟩ : ∃ z, lsI b t lo (a, s) m = z := ⟨_, rfl⟩
  obtain ⟨H, hH⟩ : ∃ z, lsI b t hi (a, s) m = z := ⟨_, rfl⟩
  have CL := Lib.hid (CF.out lo (by omega))
  have CH := Lib.hid (CF.out hi (by omega))
  rw [hL] at CL
  rw [hH] at CH
  rw [hL, hH]
  obtain ⟨V, hV⟩ : ∃ V, (if H < 0 then zP 0 0 7 else zP L H 0) = V := ⟨_, rfl⟩
  rw [hV]
  have HV := Lib.hid hV
  clear hV
  clear CF hL hH ha hs ht hm hb1 hb2 hlo hhi
  go_enter Try.func15, Try.ntmps15
  go_wp2_with fail
  refine (c1.out _).mono ?_
  rintro e W1 ⟨rfl, hb⟩
  have s0 := cell_next hb (b := w.heap.size) (o := 0) (by simp <;> omega) (v := some (.int .i64 (a : Int))) (by simp [go_sem])
  have s1 := cell_next hb (b := w.heap.size) (o := 1) (by simp <;> omega) (v := some (.int .i64 (s : Int))) (by simp [go_sem])
  have ns : w.heap.size < W1.heap.size := by have := hb.size; simp at this; omega
  have M0 := cell_next hb (b := w.heap.size + 1) (o := 0) (by simp <;> omega) (v := some (.int .i64 (t : Int))) (by simp [go_sem])
  have M1 := cell_next hb (b := w.heap.size + 1) (o := 1) (by simp <;> omega) (v := some (.int .i64 (lo : Int))) (by simp [go_sem])
  have M2 := cell_next hb (b := w.heap.size + 1) (o := 2) (by simp <;> omega) (v := some (.int .i64 (hi : Int))) (by simp [go_sem])
  have nM : w.heap.size + 1 < W1.heap.size := by have := hb.size; simp at this; omega
  have b0 := cell_next hb (b := w.heap.size + 1 + 1) (o := 0) (by simp <;> omega) (v := some (.int .i64 (b : Int))) (by simp [go_sem])
  have nb : w.heap.size + 1 + 1 < W1.heap.size := by have := hb.size; simp at this; omega
  have r0 := cell_next hb (b := w.heap.size + 1 + 1 + 1) (o := 0) (by simp <;> omega) (v := some (.int .i64 0)) (by simp [go_sem])
  have fr0 := frozen_next hb (b := w.heap.size + 1 + 1 + 1) (o := 0) (by simp <;> omega) (v := false) (by simp [go_sem])
  have r1 := cell_next hb (b := w.heap.size + 1 + 1 + 1) (o := 1) (by simp <;> omega) (v := some (.int .i64 0)) (by simp [go_sem])
  have fr1 := frozen_next hb (b := w.heap.size + 1 + 1 + 1) (o := 1) (by simp <;> omega) (v := false) (by simp [go_sem])
  have nr : w.heap.size + 1 + 1 + 1 < W1.heap.size := by have := hb.size; simp at this; omega
  have hB := (below4 hb)
  clear hb
  go_wp2_with fail
  refine (c2.out _ _ _ (by simp) (by simp [go_sem, *])).mono ?_
  rintro e W2 ⟨rfl, hb⟩
  replace s0 := cell_next (below1 hb) ns s0
  replace s1 := cell_next (below1 hb) ns s1
  replace ns := Nat.lt_of_lt_of_le ns (below1 hb).size
  replace M0 := cell_next (below1 hb) nM M0
  replace M1 := cell_next (below1 hb) nM M1
  replace M2 := cell_next (below1 hb) nM M2
  replace nM := Nat.lt_of_lt_of_le nM (below1 hb).size
  replace b0 := cell_next (below1 hb) nb b0
  replace nb := Nat.lt_of_lt_of_le nb (below1 hb).size
  replace r0 := cell_next (below1 hb) nr r0
  replace fr0 := frozen_next (below1 hb) nr fr0
  replace r1 := cell_next (below1 hb) nr r1
  replace fr1 := frozen_next (below1 hb) nr fr1
  replace nr := Nat.lt_of_lt_of_le nr (below1 hb).size
  replace hB := hB.trans ((below1 hb).mono hB.size)
  clear hb
  generalize W1.heap.size = q2 at *
  go_wp2_with fail
  refine (c3.out _).mono ?_
  rintro e W3 ⟨rfl, hb⟩
  replace s0 := cell_next hb ns s0
  replace s1 := cell_next hb ns s1
  replace ns := Nat.lt_of_lt_of_le ns hb.size
  replace M0 := cell_next hb nM M0
  replace M1 := cell_next hb nM M1
  replace M2 := cell_next hb nM M2
  replace nM := Nat.lt_of_lt_of_le nM hb.size
  replace b0 := cell_next hb nb b0
  replace nb := Nat.lt_of_lt_of_le nb hb.size
  replace r0 := cell_next hb nr r0
  replace fr0 := frozen_next hb nr fr0
  replace r1 := cell_next hb nr r1
  replace fr1 := frozen_next hb nr fr1
  replace nr := Nat.lt_of_lt_of_le nr hb.size
  replace hB := hB.trans (hb.mono hB.size)
  clear hb
  go_wp2_with fail
  refine (c4.out _ _ _ (by simp) (by simp [go_sem, *])).mono ?_
  rintro e W4 ⟨rfl, hb⟩
  replace s0 := cell_next (below1 hb) ns s0
  replace s1 := cell_next (below1 hb) ns s1
  replace ns := Nat.lt_of_lt_of_le ns (below1 hb).size
  replace M0 := cell_next (below1 hb) nM M0
  replace M1 := cell_next (below1 hb) nM M1
  replace M2 := cell_next (below1 hb) nM M2
  replace nM := Nat.lt_of_lt_of_le nM (below1 hb).size
  replace b0 := cell_next (below1 hb) nb b0
  replace nb := Nat.lt_of_lt_of_le nb (below1 hb).size
  replace r0 := cell_next (below1 hb) nr r0
  replace fr0 := frozen_next (below1 hb) nr fr0
  replace r1 := cell_next (below1 hb) nr r1
  replace fr1 := frozen_next (below1 hb) nr fr1
  replace nr := Nat.lt_of_lt_of_le nr (below1 hb).size
  replace hB := hB.trans ((below1 hb).mono hB.size)
  clear hb
  generalize W3.heap.size = q4 at *
  go_wp2_with fail
  refine (c5.out _ _ _ (by simp) (by simp [go_sem, *])).mono ?_
  rintro e W5 ⟨rfl, hb⟩
  replace s0 := cell_next (below1 hb) ns s0
  replace s1 := cell_next (below1 hb) ns s1
  replace ns := Nat.lt_of_lt_of_le ns (below1 hb).size
  replace M0 := cell_next (below1 hb) nM M0
  replace M1 := cell_next (below1 hb) nM M1
  replace M2 := cell_next (below1 hb) nM M2
  replace nM := Nat.lt_of_lt_of_le nM (below1 hb).size
  replace b0 := cell_next (below1 hb) nb b0
  replace nb := Nat.lt_of_lt_of_le nb (below1 hb).size
  replace r0 := cell_next (below1 hb) nr r0
  replace fr0 := frozen_next (below1 hb) nr fr0
  replace r1 := cell_next (below1 hb) nr r1
  replace fr1 := frozen_next (below1 hb) nr fr1
  replace nr := Nat.lt_of_lt_of_le nr (below1 hb).size
  replace hB := hB.trans ((below1 hb).mono hB.size)
  clear hb
  generalize W4.heap.size = q5 at *
  clear c1 c2 c3 c4 c5
  go_wp2_with fail
  have hBW : W5.heap.size ≤ W5.heap.size := Nat.le_refl _
  refine wp_region_held_drew (S := fun w' => w'.cell? ⟨w.heap.size, 0, none⟩ = some (.int .i64 (a : Int)) ∧ w'.cell? ⟨w.heap.size, 1, none⟩ = some (.int .i64 (s : Int)) ∧ w'.cell? ⟨w.heap.size + 1, 0, none⟩ = some (.int .i64 (t : Int)) ∧ w'.cell? ⟨w.heap.size + 1, 1, none⟩ = some (.int .i64 (lo : Int)) ∧ w'.cell? ⟨w.heap.size + 1, 2, none⟩ = some (.int .i64 (hi : Int)) ∧ True) (by kernel_rfl) ?_ (fun hHeld => ?_)
  focus (exact ⟨s0, s1, M0, M1, M2, trivial⟩)
  have hL : Below W5.heap.size W5 W5.drew := Below.drew (Below.refl _ _)
  replace s0 : W5.drew.cell? ⟨w.heap.size, 0, none⟩ = some (.int .i64 (a : Int)) := s0
  replace s1 : W5.drew.cell? ⟨w.heap.size, 1, none⟩ = some (.int .i64 (s : Int)) := s1
  replace M0 : W5.drew.cell? ⟨w.heap.size + 1, 0, none⟩ = some (.int .i64 (t : Int)) := M0
  replace M1 : W5.drew.cell? ⟨w.heap.size + 1, 1, none⟩ = some (.int .i64 (lo : Int)) := M1
  replace M2 : W5.drew.cell? ⟨w.heap.size + 1, 2, none⟩ = some (.int .i64 (hi : Int)) := M2
  replace b0 : W5.drew.cell? ⟨w.heap.size + 1 + 1, 0, none⟩ = some (.int .i64 (b : Int)) := b0
  replace r0 : W5.drew.cell? ⟨w.heap.size + 1 + 1 + 1, 0, none⟩ = some (.int .i64 0) := r0
  replace fr0 : W5.drew.frozen? ⟨w.heap.size + 1 + 1 + 1, 0, none⟩ = false := fr0
  replace r1 : W5.drew.cell? ⟨w.heap.size + 1 + 1 + 1, 1, none⟩ = some (.int .i64 0) := r1
  replace fr1 : W5.drew.frozen? ⟨w.heap.size + 1 + 1 + 1, 1, none⟩ = false := fr1
  replace ns : w.heap.size < W5.drew.heap.size := ns
  replace nM : w.heap.size + 1 < W5.drew.heap.size := nM
  replace nb : w.heap.size + 1 + 1 < W5.drew.heap.size := nb
  replace nr : w.heap.size + 1 + 1 + 1 < W5.drew.heap.size := nr
  generalize hWd : W5.drew = wd at hHeld hL s0 s1 M0 M1 M2 b0 r0 fr0 r1 fr1 ns nM nb nr  ⊢
  clear hWd
  refine take_slot (i := 0) (d := 41) (v := ?_) rfl rfl (by kernel_rfl) (by kernel_rfl) (by kernel_rfl) (fun _ _ _ h => h) (Or.inl ⟨by rfl, ?_⟩) (by assumption) ?_
  rotate_left 1
  focus (intro wS hSw; (try dsimp only at hSw); go_simp; try with_reducible rfl)
  try simp only [List.setIfInBounds_toArray, List.set_cons_zero, List.set_cons_succ]
  refine take_slot (i := 1) (d := 42) (v := ?_) rfl rfl (by kernel_rfl) (by kernel_rfl) (by kernel_rfl) (fun _ _ _ h => h) (Or.inl ⟨by rfl, ?_⟩) (by assumption) ?_
  rotate_left 1
  focus (intro wS hSw; (try dsimp only at hSw); go_simp; try with_reducible rfl)
  try simp only [List.setIfInBounds_toArray, List.set_cons_zero, List.set_cons_succ]
  refine take_slot (i := 2) (d := 43) (v := ?_) rfl rfl (by kernel_rfl) (by kernel_rfl) (by kernel_rfl) (fun _ _ _ h => h) (Or.inl ⟨by rfl, ?_⟩) (by assumption) ?_
  rotate_left 1
  focus (intro wS hSw; (try dsimp only at hSw); go_simp; try with_reducible rfl)
  try simp only [List.setIfInBounds_toArray, List.set_cons_zero, List.set_cons_succ]
  refine take_slot (i := 3) (d := 44) (v := ?_) rfl rfl (by kernel_rfl) (by kernel_rfl) (by kernel_rfl) (fun _ _ _ h => h) (Or.inl ⟨by rfl, ?_⟩) (by assumption) ?_
  rotate_left 1
  focus (intro wS hSw; (try dsimp only at hSw); go_simp; try with_reducible rfl)
  try simp only [List.setIfInBounds_toArray, List.set_cons_zero, List.set_cons_succ]
  refine take_slot (i := 4) (d := 45) (v := ?_) rfl rfl (by kernel_rfl) (by kernel_rfl) (by kernel_rfl) (fun _ _ _ h => h) (Or.inl ⟨by rfl, ?_⟩) (by assumption) ?_
  rotate_left 1
  focus (intro wS hSw; (try dsimp only at hSw); go_simp; try with_reducible rfl)
  try simp only [List.setIfInBounds_toArray, List.set_cons_zero, List.set_cons_succ]
  refine take_slot (i := 5) (d := 46) (v := ?_) rfl rfl (by kernel_rfl) (by kernel_rfl) (by kernel_rfl) (fun _ _ _ h => h) (Or.inl ⟨by rfl, ?_⟩) (by assumption) ?_
  rotate_left 1
  focus (intro wS hSw; (try dsimp only at hSw); go_simp; try with_reducible rfl)
  try simp only [List.setIfInBounds_toArray, List.set_cons_zero, List.set_cons_succ]
  refine take_slot (i := 6) (d := 47) (v := ?_) rfl rfl (by kernel_rfl) (by kernel_rfl) (by kernel_rfl) (fun _ _ _ h => h) (Or.inl ⟨by rfl, ?_⟩) (by assumption) ?_
  rotate_left 1
  focus (intro wS hSw; (try dsimp only at hSw); go_simp; try with_reducible rfl)
  try simp only [List.setIfInBounds_toArray, List.set_cons_zero, List.set_cons_succ]
  refine take_slot (i := 8) (d := 49) (v := ?_) rfl rfl (by kernel_rfl) (by kernel_rfl) (by kernel_rfl) (fun _ _ _ h => h) (Or.inl ⟨by rfl, ?_⟩) (by assumption) ?_
  rotate_left 1
  focus (intro wS hSw; (try dsimp only at hSw); go_simp; try with_reducible rfl)
  try simp only [List.setIfInBounds_toArray, List.set_cons_zero, List.set_cons_succ]
  refine take_slot (i := 10) (d := 51) (v := ?_) rfl rfl (by kernel_rfl) (by kernel_rfl) (by kernel_rfl) (fun _ _ _ h => h) (Or.inl ⟨by rfl, ?_⟩) (by assumption) ?_
  rotate_left 1
  focus (intro wS hSw; (try dsimp only at hSw); go_simp; try with_reducible rfl)
  try simp only [List.setIfInBounds_toArray, List.set_cons_zero, List.set_cons_succ]
  refine take_slot (i := 11) (d := 52) (v := ?_) rfl rfl (by kernel_rfl) (by kernel_rfl) (by kernel_rfl) (fun _ _ _ h => h) (Or.inl ⟨by rfl, ?_⟩) (by assumption) ?_
  rotate_left 1
  focus (intro wS hSw; (try dsimp only at hSw); go_simp; try with_reducible rfl)
  try simp only [List.setIfInBounds_toArray, List.set_cons_zero, List.set_cons_succ]
  refine take_slot (i := 12) (d := 53) (v := ?_) rfl rfl (by kernel_rfl) (by kernel_rfl) (by kernel_rfl) (fun _ _ _ h => h) (Or.inl ⟨by rfl, ?_⟩) (by assumption) ?_
  rotate_left 1
  focus (intro wS hSw; (try dsimp only at hSw); go_simp; try with_reducible rfl)
  try simp only [List.setIfInBounds_toArray, List.set_cons_zero, List.set_cons_succ]
  refine take_slot (i := 13) (d := 54) (v := ?_) rfl rfl (by kernel_rfl) (by kernel_rfl) (by kernel_rfl) (fun _ _ _ h => h) (Or.inl ⟨by rfl, ?_⟩) (by assumption) ?_
  rotate_left 1
  focus (intro wS hSw; (try dsimp only at hSw); go_simp; try with_reducible rfl)
  try simp only [List.setIfInBounds_toArray, List.set_cons_zero, List.set_cons_succ]
  refine take_slot (i := 14) (d := 55) (v := ?_) rfl rfl (by kernel_rfl) (by kernel_rfl) (by kernel_rfl) (fun _ _ _ h => h) (Or.inl ⟨by rfl, ?_⟩) (by assumption) ?_
  rotate_left 1
  focus (intro wS hSw; (try dsimp only at hSw); go_simp; try with_reducible rfl)
  try simp only [List.setIfInBounds_toArray, List.set_cons_zero, List.set_cons_succ]
  refine take_slot (i := 15) (d := 56) (v := ?_) rfl rfl (by kernel_rfl) (by kernel_rfl) (by kernel_rfl) (fun _ _ _ h => h) (Or.inl ⟨by rfl, ?_⟩) (by assumption) ?_
  rotate_left 1
  focus (intro wS hSw; (try dsimp only at hSw); go_simp; try with_reducible rfl)
  try simp only [List.setIfInBounds_toArray, List.set_cons_zero, List.set_cons_succ]
  refine take_slot (i := 16) (d := 57) (v := ?_) rfl rfl (by kernel_rfl) (by kernel_rfl) (by kernel_rfl) (fun _ _ _ h => h) (Or.inl ⟨by rfl, ?_⟩) (by assumption) ?_
  rotate_left 1
  focus (intro wS hSw; (try dsimp only at hSw); go_simp; try with_reducible rfl)
  try simp only [List.setIfInBounds_toArray, List.set_cons_zero, List.set_cons_succ]
  refine take_slot (i := 18) (d := 59) (v := ?_) rfl rfl (by kernel_rfl) (by kernel_rfl) (by kernel_rfl) (fun _ _ _ h => h) (Or.inl ⟨by rfl, ?_⟩) (by assumption) ?_
  rotate_left 1
  focus (intro wS hSw; (try dsimp only at hSw); go_simp; try with_reducible rfl)
  try simp only [List.setIfInBounds_toArray, List.set_cons_zero, List.set_cons_succ]
  refine wpAnyH_ready (rs := [7, 21]) (by kernel_rfl) (by simp) ?_
  refine AllReadyH.cons rfl (fun K hK => ?_) (AllReadyH.cons rfl (fun K hK => ?_) AllReadyH.nil)
  · go_simp
    refine (CB.out (lo : Int) _).mono ?_
    rintro e Z1 ⟨rfl, ⟨u0, u1, u2, u3, u4⟩, hz4, hb⟩
    have oqans := ns
    have oqanM := nM
    have oqanb := nb
    have oqanr := nr
    have oqaL := hL.size
    replace s0 := cell_next hb ns s0
    replace s1 := cell_next hb ns s1
    replace M0 := cell_next hb nM M0
    replace M1 := cell_next hb nM M1
    replace M2 := cell_next hb nM M2
    replace b0 := cell_next hb nb b0
    replace r0 := cell_next hb nr r0
    replace fr0 := frozen_next hb nr fr0
    replace r1 := cell_next hb nr r1
    replace fr1 := frozen_next hb nr fr1
    replace ns := Nat.lt_of_lt_of_le ns hb.size
    replace nM := Nat.lt_of_lt_of_le nM hb.size
    replace nb := Nat.lt_of_lt_of_le nb hb.size
    replace nr := Nat.lt_of_lt_of_le nr hb.size
    replace hL := hL.trans (hb.mono (Nat.le_trans hBW hL.size))
    have nua : wd.heap.size < Z1.heap.size := by omega
    have nub : wd.heap.size + 1 < Z1.heap.size := by omega
    have nuc : wd.heap.size + 2 < Z1.heap.size := by omega
    have nud : wd.heap.size + 3 < Z1.heap.size := by omega
    clear hz4
    generalize wd.heap.size = qa at *
    refine hK.out _ _ ⟨s0, s1, M0, M1, M2, trivial⟩ (fun hHeld => ?_)
    clear hK K hb
    try simp only [Act.put, List.setIfInBounds_toArray, List.set_cons_zero, List.set_cons_succ]
    refine wpAnyH_ready (rs := [9, 21]) (by kernel_rfl) (by simp) ?_
    refine AllReadyH.cons rfl (fun K hK => ?_) (AllReadyH.cons rfl (fun K hK => ?_) AllReadyH.nil)
    · go_simp
      refine (CL.out qa (w.heap.size + 1 + 1) _ (by omega) (by omega) u0 u1 u2 u3 u4 b0).mono ?_
      rintro e Z2 ⟨rfl, hb⟩
      replace s0 := cell_next hb ns s0
      replace s1 := cell_next hb ns s1
      replace M0 := cell_next hb nM M0
      replace M1 := cell_next hb nM M1
      replace M2 := cell_next hb nM M2
      replace b0 := cell_next hb nb b0
      replace r0 := cell_next hb nr r0
      replace fr0 := frozen_next hb nr fr0
      replace r1 := cell_next hb nr r1
      replace fr1 := frozen_next hb nr fr1
      replace u0 := cell_next hb nua u0
      replace u1 := cell_next hb nua u1
      replace u2 := cell_next hb nud u2
      replace u3 := cell_next hb nub u3
      replace u4 := cell_next hb nuc u4
      replace ns := Nat.lt_of_lt_of_le ns hb.size
      replace nM := Nat.lt_of_lt_of_le nM hb.size
      replace nb := Nat.lt_of_lt_of_le nb hb.size
      replace nr := Nat.lt_of_lt_of_le nr hb.size
      replace nua := Nat.lt_of_lt_of_le nua hb.size
      replace nud := Nat.lt_of_lt_of_le nud hb.size
      replace nub := Nat.lt_of_lt_of_le nub hb.size
      replace nuc := Nat.lt_of_lt_of_le nuc hb.size
      replace hL := hL.trans (hb.mono (Nat.le_trans hBW hL.size))
      refine hK.out _ _ ⟨s0, s1, M0, M1, M2, trivial⟩ (fun hHeld => ?_)
      clear hK K hb
      try simp only [Act.put, List.setIfInBounds_toArray, List.set_cons_zero, List.set_cons_succ]
      refine wpAnyH_ready (rs := [17, 21]) (by kernel_rfl) (by simp) ?_
      refine AllReadyH.cons rfl (fun K hK => ?_) (AllReadyH.cons rfl (fun K hK => ?_) AllReadyH.nil)
      · go_simp
        refine (CB.out (hi : Int) _).mono ?_
        rintro e Z3 ⟨rfl, ⟨v0, v1, v2, v3, v4⟩, hz4, hb⟩
        have oqcns := ns
        have oqcnM := nM
        have oqcnb := nb
        have oqcnr := nr
        have oqcnua := nua
        have oqcnud := nud
        have oqcnub := nub
        have oqcnuc := nuc
        have oqcL := hL.size
        replace s0 := cell_next hb ns s0
        replace s1 := cell_next hb ns s1
        replace M0 := cell_next hb nM M0
        replace M1 := cell_next hb nM M1
        replace M2 := cell_next hb nM M2
        replace b0 := cell_next hb nb b0
        replace r0 := cell_next hb nr r0
        replace fr0 := frozen_next hb nr fr0
        replace r1 := cell_next hb nr r1
        replace fr1 := frozen_next hb nr fr1
        replace u0 := cell_next hb nua u0
        replace u1 := cell_next hb nua u1
        replace u2 := cell_next hb nud u2
        replace u3 := cell_next hb nub u3
        replace u4 := cell_next hb nuc u4
        replace ns := Nat.lt_of_lt_of_le ns hb.size
        replace nM := Nat.lt_of_lt_of_le nM hb.size
        replace nb := Nat.lt_of_lt_of_le nb hb.size
        replace nr := Nat.lt_of_lt_of_le nr hb.size
        replace nua := Nat.lt_of_lt_of_le nua hb.size
        replace nud := Nat.lt_of_lt_of_le nud hb.size
        replace nub := Nat.lt_of_lt_of_le nub hb.size
        replace nuc := Nat.lt_of_lt_of_le nuc hb.size
        replace hL := hL.trans (hb.mono (Nat.le_trans hBW hL.size))
        have nva : Z2.heap.size < Z3.heap.size := by omega
        have nvb : Z2.heap.size + 1 < Z3.heap.size := by omega
        have nvc : Z2.heap.size + 2 < Z3.heap.size := by omega
        have nvd : Z2.heap.size + 3 < Z3.heap.size := by omega
        clear hz4
        generalize Z2.heap.size = qc at *
        refine hK.out _ _ ⟨s0, s1, M0, M1, M2, trivial⟩ (fun hHeld => ?_)
        clear hK K hb
        try simp only [Act.put, List.setIfInBounds_toArray, List.set_cons_zero, List.set_cons_succ]
        refine wpAnyH_ready (rs := [19, 21]) (by kernel_rfl) (by simp) ?_
        refine AllReadyH.cons rfl (fun K hK => ?_) (AllReadyH.cons rfl (fun K hK => ?_) AllReadyH.nil)
        · go_simp
          refine (CH.out qc (w.heap.size + 1 + 1) _ (by omega) (by omega) v0 v1 v2 v3 v4 b0).mono ?_
          rintro e Z4 ⟨rfl, hb⟩
          replace s0 := cell_next hb ns s0
          replace s1 := cell_next hb ns s1
          replace M0 := cell_next hb nM M0
          replace M1 := cell_next hb nM M1
          replace M2 := cell_next hb nM M2
          replace b0 := cell_next hb nb b0
          replace r0 := cell_next hb nr r0
          replace fr0 := frozen_next hb nr fr0
          replace r1 := cell_next hb nr r1
          replace fr1 := frozen_next hb nr fr1
          replace u0 := cell_next hb nua u0
          replace u1 := cell_next hb nua u1
          replace u2 := cell_next hb nud u2
          replace u3 := cell_next hb nub u3
          replace u4 := cell_next hb nuc u4
          replace v0 := cell_next hb nva v0
          replace v1 := cell_next hb nva v1
          replace v2 := cell_next hb nvd v2
          replace v3 := cell_next hb nvb v3
          replace v4 := cell_next hb nvc v4
          replace ns := Nat.lt_of_lt_of_le ns hb.size
          replace nM := Nat.lt_of_lt_of_le nM hb.size
          replace nb := Nat.lt_of_lt_of_le nb hb.size
          replace nr := Nat.lt_of_lt_of_le nr hb.size
          replace nua := Nat.lt_of_lt_of_le nua hb.size
          replace nud := Nat.lt_of_lt_of_le nud hb.size
          replace nub := Nat.lt_of_lt_of_le nub hb.size
          replace nuc := Nat.lt_of_lt_of_le nuc hb.size
          replace nva := Nat.lt_of_lt_of_le nva hb.size
          replace nvd := Nat.lt_of_lt_of_le nvd hb.size
          replace nvb := Nat.lt_of_lt_of_le nvb hb.size
          replace nvc := Nat.lt_of_lt_of_le nvc hb.size
          replace hL := hL.trans (hb.mono (Nat.le_trans hBW hL.size))
          refine hK.out _ _ ⟨s0, s1, M0, M1, M2, trivial⟩ (fun hHeld => ?_)
          clear hK K hb
          try simp only [Act.put, List.setIfInBounds_toArray, List.set_cons_zero, List.set_cons_succ]
          refine take_slot (i := 20) (d := 61) (v := ?_) rfl rfl (by kernel_rfl) (by kernel_rfl) (by kernel_rfl) (fun _ _ _ h => h) (Or.inl ⟨by rfl, ?_⟩) (by assumption) ?_
          rotate_left 1
          focus (intro wS hSw; (try dsimp only at hSw); go_simp; try with_reducible rfl)
          try simp only [List.setIfInBounds_toArray, List.set_cons_zero, List.set_cons_succ]
          refine wpAnyH_ready (rs := [21]) (by kernel_rfl) (by simp) ?_
          refine AllReadyH.cons rfl (fun K hK => ?_) AllReadyH.nil
          go_simp
          have hb := (Below.refl Z4.heap.size Z4).alloc (Nat.le_refl _) (Obj.cells #[.int .i64 0, .int .i64 0] 24)
          have szZ5 := hL.size
          have ord5ns := ns
          have ord5nM := nM
          have ord5nb := nb
          have ord5nr := nr
          have ord5nua := nua
          have ord5nud := nud
          have ord5nub := nub
          have ord5nuc := nuc
          have ord5nva := nva
          have ord5nvd := nvd
          have ord5nvb := nvb
          have ord5nvc := nvc
          replace s0 := cell_next hb ns s0
          replace s1 := cell_next hb ns s1
          replace M0 := cell_next hb nM M0
          replace M1 := cell_next hb nM M1
          replace M2 := cell_next hb nM M2
          replace b0 := cell_next hb nb b0
          replace r0 := cell_next hb nr r0
          replace fr0 := frozen_next hb nr fr0
          replace r1 := cell_next hb nr r1
          replace fr1 := frozen_next hb nr fr1
          replace u0 := cell_next hb nua u0
          replace u1 := cell_next hb nua u1
          replace u2 := cell_next hb nud u2
          replace u3 := cell_next hb nub u3
          replace u4 := cell_next hb nuc u4
          replace v0 := cell_next hb nva v0
          replace v1 := cell_next hb nva v1
          replace v2 := cell_next hb nvd v2
          replace v3 := cell_next hb nvb v3
          replace v4 := cell_next hb nvc v4
          replace ns := Nat.lt_of_lt_of_le ns hb.size
          replace nM := Nat.lt_of_lt_of_le nM hb.size
          replace nb := Nat.lt_of_lt_of_le nb hb.size
          replace nr := Nat.lt_of_lt_of_le nr hb.size
          replace nua := Nat.lt_of_lt_of_le nua hb.size
          replace nud := Nat.lt_of_lt_of_le nud hb.size
          replace nub := Nat.lt_of_lt_of_le nub hb.size
          replace nuc := Nat.lt_of_lt_of_le nuc hb.size
          replace nva := Nat.lt_of_lt_of_le nva hb.size
          replace nvd := Nat.lt_of_lt_of_le nvd hb.size
          replace nvb := Nat.lt_of_lt_of_le nvb hb.size
          replace nvc := Nat.lt_of_lt_of_le nvc hb.size
          replace hL := hL.trans (hb.mono (Nat.le_trans hBW hL.size))
          have Nf0 : (Z4.alloc (Obj.cells #[.int .i64 0, .int .i64 0] 24)).frozen? ⟨Z4.heap.size, 0, none⟩ = false := by simp [go_sem]
          have Nf1 : (Z4.alloc (Obj.cells #[.int .i64 0, .int .i64 0] 24)).frozen? ⟨Z4.heap.size, 1, none⟩ = false := by simp [go_sem]
          have N0 : (Z4.alloc (Obj.cells #[.int .i64 0, .int .i64 0] 24)).cell? ⟨Z4.heap.size, 0, none⟩ = some (.int .i64 0) := cell_new _ _ _ 0
          have N1 : (Z4.alloc (Obj.cells #[.int .i64 0, .int .i64 0] 24)).cell? ⟨Z4.heap.size, 1, none⟩ = some (.int .i64 0) := cell_new _ _ _ 1
          have nN : Z4.heap.size < (Z4.alloc (Obj.cells #[.int .i64 0, .int .i64 0] 24)).heap.size := by simp
          refine hK.out _ _ ⟨s0, s1, M0, M1, M2, trivial⟩ (fun hHeld => ?_)
          clear hK K hb
          generalize Z4.alloc (Obj.cells #[.int .i64 0, .int .i64 0] 24) = Z5 at *
          try simp only [Act.put, List.setIfInBounds_toArray, List.set_cons_zero, List.set_cons_succ]
          refine wpAnyH_ready (rs := [22]) (by kernel_rfl) (by simp) ?_
          refine AllReadyH.cons rfl (fun K hK => ?_) AllReadyH.nil
          go_simp
          replace s0 : ((Z5.setCell ⟨Z4.heap.size, 0, none⟩ (.int .i64 L)).setCell ⟨Z4.heap.size, 1, none⟩ (.int .i64 H)).cell? ⟨w.heap.size, 0, none⟩ = some (.int .i64 (a : Int)) := ((World.cell?_setCell_other _ _ _ _ (by intro e; injection e with e1 e2; omega)).trans ((World.cell?_setCell_other _ _ _ _ (by intro e; injection e with e1 e2; omega)).trans s0))
          replace s1 : ((Z5.setCell ⟨Z4.heap.size, 0, none⟩ (.int .i64 L)).setCell ⟨Z4.heap.size, 1, none⟩ (.int .i64 H)).cell? ⟨w.heap.size, 1, none⟩ = some (.int .i64 (s : Int)) := ((World.cell?_setCell_other _ _ _ _ (by intro e; injection e with e1 e2; omega)).trans ((World.cell?_setCell_other _ _ _ _ (by intro e; injection e with e1 e2; omega)).trans s1))
          replace M0 : ((Z5.setCell ⟨Z4.heap.size, 0, none⟩ (.int .i64 L)).setCell ⟨Z4.heap.size, 1, none⟩ (.int .i64 H)).cell? ⟨w.heap.size + 1, 0, none⟩ = some (.int .i64 (t : Int)) := ((World.cell?_setCell_other _ _ _ _ (by intro e; injection e with e1 e2; omega)).trans ((World.cell?_setCell_other _ _ _ _ (by intro e; injection e with e1 e2; omega)).trans M0))
          replace M1 : ((Z5.setCell ⟨Z4.heap.size, 0, none⟩ (.int .i64 L)).setCell ⟨Z4.heap.size, 1, none⟩ (.int .i64 H)).cell? ⟨w.heap.size + 1, 1, none⟩ = some (.int .i64 (lo : Int)) := ((World.cell?_setCell_other _ _ _ _ (by intro e; injection e with e1 e2; omega)).trans ((World.cell?_setCell_other _ _ _ _ (by intro e; injection e with e1 e2; omega)).trans M1))
          replace M2 : ((Z5.setCell ⟨Z4.heap.size, 0, none⟩ (.int .i64 L)).setCell ⟨Z4.heap.size, 1, none⟩ (.int .i64 H)).cell? ⟨w.heap.size + 1, 2, none⟩ = some (.int .i64 (hi : Int)) := ((World.cell?_setCell_other _ _ _ _ (by intro e; injection e with e1 e2; omega)).trans ((World.cell?_setCell_other _ _ _ _ (by intro e; injection e with e1 e2; omega)).trans M2))
          replace b0 : ((Z5.setCell ⟨Z4.heap.size, 0, none⟩ (.int .i64 L)).setCell ⟨Z4.heap.size, 1, none⟩ (.int .i64 H)).cell? ⟨w.heap.size + 1 + 1, 0, none⟩ = some (.int .i64 (b : Int)) := ((World.cell?_setCell_other _ _ _ _ (by intro e; injection e with e1 e2; omega)).trans ((World.cell?_setCell_other _ _ _ _ (by intro e; injection e with e1 e2; omega)).trans b0))
          replace r0 : ((Z5.setCell ⟨Z4.heap.size, 0, none⟩ (.int .i64 L)).setCell ⟨Z4.heap.size, 1, none⟩ (.int .i64 H)).cell? ⟨w.heap.size + 1 + 1 + 1, 0, none⟩ = some (.int .i64 0) := ((World.cell?_setCell_other _ _ _ _ (by intro e; injection e with e1 e2; omega)).trans ((World.cell?_setCell_other _ _ _ _ (by intro e; injection e with e1 e2; omega)).trans r0))
          replace fr0 : ((Z5.setCell ⟨Z4.heap.size, 0, none⟩ (.int .i64 L)).setCell ⟨Z4.heap.size, 1, none⟩ (.int .i64 H)).frozen? ⟨w.heap.size + 1 + 1 + 1, 0, none⟩ = false := by simp [go_sem, fr0]
          replace r1 : ((Z5.setCell ⟨Z4.heap.size, 0, none⟩ (.int .i64 L)).setCell ⟨Z4.heap.size, 1, none⟩ (.int .i64 H)).cell? ⟨w.heap.size + 1 + 1 + 1, 1, none⟩ = some (.int .i64 0) := ((World.cell?_setCell_other _ _ _ _ (by intro e; injection e with e1 e2; omega)).trans ((World.cell?_setCell_other _ _ _ _ (by intro e; injection e with e1 e2; omega)).trans r1))
          replace fr1 : ((Z5.setCell ⟨Z4.heap.size, 0, none⟩ (.int .i64 L)).setCell ⟨Z4.heap.size, 1, none⟩ (.int .i64 H)).frozen? ⟨w.heap.size + 1 + 1 + 1, 1, none⟩ = false := by simp [go_sem, fr1]
          replace u0 : ((Z5.setCell ⟨Z4.heap.size, 0, none⟩ (.int .i64 L)).setCell ⟨Z4.heap.size, 1, none⟩ (.int .i64 H)).cell? ⟨qa, 0, none⟩ = some (.int .i64 (a : Int)) := ((World.cell?_setCell_other _ _ _ _ (by intro e; injection e with e1 e2; omega)).trans ((World.cell?_setCell_other _ _ _ _ (by intro e; injection e with e1 e2; omega)).trans u0))
          replace u1 : ((Z5.setCell ⟨Z4.heap.size, 0, none⟩ (.int .i64 L)).setCell ⟨Z4.heap.size, 1, none⟩ (.int .i64 H)).cell? ⟨qa, 1, none⟩ = some (.int .i64 (s : Int)) := ((World.cell?_setCell_other _ _ _ _ (by intro e; injection e with e1 e2; omega)).trans ((World.cell?_setCell_other _ _ _ _ (by intro e; injection e with e1 e2; omega)).trans u1))
          replace u2 : ((Z5.setCell ⟨Z4.heap.size, 0, none⟩ (.int .i64 L)).setCell ⟨Z4.heap.size, 1, none⟩ (.int .i64 H)).cell? ⟨qa + 3, 0, none⟩ = some (.int .i64 (m : Int)) := ((World.cell?_setCell_other _ _ _ _ (by intro e; injection e with e1 e2; omega)).trans ((World.cell?_setCell_other _ _ _ _ (by intro e; injection e with e1 e2; omega)).trans u2))
          replace u3 : ((Z5.setCell ⟨Z4.heap.size, 0, none⟩ (.int .i64 L)).setCell ⟨Z4.heap.size, 1, none⟩ (.int .i64 H)).cell? ⟨qa + 1, 0, none⟩ = some (.int .i64 (t : Int)) := ((World.cell?_setCell_other _ _ _ _ (by intro e; injection e with e1 e2; omega)).trans ((World.cell?_setCell_other _ _ _ _ (by intro e; injection e with e1 e2; omega)).trans u3))
          replace u4 : ((Z5.setCell ⟨Z4.heap.size, 0, none⟩ (.int .i64 L)).setCell ⟨Z4.heap.size, 1, none⟩ (.int .i64 H)).cell? ⟨qa + 2, 0, none⟩ = some (.int .i64 (lo : Int)) := ((World.cell?_setCell_other _ _ _ _ (by intro e; injection e with e1 e2; omega)).trans ((World.cell?_setCell_other _ _ _ _ (by intro e; injection e with e1 e2; omega)).trans u4))
          replace v0 : ((Z5.setCell ⟨Z4.heap.size, 0, none⟩ (.int .i64 L)).setCell ⟨Z4.heap.size, 1, none⟩ (.int .i64 H)).cell? ⟨qc, 0, none⟩ = some (.int .i64 (a : Int)) := ((World.cell?_setCell_other _ _ _ _ (by intro e; injection e with e1 e2; omega)).trans ((World.cell?_setCell_other _ _ _ _ (by intro e; injection e with e1 e2; omega)).trans v0))
          replace v1 : ((Z5.setCell ⟨Z4.heap.size, 0, none⟩ (.int .i64 L)).setCell ⟨Z4.heap.size, 1, none⟩ (.int .i64 H)).cell? ⟨qc, 1, none⟩ = some (.int .i64 (s : Int)) := ((World.cell?_setCell_other _ _ _ _ (by intro e; injection e with e1 e2; omega)).trans ((World.cell?_setCell_other _ _ _ _ (by intro e; injection e with e1 e2; omega)).trans v1))
          replace v2 : ((Z5.setCell ⟨Z4.heap.size, 0, none⟩ (.int .i64 L)).setCell ⟨Z4.heap.size, 1, none⟩ (.int .i64 H)).cell? ⟨qc + 3, 0, none⟩ = some (.int .i64 (m : Int)) := ((World.cell?_setCell_other _ _ _ _ (by intro e; injection e with e1 e2; omega)).trans ((World.cell?_setCell_other _ _ _ _ (by intro e; injection e with e1 e2; omega)).trans v2))
          replace v3 : ((Z5.setCell ⟨Z4.heap.size, 0, none⟩ (.int .i64 L)).setCell ⟨Z4.heap.size, 1, none⟩ (.int .i64 H)).cell? ⟨qc + 1, 0, none⟩ = some (.int .i64 (t : Int)) := ((World.cell?_setCell_other _ _ _ _ (by intro e; injection e with e1 e2; omega)).trans ((World.cell?_setCell_other _ _ _ _ (by intro e; injection e with e1 e2; omega)).trans v3))
          replace v4 : ((Z5.setCell ⟨Z4.heap.size, 0, none⟩ (.int .i64 L)).setCell ⟨Z4.heap.size, 1, none⟩ (.int .i64 H)).cell? ⟨qc + 2, 0, none⟩ = some (.int .i64 (hi : Int)) := ((World.cell?_setCell_other _ _ _ _ (by intro e; injection e with e1 e2; omega)).trans ((World.cell?_setCell_other _ _ _ _ (by intro e; injection e with e1 e2; omega)).trans v4))
          replace Nf0 : ((Z5.setCell ⟨Z4.heap.size, 0, none⟩ (.int .i64 L)).setCell ⟨Z4.heap.size, 1, none⟩ (.int .i64 H)).frozen? ⟨Z4.heap.size, 0, none⟩ = false := by simp [go_sem, Nf0]
          replace Nf1 : ((Z5.setCell ⟨Z4.heap.size, 0, none⟩ (.int .i64 L)).setCell ⟨Z4.heap.size, 1, none⟩ (.int .i64 H)).frozen? ⟨Z4.heap.size, 1, none⟩ = false := by simp [go_sem, Nf1]
          replace N0 : ((Z5.setCell ⟨Z4.heap.size, 0, none⟩ (.int .i64 L)).setCell ⟨Z4.heap.size, 1, none⟩ (.int .i64 H)).cell? ⟨Z4.heap.size, 0, none⟩ = some (.int .i64 L) := by simp [go_sem, N0]
          replace N1 : ((Z5.setCell ⟨Z4.heap.size, 0, none⟩ (.int .i64 L)).setCell ⟨Z4.heap.size, 1, none⟩ (.int .i64 H)).cell? ⟨Z4.heap.size, 1, none⟩ = some (.int .i64 H) := by simp [go_sem, N1]
          replace ns : w.heap.size < ((Z5.setCell ⟨Z4.heap.size, 0, none⟩ (.int .i64 L)).setCell ⟨Z4.heap.size, 1, none⟩ (.int .i64 H)).heap.size := by simpa [World.setCell] using ns
          replace nM : w.heap.size + 1 < ((Z5.setCell ⟨Z4.heap.size, 0, none⟩ (.int .i64 L)).setCell ⟨Z4.heap.size, 1, none⟩ (.int .i64 H)).heap.size := by simpa [World.setCell] using nM
          replace nb : w.heap.size + 1 + 1 < ((Z5.setCell ⟨Z4.heap.size, 0, none⟩ (.int .i64 L)).setCell ⟨Z4.heap.size, 1, none⟩ (.int .i64 H)).heap.size := by simpa [World.setCell] using nb
          replace nr : w.heap.size + 1 + 1 + 1 < ((Z5.setCell ⟨Z4.heap.size, 0, none⟩ (.int .i64 L)).setCell ⟨Z4.heap.size, 1, none⟩ (.int .i64 H)).heap.size := by simpa [World.setCell] using nr
          replace nua : qa < ((Z5.setCell ⟨Z4.heap.size, 0, none⟩ (.int .i64 L)).setCell ⟨Z4.heap.size, 1, none⟩ (.int .i64 H)).heap.size := by simpa [World.setCell] using nua
          replace nud : qa + 3 < ((Z5.setCell ⟨Z4.heap.size, 0, none⟩ (.int .i64 L)).setCell ⟨Z4.heap.size, 1, none⟩ (.int .i64 H)).heap.size := by simpa [World.setCell] using nud
          replace nub : qa + 1 < ((Z5.setCell ⟨Z4.heap.size, 0, none⟩ (.int .i64 L)).setCell ⟨Z4.heap.size, 1, none⟩ (.int .i64 H)).heap.size := by simpa [World.setCell] using nub
          replace nuc : qa + 2 < ((Z5.setCell ⟨Z4.heap.size, 0, none⟩ (.int .i64 L)).setCell ⟨Z4.heap.size, 1, none⟩ (.int .i64 H)).heap.size := by simpa [World.setCell] using nuc
          replace nva : qc < ((Z5.setCell ⟨Z4.heap.size, 0, none⟩ (.int .i64 L)).setCell ⟨Z4.heap.size, 1, none⟩ (.int .i64 H)).heap.size := by simpa [World.setCell] using nva
          replace nvd : qc + 3 < ((Z5.setCell ⟨Z4.heap.size, 0, none⟩ (.int .i64 L)).setCell ⟨Z4.heap.size, 1, none⟩ (.int .i64 H)).heap.size := by simpa [World.setCell] using nvd
          replace nvb : qc + 1 < ((Z5.setCell ⟨Z4.heap.size, 0, none⟩ (.int .i64 L)).setCell ⟨Z4.heap.size, 1, none⟩ (.int .i64 H)).heap.size := by simpa [World.setCell] using nvb
          replace nvc : qc + 2 < ((Z5.setCell ⟨Z4.heap.size, 0, none⟩ (.int .i64 L)).setCell ⟨Z4.heap.size, 1, none⟩ (.int .i64 H)).heap.size := by simpa [World.setCell] using nvc
          replace nN : Z4.heap.size < ((Z5.setCell ⟨Z4.heap.size, 0, none⟩ (.int .i64 L)).setCell ⟨Z4.heap.size, 1, none⟩ (.int .i64 H)).heap.size := by simpa [World.setCell] using nN
          replace hL := hL.setCell (p := ⟨Z4.heap.size, 0, none⟩) (by show W5.heap.size ≤ Z4.heap.size; omega) (.int .i64 L)
          replace hL := hL.setCell (p := ⟨Z4.heap.size, 1, none⟩) (by show W5.heap.size ≤ Z4.heap.size; omega) (.int .i64 H)
          refine hK.out _ _ ⟨s0, s1, M0, M1, M2, trivial⟩ (fun hHeld => ?_)
          clear hK K
          try simp only [Act.put, List.setIfInBounds_toArray, List.set_cons_zero, List.set_cons_succ]
          refine wpAnyH_done (by kernel_rfl) ?_ _
          replace hB := hB.trans (hL.mono hB.size)
          clear hHeld hL s0 s1 M0 M1 M2 b0 CL CH CB
          generalize hN : Z4.heap.size = kN at *
          clear hN
          go_wp2_with fail
          all_goals first
            | (refine bodyPost_ret (v := zP L H 0) (by simp [zP, results, Try.results15, go_sem, *]; done) rfl ⟨by rw [← HV.out, if_neg (by omega)], ?_⟩
               exact (hB.setCell (p := ⟨w.heap.size + 1 + 1 + 1, 0, none⟩) (by simp <;> omega) _).setCell (p := ⟨w.heap.size + 1 + 1 + 1, 1, none⟩) (by simp <;> omega) _)
            | (refine bodyPost_ret (v := zP 0 0 7) (by simp [zP, results, Try.results15, go_sem, *]; done) rfl ⟨by rw [← HV.out, if_pos (by omega)], ?_⟩
               exact (hB.setCell (p := ⟨w.heap.size + 1 + 1 + 1, 0, none⟩) (by simp <;> omega) _).setCell (p := ⟨w.heap.size + 1 + 1 + 1, 1, none⟩) (by simp <;> omega) _)
        · go_simp
          have hb := (Below.refl Z3.heap.size Z3).alloc (Nat.le_refl _) (Obj.cells #[.int .i64 0, .int .i64 0] 24)
          have szZ7 := hL.size
          have ord7ns := ns
          have ord7nM := nM
          have ord7nb := nb
          have ord7nr := nr
          have ord7nua := nua
          have ord7nud := nud
          have ord7nub := nub
          have ord7nuc := nuc
          have ord7nva := nva
          have ord7nvd := nvd
          have ord7nvb := nvb
          have ord7nvc := nvc
          replace s0 := cell_next hb ns s0
          replace s1 := cell_next hb ns s1
          replace M0 := cell_next hb nM M0
          replace M1 := cell_next hb nM M1
          replace M2 := cell_next hb nM M2
          replace b0 := cell_next hb nb b0
          replace r0 := cell_next hb nr r0
          replace fr0 := frozen_next hb nr fr0
          replace r1 := cell_next hb nr r1
          replace fr1 := frozen_next hb nr fr1
          replace u0 := cell_next hb nua u0
          replace u1 := cell_next hb nua u1
          replace u2 := cell_next hb nud u2
          replace u3 := cell_next hb nub u3
          replace u4 := cell_next hb nuc u4
          replace v0 := cell_next hb nva v0
          replace v1 := cell_next hb nva v1
          replace v2 := cell_next hb nvd v2
          replace v3 := cell_next hb nvb v3
          replace v4 := cell_next hb nvc v4
          replace ns := Nat.lt_of_lt_of_le ns hb.size
          replace nM := Nat.lt_of_lt_of_le nM hb.size
          replace nb := Nat.lt_of_lt_of_le nb hb.size
          replace nr := Nat.lt_of_lt_of_le nr hb.size
          replace nua := Nat.lt_of_lt_of_le nua hb.size
          replace nud := Nat.lt_of_lt_of_le nud hb.size
          replace nub := Nat.lt_of_lt_of_le nub hb.size
          replace nuc := Nat.lt_of_lt_of_le nuc hb.size
          replace nva := Nat.lt_of_lt_of_le nva hb.size
          replace nvd := Nat.lt_of_lt_of_le nvd hb.size
          replace nvb := Nat.lt_of_lt_of_le nvb hb.size
          replace nvc := Nat.lt_of_lt_of_le nvc hb.size
          replace hL := hL.trans (hb.mono (Nat.le_trans hBW hL.size))
          have Nf0 : (Z3.alloc (Obj.cells #[.int .i64 0, .int .i64 0] 24)).frozen? ⟨Z3.heap.size, 0, none⟩ = false := by simp [go_sem]
          have Nf1 : (Z3.alloc (Obj.cells #[.int .i64 0, .int .i64 0] 24)).frozen? ⟨Z3.heap.size, 1, none⟩ = false := by simp [go_sem]
          have N0 : (Z3.alloc (Obj.cells #[.int .i64 0, .int .i64 0] 24)).cell? ⟨Z3.heap.size, 0, none⟩ = some (.int .i64 0) := cell_new _ _ _ 0
          have N1 : (Z3.alloc (Obj.cells #[.int .i64 0, .int .i64 0] 24)).cell? ⟨Z3.heap.size, 1, none⟩ = some (.int .i64 0) := cell_new _ _ _ 1
          have nN : Z3.heap.size < (Z3.alloc (Obj.cells #[.int .i64 0, .int .i64 0] 24)).heap.size := by simp
          refine hK.out _ _ ⟨s0, s1, M0, M1, M2, trivial⟩ (fun hHeld => ?_)
          clear hK K hb
          generalize Z3.alloc (Obj.cells #[.int .i64 0, .int .i64 0] 24) = Z7 at *
          try simp only [Act.put, List.setIfInBounds_toArray, List.set_cons_zero, List.set_cons_succ]
          refine wpAnyH_ready (rs := [19]) (by kernel_rfl) (by simp) ?_
          refine AllReadyH.cons rfl (fun K hK => ?_) AllReadyH.nil
          go_simp
          refine (CH.out qc (w.heap.size + 1 + 1) _ (by omega) (by omega) v0 v1 v2 v3 v4 b0).mono ?_
          rintro e Z8 ⟨rfl, hb⟩
          replace s0 := cell_next hb ns s0
          replace s1 := cell_next hb ns s1
          replace M0 := cell_next hb nM M0
          replace M1 := cell_next hb nM M1
          replace M2 := cell_next hb nM M2
          replace b0 := cell_next hb nb b0
          replace r0 := cell_next hb nr r0
          replace fr0 := frozen_next hb nr fr0
          replace r1 := cell_next hb nr r1
          replace fr1 := frozen_next hb nr fr1
          replace u0 := cell_next hb nua u0
          replace u1 := cell_next hb nua u1
          replace u2 := cell_next hb nud u2
          replace u3 := cell_next hb nub u3
          replace u4 := cell_next hb nuc u4
          replace v0 := cell_next hb nva v0
          replace v1 := cell_next hb nva v1
          replace v2 := cell_next hb nvd v2
          replace v3 := cell_next hb nvb v3
          replace v4 := cell_next hb nvc v4
          replace Nf0 := frozen_next hb nN Nf0
          replace Nf1 := frozen_next hb nN Nf1
          replace N0 := cell_next hb nN N0
          replace N1 := cell_next hb nN N1
          replace ns := Nat.lt_of_lt_of_le ns hb.size
          replace nM := Nat.lt_of_lt_of_le nM hb.size
          replace nb := Nat.lt_of_lt_of_le nb hb.size
          replace nr := Nat.lt_of_lt_of_le nr hb.size
          replace nua := Nat.lt_of_lt_of_le nua hb.size
          replace nud := Nat.lt_of_lt_of_le nud hb.size
          replace nub := Nat.lt_of_lt_of_le nub hb.size
          replace nuc := Nat.lt_of_lt_of_le nuc hb.size
          replace nva := Nat.lt_of_lt_of_le nva hb.size
          replace nvd := Nat.lt_of_lt_of_le nvd hb.size
          replace nvb := Nat.lt_of_lt_of_le nvb hb.size
          replace nvc := Nat.lt_of_lt_of_le nvc hb.size
          replace nN := Nat.lt_of_lt_of_le nN hb.size
          replace hL := hL.trans (hb.mono (Nat.le_trans hBW hL.size))
          refine hK.out _ _ ⟨s0, s1, M0, M1, M2, trivial⟩ (fun hHeld => ?_)
          clear hK K hb
          try simp only [Act.put, List.setIfInBounds_toArray, List.set_cons_zero, List.set_cons_succ]
          refine take_slot (i := 20) (d := 61) (v := ?_) rfl rfl (by kernel_rfl) (by kernel_rfl) (by kernel_rfl) (fun _ _ _ h => h) (Or.inl ⟨by rfl, ?_⟩) (by assumption) ?_
          rotate_left 1
          focus (intro wS hSw; (try dsimp only at hSw); go_simp; try with_reducible rfl)
          try simp only [List.setIfInBounds_toArray, List.set_cons_zero, List.set_cons_succ]
          refine wpAnyH_ready (rs := [22]) (by kernel_rfl) (by simp) ?_
          refine AllReadyH.cons rfl (fun K hK => ?_) AllReadyH.nil
          go_simp
          replace s0 : ((Z8.setCell ⟨Z3.heap.size, 0, none⟩ (.int .i64 L)).setCell ⟨Z3.heap.size, 1, none⟩ (.int .i64 H)).cell? ⟨w.heap.size, 0, none⟩ = some (.int .i64 (a : Int)) := ((World.cell?_setCell_other _ _ _ _ (by intro e; injection e with e1 e2; omega)).trans ((World.cell?_setCell_other _ _ _ _ (by intro e; injection e with e1 e2; omega)).trans s0))
          replace s1 : ((Z8.setCell ⟨Z3.heap.size, 0, none⟩ (.int .i64 L)).setCell ⟨Z3.heap.size, 1, none⟩ (.int .i64 H)).cell? ⟨w.heap.size, 1, none⟩ = some (.int .i64 (s : Int)) := ((World.cell?_setCell_other _ _ _ _ (by intro e; injection e with e1 e2; omega)).trans ((World.cell?_setCell_other _ _ _ _ (by intro e; injection e with e1 e2; omega)).trans s1))
          replace M0 : ((Z8.setCell ⟨Z3.heap.size, 0, none⟩ (.int .i64 L)).setCell ⟨Z3.heap.size, 1, none⟩ (.int .i64 H)).cell? ⟨w.heap.size + 1, 0, none⟩ = some (.int .i64 (t : Int)) := ((World.cell?_setCell_other _ _ _ _ (by intro e; injection e with e1 e2; omega)).trans ((World.cell?_setCell_other _ _ _ _ (by intro e; injection e with e1 e2; omega)).trans M0))
          replace M1 : ((Z8.setCell ⟨Z3.heap.size, 0, none⟩ (.int .i64 L)).setCell ⟨Z3.heap.size, 1, none⟩ (.int .i64 H)).cell? ⟨w.heap.size + 1, 1, none⟩ = some (.int .i64 (lo : Int)) := ((World.cell?_setCell_other _ _ _ _ (by intro e; injection e with e1 e2; omega)).trans ((World.cell?_setCell_other _ _ _ _ (by intro e; injection e with e1 e2; omega)).trans M1))
          replace M2 : ((Z8.setCell ⟨Z3.heap.size, 0, none⟩ (.int .i64 L)).setCell ⟨Z3.heap.size, 1, none⟩ (.int .i64 H)).cell? ⟨w.heap.size + 1, 2, none⟩ = some (.int .i64 (hi : Int)) := ((World.cell?_setCell_other _ _ _ _ (by intro e; injection e with e1 e2; omega)).trans ((World.cell?_setCell_other _ _ _ _ (by intro e; injection e with e1 e2; omega)).trans M2))
          replace b0 : ((Z8.setCell ⟨Z3.heap.size, 0, none⟩ (.int .i64 L)).setCell ⟨Z3.heap.size, 1, none⟩ (.int .i64 H)).cell? ⟨w.heap.size + 1 + 1, 0, none⟩ = some (.int .i64 (b : Int)) := ((World.cell?_setCell_other _ _ _ _ (by intro e; injection e with e1 e2; omega)).trans ((World.cell?_setCell_other _ _ _ _ (by intro e; injection e with e1 e2; omega)).trans b0))
          replace r0 : ((Z8.setCell ⟨Z3.heap.size, 0, none⟩ (.int .i64 L)).setCell ⟨Z3.heap.size, 1, none⟩ (.int .i64 H)).cell? ⟨w.heap.size + 1 + 1 + 1, 0, none⟩ = some (.int .i64 0) := ((World.cell?_setCell_other _ _ _ _ (by intro e; injection e with e1 e2; omega)).trans ((World.cell?_setCell_other _ _ _ _ (by intro e; injection e with e1 e2; omega)).trans r0))
          replace fr0 : ((Z8.setCell ⟨Z3.heap.size, 0, none⟩ (.int .i64 L)).setCell ⟨Z3.heap.size, 1, none⟩ (.int .i64 H)).frozen? ⟨w.heap.size + 1 + 1 + 1, 0, none⟩ = false := by simp [go_sem, fr0]
          replace r1 : ((Z8.setCell ⟨Z3.heap.size, 0, none⟩ (.int .i64 L)).setCell ⟨Z3.heap.size, 1, none⟩ (.int .i64 H)).cell? ⟨w.heap.size + 1 + 1 + 1, 1, none⟩ = some (.int .i64 0) := ((World.cell?_setCell_other _ _ _ _ (by intro e; injection e with e1 e2; omega)).trans ((World.cell?_setCell_other _ _ _ _ (by intro e; injection e with e1 e2; omega)).trans r1))
          replace fr1 : ((Z8.setCell ⟨Z3.heap.size, 0, none⟩ (.int .i64 L)).setCell ⟨Z3.heap.size, 1, none⟩ (.int .i64 H)).frozen? ⟨w.heap.size + 1 + 1 + 1, 1, none⟩ = false := by simp [go_sem, fr1]
          replace u0 : ((Z8.setCell ⟨Z3.heap.size, 0, none⟩ (.int .i64 L)).setCell ⟨Z3.heap.size, 1, none⟩ (.int .i64 H)).cell? ⟨qa, 0, none⟩ = some (.int .i64 (a : Int)) := ((World.cell?_setCell_other _ _ _ _ (by intro e; injection e with e1 e2; omega)).trans ((World.cell?_setCell_other _ _ _ _ (by intro e; injection e with e1 e2; omega)).trans u0))
          replace u1 : ((Z8.setCell ⟨Z3.heap.size, 0, none⟩ (.int .i64 L)).setCell ⟨Z3.heap.size, 1, none⟩ (.int .i64 H)).cell? ⟨qa, 1, none⟩ = some (.int .i64 (s : Int)) := ((World.cell?_setCell_other _ _ _ _ (by intro e; injection e with e1 e2; omega)).trans ((World.cell?_setCell_other _ _ _ _ (by intro e; injection e with e1 e2; omega)).trans u1))
          replace u2 : ((Z8.setCell ⟨Z3.heap.size, 0, none⟩ (.int .i64 L)).setCell ⟨Z3.heap.size, 1, none⟩ (.int .i64 H)).cell? ⟨qa + 3, 0, none⟩ = some (.int .i64 (m : Int)) := ((World.cell?_setCell_other _ _ _ _ (by intro e; injection e with e1 e2; omega)).trans ((World.cell?_setCell_other _ _ _ _ (by intro e; injection e with e1 e2; omega)).trans u2))
          replace u3 : ((Z8.setCell ⟨Z3.heap.size, 0, none⟩ (.int .i64 L)).setCell ⟨Z3.heap.size, 1, none⟩ (.int .i64 H)).cell? ⟨qa + 1, 0, none⟩ = some (.int .i64 (t : Int)) := ((World.cell?_setCell_other _ _ _ _ (by intro e; injection e with e1 e2; omega)).trans ((World.cell?_setCell_other _ _ _ _ (by intro e; injection e with e1 e2; omega)).trans u3))
          replace u4 : ((Z8.setCell ⟨Z3.heap.size, 0, none⟩ (.int .i64 L)).setCell ⟨Z3.heap.size, 1, none⟩ (.int .i64 H)).cell? ⟨qa + 2, 0, none⟩ = some (.int .i64 (lo : Int)) := ((World.cell?_setCell_other _ _ _ _ (by intro e; injection e with e1 e2; omega)).trans ((World.cell?_setCell_other _ _ _ _ (by intro e; injection e with e1 e2; omega)).trans u4))
          replace v0 : ((Z8.setCell ⟨Z3.heap.size, 0, none⟩ (.int .i64 L)).setCell ⟨Z3.heap.size, 1, none⟩ (.int .i64 H)).cell? ⟨qc, 0, none⟩ = some (.int .i64 (a : Int)) := ((World.cell?_setCell_other _ _ _ _ (by intro e; injection e with e1 e2; omega)).trans ((World.cell?_setCell_other _ _ _ _ (by intro e; injection e with e1 e2; omega)).trans v0))
          replace v1 : ((Z8.setCell ⟨Z3.heap.size, 0, none⟩ (.int .i64 L)).setCell ⟨Z3.heap.size, 1, none⟩ (.int .i64 H)).cell? ⟨qc, 1, none⟩ = some (.int .i64 (s : Int)) := ((World.cell?_setCell_other _ _ _ _ (by intro e; injection e with e1 e2; omega)).trans ((World.cell?_setCell_other _ _ _ _ (by intro e; injection e with e1 e2; omega)).trans v1))
          replace v2 : ((Z8.setCell ⟨Z3.heap.size, 0, none⟩ (.int .i64 L)).setCell ⟨Z3.heap.size, 1, none⟩ (.int .i64 H)).cell? ⟨qc + 3, 0, none⟩ = some (.int .i64 (m : Int)) := ((World.cell?_setCell_other _ _ _ _ (by intro e; injection e with e1 e2; omega)).trans ((World.cell?_setCell_other _ _ _ _ (by intro e; injection e with e1 e2; omega)).trans v2))
          replace v3 : ((Z8.setCell ⟨Z3.heap.size, 0, none⟩ (.int .i64 L)).setCell ⟨Z3.heap.size, 1, none⟩ (.int .i64 H)).cell? ⟨qc + 1, 0, none⟩ = some (.int .i64 (t : Int)) := ((World.cell?_setCell_other _ _ _ _ (by intro e; injection e with e1 e2; omega)).trans ((World.cell?_setCell_other _ _ _ _ (by intro e; injection e with e1 e2; omega)).trans v3))
          replace v4 : ((Z8.setCell ⟨Z3.heap.size, 0, none⟩ (.int .i64 L)).setCell ⟨Z3.heap.size, 1, none⟩ (.int .i64 H)).cell? ⟨qc + 2, 0, none⟩ = some (.int .i64 (hi : Int)) := ((World.cell?_setCell_other _ _ _ _ (by intro e; injection e with e1 e2; omega)).trans ((World.cell?_setCell_other _ _ _ _ (by intro e; injection e with e1 e2; omega)).trans v4))
          replace Nf0 : ((Z8.setCell ⟨Z3.heap.size, 0, none⟩ (.int .i64 L)).setCell ⟨Z3.heap.size, 1, none⟩ (.int .i64 H)).frozen? ⟨Z3.heap.size, 0, none⟩ = false := by simp [go_sem, Nf0]
          replace Nf1 : ((Z8.setCell ⟨Z3.heap.size, 0, none⟩ (.int .i64 L)).setCell ⟨Z3.heap.size, 1, none⟩ (.int .i64 H)).frozen? ⟨Z3.heap.size, 1, none⟩ = false := by simp [go_sem, Nf1]
          replace N0 : ((Z8.setCell ⟨Z3.heap.size, 0, none⟩ (.int .i64 L)).setCell ⟨Z3.heap.size, 1, none⟩ (.int .i64 H)).cell? ⟨Z3.heap.size, 0, none⟩ = some (.int .i64 L) := by simp [go_sem, N0]
          replace N1 : ((Z8.setCell ⟨Z3.heap.size, 0, none⟩ (.int .i64 L)).setCell ⟨Z3.heap.size, 1, none⟩ (.int .i64 H)).cell? ⟨Z3.heap.size, 1, none⟩ = some (.int .i64 H) := by simp [go_sem, N1]
          replace ns : w.heap.size < ((Z8.setCell ⟨Z3.heap.size, 0, none⟩ (.int .i64 L)).setCell ⟨Z3.heap.size, 1, none⟩ (.int .i64 H)).heap.size := by simpa [World.setCell] using ns
          replace nM : w.heap.size + 1 < ((Z8.setCell ⟨Z3.heap.size, 0, none⟩ (.int .i64 L)).setCell ⟨Z3.heap.size, 1, none⟩ (.int .i64 H)).heap.size := by simpa [World.setCell] using nM
          replace nb : w.heap.size + 1 + 1 < ((Z8.setCell ⟨Z3.heap.size, 0, none⟩ (.int .i64 L)).setCell ⟨Z3.heap.size, 1, none⟩ (.int .i64 H)).heap.size := by simpa [World.setCell] using nb
          replace nr : w.heap.size + 1 + 1 + 1 < ((Z8.setCell ⟨Z3.heap.size, 0, none⟩ (.int .i64 L)).setCell ⟨Z3.heap.size, 1, none⟩ (.int .i64 H)).heap.size := by simpa [World.setCell] using nr
          replace nua : qa < ((Z8.setCell ⟨Z3.heap.size, 0, none⟩ (.int .i64 L)).setCell ⟨Z3.heap.size, 1, none⟩ (.int .i64 H)).heap.size := by simpa [World.setCell] using nua
          replace nud : qa + 3 < ((Z8.setCell ⟨Z3.heap.size, 0, none⟩ (.int .i64 L)).setCell ⟨Z3.heap.size, 1, none⟩ (.int .i64 H)).heap.size := by simpa [World.setCell] using nud
          replace nub : qa + 1 < ((Z8.setCell ⟨Z3.heap.size, 0, none⟩ (.int .i64 L)).setCell ⟨Z3.heap.size, 1, none⟩ (.int .i64 H)).heap.size := by simpa [World.setCell] using nub
          replace nuc : qa + 2 < ((Z8.setCell ⟨Z3.heap.size, 0, none⟩ (.int .i64 L)).setCell ⟨Z3.heap.size, 1, none⟩ (.int .i64 H)).heap.size := by simpa [World.setCell] using nuc
          replace nva : qc < ((Z8.setCell ⟨Z3.heap.size, 0, none⟩ (.int .i64 L)).setCell ⟨Z3.heap.size, 1, none⟩ (.int .i64 H)).heap.size := by simpa [World.setCell] using nva
          replace nvd : qc + 3 < ((Z8.setCell ⟨Z3.heap.size, 0, none⟩ (.int .i64 L)).setCell ⟨Z3.heap.size, 1, none⟩ (.int .i64 H)).heap.size := by simpa [World.setCell] using nvd
          replace nvb : qc + 1 < ((Z8.setCell ⟨Z3.heap.size, 0, none⟩ (.int .i64 L)).setCell ⟨Z3.heap.size, 1, none⟩ (.int .i64 H)).heap.size := by simpa [World.setCell] using nvb
          replace nvc : qc + 2 < ((Z8.setCell ⟨Z3.heap.size, 0, none⟩ (.int .i64 L)).setCell ⟨Z3.heap.size, 1, none⟩ (.int .i64 H)).heap.size := by simpa [World.setCell] using nvc
          replace nN : Z3.heap.size < ((Z8.setCell ⟨Z3.heap.size, 0, none⟩ (.int .i64 L)).setCell ⟨Z3.heap.size, 1, none⟩ (.int .i64 H)).heap.size := by simpa [World.setCell] using nN
          replace hL := hL.setCell (p := ⟨Z3.heap.size, 0, none⟩) (by show W5.heap.size ≤ Z3.heap.size; omega) (.int .i64 L)
          replace hL := hL.setCell (p := ⟨Z3.heap.size, 1, none⟩) (by show W5.heap.size ≤ Z3.heap.size; omega) (.int .i64 H)
          refine hK.out _ _ ⟨s0, s1, M0, M1, M2, trivial⟩ (fun hHeld => ?_)
          clear hK K
          try simp only [Act.put, List.setIfInBounds_toArray, List.set_cons_zero, List.set_cons_succ]
          refine wpAnyH_done (by kernel_rfl) ?_ _
          replace hB := hB.trans (hL.mono hB.size)
          clear hHeld hL s0 s1 M0 M1 M2 b0 CL CH CB
          generalize hN : Z3.heap.size = kN at *
          clear hN
          go_wp2_with fail
          all_goals first
            | (refine bodyPost_ret (v := zP L H 0) (by simp [zP, results, Try.results15, go_sem, *]; done) rfl ⟨by rw [← HV.out, if_neg (by omega)], ?_⟩
               exact (hB.setCell (p := ⟨w.heap.size + 1 + 1 + 1, 0, none⟩) (by simp <;> omega) _).setCell (p := ⟨w.heap.size + 1 + 1 + 1, 1, none⟩) (by simp <;> omega) _)
            | (refine bodyPost_ret (v := zP 0 0 7) (by simp [zP, results, Try.results15, go_sem, *]; done) rfl ⟨by rw [← HV.out, if_pos (by omega)], ?_⟩
               exact (hB.setCell (p := ⟨w.heap.size + 1 + 1 + 1, 0, none⟩) (by simp <;> omega) _).setCell (p := ⟨w.heap.size + 1 + 1 + 1, 1, none⟩) (by simp <;> omega) _)
      · go_simp
        have hb := (Below.refl Z2.heap.size Z2).alloc (Nat.le_refl _) (Obj.cells #[.int .i64 0, .int .i64 0] 24)
        have szZ10 := hL.size
        have ord10ns := ns
        have ord10nM := nM
        have ord10nb := nb
        have ord10nr := nr
        have ord10nua := nua
        have ord10nud := nud
        have ord10nub := nub
        have ord10nuc := nuc
        replace s0 := cell_next hb ns s0
        replace s1 := cell_next hb ns s1
        replace M0 := cell_next hb nM M0
        replace M1 := cell_next hb nM M1
        replace M2 := cell_next hb nM M2
        replace b0 := cell_next hb nb b0
        replace r0 := cell_next hb nr r0
        replace fr0 := frozen_next hb nr fr0
        replace r1 := cell_next hb nr r1
        replace fr1 := frozen_next hb nr fr1
        replace u0 := cell_next hb nua u0
        replace u1 := cell_next hb nua u1
        replace u2 := cell_next hb nud u2
        replace u3 := cell_next hb nub u3
        replace u4 := cell_next hb nuc u4
        replace ns := Nat.lt_of_lt_of_le ns hb.size
        replace nM := Nat.lt_of_lt_of_le nM hb.size
        replace nb := Nat.lt_of_lt_of_le nb hb.size
        replace nr := Nat.lt_of_lt_of_le nr hb.size
        replace nua := Nat.lt_of_lt_of_le nua hb.size
        replace nud := Nat.lt_of_lt_of_le nud hb.size
        replace nub := Nat.lt_of_lt_of_le nub hb.size
        replace nuc := Nat.lt_of_lt_of_le nuc hb.size
        replace hL := hL.trans (hb.mono (Nat.le_trans hBW hL.size))
        have Nf0 : (Z2.alloc (Obj.cells #[.int .i64 0, .int .i64 0] 24)).frozen? ⟨Z2.heap.size, 0, none⟩ = false := by simp [go_sem]
        have Nf1 : (Z2.alloc (Obj.cells #[.int .i64 0, .int .i64 0] 24)).frozen? ⟨Z2.heap.size, 1, none⟩ = false := by simp [go_sem]
        have N0 : (Z2.alloc (Obj.cells #[.int .i64 0, .int .i64 0] 24)).cell? ⟨Z2.heap.size, 0, none⟩ = some (.int .i64 0) := cell_new _ _ _ 0
        have N1 : (Z2.alloc (Obj.cells #[.int .i64 0, .int .i64 0] 24)).cell? ⟨Z2.heap.size, 1, none⟩ = some (.int .i64 0) := cell_new _ _ _ 1
        have nN : Z2.heap.size < (Z2.alloc (Obj.cells #[.int .i64 0, .int .i64 0] 24)).heap.size := by simp
        refine hK.out _ _ ⟨s0, s1, M0, M1, M2, trivial⟩ (fun hHeld => ?_)
        clear hK K hb
        generalize Z2.alloc (Obj.cells #[.int .i64 0, .int .i64 0] 24) = Z10 at *
        try simp only [Act.put, List.setIfInBounds_toArray, List.set_cons_zero, List.set_cons_succ]
        refine wpAnyH_ready (rs := [17]) (by kernel_rfl) (by simp) ?_
        refine AllReadyH.cons rfl (fun K hK => ?_) AllReadyH.nil
        go_simp
        refine (CB.out (hi : Int) _).mono ?_
        rintro e Z11 ⟨rfl, ⟨v0, v1, v2, v3, v4⟩, hz4, hb⟩
        have oqcns := ns
        have oqcnM := nM
        have oqcnb := nb
        have oqcnr := nr
        have oqcnua := nua
        have oqcnud := nud
        have oqcnub := nub
        have oqcnuc := nuc
        have oqcnN := nN
        have oqcL := hL.size
        replace s0 := cell_next hb ns s0
        replace s1 := cell_next hb ns s1
        replace M0 := cell_next hb nM M0
        replace M1 := cell_next hb nM M1
        replace M2 := cell_next hb nM M2
        replace b0 := cell_next hb nb b0
        replace r0 := cell_next hb nr r0
        replace fr0 := frozen_next hb nr fr0
        replace r1 := cell_next hb nr r1
        replace fr1 := frozen_next hb nr fr1
        replace u0 := cell_next hb nua u0
        replace u1 := cell_next hb nua u1
        replace u2 := cell_next hb nud u2
        replace u3 := cell_next hb nub u3
        replace u4 := cell_next hb nuc u4
        replace Nf0 := frozen_next hb nN Nf0
        replace Nf1 := frozen_next hb nN Nf1
        replace N0 := cell_next hb nN N0
        replace N1 := cell_next hb nN N1
        replace ns := Nat.lt_of_lt_of_le ns hb.size
        replace nM := Nat.lt_of_lt_of_le nM hb.size
        replace nb := Nat.lt_of_lt_of_le nb hb.size
        replace nr := Nat.lt_of_lt_of_le nr hb.size
        replace nua := Nat.lt_of_lt_of_le nua hb.size
        replace nud := Nat.lt_of_lt_of_le nud hb.size
        replace nub := Nat.lt_of_lt_of_le nub hb.size
        replace nuc := Nat.lt_of_lt_of_le nuc hb.size
        replace nN := Nat.lt_of_lt_of_le nN hb.size
        replace hL := hL.trans (hb.mono (Nat.le_trans hBW hL.size))
        have nva : Z10.heap.size < Z11.heap.size := by omega
        have nvb : Z10.heap.size + 1 < Z11.heap.size := by omega
        have nvc : Z10.heap.size + 2 < Z11.heap.size := by omega
        have nvd : Z10.heap.size + 3 < Z11.heap.size := by omega
        clear hz4
        generalize Z10.heap.size = qc at *
        refine hK.out _ _ ⟨s0, s1, M0, M1, M2, trivial⟩ (fun hHeld => ?_)
        clear hK K hb
        try simp only [Act.put, List.setIfInBounds_toArray, List.set_cons_zero, List.set_cons_succ]
        refine wpAnyH_ready (rs := [19]) (by kernel_rfl) (by simp) ?_
        refine AllReadyH.cons rfl (fun K hK => ?_) AllReadyH.nil
        go_simp
        refine (CH.out qc (w.heap.size + 1 + 1) _ (by omega) (by omega) v0 v1 v2 v3 v4 b0).mono ?_
        rintro e Z12 ⟨rfl, hb⟩
        replace s0 := cell_next hb ns s0
        replace s1 := cell_next hb ns s1
        replace M0 := cell_next hb nM M0
        replace M1 := cell_next hb nM M1
        replace M2 := cell_next hb nM M2
        replace b0 := cell_next hb nb b0
        replace r0 := cell_next hb nr r0
        replace fr0 := frozen_next hb nr fr0
        replace r1 := cell_next hb nr r1
        replace fr1 := frozen_next hb nr fr1
        replace u0 := cell_next hb nua u0
        replace u1 := cell_next hb nua u1
        replace u2 := cell_next hb nud u2
        replace u3 := cell_next hb nub u3
        replace u4 := cell_next hb nuc u4
        replace Nf0 := frozen_next hb nN Nf0
        replace Nf1 := frozen_next hb nN Nf1
        replace N0 := cell_next hb nN N0
        replace N1 := cell_next hb nN N1
        replace v0 := cell_next hb nva v0
        replace v1 := cell_next hb nva v1
        replace v2 := cell_next hb nvd v2
        replace v3 := cell_next hb nvb v3
        replace v4 := cell_next hb nvc v4
        replace ns := Nat.lt_of_lt_of_le ns hb.size
        replace nM := Nat.lt_of_lt_of_le nM hb.size
        replace nb := Nat.lt_of_lt_of_le nb hb.size
        replace nr := Nat.lt_of_lt_of_le nr hb.size
        replace nua := Nat.lt_of_lt_of_le nua hb.size
        replace nud := Nat.lt_of_lt_of_le nud hb.size
        replace nub := Nat.lt_of_lt_of_le nub hb.size
        replace nuc := Nat.lt_of_lt_of_le nuc hb.size
        replace nN := Nat.lt_of_lt_of_le nN hb.size
        replace nva := Nat.lt_of_lt_of_le nva hb.size
        replace nvd := Nat.lt_of_lt_of_le nvd hb.size
        replace nvb := Nat.lt_of_lt_of_le nvb hb.size
        replace nvc := Nat.lt_of_lt_of_le nvc hb.size
        replace hL := hL.trans (hb.mono (Nat.le_trans hBW hL.size))
        refine hK.out _ _ ⟨s0, s1, M0, M1, M2, trivial⟩ (fun hHeld => ?_)
        clear hK K hb
        try simp only [Act.put, List.setIfInBounds_toArray, List.set_cons_zero, List.set_cons_succ]
        refine take_slot (i := 20) (d := 61) (v := ?_) rfl rfl (by kernel_rfl) (by kernel_rfl) (by kernel_rfl) (fun _ _ _ h => h) (Or.inl ⟨by rfl, ?_⟩) (by assumption) ?_
        rotate_left 1
        focus (intro wS hSw; (try dsimp only at hSw); go_simp; try with_reducible rfl)
        try simp only [List.setIfInBounds_toArray, List.set_cons_zero, List.set_cons_succ]
        refine wpAnyH_ready (rs := [22]) (by kernel_rfl) (by simp) ?_
        refine AllReadyH.cons rfl (fun K hK => ?_) AllReadyH.nil
        go_simp
        replace s0 : ((Z12.setCell ⟨Z2.heap.size, 0, none⟩ (.int .i64 L)).setCell ⟨Z2.heap.size, 1, none⟩ (.int .i64 H)).cell? ⟨w.heap.size, 0, none⟩ = some (.int .i64 (a : Int)) := ((World.cell?_setCell_other _ _ _ _ (by intro e; injection e with e1 e2; omega)).trans ((World.cell?_setCell_other _ _ _ _ (by intro e; injection e with e1 e2; omega)).trans s0))
        replace s1 : ((Z12.setCell ⟨Z2.heap.size, 0, none⟩ (.int .i64 L)).setCell ⟨Z2.heap.size, 1, none⟩ (.int .i64 H)).cell? ⟨w.heap.size, 1, none⟩ = some (.int .i64 (s : Int)) := ((World.cell?_setCell_other _ _ _ _ (by intro e; injection e with e1 e2; omega)).trans ((World.cell?_setCell_other _ _ _ _ (by intro e; injection e with e1 e2; omega)).trans s1))
        replace M0 : ((Z12.setCell ⟨Z2.heap.size, 0, none⟩ (.int .i64 L)).setCell ⟨Z2.heap.size, 1, none⟩ (.int .i64 H)).cell? ⟨w.heap.size + 1, 0, none⟩ = some (.int .i64 (t : Int)) := ((World.cell?_setCell_other _ _ _ _ (by intro e; injection e with e1 e2; omega)).trans ((World.cell?_setCell_other _ _ _ _ (by intro e; injection e with e1 e2; omega)).trans M0))
        replace M1 : ((Z12.setCell ⟨Z2.heap.size, 0, none⟩ (.int .i64 L)).setCell ⟨Z2.heap.size, 1, none⟩ (.int .i64 H)).cell? ⟨w.heap.size + 1, 1, none⟩ = some (.int .i64 (lo : Int)) := ((World.cell?_setCell_other _ _ _ _ (by intro e; injection e with e1 e2; omega)).trans ((World.cell?_setCell_other _ _ _ _ (by intro e; injection e with e1 e2; omega)).trans M1))
        replace M2 : ((Z12.setCell ⟨Z2.heap.size, 0, none⟩ (.int .i64 L)).setCell ⟨Z2.heap.size, 1, none⟩ (.int .i64 H)).cell? ⟨w.heap.size + 1, 2, none⟩ = some (.int .i64 (hi : Int)) := ((World.cell?_setCell_other _ _ _ _ (by intro e; injection e with e1 e2; omega)).trans ((World.cell?_setCell_other _ _ _ _ (by intro e; injection e with e1 e2; omega)).trans M2))
        replace b0 : ((Z12.setCell ⟨Z2.heap.size, 0, none⟩ (.int .i64 L)).setCell ⟨Z2.heap.size, 1, none⟩ (.int .i64 H)).cell? ⟨w.heap.size + 1 + 1, 0, none⟩ = some (.int .i64 (b : Int)) := ((World.cell?_setCell_other _ _ _ _ (by intro e; injection e with e1 e2; omega)).trans ((World.cell?_setCell_other _ _ _ _ (by intro e; injection e with e1 e2; omega)).trans b0))
        replace r0 : ((Z12.setCell ⟨Z2.heap.size, 0, none⟩ (.int .i64 L)).setCell ⟨Z2.heap.size, 1, none⟩ (.int .i64 H)).cell? ⟨w.heap.size + 1 + 1 + 1, 0, none⟩ = some (.int .i64 0) := ((World.cell?_setCell_other _ _ _ _ (by intro e; injection e with e1 e2; omega)).trans ((World.cell?_setCell_other _ _ _ _ (by intro e; injection e with e1 e2; omega)).trans r0))
        replace fr0 : ((Z12.setCell ⟨Z2.heap.size, 0, none⟩ (.int .i64 L)).setCell ⟨Z2.heap.size, 1, none⟩ (.int .i64 H)).frozen? ⟨w.heap.size + 1 + 1 + 1, 0, none⟩ = false := by simp [go_sem, fr0]
        replace r1 : ((Z12.setCell ⟨Z2.heap.size, 0, none⟩ (.int .i64 L)).setCell ⟨Z2.heap.size, 1, none⟩ (.int .i64 H)).cell? ⟨w.heap.size + 1 + 1 + 1, 1, none⟩ = some (.int .i64 0) := ((World.cell?_setCell_other _ _ _ _ (by intro e; injection e with e1 e2; omega)).trans ((World.cell?_setCell_other _ _ _ _ (by intro e; injection e with e1 e2; omega)).trans r1))
        replace fr1 : ((Z12.setCell ⟨Z2.heap.size, 0, none⟩ (.int .i64 L)).setCell ⟨Z2.heap.size, 1, none⟩ (.int .i64 H)).frozen? ⟨w.heap.size + 1 + 1 + 1, 1, none⟩ = false := by simp [go_sem, fr1]
        replace u0 : ((Z12.setCell ⟨Z2.heap.size, 0, none⟩ (.int .i64 L)).setCell ⟨Z2.heap.size, 1, none⟩ (.int .i64 H)).cell? ⟨qa, 0, none⟩ = some (.int .i64 (a : Int)) := ((World.cell?_setCell_other _ _ _ _ (by intro e; injection e with e1 e2; omega)).trans ((World.cell?_setCell_other _ _ _ _ (by intro e; injection e with e1 e2; omega)).trans u0))
        replace u1 : ((Z12.setCell ⟨Z2.heap.size, 0, none⟩ (.int .i64 L)).setCell ⟨Z2.heap.size, 1, none⟩ (.int .i64 H)).cell? ⟨qa, 1, none⟩ = some (.int .i64 (s : Int)) := ((World.cell?_setCell_other _ _ _ _ (by intro e; injection e with e1 e2; omega)).trans ((World.cell?_setCell_other _ _ _ _ (by intro e; injection e with e1 e2; omega)).trans u1))
        replace u2 : ((Z12.setCell ⟨Z2.heap.size, 0, none⟩ (.int .i64 L)).setCell ⟨Z2.heap.size, 1, none⟩ (.int .i64 H)).cell? ⟨qa + 3, 0, none⟩ = some (.int .i64 (m : Int)) := ((World.cell?_setCell_other _ _ _ _ (by intro e; injection e with e1 e2; omega)).trans ((World.cell?_setCell_other _ _ _ _ (by intro e; injection e with e1 e2; omega)).trans u2))
        replace u3 : ((Z12.setCell ⟨Z2.heap.size, 0, none⟩ (.int .i64 L)).setCell ⟨Z2.heap.size, 1, none⟩ (.int .i64 H)).cell? ⟨qa + 1, 0, none⟩ = some (.int .i64 (t : Int)) := ((World.cell?_setCell_other _ _ _ _ (by intro e; injection e with e1 e2; omega)).trans ((World.cell?_setCell_other _ _ _ _ (by intro e; injection e with e1 e2; omega)).trans u3))
        replace u4 : ((Z12.setCell ⟨Z2.heap.size, 0, none⟩ (.int .i64 L)).setCell ⟨Z2.heap.size, 1, none⟩ (.int .i64 H)).cell? ⟨qa + 2, 0, none⟩ = some (.int .i64 (lo : Int)) := ((World.cell?_setCell_other _ _ _ _ (by intro e; injection e with e1 e2; omega)).trans ((World.cell?_setCell_other _ _ _ _ (by intro e; injection e with e1 e2; omega)).trans u4))
        replace Nf0 : ((Z12.setCell ⟨Z2.heap.size, 0, none⟩ (.int .i64 L)).setCell ⟨Z2.heap.size, 1, none⟩ (.int .i64 H)).frozen? ⟨Z2.heap.size, 0, none⟩ = false := by simp [go_sem, Nf0]
        replace Nf1 : ((Z12.setCell ⟨Z2.heap.size, 0, none⟩ (.int .i64 L)).setCell ⟨Z2.heap.size, 1, none⟩ (.int .i64 H)).frozen? ⟨Z2.heap.size, 1, none⟩ = false := by simp [go_sem, Nf1]
        replace N0 : ((Z12.setCell ⟨Z2.heap.size, 0, none⟩ (.int .i64 L)).setCell ⟨Z2.heap.size, 1, none⟩ (.int .i64 H)).cell? ⟨Z2.heap.size, 0, none⟩ = some (.int .i64 L) := by simp [go_sem, N0]
        replace N1 : ((Z12.setCell ⟨Z2.heap.size, 0, none⟩ (.int .i64 L)).setCell ⟨Z2.heap.size, 1, none⟩ (.int .i64 H)).cell? ⟨Z2.heap.size, 1, none⟩ = some (.int .i64 H) := by simp [go_sem, N1]
        replace v0 : ((Z12.setCell ⟨Z2.heap.size, 0, none⟩ (.int .i64 L)).setCell ⟨Z2.heap.size, 1, none⟩ (.int .i64 H)).cell? ⟨qc, 0, none⟩ = some (.int .i64 (a : Int)) := ((World.cell?_setCell_other _ _ _ _ (by intro e; injection e with e1 e2; omega)).trans ((World.cell?_setCell_other _ _ _ _ (by intro e; injection e with e1 e2; omega)).trans v0))
        replace v1 : ((Z12.setCell ⟨Z2.heap.size, 0, none⟩ (.int .i64 L)).setCell ⟨Z2.heap.size, 1, none⟩ (.int .i64 H)).cell? ⟨qc, 1, none⟩ = some (.int .i64 (s : Int)) := ((World.cell?_setCell_other _ _ _ _ (by intro e; injection e with e1 e2; omega)).trans ((World.cell?_setCell_other _ _ _ _ (by intro e; injection e with e1 e2; omega)).trans v1))
        replace v2 : ((Z12.setCell ⟨Z2.heap.size, 0, none⟩ (.int .i64 L)).setCell ⟨Z2.heap.size, 1, none⟩ (.int .i64 H)).cell? ⟨qc + 3, 0, none⟩ = some (.int .i64 (m : Int)) := ((World.cell?_setCell_other _ _ _ _ (by intro e; injection e with e1 e2; omega)).trans ((World.cell?_setCell_other _ _ _ _ (by intro e; injection e with e1 e2; omega)).trans v2))
        replace v3 : ((Z12.setCell ⟨Z2.heap.size, 0, none⟩ (.int .i64 L)).setCell ⟨Z2.heap.size, 1, none⟩ (.int .i64 H)).cell? ⟨qc + 1, 0, none⟩ = some (.int .i64 (t : Int)) := ((World.cell?_setCell_other _ _ _ _ (by intro e; injection e with e1 e2; omega)).trans ((World.cell?_setCell_other _ _ _ _ (by intro e; injection e with e1 e2; omega)).trans v3))
        replace v4 : ((Z12.setCell ⟨Z2.heap.size, 0, none⟩ (.int .i64 L)).setCell ⟨Z2.heap.size, 1, none⟩ (.int .i64 H)).cell? ⟨qc + 2, 0, none⟩ = some (.int .i64 (hi : Int)) := ((World.cell?_setCell_other _ _ _ _ (by intro e; injection e with e1 e2; omega)).trans ((World.cell?_setCell_other _ _ _ _ (by intro e; injection e with e1 e2; omega)).trans v4))
        replace ns : w.heap.size < ((Z12.setCell ⟨Z2.heap.size, 0, none⟩ (.int .i64 L)).setCell ⟨Z2.heap.size, 1, none⟩ (.int .i64 H)).heap.size := by simpa [World.setCell] using ns
        replace nM : w.heap.size + 1 < ((Z12.setCell ⟨Z2.heap.size, 0, none⟩ (.int .i64 L)).setCell ⟨Z2.heap.size, 1, none⟩ (.int .i64 H)).heap.size := by simpa [World.setCell] using nM
        replace nb : w.heap.size + 1 + 1 < ((Z12.setCell ⟨Z2.heap.size, 0, none⟩ (.int .i64 L)).setCell ⟨Z2.heap.size, 1, none⟩ (.int .i64 H)).heap.size := by simpa [World.setCell] using nb
        replace nr : w.heap.size + 1 + 1 + 1 < ((Z12.setCell ⟨Z2.heap.size, 0, none⟩ (.int .i64 L)).setCell ⟨Z2.heap.size, 1, none⟩ (.int .i64 H)).heap.size := by simpa [World.setCell] using nr
        replace nua : qa < ((Z12.setCell ⟨Z2.heap.size, 0, none⟩ (.int .i64 L)).setCell ⟨Z2.heap.size, 1, none⟩ (.int .i64 H)).heap.size := by simpa [World.setCell] using nua
        replace nud : qa + 3 < ((Z12.setCell ⟨Z2.heap.size, 0, none⟩ (.int .i64 L)).setCell ⟨Z2.heap.size, 1, none⟩ (.int .i64 H)).heap.size := by simpa [World.setCell] using nud
        replace nub : qa + 1 < ((Z12.setCell ⟨Z2.heap.size, 0, none⟩ (.int .i64 L)).setCell ⟨Z2.heap.size, 1, none⟩ (.int .i64 H)).heap.size := by simpa [World.setCell] using nub
        replace nuc : qa + 2 < ((Z12.setCell ⟨Z2.heap.size, 0, none⟩ (.int .i64 L)).setCell ⟨Z2.heap.size, 1, none⟩ (.int .i64 H)).heap.size := by simpa [World.setCell] using nuc
        replace nN : Z2.heap.size < ((Z12.setCell ⟨Z2.heap.size, 0, none⟩ (.int .i64 L)).setCell ⟨Z2.heap.size, 1, none⟩ (.int .i64 H)).heap.size := by simpa [World.setCell] using nN
        replace nva : qc < ((Z12.setCell ⟨Z2.heap.size, 0, none⟩ (.int .i64 L)).setCell ⟨Z2.heap.size, 1, none⟩ (.int .i64 H)).heap.size := by simpa [World.setCell] using nva
        replace nvd : qc + 3 < ((Z12.setCell ⟨Z2.heap.size, 0, none⟩ (.int .i64 L)).setCell ⟨Z2.heap.size, 1, none⟩ (.int .i64 H)).heap.size := by simpa [World.setCell] using nvd
        replace nvb : qc + 1 < ((Z12.setCell ⟨Z2.heap.size, 0, none⟩ (.int .i64 L)).setCell ⟨Z2.heap.size, 1, none⟩ (.int .i64 H)).heap.size := by simpa [World.setCell] using nvb
        replace nvc : qc + 2 < ((Z12.setCell ⟨Z2.heap.size, 0, none⟩ (.int .i64 L)).setCell ⟨Z2.heap.size, 1, none⟩ (.int .i64 H)).heap.size := by simpa [World.setCell] using nvc
        replace hL := hL.setCell (p := ⟨Z2.heap.size, 0, none⟩) (by show W5.heap.size ≤ Z2.heap.size; omega) (.int .i64 L)
        replace hL := hL.setCell (p := ⟨Z2.heap.size, 1, none⟩) (by show W5.heap.size ≤ Z2.heap.size; omega) (.int .i64 H)
        refine hK.out _ _ ⟨s0, s1, M0, M1, M2, trivial⟩ (fun hHeld => ?_)
        clear hK K
        try simp only [Act.put, List.setIfInBounds_toArray, List.set_cons_zero, List.set_cons_succ]
        refine wpAnyH_done (by kernel_rfl) ?_ _
        replace hB := hB.trans (hL.mono hB.size)
        clear hHeld hL s0 s1 M0 M1 M2 b0 CL CH CB
        generalize hN : Z2.heap.size = kN at *
        clear hN
        go_wp2_with fail
        all_goals first
          | (refine bodyPost_ret (v := zP L H 0) (by simp [zP, results, Try.results15, go_sem, *]; done) rfl ⟨by rw [← HV.out, if_neg (by omega)], ?_⟩
             exact (hB.setCell (p := ⟨w.heap.size + 1 + 1 + 1, 0, none⟩) (by simp <;> omega) _).setCell (p := ⟨w.heap.size + 1 + 1 + 1, 1, none⟩) (by simp <;> omega) _)
          | (refine bodyPost_ret (v := zP 0 0 7) (by simp [zP, results, Try.results15, go_sem, *]; done) rfl ⟨by rw [← HV.out, if_pos (by omega)], ?_⟩
             exact (hB.setCell (p := ⟨w.heap.size + 1 + 1 + 1, 0, none⟩) (by simp <;> omega) _).setCell (p := ⟨w.heap.size + 1 + 1 + 1, 1, none⟩) (by simp <;> omega) _)
    · go_simp
      have hb := (Below.refl Z1.heap.size Z1).alloc (Nat.le_refl _) (Obj.cells #[.int .i64 0, .int .i64 0] 24)
      have szZ14 := hL.size
      have ord14ns := ns
      have ord14nM := nM
      have ord14nb := nb
      have ord14nr := nr
      have ord14nua := nua
      have ord14nud := nud
      have ord14nub := nub
      have ord14nuc := nuc
      replace s0 := cell_next hb ns s0
      replace s1 := cell_next hb ns s1
      replace M0 := cell_next hb nM M0
      replace M1 := cell_next hb nM M1
      replace M2 := cell_next hb nM M2
      replace b0 := cell_next hb nb b0
      replace r0 := cell_next hb nr r0
      replace fr0 := frozen_next hb nr fr0
      replace r1 := cell_next hb nr r1
      replace fr1 := frozen_next hb nr fr1
      replace u0 := cell_next hb nua u0
      replace u1 := cell_next hb nua u1
      replace u2 := cell_next hb nud u2
      replace u3 := cell_next hb nub u3
      replace u4 := cell_next hb nuc u4
      replace ns := Nat.lt_of_lt_of_le ns hb.size
      replace nM := Nat.lt_of_lt_of_le nM hb.size
      replace nb := Nat.lt_of_lt_of_le nb hb.size
      replace nr := Nat.lt_of_lt_of_le nr hb.size
      replace nua := Nat.lt_of_lt_of_le nua hb.size
      replace nud := Nat.lt_of_lt_of_le nud hb.size
      replace nub := Nat.lt_of_lt_of_le nub hb.size
      replace nuc := Nat.lt_of_lt_of_le nuc hb.size
      replace hL := hL.trans (hb.mono (Nat.le_trans hBW hL.size))
      have Nf0 : (Z1.alloc (Obj.cells #[.int .i64 0, .int .i64 0] 24)).frozen? ⟨Z1.heap.size, 0, none⟩ = false := by simp [go_sem]
      have Nf1 : (Z1.alloc (Obj.cells #[.int .i64 0, .int .i64 0] 24)).frozen? ⟨Z1.heap.size, 1, none⟩ = false := by simp [go_sem]
      have N0 : (Z1.alloc (Obj.cells #[.int .i64 0, .int .i64 0] 24)).cell? ⟨Z1.heap.size, 0, none⟩ = some (.int .i64 0) := cell_new _ _ _ 0
      have N1 : (Z1.alloc (Obj.cells #[.int .i64 0, .int .i64 0] 24)).cell? ⟨Z1.heap.size, 1, none⟩ = some (.int .i64 0) := cell_new _ _ _ 1
      have nN : Z1.heap.size < (Z1.alloc (Obj.cells #[.int .i64 0, .int .i64 0] 24)).heap.size := by simp
      refine hK.out _ _ ⟨s0, s1, M0, M1, M2, trivial⟩ (fun hHeld => ?_)
      clear hK K hb
      generalize Z1.alloc (Obj.cells #[.int .i64 0, .int .i64 0] 24) = Z14 at *
      try simp only [Act.put, List.setIfInBounds_toArray, List.set_cons_zero, List.set_cons_succ]
      refine wpAnyH_ready (rs := [9]) (by kernel_rfl) (by simp) ?_
      refine AllReadyH.cons rfl (fun K hK => ?_) AllReadyH.nil
      go_simp
      refine (CL.out qa (w.heap.size + 1 + 1) _ (by omega) (by omega) u0 u1 u2 u3 u4 b0).mono ?_
      rintro e Z15 ⟨rfl, hb⟩
      replace s0 := cell_next hb ns s0
      replace s1 := cell_next hb ns s1
      replace M0 := cell_next hb nM M0
      replace M1 := cell_next hb nM M1
      replace M2 := cell_next hb nM M2
      replace b0 := cell_next hb nb b0
      replace r0 := cell_next hb nr r0
      replace fr0 := frozen_next hb nr fr0
      replace r1 := cell_next hb nr r1
      replace fr1 := frozen_next hb nr fr1
      replace u0 := cell_next hb nua u0
      replace u1 := cell_next hb nua u1
      replace u2 := cell_next hb nud u2
      replace u3 := cell_next hb nub u3
      replace u4 := cell_next hb nuc u4
      replace Nf0 := frozen_next hb nN Nf0
      replace Nf1 := frozen_next hb nN Nf1
      replace N0 := cell_next hb nN N0
      replace N1 := cell_next hb nN N1
      replace ns := Nat.lt_of_lt_of_le ns hb.size
      replace nM := Nat.lt_of_lt_of_le nM hb.size
      replace nb := Nat.lt_of_lt_of_le nb hb.size
      replace nr := Nat.lt_of_lt_of_le nr hb.size
      replace nua := Nat.lt_of_lt_of_le nua hb.size
      replace nud := Nat.lt_of_lt_of_le nud hb.size
      replace nub := Nat.lt_of_lt_of_le nub hb.size
      replace nuc := Nat.lt_of_lt_of_le nuc hb.size
      replace nN := Nat.lt_of_lt_of_le nN hb.size
      replace hL := hL.trans (hb.mono (Nat.le_trans hBW hL.size))
      refine hK.out _ _ ⟨s0, s1, M0, M1, M2, trivial⟩ (fun hHeld => ?_)
      clear hK K hb
      try simp only [Act.put, List.setIfInBounds_toArray, List.set_cons_zero, List.set_cons_succ]
      refine wpAnyH_ready (rs := [17]) (by kernel_rfl) (by simp) ?_
      refine AllReadyH.cons rfl (fun K hK => ?_) AllReadyH.nil
      go_simp
      refine (CB.out (hi : Int) _).mono ?_
      rintro e Z16 ⟨rfl, ⟨v0, v1, v2, v3, v4⟩, hz4, hb⟩
      have oqcns := ns
      have oqcnM := nM
      have oqcnb := nb
      have oqcnr := nr
      have oqcnua := nua
      have oqcnud := nud
      have oqcnub := nub
      have oqcnuc := nuc
      have oqcnN := nN
      have oqcL := hL.size
      replace s0 := cell_next hb ns s0
      replace s1 := cell_next hb ns s1
      replace M0 := cell_next hb nM M0
      replace M1 := cell_next hb nM M1
      replace M2 := cell_next hb nM M2
      replace b0 := cell_next hb nb b0
      replace r0 := cell_next hb nr r0
      replace fr0 := frozen_next hb nr fr0
      replace r1 := cell_next hb nr r1
      replace fr1 := frozen_next hb nr fr1
      replace u0 := cell_next hb nua u0
      replace u1 := cell_next hb nua u1
      replace u2 := cell_next hb nud u2
      replace u3 := cell_next hb nub u3
      replace u4 := cell_next hb nuc u4
      replace Nf0 := frozen_next hb nN Nf0
      replace Nf1 := frozen_next hb nN Nf1
      replace N0 := cell_next hb nN N0
      replace N1 := cell_next hb nN N1
      replace ns := Nat.lt_of_lt_of_le ns hb.size
      replace nM := Nat.lt_of_lt_of_le nM hb.size
      replace nb := Nat.lt_of_lt_of_le nb hb.size
      replace nr := Nat.lt_of_lt_of_le nr hb.size
      replace nua := Nat.lt_of_lt_of_le nua hb.size
      replace nud := Nat.lt_of_lt_of_le nud hb.size
      replace nub := Nat.lt_of_lt_of_le nub hb.size
      replace nuc := Nat.lt_of_lt_of_le nuc hb.size
      replace nN := Nat.lt_of_lt_of_le nN hb.size
      replace hL := hL.trans (hb.mono (Nat.le_trans hBW hL.size))
      have nva : Z15.heap.size < Z16.heap.size := by omega
      have nvb : Z15.heap.size + 1 < Z16.heap.size := by omega
      have nvc : Z15.heap.size + 2 < Z16.heap.size := by omega
      have nvd : Z15.heap.size + 3 < Z16.heap.size := by omega
      clear hz4
      generalize Z15.heap.size = qc at *
      refine hK.out _ _ ⟨s0, s1, M0, M1, M2, trivial⟩ (fun hHeld => ?_)
      clear hK K hb
      try simp only [Act.put, List.setIfInBounds_toArray, List.set_cons_zero, List.set_cons_succ]
      refine wpAnyH_ready (rs := [19]) (by kernel_rfl) (by simp) ?_
      refine AllReadyH.cons rfl (fun K hK => ?_) AllReadyH.nil
      go_simp
      refine (CH.out qc (w.heap.size + 1 + 1) _ (by omega) (by omega) v0 v1 v2 v3 v4 b0).mono ?_
      rintro e Z17 ⟨rfl, hb⟩
      replace s0 := cell_next hb ns s0
      replace s1 := cell_next hb ns s1
      replace M0 := cell_next hb nM M0
      replace M1 := cell_next hb nM M1
      replace M2 := cell_next hb nM M2
      replace b0 := cell_next hb nb b0
      replace r0 := cell_next hb nr r0
      replace fr0 := frozen_next hb nr fr0
      replace r1 := cell_next hb nr r1
      replace fr1 := frozen_next hb nr fr1
      replace u0 := cell_next hb nua u0
      replace u1 := cell_next hb nua u1
      replace u2 := cell_next hb nud u2
      replace u3 := cell_next hb nub u3
      replace u4 := cell_next hb nuc u4
      replace Nf0 := frozen_next hb nN Nf0
      replace Nf1 := frozen_next hb nN Nf1
      replace N0 := cell_next hb nN N0
      replace N1 := cell_next hb nN N1
      replace v0 := cell_next hb nva v0
      replace v1 := cell_next hb nva v1
      replace v2 := cell_next hb nvd v2
      replace v3 := cell_next hb nvb v3
      replace v4 := cell_next hb nvc v4
      replace ns := Nat.lt_of_lt_of_le ns hb.size
      replace nM := Nat.lt_of_lt_of_le nM hb.size
      replace nb := Nat.lt_of_lt_of_le nb hb.size
      replace nr := Nat.lt_of_lt_of_le nr hb.size
      replace nua := Nat.lt_of_lt_of_le nua hb.size
      replace nud := Nat.lt_of_lt_of_le nud hb.size
      replace nub := Nat.lt_of_lt_of_le nub hb.size
      replace nuc := Nat.lt_of_lt_of_le nuc hb.size
      replace nN := Nat.lt_of_lt_of_le nN hb.size
      replace nva := Nat.lt_of_lt_of_le nva hb.size
      replace nvd := Nat.lt_of_lt_of_le nvd hb.size
      replace nvb := Nat.lt_of_lt_of_le nvb hb.size
      replace nvc := Nat.lt_of_lt_of_le nvc hb.size
      replace hL := hL.trans (hb.mono (Nat.le_trans hBW hL.size))
      refine hK.out _ _ ⟨s0, s1, M0, M1, M2, trivial⟩ (fun hHeld => ?_)
      clear hK K hb
      try simp only [Act.put, List.setIfInBounds_toArray, List.set_cons_zero, List.set_cons_succ]
      refine take_slot (i := 20) (d := 61) (v := ?_) rfl rfl (by kernel_rfl) (by kernel_rfl) (by kernel_rfl) (fun _ _ _ h => h) (Or.inl ⟨by rfl, ?_⟩) (by assumption) ?_
      rotate_left 1
      focus (intro wS hSw; (try dsimp only at hSw); go_simp; try with_reducible rfl)
      try simp only [List.setIfInBounds_toArray, List.set_cons_zero, List.set_cons_succ]
      refine wpAnyH_ready (rs := [22]) (by kernel_rfl) (by simp) ?_
      refine AllReadyH.cons rfl (fun K hK => ?_) AllReadyH.nil
      go_simp
      replace s0 : ((Z17.setCell ⟨Z1.heap.size, 0, none⟩ (.int .i64 L)).setCell ⟨Z1.heap.size, 1, none⟩ (.int .i64 H)).cell? ⟨w.heap.size, 0, none⟩ = some (.int .i64 (a : Int)) := ((World.cell?_setCell_other _ _ _ _ (by intro e; injection e with e1 e2; omega)).trans ((World.cell?_setCell_other _ _ _ _ (by intro e; injection e with e1 e2; omega)).trans s0))
      replace s1 : ((Z17.setCell ⟨Z1.heap.size, 0, none⟩ (.int .i64 L)).setCell ⟨Z1.heap.size, 1, none⟩ (.int .i64 H)).cell? ⟨w.heap.size, 1, none⟩ = some (.int .i64 (s : Int)) := ((World.cell?_setCell_other _ _ _ _ (by intro e; injection e with e1 e2; omega)).trans ((World.cell?_setCell_other _ _ _ _ (by intro e; injection e with e1 e2; omega)).trans s1))
      replace M0 : ((Z17.setCell ⟨Z1.heap.size, 0, none⟩ (.int .i64 L)).setCell ⟨Z1.heap.size, 1, none⟩ (.int .i64 H)).cell? ⟨w.heap.size + 1, 0, none⟩ = some (.int .i64 (t : Int)) := ((World.cell?_setCell_other _ _ _ _ (by intro e; injection e with e1 e2; omega)).trans ((World.cell?_setCell_other _ _ _ _ (by intro e; injection e with e1 e2; omega)).trans M0))
      replace M1 : ((Z17.setCell ⟨Z1.heap.size, 0, none⟩ (.int .i64 L)).setCell ⟨Z1.heap.size, 1, none⟩ (.int .i64 H)).cell? ⟨w.heap.size + 1, 1, none⟩ = some (.int .i64 (lo : Int)) := ((World.cell?_setCell_other _ _ _ _ (by intro e; injection e with e1 e2; omega)).trans ((World.cell?_setCell_other _ _ _ _ (by intro e; injection e with e1 e2; omega)).trans M1))
      replace M2 : ((Z17.setCell ⟨Z1.heap.size, 0, none⟩ (.int .i64 L)).setCell ⟨Z1.heap.size, 1, none⟩ (.int .i64 H)).cell? ⟨w.heap.size + 1, 2, none⟩ = some (.int .i64 (hi : Int)) := ((World.cell?_setCell_other _ _ _ _ (by intro e; injection e with e1 e2; omega)).trans ((World.cell?_setCell_other _ _ _ _ (by intro e; injection e with e1 e2; omega)).trans M2))
      replace b0 : ((Z17.setCell ⟨Z1.heap.size, 0, none⟩ (.int .i64 L)).setCell ⟨Z1.heap.size, 1, none⟩ (.int .i64 H)).cell? ⟨w.heap.size + 1 + 1, 0, none⟩ = some (.int .i64 (b : Int)) := ((World.cell?_setCell_other _ _ _ _ (by intro e; injection e with e1 e2; omega)).trans ((World.cell?_setCell_other _ _ _ _ (by intro e; injection e with e1 e2; omega)).trans b0))
      replace r0 : ((Z17.setCell ⟨Z1.heap.size, 0, none⟩ (.int .i64 L)).setCell ⟨Z1.heap.size, 1, none⟩ (.int .i64 H)).cell? ⟨w.heap.size + 1 + 1 + 1, 0, none⟩ = some (.int .i64 0) := ((World.cell?_setCell_other _ _ _ _ (by intro e; injection e with e1 e2; omega)).trans ((World.cell?_setCell_other _ _ _ _ (by intro e; injection e with e1 e2; omega)).trans r0))
      replace fr0 : ((Z17.setCell ⟨Z1.heap.size, 0, none⟩ (.int .i64 L)).setCell ⟨Z1.heap.size, 1, none⟩ (.int .i64 H)).frozen? ⟨w.heap.size + 1 + 1 + 1, 0, none⟩ = false := by simp [go_sem, fr0]
      replace r1 : ((Z17.setCell ⟨Z1.heap.size, 0, none⟩ (.int .i64 L)).setCell ⟨Z1.heap.size, 1, none⟩ (.int .i64 H)).cell? ⟨w.heap.size + 1 + 1 + 1, 1, none⟩ = some (.int .i64 0) := ((World.cell?_setCell_other _ _ _ _ (by intro e; injection e with e1 e2; omega)).trans ((World.cell?_setCell_other _ _ _ _ (by intro e; injection e with e1 e2; omega)).trans r1))
      replace fr1 : ((Z17.setCell ⟨Z1.heap.size, 0, none⟩ (.int .i64 L)).setCell ⟨Z1.heap.size, 1, none⟩ (.int .i64 H)).frozen? ⟨w.heap.size + 1 + 1 + 1, 1, none⟩ = false := by simp [go_sem, fr1]
      replace u0 : ((Z17.setCell ⟨Z1.heap.size, 0, none⟩ (.int .i64 L)).setCell ⟨Z1.heap.size, 1, none⟩ (.int .i64 H)).cell? ⟨qa, 0, none⟩ = some (.int .i64 (a : Int)) := ((World.cell?_setCell_other _ _ _ _ (by intro e; injection e with e1 e2; omega)).trans ((World.cell?_setCell_other _ _ _ _ (by intro e; injection e with e1 e2; omega)).trans u0))
      replace u1 : ((Z17.setCell ⟨Z1.heap.size, 0, none⟩ (.int .i64 L)).setCell ⟨Z1.heap.size, 1, none⟩ (.int .i64 H)).cell? ⟨qa, 1, none⟩ = some (.int .i64 (s : Int)) := ((World.cell?_setCell_other _ _ _ _ (by intro e; injection e with e1 e2; omega)).trans ((World.cell?_setCell_other _ _ _ _ (by intro e; injection e with e1 e2; omega)).trans u1))
      replace u2 : ((Z17.setCell ⟨Z1.heap.size, 0, none⟩ (.int .i64 L)).setCell ⟨Z1.heap.size, 1, none⟩ (.int .i64 H)).cell? ⟨qa + 3, 0, none⟩ = some (.int .i64 (m : Int)) := ((World.cell?_setCell_other _ _ _ _ (by intro e; injection e with e1 e2; omega)).trans ((World.cell?_setCell_other _ _ _ _ (by intro e; injection e with e1 e2; omega)).trans u2))
      replace u3 : ((Z17.setCell ⟨Z1.heap.size, 0, none⟩ (.int .i64 L)).setCell ⟨Z1.heap.size, 1, none⟩ (.int .i64 H)).cell? ⟨qa + 1, 0, none⟩ = some (.int .i64 (t : Int)) := ((World.cell?_setCell_other _ _ _ _ (by intro e; injection e with e1 e2; omega)).trans ((World.cell?_setCell_other _ _ _ _ (by intro e; injection e with e1 e2; omega)).trans u3))
      replace u4 : ((Z17.setCell ⟨Z1.heap.size, 0, none⟩ (.int .i64 L)).setCell ⟨Z1.heap.size, 1, none⟩ (.int .i64 H)).cell? ⟨qa + 2, 0, none⟩ = some (.int .i64 (lo : Int)) := ((World.cell?_setCell_other _ _ _ _ (by intro e; injection e with e1 e2; omega)).trans ((World.cell?_setCell_other _ _ _ _ (by intro e; injection e with e1 e2; omega)).trans u4))
      replace Nf0 : ((Z17.setCell ⟨Z1.heap.size, 0, none⟩ (.int .i64 L)).setCell ⟨Z1.heap.size, 1, none⟩ (.int .i64 H)).frozen? ⟨Z1.heap.size, 0, none⟩ = false := by simp [go_sem, Nf0]
      replace Nf1 : ((Z17.setCell ⟨Z1.heap.size, 0, none⟩ (.int .i64 L)).setCell ⟨Z1.heap.size, 1, none⟩ (.int .i64 H)).frozen? ⟨Z1.heap.size, 1, none⟩ = false := by simp [go_sem, Nf1]
      replace N0 : ((Z17.setCell ⟨Z1.heap.size, 0, none⟩ (.int .i64 L)).setCell ⟨Z1.heap.size, 1, none⟩ (.int .i64 H)).cell? ⟨Z1.heap.size, 0, none⟩ = some (.int .i64 L) := by simp [go_sem, N0]
      replace N1 : ((Z17.setCell ⟨Z1.heap.size, 0, none⟩ (.int .i64 L)).setCell ⟨Z1.heap.size, 1, none⟩ (.int .i64 H)).cell? ⟨Z1.heap.size, 1, none⟩ = some (.int .i64 H) := by simp [go_sem, N1]
      replace v0 : ((Z17.setCell ⟨Z1.heap.size, 0, none⟩ (.int .i64 L)).setCell ⟨Z1.heap.size, 1, none⟩ (.int .i64 H)).cell? ⟨qc, 0, none⟩ = some (.int .i64 (a : Int)) := ((World.cell?_setCell_other _ _ _ _ (by intro e; injection e with e1 e2; omega)).trans ((World.cell?_setCell_other _ _ _ _ (by intro e; injection e with e1 e2; omega)).trans v0))
      replace v1 : ((Z17.setCell ⟨Z1.heap.size, 0, none⟩ (.int .i64 L)).setCell ⟨Z1.heap.size, 1, none⟩ (.int .i64 H)).cell? ⟨qc, 1, none⟩ = some (.int .i64 (s : Int)) := ((World.cell?_setCell_other _ _ _ _ (by intro e; injection e with e1 e2; omega)).trans ((World.cell?_setCell_other _ _ _ _ (by intro e; injection e with e1 e2; omega)).trans v1))
      replace v2 : ((Z17.setCell ⟨Z1.heap.size, 0, none⟩ (.int .i64 L)).setCell ⟨Z1.heap.size, 1, none⟩ (.int .i64 H)).cell? ⟨qc + 3, 0, none⟩ = some (.int .i64 (m : Int)) := ((World.cell?_setCell_other _ _ _ _ (by intro e; injection e with e1 e2; omega)).trans ((World.cell?_setCell_other _ _ _ _ (by intro e; injection e with e1 e2; omega)).trans v2))
      replace v3 : ((Z17.setCell ⟨Z1.heap.size, 0, none⟩ (.int .i64 L)).setCell ⟨Z1.heap.size, 1, none⟩ (.int .i64 H)).cell? ⟨qc + 1, 0, none⟩ = some (.int .i64 (t : Int)) := ((World.cell?_setCell_other _ _ _ _ (by intro e; injection e with e1 e2; omega)).trans ((World.cell?_setCell_other _ _ _ _ (by intro e; injection e with e1 e2; omega)).trans v3))
      replace v4 : ((Z17.setCell ⟨Z1.heap.size, 0, none⟩ (.int .i64 L)).setCell ⟨Z1.heap.size, 1, none⟩ (.int .i64 H)).cell? ⟨qc + 2, 0, none⟩ = some (.int .i64 (hi : Int)) := ((World.cell?_setCell_other _ _ _ _ (by intro e; injection e with e1 e2; omega)).trans ((World.cell?_setCell_other _ _ _ _ (by intro e; injection e with e1 e2; omega)).trans v4))
      replace ns : w.heap.size < ((Z17.setCell ⟨Z1.heap.size, 0, none⟩ (.int .i64 L)).setCell ⟨Z1.heap.size, 1, none⟩ (.int .i64 H)).heap.size := by simpa [World.setCell] using ns
      replace nM : w.heap.size + 1 < ((Z17.setCell ⟨Z1.heap.size, 0, none⟩ (.int .i64 L)).setCell ⟨Z1.heap.size, 1, none⟩ (.int .i64 H)).heap.size := by simpa [World.setCell] using nM
      replace nb : w.heap.size + 1 + 1 < ((Z17.setCell ⟨Z1.heap.size, 0, none⟩ (.int .i64 L)).setCell ⟨Z1.heap.size, 1, none⟩ (.int .i64 H)).heap.size := by simpa [World.setCell] using nb
      replace nr : w.heap.size + 1 + 1 + 1 < ((Z17.setCell ⟨Z1.heap.size, 0, none⟩ (.int .i64 L)).setCell ⟨Z1.heap.size, 1, none⟩ (.int .i64 H)).heap.size := by simpa [World.setCell] using nr
      replace nua : qa < ((Z17.setCell ⟨Z1.heap.size, 0, none⟩ (.int .i64 L)).setCell ⟨Z1.heap.size, 1, none⟩ (.int .i64 H)).heap.size := by simpa [World.setCell] using nua
      replace nud : qa + 3 < ((Z17.setCell ⟨Z1.heap.size, 0, none⟩ (.int .i64 L)).setCell ⟨Z1.heap.size, 1, none⟩ (.int .i64 H)).heap.size := by simpa [World.setCell] using nud
      replace nub : qa + 1 < ((Z17.setCell ⟨Z1.heap.size, 0, none⟩ (.int .i64 L)).setCell ⟨Z1.heap.size, 1, none⟩ (.int .i64 H)).heap.size := by simpa [World.setCell] using nub
      replace nuc : qa + 2 < ((Z17.setCell ⟨Z1.heap.size, 0, none⟩ (.int .i64 L)).setCell ⟨Z1.heap.size, 1, none⟩ (.int .i64 H)).heap.size := by simpa [World.setCell] using nuc
      replace nN : Z1.heap.size < ((Z17.setCell ⟨Z1.heap.size, 0, none⟩ (.int .i64 L)).setCell ⟨Z1.heap.size, 1, none⟩ (.int .i64 H)).heap.size := by simpa [World.setCell] using nN
      replace nva : qc < ((Z17.setCell ⟨Z1.heap.size, 0, none⟩ (.int .i64 L)).setCell ⟨Z1.heap.size, 1, none⟩ (.int .i64 H)).heap.size := by simpa [World.setCell] using nva
      replace nvd : qc + 3 < ((Z17.setCell ⟨Z1.heap.size, 0, none⟩ (.int .i64 L)).setCell ⟨Z1.heap.size, 1, none⟩ (.int .i64 H)).heap.size := by simpa [World.setCell] using nvd
      replace nvb : qc + 1 < ((Z17.setCell ⟨Z1.heap.size, 0, none⟩ (.int .i64 L)).setCell ⟨Z1.heap.size, 1, none⟩ (.int .i64 H)).heap.size := by simpa [World.setCell] using nvb
      replace nvc : qc + 2 < ((Z17.setCell ⟨Z1.heap.size, 0, none⟩ (.int .i64 L)).setCell ⟨Z1.heap.size, 1, none⟩ (.int .i64 H)).heap.size := by simpa [World.setCell] using nvc
      replace hL := hL.setCell (p := ⟨Z1.heap.size, 0, none⟩) (by show W5.heap.size ≤ Z1.heap.size; omega) (.int .i64 L)
      replace hL := hL.setCell (p := ⟨Z1.heap.size, 1, none⟩) (by show W5.heap.size ≤ Z1.heap.size; omega) (.int .i64 H)
      refine hK.out _ _ ⟨s0, s1, M0, M1, M2, trivial⟩ (fun hHeld => ?_)
      clear hK K
      try simp only [Act.put, List.setIfInBounds_toArray, List.set_cons_zero, List.set_cons_succ]
      refine wpAnyH_done (by kernel_rfl) ?_ _
      replace hB := hB.trans (hL.mono hB.size)
      clear hHeld hL s0 s1 M0 M1 M2 b0 CL CH CB
      generalize hN : Z1.heap.size = kN at *
      clear hN
      go_wp2_with fail
      all_goals first
        | (refine bodyPost_ret (v := zP L H 0) (by simp [zP, results, Try.results15, go_sem, *]; done) rfl ⟨by rw [← HV.out, if_neg (by omega)], ?_⟩
           exact (hB.setCell (p := ⟨w.heap.size + 1 + 1 + 1, 0, none⟩) (by simp <;> omega) _).setCell (p := ⟨w.heap.size + 1 + 1 + 1, 1, none⟩) (by simp <;> omega) _)
        | (refine bodyPost_ret (v := zP 0 0 7) (by simp [zP, results, Try.results15, go_sem, *]; done) rfl ⟨by rw [← HV.out, if_pos (by omega)], ?_⟩
           exact (hB.setCell (p := ⟨w.heap.size + 1 + 1 + 1, 0, none⟩) (by simp <;> omega) _).setCell (p := ⟨w.heap.size + 1 + 1 + 1, 1, none⟩) (by simp <;> omega) _)
  · go_simp
    have hb := (Below.refl wd.heap.size wd).alloc (Nat.le_refl _) (Obj.cells #[.int .i64 0, .int .i64 0] 24)
    have szZ19 := hL.size
    have ord19ns := ns
    have ord19nM := nM
    have ord19nb := nb
    have ord19nr := nr
    replace s0 := cell_next hb ns s0
    replace s1 := cell_next hb ns s1
    replace M0 := cell_next hb nM M0
    replace M1 := cell_next hb nM M1
    replace M2 := cell_next hb nM M2
    replace b0 := cell_next hb nb b0
    replace r0 := cell_next hb nr r0
    replace fr0 := frozen_next hb nr fr0
    replace r1 := cell_next hb nr r1
    replace fr1 := frozen_next hb nr fr1
    replace ns := Nat.lt_of_lt_of_le ns hb.size
    replace nM := Nat.lt_of_lt_of_le nM hb.size
    replace nb := Nat.lt_of_lt_of_le nb hb.size
    replace nr := Nat.lt_of_lt_of_le nr hb.size
    replace hL := hL.trans (hb.mono (Nat.le_trans hBW hL.size))
    have Nf0 : (wd.alloc (Obj.cells #[.int .i64 0, .int .i64 0] 24)).frozen? ⟨wd.heap.size, 0, none⟩ = false := by simp [go_sem]
    have Nf1 : (wd.alloc (Obj.cells #[.int .i64 0, .int .i64 0] 24)).frozen? ⟨wd.heap.size, 1, none⟩ = false := by simp [go_sem]
    have N0 : (wd.alloc (Obj.cells #[.int .i64 0, .int .i64 0] 24)).cell? ⟨wd.heap.size, 0, none⟩ = some (.int .i64 0) := cell_new _ _ _ 0
    have N1 : (wd.alloc (Obj.cells #[.int .i64 0, .int .i64 0] 24)).cell? ⟨wd.heap.size, 1, none⟩ = some (.int .i64 0) := cell_new _ _ _ 1
    have nN : wd.heap.size < (wd.alloc (Obj.cells #[.int .i64 0, .int .i64 0] 24)).heap.size := by simp
    refine hK.out _ _ ⟨s0, s1, M0, M1, M2, trivial⟩ (fun hHeld => ?_)
    clear hK K hb
    generalize wd.alloc (Obj.cells #[.int .i64 0, .int .i64 0] 24) = Z19 at *
    try simp only [Act.put, List.setIfInBounds_toArray, List.set_cons_zero, List.set_cons_succ]
    refine wpAnyH_ready (rs := [7]) (by kernel_rfl) (by simp) ?_
    refine AllReadyH.cons rfl (fun K hK => ?_) AllReadyH.nil
    go_simp
    refine (CB.out (lo : Int) _).mono ?_
    rintro e Z20 ⟨rfl, ⟨u0, u1, u2, u3, u4⟩, hz4, hb⟩
    have oqans := ns
    have oqanM := nM
    have oqanb := nb
    have oqanr := nr
    have oqanN := nN
    have oqaL := hL.size
    replace s0 := cell_next hb ns s0
    replace s1 := cell_next hb ns s1
    replace M0 := cell_next hb nM M0
    replace M1 := cell_next hb nM M1
    replace M2 := cell_next hb nM M2
    replace b0 := cell_next hb nb b0
    replace r0 := cell_next hb nr r0
    replace fr0 := frozen_next hb nr fr0
    replace r1 := cell_next hb nr r1
    replace fr1 := frozen_next hb nr fr1
    replace Nf0 := frozen_next hb nN Nf0
    replace Nf1 := frozen_next hb nN Nf1
    replace N0 := cell_next hb nN N0
    replace N1 := cell_next hb nN N1
    replace ns := Nat.lt_of_lt_of_le ns hb.size
    replace nM := Nat.lt_of_lt_of_le nM hb.size
    replace nb := Nat.lt_of_lt_of_le nb hb.size
    replace nr := Nat.lt_of_lt_of_le nr hb.size
    replace nN := Nat.lt_of_lt_of_le nN hb.size
    replace hL := hL.trans (hb.mono (Nat.le_trans hBW hL.size))
    have nua : Z19.heap.size < Z20.heap.size := by omega
    have nub : Z19.heap.size + 1 < Z20.heap.size := by omega
    have nuc : Z19.heap.size + 2 < Z20.heap.size := by omega
    have nud : Z19.heap.size + 3 < Z20.heap.size := by omega
    clear hz4
    generalize Z19.heap.size = qa at *
    refine hK.out _ _ ⟨s0, s1, M0, M1, M2, trivial⟩ (fun hHeld => ?_)
    clear hK K hb
    try simp only [Act.put, List.setIfInBounds_toArray, List.set_cons_zero, List.set_cons_succ]
    refine wpAnyH_ready (rs := [9]) (by kernel_rfl) (by simp) ?_
    refine AllReadyH.cons rfl (fun K hK => ?_) AllReadyH.nil
    go_simp
    refine (CL.out qa (w.heap.size + 1 + 1) _ (by omega) (by omega) u0 u1 u2 u3 u4 b0).mono ?_
    rintro e Z21 ⟨rfl, hb⟩
    replace s0 := cell_next hb ns s0
    replace s1 := cell_next hb ns s1
    replace M0 := cell_next hb nM M0
    replace M1 := cell_next hb nM M1
    replace M2 := cell_next hb nM M2
    replace b0 := cell_next hb nb b0
    replace r0 := cell_next hb nr r0
    replace fr0 := frozen_next hb nr fr0
    replace r1 := cell_next hb nr r1
    replace fr1 := frozen_next hb nr fr1
    replace Nf0 := frozen_next hb nN Nf0
    replace Nf1 := frozen_next hb nN Nf1
    replace N0 := cell_next hb nN N0
    replace N1 := cell_next hb nN N1
    replace u0 := cell_next hb nua u0
    replace u1 := cell_next hb nua u1
    replace u2 := cell_next hb nud u2
    replace u3 := cell_next hb nub u3
    replace u4 := cell_next hb nuc u4
    replace ns := Nat.lt_of_lt_of_le ns hb.size
    replace nM := Nat.lt_of_lt_of_le nM hb.size
    replace nb := Nat.lt_of_lt_of_le nb hb.size
    replace nr := Nat.lt_of_lt_of_le nr hb.size
    replace nN := Nat.lt_of_lt_of_le nN hb.size
    replace nua := Nat.lt_of_lt_of_le nua hb.size
    replace nud := Nat.lt_of_lt_of_le nud hb.size
    replace nub := Nat.lt_of_lt_of_le nub hb.size
    replace nuc := Nat.lt_of_lt_of_le nuc hb.size
    replace hL := hL.trans (hb.mono (Nat.le_trans hBW hL.size))
    refine hK.out _ _ ⟨s0, s1, M0, M1, M2, trivial⟩ (fun hHeld => ?_)
    clear hK K hb
    try simp only [Act.put, List.setIfInBounds_toArray, List.set_cons_zero, List.set_cons_succ]
    refine wpAnyH_ready (rs := [17]) (by kernel_rfl) (by simp) ?_
    refine AllReadyH.cons rfl (fun K hK => ?_) AllReadyH.nil
    go_simp
    refine (CB.out (hi : Int) _).mono ?_
    rintro e Z22 ⟨rfl, ⟨v0, v1, v2, v3, v4⟩, hz4, hb⟩
    have oqcns := ns
    have oqcnM := nM
    have oqcnb := nb
    have oqcnr := nr
    have oqcnN := nN
    have oqcnua := nua
    have oqcnud := nud
    have oqcnub := nub
    have oqcnuc := nuc
    have oqcL := hL.size
    replace s0 := cell_next hb ns s0
    replace s1 := cell_next hb ns s1
    replace M0 := cell_next hb nM M0
    replace M1 := cell_next hb nM M1
    replace M2 := cell_next hb nM M2
    replace b0 := cell_next hb nb b0
    replace r0 := cell_next hb nr r0
    replace fr0 := frozen_next hb nr fr0
    replace r1 := cell_next hb nr r1
    replace fr1 := frozen_next hb nr fr1
    replace Nf0 := frozen_next hb nN Nf0
    replace Nf1 := frozen_next hb nN Nf1
    replace N0 := cell_next hb nN N0
    replace N1 := cell_next hb nN N1
    replace u0 := cell_next hb nua u0
    replace u1 := cell_next hb nua u1
    replace u2 := cell_next hb nud u2
    replace u3 := cell_next hb nub u3
    replace u4 := cell_next hb nuc u4
    replace ns := Nat.lt_of_lt_of_le ns hb.size
    replace nM := Nat.lt_of_lt_of_le nM hb.size
    replace nb := Nat.lt_of_lt_of_le nb hb.size
    replace nr := Nat.lt_of_lt_of_le nr hb.size
    replace nN := Nat.lt_of_lt_of_le nN hb.size
    replace nua := Nat.lt_of_lt_of_le nua hb.size
    replace nud := Nat.lt_of_lt_of_le nud hb.size
    replace nub := Nat.lt_of_lt_of_le nub hb.size
    replace nuc := Nat.lt_of_lt_of_le nuc hb.size
    replace hL := hL.trans (hb.mono (Nat.le_trans hBW hL.size))
    have nva : Z21.heap.size < Z22.heap.size := by omega
    have nvb : Z21.heap.size + 1 < Z22.heap.size := by omega
    have nvc : Z21.heap.size + 2 < Z22.heap.size := by omega
    have nvd : Z21.heap.size + 3 < Z22.heap.size := by omega
    clear hz4
    generalize Z21.heap.size = qc at *
    refine hK.out _ _ ⟨s0, s1, M0, M1, M2, trivial⟩ (fun hHeld => ?_)
    clear hK K hb
    try simp only [Act.put, List.setIfInBounds_toArray, List.set_cons_zero, List.set_cons_succ]
    refine wpAnyH_ready (rs := [19]) (by kernel_rfl) (by simp) ?_
    refine AllReadyH.cons rfl (fun K hK => ?_) AllReadyH.nil
    go_simp
    refine (CH.out qc (w.heap.size + 1 + 1) _ (by omega) (by omega) v0 v1 v2 v3 v4 b0).mono ?_
    rintro e Z23 ⟨rfl, hb⟩
    replace s0 := cell_next hb ns s0
    replace s1 := cell_next hb ns s1
    replace M0 := cell_next hb nM M0
    replace M1 := cell_next hb nM M1
    replace M2 := cell_next hb nM M2
    replace b0 := cell_next hb nb b0
    replace r0 := cell_next hb nr r0
    replace fr0 := frozen_next hb nr fr0
    replace r1 := cell_next hb nr r1
    replace fr1 := frozen_next hb nr fr1
    replace Nf0 := frozen_next hb nN Nf0
    replace Nf1 := frozen_next hb nN Nf1
    replace N0 := cell_next hb nN N0
    replace N1 := cell_next hb nN N1
    replace u0 := cell_next hb nua u0
    replace u1 := cell_next hb nua u1
    replace u2 := cell_next hb nud u2
    replace u3 := cell_next hb nub u3
    replace u4 := cell_next hb nuc u4
    replace v0 := cell_next hb nva v0
    replace v1 := cell_next hb nva v1
    replace v2 := cell_next hb nvd v2
    replace v3 := cell_next hb nvb v3
    replace v4 := cell_next hb nvc v4
    replace ns := Nat.lt_of_lt_of_le ns hb.size
    replace nM := Nat.lt_of_lt_of_le nM hb.size
    replace nb := Nat.lt_of_lt_of_le nb hb.size
    replace nr := Nat.lt_of_lt_of_le nr hb.size
    replace nN := Nat.lt_of_lt_of_le nN hb.size
    replace nua := Nat.lt_of_lt_of_le nua hb.size
    replace nud := Nat.lt_of_lt_of_le nud hb.size
    replace nub := Nat.lt_of_lt_of_le nub hb.size
    replace nuc := Nat.lt_of_lt_of_le nuc hb.size
    replace nva := Nat.lt_of_lt_of_le nva hb.size
    replace nvd := Nat.lt_of_lt_of_le nvd hb.size
    replace nvb := Nat.lt_of_lt_of_le nvb hb.size
    replace nvc := Nat.lt_of_lt_of_le nvc hb.size
    replace hL := hL.trans (hb.mono (Nat.le_trans hBW hL.size))
    refine hK.out _ _ ⟨s0, s1, M0, M1, M2, trivial⟩ (fun hHeld => ?_)
    clear hK K hb
    try simp only [Act.put, List.setIfInBounds_toArray, List.set_cons_zero, List.set_cons_succ]
    refine take_slot (i := 20) (d := 61) (v := ?_) rfl rfl (by kernel_rfl) (by kernel_rfl) (by kernel_rfl) (fun _ _ _ h => h) (Or.inl ⟨by rfl, ?_⟩) (by assumption) ?_
    rotate_left 1
    focus (intro wS hSw; (try dsimp only at hSw); go_simp; try with_reducible rfl)
    try simp only [List.setIfInBounds_toArray, List.set_cons_zero, List.set_cons_succ]
    refine wpAnyH_ready (rs := [22]) (by kernel_rfl) (by simp) ?_
    refine AllReadyH.cons rfl (fun K hK => ?_) AllReadyH.nil
    go_simp
    replace s0 : ((Z23.setCell ⟨wd.heap.size, 0, none⟩ (.int .i64 L)).setCell ⟨wd.heap.size, 1, none⟩ (.int .i64 H)).cell? ⟨w.heap.size, 0, none⟩ = some (.int .i64 (a : Int)) := ((World.cell?_setCell_other _ _ _ _ (by intro e; injection e with e1 e2; omega)).trans ((World.cell?_setCell_other _ _ _ _ (by intro e; injection e with e1 e2; omega)).trans s0))
    replace s1 : ((Z23.setCell ⟨wd.heap.size, 0, none⟩ (.int .i64 L)).setCell ⟨wd.heap.size, 1, none⟩ (.int .i64 H)).cell? ⟨w.heap.size, 1, none⟩ = some (.int .i64 (s : Int)) := ((World.cell?_setCell_other _ _ _ _ (by intro e; injection e with e1 e2; omega)).trans ((World.cell?_setCell_other _ _ _ _ (by intro e; injection e with e1 e2; omega)).trans s1))
    replace M0 : ((Z23.setCell ⟨wd.heap.size, 0, none⟩ (.int .i64 L)).setCell ⟨wd.heap.size, 1, none⟩ (.int .i64 H)).cell? ⟨w.heap.size + 1, 0, none⟩ = some (.int .i64 (t : Int)) := ((World.cell?_setCell_other _ _ _ _ (by intro e; injection e with e1 e2; omega)).trans ((World.cell?_setCell_other _ _ _ _ (by intro e; injection e with e1 e2; omega)).trans M0))
    replace M1 : ((Z23.setCell ⟨wd.heap.size, 0, none⟩ (.int .i64 L)).setCell ⟨wd.heap.size, 1, none⟩ (.int .i64 H)).cell? ⟨w.heap.size + 1, 1, none⟩ = some (.int .i64 (lo : Int)) := ((World.cell?_setCell_other _ _ _ _ (by intro e; injection e with e1 e2; omega)).trans ((World.cell?_setCell_other _ _ _ _ (by intro e; injection e with e1 e2; omega)).trans M1))
    replace M2 : ((Z23.setCell ⟨wd.heap.size, 0, none⟩ (.int .i64 L)).setCell ⟨wd.heap.size, 1, none⟩ (.int .i64 H)).cell? ⟨w.heap.size + 1, 2, none⟩ = some (.int .i64 (hi : Int)) := ((World.cell?_setCell_other _ _ _ _ (by intro e; injection e with e1 e2; omega)).trans ((World.cell?_setCell_other _ _ _ _ (by intro e; injection e with e1 e2; omega)).trans M2))
    replace b0 : ((Z23.setCell ⟨wd.heap.size, 0, none⟩ (.int .i64 L)).setCell ⟨wd.heap.size, 1, none⟩ (.int .i64 H)).cell? ⟨w.heap.size + 1 + 1, 0, none⟩ = some (.int .i64 (b : Int)) := ((World.cell?_setCell_other _ _ _ _ (by intro e; injection e with e1 e2; omega)).trans ((World.cell?_setCell_other _ _ _ _ (by intro e; injection e with e1 e2; omega)).trans b0))
    replace r0 : ((Z23.setCell ⟨wd.heap.size, 0, none⟩ (.int .i64 L)).setCell ⟨wd.heap.size, 1, none⟩ (.int .i64 H)).cell? ⟨w.heap.size + 1 + 1 + 1, 0, none⟩ = some (.int .i64 0) := ((World.cell?_setCell_other _ _ _ _ (by intro e; injection e with e1 e2; omega)).trans ((World.cell?_setCell_other _ _ _ _ (by intro e; injection e with e1 e2; omega)).trans r0))
    replace fr0 : ((Z23.setCell ⟨wd.heap.size, 0, none⟩ (.int .i64 L)).setCell ⟨wd.heap.size, 1, none⟩ (.int .i64 H)).frozen? ⟨w.heap.size + 1 + 1 + 1, 0, none⟩ = false := by simp [go_sem, fr0]
    replace r1 : ((Z23.setCell ⟨wd.heap.size, 0, none⟩ (.int .i64 L)).setCell ⟨wd.heap.size, 1, none⟩ (.int .i64 H)).cell? ⟨w.heap.size + 1 + 1 + 1, 1, none⟩ = some (.int .i64 0) := ((World.cell?_setCell_other _ _ _ _ (by intro e; injection e with e1 e2; omega)).trans ((World.cell?_setCell_other _ _ _ _ (by intro e; injection e with e1 e2; omega)).trans r1))
    replace fr1 : ((Z23.setCell ⟨wd.heap.size, 0, none⟩ (.int .i64 L)).setCell ⟨wd.heap.size, 1, none⟩ (.int .i64 H)).frozen? ⟨w.heap.size + 1 + 1 + 1, 1, none⟩ = false := by simp [go_sem, fr1]
    replace Nf0 : ((Z23.setCell ⟨wd.heap.size, 0, none⟩ (.int .i64 L)).setCell ⟨wd.heap.size, 1, none⟩ (.int .i64 H)).frozen? ⟨wd.heap.size, 0, none⟩ = false := by simp [go_sem, Nf0]
    replace Nf1 : ((Z23.setCell ⟨wd.heap.size, 0, none⟩ (.int .i64 L)).setCell ⟨wd.heap.size, 1, none⟩ (.int .i64 H)).frozen? ⟨wd.heap.size, 1, none⟩ = false := by simp [go_sem, Nf1]
    replace N0 : ((Z23.setCell ⟨wd.heap.size, 0, none⟩ (.int .i64 L)).setCell ⟨wd.heap.size, 1, none⟩ (.int .i64 H)).cell? ⟨wd.heap.size, 0, none⟩ = some (.int .i64 L) := by simp [go_sem, N0]
    replace N1 : ((Z23.setCell ⟨wd.heap.size, 0, none⟩ (.int .i64 L)).setCell ⟨wd.heap.size, 1, none⟩ (.int .i64 H)).cell? ⟨wd.heap.size, 1, none⟩ = some (.int .i64 H) := by simp [go_sem, N1]
    replace u0 : ((Z23.setCell ⟨wd.heap.size, 0, none⟩ (.int .i64 L)).setCell ⟨wd.heap.size, 1, none⟩ (.int .i64 H)).cell? ⟨qa, 0, none⟩ = some (.int .i64 (a : Int)) := ((World.cell?_setCell_other _ _ _ _ (by intro e; injection e with e1 e2; omega)).trans ((World.cell?_setCell_other _ _ _ _ (by intro e; injection e with e1 e2; omega)).trans u0))
    replace u1 : ((Z23.setCell ⟨wd.heap.size, 0, none⟩ (.int .i64 L)).setCell ⟨wd.heap.size, 1, none⟩ (.int .i64 H)).cell? ⟨qa, 1, none⟩ = some (.int .i64 (s : Int)) := ((World.cell?_setCell_other _ _ _ _ (by intro e; injection e with e1 e2; omega)).trans ((World.cell?_setCell_other _ _ _ _ (by intro e; injection e with e1 e2; omega)).trans u1))
    replace u2 : ((Z23.setCell ⟨wd.heap.size, 0, none⟩ (.int .i64 L)).setCell ⟨wd.heap.size, 1, none⟩ (.int .i64 H)).cell? ⟨qa + 3, 0, none⟩ = some (.int .i64 (m : Int)) := ((World.cell?_setCell_other _ _ _ _ (by intro e; injection e with e1 e2; omega)).trans ((World.cell?_setCell_other _ _ _ _ (by intro e; injection e with e1 e2; omega)).trans u2))
    replace u3 : ((Z23.setCell ⟨wd.heap.size, 0, none⟩ (.int .i64 L)).setCell ⟨wd.heap.size, 1, none⟩ (.int .i64 H)).cell? ⟨qa + 1, 0, none⟩ = some (.int .i64 (t : Int)) := ((World.cell?_setCell_other _ _ _ _ (by intro e; injection e with e1 e2; omega)).trans ((World.cell?_setCell_other _ _ _ _ (by intro e; injection e with e1 e2; omega)).trans u3))
    replace u4 : ((Z23.setCell ⟨wd.heap.size, 0, none⟩ (.int .i64 L)).setCell ⟨wd.heap.size, 1, none⟩ (.int .i64 H)).cell? ⟨qa + 2, 0, none⟩ = some (.int .i64 (lo : Int)) := ((World.cell?_setCell_other _ _ _ _ (by intro e; injection e with e1 e2; omega)).trans ((World.cell?_setCell_other _ _ _ _ (by intro e; injection e with e1 e2; omega)).trans u4))
    replace v0 : ((Z23.setCell ⟨wd.heap.size, 0, none⟩ (.int .i64 L)).setCell ⟨wd.heap.size, 1, none⟩ (.int .i64 H)).cell? ⟨qc, 0, none⟩ = some (.int .i64 (a : Int)) := ((World.cell?_setCell_other _ _ _ _ (by intro e; injection e with e1 e2; omega)).trans ((World.cell?_setCell_other _ _ _ _ (by intro e; injection e with e1 e2; omega)).trans v0))
    replace v1 : ((Z23.setCell ⟨wd.heap.size, 0, none⟩ (.int .i64 L)).setCell ⟨wd.heap.size, 1, none⟩ (.int .i64 H)).cell? ⟨qc, 1, none⟩ = some (.int .i64 (s : Int)) := ((World.cell?_setCell_other _ _ _ _ (by intro e; injection e with e1 e2; omega)).trans ((World.cell?_setCell_other _ _ _ _ (by intro e; injection e with e1 e2; omega)).trans v1))
    replace v2 : ((Z23.setCell ⟨wd.heap.size, 0, none⟩ (.int .i64 L)).setCell ⟨wd.heap.size, 1, none⟩ (.int .i64 H)).cell? ⟨qc + 3, 0, none⟩ = some (.int .i64 (m : Int)) := ((World.cell?_setCell_other _ _ _ _ (by intro e; injection e with e1 e2; omega)).trans ((World.cell?_setCell_other _ _ _ _ (by intro e; injection e with e1 e2; omega)).trans v2))
    replace v3 : ((Z23.setCell ⟨wd.heap.size, 0, none⟩ (.int .i64 L)).setCell ⟨wd.heap.size, 1, none⟩ (.int .i64 H)).cell? ⟨qc + 1, 0, none⟩ = some (.int .i64 (t : Int)) := ((World.cell?_setCell_other _ _ _ _ (by intro e; injection e with e1 e2; omega)).trans ((World.cell?_setCell_other _ _ _ _ (by intro e; injection e with e1 e2; omega)).trans v3))
    replace v4 : ((Z23.setCell ⟨wd.heap.size, 0, none⟩ (.int .i64 L)).setCell ⟨wd.heap.size, 1, none⟩ (.int .i64 H)).cell? ⟨qc + 2, 0, none⟩ = some (.int .i64 (hi : Int)) := ((World.cell?_setCell_other _ _ _ _ (by intro e; injection e with e1 e2; omega)).trans ((World.cell?_setCell_other _ _ _ _ (by intro e; injection e with e1 e2; omega)).trans v4))
    replace ns : w.heap.size < ((Z23.setCell ⟨wd.heap.size, 0, none⟩ (.int .i64 L)).setCell ⟨wd.heap.size, 1, none⟩ (.int .i64 H)).heap.size := by simpa [World.setCell] using ns
    replace nM : w.heap.size + 1 < ((Z23.setCell ⟨wd.heap.size, 0, none⟩ (.int .i64 L)).setCell ⟨wd.heap.size, 1, none⟩ (.int .i64 H)).heap.size := by simpa [World.setCell] using nM
    replace nb : w.heap.size + 1 + 1 < ((Z23.setCell ⟨wd.heap.size, 0, none⟩ (.int .i64 L)).setCell ⟨wd.heap.size, 1, none⟩ (.int .i64 H)).heap.size := by simpa [World.setCell] using nb
    replace nr : w.heap.size + 1 + 1 + 1 < ((Z23.setCell ⟨wd.heap.size, 0, none⟩ (.int .i64 L)).setCell ⟨wd.heap.size, 1, none⟩ (.int .i64 H)).heap.size := by simpa [World.setCell] using nr
    replace nN : wd.heap.size < ((Z23.setCell ⟨wd.heap.size, 0, none⟩ (.int .i64 L)).setCell ⟨wd.heap.size, 1, none⟩ (.int .i64 H)).heap.size := by simpa [World.setCell] using nN
    replace nua : qa < ((Z23.setCell ⟨wd.heap.size, 0, none⟩ (.int .i64 L)).setCell ⟨wd.heap.size, 1, none⟩ (.int .i64 H)).heap.size := by simpa [World.setCell] using nua
    replace nud : qa + 3 < ((Z23.setCell ⟨wd.heap.size, 0, none⟩ (.int .i64 L)).setCell ⟨wd.heap.size, 1, none⟩ (.int .i64 H)).heap.size := by simpa [World.setCell] using nud
    replace nub : qa + 1 < ((Z23.setCell ⟨wd.heap.size, 0, none⟩ (.int .i64 L)).setCell ⟨wd.heap.size, 1, none⟩ (.int .i64 H)).heap.size := by simpa [World.setCell] using nub
    replace nuc : qa + 2 < ((Z23.setCell ⟨wd.heap.size, 0, none⟩ (.int .i64 L)).setCell ⟨wd.heap.size, 1, none⟩ (.int .i64 H)).heap.size := by simpa [World.setCell] using nuc
    replace nva : qc < ((Z23.setCell ⟨wd.heap.size, 0, none⟩ (.int .i64 L)).setCell ⟨wd.heap.size, 1, none⟩ (.int .i64 H)).heap.size := by simpa [World.setCell] using nva
    replace nvd : qc + 3 < ((Z23.setCell ⟨wd.heap.size, 0, none⟩ (.int .i64 L)).setCell ⟨wd.heap.size, 1, none⟩ (.int .i64 H)).heap.size := by simpa [World.setCell] using nvd
    replace nvb : qc + 1 < ((Z23.setCell ⟨wd.heap.size, 0, none⟩ (.int .i64 L)).setCell ⟨wd.heap.size, 1, none⟩ (.int .i64 H)).heap.size := by simpa [World.setCell] using nvb
    replace nvc : qc + 2 < ((Z23.setCell ⟨wd.heap.size, 0, none⟩ (.int .i64 L)).setCell ⟨wd.heap.size, 1, none⟩ (.int .i64 H)).heap.size := by simpa [World.setCell] using nvc
    replace hL := hL.setCell (p := ⟨wd.heap.size, 0, none⟩) (by show W5.heap.size ≤ wd.heap.size; omega) (.int .i64 L)
    replace hL := hL.setCell (p := ⟨wd.heap.size, 1, none⟩) (by show W5.heap.size ≤ wd.heap.size; omega) (.int .i64 H)
    refine hK.out _ _ ⟨s0, s1, M0, M1, M2, trivial⟩ (fun hHeld => ?_)
    clear hK K
    try simp only [Act.put, List.setIfInBounds_toArray, List.set_cons_zero, List.set_cons_succ]
    refine wpAnyH_done (by kernel_rfl) ?_ _
    replace hB := hB.trans (hL.mono hB.size)
    clear hHeld hL s0 s1 M0 M1 M2 b0 CL CH CB
    generalize hN : wd.heap.size = kN at *
    clear hN
    go_wp2_with fail
    all_goals first
      | (refine bodyPost_ret (v := zP L H 0) (by simp [zP, results, Try.results15, go_sem, *]; done) rfl ⟨by rw [← HV.out, if_neg (by omega)], ?_⟩
         exact (hB.setCell (p := ⟨w.heap.size + 1 + 1 + 1, 0, none⟩) (by simp <;> omega) _).setCell (p := ⟨w.heap.size + 1 + 1 + 1, 1, none⟩) (by simp <;> omega) _)
      | (refine bodyPost_ret (v := zP 0 0 7) (by simp [zP, results, Try.results15, go_sem, *]; done) rfl ⟨by rw [← HV.out, if_pos (by omega)], ?_⟩
         exact (hB.setCell (p := ⟨w.heap.size + 1 + 1 + 1, 0, none⟩) (by simp <;> omega) _).setCell (p := ⟨w.heap.size + 1 + 1 + 1, 1, none⟩) (by simp <;> omega) _)

open Go.RowKit Go.Lib Go.Shelf
set_option linter.unusedVariables false
set_option linter.unusedSimpArgs false
attribute [local go_sem ↓] Go.wp_at_zero Go.wp_at_succ

set_option maxHeartbeats 400000 in
theorem r6mass_any (a s : Int) (h : IntKind.i64.wrap (a + s) = a + s) (w : World) :
    Calls Try.prog 156 #[.agg #[.int .i64 a, .int .i64 s]] w fun e w' => e = .returned (.int .i64 (a + s)) ∧ Below w.heap.size w w' := by
  go_enter Try.func156, Try.ntmps156
  go_wp2
  go_ret
  exact ⟨rfl, (Below.refl _ _).alloc (Nat.le_refl _) _⟩

set_option maxRecDepth 20000 in
set_option maxHeartbeats 1000000 in
theorem rReaches_any (a s b : Nat) (ha : a ≤ 1000000000000) (hs : s ≤ 1000000000000) (hb : b ≤ 10000) (w : World) :
    Calls Try.prog 117 #[.agg #[.int .i64 (a : Int), .int .i64 (s : Int)], .int .i64 (b : Int)] w fun e w' => e = .returned (.bool (dnB b (a, s))) ∧ Below w.heap.size w w' := by
  have hD : Hid (dnB b (a, s) = (decide (0 < s) && decide (b * (a + s) ≤ s * 10000))) := Lib.hid rfl
  have hm : b * (a + s) ≤ 10000 * 2000000000000 := Nat.mul_le_mul hb (by omega)
  generalize dnB b (a, s) = r at *
  have CM := Lib.hid (r6mass_any (a : Int) (s : Int) (IntWalk.i64_in _ (by omega)))
  rw [show (a : Int) + (s : Int) = ((a + s : Nat) : Int) from by omega] at CM
  have f3 : IntKind.i64.wrap ((b : Int) * ((a + s : Nat) : Int)) = ((b * (a + s) : Nat) : Int) := by rw [← Int.natCast_mul]; exact IntWalk.i64_in _ (by omega)
  have f1 : IntKind.i64.wrap ((s : Int) * 10000) = ((s * 10000 : Nat) : Int) := by rw [show (s : Int) * 10000 = ((s * 10000 : Nat) : Int) from by omega]; exact IntWalk.i64_in _ (by omega)
  by_cases h0 : 0 < s
  · obtain ⟨q, hq⟩ : ∃ q, decide (((b * (a + s) : Nat) : Int) ≤ ((s * 10000 : Nat) : Int)) = q := ⟨_, rfl⟩
    have hR : Hid (r = q) := Lib.hid (by rw [hD.out, ← hq, show decide (0 < s) = true from by simpa using h0, Bool.true_and]; exact decide_eq_decide.2 (by omega))
    have t0 : decide ((0 : Int) < (s : Int)) = true := by simp; omega
    clear hD hm h0 ha hs hb
    generalize ((b * (a + s) : Nat) : Int) = M at *
    generalize ((s * 10000 : Nat) : Int) = T at *
    generalize ((a + s : Nat) : Int) = U at *
    generalize (s : Int) = S at *
    generalize (a : Int) = A at *
    generalize (b : Int) = B at *
    go_enter Try.func117, Try.ntmps117
    go_wp2_with fail
    have s0 : (w.alloc (Obj.cells #[.int .i64 A, .int .i64 S] 36)).cell? ⟨w.heap.size, 0, none⟩ = some (.int .i64 A) := cell_new _ _ _ 0
    have s1 : (w.alloc (Obj.cells #[.int .i64 A, .int .i64 S] 36)).cell? ⟨w.heap.size, 1, none⟩ = some (.int .i64 S) := cell_new _ _ _ 1
    have ns : w.heap.size < (w.alloc (Obj.cells #[.int .i64 A, .int .i64 S] 36)).heap.size := by simp
    have hB : Below w.heap.size w (w.alloc (Obj.cells #[.int .i64 A, .int .i64 S] 36)) := (Below.refl _ _).alloc (Nat.le_refl _) _
    generalize (w.alloc (Obj.cells #[.int .i64 A, .int .i64 S] 36)) = W1 at *
    have hBW : W1.heap.size ≤ W1.heap.size := Nat.le_refl _
    refine wp_region_held_drew (S := fun w' => w'.cell? ⟨w.heap.size, 0, none⟩ = some (.int .i64 A) ∧ w'.cell? ⟨w.heap.size, 1, none⟩ = some (.int .i64 S) ∧ True) (by kernel_rfl) ?_ (fun hHeld => ?_)
    focus (exact ⟨s0, s1, trivial⟩)
    have hL : Below W1.heap.size W1 W1.drew := Below.drew (Below.refl _ _)
    replace s0 : W1.drew.cell? ⟨w.heap.size, 0, none⟩ = some (.int .i64 A) := s0
    replace s1 : W1.drew.cell? ⟨w.heap.size, 1, none⟩ = some (.int .i64 S) := s1
    replace ns : w.heap.size < W1.drew.heap.size := ns
    generalize hWd : W1.drew = wd at hHeld hL s0 s1 ns  ⊢
    clear hWd
    refine take_slot (i := 0) (d := 5) (v := ?_) rfl rfl (by kernel_rfl) (by kernel_rfl) (by kernel_rfl) (fun _ _ _ h => h) (Or.inl ⟨by rfl, ?_⟩) (by assumption) ?_
    rotate_left 1
    focus (intro wS hSw; (try dsimp only at hSw); go_simp; try with_reducible rfl)
    try simp only [List.setIfInBounds_toArray, List.set_cons_zero, List.set_cons_succ]
    refine take_slot (i := 1) (d := 6) (v := ?_) rfl rfl (by kernel_rfl) (by kernel_rfl) (by kernel_rfl) (fun _ _ _ h => h) (Or.inl ⟨by rfl, ?_⟩) (by assumption) ?_
    rotate_left 1
    focus (intro wS hSw; (try dsimp only at hSw); go_simp; try with_reducible rfl)
    try simp only [List.setIfInBounds_toArray, List.set_cons_zero, List.set_cons_succ]
    refine take_slot (i := 2) (d := 7) (v := ?_) rfl rfl (by kernel_rfl) (by kernel_rfl) (by kernel_rfl) (fun _ _ _ h => h) (Or.inl ⟨by rfl, ?_⟩) (by assumption) ?_
    rotate_left 1
    focus (intro wS hSw; (try dsimp only at hSw); go_simp; try with_reducible rfl)
    try simp only [List.setIfInBounds_toArray, List.set_cons_zero, List.set_cons_succ]
    refine take_slot (i := 3) (d := 8) (v := ?_) rfl rfl (by kernel_rfl) (by kernel_rfl) (by kernel_rfl) (fun _ _ _ h => h) (Or.inl ⟨by rfl, ?_⟩) (by assumption) ?_
    rotate_left 1
    focus (intro wS hSw; (try dsimp only at hSw); go_simp; try with_reducible rfl)
    try simp only [List.setIfInBounds_toArray, List.set_cons_zero, List.set_cons_succ]
    refine take_slot (i := 4) (d := 9) (v := ?_) rfl rfl (by kernel_rfl) (by kernel_rfl) (by kernel_rfl) (fun _ _ _ h => h) (Or.inl ⟨by rfl, ?_⟩) (by assumption) ?_
    rotate_left 1
    focus (intro wS hSw; (try dsimp only at hSw); go_simp; try with_reducible rfl)
    try simp only [List.setIfInBounds_toArray, List.set_cons_zero, List.set_cons_succ]
    refine take_slot (i := 5) (d := 10) (v := ?_) rfl rfl (by kernel_rfl) (by kernel_rfl) (by kernel_rfl) (fun _ _ _ h => h) (Or.inl ⟨by rfl, ?_⟩) (by assumption) ?_
    rotate_left 1
    focus (intro wS hSw; (try dsimp only at hSw); go_simp; try with_reducible rfl)
    try simp only [List.setIfInBounds_toArray, List.set_cons_zero, List.set_cons_succ]
    refine take_slot (i := 6) (d := 11) (v := ?_) rfl rfl (by kernel_rfl) (by kernel_rfl) (by kernel_rfl) (fun _ _ _ h => h) (Or.inl ⟨by rfl, ?_⟩) (by assumption) ?_
    rotate_left 1
    focus (intro wS hSw; (try dsimp only at hSw); go_simp; try with_reducible rfl)
    try simp only [List.setIfInBounds_toArray, List.set_cons_zero, List.set_cons_succ]
    refine take_slot (i := 7) (d := 12) (v := ?_) rfl rfl (by kernel_rfl) (by kernel_rfl) (by kernel_rfl) (fun _ _ _ h => h) (Or.inl ⟨by rfl, ?_⟩) (by assumption) ?_
    rotate_left 1
    focus (intro wS hSw; (try dsimp only at hSw); go_simp; try with_reducible rfl)
    try simp only [List.setIfInBounds_toArray, List.set_cons_zero, List.set_cons_succ]
    refine take_slot (i := 8) (d := 13) (v := ?_) rfl rfl (by kernel_rfl) (by kernel_rfl) (by kernel_rfl) (fun _ _ _ h => h) (Or.inl ⟨by rfl, ?_⟩) (by assumption) ?_
    rotate_left 1
    focus (intro wS hSw; (try dsimp only at hSw); go_simp; try with_reducible rfl)
    try simp only [List.setIfInBounds_toArray, List.set_cons_zero, List.set_cons_succ]
    refine wpAnyH_ready (rs := [9]) (by kernel_rfl) (by simp) ?_
    refine AllReadyH.cons rfl (fun K hK => ?_) AllReadyH.nil
    go_simp
    refine (CM.out _).mono ?_
    rintro e Z1 ⟨rfl, hb⟩
    replace s0 := cell_next hb ns s0
    replace s1 := cell_next hb ns s1
    replace ns := Nat.lt_of_lt_of_le ns hb.size
    replace hL := hL.trans (hb.mono (Nat.le_trans hBW hL.size))
    refine hK.out _ _ ⟨s0, s1, trivial⟩ (fun hHeld => ?_)
    clear hK K hb
    try simp only [Act.put, List.setIfInBounds_toArray, List.set_cons_zero, List.set_cons_succ]
    refine take_slot (i := 10) (d := 15) (v := ?_) rfl rfl (by kernel_rfl) (by kernel_rfl) (by kernel_rfl) (fun _ _ _ h => h) (Or.inl ⟨by rfl, ?_⟩) (by assumption) ?_
    rotate_left 1
    focus (intro wS hSw; (try dsimp only at hSw); go_simp; try with_reducible rfl)
    try simp only [List.setIfInBounds_toArray, List.set_cons_zero, List.set_cons_succ]
    refine take_slot (i := 11) (d := 16) (v := ?_) rfl rfl (by kernel_rfl) (by kernel_rfl) (by kernel_rfl) (fun _ _ _ h => h) (Or.inl ⟨by rfl, ?_⟩) (by assumption) ?_
    rotate_left 1
    focus (intro wS hSw; (try dsimp only at hSw); go_simp; try with_reducible rfl)
    try simp only [List.setIfInBounds_toArray, List.set_cons_zero, List.set_cons_succ]
    refine take_slot (i := 12) (d := 17) (v := ?_) rfl rfl (by kernel_rfl) (by kernel_rfl) (by kernel_rfl) (fun _ _ _ h => h) (Or.inl ⟨by rfl, ?_⟩) (by assumption) ?_
    rotate_left 1
    focus (intro wS hSw; (try dsimp only at hSw); go_simp; try with_reducible rfl)
    try simp only [List.setIfInBounds_toArray, List.set_cons_zero, List.set_cons_succ]
    refine take_slot (i := 13) (d := 4) (v := ?_) rfl rfl (by kernel_rfl) (by kernel_rfl) (by kernel_rfl) (fun _ _ _ h => h) (Or.inl ⟨by rfl, ?_⟩) (by assumption) ?_
    rotate_left 1
    focus (intro wS hSw; (try dsimp only at hSw); go_simp; try with_reducible rfl)
    try simp only [List.setIfInBounds_toArray, List.set_cons_zero, List.set_cons_succ]
    refine wpAnyH_done (by kernel_rfl) ?_ _
    replace hB := hB.trans (hL.mono hB.size)
    clear hHeld hL s0 s1 ns
    go_wp2_with fail
    go_ret
    exact ⟨by rw [hR.out]; rfl, hB⟩
  · have hR : Hid (r = false) := Lib.hid (by rw [hD.out, show decide (0 < s) = false from by simpa using h0]; rfl)
    have t0 : decide ((0 : Int) < (s : Int)) = false := by simp; omega
    clear hD hm h0 ha hs hb f1 f3 CM
    generalize (s : Int) = S at *
    generalize (a : Int) = A at *
    generalize (b : Int) = B at *
    go_enter Try.func117, Try.ntmps117
    go_wp2_with fail
    have s0 : (w.alloc (Obj.cells #[.int .i64 A, .int .i64 S] 36)).cell? ⟨w.heap.size, 0, none⟩ = some (.int .i64 A) := cell_new _ _ _ 0
    have s1 : (w.alloc (Obj.cells #[.int .i64 A, .int .i64 S] 36)).cell? ⟨w.heap.size, 1, none⟩ = some (.int .i64 S) := cell_new _ _ _ 1
    have ns : w.heap.size < (w.alloc (Obj.cells #[.int .i64 A, .int .i64 S] 36)).heap.size := by simp
    have hB : Below w.heap.size w (w.alloc (Obj.cells #[.int .i64 A, .int .i64 S] 36)) := (Below.refl _ _).alloc (Nat.le_refl _) _
    generalize (w.alloc (Obj.cells #[.int .i64 A, .int .i64 S] 36)) = W1 at *
    have hBW : W1.heap.size ≤ W1.heap.size := Nat.le_refl _
    refine wp_region_held_drew (S := fun w' => w'.cell? ⟨w.heap.size, 0, none⟩ = some (.int .i64 A) ∧ w'.cell? ⟨w.heap.size, 1, none⟩ = some (.int .i64 S) ∧ True) (by kernel_rfl) ?_ (fun hHeld => ?_)
    focus (exact ⟨s0, s1, trivial⟩)
    have hL : Below W1.heap.size W1 W1.drew := Below.drew (Below.refl _ _)
    replace s0 : W1.drew.cell? ⟨w.heap.size, 0, none⟩ = some (.int .i64 A) := s0
    replace s1 : W1.drew.cell? ⟨w.heap.size, 1, none⟩ = some (.int .i64 S) := s1
    replace ns : w.heap.size < W1.drew.heap.size := ns
    generalize hWd : W1.drew = wd at hHeld hL s0 s1 ns  ⊢
    clear hWd
    refine take_slot (i := 0) (d := 5) (v := ?_) rfl rfl (by kernel_rfl) (by kernel_rfl) (by kernel_rfl) (fun _ _ _ h => h) (Or.inl ⟨by rfl, ?_⟩) (by assumption) ?_
    rotate_left 1
    focus (intro wS hSw; (try dsimp only at hSw); go_simp; try with_reducible rfl)
    try simp only [List.setIfInBounds_toArray, List.set_cons_zero, List.set_cons_succ]
    refine take_slot (i := 1) (d := 6) (v := ?_) rfl rfl (by kernel_rfl) (by kernel_rfl) (by kernel_rfl) (fun _ _ _ h => h) (Or.inl ⟨by rfl, ?_⟩) (by assumption) ?_
    rotate_left 1
    focus (intro wS hSw; (try dsimp only at hSw); go_simp; try with_reducible rfl)
    try simp only [List.setIfInBounds_toArray, List.set_cons_zero, List.set_cons_succ]
    refine take_slot (i := 2) (d := 7) (v := ?_) rfl rfl (by kernel_rfl) (by kernel_rfl) (by kernel_rfl) (fun _ _ _ h => h) (Or.inl ⟨by rfl, ?_⟩) (by assumption) ?_
    rotate_left 1
    focus (intro wS hSw; (try dsimp only at hSw); go_simp; try with_reducible rfl)
    try simp only [List.setIfInBounds_toArray, List.set_cons_zero, List.set_cons_succ]
    refine take_slot (i := 3) (d := 8) (v := ?_) rfl rfl (by kernel_rfl) (by kernel_rfl) (by kernel_rfl) (fun _ _ _ h => h) (Or.inl ⟨by rfl, ?_⟩) (by assumption) ?_
    rotate_left 1
    focus (intro wS hSw; (try dsimp only at hSw); go_simp; try with_reducible rfl)
    try simp only [List.setIfInBounds_toArray, List.set_cons_zero, List.set_cons_succ]
    refine take_slot (i := 4) (d := 9) (v := undef) rfl rfl (by kernel_rfl) (by kernel_rfl) (by kernel_rfl) (fun _ _ _ h => h) (Or.inr ⟨by rfl, rfl⟩) (by assumption) ?_
    try simp only [List.setIfInBounds_toArray, List.set_cons_zero, List.set_cons_succ]
    refine take_slot (i := 5) (d := 10) (v := undef) rfl rfl (by kernel_rfl) (by kernel_rfl) (by kernel_rfl) (fun _ _ _ h => h) (Or.inr ⟨by rfl, rfl⟩) (by assumption) ?_
    try simp only [List.setIfInBounds_toArray, List.set_cons_zero, List.set_cons_succ]
    refine take_slot (i := 6) (d := 11) (v := undef) rfl rfl (by kernel_rfl) (by kernel_rfl) (by kernel_rfl) (fun _ _ _ h => h) (Or.inr ⟨by rfl, rfl⟩) (by assumption) ?_
    try simp only [List.setIfInBounds_toArray, List.set_cons_zero, List.set_cons_succ]
    refine take_slot (i := 7) (d := 12) (v := undef) rfl rfl (by kernel_rfl) (by kernel_rfl) (by kernel_rfl) (fun _ _ _ h => h) (Or.inr ⟨by rfl, rfl⟩) (by assumption) ?_
    try simp only [List.setIfInBounds_toArray, List.set_cons_zero, List.set_cons_succ]
    refine take_slot (i := 8) (d := 13) (v := undef) rfl rfl (by kernel_rfl) (by kernel_rfl) (by kernel_rfl) (fun _ _ _ h => h) (Or.inr ⟨by rfl, rfl⟩) (by assumption) ?_
    try simp only [List.setIfInBounds_toArray, List.set_cons_zero, List.set_cons_succ]
    refine take_slot (i := 9) (d := 14) (v := undef) rfl rfl (by kernel_rfl) (by kernel_rfl) (by kernel_rfl) (fun _ _ _ h => h) (Or.inr ⟨by rfl, rfl⟩) (by assumption) ?_
    try simp only [List.setIfInBounds_toArray, List.set_cons_zero, List.set_cons_succ]
    refine take_slot (i := 10) (d := 15) (v := undef) rfl rfl (by kernel_rfl) (by kernel_rfl) (by kernel_rfl) (fun _ _ _ h => h) (Or.inr ⟨by rfl, rfl⟩) (by assumption) ?_
    try simp only [List.setIfInBounds_toArray, List.set_cons_zero, List.set_cons_succ]
    refine take_slot (i := 11) (d := 16) (v := undef) rfl rfl (by kernel_rfl) (by kernel_rfl) (by kernel_rfl) (fun _ _ _ h => h) (Or.inr ⟨by rfl, rfl⟩) (by assumption) ?_
    try simp only [List.setIfInBounds_toArray, List.set_cons_zero, List.set_cons_succ]
    refine take_slot (i := 12) (d := 17) (v := ?_) rfl rfl (by kernel_rfl) (by kernel_rfl) (by kernel_rfl) (fun _ _ _ h => h) (Or.inl ⟨by rfl, ?_⟩) (by assumption) ?_
    rotate_left 1
    focus (intro wS hSw; (try dsimp only at hSw); go_simp; try with_reducible rfl)
    try simp only [List.setIfInBounds_toArray, List.set_cons_zero, List.set_cons_succ]
    refine take_slot (i := 13) (d := 4) (v := ?_) rfl rfl (by kernel_rfl) (by kernel_rfl) (by kernel_rfl) (fun _ _ _ h => h) (Or.inl ⟨by rfl, ?_⟩) (by assumption) ?_
    rotate_left 1
    focus (intro wS hSw; (try dsimp only at hSw); go_simp; try with_reducible rfl)
    try simp only [List.setIfInBounds_toArray, List.set_cons_zero, List.set_cons_succ]
    refine wpAnyH_done (by kernel_rfl) ?_ _
    replace hB := hB.trans (hL.mono hB.size)
    clear hHeld hL s0 s1 ns
    go_wp2_with fail
    go_ret
    exact ⟨by rw [hR.out]; rfl, hB⟩

set_option maxRecDepth 20000 in
set_option maxHeartbeats 2000000 in
theorem rLeast_any (a s t p b m : Nat) (ha : a ≤ 1000000000000) (hs : s ≤ 1000000000000) (ht : t ≤ 10000) (hp : p ≤ 10000) (hb : b ≤ 10000) (hm : m ≤ 200) (w : World) :
    Calls Try.prog 54 #[.agg #[.int .i64 (a : Int), .int .i64 (s : Int)], .int .i64 (t : Int), .int .i64 (p : Int), .int .i64 (b : Int), .int .i64 (m : Int)] w fun e w' => e = .returned (.int .i64 (lsI b t p (a, s) m)) ∧ Below w.heap.size w w' := by
  obtain ⟨f, hf⟩ : ∃ f : Nat → Bool, f = fun k => dnB b (rk t p (a, s) k) := ⟨_, rfl⟩
  have hL : lsI b t p (a, s) m = fstI f (m + 1) := by rw [hf]; rfl
  rw [hL]
  obtain ⟨r, hr⟩ : ∃ r, fstI f (m + 1) = r := ⟨_, rfl⟩
  rw [hr]
  have Hr := Lib.hid hr
  have CR := Lib.hid (fun (k : Nat) => rReaches_any (rk t p (a, s) k).1 (rk t p (a, s) k).2 b (Nat.le_trans (rk_le t p (a, s) k).1 ha) (Nat.le_trans (rk_le t p (a, s) k).2 hs) hb)
  have CR' : Hid (∀ (k : Nat) (W : World), Calls Try.prog 117 #[.agg #[.int .i64 ((rk t p (a, s) k).1 : Int), .int .i64 ((rk t p (a, s) k).2 : Int)], .int .i64 (b : Int)] W fun e w' => e = .returned (.bool (f k)) ∧ Below W.heap.size W w') := Lib.hid (fun k W => by rw [hf]; exact CR.out k W)
  have CN : Hid (∀ (k : Nat) (W : World), ∃ y1 y2 : Int, Calls Try.prog 118 #[.agg #[.int .i64 ((rk t p (a, s) k).1 : Int), .int .i64 ((rk t p (a, s) k).2 : Int)], .int .i64 (t : Int), .int .i64 (p : Int)] W fun e w' => e = .returned (.tuple #[.agg #[.int .i64 ((rk t p (a, s) (k + 1)).1 : Int), .int .i64 ((rk t p (a, s) (k + 1)).2 : Int)], .agg #[.int .i64 y1, .int .i64 y2]]) ∧ Below W.heap.size W w') := Lib.hid (fun k W => ⟨_, _, rRound_any _ _ t p (Nat.le_trans (rk_le t p (a, s) k).1 ha) (Nat.le_trans (rk_le t p (a, s) k).2 hs) ht hp W⟩)
  have H0 : Hid (((a : Int) = (rk t p (a, s) 0).1) ∧ (s : Int) = (rk t p (a, s) 0).2) := Lib.hid ⟨rfl, rfl⟩
  clear CR hf hL hr ha hs ht hp hb
  generalize rk t p (a, s) = g at *
  go_enter Try.func54, Try.ntmps54
  go_wp2_with fail
  go_loopw [11] (fun i wr => ∃ k : Nat, k ≤ m + 1 ∧ i = .int .i64 (k : Int) ∧ Hid (∀ j, j < k → f j = false) ∧ wr.cell? ⟨w.heap.size, 0, none⟩ = some (.int .i64 ((g k).1 : Int)) ∧ wr.cell? ⟨w.heap.size, 1, none⟩ = some (.int .i64 ((g k).2 : Int)) ∧ wr.frozen? ⟨w.heap.size, 0, none⟩ = false ∧ wr.frozen? ⟨w.heap.size, 1, none⟩ = false ∧ w.heap.size < wr.heap.size ∧ Below w.heap.size w wr) (fun i _ => m + 1 - (RowKit.intOf i).toNat)
  case atStart =>
    refine ⟨0, Nat.zero_le _, rfl, Lib.hid (fun j h => absurd h (Nat.not_lt_zero j)), ?_, ?_, ?_, ?_, by simp, (Below.refl _ _).alloc (Nat.le_refl _) _⟩
    · rw [← H0.out.1]; simp [go_sem]
    · rw [← H0.out.2]; simp [go_sem]
    all_goals simp [go_sem]
  case round =>
    obtain ⟨k, hk, rfl, hj, s0, s1, fs0, fs1, ns, hbr⟩ := hrel
    by_cases hlt : k < m + 1
    · have t1 : decide ((k : Int) ≤ (m : Int)) = true := by simp; omega
      have c1 := Lib.hid (CR'.out k)
      obtain ⟨q, hq⟩ : ∃ q, f k = q := ⟨_, rfl⟩
      rw [hq] at c1
      have Hq := Lib.hid hq
      clear hq
      go_wp2_with fail
      refine (c1.out _).mono ?_
      rintro e w1 ⟨rfl, hb⟩
      replace s0 := cell_next hb ns s0
      replace s1 := cell_next hb ns s1
      replace fs0 := frozen_next hb ns fs0
      replace fs1 := frozen_next hb ns fs1
      replace ns := Nat.lt_of_lt_of_le ns hb.size
      replace hbr := hbr.trans (hb.mono hbr.size)
      clear hb c1
      cases q
      · go_wp2_with fail
        obtain ⟨y1, y2, c2⟩ := CN.out k w1
        refine c2.mono ?_
        rintro e w2 ⟨rfl, hb⟩
        replace s0 := cell_next hb ns s0
        replace s1 := cell_next hb ns s1
        replace fs0 := frozen_next hb ns fs0
        replace fs1 := frozen_next hb ns fs1
        replace ns := Nat.lt_of_lt_of_le ns hb.size
        replace hbr := hbr.trans (hb.mono hbr.size)
        have wk : IntKind.i64.wrap ((k : Int) + 1) = ((k + 1 : Nat) : Int) := IntWalk.i64_in _ (by omega)
        clear hb c2
        go_wp2_with fail
        go_roundw
        case rel =>
          refine ⟨k + 1, by omega, by go_num, Lib.hid (fun j h => ?_), ?_, ?_, ?_, ?_, by simpa [World.setCell] using ns, (hbr.setCell (p := ⟨w.heap.size, 0, none⟩) (by simp) _).setCell (p := ⟨w.heap.size, 1, none⟩) (by simp) _⟩
          · rcases Nat.lt_or_ge j k with h | h
            · exact hj.out j h
            · obtain rfl : j = k := by omega
              exact Hq.out
          all_goals simp [go_sem, *]
        case measure => simp [RowKit.intOf]; omega
      · have e1 : r = (k : Int) := Hr.out.symm.trans (fstI_at (by omega) Hq.out hj.out)
        subst e1
        go_wp2_with fail
        go_ret
        exact ⟨rfl, hbr⟩
    · obtain rfl : k = m + 1 := by omega
      have e1 : r = -1 := Hr.out.symm.trans (fstI_no hj.out)
      subst e1
      have t1 : decide (((m + 1 : Nat) : Int) ≤ (m : Int)) = false := by simp; omega
      generalize ((m + 1 : Nat) : Int) = M at *
      go_wp2_with fail
      go_ret
      exact ⟨rfl, hbr⟩

open Go.RowKit Go.Lib Go.Shelf
set_option linter.unusedVariables false
set_option linter.unusedSimpArgs false
attribute [local go_sem ↓] Go.wp_at_zero Go.wp_at_succ

theorem rgB_ref (lo hi : Int) : rgB 0 10000 lo hi = ((decide (0 ≤ lo) && decide (lo ≤ 10000)) && (decide (lo ≤ hi) && decide (hi ≤ 10000))) := by
  rw [Bool.eq_iff_iff]
  simp [rgB, inB]
  omega

set_option maxRecDepth 40000 in
set_option maxHeartbeats 4000000 in
theorem rReach_bad (a s t lo hi b m : Int) (h : rcE a s t lo hi b m ≠ 0) (w : World) :
    Calls Try.prog 16 #[.agg #[.int .i64 a, .int .i64 s], .agg #[.int .i64 t, .int .i64 lo, .int .i64 hi], .int .i64 b, .int .i64 m] w fun e w' => e = .returned (zP 0 0 (rcE a s t lo hi b m)) ∧ Below w.heap.size w w' := by
  have c1 := Lib.hid (rSap_any a s)
  have c2 := Lib.hid (rIn_any t 0 10000)
  have c3 := Lib.hid (rIn_any lo 0 10000)
  have c4 := Lib.hid (rIn_any hi lo 10000)
  have c5 := Lib.hid (rIn_any b 1 10000)
  have c6 := Lib.hid (rIn_any m 0 200)
  unfold rcE at h ⊢
  rw [rgB_ref, show inB 0 10000 t = (decide (0 ≤ t) && decide (t ≤ 10000)) from rfl, show inB 1 10000 b = (decide (1 ≤ b) && decide (b ≤ 10000)) from rfl, show inB 0 200 m = (decide (0 ≤ m) && decide (m ≤ 200)) from rfl] at h ⊢
  generalize spB a s = p1 at *
  generalize (decide (0 ≤ t) && decide (t ≤ 10000)) = p2 at *
  generalize (decide (0 ≤ lo) && decide (lo ≤ 10000)) = p3 at *
  generalize (decide (lo ≤ hi) && decide (hi ≤ 10000)) = p4 at *
  generalize (decide (1 ≤ b) && decide (b ≤ 10000)) = p5 at *
  generalize (decide (0 ≤ m) && decide (m ≤ 200)) = p6 at *
  go_enter Try.func16, Try.ntmps16
  go_wp2_with fail
  refine (c1.out _).mono ?_
  rintro e W1 ⟨rfl, hb⟩
  have s0 := cell_next hb (b := w.heap.size) (o := 0) (by simp <;> omega) (v := some (.int .i64 a)) (by simp [go_sem])
  have s1 := cell_next hb (b := w.heap.size) (o := 1) (by simp <;> omega) (v := some (.int .i64 s)) (by simp [go_sem])
  have ns : w.heap.size < W1.heap.size := by have := hb.size; simp at this; omega
  have M0 := cell_next hb (b := w.heap.size + 1) (o := 0) (by simp <;> omega) (v := some (.int .i64 t)) (by simp [go_sem])
  have M1 := cell_next hb (b := w.heap.size + 1) (o := 1) (by simp <;> omega) (v := some (.int .i64 lo)) (by simp [go_sem])
  have M2 := cell_next hb (b := w.heap.size + 1) (o := 2) (by simp <;> omega) (v := some (.int .i64 hi)) (by simp [go_sem])
  have nM : w.heap.size + 1 < W1.heap.size := by have := hb.size; simp at this; omega
  have r0 := cell_next hb (b := w.heap.size + 1 + 1) (o := 0) (by simp <;> omega) (v := some (.int .i64 0)) (by simp [go_sem])
  have fr0 := frozen_next hb (b := w.heap.size + 1 + 1) (o := 0) (by simp <;> omega) (v := false) (by simp [go_sem])
  have r1 := cell_next hb (b := w.heap.size + 1 + 1) (o := 1) (by simp <;> omega) (v := some (.int .i64 0)) (by simp [go_sem])
  have fr1 := frozen_next hb (b := w.heap.size + 1 + 1) (o := 1) (by simp <;> omega) (v := false) (by simp [go_sem])
  have nr : w.heap.size + 1 + 1 < W1.heap.size := by have := hb.size; simp at this; omega
  have hB := (below3 hb)
  clear hb
  cases p1
  · clear c1 c2 c3 c4 c5 c6 h
    go_wp2_with fail
    refine bodyPost_ret (v := .tuple #[.agg #[.int .i64 0, .int .i64 0], .int .i64 2]) (by simp [results, Try.results16, go_sem, r0, r1, fr0, fr1]) rfl ⟨rfl, ?_⟩
    exact ((hB.setCell (p := ⟨w.heap.size + 1 + 1, 0, none⟩) (by simp <;> omega) _).setCell (p := ⟨w.heap.size + 1 + 1, 1, none⟩) (by simp <;> omega) _)
  · go_wp2_with fail
    refine (c2.out _).mono ?_
    rintro e w' ⟨rfl, rfl⟩
    cases p2
    · clear c1 c2 c3 c4 c5 c6 h
      go_wp2_with fail
      refine bodyPost_ret (v := .tuple #[.agg #[.int .i64 0, .int .i64 0], .int .i64 2]) (by simp [results, Try.results16, go_sem, r0, r1, fr0, fr1]) rfl ⟨rfl, ?_⟩
      exact ((hB.setCell (p := ⟨w.heap.size + 1 + 1, 0, none⟩) (by simp <;> omega) _).setCell (p := ⟨w.heap.size + 1 + 1, 1, none⟩) (by simp <;> omega) _)
    · go_wp2_with fail
      refine (c3.out _).mono ?_
      rintro e w' ⟨rfl, rfl⟩
      cases p3
      · clear c1 c2 c3 c4 c5 c6 h
        go_wp2_with fail
        refine bodyPost_ret (v := .tuple #[.agg #[.int .i64 0, .int .i64 0], .int .i64 2]) (by simp [results, Try.results16, go_sem, r0, r1, fr0, fr1]) rfl ⟨rfl, ?_⟩
        exact ((hB.setCell (p := ⟨w.heap.size + 1 + 1, 0, none⟩) (by simp <;> omega) _).setCell (p := ⟨w.heap.size + 1 + 1, 1, none⟩) (by simp <;> omega) _)
      · go_wp2_with fail
        refine (c4.out _).mono ?_
        rintro e w' ⟨rfl, rfl⟩
        cases p4
        · clear c1 c2 c3 c4 c5 c6 h
          go_wp2_with fail
          refine bodyPost_ret (v := .tuple #[.agg #[.int .i64 0, .int .i64 0], .int .i64 2]) (by simp [results, Try.results16, go_sem, r0, r1, fr0, fr1]) rfl ⟨rfl, ?_⟩
          exact ((hB.setCell (p := ⟨w.heap.size + 1 + 1, 0, none⟩) (by simp <;> omega) _).setCell (p := ⟨w.heap.size + 1 + 1, 1, none⟩) (by simp <;> omega) _)
        · go_wp2_with fail
          refine (c5.out _).mono ?_
          rintro e w' ⟨rfl, rfl⟩
          cases p5
          · clear c1 c2 c3 c4 c5 c6 h
            go_wp2_with fail
            refine bodyPost_ret (v := .tuple #[.agg #[.int .i64 0, .int .i64 0], .int .i64 3]) (by simp [results, Try.results16, go_sem, r0, r1, fr0, fr1]) rfl ⟨rfl, ?_⟩
            exact ((hB.setCell (p := ⟨w.heap.size + 1 + 1, 0, none⟩) (by simp <;> omega) _).setCell (p := ⟨w.heap.size + 1 + 1, 1, none⟩) (by simp <;> omega) _)
          · go_wp2_with fail
            refine (c6.out _).mono ?_
            rintro e w' ⟨rfl, rfl⟩
            cases p6
            · clear c1 c2 c3 c4 c5 c6 h
              go_wp2_with fail
              refine bodyPost_ret (v := .tuple #[.agg #[.int .i64 0, .int .i64 0], .int .i64 3]) (by simp [results, Try.results16, go_sem, r0, r1, fr0, fr1]) rfl ⟨rfl, ?_⟩
              exact ((hB.setCell (p := ⟨w.heap.size + 1 + 1, 0, none⟩) (by simp <;> omega) _).setCell (p := ⟨w.heap.size + 1 + 1, 1, none⟩) (by simp <;> omega) _)
            · exact absurd rfl h

set_option maxRecDepth 40000 in
set_option maxHeartbeats 4000000 in
theorem rReach_ok (a s t lo hi b m : Nat) (ha : a ≤ 1000000000000) (hs : s ≤ 1000000000000) (ht : t ≤ 10000) (hlo : lo ≤ hi) (hhi : hi ≤ 10000) (hb1 : 1 ≤ b) (hb2 : b ≤ 10000) (hm : m ≤ 200) (w : World) :
    Calls Try.prog 16 #[.agg #[.int .i64 (a : Int), .int .i64 (s : Int)], .agg #[.int .i64 (t : Int), .int .i64 (lo : Int), .int .i64 (hi : Int)], .int .i64 (b : Int), .int .i64 (m : Int)] w fun e w' => e = .returned (if lsI b t hi (a, s) m < 0 then zP 0 0 7 else zP (lsI b t lo (a, s) m) (lsI b t hi (a, s) m) 0) ∧ Below w.heap.size w w' := by
  have c1 := Lib.hid (rSap_any (a : Int) (s : Int))
  rw [show spB (a : Int) (s : Int) = true from by simp [spB]; omega] at c1
  have c2 := Lib.hid (rIn_any (t : Int) 0 10000)
  rw [show (decide ((0 : Int) ≤ (t : Int)) && decide ((t : Int) ≤ 10000)) = true from by simp; omega] at c2
  have c3 := Lib.hid (rIn_any (lo : Int) 0 10000)
  rw [show (decide ((0 : Int) ≤ (lo : Int)) && decide ((lo : Int) ≤ 10000)) = true from by simp; omega] at c3
  have c4 := Lib.hid (rIn_any (hi : Int) (lo : Int) 10000)
  rw [show (decide ((lo : Int) ≤ (hi : Int)) && decide ((hi : Int) ≤ 10000)) = true from by simp; omega] at c4
  have c5 := Lib.hid (rIn_any (b : Int) 1 10000)
  rw [show (decide ((1 : Int) ≤ (b : Int)) && decide ((b : Int) ≤ 10000)) = true from by simp; omega] at c5
  have c6 := Lib.hid (rIn_any (m : Int) 0 200)
  rw [show (decide ((0 : Int) ≤ (m : Int)) && decide ((m : Int) ≤ 200)) = true from by simp; omega] at c6
  obtain ⟨n, hn⟩ : ∃ n, hi = lo + n := ⟨hi - lo, by omega⟩
  subst hn
  obtain ⟨L, hL⟩ : ∃ L : Nat → Int, L = fun j => lsI b t (lo + j) (a, s) m := ⟨_, rfl⟩
  have HC : Hid (∀ (j : Nat) (W : World), j ≤ n → Calls Try.prog 54 #[.agg #[.int .i64 (a : Int), .int .i64 (s : Int)], .int .i64 (t : Int), .int .i64 ((lo + j : Nat) : Int), .int .i64 (b : Int), .int .i64 (m : Int)] W fun e w' => e = .returned (.int .i64 (L j)) ∧ Below W.heap.size W w') := Lib.hid (fun j W hj => by rw [hL]; exact rLeast_any a s t (lo + j) b m ha hs ht (by omega) hb2 hm W)
  have HM : Hid (∀ i j, i ≤ j → j ≤ n → L j ≠ -1 → L i ≠ -1 ∧ 0 ≤ L i ∧ L i ≤ L j) := Lib.hid (fun i j hij hj h => by rw [hL] at h ⊢; exact lsI_pass b t (lo + i) (lo + j) (a, s) m hb2 ht (by omega) (by omega) h)
  have HB : Hid (∀ j, -1 ≤ L j ∧ L j ≤ 200) := Lib.hid (fun j => by rw [hL]; have h := fstI_rng (fun k => dnB b (rk t (lo + j) (a, s) k)) (m + 1); exact ⟨h.1, by have := h.2; show fstI _ _ ≤ _; omega⟩)
  rw [show lsI b t (lo + n) (a, s) m = L n from by rw [hL], show lsI b t lo (a, s) m = L 0 from by rw [hL]; rfl]
  obtain ⟨V, hV⟩ : ∃ V, (if L n < 0 then zP 0 0 7 else zP (L 0) (L n) 0) = V := ⟨_, rfl⟩
  rw [hV]
  have HV := Lib.hid hV
  clear hV hL
  clear ha hs ht hb1 hb2 hm
  go_enter Try.func16, Try.ntmps16
  go_wp2_with fail
  refine (c1.out _).mono ?_
  rintro e W1 ⟨rfl, hb⟩
  have s0 := cell_next hb (b := w.heap.size) (o := 0) (by simp <;> omega) (v := some (.int .i64 (a : Int))) (by simp [go_sem])
  have s1 := cell_next hb (b := w.heap.size) (o := 1) (by simp <;> omega) (v := some (.int .i64 (s : Int))) (by simp [go_sem])
  have ns : w.heap.size < W1.heap.size := by have := hb.size; simp at this; omega
  have M0 := cell_next hb (b := w.heap.size + 1) (o := 0) (by simp <;> omega) (v := some (.int .i64 (t : Int))) (by simp [go_sem])
  have M1 := cell_next hb (b := w.heap.size + 1) (o := 1) (by simp <;> omega) (v := some (.int .i64 (lo : Int))) (by simp [go_sem])
  have M2 := cell_next hb (b := w.heap.size + 1) (o := 2) (by simp <;> omega) (v := some (.int .i64 ((lo + n : Nat) : Int))) (by simp [go_sem])
  have nM : w.heap.size + 1 < W1.heap.size := by have := hb.size; simp at this; omega
  have r0 := cell_next hb (b := w.heap.size + 1 + 1) (o := 0) (by simp <;> omega) (v := some (.int .i64 0)) (by simp [go_sem])
  have fr0 := frozen_next hb (b := w.heap.size + 1 + 1) (o := 0) (by simp <;> omega) (v := false) (by simp [go_sem])
  have r1 := cell_next hb (b := w.heap.size + 1 + 1) (o := 1) (by simp <;> omega) (v := some (.int .i64 0)) (by simp [go_sem])
  have fr1 := frozen_next hb (b := w.heap.size + 1 + 1) (o := 1) (by simp <;> omega) (v := false) (by simp [go_sem])
  have nr : w.heap.size + 1 + 1 < W1.heap.size := by have := hb.size; simp at this; omega
  have hB := (below3 hb)
  clear hb
  go_wp2_with fail
  refine (c2.out _).mono ?_
  rintro e w' ⟨rfl, rfl⟩
  go_wp2_with fail
  refine (c3.out _).mono ?_
  rintro e w' ⟨rfl, rfl⟩
  go_wp2_with fail
  refine (c4.out _).mono ?_
  rintro e w' ⟨rfl, rfl⟩
  go_wp2_with fail
  refine (c5.out _).mono ?_
  rintro e w' ⟨rfl, rfl⟩
  go_wp2_with fail
  refine (c6.out _).mono ?_
  rintro e w' ⟨rfl, rfl⟩
  clear c1 c2 c3 c4 c5 c6
  go_wp2_with fail
  go_loopw [12, 10, 11] (fun v12 v10 v11 wr => ∃ (i : Nat) (x y : Int), i ≤ n + 1 ∧ v12 = .int .i64 ((lo + i : Nat) : Int) ∧ v10 = .int .i64 x ∧ v11 = .int .i64 y ∧ Hid (i = 0 → x = 999 ∧ y = -1) ∧ Hid (0 < i → x = L 0 ∧ y = L (i - 1)) ∧ Hid (∀ j, j < i → L j ≠ -1) ∧ wr.cell? ⟨w.heap.size, 0, none⟩ = some (.int .i64 (a : Int)) ∧ wr.cell? ⟨w.heap.size, 1, none⟩ = some (.int .i64 (s : Int)) ∧ w.heap.size < wr.heap.size ∧ wr.cell? ⟨w.heap.size + 1, 0, none⟩ = some (.int .i64 (t : Int)) ∧ wr.cell? ⟨w.heap.size + 1, 1, none⟩ = some (.int .i64 (lo : Int)) ∧ wr.cell? ⟨w.heap.size + 1, 2, none⟩ = some (.int .i64 ((lo + n : Nat) : Int)) ∧ w.heap.size + 1 < wr.heap.size ∧ wr.cell? ⟨w.heap.size + 1 + 1, 0, none⟩ = some (.int .i64 0) ∧ wr.frozen? ⟨w.heap.size + 1 + 1, 0, none⟩ = false ∧ wr.cell? ⟨w.heap.size + 1 + 1, 1, none⟩ = some (.int .i64 0) ∧ wr.frozen? ⟨w.heap.size + 1 + 1, 1, none⟩ = false ∧ w.heap.size + 1 + 1 < wr.heap.size ∧ Below w.heap.size w wr) (fun v12 _ _ _ => lo + n + 1 - (RowKit.intOf v12).toNat)
  case atStart => exact ⟨0, 999, -1, Nat.zero_le _, rfl, rfl, rfl, Lib.hid (fun _ => ⟨rfl, rfl⟩), Lib.hid (fun h => absurd h (Nat.lt_irrefl 0)), Lib.hid (fun j h => absurd h (Nat.not_lt_zero j)), s0, s1, ns, M0, M1, M2, nM, r0, fr0, r1, fr1, nr, hB⟩
  case round =>
    clear hB s0 s1 ns M0 M1 M2 nM r0 fr0 r1 fr1 nr
    obtain ⟨i, x, y, hi, rfl, rfl, rfl, h0, h1, hj, s0, s1, ns, M0, M1, M2, nM, r0, fr0, r1, fr1, nr, hB⟩ := hrel
    by_cases hlt : i < n + 1
    · have t1 : decide (((lo + i : Nat) : Int) ≤ ((lo + n : Nat) : Int)) = true := by simp; omega
      have c1 := Lib.hid (fun W => HC.out i W (by omega))
      obtain ⟨z, hz⟩ : ∃ z, L i = z := ⟨_, rfl⟩
      have hb1 := HB.out i
      rw [hz] at c1 hb1
      have Hz := Lib.hid hz
      clear hz
      go_wp2_with fail
      refine (c1.out _).mono ?_
      rintro e W2 ⟨rfl, hb⟩
      replace s0 := cell_next hb ns s0
      replace s1 := cell_next hb ns s1
      replace ns := Nat.lt_of_lt_of_le ns hb.size
      replace M0 := cell_next hb nM M0
      replace M1 := cell_next hb nM M1
      replace M2 := cell_next hb nM M2
      replace nM := Nat.lt_of_lt_of_le nM hb.size
      replace r0 := cell_next hb nr r0
      replace fr0 := frozen_next hb nr fr0
      replace r1 := cell_next hb nr r1
      replace fr1 := frozen_next hb nr fr1
      replace nr := Nat.lt_of_lt_of_le nr hb.size
      replace hB := hB.trans (hb.mono hB.size)
      clear hb
      clear c1
      by_cases hn0 : z < 0
      · have e1 : V = zP 0 0 7 := by
          rw [← HV.out, if_pos]
          rcases Int.lt_or_le (L n) 0 with h | h
          · exact h
          · have := (HM.out i n (by omega) (Nat.le_refl n) (by omega)).2.1
            rw [Hz.out] at this
            omega
        have t2 : decide (z < 0) = true := by simpa using hn0
        subst e1
        clear h0 h1 hj HM HB HC HV
        go_wp2_with fail
        refine bodyPost_ret (v := zP 0 0 7) (by simp [results, Try.results16, go_sem, r0, r1, fr0, fr1, zP]) rfl ⟨rfl, ?_⟩
        exact ((hB.setCell (p := ⟨w.heap.size + 1 + 1, 0, none⟩) (by simp <;> omega) _).setCell (p := ⟨w.heap.size + 1 + 1, 1, none⟩) (by simp <;> omega) _)
      · have hx : min x z = L 0 ∧ max y z = z := by
          rcases Nat.eq_zero_or_pos i with h | h
          · obtain ⟨rfl, rfl⟩ := h0.out h
            subst h
            rw [Hz.out]
            omega
          · obtain ⟨rfl, rfl⟩ := h1.out h
            have a1 := HM.out 0 i (by omega) (by omega) (by rw [Hz.out]; omega)
            have a2 := HM.out (i - 1) i (by omega) (by omega) (by rw [Hz.out]; omega)
            rw [Hz.out] at a1 a2
            omega
        have qmin : ∀ tys ty w, (Builtin.min_ tys ty #[.int .i64 x, .int .i64 z]).run Try.prog w = .ok (.int .i64 (L 0)) w := fun _ _ _ => by rw [umin2, hx.1]
        have qmax : ∀ tys ty w, (Builtin.max_ tys ty #[.int .i64 y, .int .i64 z]).run Try.prog w = .ok (.int .i64 z) w := fun _ _ _ => by rw [umax2, hx.2]
        have t2 : decide (z < 0) = false := by simpa using hn0
        have wk : IntKind.i64.wrap (((lo + i : Nat) : Int) + 1) = ((lo + (i + 1) : Nat) : Int) := IntWalk.i64_in _ (by omega)
        clear hx h0 h1
        go_wp2_with fail
        go_roundw
        case rel =>
          refine ⟨i + 1, L 0, z, by omega, by go_num, rfl, rfl, Lib.hid (fun h => by omega), Lib.hid (fun _ => ⟨rfl, by rw [show i + 1 - 1 = i from by omega]; exact Hz.out.symm⟩), Lib.hid (fun j h => ?_), s0, s1, ns, M0, M1, M2, nM, r0, fr0, r1, fr1, nr, hB⟩
          rcases Nat.lt_or_ge j i with h | h
          · exact hj.out j h
          · obtain rfl : j = i := by omega
            rw [Hz.out]
            omega
        case measure => simp [RowKit.intOf]; omega
    · obtain rfl : i = n + 1 := by omega
      obtain ⟨rfl, rfl⟩ := h1.out (by omega)
      have e1 : V = zP (L 0) (L (n + 1 - 1)) 0 := by rw [← HV.out, if_neg (by have h1 := hj.out n (by omega); have h2 := HB.out n; omega)]; rfl
      have t1 : decide (((lo + (n + 1) : Nat) : Int) ≤ ((lo + n : Nat) : Int)) = false := by simp; omega
      have He1 := Lib.hid e1
      clear e1
      generalize L (n + 1 - 1) = z2 at *
      generalize L 0 = z1 at *
      clear h0 h1 hj HM HB HC HV hlt hi
      generalize ((lo + (n + 1) : Nat) : Int) = q1 at *
      generalize ((lo + n : Nat) : Int) = q2 at *
      go_wp2_with fail
      refine bodyPost_ret (v := zP z1 z2 0) (by simp [results, Try.results16, go_sem, r0, r1, fr0, fr1, zP]) rfl ⟨by rw [He1.out], ?_⟩
      exact ((hB.setCell (p := ⟨w.heap.size + 1 + 1, 0, none⟩) (by simp <;> omega) _).setCell (p := ⟨w.heap.size + 1 + 1, 1, none⟩) (by simp <;> omega) _)

theorem nat_of' {z : Int} (h : 0 ≤ z) : ∃ n : Nat, z = (n : Int) := ⟨z.toNat, by omega⟩
theorem rc_ok {a s t lo hi b m : Int} (h : rcE a s t lo hi b m = 0) : (0 ≤ a ∧ a ≤ 1000000000000 ∧ 0 ≤ s ∧ s ≤ 1000000000000) ∧ (0 ≤ t ∧ t ≤ 10000) ∧ (0 ≤ lo ∧ lo ≤ hi ∧ hi ≤ 10000) ∧ (1 ≤ b ∧ b ≤ 10000) ∧ 0 ≤ m ∧ m ≤ 200 := by
  unfold rcE at h
  by_cases h1 : (spB a s && inB 0 10000 t && rgB 0 10000 lo hi) = true
  · rw [if_pos h1] at h
    by_cases h2 : (inB 1 10000 b && inB 0 200 m) = true
    · simp [spB, rgB, inB] at h1 h2
      omega
    · rw [if_neg h2] at h; cases h
  · rw [if_neg h1] at h; cases h
/-- what Reach answers, whatever it is asked -/
def rcV (a s t lo hi b m : Int) : Value := if rcE a s t lo hi b m = 0 then (if lsI b.toNat t.toNat hi.toNat (a.toNat, s.toNat) m.toNat < 0 then zP 0 0 7 else zP (lsI b.toNat t.toNat lo.toNat (a.toNat, s.toNat) m.toNat) (lsI b.toNat t.toNat hi.toNat (a.toNat, s.toNat) m.toNat) 0) else zP 0 0 (rcE a s t lo hi b m)
theorem reach_any (a s t lo hi b m : Int) (w : World) : Calls Try.prog 15 #[.agg #[.int .i64 a, .int .i64 s], .agg #[.int .i64 t, .int .i64 lo, .int .i64 hi], .int .i64 b, .int .i64 m] w fun e w' => e = .returned (rcV a s t lo hi b m) ∧ Below w.heap.size w w' := by
  by_cases h : rcE a s t lo hi b m = 0
  · obtain ⟨⟨h1, h2, h3, h4⟩, ⟨h5, h6⟩, ⟨h7, h8, h9⟩, ⟨h10, h11⟩, h12, h13⟩ := rc_ok h
    unfold rcV
    rw [if_pos h]
    obtain ⟨a, rfl⟩ := nat_of' h1
    obtain ⟨s, rfl⟩ := nat_of' h3
    obtain ⟨t, rfl⟩ := nat_of' h5
    obtain ⟨lo, rfl⟩ := nat_of' h7
    obtain ⟨hi, rfl⟩ := nat_of' (show 0 ≤ hi by omega)
    obtain ⟨b, rfl⟩ := nat_of' (show 0 ≤ b by omega)
    obtain ⟨m, rfl⟩ := nat_of' h12
    exact reach_ok a s t lo hi b m (by omega) (by omega) (by omega) (by omega) (by omega) (by omega) (by omega) (by omega) w
  · unfold rcV
    rw [if_neg h]
    exact reach_bad a s t lo hi b m h w
theorem rReach_any (a s t lo hi b m : Int) (w : World) : Calls Try.prog 16 #[.agg #[.int .i64 a, .int .i64 s], .agg #[.int .i64 t, .int .i64 lo, .int .i64 hi], .int .i64 b, .int .i64 m] w fun e w' => e = .returned (rcV a s t lo hi b m) ∧ Below w.heap.size w w' := by
  by_cases h : rcE a s t lo hi b m = 0
  · obtain ⟨⟨h1, h2, h3, h4⟩, ⟨h5, h6⟩, ⟨h7, h8, h9⟩, ⟨h10, h11⟩, h12, h13⟩ := rc_ok h
    unfold rcV
    rw [if_pos h]
    obtain ⟨a, rfl⟩ := nat_of' h1
    obtain ⟨s, rfl⟩ := nat_of' h3
    obtain ⟨t, rfl⟩ := nat_of' h5
    obtain ⟨lo, rfl⟩ := nat_of' h7
    obtain ⟨hi, rfl⟩ := nat_of' (show 0 ≤ hi by omega)
    obtain ⟨b, rfl⟩ := nat_of' (show 0 ≤ b by omega)
    obtain ⟨m, rfl⟩ := nat_of' h12
    exact rReach_ok a s t lo hi b m (by omega) (by omega) (by omega) (by omega) (by omega) (by omega) (by omega) (by omega) w
  · unfold rcV
    rw [if_neg h]
    exact rReach_bad a s t lo hi b m h w
theorem zP_form (a s t lo hi b m : Int) : ∃ x y e : Int, rcV a s t lo hi b m = .tuple #[.agg #[.int .i64 x, .int .i64 y], .int .i64 e] := by
  unfold rcV
  by_cases h : rcE a s t lo hi b m = 0
  · rw [if_pos h]
    by_cases h2 : lsI b.toNat t.toNat hi.toNat (a.toNat, s.toNat) m.toNat < 0
    · rw [if_pos h2]; exact ⟨_, _, _, rfl⟩
    · rw [if_neg h2]; exact ⟨_, _, _, rfl⟩
  · rw [if_neg h]; exact ⟨_, _, _, rfl⟩
end Go.Proofs.Ytdlmkjllcejoaaa
