/- Tools: drawn regions that store at last into what they have loaded. Contracts of the law of chapter 11: large, own. -/
import Derived.Test.YtgklpbgdimkhaaaGreatJ14
namespace Go.Proofs.YtgklpbgdimkhaaaGreat
open Go.RowKit Go.Lib Go.Shelf
set_option linter.unusedVariables false
set_option linter.unusedSimpArgs false
attribute [local go_sem ↓] Go.wp_at_zero Go.wp_at_succ


section
variable {P : Program} {ops : Array Oper} {Q : Exit → Act → World → Prop} {md : Region.Mode} {S : World → Prop}
/-- whatever order is picked from here on; S holds behind each operation until number t has come up -/
def wpAnyL (P : Program) (md : Region.Mode) (ops : Array Oper) (Q : Exit → Act → World → Prop) (t : Nat) (S : World → Prop) : Nat → Array Bool → Act → World → Prop
 | 0, listed, a, w => Region.ready md ops listed = [] ∧ Q .normal a w
 | fuel + 1, listed, a, w =>
  (Region.ready md ops listed = [] → Q .normal a w) ∧
  ∀ i ∈ Region.ready md ops listed, wpOp P ops Q i (fun a' w' => (i ≠ t → listed.getD t true = false → S w') ∧ wpAnyL P md ops Q t S fuel (listed.setIfInBounds i true) a' w') a w
theorem wpAny_of_L {t : Nat} : ∀ (fuel : Nat) (listed : Array Bool) (a : Act) (w : World), wpAnyL P md ops Q t S fuel listed a w → wpAny P md ops Q fuel listed a w
 | 0, _, _, _, h => h
 | fuel + 1, _, _, _, h => ⟨h.1, fun i hi => wpOp_mono (fun a' w' h' => wpAny_of_L fuel _ a' w' h'.2) (h.2 i hi)⟩
theorem wpAnyL_first {i t : Nat} {oi ot : Oper} {v : Value} (hi : ops[i]? = some oi) (hot : ops[t]? = some ot) (hwait : ∃ e ∈ ot.after, Region.binds md e = true ∧ e.on = i)
  (hsel : ∀ (j : Nat) (o : Oper) cs b, ops[j]? = some o → o.op ≠ .select cs b) (hQ : ∀ c a w, Q (.panic c) (a.put oi.dst v) w → Q (.panic c) a w) :
  ∀ (fuel : Nat) (listed : Array Bool) (a : Act) (w : World),
   (∀ j oj, ops[j]? = some oj → j ≠ i → listed.getD j true = false → (∀ e ∈ oj.after, Region.binds md e = true → e.on ≠ i) → oi.apart ops oj = true) →
   i ∈ Region.ready md ops listed → YieldsIf P ops S oi v a → S w → listed.getD t true = false →
   wpAnyL P md ops Q t S fuel (listed.setIfInBounds i true) (a.put oi.dst v) w → wpAnyL P md ops Q t S (fuel + 1) listed a w := by
 intro fuel
 induction fuel with
 | zero =>
  intro listed a w _ hr hy hS _ H
  refine ⟨fun h => (by rw [h] at hr; cases hr), fun j hj => ?_⟩
  by_cases hji : j = i
  ·subst hji; exact hy.wpOp hi hS ⟨fun _ _ => hS, H⟩
  ·have := ready_mono hj hji
   rw [H.1] at this
   cases this
 | succ fuel ih =>
  intro listed a w hfree hr hy hS ht H
  refine ⟨fun h => (by rw [h] at hr; cases hr), fun j hj => ?_⟩
  by_cases hji : j = i
  ·subst hji; exact hy.wpOp hi hS ⟨fun _ _ => hS, H⟩
  ·have h1 := H.2 j (ready_mono hj hji)
   obtain ⟨hjun, oj, hoj, hall⟩ := mem_ready.1 hj
   have hnot : ∀ e ∈ oj.after, Region.binds md e = true → e.on ≠ i := fun e he hb heq => by
    have h1 := hall e he hb
    have h0 := (mem_ready.1 hr).1
    rw [heq] at h1
    rcases Nat.lt_or_ge i listed.size with h' | h'
    ·simp [h'] at h0 h1; rw [h0] at h1; cases h1
    ·simp [Array.getElem?_eq_none h'] at h1
   have hjt : j ≠ t := fun e => by
    subst e
    obtain ⟨e', h3, h4, h5⟩ := hwait
    rw [hoj] at hot; injection hot with hot; subst hot
    exact hnot e' h3 h4 h5
   have h2 := wpOp_putIf hoj (hfree j oj hoj hji hjun hnot) (fun cs b => hsel i oi cs b hi) (fun cs b => hsel j oj cs b hoj) hQ hy h1
   have hfree' : ∀ k ok, ops[k]? = some ok → k ≠ i → (listed.setIfInBounds j true).getD k true = false →
     (∀ e ∈ ok.after, Region.binds md e = true → e.on ≠ i) → oi.apart ops ok = true := fun k ok hk hki hun hno => by
    refine hfree k ok hk hki ?_ hno
    by_cases hjk : j = k
    ·subst hjk; exact hjun
    ·rw [getD_set_ne true hjk] at hun; exact hun
   have hit : i ≠ t := fun e => by
    subst e
    obtain ⟨e', h3, h4, h5⟩ := hwait
    obtain ⟨hun, o, ho, hal⟩ := mem_ready.1 hr
    rw [ho] at hot; injection hot with hot; subst hot
    have h6 := hal e' h3 h4
    rw [h5] at h6
    rcases Nat.lt_or_ge i listed.size with h' | h'
    ·simp [h'] at hun h6; rw [hun] at h6; cases h6
    ·simp [Array.getElem?_eq_none h'] at h6
   refine wpOp_mono (fun a' w' h3 => ?_) h2
   have hS' : S w' := h3.2.1 hjt (by rw [getD_set_ne true hit]; exact ht)
   refine ⟨fun _ _ => hS', ih (listed.setIfInBounds j true) a' w' hfree' (ready_mono hr (Ne.symm hji)) h3.1 hS' (by rw [getD_set_ne true hjt]; exact ht) ?_⟩
   rw [Array.setIfInBounds_comm _ _ hji]
   exact h3.2.2
theorem take_slotL {t : Nat} {i d : Nat} {oi ot : Oper} {v : Value} {fuel : Nat} {listed : Array Bool} {a : Act} {w : World} (hi : ops[i]? = some oi) (hot : ops[t]? = some ot) (hd : oi.dst = some d)
  (hwait : (ot.after.toList.any fun e => Region.binds md e && e.on == i) = true) (ht : listed.getD t true = false)
  (hs : Region.noSelect ops = true) (hf : Region.free md ops listed i = true) (hr : (Region.ready md ops listed).contains i = true)
  (hQ : ∀ c a w, Q (.panic c) (a.put (some d) v) w → Q (.panic c) a w) (hy : YieldsIf P ops S oi v a) (hS : S w)
  (h : wpAnyL P md ops Q t S fuel (listed.setIfInBounds i true) { a with tmps := a.tmps.setIfInBounds d v } w) : wpAnyL P md ops Q t S (fuel + 1) listed a w :=
 wpAnyL_first hi hot (by
  obtain ⟨e, he, hb⟩ := List.any_eq_true.1 hwait
  simp only [Bool.and_eq_true, beq_iff_eq] at hb
  exact ⟨e, by simpa using he, hb.1, hb.2⟩) (Region.noSelect_spec hs) (by rw [hd]; exact hQ) fuel listed a w (Region.free_spec hi hf) (by simpa using hr) hy hS ht (by rw [hd]; exact h)
def AllReadyL (P : Program) (md : Region.Mode) (ops : Array Oper) (Q : Exit → Act → World → Prop) (t : Nat) (S : World → Prop) (fuel : Nat) (listed : Array Bool) (a : Act) (w : World) (rs : List Nat) : Prop :=
 ∀ i ∈ rs, wpOp P ops Q i (fun a' w' => (i ≠ t → listed.getD t true = false → S w') ∧ wpAnyL P md ops Q t S fuel (listed.setIfInBounds i true) a' w') a w
theorem AllReadyL.nil {t fuel : Nat} {listed : Array Bool} {a : Act} {w : World} : AllReadyL P md ops Q t S fuel listed a w [] := fun _ h => by cases h
theorem AllReadyL.cons {t fuel : Nat} {listed : Array Bool} {a : Act} {w : World} {i : Nat} {o : Oper} {rs : List Nat} (ho : ops[i]? = some o)
  (h : ∀ K' : Act → World → Prop, Shut (∀ a w, S w → (S w → wpAnyL P md ops Q t S fuel (listed.setIfInBounds i true) a w) → K' a w) → if Region.wanted o (yielded ops a.tmps) = true then Oper.wp P o a w K' Q else K' (a.put o.dst undef) w)
  (hs : AllReadyL P md ops Q t S fuel listed a w rs) : AllReadyL P md ops Q t S fuel listed a w (i :: rs) := fun j hj => by
 rcases List.mem_cons.1 hj with rfl | hj
 ·exact wpOp_step ho (fun K' hK => h K' (fun a w hS hW => hK a w ⟨fun _ _ => hS, hW hS⟩))
 ·exact hs j hj
theorem AllReadyL.consT {t fuel : Nat} {listed : Array Bool} {a : Act} {w : World} {i : Nat} {o : Oper} {rs : List Nat} (ho : ops[i]? = some o) (hT : (i == t || listed.getD t true) = true)
  (h : ∀ K' : Act → World → Prop, Shut (∀ a w, wpAnyL P md ops Q t S fuel (listed.setIfInBounds i true) a w → K' a w) → if Region.wanted o (yielded ops a.tmps) = true then Oper.wp P o a w K' Q else K' (a.put o.dst undef) w)
  (hs : AllReadyL P md ops Q t S fuel listed a w rs) : AllReadyL P md ops Q t S fuel listed a w (i :: rs) := fun j hj => by
 rcases List.mem_cons.1 hj with rfl | hj
 ·exact wpOp_step ho (fun K' hK => h K' (fun a w hW => hK a w ⟨fun h1 h2 => (by rw [Bool.or_eq_true, beq_iff_eq] at hT; rcases hT with hT | hT; exact absurd hT h1; rw [h2] at hT; cases hT), hW⟩))
 ·exact hs j hj
theorem wpAnyL_ready {t : Nat} {rs : List Nat} {fuel : Nat} {listed : Array Bool} {a : Act} {w : World} (hr : Region.ready md ops listed = rs) (hne : rs ≠ [])
  (h : AllReadyL P md ops Q t S fuel listed a w rs) : wpAnyL P md ops Q t S (fuel + 1) listed a w := ⟨fun h0 => absurd (hr ▸ h0) hne, hr ▸ h⟩
theorem wpAnyL_done {t : Nat} {listed : Array Bool} {a : Act} {w : World} (hr : Region.ready md ops listed = []) (h : Q .normal a w) : ∀ fuel, wpAnyL P md ops Q t S fuel listed a w
 | 0 => ⟨hr, h⟩
 | _ + 1 => ⟨fun _ => h, by rw [hr]; simp⟩
theorem wp_region_L_drew {id : Nat} {a : Act} {w : World} (t : Nat) (hm : P.follows .mixedOrders = true) (hS : S w.drew)
  (h : S w.drew → wpAnyL P .any ops Q t S ops.size (Array.replicate ops.size false) a w.drew) : (Code.region id ops true).wp P Q a w :=
 wp_region_any hm (wpAny_of_L _ _ _ _ (h hS))
end

theorem flat_len {α : Type} {N : Nat} {c : α → List Value} (hN : ∀ x, (c x).length = N) : ∀ xs : List α, (xs.flatMap c).length = xs.length * N
 | [] => by simp
 | a :: xs => by
  rw [List.flatMap_cons, List.length_append, flat_len hN xs, hN, List.length_cons, Nat.add_mul]; omega
theorem flat_get {α : Type} {N : Nat} {c : α → List Value} (hN : ∀ x, (c x).length = N) : ∀ (xs : List α) (k : Nat) (x : α), xs[k]? = some x → ∀ j u, (c x)[j]? = some u → (xs.flatMap c)[k * N + j]? = some u
 | [], k, x, h => by simp at h
 | a :: xs, k, x, h => by
  intro j u hj
  rw [List.flatMap_cons]
  rcases k with _ | k
  ·simp at h; subst h
   rw [Nat.zero_mul, Nat.zero_add, List.getElem?_append_left (List.getElem?_eq_some_iff.1 hj).1]
   exact hj
  ·rw [List.getElem?_append_right (by rw [hN, Nat.add_mul]; omega), hN]
   have := flat_get hN xs k x (by simpa using h) j u hj
   rw [show (k + 1) * N + j - N = k * N + j by rw [Nat.add_mul]; omega]
   exact this
theorem flat_of {α : Type} {N : Nat} {c : α → List Value} (hN : ∀ x, (c x).length = N) : ∀ (xs : List α) (i : Nat) (u : Value), (xs.flatMap c)[i]? = some u → ∃ k j x, i = k * N + j ∧ xs[k]? = some x ∧ (c x)[j]? = some u
 | [], i, u, h => by simp at h
 | a :: xs, i, u, h => by
  rw [List.flatMap_cons] at h
  rcases Nat.lt_or_ge i N with hi | hi
  ·rw [List.getElem?_append_left (by rw [hN]; exact hi)] at h
   exact ⟨0, i, a, by simp, rfl, h⟩
  ·rw [List.getElem?_append_right (by rw [hN]; exact hi), hN] at h
   obtain ⟨k, j, x, h1, h2, h3⟩ := flat_of hN xs (i - N) u h
   exact ⟨k + 1, j, x, by rw [Nat.add_mul]; omega, by simpa using h2, h3⟩
/-- rows in a block that is not below lo -/
def RsFr {α : Type} (N : Nat) (c : α → List Value) (lo : Nat) (w : World) (v : Value) (xs : List α) : Prop :=
 ∃ A cp, v = .slice A xs.length cp ∧ (0 < xs.length → ∃ g off, A = some ⟨g, off, none⟩ ∧ lo ≤ g ∧ g < w.heap.size ∧ ∀ k x, xs[k]? = some x → ∀ j u, (c x)[j]? = some u → w.cell? ⟨g, off + k * N + j, none⟩ = some u)
theorem RsFr.rs {α : Type} {N : Nat} {c : α → List Value} {lo : Nat} {w : World} {v : Value} {xs : List α} (h : RsFr N c lo w v xs) : RsAt N c w.heap.size w v xs := by
 obtain ⟨A, cp, rfl, h⟩ := h
 refine ⟨A, cp, rfl, fun h0 => ?_⟩
 obtain ⟨g, off, rfl, _, hg, hr⟩ := h h0
 exact ⟨g, off, rfl, hg, hr⟩
theorem RsFr.slice {α : Type} {N : Nat} {c : α → List Value} {lo : Nat} {w : World} {v : Value} {xs : List α} (h : RsFr N c lo w v xs) : ∃ A cp, v = .slice A xs.length cp := by
 obtain ⟨A, cp, rfl, _⟩ := h; exact ⟨A, cp, rfl⟩
theorem RsFr.lower {α : Type} {N : Nat} {c : α → List Value} {lo lo' : Nat} {w : World} {v : Value} {xs : List α} (h : RsFr N c lo w v xs) (hl : lo' ≤ lo) : RsFr N c lo' w v xs := by
 obtain ⟨A, cp, rfl, h⟩ := h
 refine ⟨A, cp, rfl, fun h0 => ?_⟩
 obtain ⟨g, off, rfl, h1, hg, hr⟩ := h h0
 exact ⟨g, off, rfl, Nat.le_trans hl h1, hg, hr⟩
theorem RsFr.next {α : Type} {N : Nat} {c : α → List Value} {lo : Nat} {w w' : World} {v : Value} {xs : List α} (h : RsFr N c lo w v xs) (hb : Below w.heap.size w w') : RsFr N c lo w' v xs := by
 obtain ⟨A, cp, rfl, h⟩ := h
 refine ⟨A, cp, rfl, fun h0 => ?_⟩
 obtain ⟨g, off, rfl, h1, hg, hr⟩ := h h0
 exact ⟨g, off, rfl, h1, Nat.lt_of_lt_of_le hg hb.size, fun k x hx j u hj => cell_next hb hg (hr k x hx j u hj)⟩
theorem RsFr.set {α : Type} {N : Nat} {c : α → List Value} {lo : Nat} {w : World} {v : Value} {xs : List α} (h : RsFr N c lo w v xs) (b o : Nat) (u : Value) (hb : b < lo) : RsFr N c lo (w.setCell ⟨b, o, none⟩ u) v xs := by
 obtain ⟨A, cp, rfl, h⟩ := h
 refine ⟨A, cp, rfl, fun h0 => ?_⟩
 obtain ⟨g, off, rfl, h1, hg, hr⟩ := h h0
 refine ⟨g, off, rfl, h1, by simpa [World.setCell] using hg, fun k x hx j y hj => ?_⟩
 exact (so (by omega)).trans (hr k x hx j y hj)
section
variable {P : Program}
theorem run_copy {α : Type} {N bytes : Nat} {c : α → List Value} (w : World) (t ty e : TypeId) (i : TypeInfo) (z : Value) (ht : P.underlying t = some (.slice e)) (hi : P.info? e = some i) (hz : i.zero = some z)
  (hsize : i.size = N) (hby : i.bytes = bytes) (hN : ∀ x, (c x).length = N) (b : Addr) (v : Value) (xs : List α) (B : Nat) (hB : B ≤ w.heap.size) (hv : RsAt N c B w v xs)
  (hl : xs.length * bytes ≤ 140737488355328) (h63 : xs.length ≤ 1000000000000) :
  ∃ v' w', (Builtin.append_ #[t, t] ty #[.slice (some b) 0 0, v]).run P w = .ok v' w' ∧ RsFr N c w.heap.size w' v' xs ∧ Below w.heap.size w w' := by
 obtain ⟨A, cp, rfl, h⟩ := hv
 rcases Nat.eq_zero_or_pos xs.length with h0 | h0
 ·obtain rfl := List.length_eq_zero_iff.1 h0
  refine ⟨.slice (some b) 0 0, w, ?_, ⟨some b, 0, rfl, fun h => by simp at h⟩, Below.refl _ _⟩
  have hf : (Builtin.firstCells i.size 0 (.slice A 0 cp)).run P w = .ok #[] w := by
   rcases A with _ | A
   ·exact run_firstCells_none _ _ _ _ _
   ·exact run_firstCells_some (P := P) (w := w) i.size 0 A 0 cp [] (by simp) (by simp)
  rcases A with _ | A
  ·simp [Builtin.append_, run_underlying ht, Builtin.lenOf, sizeOf, typeInfo, hi, hf, storeCells]
  ·simp [Builtin.append_, run_underlying ht, Builtin.lenOf, sizeOf, typeInfo, hi, hf, storeCells]
 ·obtain ⟨g, off, rfl, hg, hr⟩ := h h0
  have hf : (xs.flatMap c).length = xs.length * i.size := by rw [hsize]; exact flat_len hN xs
  have hrun := run_append_grow (P := P) (w := w) t ty e i z ht hi hz b 0 0 [] (by simp) (by simp) ⟨g, off, none⟩ xs.length cp (xs.flatMap c) hf
   (fun j u hj => by
    obtain ⟨k, j', x, rfl, hx, hu⟩ := flat_of hN xs j u hj
    have := hr k x hx j' u hu
    rw [Addr.add_lit]; rw [← Nat.add_assoc]; exact this) (by omega) (by omega) (by rw [Nat.zero_add, nextslicecap_zero h0, hby]; omega)
  rw [Nat.zero_add] at hrun
  refine ⟨_, _, hrun, ⟨_, _, rfl, fun _ => ⟨_, _, rfl, Nat.le_refl _, ?_, ?_⟩⟩, ?_⟩
  ·show w.heap.size < _
   simp
  ·intro k x hx j u hj
   have h1 := flat_get hN xs k x hx j u hj
   have h2 : (w.drew.alloc (.cells (([] : List Value).toArray ++ (xs.flatMap c).toArray ++ Builtin.zeroCells z.cells (grownCap w xs.length 0 e - xs.length)) e)).heap[w.heap.size]? = some (.cells (([] : List Value).toArray ++ (xs.flatMap c).toArray ++ Builtin.zeroCells z.cells (grownCap w xs.length 0 e - xs.length)) e (0, 0)) := heap_alloc_new w.drew _
   have h3 := cell_of_row _ w.heap.size (0 + k * N + j) _ e (0, 0) h2
   refine h3.trans ?_
   rw [Nat.zero_add, Array.getElem?_append_left (by simpa using (List.getElem?_eq_some_iff.1 h1).1)]
   simpa using h1
  ·exact (Below.drew (Below.refl _ _)).alloc (Nat.le_refl _) _
theorem wp_copy {α : Type} {N bytes : Nat} {c : α → List Value} (w : World) {o : Oper} {a : Act} {K : Act → World → Prop} {Q : Exit → Act → World → Prop} (s x : Operand) (t e : TypeId)
  (ho : o.op = .call { callee := .builtin .append, args := #[s, x], argTypes := #[t, t] }) (i : TypeInfo) (z : Value) (ht : P.underlying t = some (.slice e)) (hi : P.info? e = some i) (hz : i.zero = some z)
  (hsize : i.size = N) (hby : i.bytes = bytes) (hN : ∀ x, (c x).length = N) (b : Addr) (v : Value) (xs : List α) (B : Nat) (hs : a.eval s = .slice (some b) 0 0) (hx : a.eval x = v) (hB : B ≤ w.heap.size) (hv : RsAt N c B w v xs)
  (hl : xs.length * bytes ≤ 140737488355328) (h63 : xs.length ≤ 1000000000000)
  (h : ∀ v' w', RsFr N c w.heap.size w' v' xs → Below w.heap.size w w' → K (a.put o.dst v') w') : o.wp P a w K Q := by
 obtain ⟨v', w', hr, h1, h2⟩ := run_copy (P := P) w t o.type e i z ht hi hz hsize hby hN b v xs B hB hv hl h63
 unfold Oper.wp execOp
 simp only [ho, resolve, invoke, builtin, Sem.run_bind, Sem.run_pure, Result.andThen_ok, List.map_toArray, List.map_cons, List.map_nil, hs, hx, hr]
 exact h v' w' h1 h2
theorem wpList_copy {α : Type} {N bytes : Nat} {c : α → List Value} (w : World) {ops : Array Oper} {rest : List Oper} {o : Oper} {a : Act} {Q : Exit → Act → World → Prop} (hgd : o.guard = none) (s x : Operand) (t e : TypeId)
  (ho : o.op = .call { callee := .builtin .append, args := #[s, x], argTypes := #[t, t] }) (i : TypeInfo) (z : Value) (ht : P.underlying t = some (.slice e)) (hi : P.info? e = some i) (hz : i.zero = some z)
  (hsize : i.size = N) (hby : i.bytes = bytes) (hN : ∀ x, (c x).length = N) (b : Addr) (v : Value) (xs : List α) (B : Nat) (hs : a.eval s = .slice (some b) 0 0) (hx : a.eval x = v) (hB : B ≤ w.heap.size) (hv : RsAt N c B w v xs)
  (hl : xs.length * bytes ≤ 140737488355328) (h63 : xs.length ≤ 1000000000000)
  (h : ∀ v' w', RsFr N c w.heap.size w' v' xs → Below w.heap.size w w' → wpList P ops Q rest (a.put o.dst v') w') : wpList P ops Q (o :: rest) a w :=
 wpList_plain hgd fun _ hK => wp_copy w s x t e ho i z ht hi hz hsize hby hN b v xs B hs hx hB hv hl h63 fun v' w' h1 h2 => hK _ _ (h v' w' h1 h2)
theorem step_copy {α : Type} {N bytes : Nat} {c : α → List Value} (w : World) {ops : Array Oper} {o : Oper} {a : Act} {K : Act → World → Prop} {Q : Exit → Act → World → Prop} {E : Prop} (hgd : o.guard = none) (s x : Operand) (t e : TypeId) (d : Nat) (hd : o.dst = some d)
  (ho : o.op = .call { callee := .builtin .append, args := #[s, x], argTypes := #[t, t] }) (i : TypeInfo) (z : Value) (ht : P.underlying t = some (.slice e)) (hi : P.info? e = some i) (hz : i.zero = some z)
  (hsize : i.size = N) (hby : i.bytes = bytes) (hN : ∀ x, (c x).length = N) (b : Addr) (v : Value) (xs : List α) (B : Nat) (hs : a.eval s = .slice (some b) 0 0) (hx : a.eval x = v) (hB : B ≤ w.heap.size) (hv : RsAt N c B w v xs)
  (hl : xs.length * bytes ≤ 140737488355328) (h63 : xs.length ≤ 1000000000000)
  (h : ∀ v' w', RsFr N c w.heap.size w' v' xs → Below w.heap.size w w' → K (a.put (some d) v') w') :
  if Region.wanted o (yielded ops a.tmps) = true then Oper.wp P o a w K Q else E := by
 have hw : Region.wanted o (yielded ops a.tmps) = true := by simp [Region.wanted, hgd]
 rw [if_pos hw]
 exact wp_copy w s x t e ho i z ht hi hz hsize hby hN b v xs B hs hx hB hv hl h63 (fun v' w' h1 h2 => by rw [hd]; exact h v' w' h1 h2)
end
theorem infoPd : (Tryz.prog.info? 41).map (fun i => (i.zero, i.size, i.bytes)) = some (some (.agg #[.int .i64 0, .int .i64 0, .int .i64 0, .int .i64 0, .int .i64 0, .int .i64 0, .int .i64 0, .int .i64 0]), 8, 64) := by kernel_rfl

theorem rs_set {B : Nat} {w : World} {v : Value} {xs : List (Int × Int)} (h : RsAt 2 cR B w v xs) : SetAt B w v xs := by
 obtain ⟨A, c, rfl, h⟩ := h
 refine ⟨A, c, rfl, fun hn => ?_⟩
 obtain ⟨g, off, rfl, hg, hr⟩ := h hn
 exact ⟨g, off, rfl, hg, fun k p hp => ⟨hr k p hp 0 _ rfl, hr k p hp 1 _ rfl⟩⟩

set_option maxRecDepth 20000 in
set_option maxHeartbeats 4000000 in
theorem own_any (v1 v2 v3 : Value) (R : Cr) (w : World) (hl1 : R.xs.length ≤ 70) (hl2 : R.ys.length ≤ 70) (hl3 : R.ps.length ≤ 12) (hR : CrAt w.heap.size w v1 v2 v3 R) :
  Calls Tryz.prog 12 #[.agg (cCr v1 v2 v3 R).toArray] w fun e w' => ∃ u1 u2 u3, e = .returned (.agg (cCr u1 u2 u3 R).toArray) ∧ CrAt w'.heap.size w' u1 u2 u3 R ∧ Below w.heap.size w w' := by
 obtain ⟨i0, hi0, hz0, hz1, hz2⟩ := info_parts infoRow
 obtain ⟨j0, hj0, hjz0, hjz1, hjz2⟩ := info_parts infoPd
 obtain ⟨A1, c1, A2, c2, A3, c3, rfl, rfl, rfl⟩ := hR.slices
 obtain ⟨xs, ys, bl, bh, ps⟩ := R
 have HR := Lib.hid hR
 clear hR
 dsimp only at *
 dsimp only [cCr]
 go_enter Tryz.func12, Tryz.ntmps12
 go_wp2_with fail
 have hb : Below w.heap.size w ((w.alloc (Obj.cells #[.slice A1 xs.length c1, .slice A2 ys.length c2, .int .i64 bl, .int .i64 bh, .slice A3 ps.length c3] 27)).alloc (Obj.cells #[.slice none 0 0, .slice none 0 0, .int .i64 0, .int .i64 0, .slice none 0 0] 27)) := (((Below.refl _ _).alloc (Nat.le_refl _) _).alloc (by simp <;> omega) _)
 have p0 : ((w.alloc (Obj.cells #[.slice A1 xs.length c1, .slice A2 ys.length c2, .int .i64 bl, .int .i64 bh, .slice A3 ps.length c3] 27)).alloc (Obj.cells #[.slice none 0 0, .slice none 0 0, .int .i64 0, .int .i64 0, .slice none 0 0] 27)).cell? ⟨w.heap.size, 0, none⟩ = some (.slice A1 xs.length c1) := by simp [go_sem]
 have fp0 : ((w.alloc (Obj.cells #[.slice A1 xs.length c1, .slice A2 ys.length c2, .int .i64 bl, .int .i64 bh, .slice A3 ps.length c3] 27)).alloc (Obj.cells #[.slice none 0 0, .slice none 0 0, .int .i64 0, .int .i64 0, .slice none 0 0] 27)).frozen? ⟨w.heap.size, 0, none⟩ = false := by simp [go_sem]
 have p1 : ((w.alloc (Obj.cells #[.slice A1 xs.length c1, .slice A2 ys.length c2, .int .i64 bl, .int .i64 bh, .slice A3 ps.length c3] 27)).alloc (Obj.cells #[.slice none 0 0, .slice none 0 0, .int .i64 0, .int .i64 0, .slice none 0 0] 27)).cell? ⟨w.heap.size, 1, none⟩ = some (.slice A2 ys.length c2) := by simp [go_sem]
 have fp1 : ((w.alloc (Obj.cells #[.slice A1 xs.length c1, .slice A2 ys.length c2, .int .i64 bl, .int .i64 bh, .slice A3 ps.length c3] 27)).alloc (Obj.cells #[.slice none 0 0, .slice none 0 0, .int .i64 0, .int .i64 0, .slice none 0 0] 27)).frozen? ⟨w.heap.size, 1, none⟩ = false := by simp [go_sem]
 have p2 : ((w.alloc (Obj.cells #[.slice A1 xs.length c1, .slice A2 ys.length c2, .int .i64 bl, .int .i64 bh, .slice A3 ps.length c3] 27)).alloc (Obj.cells #[.slice none 0 0, .slice none 0 0, .int .i64 0, .int .i64 0, .slice none 0 0] 27)).cell? ⟨w.heap.size, 2, none⟩ = some (.int .i64 bl) := by simp [go_sem]
 have fp2 : ((w.alloc (Obj.cells #[.slice A1 xs.length c1, .slice A2 ys.length c2, .int .i64 bl, .int .i64 bh, .slice A3 ps.length c3] 27)).alloc (Obj.cells #[.slice none 0 0, .slice none 0 0, .int .i64 0, .int .i64 0, .slice none 0 0] 27)).frozen? ⟨w.heap.size, 2, none⟩ = false := by simp [go_sem]
 have p3 : ((w.alloc (Obj.cells #[.slice A1 xs.length c1, .slice A2 ys.length c2, .int .i64 bl, .int .i64 bh, .slice A3 ps.length c3] 27)).alloc (Obj.cells #[.slice none 0 0, .slice none 0 0, .int .i64 0, .int .i64 0, .slice none 0 0] 27)).cell? ⟨w.heap.size, 3, none⟩ = some (.int .i64 bh) := by simp [go_sem]
 have fp3 : ((w.alloc (Obj.cells #[.slice A1 xs.length c1, .slice A2 ys.length c2, .int .i64 bl, .int .i64 bh, .slice A3 ps.length c3] 27)).alloc (Obj.cells #[.slice none 0 0, .slice none 0 0, .int .i64 0, .int .i64 0, .slice none 0 0] 27)).frozen? ⟨w.heap.size, 3, none⟩ = false := by simp [go_sem]
 have p4 : ((w.alloc (Obj.cells #[.slice A1 xs.length c1, .slice A2 ys.length c2, .int .i64 bl, .int .i64 bh, .slice A3 ps.length c3] 27)).alloc (Obj.cells #[.slice none 0 0, .slice none 0 0, .int .i64 0, .int .i64 0, .slice none 0 0] 27)).cell? ⟨w.heap.size, 4, none⟩ = some (.slice A3 ps.length c3) := by simp [go_sem]
 have fp4 : ((w.alloc (Obj.cells #[.slice A1 xs.length c1, .slice A2 ys.length c2, .int .i64 bl, .int .i64 bh, .slice A3 ps.length c3] 27)).alloc (Obj.cells #[.slice none 0 0, .slice none 0 0, .int .i64 0, .int .i64 0, .slice none 0 0] 27)).frozen? ⟨w.heap.size, 4, none⟩ = false := by simp [go_sem]
 have np : w.heap.size < ((w.alloc (Obj.cells #[.slice A1 xs.length c1, .slice A2 ys.length c2, .int .i64 bl, .int .i64 bh, .slice A3 ps.length c3] 27)).alloc (Obj.cells #[.slice none 0 0, .slice none 0 0, .int .i64 0, .int .i64 0, .slice none 0 0] 27)).heap.size := by simp <;> omega
 have r0 : ((w.alloc (Obj.cells #[.slice A1 xs.length c1, .slice A2 ys.length c2, .int .i64 bl, .int .i64 bh, .slice A3 ps.length c3] 27)).alloc (Obj.cells #[.slice none 0 0, .slice none 0 0, .int .i64 0, .int .i64 0, .slice none 0 0] 27)).cell? ⟨w.heap.size + 1, 0, none⟩ = some (.slice none 0 0) := by simp [go_sem]
 have fr0 : ((w.alloc (Obj.cells #[.slice A1 xs.length c1, .slice A2 ys.length c2, .int .i64 bl, .int .i64 bh, .slice A3 ps.length c3] 27)).alloc (Obj.cells #[.slice none 0 0, .slice none 0 0, .int .i64 0, .int .i64 0, .slice none 0 0] 27)).frozen? ⟨w.heap.size + 1, 0, none⟩ = false := by simp [go_sem]
 have r1 : ((w.alloc (Obj.cells #[.slice A1 xs.length c1, .slice A2 ys.length c2, .int .i64 bl, .int .i64 bh, .slice A3 ps.length c3] 27)).alloc (Obj.cells #[.slice none 0 0, .slice none 0 0, .int .i64 0, .int .i64 0, .slice none 0 0] 27)).cell? ⟨w.heap.size + 1, 1, none⟩ = some (.slice none 0 0) := by simp [go_sem]
 have fr1 : ((w.alloc (Obj.cells #[.slice A1 xs.length c1, .slice A2 ys.length c2, .int .i64 bl, .int .i64 bh, .slice A3 ps.length c3] 27)).alloc (Obj.cells #[.slice none 0 0, .slice none 0 0, .int .i64 0, .int .i64 0, .slice none 0 0] 27)).frozen? ⟨w.heap.size + 1, 1, none⟩ = false := by simp [go_sem]
 have r2 : ((w.alloc (Obj.cells #[.slice A1 xs.length c1, .slice A2 ys.length c2, .int .i64 bl, .int .i64 bh, .slice A3 ps.length c3] 27)).alloc (Obj.cells #[.slice none 0 0, .slice none 0 0, .int .i64 0, .int .i64 0, .slice none 0 0] 27)).cell? ⟨w.heap.size + 1, 2, none⟩ = some (.int .i64 0) := by simp [go_sem]
 have fr2 : ((w.alloc (Obj.cells #[.slice A1 xs.length c1, .slice A2 ys.length c2, .int .i64 bl, .int .i64 bh, .slice A3 ps.length c3] 27)).alloc (Obj.cells #[.slice none 0 0, .slice none 0 0, .int .i64 0, .int .i64 0, .slice none 0 0] 27)).frozen? ⟨w.heap.size + 1, 2, none⟩ = false := by simp [go_sem]
 have r3 : ((w.alloc (Obj.cells #[.slice A1 xs.length c1, .slice A2 ys.length c2, .int .i64 bl, .int .i64 bh, .slice A3 ps.length c3] 27)).alloc (Obj.cells #[.slice none 0 0, .slice none 0 0, .int .i64 0, .int .i64 0, .slice none 0 0] 27)).cell? ⟨w.heap.size + 1, 3, none⟩ = some (.int .i64 0) := by simp [go_sem]
 have fr3 : ((w.alloc (Obj.cells #[.slice A1 xs.length c1, .slice A2 ys.length c2, .int .i64 bl, .int .i64 bh, .slice A3 ps.length c3] 27)).alloc (Obj.cells #[.slice none 0 0, .slice none 0 0, .int .i64 0, .int .i64 0, .slice none 0 0] 27)).frozen? ⟨w.heap.size + 1, 3, none⟩ = false := by simp [go_sem]
 have r4 : ((w.alloc (Obj.cells #[.slice A1 xs.length c1, .slice A2 ys.length c2, .int .i64 bl, .int .i64 bh, .slice A3 ps.length c3] 27)).alloc (Obj.cells #[.slice none 0 0, .slice none 0 0, .int .i64 0, .int .i64 0, .slice none 0 0] 27)).cell? ⟨w.heap.size + 1, 4, none⟩ = some (.slice none 0 0) := by simp [go_sem]
 have fr4 : ((w.alloc (Obj.cells #[.slice A1 xs.length c1, .slice A2 ys.length c2, .int .i64 bl, .int .i64 bh, .slice A3 ps.length c3] 27)).alloc (Obj.cells #[.slice none 0 0, .slice none 0 0, .int .i64 0, .int .i64 0, .slice none 0 0] 27)).frozen? ⟨w.heap.size + 1, 4, none⟩ = false := by simp [go_sem]
 have nr : w.heap.size + 1 < ((w.alloc (Obj.cells #[.slice A1 xs.length c1, .slice A2 ys.length c2, .int .i64 bl, .int .i64 bh, .slice A3 ps.length c3] 27)).alloc (Obj.cells #[.slice none 0 0, .slice none 0 0, .int .i64 0, .int .i64 0, .slice none 0 0] 27)).heap.size := by simp <;> omega
 have hB := hb
 clear hb
 generalize ((w.alloc (Obj.cells #[.slice A1 xs.length c1, .slice A2 ys.length c2, .int .i64 bl, .int .i64 bh, .slice A3 ps.length c3] 27)).alloc (Obj.cells #[.slice none 0 0, .slice none 0 0, .int .i64 0, .int .i64 0, .slice none 0 0] 27)) = W1 at *
 have hBW : w.heap.size ≤ W1.heap.size := hB.size
 refine wp_region_L_drew 9 (S := fun w' => w'.cell? ⟨w.heap.size, 0, none⟩ = some (.slice A1 xs.length c1) ∧ w'.cell? ⟨w.heap.size, 1, none⟩ = some (.slice A2 ys.length c2) ∧ True) (by kernel_rfl) ?_ (fun hHeld => ?_)
 focus (exact ⟨p0, p1, trivial⟩)
 replace p0 : W1.drew.cell? ⟨w.heap.size, 0, none⟩ = some (.slice A1 xs.length c1) := p0
 replace p1 : W1.drew.cell? ⟨w.heap.size, 1, none⟩ = some (.slice A2 ys.length c2) := p1
 replace p2 : W1.drew.cell? ⟨w.heap.size, 2, none⟩ = some (.int .i64 bl) := p2
 replace p3 : W1.drew.cell? ⟨w.heap.size, 3, none⟩ = some (.int .i64 bh) := p3
 replace p4 : W1.drew.cell? ⟨w.heap.size, 4, none⟩ = some (.slice A3 ps.length c3) := p4
 replace fp0 : W1.drew.frozen? ⟨w.heap.size, 0, none⟩ = false := fp0
 replace fp1 : W1.drew.frozen? ⟨w.heap.size, 1, none⟩ = false := fp1
 replace fp2 : W1.drew.frozen? ⟨w.heap.size, 2, none⟩ = false := fp2
 replace fp3 : W1.drew.frozen? ⟨w.heap.size, 3, none⟩ = false := fp3
 replace fp4 : W1.drew.frozen? ⟨w.heap.size, 4, none⟩ = false := fp4
 replace r0 : W1.drew.cell? ⟨w.heap.size + 1, 0, none⟩ = some (.slice none 0 0) := r0
 replace r1 : W1.drew.cell? ⟨w.heap.size + 1, 1, none⟩ = some (.slice none 0 0) := r1
 replace r2 : W1.drew.cell? ⟨w.heap.size + 1, 2, none⟩ = some (.int .i64 0) := r2
 replace r3 : W1.drew.cell? ⟨w.heap.size + 1, 3, none⟩ = some (.int .i64 0) := r3
 replace r4 : W1.drew.cell? ⟨w.heap.size + 1, 4, none⟩ = some (.slice none 0 0) := r4
 replace fr0 : W1.drew.frozen? ⟨w.heap.size + 1, 0, none⟩ = false := fr0
 replace fr1 : W1.drew.frozen? ⟨w.heap.size + 1, 1, none⟩ = false := fr1
 replace fr2 : W1.drew.frozen? ⟨w.heap.size + 1, 2, none⟩ = false := fr2
 replace fr3 : W1.drew.frozen? ⟨w.heap.size + 1, 3, none⟩ = false := fr3
 replace fr4 : W1.drew.frozen? ⟨w.heap.size + 1, 4, none⟩ = false := fr4
 replace np : w.heap.size < W1.drew.heap.size := np
 replace nr : w.heap.size + 1 < W1.drew.heap.size := nr
 replace hB : Below w.heap.size w W1.drew := hB.drew
 generalize hWd : W1.drew = wd at hHeld hB np nr p0 p1 p2 p3 p4 fp0 fp1 fp2 fp3 fp4 r0 r1 r2 r3 r4 fr0 fr1 fr2 fr3 fr4 ⊢
 clear hWd hBW
 refine take_slotL (i := 1) (d := 4) (v := ?_) rfl rfl rfl (by kernel_rfl) (by kernel_rfl) (by kernel_rfl) (by kernel_rfl) (by kernel_rfl) (fun _ _ _ h => h) (Or.inl ⟨by rfl, ?_⟩) (by assumption) ?_
 rotate_left 1
 focus (intro wS hSw; (try dsimp only at hSw); go_simp; try with_reducible rfl)
 try simp only [sA, sB, sC]
 refine take_slotL (i := 2) (d := 5) (v := ?_) rfl rfl rfl (by kernel_rfl) (by kernel_rfl) (by kernel_rfl) (by kernel_rfl) (by kernel_rfl) (fun _ _ _ h => h) (Or.inl ⟨by rfl, ?_⟩) (by assumption) ?_
 rotate_left 1
 focus (intro wS hSw; (try dsimp only at hSw); go_simp; try with_reducible rfl)
 try simp only [sA, sB, sC]
 refine take_slotL (i := 5) (d := 8) (v := ?_) rfl rfl rfl (by kernel_rfl) (by kernel_rfl) (by kernel_rfl) (by kernel_rfl) (by kernel_rfl) (fun _ _ _ h => h) (Or.inl ⟨by rfl, ?_⟩) (by assumption) ?_
 rotate_left 1
 focus (intro wS hSw; (try dsimp only at hSw); go_simp; try with_reducible rfl)
 try simp only [sA, sB, sC]
 refine take_slotL (i := 6) (d := 9) (v := ?_) rfl rfl rfl (by kernel_rfl) (by kernel_rfl) (by kernel_rfl) (by kernel_rfl) (by kernel_rfl) (fun _ _ _ h => h) (Or.inl ⟨by rfl, ?_⟩) (by assumption) ?_
 rotate_left 1
 focus (intro wS hSw; (try dsimp only at hSw); go_simp; try with_reducible rfl)
 try simp only [sA, sB, sC]
 refine wpAnyL_ready (rs := [0, 4]) (by kernel_rfl) (by simp) ?_
 refine AllReadyL.cons rfl (fun K hK => ?_) (AllReadyL.cons rfl (fun K hK => ?_) AllReadyL.nil)
 ·go_simp
  have hb := (Below.refl wd.heap.size wd).alloc (Nat.le_refl _) (Obj.cells #[] 39)
  replace p0 := cell_next hb np p0
  replace p1 := cell_next hb np p1
  replace p2 := cell_next hb np p2
  replace p3 := cell_next hb np p3
  replace p4 := cell_next hb np p4
  replace fp0 := frozen_next hb np fp0
  replace fp1 := frozen_next hb np fp1
  replace fp2 := frozen_next hb np fp2
  replace fp3 := frozen_next hb np fp3
  replace fp4 := frozen_next hb np fp4
  replace r0 := cell_next hb nr r0
  replace r1 := cell_next hb nr r1
  replace r2 := cell_next hb nr r2
  replace r3 := cell_next hb nr r3
  replace r4 := cell_next hb nr r4
  replace fr0 := frozen_next hb nr fr0
  replace fr1 := frozen_next hb nr fr1
  replace fr2 := frozen_next hb nr fr2
  replace fr3 := frozen_next hb nr fr3
  replace fr4 := frozen_next hb nr fr4
  replace np := Nat.lt_of_lt_of_le np hb.size
  replace nr := Nat.lt_of_lt_of_le nr hb.size
  replace hB := hB.trans (hb.mono hB.size)
  refine hK.out _ _ ⟨p0, p1, trivial⟩ (fun hHeld => ?_)
  clear hK K hb
  generalize wd.alloc (Obj.cells #[] 39) = Z1 at *
  try simp only [Act.put, sA, sB, sC]
  refine wpAnyL_ready (rs := [3, 4]) (by kernel_rfl) (by simp) ?_
  refine AllReadyL.cons rfl (fun K hK => ?_) (AllReadyL.cons rfl (fun K hK => ?_) AllReadyL.nil)
  ·refine step_copy (c := cR) Z1 rfl (.tmp 3) (.tmp 5) 22 39 6 rfl rfl i0 _ Tryz.underlying22 hi0 hz0 hz1 hz2 (fun x => rfl) _ _ xs w.heap.size rfl rfl hB.size (HR.out.e.toRs.below hB (Nat.le_refl _)) (by omega) (by omega) ?_
   intro v1 Z2 u1 hb
   obtain ⟨B1, d1, rfl⟩ := u1.slice
   replace u1 := u1.lower (lo' := w.heap.size + 2) nr
   replace p0 := cell_next hb np p0
   replace p1 := cell_next hb np p1
   replace p2 := cell_next hb np p2
   replace p3 := cell_next hb np p3
   replace p4 := cell_next hb np p4
   replace fp0 := frozen_next hb np fp0
   replace fp1 := frozen_next hb np fp1
   replace fp2 := frozen_next hb np fp2
   replace fp3 := frozen_next hb np fp3
   replace fp4 := frozen_next hb np fp4
   replace r0 := cell_next hb nr r0
   replace r1 := cell_next hb nr r1
   replace r2 := cell_next hb nr r2
   replace r3 := cell_next hb nr r3
   replace r4 := cell_next hb nr r4
   replace fr0 := frozen_next hb nr fr0
   replace fr1 := frozen_next hb nr fr1
   replace fr2 := frozen_next hb nr fr2
   replace fr3 := frozen_next hb nr fr3
   replace fr4 := frozen_next hb nr fr4
   replace np := Nat.lt_of_lt_of_le np hb.size
   replace nr := Nat.lt_of_lt_of_le nr hb.size
   replace hB := hB.trans (hb.mono hB.size)
   refine hK.out _ _ ⟨p0, p1, trivial⟩ (fun hHeld => ?_)
   clear hK K hb
   try simp only [Act.put, sA, sB, sC]
   refine take_slotL (i := 8) (d := 11) (v := ?_) rfl rfl rfl (by kernel_rfl) (by kernel_rfl) (by kernel_rfl) (by kernel_rfl) (by kernel_rfl) (fun _ _ _ h => h) (Or.inl ⟨by rfl, ?_⟩) (by assumption) ?_
   rotate_left 1
   focus (intro wS hSw; (try dsimp only at hSw); go_simp; try with_reducible rfl)
   try simp only [sA, sB, sC]
   refine wpAnyL_ready (rs := [4]) (by kernel_rfl) (by simp) ?_
   refine AllReadyL.cons rfl (fun K hK => ?_) AllReadyL.nil
   go_simp
   have hb := (Below.refl Z2.heap.size Z2).alloc (Nat.le_refl _) (Obj.cells #[] 39)
   replace p0 := cell_next hb np p0
   replace p1 := cell_next hb np p1
   replace p2 := cell_next hb np p2
   replace p3 := cell_next hb np p3
   replace p4 := cell_next hb np p4
   replace fp0 := frozen_next hb np fp0
   replace fp1 := frozen_next hb np fp1
   replace fp2 := frozen_next hb np fp2
   replace fp3 := frozen_next hb np fp3
   replace fp4 := frozen_next hb np fp4
   replace r0 := cell_next hb nr r0
   replace r1 := cell_next hb nr r1
   replace r2 := cell_next hb nr r2
   replace r3 := cell_next hb nr r3
   replace r4 := cell_next hb nr r4
   replace fr0 := frozen_next hb nr fr0
   replace fr1 := frozen_next hb nr fr1
   replace fr2 := frozen_next hb nr fr2
   replace fr3 := frozen_next hb nr fr3
   replace fr4 := frozen_next hb nr fr4
   replace np := Nat.lt_of_lt_of_le np hb.size
   replace nr := Nat.lt_of_lt_of_le nr hb.size
   replace u1 := u1.next hb
   replace hB := hB.trans (hb.mono hB.size)
   refine hK.out _ _ ⟨p0, p1, trivial⟩ (fun hHeld => ?_)
   clear hK K hb
   generalize Z2.alloc (Obj.cells #[] 39) = Z3 at *
   try simp only [Act.put, sA, sB, sC]
   refine wpAnyL_ready (rs := [7]) (by kernel_rfl) (by simp) ?_
   refine AllReadyL.cons rfl (fun K hK => ?_) AllReadyL.nil
   refine step_copy (c := cR) Z3 rfl (.tmp 7) (.tmp 9) 22 39 10 rfl rfl i0 _ Tryz.underlying22 hi0 hz0 hz1 hz2 (fun x => rfl) _ _ ys w.heap.size rfl rfl hB.size (HR.out.s.toRs.below hB (Nat.le_refl _)) (by omega) (by omega) ?_
   intro v2 Z4 u2 hb
   obtain ⟨B2, d2, rfl⟩ := u2.slice
   replace u2 := u2.lower (lo' := w.heap.size + 2) nr
   replace p0 := cell_next hb np p0
   replace p1 := cell_next hb np p1
   replace p2 := cell_next hb np p2
   replace p3 := cell_next hb np p3
   replace p4 := cell_next hb np p4
   replace fp0 := frozen_next hb np fp0
   replace fp1 := frozen_next hb np fp1
   replace fp2 := frozen_next hb np fp2
   replace fp3 := frozen_next hb np fp3
   replace fp4 := frozen_next hb np fp4
   replace r0 := cell_next hb nr r0
   replace r1 := cell_next hb nr r1
   replace r2 := cell_next hb nr r2
   replace r3 := cell_next hb nr r3
   replace r4 := cell_next hb nr r4
   replace fr0 := frozen_next hb nr fr0
   replace fr1 := frozen_next hb nr fr1
   replace fr2 := frozen_next hb nr fr2
   replace fr3 := frozen_next hb nr fr3
   replace fr4 := frozen_next hb nr fr4
   replace np := Nat.lt_of_lt_of_le np hb.size
   replace nr := Nat.lt_of_lt_of_le nr hb.size
   replace u1 := u1.next hb
   replace hB := hB.trans (hb.mono hB.size)
   refine hK.out _ _ ⟨p0, p1, trivial⟩ (fun hHeld => ?_)
   clear hK K hb
   try simp only [Act.put, sA, sB, sC]
   refine wpAnyL_ready (rs := [9]) (by kernel_rfl) (by simp) ?_
   refine AllReadyL.consT rfl (by kernel_rfl) (fun K hK => ?_) AllReadyL.nil
   go_simp
   refine hK.out _ _ ?_
   clear hK K
   try simp only [Act.put, sA, sB, sC]
   refine wpAnyL_ready (rs := [10]) (by kernel_rfl) (by simp) ?_
   refine AllReadyL.consT rfl (by kernel_rfl) (fun K hK => ?_) AllReadyL.nil
   go_simp
   refine hK.out _ _ ?_
   clear hK K
   try simp only [Act.put, sA, sB, sC]
   refine wpAnyL_ready (rs := [11]) (by kernel_rfl) (by simp) ?_
   refine AllReadyL.consT rfl (by kernel_rfl) (fun K hK => ?_) AllReadyL.nil
   go_simp
   refine hK.out _ _ ?_
   clear hK K
   try simp only [Act.put, sA, sB, sC]
   refine wpAnyL_done (by kernel_rfl) ?_ _
   replace p0 : ((Z4.setCell ⟨w.heap.size, 0, none⟩ (.slice B1 xs.length d1)).setCell ⟨w.heap.size, 1, none⟩ (.slice B2 ys.length d2)).cell? ⟨w.heap.size, 0, none⟩ = some (.slice B1 xs.length d1) := by simp [go_sem, p0]
   replace r0 : ((Z4.setCell ⟨w.heap.size, 0, none⟩ (.slice B1 xs.length d1)).setCell ⟨w.heap.size, 1, none⟩ (.slice B2 ys.length d2)).cell? ⟨w.heap.size + 1, 0, none⟩ = some (.slice none 0 0) := (so (by omega)).trans ((so (by omega)).trans r0)
   replace fp0 : ((Z4.setCell ⟨w.heap.size, 0, none⟩ (.slice B1 xs.length d1)).setCell ⟨w.heap.size, 1, none⟩ (.slice B2 ys.length d2)).frozen? ⟨w.heap.size, 0, none⟩ = false := by simp [go_sem, fp0]
   replace fr0 : ((Z4.setCell ⟨w.heap.size, 0, none⟩ (.slice B1 xs.length d1)).setCell ⟨w.heap.size, 1, none⟩ (.slice B2 ys.length d2)).frozen? ⟨w.heap.size + 1, 0, none⟩ = false := by simp [go_sem, fr0]
   replace p1 : ((Z4.setCell ⟨w.heap.size, 0, none⟩ (.slice B1 xs.length d1)).setCell ⟨w.heap.size, 1, none⟩ (.slice B2 ys.length d2)).cell? ⟨w.heap.size, 1, none⟩ = some (.slice B2 ys.length d2) := by simp [go_sem, p1]
   replace r1 : ((Z4.setCell ⟨w.heap.size, 0, none⟩ (.slice B1 xs.length d1)).setCell ⟨w.heap.size, 1, none⟩ (.slice B2 ys.length d2)).cell? ⟨w.heap.size + 1, 1, none⟩ = some (.slice none 0 0) := (so (by omega)).trans ((so (by omega)).trans r1)
   replace fp1 : ((Z4.setCell ⟨w.heap.size, 0, none⟩ (.slice B1 xs.length d1)).setCell ⟨w.heap.size, 1, none⟩ (.slice B2 ys.length d2)).frozen? ⟨w.heap.size, 1, none⟩ = false := by simp [go_sem, fp1]
   replace fr1 : ((Z4.setCell ⟨w.heap.size, 0, none⟩ (.slice B1 xs.length d1)).setCell ⟨w.heap.size, 1, none⟩ (.slice B2 ys.length d2)).frozen? ⟨w.heap.size + 1, 1, none⟩ = false := by simp [go_sem, fr1]
   replace p2 : ((Z4.setCell ⟨w.heap.size, 0, none⟩ (.slice B1 xs.length d1)).setCell ⟨w.heap.size, 1, none⟩ (.slice B2 ys.length d2)).cell? ⟨w.heap.size, 2, none⟩ = some (.int .i64 bl) := (so (by omega)).trans ((so (by omega)).trans p2)
   replace r2 : ((Z4.setCell ⟨w.heap.size, 0, none⟩ (.slice B1 xs.length d1)).setCell ⟨w.heap.size, 1, none⟩ (.slice B2 ys.length d2)).cell? ⟨w.heap.size + 1, 2, none⟩ = some (.int .i64 0) := (so (by omega)).trans ((so (by omega)).trans r2)
   replace fp2 : ((Z4.setCell ⟨w.heap.size, 0, none⟩ (.slice B1 xs.length d1)).setCell ⟨w.heap.size, 1, none⟩ (.slice B2 ys.length d2)).frozen? ⟨w.heap.size, 2, none⟩ = false := by simp [go_sem, fp2]
   replace fr2 : ((Z4.setCell ⟨w.heap.size, 0, none⟩ (.slice B1 xs.length d1)).setCell ⟨w.heap.size, 1, none⟩ (.slice B2 ys.length d2)).frozen? ⟨w.heap.size + 1, 2, none⟩ = false := by simp [go_sem, fr2]
   replace p3 : ((Z4.setCell ⟨w.heap.size, 0, none⟩ (.slice B1 xs.length d1)).setCell ⟨w.heap.size, 1, none⟩ (.slice B2 ys.length d2)).cell? ⟨w.heap.size, 3, none⟩ = some (.int .i64 bh) := (so (by omega)).trans ((so (by omega)).trans p3)
   replace r3 : ((Z4.setCell ⟨w.heap.size, 0, none⟩ (.slice B1 xs.length d1)).setCell ⟨w.heap.size, 1, none⟩ (.slice B2 ys.length d2)).cell? ⟨w.heap.size + 1, 3, none⟩ = some (.int .i64 0) := (so (by omega)).trans ((so (by omega)).trans r3)
   replace fp3 : ((Z4.setCell ⟨w.heap.size, 0, none⟩ (.slice B1 xs.length d1)).setCell ⟨w.heap.size, 1, none⟩ (.slice B2 ys.length d2)).frozen? ⟨w.heap.size, 3, none⟩ = false := by simp [go_sem, fp3]
   replace fr3 : ((Z4.setCell ⟨w.heap.size, 0, none⟩ (.slice B1 xs.length d1)).setCell ⟨w.heap.size, 1, none⟩ (.slice B2 ys.length d2)).frozen? ⟨w.heap.size + 1, 3, none⟩ = false := by simp [go_sem, fr3]
   replace p4 : ((Z4.setCell ⟨w.heap.size, 0, none⟩ (.slice B1 xs.length d1)).setCell ⟨w.heap.size, 1, none⟩ (.slice B2 ys.length d2)).cell? ⟨w.heap.size, 4, none⟩ = some (.slice A3 ps.length c3) := (so (by omega)).trans ((so (by omega)).trans p4)
   replace r4 : ((Z4.setCell ⟨w.heap.size, 0, none⟩ (.slice B1 xs.length d1)).setCell ⟨w.heap.size, 1, none⟩ (.slice B2 ys.length d2)).cell? ⟨w.heap.size + 1, 4, none⟩ = some (.slice none 0 0) := (so (by omega)).trans ((so (by omega)).trans r4)
   replace fp4 : ((Z4.setCell ⟨w.heap.size, 0, none⟩ (.slice B1 xs.length d1)).setCell ⟨w.heap.size, 1, none⟩ (.slice B2 ys.length d2)).frozen? ⟨w.heap.size, 4, none⟩ = false := by simp [go_sem, fp4]
   replace fr4 : ((Z4.setCell ⟨w.heap.size, 0, none⟩ (.slice B1 xs.length d1)).setCell ⟨w.heap.size, 1, none⟩ (.slice B2 ys.length d2)).frozen? ⟨w.heap.size + 1, 4, none⟩ = false := by simp [go_sem, fr4]
   replace np : w.heap.size < ((Z4.setCell ⟨w.heap.size, 0, none⟩ (.slice B1 xs.length d1)).setCell ⟨w.heap.size, 1, none⟩ (.slice B2 ys.length d2)).heap.size := by simpa [World.setCell] using np
   replace nr : w.heap.size + 1 < ((Z4.setCell ⟨w.heap.size, 0, none⟩ (.slice B1 xs.length d1)).setCell ⟨w.heap.size, 1, none⟩ (.slice B2 ys.length d2)).heap.size := by simpa [World.setCell] using nr
   replace u1 := (u1.set w.heap.size 0 (.slice B1 xs.length d1) (by omega)).set w.heap.size 1 (.slice B2 ys.length d2) (by omega)
   replace u2 := (u2.set w.heap.size 0 (.slice B1 xs.length d1) (by omega)).set w.heap.size 1 (.slice B2 ys.length d2) (by omega)
   replace hB : Below w.heap.size w ((Z4.setCell ⟨w.heap.size, 0, none⟩ (.slice B1 xs.length d1)).setCell ⟨w.heap.size, 1, none⟩ (.slice B2 ys.length d2)) := (hB.setCell (p := ⟨w.heap.size, 0, none⟩) (Nat.le_refl _) _).setCell (p := ⟨w.heap.size, 1, none⟩) (Nat.le_refl _) _
   generalize ((Z4.setCell ⟨w.heap.size, 0, none⟩ (.slice B1 xs.length d1)).setCell ⟨w.heap.size, 1, none⟩ (.slice B2 ys.length d2)) = Y1 at *
   clear hHeld
   go_wp2_with (at_builtin; refine wpList_copy (c := cPd) _ rfl (.tmp 13) (.tmp 15) 25 41 rfl j0 _ Tryz.underlying25 hj0 hjz0 hjz1 hjz2 (fun x => rfl) _ _ ps w.heap.size rfl rfl ?q1 ?q2 ?q3 ?q4 ?q5)
   case q1 => have := hB.size; simp; omega
   case q2 => exact HR.out.p.below (hB.alloc hB.size _) (Nat.le_refl _)
   case q3 => omega
   case q4 => omega
   case q5 =>
    intro v3 Y2 u3 hb2
    have hb := ((Below.refl Y1.heap.size Y1).alloc (Nat.le_refl _) (Obj.cells #[] 41)).trans (hb2.mono (by simp))
    replace u3 := u3.lower (lo' := w.heap.size + 2) (by simp; omega)
    obtain ⟨B3, d3, rfl⟩ := u3.slice
    clear hb2
    replace p0 := cell_next hb np p0
    replace p1 := cell_next hb np p1
    replace p2 := cell_next hb np p2
    replace p3 := cell_next hb np p3
    replace p4 := cell_next hb np p4
    replace fp0 := frozen_next hb np fp0
    replace fp1 := frozen_next hb np fp1
    replace fp2 := frozen_next hb np fp2
    replace fp3 := frozen_next hb np fp3
    replace fp4 := frozen_next hb np fp4
    replace r0 := cell_next hb nr r0
    replace r1 := cell_next hb nr r1
    replace r2 := cell_next hb nr r2
    replace r3 := cell_next hb nr r3
    replace r4 := cell_next hb nr r4
    replace fr0 := frozen_next hb nr fr0
    replace fr1 := frozen_next hb nr fr1
    replace fr2 := frozen_next hb nr fr2
    replace fr3 := frozen_next hb nr fr3
    replace fr4 := frozen_next hb nr fr4
    replace np := Nat.lt_of_lt_of_le np hb.size
    replace nr := Nat.lt_of_lt_of_le nr hb.size
    replace u1 := u1.next hb
    replace u2 := u2.next hb
    replace hB := hB.trans (hb.mono hB.size)
    clear hb
    go_wp2_with fail
    refine bodyPost_ret (v := .agg #[.slice B1 xs.length d1, .slice B2 ys.length d2, .int .i64 bl, .int .i64 bh, .slice B3 ps.length d3]) (by simp [results, Tryz.results12, go_sem, p0, p1, p2, p3, p4, fp0, fp1, fp2, fp3, fp4, r0, r1, r2, r3, r4, fr0, fr1, fr2, fr3, fr4]) rfl ⟨_, _, _, rfl, ?_, ?_⟩
    ·exact ⟨rs_set ((((((u1.set (w.heap.size) 4 (.slice B3 ps.length d3) (by omega)).set (w.heap.size + 1) 0 (.slice B1 xs.length d1) (by omega)).set (w.heap.size + 1) 1 (.slice B2 ys.length d2) (by omega)).set (w.heap.size + 1) 2 (.int .i64 bl) (by omega)).set (w.heap.size + 1) 3 (.int .i64 bh) (by omega)).set (w.heap.size + 1) 4 (.slice B3 ps.length d3) (by omega)).rs, rs_set ((((((u2.set (w.heap.size) 4 (.slice B3 ps.length d3) (by omega)).set (w.heap.size + 1) 0 (.slice B1 xs.length d1) (by omega)).set (w.heap.size + 1) 1 (.slice B2 ys.length d2) (by omega)).set (w.heap.size + 1) 2 (.int .i64 bl) (by omega)).set (w.heap.size + 1) 3 (.int .i64 bh) (by omega)).set (w.heap.size + 1) 4 (.slice B3 ps.length d3) (by omega)).rs, ((((((u3.set (w.heap.size) 4 (.slice B3 ps.length d3) (by omega)).set (w.heap.size + 1) 0 (.slice B1 xs.length d1) (by omega)).set (w.heap.size + 1) 1 (.slice B2 ys.length d2) (by omega)).set (w.heap.size + 1) 2 (.int .i64 bl) (by omega)).set (w.heap.size + 1) 3 (.int .i64 bh) (by omega)).set (w.heap.size + 1) 4 (.slice B3 ps.length d3) (by omega)).rs⟩
    ·exact ((((((hB.setCell (p := ⟨w.heap.size, 4, none⟩) (by simp <;> omega) _).setCell (p := ⟨w.heap.size + 1, 0, none⟩) (by simp <;> omega) _).setCell (p := ⟨w.heap.size + 1, 1, none⟩) (by simp <;> omega) _).setCell (p := ⟨w.heap.size + 1, 2, none⟩) (by simp <;> omega) _).setCell (p := ⟨w.heap.size + 1, 3, none⟩) (by simp <;> omega) _).setCell (p := ⟨w.heap.size + 1, 4, none⟩) (by simp <;> omega) _)
  ·go_simp
   have hb := (Below.refl Z1.heap.size Z1).alloc (Nat.le_refl _) (Obj.cells #[] 39)
   replace p0 := cell_next hb np p0
   replace p1 := cell_next hb np p1
   replace p2 := cell_next hb np p2
   replace p3 := cell_next hb np p3
   replace p4 := cell_next hb np p4
   replace fp0 := frozen_next hb np fp0
   replace fp1 := frozen_next hb np fp1
   replace fp2 := frozen_next hb np fp2
   replace fp3 := frozen_next hb np fp3
   replace fp4 := frozen_next hb np fp4
   replace r0 := cell_next hb nr r0
   replace r1 := cell_next hb nr r1
   replace r2 := cell_next hb nr r2
   replace r3 := cell_next hb nr r3
   replace r4 := cell_next hb nr r4
   replace fr0 := frozen_next hb nr fr0
   replace fr1 := frozen_next hb nr fr1
   replace fr2 := frozen_next hb nr fr2
   replace fr3 := frozen_next hb nr fr3
   replace fr4 := frozen_next hb nr fr4
   replace np := Nat.lt_of_lt_of_le np hb.size
   replace nr := Nat.lt_of_lt_of_le nr hb.size
   replace hB := hB.trans (hb.mono hB.size)
   refine hK.out _ _ ⟨p0, p1, trivial⟩ (fun hHeld => ?_)
   clear hK K hb
   generalize Z1.alloc (Obj.cells #[] 39) = Z5 at *
   try simp only [Act.put, sA, sB, sC]
   refine wpAnyL_ready (rs := [3]) (by kernel_rfl) (by simp) ?_
   refine AllReadyL.cons rfl (fun K hK => ?_) AllReadyL.nil
   refine step_copy (c := cR) Z5 rfl (.tmp 3) (.tmp 5) 22 39 6 rfl rfl i0 _ Tryz.underlying22 hi0 hz0 hz1 hz2 (fun x => rfl) _ _ xs w.heap.size rfl rfl hB.size (HR.out.e.toRs.below hB (Nat.le_refl _)) (by omega) (by omega) ?_
   intro v1 Z6 u1 hb
   obtain ⟨B1, d1, rfl⟩ := u1.slice
   replace u1 := u1.lower (lo' := w.heap.size + 2) nr
   replace p0 := cell_next hb np p0
   replace p1 := cell_next hb np p1
   replace p2 := cell_next hb np p2
   replace p3 := cell_next hb np p3
   replace p4 := cell_next hb np p4
   replace fp0 := frozen_next hb np fp0
   replace fp1 := frozen_next hb np fp1
   replace fp2 := frozen_next hb np fp2
   replace fp3 := frozen_next hb np fp3
   replace fp4 := frozen_next hb np fp4
   replace r0 := cell_next hb nr r0
   replace r1 := cell_next hb nr r1
   replace r2 := cell_next hb nr r2
   replace r3 := cell_next hb nr r3
   replace r4 := cell_next hb nr r4
   replace fr0 := frozen_next hb nr fr0
   replace fr1 := frozen_next hb nr fr1
   replace fr2 := frozen_next hb nr fr2
   replace fr3 := frozen_next hb nr fr3
   replace fr4 := frozen_next hb nr fr4
   replace np := Nat.lt_of_lt_of_le np hb.size
   replace nr := Nat.lt_of_lt_of_le nr hb.size
   replace hB := hB.trans (hb.mono hB.size)
   refine hK.out _ _ ⟨p0, p1, trivial⟩ (fun hHeld => ?_)
   clear hK K hb
   try simp only [Act.put, sA, sB, sC]
   refine take_slotL (i := 8) (d := 11) (v := ?_) rfl rfl rfl (by kernel_rfl) (by kernel_rfl) (by kernel_rfl) (by kernel_rfl) (by kernel_rfl) (fun _ _ _ h => h) (Or.inl ⟨by rfl, ?_⟩) (by assumption) ?_
   rotate_left 1
   focus (intro wS hSw; (try dsimp only at hSw); go_simp; try with_reducible rfl)
   try simp only [sA, sB, sC]
   refine wpAnyL_ready (rs := [7]) (by kernel_rfl) (by simp) ?_
   refine AllReadyL.cons rfl (fun K hK => ?_) AllReadyL.nil
   refine step_copy (c := cR) Z6 rfl (.tmp 7) (.tmp 9) 22 39 10 rfl rfl i0 _ Tryz.underlying22 hi0 hz0 hz1 hz2 (fun x => rfl) _ _ ys w.heap.size rfl rfl hB.size (HR.out.s.toRs.below hB (Nat.le_refl _)) (by omega) (by omega) ?_
   intro v2 Z7 u2 hb
   obtain ⟨B2, d2, rfl⟩ := u2.slice
   replace u2 := u2.lower (lo' := w.heap.size + 2) nr
   replace p0 := cell_next hb np p0
   replace p1 := cell_next hb np p1
   replace p2 := cell_next hb np p2
   replace p3 := cell_next hb np p3
   replace p4 := cell_next hb np p4
   replace fp0 := frozen_next hb np fp0
   replace fp1 := frozen_next hb np fp1
   replace fp2 := frozen_next hb np fp2
   replace fp3 := frozen_next hb np fp3
   replace fp4 := frozen_next hb np fp4
   replace r0 := cell_next hb nr r0
   replace r1 := cell_next hb nr r1
   replace r2 := cell_next hb nr r2
   replace r3 := cell_next hb nr r3
   replace r4 := cell_next hb nr r4
   replace fr0 := frozen_next hb nr fr0
   replace fr1 := frozen_next hb nr fr1
   replace fr2 := frozen_next hb nr fr2
   replace fr3 := frozen_next hb nr fr3
   replace fr4 := frozen_next hb nr fr4
   replace np := Nat.lt_of_lt_of_le np hb.size
   replace nr := Nat.lt_of_lt_of_le nr hb.size
   replace u1 := u1.next hb
   replace hB := hB.trans (hb.mono hB.size)
   refine hK.out _ _ ⟨p0, p1, trivial⟩ (fun hHeld => ?_)
   clear hK K hb
   try simp only [Act.put, sA, sB, sC]
   refine wpAnyL_ready (rs := [9]) (by kernel_rfl) (by simp) ?_
   refine AllReadyL.consT rfl (by kernel_rfl) (fun K hK => ?_) AllReadyL.nil
   go_simp
   refine hK.out _ _ ?_
   clear hK K
   try simp only [Act.put, sA, sB, sC]
   refine wpAnyL_ready (rs := [10]) (by kernel_rfl) (by simp) ?_
   refine AllReadyL.consT rfl (by kernel_rfl) (fun K hK => ?_) AllReadyL.nil
   go_simp
   refine hK.out _ _ ?_
   clear hK K
   try simp only [Act.put, sA, sB, sC]
   refine wpAnyL_ready (rs := [11]) (by kernel_rfl) (by simp) ?_
   refine AllReadyL.consT rfl (by kernel_rfl) (fun K hK => ?_) AllReadyL.nil
   go_simp
   refine hK.out _ _ ?_
   clear hK K
   try simp only [Act.put, sA, sB, sC]
   refine wpAnyL_done (by kernel_rfl) ?_ _
   replace p0 : ((Z7.setCell ⟨w.heap.size, 0, none⟩ (.slice B1 xs.length d1)).setCell ⟨w.heap.size, 1, none⟩ (.slice B2 ys.length d2)).cell? ⟨w.heap.size, 0, none⟩ = some (.slice B1 xs.length d1) := by simp [go_sem, p0]
   replace r0 : ((Z7.setCell ⟨w.heap.size, 0, none⟩ (.slice B1 xs.length d1)).setCell ⟨w.heap.size, 1, none⟩ (.slice B2 ys.length d2)).cell? ⟨w.heap.size + 1, 0, none⟩ = some (.slice none 0 0) := (so (by omega)).trans ((so (by omega)).trans r0)
   replace fp0 : ((Z7.setCell ⟨w.heap.size, 0, none⟩ (.slice B1 xs.length d1)).setCell ⟨w.heap.size, 1, none⟩ (.slice B2 ys.length d2)).frozen? ⟨w.heap.size, 0, none⟩ = false := by simp [go_sem, fp0]
   replace fr0 : ((Z7.setCell ⟨w.heap.size, 0, none⟩ (.slice B1 xs.length d1)).setCell ⟨w.heap.size, 1, none⟩ (.slice B2 ys.length d2)).frozen? ⟨w.heap.size + 1, 0, none⟩ = false := by simp [go_sem, fr0]
   replace p1 : ((Z7.setCell ⟨w.heap.size, 0, none⟩ (.slice B1 xs.length d1)).setCell ⟨w.heap.size, 1, none⟩ (.slice B2 ys.length d2)).cell? ⟨w.heap.size, 1, none⟩ = some (.slice B2 ys.length d2) := by simp [go_sem, p1]
   replace r1 : ((Z7.setCell ⟨w.heap.size, 0, none⟩ (.slice B1 xs.length d1)).setCell ⟨w.heap.size, 1, none⟩ (.slice B2 ys.length d2)).cell? ⟨w.heap.size + 1, 1, none⟩ = some (.slice none 0 0) := (so (by omega)).trans ((so (by omega)).trans r1)
   replace fp1 : ((Z7.setCell ⟨w.heap.size, 0, none⟩ (.slice B1 xs.length d1)).setCell ⟨w.heap.size, 1, none⟩ (.slice B2 ys.length d2)).frozen? ⟨w.heap.size, 1, none⟩ = false := by simp [go_sem, fp1]
   replace fr1 : ((Z7.setCell ⟨w.heap.size, 0, none⟩ (.slice B1 xs.length d1)).setCell ⟨w.heap.size, 1, none⟩ (.slice B2 ys.length d2)).frozen? ⟨w.heap.size + 1, 1, none⟩ = false := by simp [go_sem, fr1]
   replace p2 : ((Z7.setCell ⟨w.heap.size, 0, none⟩ (.slice B1 xs.length d1)).setCell ⟨w.heap.size, 1, none⟩ (.slice B2 ys.length d2)).cell? ⟨w.heap.size, 2, none⟩ = some (.int .i64 bl) := (so (by omega)).trans ((so (by omega)).trans p2)
   replace r2 : ((Z7.setCell ⟨w.heap.size, 0, none⟩ (.slice B1 xs.length d1)).setCell ⟨w.heap.size, 1, none⟩ (.slice B2 ys.length d2)).cell? ⟨w.heap.size + 1, 2, none⟩ = some (.int .i64 0) := (so (by omega)).trans ((so (by omega)).trans r2)
   replace fp2 : ((Z7.setCell ⟨w.heap.size, 0, none⟩ (.slice B1 xs.length d1)).setCell ⟨w.heap.size, 1, none⟩ (.slice B2 ys.length d2)).frozen? ⟨w.heap.size, 2, none⟩ = false := by simp [go_sem, fp2]
   replace fr2 : ((Z7.setCell ⟨w.heap.size, 0, none⟩ (.slice B1 xs.length d1)).setCell ⟨w.heap.size, 1, none⟩ (.slice B2 ys.length d2)).frozen? ⟨w.heap.size + 1, 2, none⟩ = false := by simp [go_sem, fr2]
   replace p3 : ((Z7.setCell ⟨w.heap.size, 0, none⟩ (.slice B1 xs.length d1)).setCell ⟨w.heap.size, 1, none⟩ (.slice B2 ys.length d2)).cell? ⟨w.heap.size, 3, none⟩ = some (.int .i64 bh) := (so (by omega)).trans ((so (by omega)).trans p3)
   replace r3 : ((Z7.setCell ⟨w.heap.size, 0, none⟩ (.slice B1 xs.length d1)).setCell ⟨w.heap.size, 1, none⟩ (.slice B2 ys.length d2)).cell? ⟨w.heap.size + 1, 3, none⟩ = some (.int .i64 0) := (so (by omega)).trans ((so (by omega)).trans r3)
   replace fp3 : ((Z7.setCell ⟨w.heap.size, 0, none⟩ (.slice B1 xs.length d1)).setCell ⟨w.heap.size, 1, none⟩ (.slice B2 ys.length d2)).frozen? ⟨w.heap.size, 3, none⟩ = false := by simp [go_sem, fp3]
   replace fr3 : ((Z7.setCell ⟨w.heap.size, 0, none⟩ (.slice B1 xs.length d1)).setCell ⟨w.heap.size, 1, none⟩ (.slice B2 ys.length d2)).frozen? ⟨w.heap.size + 1, 3, none⟩ = false := by simp [go_sem, fr3]
   replace p4 : ((Z7.setCell ⟨w.heap.size, 0, none⟩ (.slice B1 xs.length d1)).setCell ⟨w.heap.size, 1, none⟩ (.slice B2 ys.length d2)).cell? ⟨w.heap.size, 4, none⟩ = some (.slice A3 ps.length c3) := (so (by omega)).trans ((so (by omega)).trans p4)
   replace r4 : ((Z7.setCell ⟨w.heap.size, 0, none⟩ (.slice B1 xs.length d1)).setCell ⟨w.heap.size, 1, none⟩ (.slice B2 ys.length d2)).cell? ⟨w.heap.size + 1, 4, none⟩ = some (.slice none 0 0) := (so (by omega)).trans ((so (by omega)).trans r4)
   replace fp4 : ((Z7.setCell ⟨w.heap.size, 0, none⟩ (.slice B1 xs.length d1)).setCell ⟨w.heap.size, 1, none⟩ (.slice B2 ys.length d2)).frozen? ⟨w.heap.size, 4, none⟩ = false := by simp [go_sem, fp4]
   replace fr4 : ((Z7.setCell ⟨w.heap.size, 0, none⟩ (.slice B1 xs.length d1)).setCell ⟨w.heap.size, 1, none⟩ (.slice B2 ys.length d2)).frozen? ⟨w.heap.size + 1, 4, none⟩ = false := by simp [go_sem, fr4]
   replace np : w.heap.size < ((Z7.setCell ⟨w.heap.size, 0, none⟩ (.slice B1 xs.length d1)).setCell ⟨w.heap.size, 1, none⟩ (.slice B2 ys.length d2)).heap.size := by simpa [World.setCell] using np
   replace nr : w.heap.size + 1 < ((Z7.setCell ⟨w.heap.size, 0, none⟩ (.slice B1 xs.length d1)).setCell ⟨w.heap.size, 1, none⟩ (.slice B2 ys.length d2)).heap.size := by simpa [World.setCell] using nr
   replace u1 := (u1.set w.heap.size 0 (.slice B1 xs.length d1) (by omega)).set w.heap.size 1 (.slice B2 ys.length d2) (by omega)
   replace u2 := (u2.set w.heap.size 0 (.slice B1 xs.length d1) (by omega)).set w.heap.size 1 (.slice B2 ys.length d2) (by omega)
   replace hB : Below w.heap.size w ((Z7.setCell ⟨w.heap.size, 0, none⟩ (.slice B1 xs.length d1)).setCell ⟨w.heap.size, 1, none⟩ (.slice B2 ys.length d2)) := (hB.setCell (p := ⟨w.heap.size, 0, none⟩) (Nat.le_refl _) _).setCell (p := ⟨w.heap.size, 1, none⟩) (Nat.le_refl _) _
   generalize ((Z7.setCell ⟨w.heap.size, 0, none⟩ (.slice B1 xs.length d1)).setCell ⟨w.heap.size, 1, none⟩ (.slice B2 ys.length d2)) = Y1 at *
   clear hHeld
   go_wp2_with (at_builtin; refine wpList_copy (c := cPd) _ rfl (.tmp 13) (.tmp 15) 25 41 rfl j0 _ Tryz.underlying25 hj0 hjz0 hjz1 hjz2 (fun x => rfl) _ _ ps w.heap.size rfl rfl ?q1 ?q2 ?q3 ?q4 ?q5)
   case q1 => have := hB.size; simp; omega
   case q2 => exact HR.out.p.below (hB.alloc hB.size _) (Nat.le_refl _)
   case q3 => omega
   case q4 => omega
   case q5 =>
    intro v3 Y2 u3 hb2
    have hb := ((Below.refl Y1.heap.size Y1).alloc (Nat.le_refl _) (Obj.cells #[] 41)).trans (hb2.mono (by simp))
    replace u3 := u3.lower (lo' := w.heap.size + 2) (by simp; omega)
    obtain ⟨B3, d3, rfl⟩ := u3.slice
    clear hb2
    replace p0 := cell_next hb np p0
    replace p1 := cell_next hb np p1
    replace p2 := cell_next hb np p2
    replace p3 := cell_next hb np p3
    replace p4 := cell_next hb np p4
    replace fp0 := frozen_next hb np fp0
    replace fp1 := frozen_next hb np fp1
    replace fp2 := frozen_next hb np fp2
    replace fp3 := frozen_next hb np fp3
    replace fp4 := frozen_next hb np fp4
    replace r0 := cell_next hb nr r0
    replace r1 := cell_next hb nr r1
    replace r2 := cell_next hb nr r2
    replace r3 := cell_next hb nr r3
    replace r4 := cell_next hb nr r4
    replace fr0 := frozen_next hb nr fr0
    replace fr1 := frozen_next hb nr fr1
    replace fr2 := frozen_next hb nr fr2
    replace fr3 := frozen_next hb nr fr3
    replace fr4 := frozen_next hb nr fr4
    replace np := Nat.lt_of_lt_of_le np hb.size
    replace nr := Nat.lt_of_lt_of_le nr hb.size
    replace u1 := u1.next hb
    replace u2 := u2.next hb
    replace hB := hB.trans (hb.mono hB.size)
    clear hb
    go_wp2_with fail
    refine bodyPost_ret (v := .agg #[.slice B1 xs.length d1, .slice B2 ys.length d2, .int .i64 bl, .int .i64 bh, .slice B3 ps.length d3]) (by simp [results, Tryz.results12, go_sem, p0, p1, p2, p3, p4, fp0, fp1, fp2, fp3, fp4, r0, r1, r2, r3, r4, fr0, fr1, fr2, fr3, fr4]) rfl ⟨_, _, _, rfl, ?_, ?_⟩
    ·exact ⟨rs_set ((((((u1.set (w.heap.size) 4 (.slice B3 ps.length d3) (by omega)).set (w.heap.size + 1) 0 (.slice B1 xs.length d1) (by omega)).set (w.heap.size + 1) 1 (.slice B2 ys.length d2) (by omega)).set (w.heap.size + 1) 2 (.int .i64 bl) (by omega)).set (w.heap.size + 1) 3 (.int .i64 bh) (by omega)).set (w.heap.size + 1) 4 (.slice B3 ps.length d3) (by omega)).rs, rs_set ((((((u2.set (w.heap.size) 4 (.slice B3 ps.length d3) (by omega)).set (w.heap.size + 1) 0 (.slice B1 xs.length d1) (by omega)).set (w.heap.size + 1) 1 (.slice B2 ys.length d2) (by omega)).set (w.heap.size + 1) 2 (.int .i64 bl) (by omega)).set (w.heap.size + 1) 3 (.int .i64 bh) (by omega)).set (w.heap.size + 1) 4 (.slice B3 ps.length d3) (by omega)).rs, ((((((u3.set (w.heap.size) 4 (.slice B3 ps.length d3) (by omega)).set (w.heap.size + 1) 0 (.slice B1 xs.length d1) (by omega)).set (w.heap.size + 1) 1 (.slice B2 ys.length d2) (by omega)).set (w.heap.size + 1) 2 (.int .i64 bl) (by omega)).set (w.heap.size + 1) 3 (.int .i64 bh) (by omega)).set (w.heap.size + 1) 4 (.slice B3 ps.length d3) (by omega)).rs⟩
    ·exact ((((((hB.setCell (p := ⟨w.heap.size, 4, none⟩) (by simp <;> omega) _).setCell (p := ⟨w.heap.size + 1, 0, none⟩) (by simp <;> omega) _).setCell (p := ⟨w.heap.size + 1, 1, none⟩) (by simp <;> omega) _).setCell (p := ⟨w.heap.size + 1, 2, none⟩) (by simp <;> omega) _).setCell (p := ⟨w.heap.size + 1, 3, none⟩) (by simp <;> omega) _).setCell (p := ⟨w.heap.size + 1, 4, none⟩) (by simp <;> omega) _)
 ·go_simp
  have hb := (Below.refl wd.heap.size wd).alloc (Nat.le_refl _) (Obj.cells #[] 39)
  replace p0 := cell_next hb np p0
  replace p1 := cell_next hb np p1
  replace p2 := cell_next hb np p2
  replace p3 := cell_next hb np p3
  replace p4 := cell_next hb np p4
  replace fp0 := frozen_next hb np fp0
  replace fp1 := frozen_next hb np fp1
  replace fp2 := frozen_next hb np fp2
  replace fp3 := frozen_next hb np fp3
  replace fp4 := frozen_next hb np fp4
  replace r0 := cell_next hb nr r0
  replace r1 := cell_next hb nr r1
  replace r2 := cell_next hb nr r2
  replace r3 := cell_next hb nr r3
  replace r4 := cell_next hb nr r4
  replace fr0 := frozen_next hb nr fr0
  replace fr1 := frozen_next hb nr fr1
  replace fr2 := frozen_next hb nr fr2
  replace fr3 := frozen_next hb nr fr3
  replace fr4 := frozen_next hb nr fr4
  replace np := Nat.lt_of_lt_of_le np hb.size
  replace nr := Nat.lt_of_lt_of_le nr hb.size
  replace hB := hB.trans (hb.mono hB.size)
  refine hK.out _ _ ⟨p0, p1, trivial⟩ (fun hHeld => ?_)
  clear hK K hb
  generalize wd.alloc (Obj.cells #[] 39) = Z8 at *
  try simp only [Act.put, sA, sB, sC]
  refine wpAnyL_ready (rs := [0]) (by kernel_rfl) (by simp) ?_
  refine AllReadyL.cons rfl (fun K hK => ?_) AllReadyL.nil
  go_simp
  have hb := (Below.refl Z8.heap.size Z8).alloc (Nat.le_refl _) (Obj.cells #[] 39)
  replace p0 := cell_next hb np p0
  replace p1 := cell_next hb np p1
  replace p2 := cell_next hb np p2
  replace p3 := cell_next hb np p3
  replace p4 := cell_next hb np p4
  replace fp0 := frozen_next hb np fp0
  replace fp1 := frozen_next hb np fp1
  replace fp2 := frozen_next hb np fp2
  replace fp3 := frozen_next hb np fp3
  replace fp4 := frozen_next hb np fp4
  replace r0 := cell_next hb nr r0
  replace r1 := cell_next hb nr r1
  replace r2 := cell_next hb nr r2
  replace r3 := cell_next hb nr r3
  replace r4 := cell_next hb nr r4
  replace fr0 := frozen_next hb nr fr0
  replace fr1 := frozen_next hb nr fr1
  replace fr2 := frozen_next hb nr fr2
  replace fr3 := frozen_next hb nr fr3
  replace fr4 := frozen_next hb nr fr4
  replace np := Nat.lt_of_lt_of_le np hb.size
  replace nr := Nat.lt_of_lt_of_le nr hb.size
  replace hB := hB.trans (hb.mono hB.size)
  refine hK.out _ _ ⟨p0, p1, trivial⟩ (fun hHeld => ?_)
  clear hK K hb
  generalize Z8.alloc (Obj.cells #[] 39) = Z9 at *
  try simp only [Act.put, sA, sB, sC]
  refine wpAnyL_ready (rs := [3]) (by kernel_rfl) (by simp) ?_
  refine AllReadyL.cons rfl (fun K hK => ?_) AllReadyL.nil
  refine step_copy (c := cR) Z9 rfl (.tmp 3) (.tmp 5) 22 39 6 rfl rfl i0 _ Tryz.underlying22 hi0 hz0 hz1 hz2 (fun x => rfl) _ _ xs w.heap.size rfl rfl hB.size (HR.out.e.toRs.below hB (Nat.le_refl _)) (by omega) (by omega) ?_
  intro v1 Z10 u1 hb
  obtain ⟨B1, d1, rfl⟩ := u1.slice
  replace u1 := u1.lower (lo' := w.heap.size + 2) nr
  replace p0 := cell_next hb np p0
  replace p1 := cell_next hb np p1
  replace p2 := cell_next hb np p2
  replace p3 := cell_next hb np p3
  replace p4 := cell_next hb np p4
  replace fp0 := frozen_next hb np fp0
  replace fp1 := frozen_next hb np fp1
  replace fp2 := frozen_next hb np fp2
  replace fp3 := frozen_next hb np fp3
  replace fp4 := frozen_next hb np fp4
  replace r0 := cell_next hb nr r0
  replace r1 := cell_next hb nr r1
  replace r2 := cell_next hb nr r2
  replace r3 := cell_next hb nr r3
  replace r4 := cell_next hb nr r4
  replace fr0 := frozen_next hb nr fr0
  replace fr1 := frozen_next hb nr fr1
  replace fr2 := frozen_next hb nr fr2
  replace fr3 := frozen_next hb nr fr3
  replace fr4 := frozen_next hb nr fr4
  replace np := Nat.lt_of_lt_of_le np hb.size
  replace nr := Nat.lt_of_lt_of_le nr hb.size
  replace hB := hB.trans (hb.mono hB.size)
  refine hK.out _ _ ⟨p0, p1, trivial⟩ (fun hHeld => ?_)
  clear hK K hb
  try simp only [Act.put, sA, sB, sC]
  refine take_slotL (i := 8) (d := 11) (v := ?_) rfl rfl rfl (by kernel_rfl) (by kernel_rfl) (by kernel_rfl) (by kernel_rfl) (by kernel_rfl) (fun _ _ _ h => h) (Or.inl ⟨by rfl, ?_⟩) (by assumption) ?_
  rotate_left 1
  focus (intro wS hSw; (try dsimp only at hSw); go_simp; try with_reducible rfl)
  try simp only [sA, sB, sC]
  refine wpAnyL_ready (rs := [7]) (by kernel_rfl) (by simp) ?_
  refine AllReadyL.cons rfl (fun K hK => ?_) AllReadyL.nil
  refine step_copy (c := cR) Z10 rfl (.tmp 7) (.tmp 9) 22 39 10 rfl rfl i0 _ Tryz.underlying22 hi0 hz0 hz1 hz2 (fun x => rfl) _ _ ys w.heap.size rfl rfl hB.size (HR.out.s.toRs.below hB (Nat.le_refl _)) (by omega) (by omega) ?_
  intro v2 Z11 u2 hb
  obtain ⟨B2, d2, rfl⟩ := u2.slice
  replace u2 := u2.lower (lo' := w.heap.size + 2) nr
  replace p0 := cell_next hb np p0
  replace p1 := cell_next hb np p1
  replace p2 := cell_next hb np p2
  replace p3 := cell_next hb np p3
  replace p4 := cell_next hb np p4
  replace fp0 := frozen_next hb np fp0
  replace fp1 := frozen_next hb np fp1
  replace fp2 := frozen_next hb np fp2
  replace fp3 := frozen_next hb np fp3
  replace fp4 := frozen_next hb np fp4
  replace r0 := cell_next hb nr r0
  replace r1 := cell_next hb nr r1
  replace r2 := cell_next hb nr r2
  replace r3 := cell_next hb nr r3
  replace r4 := cell_next hb nr r4
  replace fr0 := frozen_next hb nr fr0
  replace fr1 := frozen_next hb nr fr1
  replace fr2 := frozen_next hb nr fr2
  replace fr3 := frozen_next hb nr fr3
  replace fr4 := frozen_next hb nr fr4
  replace np := Nat.lt_of_lt_of_le np hb.size
  replace nr := Nat.lt_of_lt_of_le nr hb.size
  replace u1 := u1.next hb
  replace hB := hB.trans (hb.mono hB.size)
  refine hK.out _ _ ⟨p0, p1, trivial⟩ (fun hHeld => ?_)
  clear hK K hb
  try simp only [Act.put, sA, sB, sC]
  refine wpAnyL_ready (rs := [9]) (by kernel_rfl) (by simp) ?_
  refine AllReadyL.consT rfl (by kernel_rfl) (fun K hK => ?_) AllReadyL.nil
  go_simp
  refine hK.out _ _ ?_
  clear hK K
  try simp only [Act.put, sA, sB, sC]
  refine wpAnyL_ready (rs := [10]) (by kernel_rfl) (by simp) ?_
  refine AllReadyL.consT rfl (by kernel_rfl) (fun K hK => ?_) AllReadyL.nil
  go_simp
  refine hK.out _ _ ?_
  clear hK K
  try simp only [Act.put, sA, sB, sC]
  refine wpAnyL_ready (rs := [11]) (by kernel_rfl) (by simp) ?_
  refine AllReadyL.consT rfl (by kernel_rfl) (fun K hK => ?_) AllReadyL.nil
  go_simp
  refine hK.out _ _ ?_
  clear hK K
  try simp only [Act.put, sA, sB, sC]
  refine wpAnyL_done (by kernel_rfl) ?_ _
  replace p0 : ((Z11.setCell ⟨w.heap.size, 0, none⟩ (.slice B1 xs.length d1)).setCell ⟨w.heap.size, 1, none⟩ (.slice B2 ys.length d2)).cell? ⟨w.heap.size, 0, none⟩ = some (.slice B1 xs.length d1) := by simp [go_sem, p0]
  replace r0 : ((Z11.setCell ⟨w.heap.size, 0, none⟩ (.slice B1 xs.length d1)).setCell ⟨w.heap.size, 1, none⟩ (.slice B2 ys.length d2)).cell? ⟨w.heap.size + 1, 0, none⟩ = some (.slice none 0 0) := (so (by omega)).trans ((so (by omega)).trans r0)
  replace fp0 : ((Z11.setCell ⟨w.heap.size, 0, none⟩ (.slice B1 xs.length d1)).setCell ⟨w.heap.size, 1, none⟩ (.slice B2 ys.length d2)).frozen? ⟨w.heap.size, 0, none⟩ = false := by simp [go_sem, fp0]
  replace fr0 : ((Z11.setCell ⟨w.heap.size, 0, none⟩ (.slice B1 xs.length d1)).setCell ⟨w.heap.size, 1, none⟩ (.slice B2 ys.length d2)).frozen? ⟨w.heap.size + 1, 0, none⟩ = false := by simp [go_sem, fr0]
  replace p1 : ((Z11.setCell ⟨w.heap.size, 0, none⟩ (.slice B1 xs.length d1)).setCell ⟨w.heap.size, 1, none⟩ (.slice B2 ys.length d2)).cell? ⟨w.heap.size, 1, none⟩ = some (.slice B2 ys.length d2) := by simp [go_sem, p1]
  replace r1 : ((Z11.setCell ⟨w.heap.size, 0, none⟩ (.slice B1 xs.length d1)).setCell ⟨w.heap.size, 1, none⟩ (.slice B2 ys.length d2)).cell? ⟨w.heap.size + 1, 1, none⟩ = some (.slice none 0 0) := (so (by omega)).trans ((so (by omega)).trans r1)
  replace fp1 : ((Z11.setCell ⟨w.heap.size, 0, none⟩ (.slice B1 xs.length d1)).setCell ⟨w.heap.size, 1, none⟩ (.slice B2 ys.length d2)).frozen? ⟨w.heap.size, 1, none⟩ = false := by simp [go_sem, fp1]
  replace fr1 : ((Z11.setCell ⟨w.heap.size, 0, none⟩ (.slice B1 xs.length d1)).setCell ⟨w.heap.size, 1, none⟩ (.slice B2 ys.length d2)).frozen? ⟨w.heap.size + 1, 1, none⟩ = false := by simp [go_sem, fr1]
  replace p2 : ((Z11.setCell ⟨w.heap.size, 0, none⟩ (.slice B1 xs.length d1)).setCell ⟨w.heap.size, 1, none⟩ (.slice B2 ys.length d2)).cell? ⟨w.heap.size, 2, none⟩ = some (.int .i64 bl) := (so (by omega)).trans ((so (by omega)).trans p2)
  replace r2 : ((Z11.setCell ⟨w.heap.size, 0, none⟩ (.slice B1 xs.length d1)).setCell ⟨w.heap.size, 1, none⟩ (.slice B2 ys.length d2)).cell? ⟨w.heap.size + 1, 2, none⟩ = some (.int .i64 0) := (so (by omega)).trans ((so (by omega)).trans r2)
  replace fp2 : ((Z11.setCell ⟨w.heap.size, 0, none⟩ (.slice B1 xs.length d1)).setCell ⟨w.heap.size, 1, none⟩ (.slice B2 ys.length d2)).frozen? ⟨w.heap.size, 2, none⟩ = false := by simp [go_sem, fp2]
  replace fr2 : ((Z11.setCell ⟨w.heap.size, 0, none⟩ (.slice B1 xs.length d1)).setCell ⟨w.heap.size, 1, none⟩ (.slice B2 ys.length d2)).frozen? ⟨w.heap.size + 1, 2, none⟩ = false := by simp [go_sem, fr2]
  replace p3 : ((Z11.setCell ⟨w.heap.size, 0, none⟩ (.slice B1 xs.length d1)).setCell ⟨w.heap.size, 1, none⟩ (.slice B2 ys.length d2)).cell? ⟨w.heap.size, 3, none⟩ = some (.int .i64 bh) := (so (by omega)).trans ((so (by omega)).trans p3)
  replace r3 : ((Z11.setCell ⟨w.heap.size, 0, none⟩ (.slice B1 xs.length d1)).setCell ⟨w.heap.size, 1, none⟩ (.slice B2 ys.length d2)).cell? ⟨w.heap.size + 1, 3, none⟩ = some (.int .i64 0) := (so (by omega)).trans ((so (by omega)).trans r3)
  replace fp3 : ((Z11.setCell ⟨w.heap.size, 0, none⟩ (.slice B1 xs.length d1)).setCell ⟨w.heap.size, 1, none⟩ (.slice B2 ys.length d2)).frozen? ⟨w.heap.size, 3, none⟩ = false := by simp [go_sem, fp3]
  replace fr3 : ((Z11.setCell ⟨w.heap.size, 0, none⟩ (.slice B1 xs.length d1)).setCell ⟨w.heap.size, 1, none⟩ (.slice B2 ys.length d2)).frozen? ⟨w.heap.size + 1, 3, none⟩ = false := by simp [go_sem, fr3]
  replace p4 : ((Z11.setCell ⟨w.heap.size, 0, none⟩ (.slice B1 xs.length d1)).setCell ⟨w.heap.size, 1, none⟩ (.slice B2 ys.length d2)).cell? ⟨w.heap.size, 4, none⟩ = some (.slice A3 ps.length c3) := (so (by omega)).trans ((so (by omega)).trans p4)
  replace r4 : ((Z11.setCell ⟨w.heap.size, 0, none⟩ (.slice B1 xs.length d1)).setCell ⟨w.heap.size, 1, none⟩ (.slice B2 ys.length d2)).cell? ⟨w.heap.size + 1, 4, none⟩ = some (.slice none 0 0) := (so (by omega)).trans ((so (by omega)).trans r4)
  replace fp4 : ((Z11.setCell ⟨w.heap.size, 0, none⟩ (.slice B1 xs.length d1)).setCell ⟨w.heap.size, 1, none⟩ (.slice B2 ys.length d2)).frozen? ⟨w.heap.size, 4, none⟩ = false := by simp [go_sem, fp4]
  replace fr4 : ((Z11.setCell ⟨w.heap.size, 0, none⟩ (.slice B1 xs.length d1)).setCell ⟨w.heap.size, 1, none⟩ (.slice B2 ys.length d2)).frozen? ⟨w.heap.size + 1, 4, none⟩ = false := by simp [go_sem, fr4]
  replace np : w.heap.size < ((Z11.setCell ⟨w.heap.size, 0, none⟩ (.slice B1 xs.length d1)).setCell ⟨w.heap.size, 1, none⟩ (.slice B2 ys.length d2)).heap.size := by simpa [World.setCell] using np
  replace nr : w.heap.size + 1 < ((Z11.setCell ⟨w.heap.size, 0, none⟩ (.slice B1 xs.length d1)).setCell ⟨w.heap.size, 1, none⟩ (.slice B2 ys.length d2)).heap.size := by simpa [World.setCell] using nr
  replace u1 := (u1.set w.heap.size 0 (.slice B1 xs.length d1) (by omega)).set w.heap.size 1 (.slice B2 ys.length d2) (by omega)
  replace u2 := (u2.set w.heap.size 0 (.slice B1 xs.length d1) (by omega)).set w.heap.size 1 (.slice B2 ys.length d2) (by omega)
  replace hB : Below w.heap.size w ((Z11.setCell ⟨w.heap.size, 0, none⟩ (.slice B1 xs.length d1)).setCell ⟨w.heap.size, 1, none⟩ (.slice B2 ys.length d2)) := (hB.setCell (p := ⟨w.heap.size, 0, none⟩) (Nat.le_refl _) _).setCell (p := ⟨w.heap.size, 1, none⟩) (Nat.le_refl _) _
  generalize ((Z11.setCell ⟨w.heap.size, 0, none⟩ (.slice B1 xs.length d1)).setCell ⟨w.heap.size, 1, none⟩ (.slice B2 ys.length d2)) = Y1 at *
  clear hHeld
  go_wp2_with (at_builtin; refine wpList_copy (c := cPd) _ rfl (.tmp 13) (.tmp 15) 25 41 rfl j0 _ Tryz.underlying25 hj0 hjz0 hjz1 hjz2 (fun x => rfl) _ _ ps w.heap.size rfl rfl ?q1 ?q2 ?q3 ?q4 ?q5)
  case q1 => have := hB.size; simp; omega
  case q2 => exact HR.out.p.below (hB.alloc hB.size _) (Nat.le_refl _)
  case q3 => omega
  case q4 => omega
  case q5 =>
   intro v3 Y2 u3 hb2
   have hb := ((Below.refl Y1.heap.size Y1).alloc (Nat.le_refl _) (Obj.cells #[] 41)).trans (hb2.mono (by simp))
   replace u3 := u3.lower (lo' := w.heap.size + 2) (by simp; omega)
   obtain ⟨B3, d3, rfl⟩ := u3.slice
   clear hb2
   replace p0 := cell_next hb np p0
   replace p1 := cell_next hb np p1
   replace p2 := cell_next hb np p2
   replace p3 := cell_next hb np p3
   replace p4 := cell_next hb np p4
   replace fp0 := frozen_next hb np fp0
   replace fp1 := frozen_next hb np fp1
   replace fp2 := frozen_next hb np fp2
   replace fp3 := frozen_next hb np fp3
   replace fp4 := frozen_next hb np fp4
   replace r0 := cell_next hb nr r0
   replace r1 := cell_next hb nr r1
   replace r2 := cell_next hb nr r2
   replace r3 := cell_next hb nr r3
   replace r4 := cell_next hb nr r4
   replace fr0 := frozen_next hb nr fr0
   replace fr1 := frozen_next hb nr fr1
   replace fr2 := frozen_next hb nr fr2
   replace fr3 := frozen_next hb nr fr3
   replace fr4 := frozen_next hb nr fr4
   replace np := Nat.lt_of_lt_of_le np hb.size
   replace nr := Nat.lt_of_lt_of_le nr hb.size
   replace u1 := u1.next hb
   replace u2 := u2.next hb
   replace hB := hB.trans (hb.mono hB.size)
   clear hb
   go_wp2_with fail
   refine bodyPost_ret (v := .agg #[.slice B1 xs.length d1, .slice B2 ys.length d2, .int .i64 bl, .int .i64 bh, .slice B3 ps.length d3]) (by simp [results, Tryz.results12, go_sem, p0, p1, p2, p3, p4, fp0, fp1, fp2, fp3, fp4, r0, r1, r2, r3, r4, fr0, fr1, fr2, fr3, fr4]) rfl ⟨_, _, _, rfl, ?_, ?_⟩
   ·exact ⟨rs_set ((((((u1.set (w.heap.size) 4 (.slice B3 ps.length d3) (by omega)).set (w.heap.size + 1) 0 (.slice B1 xs.length d1) (by omega)).set (w.heap.size + 1) 1 (.slice B2 ys.length d2) (by omega)).set (w.heap.size + 1) 2 (.int .i64 bl) (by omega)).set (w.heap.size + 1) 3 (.int .i64 bh) (by omega)).set (w.heap.size + 1) 4 (.slice B3 ps.length d3) (by omega)).rs, rs_set ((((((u2.set (w.heap.size) 4 (.slice B3 ps.length d3) (by omega)).set (w.heap.size + 1) 0 (.slice B1 xs.length d1) (by omega)).set (w.heap.size + 1) 1 (.slice B2 ys.length d2) (by omega)).set (w.heap.size + 1) 2 (.int .i64 bl) (by omega)).set (w.heap.size + 1) 3 (.int .i64 bh) (by omega)).set (w.heap.size + 1) 4 (.slice B3 ps.length d3) (by omega)).rs, ((((((u3.set (w.heap.size) 4 (.slice B3 ps.length d3) (by omega)).set (w.heap.size + 1) 0 (.slice B1 xs.length d1) (by omega)).set (w.heap.size + 1) 1 (.slice B2 ys.length d2) (by omega)).set (w.heap.size + 1) 2 (.int .i64 bl) (by omega)).set (w.heap.size + 1) 3 (.int .i64 bh) (by omega)).set (w.heap.size + 1) 4 (.slice B3 ps.length d3) (by omega)).rs⟩
   ·exact ((((((hB.setCell (p := ⟨w.heap.size, 4, none⟩) (by simp <;> omega) _).setCell (p := ⟨w.heap.size + 1, 0, none⟩) (by simp <;> omega) _).setCell (p := ⟨w.heap.size + 1, 1, none⟩) (by simp <;> omega) _).setCell (p := ⟨w.heap.size + 1, 2, none⟩) (by simp <;> omega) _).setCell (p := ⟨w.heap.size + 1, 3, none⟩) (by simp <;> omega) _).setCell (p := ⟨w.heap.size + 1, 4, none⟩) (by simp <;> omega) _)
def lgB (R : Cr) : Bool := decide (70 < R.xs.length) || decide (70 < R.ys.length) || decide (12 < R.ps.length)

set_option maxRecDepth 20000 in
set_option maxHeartbeats 1000000 in
theorem large_any (v1 v2 v3 : Value) (R : Cr) (B : Nat) (w : World) (hR : CrAt B w v1 v2 v3 R) :
  Calls Tryz.prog 10 #[.agg (cCr v1 v2 v3 R).toArray] w fun e w' => e = .returned (.bool (lgB R)) ∧ Below w.heap.size w w' := by
 obtain ⟨A1, c1, A2, c2, A3, c3, rfl, rfl, rfl⟩ := hR.slices
 obtain ⟨xs, ys, bl, bh, ps⟩ := R
 clear hR
 have hz : lgB ⟨xs, ys, bl, bh, ps⟩ = (decide ((70 : Int) < xs.length) || decide ((70 : Int) < ys.length) || decide ((12 : Int) < ps.length)) := by
  unfold lgB
  simp only [Int.ofNat_lt, show (70 : Int) = ((70 : Nat) : Int) from rfl, show (12 : Int) = ((12 : Nat) : Int) from rfl]
 rw [hz]
 clear hz
 dsimp only [cCr]
 generalize xs.length = n1 at *
 generalize ys.length = n2 at *
 generalize ps.length = n3 at *
 generalize h1 : decide ((70 : Int) < n1) = d1 at *
 generalize h2 : decide ((70 : Int) < n2) = d2 at *
 generalize h3 : decide ((12 : Int) < n3) = d3 at *
 go_enter Tryz.func10, Tryz.ntmps10
 cases d1
 ·cases d2
  ·go_wp2_with fail
   go_ret
   exact ⟨by simp, (Below.refl _ _).alloc (Nat.le_refl _) _⟩
  ·go_wp2_with fail
   go_ret
   exact ⟨by simp, (Below.refl _ _).alloc (Nat.le_refl _) _⟩
 ·go_wp2_with fail
  go_ret
  exact ⟨by simp, (Below.refl _ _).alloc (Nat.le_refl _) _⟩
end Go.Proofs.YtgklpbgdimkhaaaGreat
