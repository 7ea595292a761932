/- Contracts: whether a table is valid. -/
import Derived.Test.YtgklpbgdimkhaaaGreatKA2
import Derived.Deep.RegionWith
namespace Go.Proofs.YtgklpbgdimkhaaaGreat
open Go.RowKit Go.Lib Go.Shelf
set_option linter.unusedVariables false
set_option linter.unusedSimpArgs false
attribute [local go_sem ↓] Go.wp_at_zero Go.wp_at_succ

def rowB (x y : Int) : Bool := decide (-1000000000 ≤ x) && decide (x ≤ 1000000000) && decide (-1000000000 ≤ y) && decide (y ≤ 1000000000)
theorem rowB_of {x y : Int} (h : rowB x y = true) : -1000000000 ≤ x ∧ x ≤ 1000000000 ∧ -1000000000 ≤ y ∧ y ≤ 1000000000 := by simp [rowB] at h; omega

set_option maxHeartbeats 400000 in
theorem validRow_any (x y : Int) (w : World) :
    Calls Tryz.prog 107 #[.agg #[.int .i64 x, .int .i64 y]] w fun e w' => e = .returned (.bool (rowB x y)) ∧ Below w.heap.size w w' := by
  by_cases h1 : -1000000000 ≤ x <;> by_cases h2 : x ≤ 1000000000 <;> by_cases h3 : -1000000000 ≤ y <;> by_cases h4 : y ≤ 1000000000
  all_goals try (exfalso; omega)
  all_goals
    go_enter Tryz.func107, Tryz.ntmps107
    go_wp2
    go_ret
    exact ⟨by simp [rowB, *], (Below.refl _ _).alloc (Nat.le_refl _) _⟩

/-- since w nothing below has turned, and block b is there -/
def Kx (b : Nat) (w w' : World) : Prop := Below w.heap.size w w' ∧ b < w'.heap.size
theorem keepx {w W W' : World} {b : Nat} {x y : Option Value} (hb : Below W.heap.size W W') (h : W.cell? ⟨b, 0, none⟩ = x ∧ W.cell? ⟨b, 1, none⟩ = y ∧ Kx b w W) :
    W'.cell? ⟨b, 0, none⟩ = x ∧ W'.cell? ⟨b, 1, none⟩ = y ∧ Kx b w W' := by
  obtain ⟨h1, h2, h3, h4⟩ := h
  exact ⟨cell_next hb h4 h1, cell_next hb h4 h2, h3.trans (hb.mono h3.size), Nat.lt_of_lt_of_le h4 hb.size⟩

theorem take_slot {P : Program} {md : Region.Mode} {ops : Array Oper} {Q : Exit → Act → World → Prop} {S : World → Prop} {i d : Nat} {oi : Oper} {v : Value} {fuel : Nat} {listed : Array Bool} {a : Act} {w : World} (hi : ops[i]? = some oi) (hd : oi.dst = some d)
    (hs : Region.noSelect ops = true) (hf : Region.free md ops listed i = true) (hr : (Region.ready md ops listed).contains i = true)
    (hQ : ∀ c a w, Q (.panic c) (a.put (some d) v) w → Q (.panic c) a w) (hy : YieldsIf P ops S oi v a) (hS : S w)
    (h : wpAnyH P md ops Q S fuel (listed.setIfInBounds i true) { a with tmps := a.tmps.setIfInBounds d v } w) : wpAnyH P md ops Q S (fuel + 1) listed a w :=
  wpAnyH_take hi hs hf hr (by rw [hd]; exact hQ) hy hS (by rw [hd]; exact h)

theorem tk {P : Program} {md : Region.Mode} {ops : Array Oper} {Q : Exit → Act → World → Prop} {S : World → Prop} {oi : Oper} {fuel : Nat} {listed : Array Bool} {a : Act} {w : World} (i d : Nat) (v : Value)
    (hi : ops[i]? = some oi) (hd : oi.dst = some d) (hf : (Region.noSelect ops && (Region.free md ops listed i && (Region.ready md ops listed).contains i)) = true)
    (hQ : ∀ c a w, Q (.panic c) (a.put (some d) v) w → Q (.panic c) a w) (hy : Region.wanted oi (yielded ops a.tmps) = true ∧ ∀ w, S w → (execOp a.eval oi).run P w = .ok (.value v) w) (hS : S w)
    (h : wpAnyH P md ops Q S fuel (listed.setIfInBounds i true) { a with tmps := a.tmps.setIfInBounds d v } w) : wpAnyH P md ops Q S (fuel + 1) listed a w := by
  simp only [Bool.and_eq_true] at hf
  exact take_slot hi hd hf.1 hf.2.1 hf.2.2 hQ (Or.inl hy) hS h
theorem tq {P : Program} {md : Region.Mode} {ops : Array Oper} {Q : Exit → Act → World → Prop} {S : World → Prop} {oi : Oper} {fuel : Nat} {listed : Array Bool} {a : Act} {w : World} (i d : Nat) (v : Value)
    (hy : ∀ w, S w → (execOp a.eval oi).run P w = .ok (.value v) w) (h : wpAnyH P md ops Q S fuel (listed.setIfInBounds i true) { a with tmps := a.tmps.setIfInBounds d v } w)
    (hi : ops[i]? = some oi := by rfl) (hd : oi.dst = some d := by rfl) (hs : Region.noSelect ops = true := by kernel_rfl) (hf : Region.free md ops listed i = true := by kernel_rfl) (hr : (Region.ready md ops listed).contains i = true := by kernel_rfl)
    (hQ : ∀ c a w, Q (.panic c) (a.put (some d) v) w → Q (.panic c) a w := by exact fun _ _ _ h => h) (hw : Region.wanted oi (yielded ops a.tmps) = true := by rfl) (hS : S w := by assumption) : wpAnyH P md ops Q S (fuel + 1) listed a w :=
  take_slot hi hd hs hf hr hQ (Or.inl ⟨hw, hy⟩) hS h
theorem rd1 {P : Program} {md : Region.Mode} {ops : Array Oper} {Q : Exit → Act → World → Prop} {S : World → Prop} {oi : Oper} {fuel : Nat} {listed : Array Bool} {a : Act} {w : World} (i : Nat)
    (h : ∀ K' : Act → World → Prop, Shut (∀ a w, S w → (S w → wpAnyH P md ops Q S fuel (listed.setIfInBounds i true) a w) → K' a w) → if Region.wanted oi (yielded ops a.tmps) = true then Oper.wp P oi a w K' Q else K' (a.put oi.dst undef) w)
    (hr : Region.ready md ops listed = [i] := by kernel_rfl) (ho : ops[i]? = some oi := by rfl) : wpAnyH P md ops Q S (fuel + 1) listed a w := wpAnyH_ready hr (by simp) (AllReadyH.cons ho h AllReadyH.nil)
theorem so {w : World} {b o b' o' : Nat} {v : Value} (h : b = b' → o = o' → False) : (w.setCell ⟨b, o, none⟩ v).cell? ⟨b', o', none⟩ = w.cell? ⟨b', o', none⟩ :=
  World.cell?_setCell_other _ _ _ _ (by intro e; injection e with e1 e2; first | exact h e1 e2 | exact h e1.symm e2.symm)
theorem sA {α : Type} (l : List α) (i : Nat) (a : α) : l.toArray.setIfInBounds i a = (l.set i a).toArray := List.setIfInBounds_toArray ..
theorem sB {α : Type} {a b : α} {l : List α} : (a :: l).set 0 b = b :: l := rfl
theorem sC {α : Type} {a b : α} {l : List α} {n : Nat} : (a :: l).set (n + 1) b = a :: l.set n b := rfl

/-- whether row k of a table is as it must be -/
def rowOk (xs : List (Int × Int)) (k : Nat) : Bool :=
  match xs[k]? with
  | none => true
  | some p => rowB p.1 p.2 && (match k with | 0 => true | j + 1 => match xs[j]? with | none => true | some q => decide (q.1 < p.1))
def rowsOk (xs : List (Int × Int)) (n : Nat) : Bool := (List.range n).all (rowOk xs)
def tabOk (xs : List (Int × Int)) : Bool := decide (2 ≤ xs.length) && decide (xs.length ≤ 60) && rowsOk xs xs.length
def tabE (xs : List (Int × Int)) : Int := if tabOk xs then 0 else 2
theorem rowOk_of {xs : List (Int × Int)} {k : Nat} {p : Int × Int} (h : xs[k]? = some p) : rowOk xs k = (rowB p.1 p.2 && (match k with | 0 => true | j + 1 => match xs[j]? with | none => true | some q => decide (q.1 < p.1))) := by
  cases k with
  | zero => simp [rowOk, h]
  | succ j => simp [rowOk, h]
theorem rowOk_zero {xs : List (Int × Int)} {k : Nat} {p : Int × Int} (h : xs[k]? = some p) (hk : k = 0) : rowOk xs k = rowB p.1 p.2 := by subst hk; rw [rowOk_of h]; simp
theorem rowOk_succ {xs : List (Int × Int)} {j : Nat} {p q : Int × Int} (h : xs[j + 1]? = some p) (hq : xs[j]? = some q) : rowOk xs (j + 1) = (rowB p.1 p.2 && decide (q.1 < p.1)) := by rw [rowOk_of h]; simp only [hq]
theorem keepx3 {w W W' : World} {b g o : Nat} {x y z : Option Value} (hgw : g < b) (hb : Below W.heap.size W W') (h : W.cell? ⟨b, 0, none⟩ = x ∧ W.cell? ⟨b, 1, none⟩ = y ∧ W.cell? ⟨g, o, none⟩ = z ∧ Kx b w W) :
    W'.cell? ⟨b, 0, none⟩ = x ∧ W'.cell? ⟨b, 1, none⟩ = y ∧ W'.cell? ⟨g, o, none⟩ = z ∧ Kx b w W' := by
  obtain ⟨h1, h2, h5, h3, h4⟩ := h
  exact ⟨cell_next hb h4 h1, cell_next hb h4 h2, cell_next hb (by omega) h5, h3.trans (hb.mono h3.size), Nat.lt_of_lt_of_le h4 hb.size⟩
theorem keepx3_of {w W : World} {b g o : Nat} {x y z : Option Value} (hgw : g < b) (h : W.cell? ⟨b, 0, none⟩ = x ∧ W.cell? ⟨b, 1, none⟩ = y ∧ Kx b w W) (hz : W.cell? ⟨g, o, none⟩ = z) :
    W.cell? ⟨b, 0, none⟩ = x ∧ W.cell? ⟨b, 1, none⟩ = y ∧ W.cell? ⟨g, o, none⟩ = z ∧ Kx b w W := ⟨h.1, h.2.1, hz, h.2.2⟩
theorem rowsOk_succ (xs : List (Int × Int)) (n : Nat) : rowsOk xs (n + 1) = (rowsOk xs n && rowOk xs n) := by
  simp [rowsOk, List.range_succ, List.all_append]
theorem rowsOk_no (xs : List (Int × Int)) (n k : Nat) (hk : k < n) (h : rowOk xs k = false) : rowsOk xs n = false := by
  rw [Bool.eq_false_iff]
  intro ha
  have := List.all_eq_true.1 ha k (by simpa using hk)
  rw [h] at this
  cases this
theorem tabE_short {xs : List (Int × Int)} (h : xs.length < 2 ∨ 60 < xs.length) : tabE xs = 2 := by
  unfold tabE tabOk
  rcases h with h | h
  · rw [show decide (2 ≤ xs.length) = false from by simpa using h]; rfl
  · rw [show decide (xs.length ≤ 60) = false from by simpa using h]; simp
theorem tabE_no {xs : List (Int × Int)} (h : rowsOk xs xs.length = false) : tabE xs = 2 := by
  unfold tabE tabOk
  rw [h]; simp
theorem tabE_yes {xs : List (Int × Int)} (h1 : 2 ≤ xs.length) (h2 : xs.length ≤ 60) (h : rowsOk xs xs.length = true) : tabE xs = 0 := by
  unfold tabE tabOk
  rw [h]; simp [h1, h2]

set_option maxRecDepth 20000 in
set_option maxHeartbeats 1000000 in
theorem checkTable_long (g off : Nat) (xs : List (Int × Int)) (c : Nat) (w : World) (hg : g < w.heap.size) (hr : RRd w g off xs) (h1 : 2 ≤ xs.length) (h2 : xs.length ≤ 60) :
    Calls Tryz.prog 78 #[.slice (some ⟨g, off, none⟩) xs.length c] w fun e w' => e = .returned (.int .i64 (tabE xs)) ∧ Below w.heap.size w w' := by
  have HY := Lib.hid (fun h => tabE_yes (xs := xs) h1 h2 h)
  have HN := Lib.hid (fun h => tabE_no (xs := xs) h)
  have HS := Lib.hid (fun n => rowsOk_succ xs n)
  have HK := Lib.hid (fun k hk h => rowsOk_no xs xs.length k hk h)
  generalize tabE xs = r at *
  obtain ⟨n, hn⟩ : ∃ n, xs.length = n := ⟨_, rfl⟩
  rw [hn] at h1 h2 ⊢
  have Hn := Lib.hid hn
  clear hn
  have HR := Lib.hid hr
  clear hr
  go_enter Tryz.func78, Tryz.ntmps78
  go_wp2_with fail
  go_loopw [15] (fun i wr => ∃ k : Nat, k ≤ n ∧ i = .int .i64 k ∧ Hid (rowsOk xs k = true) ∧ Below w.heap.size w wr) (fun i _ => n - (RowKit.intOf i).toNat)
  case atStart => exact ⟨0, Nat.zero_le _, rfl, Lib.hid rfl, Below.refl _ _⟩
  case round =>
    obtain ⟨k, hk, rfl, hok, hbr⟩ := hrel
    by_cases hlt : k < n
    · have hkl : k < xs.length := by rw [Hn.out]; exact hlt
      obtain ⟨p, hp⟩ : ∃ p, xs[k]? = some p := ⟨_, List.getElem?_eq_getElem hkl⟩
      obtain ⟨q0, q1⟩ := (HR.out.below hbr hg) k p hp
      have hp' := Lib.hid hp
      clear hp
      have hgw : g < wr.heap.size := Nat.lt_of_lt_of_le hg hbr.size
      have c1 := Lib.hid (validRow_any p.1 p.2)
      obtain ⟨v, hv⟩ : ∃ v, rowB p.1 p.2 = v := ⟨_, rfl⟩
      rw [hv] at c1
      have hz := hbr.size
      have hk1 := Lib.hid (rowOk_zero hp'.out)
      have hS : (wr.alloc (.cells #[.int .i64 p.1, .int .i64 p.2] 39)).cell? ⟨wr.heap.size, 0, none⟩ = some (.int .i64 p.1) ∧ (wr.alloc (.cells #[.int .i64 p.1, .int .i64 p.2] 39)).cell? ⟨wr.heap.size, 1, none⟩ = some (.int .i64 p.2) ∧ Kx wr.heap.size w (wr.alloc (.cells #[.int .i64 p.1, .int .i64 p.2] 39)) := ⟨cell_new _ _ _ 0, cell_new _ _ _ 1, hbr.alloc hz _, by simp⟩
      have HS' := Lib.hid hS
      cases v
      · have hno : rowOk xs k = false := by rw [rowOk_of hp'.out, hv]; rfl
        have er := Lib.hid (HN.out (HK.out k hkl hno))
        clear hv hno
        go_wp2_with fail
        refine wp_region_held_drew (S := fun w' => w'.cell? ⟨wr.heap.size, 0, none⟩ = some (.int .i64 p.1) ∧ w'.cell? ⟨wr.heap.size, 1, none⟩ = some (.int .i64 p.2) ∧ Kx wr.heap.size w w') (by kernel_rfl) ?_ (fun hHeld => ?_)
        focus (exact keepx (Below.drew (Below.refl _ _)) hS)
        refine tk 0 20 ?_ rfl rfl (by kernel_rfl) (fun _ _ _ h => h) ⟨by rfl, ?_⟩ (by assumption) ?_; rotate_left; (focus intro w h; (try dsimp only at h); go_simp; try with_reducible rfl); try simp only [sA, sB, sC]
        refine rd1 1 (fun K hK => ?_)
        go_simp
        refine (c1.out _).mono ?_; rintro e w1 ⟨rfl, hb1⟩
        refine hK.out _ _ ?_ (fun hHeld => ?_)
        focus (exact keepx hb1 (by assumption))
        clear hK K
        try simp only [Act.put, List.setIfInBounds_toArray, List.set_cons_zero, List.set_cons_succ]
        refine tk 2 22 ?_ rfl rfl (by kernel_rfl) (fun _ _ _ h => h) ⟨by rfl, ?_⟩ (by assumption) ?_; rotate_left; (focus intro w h; (try dsimp only at h); go_simp; try with_reducible rfl); try simp only [sA, sB, sC]
        refine tk 3 23 ?_ rfl rfl (by kernel_rfl) (fun _ _ _ h => h) ⟨by rfl, ?_⟩ (by assumption) ?_; rotate_left; (focus intro w h; (try dsimp only at h); go_simp; try with_reducible rfl); try simp only [sA, sB, sC]
        refine take_slot (i := 4) (d := 24) (v := undef) rfl rfl (by kernel_rfl) (by kernel_rfl) (by kernel_rfl) (fun _ _ _ h => h) (Or.inr ⟨by rfl, rfl⟩) (by assumption) ?_
        try simp only [List.setIfInBounds_toArray, List.set_cons_zero, List.set_cons_succ]
        refine take_slot (i := 5) (d := 25) (v := undef) rfl rfl (by kernel_rfl) (by kernel_rfl) (by kernel_rfl) (fun _ _ _ h => h) (Or.inr ⟨by rfl, rfl⟩) (by assumption) ?_
        try simp only [List.setIfInBounds_toArray, List.set_cons_zero, List.set_cons_succ]
        refine take_slot (i := 6) (d := 26) (v := undef) rfl rfl (by kernel_rfl) (by kernel_rfl) (by kernel_rfl) (fun _ _ _ h => h) (Or.inr ⟨by rfl, rfl⟩) (by assumption) ?_
        try simp only [List.setIfInBounds_toArray, List.set_cons_zero, List.set_cons_succ]
        refine take_slot (i := 7) (d := 27) (v := undef) rfl rfl (by kernel_rfl) (by kernel_rfl) (by kernel_rfl) (fun _ _ _ h => h) (Or.inr ⟨by rfl, rfl⟩) (by assumption) ?_
        try simp only [List.setIfInBounds_toArray, List.set_cons_zero, List.set_cons_succ]
        refine take_slot (i := 8) (d := 28) (v := undef) rfl rfl (by kernel_rfl) (by kernel_rfl) (by kernel_rfl) (fun _ _ _ h => h) (Or.inr ⟨by rfl, rfl⟩) (by assumption) ?_
        try simp only [List.setIfInBounds_toArray, List.set_cons_zero, List.set_cons_succ]
        refine take_slot (i := 9) (d := 29) (v := undef) rfl rfl (by kernel_rfl) (by kernel_rfl) (by kernel_rfl) (fun _ _ _ h => h) (Or.inr ⟨by rfl, rfl⟩) (by assumption) ?_
        try simp only [List.setIfInBounds_toArray, List.set_cons_zero, List.set_cons_succ]
        refine take_slot (i := 10) (d := 30) (v := undef) rfl rfl (by kernel_rfl) (by kernel_rfl) (by kernel_rfl) (fun _ _ _ h => h) (Or.inr ⟨by rfl, rfl⟩) (by assumption) ?_
        try simp only [List.setIfInBounds_toArray, List.set_cons_zero, List.set_cons_succ]
        refine take_slot (i := 11) (d := 31) (v := undef) rfl rfl (by kernel_rfl) (by kernel_rfl) (by kernel_rfl) (fun _ _ _ h => h) (Or.inr ⟨by rfl, rfl⟩) (by assumption) ?_
        try simp only [List.setIfInBounds_toArray, List.set_cons_zero, List.set_cons_succ]
        refine take_slot (i := 12) (d := 32) (v := undef) rfl rfl (by kernel_rfl) (by kernel_rfl) (by kernel_rfl) (fun _ _ _ h => h) (Or.inr ⟨by rfl, rfl⟩) (by assumption) ?_
        try simp only [List.setIfInBounds_toArray, List.set_cons_zero, List.set_cons_succ]
        refine take_slot (i := 13) (d := 33) (v := undef) rfl rfl (by kernel_rfl) (by kernel_rfl) (by kernel_rfl) (fun _ _ _ h => h) (Or.inr ⟨by rfl, rfl⟩) (by assumption) ?_
        try simp only [List.setIfInBounds_toArray, List.set_cons_zero, List.set_cons_succ]
        refine take_slot (i := 14) (d := 34) (v := undef) rfl rfl (by kernel_rfl) (by kernel_rfl) (by kernel_rfl) (fun _ _ _ h => h) (Or.inr ⟨by rfl, rfl⟩) (by assumption) ?_
        try simp only [List.setIfInBounds_toArray, List.set_cons_zero, List.set_cons_succ]
        refine take_slot (i := 15) (d := 35) (v := undef) rfl rfl (by kernel_rfl) (by kernel_rfl) (by kernel_rfl) (fun _ _ _ h => h) (Or.inr ⟨by rfl, rfl⟩) (by assumption) ?_
        try simp only [List.setIfInBounds_toArray, List.set_cons_zero, List.set_cons_succ]
        refine take_slot (i := 16) (d := 36) (v := undef) rfl rfl (by kernel_rfl) (by kernel_rfl) (by kernel_rfl) (fun _ _ _ h => h) (Or.inr ⟨by rfl, rfl⟩) (by assumption) ?_
        try simp only [List.setIfInBounds_toArray, List.set_cons_zero, List.set_cons_succ]
        refine tk 17 37 ?_ rfl rfl (by kernel_rfl) (fun _ _ _ h => h) ⟨by rfl, ?_⟩ (by assumption) ?_; rotate_left; (focus intro w h; (try dsimp only at h); go_simp; try with_reducible rfl); try simp only [sA, sB, sC]
        refine wpAnyH_done (by kernel_rfl) ?_ _
        obtain ⟨_, _, kx, _⟩ := ‹_ ∧ _ ∧ Kx _ _ _›
        go_wp2_with fail
        go_ret
        exact ⟨ret_int er.out.symm, kx⟩
      · obtain rfl | ⟨j, rfl⟩ : k = 0 ∨ ∃ j, k = j + 1 := by cases k with | zero => exact .inl rfl | succ j => exact .inr ⟨j, rfl⟩
        · have hyes : rowOk xs 0 = true := by rw [hk1.out rfl]; exact hv
          have hok1 := Lib.hid (show rowsOk xs (0 + 1) = true by rw [HS.out, hok.out, hyes]; rfl)
          clear hv hyes
          simp only [Nat.zero_mul, Nat.add_zero] at q0 q1
          go_wp2_with fail
          refine wp_region_held_drew (S := fun w' => w'.cell? ⟨wr.heap.size, 0, none⟩ = some (.int .i64 p.1) ∧ w'.cell? ⟨wr.heap.size, 1, none⟩ = some (.int .i64 p.2) ∧ Kx wr.heap.size w w') (by kernel_rfl) ?_ (fun hHeld => ?_)
          focus (exact keepx (Below.drew (Below.refl _ _)) hS)
          refine tk 0 20 ?_ rfl rfl (by kernel_rfl) (fun _ _ _ h => h) ⟨by rfl, ?_⟩ (by assumption) ?_; rotate_left; (focus intro w h; (try dsimp only at h); go_simp; try with_reducible rfl); try simp only [sA, sB, sC]
          refine rd1 1 (fun K hK => ?_)
          go_simp
          refine (c1.out _).mono ?_; rintro e w1 ⟨rfl, hb1⟩
          refine hK.out _ _ ?_ (fun hHeld => ?_)
          focus (exact keepx hb1 (by assumption))
          clear hK K
          try simp only [Act.put, List.setIfInBounds_toArray, List.set_cons_zero, List.set_cons_succ]
          refine tk 2 22 ?_ rfl rfl (by kernel_rfl) (fun _ _ _ h => h) ⟨by rfl, ?_⟩ (by assumption) ?_; rotate_left; (focus intro w h; (try dsimp only at h); go_simp; try with_reducible rfl); try simp only [sA, sB, sC]
          refine tk 3 23 ?_ rfl rfl (by kernel_rfl) (fun _ _ _ h => h) ⟨by rfl, ?_⟩ (by assumption) ?_; rotate_left; (focus intro w h; (try dsimp only at h); go_simp; try with_reducible rfl); try simp only [sA, sB, sC]
          refine tk 4 24 ?_ rfl rfl (by kernel_rfl) (fun _ _ _ h => h) ⟨by rfl, ?_⟩ (by assumption) ?_; rotate_left; (focus intro w h; (try dsimp only at h); go_simp; try with_reducible rfl); try simp only [sA, sB, sC]
          refine tk 5 25 ?_ rfl rfl (by kernel_rfl) (fun _ _ _ h => h) ⟨by rfl, ?_⟩ (by assumption) ?_; rotate_left; (focus intro w h; (try dsimp only at h); go_simp; try with_reducible rfl); try simp only [sA, sB, sC]
          refine tk 6 26 ?_ rfl rfl (by kernel_rfl) (fun _ _ _ h => h) ⟨by rfl, ?_⟩ (by assumption) ?_; rotate_left; (focus intro w h; (try dsimp only at h); go_simp; try with_reducible rfl); try simp only [sA, sB, sC]
          refine take_slot (i := 7) (d := 27) (v := undef) rfl rfl (by kernel_rfl) (by kernel_rfl) (by kernel_rfl) (fun _ _ _ h => h) (Or.inr ⟨by rfl, rfl⟩) (by assumption) ?_
          try simp only [List.setIfInBounds_toArray, List.set_cons_zero, List.set_cons_succ]
          refine take_slot (i := 8) (d := 28) (v := undef) rfl rfl (by kernel_rfl) (by kernel_rfl) (by kernel_rfl) (fun _ _ _ h => h) (Or.inr ⟨by rfl, rfl⟩) (by assumption) ?_
          try simp only [List.setIfInBounds_toArray, List.set_cons_zero, List.set_cons_succ]
          refine take_slot (i := 9) (d := 29) (v := undef) rfl rfl (by kernel_rfl) (by kernel_rfl) (by kernel_rfl) (fun _ _ _ h => h) (Or.inr ⟨by rfl, rfl⟩) (by assumption) ?_
          try simp only [List.setIfInBounds_toArray, List.set_cons_zero, List.set_cons_succ]
          refine take_slot (i := 10) (d := 30) (v := undef) rfl rfl (by kernel_rfl) (by kernel_rfl) (by kernel_rfl) (fun _ _ _ h => h) (Or.inr ⟨by rfl, rfl⟩) (by assumption) ?_
          try simp only [List.setIfInBounds_toArray, List.set_cons_zero, List.set_cons_succ]
          refine take_slot (i := 11) (d := 31) (v := undef) rfl rfl (by kernel_rfl) (by kernel_rfl) (by kernel_rfl) (fun _ _ _ h => h) (Or.inr ⟨by rfl, rfl⟩) (by assumption) ?_
          try simp only [List.setIfInBounds_toArray, List.set_cons_zero, List.set_cons_succ]
          refine take_slot (i := 12) (d := 32) (v := undef) rfl rfl (by kernel_rfl) (by kernel_rfl) (by kernel_rfl) (fun _ _ _ h => h) (Or.inr ⟨by rfl, rfl⟩) (by assumption) ?_
          try simp only [List.setIfInBounds_toArray, List.set_cons_zero, List.set_cons_succ]
          refine take_slot (i := 13) (d := 33) (v := undef) rfl rfl (by kernel_rfl) (by kernel_rfl) (by kernel_rfl) (fun _ _ _ h => h) (Or.inr ⟨by rfl, rfl⟩) (by assumption) ?_
          try simp only [List.setIfInBounds_toArray, List.set_cons_zero, List.set_cons_succ]
          refine take_slot (i := 14) (d := 34) (v := undef) rfl rfl (by kernel_rfl) (by kernel_rfl) (by kernel_rfl) (fun _ _ _ h => h) (Or.inr ⟨by rfl, rfl⟩) (by assumption) ?_
          try simp only [List.setIfInBounds_toArray, List.set_cons_zero, List.set_cons_succ]
          refine take_slot (i := 15) (d := 35) (v := undef) rfl rfl (by kernel_rfl) (by kernel_rfl) (by kernel_rfl) (fun _ _ _ h => h) (Or.inr ⟨by rfl, rfl⟩) (by assumption) ?_
          try simp only [List.setIfInBounds_toArray, List.set_cons_zero, List.set_cons_succ]
          refine tk 16 36 ?_ rfl rfl (by kernel_rfl) (fun _ _ _ h => h) ⟨by rfl, ?_⟩ (by assumption) ?_; rotate_left; (focus intro w h; (try dsimp only at h); go_simp; try with_reducible rfl); try simp only [sA, sB, sC]
          refine tk 17 37 ?_ rfl rfl (by kernel_rfl) (fun _ _ _ h => h) ⟨by rfl, ?_⟩ (by assumption) ?_; rotate_left; (focus intro w h; (try dsimp only at h); go_simp; try with_reducible rfl); try simp only [sA, sB, sC]
          refine wpAnyH_done (by kernel_rfl) ?_ _
          obtain ⟨_, _, kx, _⟩ := ‹_ ∧ _ ∧ Kx _ _ _›
          go_wp2_with fail
          go_roundw
          case rel => exact ⟨1, by omega, by go_num, hok1, kx⟩
          case measure => simp [RowKit.intOf]; omega
        · have hjl : j < xs.length := by omega
          obtain ⟨q, hq⟩ : ∃ q, xs[j]? = some q := ⟨_, List.getElem?_eq_getElem hjl⟩
          obtain ⟨qc, _⟩ := (HR.out.below hbr hg) j q hq
          have hval : rowOk xs (j + 1) = decide (q.1 < p.1) := by rw [rowOk_succ hp'.out hq, hv]; rfl
          have Hval := Lib.hid hval
          have hS3 := keepx3_of hgw HS'.out (show (wr.alloc (.cells #[.int .i64 p.1, .int .i64 p.2] 39)).cell? ⟨g, off + j * 2, none⟩ = some (.int .i64 q.1) by rw [cell_old _ _ _ _ hgw]; exact qc)
          clear hv hval hq
          have hj0 : (0 : Int) ≤ (j : Int) := by omega
          have hj1 : (j : Int) < (n : Int) := by omega
          have hw1 : IntKind.i64.wrap (j : Int) = (j : Int) := IntWalk.i64_in _ (by omega)
          by_cases hlt2 : q.1 < p.1
          · have hok1 := Lib.hid (show rowsOk xs (j + 1 + 1) = true by rw [HS.out, hok.out, Hval.out]; simp [hlt2])
            go_wp2_with fail
            refine wp_region_held_drew (S := fun w' => w'.cell? ⟨wr.heap.size, 0, none⟩ = some (.int .i64 p.1) ∧ w'.cell? ⟨wr.heap.size, 1, none⟩ = some (.int .i64 p.2) ∧ w'.cell? ⟨g, off + j * 2, none⟩ = some (.int .i64 q.1) ∧ Kx wr.heap.size w w') (by kernel_rfl) ?_ (fun hHeld => ?_)
            focus (exact keepx3 hgw (Below.drew (Below.refl _ _)) hS3)
            refine tk 0 20 ?_ rfl rfl (by kernel_rfl) (fun _ _ _ h => h) ⟨by rfl, ?_⟩ (by assumption) ?_; rotate_left; (focus intro w h; (try dsimp only at h); go_simp; try with_reducible rfl); try simp only [sA, sB, sC]
            refine rd1 1 (fun K hK => ?_)
            go_simp
            refine (c1.out _).mono ?_; rintro e w1 ⟨rfl, hb1⟩
            refine hK.out _ _ ?_ (fun hHeld => ?_)
            focus (exact keepx3 hgw hb1 (by assumption))
            clear hK K
            try simp only [Act.put, List.setIfInBounds_toArray, List.set_cons_zero, List.set_cons_succ]
            refine tk 2 22 ?_ rfl rfl (by kernel_rfl) (fun _ _ _ h => h) ⟨by rfl, ?_⟩ (by assumption) ?_; rotate_left; (focus intro w h; (try dsimp only at h); go_simp; try with_reducible rfl); try simp only [sA, sB, sC]
            refine tk 3 23 ?_ rfl rfl (by kernel_rfl) (fun _ _ _ h => h) ⟨by rfl, ?_⟩ (by assumption) ?_; rotate_left; (focus intro w h; (try dsimp only at h); go_simp; try with_reducible rfl); try simp only [sA, sB, sC]
            refine tk 4 24 ?_ rfl rfl (by kernel_rfl) (fun _ _ _ h => h) ⟨by rfl, ?_⟩ (by assumption) ?_; rotate_left; (focus intro w h; (try dsimp only at h); go_simp; try with_reducible rfl); try simp only [sA, sB, sC]
            refine tk 5 25 ?_ rfl rfl (by kernel_rfl) (fun _ _ _ h => h) ⟨by rfl, ?_⟩ (by assumption) ?_; rotate_left; (focus intro w h; (try dsimp only at h); go_simp; try with_reducible rfl); try simp only [sA, sB, sC]
            refine tk 6 26 ?_ rfl rfl (by kernel_rfl) (fun _ _ _ h => h) ⟨by rfl, ?_⟩ (by assumption) ?_; rotate_left; (focus intro w h; (try dsimp only at h); go_simp; try with_reducible rfl); try simp only [sA, sB, sC]
            refine tk 7 27 ?_ rfl rfl (by kernel_rfl) (fun _ _ _ h => h) ⟨by rfl, ?_⟩ (by assumption) ?_; rotate_left; (focus intro w h; (try dsimp only at h); go_simp; try with_reducible rfl); try simp only [sA, sB, sC]
            refine tk 8 28 ?_ rfl rfl (by kernel_rfl) (fun _ _ _ h => h) ⟨by rfl, ?_⟩ (by assumption) ?_; rotate_left; (focus intro w h; (try dsimp only at h); go_simp; try with_reducible rfl); try simp only [sA, sB, sC]
            refine tk 9 29 ?_ rfl rfl (by kernel_rfl) (fun _ _ _ h => h) ⟨by rfl, ?_⟩ (by assumption) ?_; rotate_left; (focus intro w h; (try dsimp only at h); go_simp; try with_reducible rfl); try simp only [sA, sB, sC]
            refine tk 10 30 ?_ rfl rfl (by kernel_rfl) (fun _ _ _ h => h) ⟨by rfl, ?_⟩ (by assumption) ?_; rotate_left; (focus intro w h; (try dsimp only at h); go_simp; try with_reducible rfl); try simp only [sA, sB, sC]
            refine tk 11 31 ?_ rfl rfl (by kernel_rfl) (fun _ _ _ h => h) ⟨by rfl, ?_⟩ (by assumption) ?_; rotate_left; (focus intro w h; (try dsimp only at h); go_simp; try with_reducible rfl); try simp only [sA, sB, sC]
            refine tk 12 32 ?_ rfl rfl (by kernel_rfl) (fun _ _ _ h => h) ⟨by rfl, ?_⟩ (by assumption) ?_; rotate_left; (focus intro w h; (try dsimp only at h); go_simp; try with_reducible rfl); try simp only [sA, sB, sC]
            refine tk 13 33 ?_ rfl rfl (by kernel_rfl) (fun _ _ _ h => h) ⟨by rfl, ?_⟩ (by assumption) ?_; rotate_left; (focus intro w h; (try dsimp only at h); go_simp; try with_reducible rfl); try simp only [sA, sB, sC]
            refine tk 14 34 ?_ rfl rfl (by kernel_rfl) (fun _ _ _ h => h) ⟨by rfl, ?_⟩ (by assumption) ?_; rotate_left; (focus intro w h; (try dsimp only at h); go_simp; try with_reducible rfl); try simp only [sA, sB, sC]
            refine tk 15 35 ?_ rfl rfl (by kernel_rfl) (fun _ _ _ h => h) ⟨by rfl, ?_⟩ (by assumption) ?_; rotate_left; (focus intro w h; (try dsimp only at h); go_simp; try with_reducible rfl); try simp only [sA, sB, sC]
            refine tk 16 36 ?_ rfl rfl (by kernel_rfl) (fun _ _ _ h => h) ⟨by rfl, ?_⟩ (by assumption) ?_; rotate_left; (focus intro w h; (try dsimp only at h); go_simp; try with_reducible rfl); try simp only [sA, sB, sC]
            refine tk 17 37 ?_ rfl rfl (by kernel_rfl) (fun _ _ _ h => h) ⟨by rfl, ?_⟩ (by assumption) ?_; rotate_left; (focus intro w h; (try dsimp only at h); go_simp; try with_reducible rfl); try simp only [sA, sB, sC]
            refine wpAnyH_done (by kernel_rfl) ?_ _
            obtain ⟨_, _, _, kx, _⟩ := ‹_ ∧ _ ∧ _ ∧ Kx _ _ _›
            go_wp2_with fail
            go_roundw
            case rel => exact ⟨j + 1 + 1, by omega, by go_num, hok1, kx⟩
            case measure => simp [RowKit.intOf]; omega
          · have hno : rowOk xs (j + 1) = false := by rw [Hval.out]; simp [hlt2]
            have er := Lib.hid (HN.out (HK.out _ hkl hno))
            clear hno
            go_wp2_with fail
            refine wp_region_held_drew (S := fun w' => w'.cell? ⟨wr.heap.size, 0, none⟩ = some (.int .i64 p.1) ∧ w'.cell? ⟨wr.heap.size, 1, none⟩ = some (.int .i64 p.2) ∧ w'.cell? ⟨g, off + j * 2, none⟩ = some (.int .i64 q.1) ∧ Kx wr.heap.size w w') (by kernel_rfl) ?_ (fun hHeld => ?_)
            focus (exact keepx3 hgw (Below.drew (Below.refl _ _)) hS3)
            refine tk 0 20 ?_ rfl rfl (by kernel_rfl) (fun _ _ _ h => h) ⟨by rfl, ?_⟩ (by assumption) ?_; rotate_left; (focus intro w h; (try dsimp only at h); go_simp; try with_reducible rfl); try simp only [sA, sB, sC]
            refine rd1 1 (fun K hK => ?_)
            go_simp
            refine (c1.out _).mono ?_; rintro e w1 ⟨rfl, hb1⟩
            refine hK.out _ _ ?_ (fun hHeld => ?_)
            focus (exact keepx3 hgw hb1 (by assumption))
            clear hK K
            try simp only [Act.put, List.setIfInBounds_toArray, List.set_cons_zero, List.set_cons_succ]
            refine tk 2 22 ?_ rfl rfl (by kernel_rfl) (fun _ _ _ h => h) ⟨by rfl, ?_⟩ (by assumption) ?_; rotate_left; (focus intro w h; (try dsimp only at h); go_simp; try with_reducible rfl); try simp only [sA, sB, sC]
            refine tk 3 23 ?_ rfl rfl (by kernel_rfl) (fun _ _ _ h => h) ⟨by rfl, ?_⟩ (by assumption) ?_; rotate_left; (focus intro w h; (try dsimp only at h); go_simp; try with_reducible rfl); try simp only [sA, sB, sC]
            refine tk 4 24 ?_ rfl rfl (by kernel_rfl) (fun _ _ _ h => h) ⟨by rfl, ?_⟩ (by assumption) ?_; rotate_left; (focus intro w h; (try dsimp only at h); go_simp; try with_reducible rfl); try simp only [sA, sB, sC]
            refine tk 5 25 ?_ rfl rfl (by kernel_rfl) (fun _ _ _ h => h) ⟨by rfl, ?_⟩ (by assumption) ?_; rotate_left; (focus intro w h; (try dsimp only at h); go_simp; try with_reducible rfl); try simp only [sA, sB, sC]
            refine tk 6 26 ?_ rfl rfl (by kernel_rfl) (fun _ _ _ h => h) ⟨by rfl, ?_⟩ (by assumption) ?_; rotate_left; (focus intro w h; (try dsimp only at h); go_simp; try with_reducible rfl); try simp only [sA, sB, sC]
            refine tk 7 27 ?_ rfl rfl (by kernel_rfl) (fun _ _ _ h => h) ⟨by rfl, ?_⟩ (by assumption) ?_; rotate_left; (focus intro w h; (try dsimp only at h); go_simp; try with_reducible rfl); try simp only [sA, sB, sC]
            refine tk 8 28 ?_ rfl rfl (by kernel_rfl) (fun _ _ _ h => h) ⟨by rfl, ?_⟩ (by assumption) ?_; rotate_left; (focus intro w h; (try dsimp only at h); go_simp; try with_reducible rfl); try simp only [sA, sB, sC]
            refine tk 9 29 ?_ rfl rfl (by kernel_rfl) (fun _ _ _ h => h) ⟨by rfl, ?_⟩ (by assumption) ?_; rotate_left; (focus intro w h; (try dsimp only at h); go_simp; try with_reducible rfl); try simp only [sA, sB, sC]
            refine tk 10 30 ?_ rfl rfl (by kernel_rfl) (fun _ _ _ h => h) ⟨by rfl, ?_⟩ (by assumption) ?_; rotate_left; (focus intro w h; (try dsimp only at h); go_simp; try with_reducible rfl); try simp only [sA, sB, sC]
            refine tk 11 31 ?_ rfl rfl (by kernel_rfl) (fun _ _ _ h => h) ⟨by rfl, ?_⟩ (by assumption) ?_; rotate_left; (focus intro w h; (try dsimp only at h); go_simp; try with_reducible rfl); try simp only [sA, sB, sC]
            refine tk 12 32 ?_ rfl rfl (by kernel_rfl) (fun _ _ _ h => h) ⟨by rfl, ?_⟩ (by assumption) ?_; rotate_left; (focus intro w h; (try dsimp only at h); go_simp; try with_reducible rfl); try simp only [sA, sB, sC]
            refine tk 13 33 ?_ rfl rfl (by kernel_rfl) (fun _ _ _ h => h) ⟨by rfl, ?_⟩ (by assumption) ?_; rotate_left; (focus intro w h; (try dsimp only at h); go_simp; try with_reducible rfl); try simp only [sA, sB, sC]
            refine tk 14 34 ?_ rfl rfl (by kernel_rfl) (fun _ _ _ h => h) ⟨by rfl, ?_⟩ (by assumption) ?_; rotate_left; (focus intro w h; (try dsimp only at h); go_simp; try with_reducible rfl); try simp only [sA, sB, sC]
            refine tk 15 35 ?_ rfl rfl (by kernel_rfl) (fun _ _ _ h => h) ⟨by rfl, ?_⟩ (by assumption) ?_; rotate_left; (focus intro w h; (try dsimp only at h); go_simp; try with_reducible rfl); try simp only [sA, sB, sC]
            refine tk 16 36 ?_ rfl rfl (by kernel_rfl) (fun _ _ _ h => h) ⟨by rfl, ?_⟩ (by assumption) ?_; rotate_left; (focus intro w h; (try dsimp only at h); go_simp; try with_reducible rfl); try simp only [sA, sB, sC]
            refine tk 17 37 ?_ rfl rfl (by kernel_rfl) (fun _ _ _ h => h) ⟨by rfl, ?_⟩ (by assumption) ?_; rotate_left; (focus intro w h; (try dsimp only at h); go_simp; try with_reducible rfl); try simp only [sA, sB, sC]
            refine wpAnyH_done (by kernel_rfl) ?_ _
            obtain ⟨_, _, _, kx, _⟩ := ‹_ ∧ _ ∧ _ ∧ Kx _ _ _›
            go_wp2_with fail
            go_ret
            exact ⟨ret_int er.out.symm, kx⟩
    · obtain rfl : k = n := by omega
      have er := Lib.hid (HY.out (by rw [Hn.out]; exact hok.out))
      go_wp2_with fail
      go_ret
      exact ⟨ret_int er.out.symm, hbr⟩
end Go.Proofs.YtgklpbgdimkhaaaGreat

