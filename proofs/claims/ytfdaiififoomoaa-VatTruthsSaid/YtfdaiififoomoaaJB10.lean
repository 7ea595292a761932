/- Contracts: U11, U12, joined. -/
import Derived.Test.YtfdaiififoomoaaJB9
import Derived.Maps.AppendAt
import Derived.Laws.OwnMore
import Derived.Deep.AppendLies
import Derived.Deep.RegionHeld3
import Derived.Deep.RegionWith
import Derived.BigRegion
import Derived.Deep.DeepCutAuto
import Derived.Deep.Draws
import Derived.Test.YtfdaiififoomoaaJB3
namespace Go.Proofs.Ytfdaiififoomoaa
open Go.RowKit Go.Lib Go.Shelf
set_option linter.unusedVariables false
set_option linter.unusedSimpArgs false
attribute [local go_sem ↓] Go.wp_at_zero Go.wp_at_succ

/-- the cells of some lots, one after another -/
def cellsL (l : Lo) : List Value := [.int .i64 l.a, .int .i64 l.s, .int .i64 l.lo, .int .i64 l.hi, .int .i64 l.t]
def flatL (xs : List Lo) : List Value := xs.flatMap cellsL
theorem flatL_append (xs ys : List Lo) : flatL (xs ++ ys) = flatL xs ++ flatL ys := by simp [flatL]
theorem flatL_one (l : Lo) : flatL [l] = cellsL l := by simp [flatL]
theorem flatL_length (xs : List Lo) : (flatL xs).length = xs.length * 5 := by
  induction xs with
  | nil => rfl
  | cons p xs ih => rw [← List.singleton_append, flatL_append, List.length_append, ih, flatL_one]; simp [cellsL]; omega
theorem flatL_get (xs : List Lo) (k : Nat) (l : Lo) (h : xs[k]? = some l) (j : Nat) (hj : j < 5) : (flatL xs)[k * 5 + j]? = (cellsL l)[j]? := by
  induction xs generalizing k with
  | nil => simp at h
  | cons p xs ih =>
    rw [← List.singleton_append, flatL_append, flatL_one]
    have hc : (cellsL p).length = 5 := rfl
    rcases k with _ | k
    · simp at h
      subst h
      rw [List.getElem?_append_left (by omega), Nat.zero_mul, Nat.zero_add]
    · rw [List.getElem?_append_right (by omega), hc, show (k + 1) * 5 + j - 5 = k * 5 + j from by omega]
      exact ih k (by simpa using h)
theorem infoLot : (Try.prog.info? 92).map (fun i => (i.zero, i.size, i.bytes)) = some (some (.agg #[.int .i64 0, .int .i64 0, .int .i64 0, .int .i64 0, .int .i64 0]), 5, 40) := by kernel_rfl

/-- the slice v owns the lots xs, in a block from base on -/
def OwnL (base : Nat) (w : World) (v : Value) (xs : List Lo) : Prop := w.ownsRow base 92 5 v xs.length (flatL xs)
theorem OwnL.nil (base : Nat) (w : World) : OwnL base w (.slice none 0 0) [] := World.ownsRow_nil w base _ _
theorem OwnL.read {base : Nat} {w : World} {v : Value} {xs : List Lo} (h : OwnL base w v xs) : LsAt w.heap.size w v xs := by
  rcases Nat.eq_zero_or_pos xs.length with h0 | h0
  · rcases h.2 with ⟨rfl, _⟩ | ⟨g, cap, cur, rfl, _⟩
    · exact ⟨none, 0, by rw [h0], fun h => by omega⟩
    · exact ⟨_, _, rfl, fun h => by omega⟩
  · obtain ⟨g, cap, rfl, hb, hg⟩ := World.ownsRow.form h h0
    refine ⟨_, _, rfl, fun _ => ⟨g, 0, rfl, hg, fun k l hl => ?_⟩⟩
    have hk : k < xs.length := (List.getElem?_eq_some_iff.1 hl).1
    have key : ∀ j, j < 5 → w.cell? ⟨g, 0 + k * 5 + j, none⟩ = (cellsL l)[j]? := fun j hj => by
      rw [Nat.zero_add, World.ownsRow.cellAt h (k * 5 + j) (by omega)]
      exact flatL_get xs k l hl j hj
    exact ⟨key 0 (by omega), key 1 (by omega), key 2 (by omega), key 3 (by omega), key 4 (by omega)⟩
theorem OwnL.form {base : Nat} {w : World} {v : Value} {xs : List Lo} (h : OwnL base w v xs) : ∃ A c, v = .slice A xs.length c := by
  obtain ⟨A, c, e, _⟩ := h.read
  exact ⟨A, c, e⟩
theorem OwnL.grown {base : Nat} {w w' : World} {v : Value} {xs : List Lo} (h : OwnL base w v xs) {row : Option Nat} (hg : w.grownBy w' row) (hne : v.ownBlock = none ∨ v.ownBlock ≠ row) : OwnL base w' v xs := World.ownsRow.kept h hg hne
theorem OwnL.below {base : Nat} {w w' : World} {v : Value} {xs : List Lo} (h : OwnL base w v xs) (hb : Below w.heap.size w w') : OwnL base w' v xs := by
  refine h.grown (row := none) ⟨hb.os, hb.tape, hb.output, hb.size, fun i hi _ => hb.block i hi⟩ ?_
  cases v.ownBlock with
  | none => exact .inl rfl
  | some g => exact .inr (by simp)
theorem OwnL.kept {base : Nat} {U : Nat → Prop} {w w' : World} {v : Value} {xs : List Lo} (h : OwnL base w v xs) (hk : Kept U w w') (hne : ∀ g, v.ownBlock = some g → ¬ U g) : OwnL base w' v xs := by
  refine ⟨h.1, ?_⟩
  rcases h.2 with ⟨rfl, h0⟩ | ⟨g, cap, cur, rfl, hb, hg, hr⟩
  · exact .inl ⟨rfl, h0⟩
  · exact .inr ⟨g, cap, cur, rfl, hb, hk.2 _ _ hg (hne g rfl), hr⟩

set_option maxHeartbeats 400000 in
theorem hold1_any (T : Int) (b : Nat) (l : Lo) (w : World) (hb : b < w.heap.size) (h0 : w.cell? ⟨b, 4, none⟩ = some (.int .i64 T)) :
    Calls Try.prog 63 #[vL l, .pointer (some ⟨b, 0, none⟩)] w fun e w' => e = .returned (.bool (decide (T < l.t))) ∧ Below w.heap.size w w' := by
  obtain ⟨a, s, lo, hi, t⟩ := l
  simp only [vL]
  have hne : b ≠ w.heap.size := by omega
  go_enter Try.func63, Try.ntmps63
  go_wp2
  go_ret
  exact ⟨rfl, (Below.refl _ _).alloc (Nat.le_refl _) _⟩
theorem enters_hold1 : ∀ args w, (callFunc 63 args).run Try.prog w = .ok (.enter 63 args) w := enters_of Try.func63 (by kernel_rfl) rfl

set_option maxRecDepth 20000 in
set_option maxHeartbeats 1000000 in
theorem indexNone (T : Int) (b : Nat) (v : Value) (xs : List Lo) (w : World) (hl : xs.length ≤ 100) (hv : LsAt w.heap.size w v xs) (hT : ∀ l ∈ xs, l.t ≤ T) (hb : b < w.heap.size) (h0 : w.cell? ⟨b, 4, none⟩ = some (.int .i64 T)) :
    Calls Try.prog 62 #[v, .func (Fn.func 63) #[] #[.pointer (some ⟨b, 0, none⟩)]] w fun e w' => e = .returned (.int .i64 (-1)) ∧ Below w.heap.size w w' := by
  have HE := enters_hold1
  obtain ⟨A, c, rfl, hr⟩ := hv
  have HC := Lib.hid (fun (l : Lo) (W : World) (h : Below w.heap.size w W) => hold1_any T b l W (Nat.lt_of_lt_of_le hb h.size) (cell_next h hb h0))
  have HT := Lib.hid hT
  clear h0 hT
  obtain ⟨n, hn⟩ : ∃ n, xs.length = n := ⟨_, rfl⟩
  rw [hn] at hr hl ⊢
  have Hn := Lib.hid hn
  have HR := Lib.hid hr
  clear hr hn
  go_enter Try.func62, Try.ntmps62
  go_wp2_with fail
  go_loopw [8] (fun i wr => ∃ k : Nat, k ≤ n ∧ i = .int .i64 k ∧ Below w.heap.size w wr) (fun i _ => n - (RowKit.intOf i).toNat)
  case atStart => exact ⟨0, Nat.zero_le _, rfl, Below.refl _ _⟩
  case round =>
    obtain ⟨k, hk, rfl, hbr⟩ := hrel
    by_cases hlt : (k : Int) < (n : Int)
    · obtain ⟨⟨a, s, lo, hi, t⟩, hp⟩ : ∃ p, xs[k]? = some p := ⟨_, List.getElem?_eq_getElem (by rw [Hn.out]; omega)⟩
      obtain ⟨g, off, rfl, hg, hc⟩ := HR.out (by omega)
      obtain ⟨q0, q1, q2, q3, q4⟩ := (hc.keep fun o => hbr.cell (p := ⟨g, o, none⟩) hg) k _ hp
      have hgw : g < wr.heap.size := by have := hbr.size; omega
      have ht : t ≤ T := HT.out _ (List.mem_of_getElem? hp)
      have c1 := HC.out ⟨a, s, lo, hi, t⟩ wr hbr
      dsimp only at q0 q1 q2 q3 q4
      rw [show decide (T < (⟨a, s, lo, hi, t⟩ : Lo).t) = false from by simp; exact ht] at c1
      simp only [vL] at c1
      have C1 := Lib.hid c1
      clear hc hp c1 ht
      go_wp2_with fail
      refine C1.out.mono ?_
      rintro e w1 ⟨rfl, hb1⟩
      have hB := hbr.trans (hb1.mono hbr.size)
      clear hb1 q0 q1 q2 q3 q4 C1
      go_wp2_with fail
      go_roundw
      case rel => exact ⟨k + 1, by omega, by go_num, hB⟩
      case measure => simp [RowKit.intOf]; omega
    · obtain rfl : k = n := by omega
      go_wp2_with fail
      go_ret
      exact ⟨rfl, hbr⟩

/-- what an append to a row of lots leaves -/
def AppL (base : Nat) (w : World) (v : Value) (xs : List Lo) (v' : Value) (w' : World) : Prop :=
  OwnL base w' v' xs ∧ w.grownBy w' v.ownBlock ∧ (v'.ownBlock = v.ownBlock ∨ ∃ g, v'.ownBlock = some g ∧ w.heap.size ≤ g)

set_option maxRecDepth 20000 in
set_option maxHeartbeats 1000000 in
theorem insert_end (l : Lo) (g cp : Nat) (v : Value) (xs : List Lo) (base : Nat) (w : World) (hbase : base ≤ w.heap.size) (hl : xs.length ≤ 100) (hown : OwnL base w v xs) (hg : g < w.heap.size)
    (h0 : w.cell? ⟨g, 0, none⟩ = some (.int .i64 l.a)) (h1 : w.cell? ⟨g, 1, none⟩ = some (.int .i64 l.s)) (h2 : w.cell? ⟨g, 2, none⟩ = some (.int .i64 l.lo)) (h3 : w.cell? ⟨g, 3, none⟩ = some (.int .i64 l.hi)) (h4 : w.cell? ⟨g, 4, none⟩ = some (.int .i64 l.t)) :
    Calls Try.prog 64 #[v, .int .i64 (xs.length : Int), .slice (some ⟨g, 0, none⟩) 1 cp] w fun e w' => ∃ v', e = .returned v' ∧ AppL base w v (xs ++ [l]) v' w' := by
  obtain ⟨i0, hi0, hz0, hz1, hz2⟩ := info_parts infoLot
  obtain ⟨A, c, rfl⟩ := hown.form
  have hcap : xs.length ≤ c := by
    rcases hown.2 with ⟨h, h'⟩ | ⟨g, cap, cur, h, _, _, h', _⟩
    · omega
    · simp only [Value.slice.injEq] at h; omega
  have hcm : c ≤ maxLen := by
    rcases hown.2 with ⟨h, h'⟩ | ⟨g, cap, cur, h, _, _, _, h', _⟩
    · simp only [Value.slice.injEq] at h; omega
    · simp only [Value.slice.injEq] at h; omega
  have hA : A = none → c = 0 := by
    rintro rfl
    rcases hown.2 with ⟨h, h'⟩ | ⟨g, cap, cur, h, _⟩
    · simp only [Value.slice.injEq] at h; exact h.2.2
    · simp at h
  have HO := Lib.hid hown
  have hlen : (xs ++ [l]).length = xs.length + 1 := by simp
  have hfl : flatL (xs ++ [l]) = flatL xs ++ cellsL l := by rw [flatL_append, flatL_one]
  clear hown
  obtain ⟨n, hn⟩ : ∃ n, xs.length = n := ⟨_, rfl⟩
  unfold OwnL at HO
  have HX : Hid (∀ v' w', w'.ownsRow base 92 5 v' (n + 1) (flatL xs ++ cellsL l) → OwnL base w' v' (xs ++ [l])) := Lib.hid (fun v' w' h => by unfold OwnL; rw [hlen, hfl, hn]; exact h)
  rw [hn] at HO hl hcap ⊢
  clear hn hlen hfl
  generalize xs ++ [l] = ys at *
  generalize flatL xs = L at *
  go_enter Try.func64, Try.ntmps64
  go_wp2_with (at_builtin; refine wpList_append_own_at _ rfl (.tmp 23) (.tmp 24) 87 rfl base 92 i0 (.agg #[.int .i64 0, .int .i64 0, .int .i64 0, .int .i64 0, .int .i64 0]) 5 40 Try.underlying87 hi0 hz0 hz1 hz2 rfl (by decide) (.slice A n c) n L rfl HO.out ⟨g, 0, none⟩ 1 cp (cellsL l) rfl rfl ?_ ?_ ?_ ?_ ?_ ?_)
  case refine_1 =>
    intro j u hj
    rcases j with _ | _ | _ | _ | _ | j
    · simp [cellsL] at hj; subst hj; exact h0
    · simp [cellsL] at hj; subst hj; exact h1
    · simp [cellsL] at hj; subst hj; exact h2
    · simp [cellsL] at hj; subst hj; exact h3
    · simp [cellsL] at hj; subst hj; exact h4
    · simp [cellsL] at hj
  case refine_2 => simp [cellsL, Value.oneCell']
  case refine_3 => unfold maxLen; omega
  case refine_4 => omega
  case refine_5 => exact hbase
  all_goals
    intro v' w1 hown' hgrow _ hat
    go_wp2_with fail
    go_ret
    have hob : ∀ x y, (Value.slice A n x).ownBlock = (Value.slice A n y).ownBlock := by intro x y; cases A <;> rfl
    refine ⟨v', rfl, HX.out _ _ hown', by first | exact hgrow | (rw [hob c n]; exact hgrow), ?_⟩
    rcases hat with h | h
    · exact .inl (by first | exact h | (rw [hob c n]; exact h))
    · exact .inr ⟨_, h, Nat.le_refl _⟩

open Go.RowKit Go.Lib Go.Shelf
set_option linter.unusedVariables false
set_option linter.unusedSimpArgs false
attribute [local go_sem ↓] Go.wp_at_zero Go.wp_at_succ

/-- the tank in block b: its size, its film, its lots -/
structure VesAt (W : World) (b : Nat) (sz fl fh : Int) (v : Value) : Prop where
  n : b < W.heap.size
  c0 : W.cell? ⟨b, 0, none⟩ = some (.int .i64 sz)
  c1 : W.cell? ⟨b, 1, none⟩ = some (.int .i64 fl)
  c2 : W.cell? ⟨b, 2, none⟩ = some (.int .i64 fh)
  c3 : W.cell? ⟨b, 3, none⟩ = some v
  f1 : W.frozen? ⟨b, 1, none⟩ = false
  f2 : W.frozen? ⟨b, 2, none⟩ = false
  f3 : W.frozen? ⟨b, 3, none⟩ = false
theorem VesAt.kept {U : Nat → Prop} {W W' : World} {b : Nat} {sz fl fh : Int} {v : Value} (h : VesAt W b sz fl fh v) (hk : Kept U W W') (hu : ¬ U b) : VesAt W' b sz fl fh v :=
  ⟨Nat.lt_of_lt_of_le h.n hk.1, (hk.cell (p := ⟨b, 0, none⟩) h.n hu).trans h.c0, (hk.cell (p := ⟨b, 1, none⟩) h.n hu).trans h.c1, (hk.cell (p := ⟨b, 2, none⟩) h.n hu).trans h.c2, (hk.cell (p := ⟨b, 3, none⟩) h.n hu).trans h.c3,
    (hk.frozen (p := ⟨b, 1, none⟩) h.n hu).trans h.f1, (hk.frozen (p := ⟨b, 2, none⟩) h.n hu).trans h.f2, (hk.frozen (p := ⟨b, 3, none⟩) h.n hu).trans h.f3⟩
theorem Kept.of_below' {W W' : World} (h : Below W.heap.size W W') (U : Nat → Prop) : Kept U W W' := ⟨h.size, fun k o ho _ => (h.block k (Array.getElem?_eq_some_iff.1 ho).1).trans ho⟩
theorem VesAt.below {W W' : World} {b : Nat} {sz fl fh : Int} {v : Value} (h : VesAt W b sz fl fh v) (hb : Below W.heap.size W W') : VesAt W' b sz fl fh v := h.kept (Kept.of_below' hb fun _ => False) fun h => h

set_option maxRecDepth 20000 in
set_option maxHeartbeats 2000000 in
theorem hasRoom_ok (b : Nat) (sz fl fh : Int) (v v2 : Value) (xs ys : List Lo) (w : World) (hV : VesAt w b sz fl fh v) (hx : ∀ l ∈ xs, loB l) (hy : ∀ l ∈ ys, loB l) (hv : LsAt w.heap.size w v xs) (hv2 : LsAt w.heap.size w v2 ys)
    (hl : xs.length + ys.length ≤ 40) (hm : (lotSum xs).1 + (lotSum xs).2 + ((lotSum ys).1 + (lotSum ys).2) ≤ sz) :
    Calls Try.prog 28 #[.pointer (some ⟨b, 0, none⟩), v2] w fun e w' => e = .returned (.bool true) ∧ Below w.heap.size w w' := by
  have C1 := Lib.hid (fun (W : World) (h : Below w.heap.size w W) => massOf_lots v xs W hx ((hv.below h (Nat.le_refl _)).mono h.size) (by omega))
  have C2 := Lib.hid (fun (W : World) (h : Below w.heap.size w W) => massOf_lots v2 ys W hy ((hv2.below h (Nat.le_refl _)).mono h.size) (by omega))
  obtain ⟨x1, x2, x3, x4⟩ := lotSum_bd xs hx
  obtain ⟨y1, y2, y3, y4⟩ := lotSum_bd ys hy
  obtain ⟨A, c, rfl, _⟩ := hv
  obtain ⟨A2, c2, rfl, _⟩ := hv2
  obtain ⟨mx, hmx⟩ : ∃ m, (lotSum xs).1 + (lotSum xs).2 = m := ⟨_, rfl⟩
  obtain ⟨my, hmy⟩ : ∃ m, (lotSum ys).1 + (lotSum ys).2 = m := ⟨_, rfl⟩
  rw [hmx] at C1 hm
  rw [hmy] at C2 hm
  obtain ⟨n, hn⟩ : ∃ n, xs.length = n := ⟨_, rfl⟩
  obtain ⟨n2, hn2⟩ : ∃ n, ys.length = n := ⟨_, rfl⟩
  rw [hn] at C1 hl hV x2 x4
  rw [hn2] at C2 hl y2 y4
  rw [hn2]
  have k0 := hV.c0
  have k3 := hV.c3
  have nb := hV.n
  obtain ⟨N, hN⟩ : ∃ N : Int, (n : Int) + (n2 : Int) = N := ⟨_, rfl⟩
  have w1 : IntKind.i64.wrap ((n : Int) + (n2 : Int)) = N := by rw [hN]; exact IntWalk.i64_in _ (by omega)
  have w2 : IntKind.i64.wrap (mx + my) = mx + my := IntWalk.i64_in _ (by omega)
  have t1 : decide (N ≤ 40) = true := by simp; omega
  have t2 : decide (mx + my ≤ sz) = true := by simp; omega
  clear x1 x2 x3 x4 y1 y2 y3 y4 hmx hmy hn hn2 hl hm hV hx hy hN
  go_enter Try.func28, Try.ntmps28
  go_upto_region 1 with fail
  have SB : Hid (∀ W' : World, Below w.heap.size w W' → (fun w' => w'.cell? ⟨b, 3, none⟩ = some (.slice A n c) ∧ w'.cell? ⟨b, 0, none⟩ = some (.int .i64 sz) ∧ Below w.heap.size w w') W') := Lib.hid (fun W' h => ⟨cell_next h nb k3, cell_next h nb k0, h⟩)
  refine wp_region_held_drew (S := fun w' => w'.cell? ⟨b, 3, none⟩ = some (.slice A n c) ∧ w'.cell? ⟨b, 0, none⟩ = some (.int .i64 sz) ∧ Below w.heap.size w w') (by kernel_rfl) ?_ (fun hHeld => ?_)
  focus (exact SB.out _ (Below.drew (Below.refl _ _)))
  generalize w.drew = wd at hHeld ⊢
  refine take_slot (i := 0) (d := 5) (v := ?_) rfl rfl (by kernel_rfl) (by kernel_rfl) (by kernel_rfl) (fun _ _ _ h => h) (Or.inl ⟨by rfl, ?_⟩) (by assumption) ?_
  rotate_left 1
  focus (intro wS hSw; (try dsimp only at hSw); go_simp; try with_reducible rfl)
  try simp only [List.setIfInBounds_toArray, List.set_cons_zero, List.set_cons_succ]
  refine take_slot (i := 1) (d := 6) (v := ?_) rfl rfl (by kernel_rfl) (by kernel_rfl) (by kernel_rfl) (fun _ _ _ h => h) (Or.inl ⟨by rfl, ?_⟩) (by assumption) ?_
  rotate_left 1
  focus (intro wS hSw; (try dsimp only at hSw); go_simp; try with_reducible rfl)
  try simp only [List.setIfInBounds_toArray, List.set_cons_zero, List.set_cons_succ]
  refine take_slot (i := 2) (d := 7) (v := ?_) rfl rfl (by kernel_rfl) (by kernel_rfl) (by kernel_rfl) (fun _ _ _ h => h) (Or.inl ⟨by rfl, ?_⟩) (by assumption) ?_
  rotate_left 1
  focus (intro wS hSw; (try dsimp only at hSw); go_simp; try with_reducible rfl)
  try simp only [List.setIfInBounds_toArray, List.set_cons_zero, List.set_cons_succ]
  refine take_slot (i := 3) (d := 8) (v := ?_) rfl rfl (by kernel_rfl) (by kernel_rfl) (by kernel_rfl) (fun _ _ _ h => h) (Or.inl ⟨by rfl, ?_⟩) (by assumption) ?_
  rotate_left 1
  focus (intro wS hSw; (try dsimp only at hSw); go_simp; try with_reducible rfl)
  try simp only [List.setIfInBounds_toArray, List.set_cons_zero, List.set_cons_succ]
  refine take_slot (i := 4) (d := 9) (v := ?_) rfl rfl (by kernel_rfl) (by kernel_rfl) (by kernel_rfl) (fun _ _ _ h => h) (Or.inl ⟨by rfl, ?_⟩) (by assumption) ?_
  rotate_left 1
  focus (intro wS hSw; (try dsimp only at hSw); go_simp; try with_reducible rfl)
  try simp only [List.setIfInBounds_toArray, List.set_cons_zero, List.set_cons_succ]
  refine take_slot (i := 5) (d := 10) (v := ?_) rfl rfl (by kernel_rfl) (by kernel_rfl) (by kernel_rfl) (fun _ _ _ h => h) (Or.inl ⟨by rfl, ?_⟩) (by assumption) ?_
  rotate_left 1
  focus (intro wS hSw; (try dsimp only at hSw); go_simp; try with_reducible rfl)
  try simp only [List.setIfInBounds_toArray, List.set_cons_zero, List.set_cons_succ]
  refine take_slot (i := 6) (d := 11) (v := ?_) rfl rfl (by kernel_rfl) (by kernel_rfl) (by kernel_rfl) (fun _ _ _ h => h) (Or.inl ⟨by rfl, ?_⟩) (by assumption) ?_
  rotate_left 1
  focus (intro wS hSw; (try dsimp only at hSw); go_simp; try with_reducible rfl)
  try simp only [List.setIfInBounds_toArray, List.set_cons_zero, List.set_cons_succ]
  refine take_slot (i := 7) (d := 12) (v := ?_) rfl rfl (by kernel_rfl) (by kernel_rfl) (by kernel_rfl) (fun _ _ _ h => h) (Or.inl ⟨by rfl, ?_⟩) (by assumption) ?_
  rotate_left 1
  focus (intro wS hSw; (try dsimp only at hSw); go_simp; try with_reducible rfl)
  try simp only [List.setIfInBounds_toArray, List.set_cons_zero, List.set_cons_succ]
  refine take_slot (i := 8) (d := 13) (v := ?_) rfl rfl (by kernel_rfl) (by kernel_rfl) (by kernel_rfl) (fun _ _ _ h => h) (Or.inl ⟨by rfl, ?_⟩) (by assumption) ?_
  rotate_left 1
  focus (intro wS hSw; (try dsimp only at hSw); go_simp; try with_reducible rfl)
  try simp only [List.setIfInBounds_toArray, List.set_cons_zero, List.set_cons_succ]
  refine take_slot (i := 9) (d := 14) (v := ?_) rfl rfl (by kernel_rfl) (by kernel_rfl) (by kernel_rfl) (fun _ _ _ h => h) (Or.inl ⟨by rfl, ?_⟩) (by assumption) ?_
  rotate_left 1
  focus (intro wS hSw; (try dsimp only at hSw); go_simp; try with_reducible rfl)
  try simp only [List.setIfInBounds_toArray, List.set_cons_zero, List.set_cons_succ]
  refine take_slot (i := 10) (d := 15) (v := ?_) rfl rfl (by kernel_rfl) (by kernel_rfl) (by kernel_rfl) (fun _ _ _ h => h) (Or.inl ⟨by rfl, ?_⟩) (by assumption) ?_
  rotate_left 1
  focus (intro wS hSw; (try dsimp only at hSw); go_simp; try with_reducible rfl)
  try simp only [List.setIfInBounds_toArray, List.set_cons_zero, List.set_cons_succ]
  refine take_slot (i := 11) (d := 16) (v := ?_) rfl rfl (by kernel_rfl) (by kernel_rfl) (by kernel_rfl) (fun _ _ _ h => h) (Or.inl ⟨by rfl, ?_⟩) (by assumption) ?_
  rotate_left 1
  focus (intro wS hSw; (try dsimp only at hSw); go_simp; try with_reducible rfl)
  try simp only [List.setIfInBounds_toArray, List.set_cons_zero, List.set_cons_succ]
  refine take_slot (i := 12) (d := 17) (v := ?_) rfl rfl (by kernel_rfl) (by kernel_rfl) (by kernel_rfl) (fun _ _ _ h => h) (Or.inl ⟨by rfl, ?_⟩) (by assumption) ?_
  rotate_left 1
  focus (intro wS hSw; (try dsimp only at hSw); go_simp; try with_reducible rfl)
  try simp only [List.setIfInBounds_toArray, List.set_cons_zero, List.set_cons_succ]
  refine take_slot (i := 13) (d := 18) (v := ?_) rfl rfl (by kernel_rfl) (by kernel_rfl) (by kernel_rfl) (fun _ _ _ h => h) (Or.inl ⟨by rfl, ?_⟩) (by assumption) ?_
  rotate_left 1
  focus (intro wS hSw; (try dsimp only at hSw); go_simp; try with_reducible rfl)
  try simp only [List.setIfInBounds_toArray, List.set_cons_zero, List.set_cons_succ]
  refine take_slot (i := 15) (d := 20) (v := ?_) rfl rfl (by kernel_rfl) (by kernel_rfl) (by kernel_rfl) (fun _ _ _ h => h) (Or.inl ⟨by rfl, ?_⟩) (by assumption) ?_
  rotate_left 1
  focus (intro wS hSw; (try dsimp only at hSw); go_simp; try with_reducible rfl)
  try simp only [List.setIfInBounds_toArray, List.set_cons_zero, List.set_cons_succ]
  refine take_slot (i := 18) (d := 23) (v := ?_) rfl rfl (by kernel_rfl) (by kernel_rfl) (by kernel_rfl) (fun _ _ _ h => h) (Or.inl ⟨by rfl, ?_⟩) (by assumption) ?_
  rotate_left 1
  focus (intro wS hSw; (try dsimp only at hSw); go_simp; try with_reducible rfl)
  try simp only [List.setIfInBounds_toArray, List.set_cons_zero, List.set_cons_succ]
  refine take_slot (i := 19) (d := 24) (v := ?_) rfl rfl (by kernel_rfl) (by kernel_rfl) (by kernel_rfl) (fun _ _ _ h => h) (Or.inl ⟨by rfl, ?_⟩) (by assumption) ?_
  rotate_left 1
  focus (intro wS hSw; (try dsimp only at hSw); go_simp; try with_reducible rfl)
  try simp only [List.setIfInBounds_toArray, List.set_cons_zero, List.set_cons_succ]
  refine take_slot (i := 20) (d := 25) (v := ?_) rfl rfl (by kernel_rfl) (by kernel_rfl) (by kernel_rfl) (fun _ _ _ h => h) (Or.inl ⟨by rfl, ?_⟩) (by assumption) ?_
  rotate_left 1
  focus (intro wS hSw; (try dsimp only at hSw); go_simp; try with_reducible rfl)
  try simp only [List.setIfInBounds_toArray, List.set_cons_zero, List.set_cons_succ]
  refine take_slot (i := 21) (d := 26) (v := ?_) rfl rfl (by kernel_rfl) (by kernel_rfl) (by kernel_rfl) (fun _ _ _ h => h) (Or.inl ⟨by rfl, ?_⟩) (by assumption) ?_
  rotate_left 1
  focus (intro wS hSw; (try dsimp only at hSw); go_simp; try with_reducible rfl)
  try simp only [List.setIfInBounds_toArray, List.set_cons_zero, List.set_cons_succ]
  refine wpAnyH_ready (rs := [14]) (by kernel_rfl) (by simp) ?_
  refine AllReadyH.cons rfl (fun K hK => ?_) AllReadyH.nil
  go_simp
  refine (C1.out _ hHeld.2.2).mono ?_
  rintro e Z1 ⟨rfl, hb⟩
  have hn := SB.out _ (hHeld.2.2.trans (hb.mono hHeld.2.2.size))
  refine hK.out _ _ hn (fun hHeld => ?_)
  clear hK K hb hn
  try simp only [Act.put, List.setIfInBounds_toArray, List.set_cons_zero, List.set_cons_succ]
  refine wpAnyH_ready (rs := [16]) (by kernel_rfl) (by simp) ?_
  refine AllReadyH.cons rfl (fun K hK => ?_) AllReadyH.nil
  go_simp
  refine (C2.out _ hHeld.2.2).mono ?_
  rintro e Z2 ⟨rfl, hb⟩
  have hn := SB.out _ (hHeld.2.2.trans (hb.mono hHeld.2.2.size))
  refine hK.out _ _ hn (fun hHeld => ?_)
  clear hK K hb hn
  try simp only [Act.put, List.setIfInBounds_toArray, List.set_cons_zero, List.set_cons_succ]
  refine take_slot (i := 17) (d := 22) (v := ?_) rfl rfl (by kernel_rfl) (by kernel_rfl) (by kernel_rfl) (fun _ _ _ h => h) (Or.inl ⟨by rfl, ?_⟩) (by assumption) ?_
  rotate_left 1
  focus (intro wS hSw; (try dsimp only at hSw); go_simp; try with_reducible rfl)
  try simp only [List.setIfInBounds_toArray, List.set_cons_zero, List.set_cons_succ]
  refine take_slot (i := 22) (d := 27) (v := ?_) rfl rfl (by kernel_rfl) (by kernel_rfl) (by kernel_rfl) (fun _ _ _ h => h) (Or.inl ⟨by rfl, ?_⟩) (by assumption) ?_
  rotate_left 1
  focus (intro wS hSw; (try dsimp only at hSw); go_simp; try with_reducible rfl)
  try simp only [List.setIfInBounds_toArray, List.set_cons_zero, List.set_cons_succ]
  refine take_slot (i := 23) (d := 28) (v := ?_) rfl rfl (by kernel_rfl) (by kernel_rfl) (by kernel_rfl) (fun _ _ _ h => h) (Or.inl ⟨by rfl, ?_⟩) (by assumption) ?_
  rotate_left 1
  focus (intro wS hSw; (try dsimp only at hSw); go_simp; try with_reducible rfl)
  try simp only [List.setIfInBounds_toArray, List.set_cons_zero, List.set_cons_succ]
  refine take_slot (i := 24) (d := 4) (v := ?_) rfl rfl (by kernel_rfl) (by kernel_rfl) (by kernel_rfl) (fun _ _ _ h => h) (Or.inl ⟨by rfl, ?_⟩) (by assumption) ?_
  rotate_left 1
  focus (intro wS hSw; (try dsimp only at hSw); go_simp; try with_reducible rfl)
  try simp only [List.setIfInBounds_toArray, List.set_cons_zero, List.set_cons_succ]
  refine wpAnyH_done (by kernel_rfl) ?_ _
  go_wp2_with fail
  go_ret
  exact ⟨by simp, hHeld.2.2⟩
end Go.Proofs.Ytfdaiififoomoaa
