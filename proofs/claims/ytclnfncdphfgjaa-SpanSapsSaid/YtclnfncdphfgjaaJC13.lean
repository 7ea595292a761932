/- Contracts: T5, S1, T9, S2, joined. -/
import Derived.Test.YtclnfncdphfgjaaJC3
import Derived.Test.YtclnfncdphfgjaaJC12
import Derived.Test.YtclnfncdphfgjaaJC6
import Derived.Test.YtclnfncdphfgjaaJC5
import Derived.Test.YtclnfncdphfgjaaSh
import Derived.Lib.OwnBridge
import Derived.Sort.OwnSortedInts
namespace Go.Proofs.Ytclnfncdphfgjaa
open Go.RowKit Go.Lib Go.Shelf
set_option linter.unusedVariables false
set_option linter.unusedSimpArgs false
attribute [local go_sem ↓] Go.wp_at_zero Go.wp_at_succ

/-- what placesBetween returns for the rows k and k + 1 -/
def PlacesAt (xs : List (Int × Int)) (yl yh : Int) (PL : Nat → (Int × Int) × Bool) : Prop :=
  ∀ k p q, xs[k]? = some p → xs[k + 1]? = some q → ((PL k).2 = true → (PL k).1.2 ≤ 1000000000000000000 ∧ -1000000000000000000 ≤ (PL k).1.2) ∧ ∀ W : World,
    Calls Try.prog 99 #[.agg #[.int .i64 p.1, .int .i64 p.2], .agg #[.int .i64 q.1, .int .i64 q.2], .agg #[.int .i64 yl, .int .i64 yh]] W fun e w' =>
      e = .returned (.tuple #[.agg #[.int .i64 (PL k).1.1, .int .i64 (PL k).1.2], .bool (PL k).2]) ∧ Below W.heap.size W w'

/-- the set of the places behind the first k stretches -/
def whereAt (PL : Nat → (Int × Int) × Bool) : Nat → List (Int × Int)
  | 0 => []
  | k + 1 => if (PL k).2 then extP (whereAt PL k) (PL k).1 else whereAt PL k
theorem whereAt_length (PL : Nat → (Int × Int) × Bool) (k : Nat) : (whereAt PL k).length ≤ k := by
  induction k with
  | zero => simp [whereAt]
  | succ k ih =>
    unfold whereAt
    split
    · have := extP_length (whereAt PL k) (PL k).1; omega
    · omega

theorem below_realloc {B : Nat} {a w : World} {o p : Obj} (h : Below B a (w.alloc o)) (hB : B ≤ w.heap.size) : Below B a (w.alloc p) :=
  ⟨h.os, h.tape, h.output, by have := h.size; simpa using this, fun k hk => (Below.heap_alloc w p k (by omega)).trans ((Below.heap_alloc w o k (by omega)).symm.trans (h.block k hk))⟩

theorem grown_cell' {w w' : World} {row : Option Nat} {b o : Nat} {v : Option Value} (h : w.grownBy w' row) (hb : b < w.heap.size) (hne : ∀ r, row = some r → b ≠ r) (hc : w.cell? ⟨b, o, none⟩ = v) : w'.cell? ⟨b, o, none⟩ = v :=
  (World.cell?_of_block (h.block b hb (fun e => hne b e.symm rfl))).trans hc
theorem own_below {w w' : World} {base : Nat} {e : TypeId} {size : Nat} {v : Value} {n : Nat} {xs : List Value} (h : w.ownsRow base e size v n xs) (hb : Below w.heap.size w w') : w'.ownsRow base e size v n xs :=
  h.kept (only_of_below' (row := none) hb) (by cases hv : v.ownBlock <;> simp)

/-- what Where leaves -/
def WherePost (w : World) (ys : List (Int × Int)) (e : Ending) (w' : World) : Prop :=
  ∃ v, e = .returned (.tuple #[v, .int .i64 0]) ∧ w'.ownsRow (w.heap.size + 1) 107 2 v ys.length (flat ys) ∧ Below w.heap.size w w'

set_option maxRecDepth 20000 in
set_option maxHeartbeats 600000 in
theorem where_ok (xs : List (Int × Int)) (yl yh : Int) (PL : Nat → (Int × Int) × Bool) (g off c : Nat) (hPL : PlacesAt xs yl yh PL) (ht : tabE xs = 0) (h1 : 2 ≤ xs.length) (h2 : xs.length ≤ 60) (hy : vrB yl yh = true) (w : World) (hg : g < w.heap.size) (hr : RRd w g off xs) :
    Calls Try.prog 55 #[.slice (some ⟨g, off, none⟩) xs.length c, .agg #[.int .i64 yl, .int .i64 yh]] w (WherePost w (whereAt PL (xs.length - 1))) := by
  have HC : Hid (∀ W : World, Below w.heap.size w W → Calls Try.prog 98 #[.slice (some ⟨g, off, none⟩) xs.length c] W fun e w' => e = .returned (.int .i64 0) ∧ Below W.heap.size W w') := fun W hb => by
    have hz := hb.size
    have h := checkTable_long g off xs c W (by omega) (hr.below hb hg) h1 h2
    rw [ht] at h
    exact h
  have HV : Hid (∀ W : World, Calls Try.prog 93 #[.agg #[.int .i64 yl, .int .i64 yh]] W fun e w' => e = .returned (.bool true) ∧ Below W.heap.size W w') := fun W => by
    have h := validRange_any yl yh W
    rw [hy] at h
    exact h
  obtain ⟨n, hn⟩ : ∃ n, xs.length = n + 1 := ⟨xs.length - 1, by omega⟩
  have Hn := Lib.hid hn
  rw [hn] at HC h1 h2 ⊢
  clear hn ht hy
  have HR := Lib.hid hr
  have HP := Lib.hid hPL
  clear hr hPL
  have hwn : IntKind.i64.wrap (n : Int) = (n : Int) := IntWalk.i64_in _ (by omega)
  go_enter Try.func55, Try.ntmps55
  go_wp2_with fail
  refine (HC.out _ ((Below.refl _ _).alloc (Nat.le_refl _) _)).mono ?_
  rintro e w1 ⟨rfl, hb1⟩
  have c0 := cell_next hb1 (b := w.heap.size) (o := 0) (by simp) (v := some (.int .i64 yl)) (by simp)
  have c1 := cell_next hb1 (b := w.heap.size) (o := 1) (by simp) (v := some (.int .i64 yh)) (by simp)
  have hB := below1 hb1
  have hz : w.heap.size < w1.heap.size := by have := hb1.size; simp at this; omega
  clear hb1
  go_wp2_with fail
  refine (HV.out _).mono ?_
  rintro e w2 ⟨rfl, hb2⟩
  replace c0 := cell_next hb2 hz c0
  replace c1 := cell_next hb2 hz c1
  replace hz := Nat.lt_of_lt_of_le hz hb2.size
  replace hB := hB.trans (hb2.mono hB.size)
  clear hb2
  go_wp2_with fail
  go_loopw [7, 22] (fun s i wr => ∃ k : Nat, k ≤ n ∧ i = .int .i64 k ∧ wr.ownsRow (w.heap.size + 1) 107 2 s (whereAt PL k).length (flat (whereAt PL k)) ∧ Hid (∀ p ∈ whereAt PL k, -1000000000000000000 ≤ p.2 ∧ p.2 ≤ 1000000000000000000) ∧
      wr.cell? ⟨w.heap.size, 0, none⟩ = some (.int .i64 yl) ∧ wr.cell? ⟨w.heap.size, 1, none⟩ = some (.int .i64 yh) ∧ w.heap.size < wr.heap.size ∧ Below w.heap.size w wr) (fun _ i _ => n - (RowKit.intOf i).toNat)
  case atStart => exact ⟨0, Nat.zero_le _, rfl, World.ownsRow_nil _ _ _ _, Lib.hid (by intro p hp; cases hp), c0, c1, hz, hB⟩
  case round =>
    obtain ⟨k, hk, rfl, hown, hbd, d0, d1, hzr, hbr⟩ := hrel
    clear c0 c1 hz hB
    by_cases hlt : k < n
    · obtain ⟨p, hp⟩ : ∃ p, xs[k]? = some p := ⟨_, List.getElem?_eq_getElem (by rw [Hn.out]; omega)⟩
      obtain ⟨q, hq⟩ : ∃ q, xs[k + 1]? = some q := ⟨_, List.getElem?_eq_getElem (by rw [Hn.out]; omega)⟩
      obtain ⟨p0, p1⟩ := (HR.out.below hbr hg) k p hp
      obtain ⟨q0, q1⟩ := (HR.out.below hbr hg) (k + 1) q hq
      obtain ⟨hub, hcall⟩ := HP.out k p q hp hq
      have HUB := Lib.hid hub
      clear hub
      have hext := Lib.hid (extend_any (whereAt PL k) (PL k).1.1 (PL k).1.2)
      have hnext : Hid (whereAt PL (k + 1) = if (PL k).2 then extP (whereAt PL k) (PL k).1 else whereAt PL k) := Lib.hid rfl
      have hlen := whereAt_length PL k
      have HCALL := Lib.hid hcall
      have HOWN := Lib.hid hown
      clear hp hq hcall hown
      generalize hP : PL k = P at *
      obtain ⟨⟨lo, hi⟩, ok⟩ := P
      have hk0 : (0 : Int) ≤ (k : Int) := by omega
      have hk1 : (k : Int) < (n : Int) + 1 := by omega
      have hk2 : (k : Int) + 1 < (n : Int) + 1 := by omega
      have hk3 : (0 : Int) ≤ (k : Int) + 1 := by omega
      have hwk : IntKind.i64.wrap ((k : Int) + 1) = (k : Int) + 1 := IntWalk.i64_in _ (by omega)
      have hgr : g < wr.heap.size := Nat.lt_of_lt_of_le hg hbr.size
      have SB : Hid (∀ W' : World, Below wr.heap.size wr W' → W'.cell? ⟨g, off + k * 2, none⟩ = some (.int .i64 p.1) ∧ W'.cell? ⟨g, off + k * 2 + 1, none⟩ = some (.int .i64 p.2) ∧ W'.cell? ⟨g, off + (k + 1) * 2, none⟩ = some (.int .i64 q.1) ∧ W'.cell? ⟨g, off + (k + 1) * 2 + 1, none⟩ = some (.int .i64 q.2) ∧
          W'.cell? ⟨w.heap.size, 0, none⟩ = some (.int .i64 yl) ∧ W'.cell? ⟨w.heap.size, 1, none⟩ = some (.int .i64 yh) ∧ Below wr.heap.size wr W') := Lib.hid fun W' hb =>
        ⟨cell_next hb hgr p0, cell_next hb hgr p1, cell_next hb hgr q0, cell_next hb hgr q1, cell_next hb hzr d0, cell_next hb hzr d1, hb⟩
      clear p0 p1 q0 q1 d0 d1
      have hS := SB.out wr (Below.refl _ _)
      go_wp2_with fail
      go_region_held3 (fun W' => W'.cell? ⟨g, off + k * 2, none⟩ = some (.int .i64 p.1) ∧ W'.cell? ⟨g, off + k * 2 + 1, none⟩ = some (.int .i64 p.2) ∧ W'.cell? ⟨g, off + (k + 1) * 2, none⟩ = some (.int .i64 q.1) ∧ W'.cell? ⟨g, off + (k + 1) * 2 + 1, none⟩ = some (.int .i64 q.2) ∧
          W'.cell? ⟨w.heap.size, 0, none⟩ = some (.int .i64 yl) ∧ W'.cell? ⟨w.heap.size, 1, none⟩ = some (.int .i64 yh) ∧ Below wr.heap.size wr W')
        (first | exact SB.out _ (Below.drew (Below.refl _ _)) | exact SB.out _ ((‹_ ∧ _ ∧ _ ∧ _ ∧ _ ∧ _ ∧ Below _ _ _›).2.2.2.2.2.2.drew) | exact SB.out _ ((‹_ ∧ _ ∧ _ ∧ _ ∧ _ ∧ _ ∧ Below _ _ _›).2.2.2.2.2.2.trans (hb5.mono (by first | exact (‹_ ∧ _ ∧ _ ∧ _ ∧ _ ∧ _ ∧ Below _ _ _›).2.2.2.2.2.2.size | simp [drew_size]; omega))) | exact SB.out _ ((‹_ ∧ _ ∧ _ ∧ _ ∧ _ ∧ _ ∧ Below _ _ _›).2.2.2.2.2.2.alloc (‹_ ∧ _ ∧ _ ∧ _ ∧ _ ∧ _ ∧ Below _ _ _›).2.2.2.2.2.2.size _) | exact SB.out _ (below_realloc (‹_ ∧ _ ∧ _ ∧ _ ∧ _ ∧ _ ∧ Below _ _ _›).2.2.2.2.2.2 (by omega)) | exact SB.out _ (((‹_ ∧ _ ∧ _ ∧ _ ∧ _ ∧ _ ∧ Below _ _ _›).2.2.2.2.2.2.setCell (p := ⟨wr.heap.size, 0, none⟩) (Nat.le_refl _) _).setCell (p := ⟨wr.heap.size, 1, none⟩) (Nat.le_refl _) _))
        (first | (go_at_call 99; refine (HCALL.out _).mono ?_; rintro e w5 ⟨rfl, hb5⟩; have hz5 := hb5.size; (try simp [drew_size] at hz5); obtain ⟨hc5, hf5⟩ := bcell hb5))
      all_goals
        obtain ⟨_, _, _, _, e0, e1, hb9⟩ := ‹_ ∧ _ ∧ _ ∧ _ ∧ _ ∧ _ ∧ Below _ _ _›
        have own9 := own_below HOWN.out hb9
        have hz9 : w.heap.size < _ := Nat.lt_of_lt_of_le hzr hb9.size
        have hbw := hbr.trans (hb9.mono hbr.size)
        cases ok
        · go_wp2_with fail
          go_roundw
          case rel =>
            have e : whereAt PL (k + 1) = whereAt PL k := hnext.out
            refine ⟨k + 1, by omega, by go_num, ?_, ?_, ?_, ?_, ?_, ?_⟩
            · rw [e]; exact own9
            · rw [e]; exact hbd
            · exact e0
            · exact e1
            · exact hz9
            · exact hbw
          case measure => simp [RowKit.intOf]; omega
        · go_wp2_with fail
          refine (hext.out _ (w.heap.size + 1) hbd.out (by omega) _ (by exact hz9) own9).mono ?_
          rintro e w7 ⟨v', rfl, own7, hg7, hd7⟩
          have hrow : ∀ r, Value.ownBlock _ = some r → w.heap.size + 1 ≤ r := fun r hr => (own9.lt r hr).1
          have f0 := grown_cell' hg7 hz9 (fun r hr => by have := hrow r hr; omega) e0
          have f1 := grown_cell' hg7 hz9 (fun r hr => by have := hrow r hr; omega) e1
          have hz7 := Nat.lt_of_lt_of_le hz9 hg7.size
          have hb7 := hbw.grown hg7 hbw.size (fun r hr => by have := hrow r hr; omega)
          have hl := extP_length (whereAt PL k) (lo, hi)
          have hbd7 := extP_bd (fun z => -1000000000000000000 ≤ z ∧ z ≤ 1000000000000000000) hbd.out (a := (lo, hi)) ⟨(HUB.out (by simp)).2, (HUB.out (by simp)).1⟩
          have hbd7' := Lib.hid hbd7
          clear hbd7 hg7 hrow e0 e1 hbw hb9 own9 hl
          go_wp2_with fail
          go_roundw
          case rel =>
            have e : whereAt PL (k + 1) = extP (whereAt PL k) (lo, hi) := hnext.out
            refine ⟨k + 1, by omega, by go_num, ?_, ?_, f0, f1, hz7, hb7⟩
            · rw [e]; exact own7
            · rw [e]; exact hbd7'
          case measure => simp [RowKit.intOf]; omega
    · obtain rfl : k = n := by omega
      go_wp2_with fail
      go_ret2
      exact ⟨_, rfl, hown, hbr⟩

open Go.RowKit Go.Lib Go.Shelf
set_option linter.unusedVariables false
set_option linter.unusedSimpArgs false
attribute [local go_sem ↓] Go.wp_at_zero Go.wp_at_succ

/-- comparing neighbours of a row 0, 1, 2 .. never says that the second one goes first -/
def NoSwap (F : Nat) (caps : Array Value) (n : Nat) (w : World) : Prop :=
  ∀ k, k + 1 < n → ∃ r : Int, 0 ≤ r ∧ r ≤ 4000000000000000000 ∧ ∀ W : World, Below w.heap.size w W → Calls Try.prog F (#[.int .i64 ((k : Int) + 1), .int .i64 (k : Int)] ++ caps) W fun e w' => e = .returned (.int .i64 r) ∧ Below W.heap.size W w'
def UpRow (w : World) (g off n : Nat) : Prop := ∀ j, j < n → w.cell? ⟨g, off + j, none⟩ = some (.int .i64 (j : Int))

set_option maxRecDepth 20000 in
set_option maxHeartbeats 1000000 in
theorem isort_noop (F : Nat) (c : Value) (hE : ∀ args w, (callFunc F args).run Try.prog w = .ok (.enter F args) w) (g off n cap : Nat) (hn : n ≤ 1000) (w : World) (hg : g < w.heap.size) (hu : UpRow w g off n) (hc : NoSwap F #[c] n w) :
    Calls Try.prog 152 #[.slice (some ⟨g, off, none⟩) n cap, .int .i64 0, .int .i64 n, .func (Fn.func F) #[] #[c]] w fun e w' => e = .returned (.tuple #[]) ∧ Below w.heap.size w w' := by
  have HU := Lib.hid hu
  have HC := Lib.hid hc
  clear hu hc
  go_enter Try.func152, Try.ntmps152
  go_wp2_with fail
  go_loopw [8, 9] (fun i j wr => ∃ k : Nat, (k + 1 ≤ n ∨ k = 0) ∧ i = .int .i64 ((k : Int) + 1) ∧ Below w.heap.size w wr) (fun i _ _ => n - (RowKit.intOf i).toNat)
  case atStart => exact ⟨0, .inr rfl, rfl, Below.refl _ _⟩
  case round =>
    obtain ⟨k, hk, rfl, hbr⟩ := hrel
    obtain ⟨wo, rfl⟩ : ∃ wo : World, wo = wr := ⟨_, rfl⟩
    by_cases hlt : (k : Int) + 1 < (n : Int)
    · obtain ⟨r, hr0, hr1, hcall⟩ := HC.out k (by omega)
      have hc1 : Hid (∀ W : World, Below wo.heap.size wo W → Calls Try.prog F #[.int .i64 ((k : Int) + 1), .int .i64 (k : Int), c] W fun e w' => e = .returned (.int .i64 r) ∧ Below W.heap.size W w') := Lib.hid fun W hW => hcall W (hbr.trans (hW.mono hbr.size))
      have z0 := cell_next hbr hg (HU.out (k + 1) (by omega))
      have z1 := cell_next hbr hg (HU.out k (by omega))
      rw [show ((k + 1 : Nat) : Int) = (k : Int) + 1 from rfl] at z0
      have hgr : g < wo.heap.size := Nat.lt_of_lt_of_le hg hbr.size
      have hk0 : (0 : Int) ≤ (k : Int) := by omega
      have hk1 : (k : Int) < (n : Int) := by omega
      have hk3 : (0 : Int) ≤ (k : Int) + 1 := by omega
      have hk4 : (0 : Int) < (k : Int) + 1 := by omega
      have hwk : IntKind.i64.wrap (k : Int) = (k : Int) := IntWalk.i64_in _ (by omega)
      have hwk1 : IntKind.i64.wrap ((k : Int) + 1) = (k : Int) + 1 := IntWalk.i64_in _ (by omega)
      have SB : Hid (∀ W' : World, Below wo.heap.size wo W' → W'.cell? ⟨g, off + (k + 1), none⟩ = some (.int .i64 ((k : Int) + 1)) ∧ W'.cell? ⟨g, off + k, none⟩ = some (.int .i64 (k : Int)) ∧ Below wo.heap.size wo W') := Lib.hid fun W' hb =>
        ⟨cell_next hb hgr z0, cell_next hb hgr z1, hb⟩
      clear z0 z1 hcall
      go_wp2_with fail
      go_loopw [9] (fun j wi => j = .int .i64 ((k : Int) + 1) ∧ Below wo.heap.size wo wi) (fun _ _ => 0)
      case atStart => exact ⟨rfl, Below.refl _ _⟩
      case round =>
        obtain ⟨rfl, hbi⟩ := hrel
        have SC : Hid (∀ W' : World, Below wr.heap.size wr W' → W'.cell? ⟨g, off + (k + 1), none⟩ = some (.int .i64 ((k : Int) + 1)) ∧ W'.cell? ⟨g, off + k, none⟩ = some (.int .i64 (k : Int)) ∧ Below wr.heap.size wr W') := Lib.hid fun W' hb =>
          have h := SB.out W' (hbi.trans (hb.mono hbi.size)); ⟨h.1, h.2.1, hb⟩
        have hc2 : Hid (∀ W : World, Below wr.heap.size wr W → Calls Try.prog F #[.int .i64 ((k : Int) + 1), .int .i64 (k : Int), c] W fun e w' => e = .returned (.int .i64 r) ∧ Below W.heap.size W w') := Lib.hid fun W hW => hc1.out W (hbi.trans (hW.mono hbi.size))
        have hS := SC.out wr (Below.refl _ _)
        go_wp2_with fail
        refine wp_region_held_drew (S := fun W' => W'.cell? ⟨g, off + (k + 1), none⟩ = some (.int .i64 ((k : Int) + 1)) ∧ W'.cell? ⟨g, off + k, none⟩ = some (.int .i64 (k : Int)) ∧ Below wr.heap.size wr W') (by kernel_rfl) ?_ (fun hHeld => ?_)
        focus (exact SC.out _ (Below.drew (Below.refl _ _)))
        refine take_slot (i := 0) (d := 18) (v := ?_) rfl rfl (by kernel_rfl) (by kernel_rfl) (by kernel_rfl) (fun _ _ _ h => h) (Or.inl ⟨by rfl, ?_⟩) (by assumption) ?_
        rotate_left 1
        focus (intro wS hSw; (try dsimp only at hSw); go_simp; try with_reducible rfl)
        try simp only [List.setIfInBounds_toArray, List.set_cons_zero, List.set_cons_succ]
        refine take_slot (i := 1) (d := 19) (v := ?_) rfl rfl (by kernel_rfl) (by kernel_rfl) (by kernel_rfl) (fun _ _ _ h => h) (Or.inl ⟨by rfl, ?_⟩) (by assumption) ?_
        rotate_left 1
        focus (intro wS hSw; (try dsimp only at hSw); go_simp; try with_reducible rfl)
        try simp only [List.setIfInBounds_toArray, List.set_cons_zero, List.set_cons_succ]
        refine take_slot (i := 2) (d := 20) (v := ?_) rfl rfl (by kernel_rfl) (by kernel_rfl) (by kernel_rfl) (fun _ _ _ h => h) (Or.inl ⟨by rfl, ?_⟩) (by assumption) ?_
        rotate_left 1
        focus (intro wS hSw; (try dsimp only at hSw); go_simp; try with_reducible rfl)
        try simp only [List.setIfInBounds_toArray, List.set_cons_zero, List.set_cons_succ]
        refine take_slot (i := 3) (d := 21) (v := ?_) rfl rfl (by kernel_rfl) (by kernel_rfl) (by kernel_rfl) (fun _ _ _ h => h) (Or.inl ⟨by rfl, ?_⟩) (by assumption) ?_
        rotate_left 1
        focus (intro wS hSw; (try dsimp only at hSw); go_simp; try with_reducible rfl)
        try simp only [List.setIfInBounds_toArray, List.set_cons_zero, List.set_cons_succ]
        refine take_slot (i := 4) (d := 22) (v := ?_) rfl rfl (by kernel_rfl) (by kernel_rfl) (by kernel_rfl) (fun _ _ _ h => h) (Or.inl ⟨by rfl, ?_⟩) (by assumption) ?_
        rotate_left 1
        focus (intro wS hSw; (try dsimp only at hSw); go_simp; try with_reducible rfl)
        try simp only [List.setIfInBounds_toArray, List.set_cons_zero, List.set_cons_succ]
        refine take_slot (i := 5) (d := 23) (v := ?_) rfl rfl (by kernel_rfl) (by kernel_rfl) (by kernel_rfl) (fun _ _ _ h => h) (Or.inl ⟨by rfl, ?_⟩) (by assumption) ?_
        rotate_left 1
        focus (intro wS hSw; (try dsimp only at hSw); go_simp; try with_reducible rfl)
        try simp only [List.setIfInBounds_toArray, List.set_cons_zero, List.set_cons_succ]
        refine take_slot (i := 6) (d := 24) (v := ?_) rfl rfl (by kernel_rfl) (by kernel_rfl) (by kernel_rfl) (fun _ _ _ h => h) (Or.inl ⟨by rfl, ?_⟩) (by assumption) ?_
        rotate_left 1
        focus (intro wS hSw; (try dsimp only at hSw); go_simp; try with_reducible rfl)
        try simp only [List.setIfInBounds_toArray, List.set_cons_zero, List.set_cons_succ]
        refine take_slot (i := 7) (d := 25) (v := ?_) rfl rfl (by kernel_rfl) (by kernel_rfl) (by kernel_rfl) (fun _ _ _ h => h) (Or.inl ⟨by rfl, ?_⟩) (by assumption) ?_
        rotate_left 1
        focus (intro wS hSw; (try dsimp only at hSw); go_simp; try with_reducible rfl)
        try simp only [List.setIfInBounds_toArray, List.set_cons_zero, List.set_cons_succ]
        refine take_slot (i := 8) (d := 26) (v := ?_) rfl rfl (by kernel_rfl) (by kernel_rfl) (by kernel_rfl) (fun _ _ _ h => h) (Or.inl ⟨by rfl, ?_⟩) (by assumption) ?_
        rotate_left 1
        focus (intro wS hSw; (try dsimp only at hSw); go_simp; try with_reducible rfl)
        try simp only [List.setIfInBounds_toArray, List.set_cons_zero, List.set_cons_succ]
        refine take_slot (i := 9) (d := 27) (v := ?_) rfl rfl (by kernel_rfl) (by kernel_rfl) (by kernel_rfl) (fun _ _ _ h => h) (Or.inl ⟨by rfl, ?_⟩) (by assumption) ?_
        rotate_left 1
        focus (intro wS hSw; (try dsimp only at hSw); go_simp; try with_reducible rfl)
        try simp only [List.setIfInBounds_toArray, List.set_cons_zero, List.set_cons_succ]
        refine take_slot (i := 10) (d := 28) (v := ?_) rfl rfl (by kernel_rfl) (by kernel_rfl) (by kernel_rfl) (fun _ _ _ h => h) (Or.inl ⟨by rfl, ?_⟩) (by assumption) ?_
        rotate_left 1
        focus (intro wS hSw; (try dsimp only at hSw); go_simp; try with_reducible rfl)
        try simp only [List.setIfInBounds_toArray, List.set_cons_zero, List.set_cons_succ]
        refine take_slot (i := 11) (d := 29) (v := ?_) rfl rfl (by kernel_rfl) (by kernel_rfl) (by kernel_rfl) (fun _ _ _ h => h) (Or.inl ⟨by rfl, ?_⟩) (by assumption) ?_
        rotate_left 1
        focus (intro wS hSw; (try dsimp only at hSw); go_simp; try with_reducible rfl)
        try simp only [List.setIfInBounds_toArray, List.set_cons_zero, List.set_cons_succ]
        refine take_slot (i := 12) (d := 30) (v := ?_) rfl rfl (by kernel_rfl) (by kernel_rfl) (by kernel_rfl) (fun _ _ _ h => h) (Or.inl ⟨by rfl, ?_⟩) (by assumption) ?_
        rotate_left 1
        focus (intro wS hSw; (try dsimp only at hSw); go_simp; try with_reducible rfl)
        try simp only [List.setIfInBounds_toArray, List.set_cons_zero, List.set_cons_succ]
        refine take_slot (i := 13) (d := 31) (v := ?_) rfl rfl (by kernel_rfl) (by kernel_rfl) (by kernel_rfl) (fun _ _ _ h => h) (Or.inl ⟨by rfl, ?_⟩) (by assumption) ?_
        rotate_left 1
        focus (intro wS hSw; (try dsimp only at hSw); go_simp; try with_reducible rfl)
        try simp only [List.setIfInBounds_toArray, List.set_cons_zero, List.set_cons_succ]
        refine wpAnyH_ready (rs := [14]) (by kernel_rfl) (by simp) ?_
        refine AllReadyH.cons rfl (fun K hK => ?_) AllReadyH.nil
        go_simp
        refine (hc2.out _ hHeld.2.2).mono ?_; rintro e w5 ⟨rfl, hb5⟩
        refine hK.out _ _ ?_ (fun hHeld => ?_)
        focus (exact SC.out _ (hHeld.2.2.trans (hb5.mono hHeld.2.2.size)))
        clear hK K
        try simp only [Act.put, List.setIfInBounds_toArray, List.set_cons_zero, List.set_cons_succ]
        refine take_slot (i := 15) (d := 33) (v := ?_) rfl rfl (by kernel_rfl) (by kernel_rfl) (by kernel_rfl) (fun _ _ _ h => h) (Or.inl ⟨by rfl, ?_⟩) (by assumption) ?_
        rotate_left 1
        focus (intro wS hSw; (try dsimp only at hSw); go_simp; try with_reducible rfl)
        try simp only [List.setIfInBounds_toArray, List.set_cons_zero, List.set_cons_succ]
        refine take_slot (i := 16) (d := 34) (v := ?_) rfl rfl (by kernel_rfl) (by kernel_rfl) (by kernel_rfl) (fun _ _ _ h => h) (Or.inl ⟨by rfl, ?_⟩) (by assumption) ?_
        rotate_left 1
        focus (intro wS hSw; (try dsimp only at hSw); go_simp; try with_reducible rfl)
        try simp only [List.setIfInBounds_toArray, List.set_cons_zero, List.set_cons_succ]
        refine wpAnyH_done (by kernel_rfl) ?_ _
        have hbz := hbr.trans ((hbi.trans (hHeld.2.2.mono hbi.size)).mono hbr.size)
        clear hS SC hc2
        go_wp2_with fail
        go_roundw
        case rel => exact ⟨k + 1, .inl (by omega), by go_num, hbz⟩
        case measure => simp [RowKit.intOf]; omega
    · go_wp2_with fail
      go_end0
      exact ⟨rfl, hbr⟩

open Go.RowKit Go.Lib Go.Shelf Go.Sort
set_option linter.unusedVariables false
set_option linter.unusedSimpArgs false
attribute [local go_sem ↓] Go.wp_at_zero Go.wp_at_succ

/-- where some ranges begin, and have ended -/
def stepsOf (xs : List (Int × Int)) : List Int := xs.flatMap fun p => [p.1, p.2 + 1]
theorem stepsOf_snoc (xs : List (Int × Int)) (p : Int × Int) : stepsOf (xs ++ [p]) = stepsOf xs ++ [p.1, p.2 + 1] := by simp [stepsOf]
theorem stepsOf_length (xs : List (Int × Int)) : (stepsOf xs).length = xs.length * 2 := by
  induction xs with
  | nil => rfl
  | cons p xs ih => rw [← List.singleton_append, stepsOf, List.flatMap_append, List.length_append]; unfold stepsOf at ih; rw [ih]; simp; omega
def ints (zs : List Int) : List Value := zs.map fun z => .int .i64 z
theorem ints_append (xs ys : List Int) : ints (xs ++ ys) = ints xs ++ ints ys := by simp [ints]
theorem infoInt : (Try.prog.info? 3).map (fun i => (i.zero, i.size, i.bytes)) = some (some (.int .i64 0), 1, 8) := by kernel_rfl

/-- where some sets begin and have ended, in order, each once -/
def stepsUp (zs : List Int) : List Int := Lib.compact (zs.mergeSort fun x y => decide (x ≤ y))
theorem stepsUp_nil : stepsUp [] = [] := by
  have h := compact_length_le (([] : List Int).mergeSort fun x y => decide (x ≤ y))
  rw [List.length_mergeSort] at h
  exact List.eq_nil_of_length_eq_zero (Nat.le_zero.1 h)
def ChgPost (w : World) (zs : List Int) (e : Ending) (w' : World) : Prop :=
  ∃ v, e = .returned v ∧ w'.ownsRow w.heap.size 3 1 v (stepsUp zs).length (ints (stepsUp zs)) ∧ Below w.heap.size w w'

set_option maxRecDepth 20000 in
set_option maxHeartbeats 1000000 in
theorem changes_two (h : Nat) (va vb : Value) (xs ys : List (Int × Int)) (w : World) (hh : h < w.heap.size) (h0 : w.cell? ⟨h, 0, none⟩ = some va) (h1 : w.cell? ⟨h, 1, none⟩ = some vb)
    (ha : SetAt w.heap.size w va xs) (hb : SetAt w.heap.size w vb ys) (hsa : IsSet xs) (hsb : IsSet ys) (hla : xs.length ≤ 200) (hlb : ys.length ≤ 200) :
    Calls Try.prog 130 #[.slice (some ⟨h, 0, none⟩) 2 2] w (ChgPost w (stepsOf xs ++ stepsOf ys)) := by
  obtain ⟨i0, hi0, hz0, hz1, hz2⟩ := info_parts infoInt
  have HA := Lib.hid ha
  have HB := Lib.hid hb
  clear ha hb
  have H0 := Lib.hid h0
  have H1 := Lib.hid h1
  clear h0 h1
  go_enter Try.func130, Try.ntmps130
  go_wp2_with fail
  go_loopw [3, 10] (fun s i wr => ∃ k : Nat, k ≤ 2 ∧ i = .int .i64 k ∧ wr.ownsRow w.heap.size 3 1 s (([xs, ys].take k).flatMap stepsOf).length (ints (([xs, ys].take k).flatMap stepsOf)) ∧ Below w.heap.size w wr) (fun _ i _ => 2 - (RowKit.intOf i).toNat)
  case atStart => exact ⟨0, by omega, rfl, World.ownsRow_nil _ _ _ _, Below.refl _ _⟩
  case round =>
    obtain ⟨k, hk, rfl, hown, hbr⟩ := hrel
    by_cases hlt : k < 2
    · obtain ⟨v, zs, hv, hset, hisS, hlen, hacc, hnext⟩ : ∃ v zs, wr.cell? ⟨h, k, none⟩ = some v ∧ SetAt w.heap.size wr v zs ∧ IsSet zs ∧ zs.length ≤ 200 ∧ (([xs, ys].take k).flatMap stepsOf).length ≤ 400 ∧ ([xs, ys].take (k + 1)).flatMap stepsOf = ([xs, ys].take k).flatMap stepsOf ++ stepsOf zs := by
        rcases k with _ | _ | k
        · exact ⟨va, xs, cell_next hbr hh H0.out, HA.out.below hbr (Nat.le_refl _), hsa, hla, by simp, by simp⟩
        · exact ⟨vb, ys, cell_next hbr hh H1.out, HB.out.below hbr (Nat.le_refl _), hsb, hlb, by simp [stepsOf_length]; omega, by simp⟩
        · omega
      obtain ⟨A, c, rfl, hrd⟩ := hset
      have HN := Lib.hid hnext
      have HRD := Lib.hid hrd
      have HOWN := Lib.hid hown
      have HIS := Lib.hid hisS
      generalize ([xs, ys].take k).flatMap stepsOf = acc at *
      clear hnext hrd hown hisS
      obtain ⟨n, hn⟩ : ∃ n, zs.length = n := ⟨_, rfl⟩
      rw [hn] at hv hlen
      have Hn := Lib.hid hn
      clear hn
      have hz := hbr.size
      go_wp2_with fail
      rw [decide_eq_true (show (k : Int) < 2 by omega)]
      go_loopw [3, 16] (fun s i wi => ∃ j : Nat, j ≤ n ∧ i = .int .i64 j ∧ Hid (wi.ownsRow w.heap.size 3 1 s (acc ++ stepsOf (zs.take j)).length (ints (acc ++ stepsOf (zs.take j)))) ∧ Below w.heap.size w wi ∧ Below w.heap.size wr wi) (fun _ i _ => n - (RowKit.intOf i).toNat)
      case atStart => exact ⟨0, by omega, rfl, Lib.hid (by simpa [stepsOf] using HOWN.out), hbr, Below.refl _ _⟩
      case round =>
        obtain ⟨j, hj, rfl, hown, hbi, hbw⟩ := hrel
        by_cases hjn : j < n
        · obtain ⟨p, hp⟩ : ∃ p, zs[j]? = some p := ⟨_, List.getElem?_eq_getElem (by rw [Hn.out]; exact hjn)⟩
          obtain ⟨g, off, rfl, hg, hr⟩ := HRD.out (by rw [Hn.out]; omega)
          have hc0 := hbw.cell (p := ⟨g, off + j * 2, none⟩) hg
          have hc1 := hbw.cell (p := ⟨g, off + j * 2 + 1, none⟩) hg
          rw [(hr j p hp).1] at hc0
          rw [(hr j p hp).2] at hc1
          have hpv := HIS.out.valid p (List.mem_of_getElem? hp)
          have hwp : IntKind.i64.wrap (p.2 + 1) = p.2 + 1 := IntWalk.i64_in _ (by omega)
          have hnx : acc ++ stepsOf (zs.take (j + 1)) = (acc ++ stepsOf (zs.take j)) ++ [p.1, p.2 + 1] := by
            rw [List.take_add_one, hp, List.append_assoc]; exact congrArg _ (stepsOf_snoc _ _)
          have HNX := Lib.hid hnx
          have hL : (acc ++ stepsOf (zs.take j)).length ≤ 800 := by rw [List.length_append, stepsOf_length, List.length_take]; omega
          clear hnx hr hp
          generalize acc ++ stepsOf (zs.take j) = L at *
          have hsz := hbi.size
          obtain ⟨m, B, cc, rfl⟩ : ∃ (m : Nat) (B : Option Addr) (cc : Nat), u3 = Value.slice B m cc := by
            rcases hown.out.2 with ⟨rfl, _⟩ | ⟨g, cap, cur, rfl, _⟩
            · exact ⟨_, _, _, rfl⟩
            · exact ⟨_, _, _, rfl⟩
          go_wp2_with (at_builtin; refine wpList_append_own_at _ rfl (.tmp 20) (.tmp 26) 23 rfl w.heap.size 3 i0 (.int .i64 0) 1 8 Try.underlying23 hi0 hz0 hz1 hz2 rfl (by decide) (.slice B m cc) L.length (ints L) rfl ((hown.out.alloc _).alloc _) ⟨wr.heap.size + 1, 0, none⟩ 2 2 (ints [p.1, p.2 + 1]) rfl rfl ?_ ?_ ?_ ?_ ?_ ?_)
          case refine_1 =>
            intro i u hi
            rcases i with _ | _ | i
            · simp [ints] at hi; subst hi; exact (cell_at _ _ _ _ _ (by simp))
            · simp [ints] at hi; subst hi; exact (cell_at _ _ _ _ _ (by simp))
            · simp [ints] at hi
          case refine_2 => simp [Value.oneCell', ints]
          case refine_3 => unfold maxLen; omega
          case refine_4 => omega
          case refine_5 => simp; omega
          case refine_6 =>
            intro v' w1 hown' hgrow _ hat
            have hrow : ∀ r, (Value.slice B m cc).ownBlock = some r → w.heap.size ≤ r := fun r hr => (hown.out.lt r hr).1
            have hb1 := ((hbi.alloc hsz (Obj.cells #[Value.int IntKind.i64 p.fst, Value.int IntKind.i64 p.snd] 107)).alloc (by simp; omega) (Obj.cells #[Value.int IntKind.i64 p.fst, Value.int IntKind.i64 (p.snd + 1)] 3)).grown hgrow (by simp; omega) hrow
            have hb2 := ((hbw.alloc hsz (Obj.cells #[Value.int IntKind.i64 p.fst, Value.int IntKind.i64 p.snd] 107)).alloc (by simp; omega) (Obj.cells #[Value.int IntKind.i64 p.fst, Value.int IntKind.i64 (p.snd + 1)] 3)).grown hgrow (by simp; omega) hrow
            rw [← ints_append] at hown'
            have HOWN1 := Lib.hid hown'
            clear hown' hgrow hrow hat
            go_wp2_with fail
            go_roundw
            case rel =>
              refine ⟨j + 1, by omega, by go_num, ?_, hb1, hb2⟩
              have e := HNX.out
              refine Lib.hid ?_
              rw [e]
              simpa using HOWN1.out
            case measure => simp [RowKit.intOf]; omega
        · obtain rfl : j = n := by omega
          go_wp2_with fail
          go_roundw
          case rel =>
            refine ⟨k + 1, by omega, by go_num, ?_, hbi⟩
            have e := HN.out
            rw [e]
            have h := hown.out
            rw [List.take_of_length_le (by rw [Hn.out]; omega)] at h
            exact h
          case measure => simp [RowKit.intOf]; omega
    · obtain rfl : k = 2 := by omega
      have hZ : ([xs, ys].take 2).flatMap stepsOf = stepsOf xs ++ stepsOf ys := by simp
      have hlen : (stepsOf xs ++ stepsOf ys).length ≤ 800 := by rw [List.length_append, stepsOf_length, stepsOf_length]; omega
      rw [hZ] at hown
      generalize stepsOf xs ++ stepsOf ys = Z at *
      clear hZ
      go_wp2_with fail
      rcases hown.2 with ⟨rfl, h0⟩ | ⟨g, cap, cur, rfl, hb, hg, hn, hm, hs, ht⟩
      · obtain rfl : Z = [] := List.eq_nil_of_length_eq_zero h0
        refine (Try.slices_Sort_int_none none 0 _).mono ?_
        rintro e w2 ⟨rfl, rfl⟩
        go_wp2_with fail
        refine (Try.slices_Compact_int_empty none 0 _).mono ?_
        rintro e w3 ⟨rfl, rfl⟩
        go_wp2_with fail
        go_ret
        exact ⟨_, rfl, by rw [stepsUp_nil]; exact World.ownsRow_nil _ _ _ _, hbr⟩
      · obtain ⟨g', cap', e1, _, hglt, _, _, _, hH⟩ := holds_of_ownsRow (enc := Value.int .i64) hown (by simp)
        obtain ⟨rfl, rfl⟩ : g = g' ∧ cap = cap' := by simpa using e1
        refine (Try.slices_Sort_int g 0 cap Z wr hH hglt (by omega)).mono ?_
        rintro e w2 ⟨rfl, q, os, rfl⟩
        have own2 := ownsRow_sortedI (n := q) (os := os) (ss := Z) (ts := Z.mergeSort fun x y => decide (x ≤ y)) (by simp) hb hg hn hm hs
        have hb2 := hbr.grown (grownBy_sortedI (n := q) (os := os) (g := g) (Z.mergeSort fun x y => decide (x ≤ y)).toArray) hbr.size (fun r hr => by cases hr; exact hb)
        generalize hw2 : grow (putRow (Value.int .i64) (Sort.ahead wr q) g 0 (Z.mergeSort fun x y => decide (x ≤ y)).toArray) os = w2 at *
        go_wp2_with fail
        obtain ⟨g2, cap2, e2, _, _, _, _, _, hH2⟩ := holds_of_ownsRow (enc := Value.int .i64) own2 (by simp)
        obtain ⟨rfl, rfl⟩ : g = g2 ∧ cap = cap2 := by simpa using e2
        have hC := Try.slices_Compact_int g 0 cap (Z.mergeSort fun x y => decide (x ≤ y)) w2 hH2 (by rw [List.length_mergeSort]; omega) (by rw [List.length_mergeSort]; exact hn)
        have hcl := compact_length_le (Z.mergeSort fun x y => decide (x ≤ y))
        rw [List.length_mergeSort] at hC hcl
        refine hC.mono ?_
        rintro e w3 ⟨rfl, q3, rfl⟩
        have own3 := ownsRow_putRow (enc := Value.int .i64) (q := q3) (k := (stepsUp Z).length) (ys := stepsUp Z ++ List.replicate (Z.length - (stepsUp Z).length) 0) own2 (by unfold stepsUp; simp; omega) (by unfold stepsUp; omega)
        rw [List.take_left] at own3
        have hb3 := below_putRow (enc := Value.int .i64) (q := q3) (d := (stepsUp Z ++ List.replicate (Z.length - (stepsUp Z).length) 0).toArray) hb2 hb
        go_wp2_with fail
        go_ret
        exact ⟨_, rfl, own3, hb3⟩

open Go.RowKit Go.Lib Go.Shelf
set_option linter.unusedVariables false
set_option linter.unusedSimpArgs false
attribute [local go_sem ↓] Go.wp_at_zero Go.wp_at_succ

set_option maxRecDepth 20000 in
set_option maxHeartbeats 600000 in
theorem stable_noop (F : Nat) (c : Value) (hE : ∀ args w, (callFunc F args).run Try.prog w = .ok (.enter F args) w) (g off n cap : Nat) (hn : n ≤ 19) (w : World) (hg : g < w.heap.size) (hu : UpRow w g off n) (hc : NoSwap F #[c] n w) :
    Calls Try.prog 137 #[.slice (some ⟨g, off, none⟩) n cap, .int .i64 n, .func (Fn.func F) #[] #[c]] w fun e w' => e = .returned (.tuple #[]) ∧ Below w.heap.size w w' := by
  have HU := Lib.hid hu
  have HC := Lib.hid hc
  clear hu hc
  go_enter Try.func137, Try.ntmps137
  go_wp2_with fail
  go_loopw [7, 8] (fun a b wr => a = .int .i64 0 ∧ b = .int .i64 20 ∧ wr = w) (fun _ _ _ => 0)
  case atStart => exact ⟨rfl, rfl, rfl⟩
  case round =>
    obtain ⟨rfl, rfl, rfl⟩ := hrel
    go_wp2_with fail
    refine (isort_noop F c hE g off n cap (by omega) _ hg HU.out HC.out).mono ?_
    rintro e w1 ⟨rfl, hb⟩
    go_wp2_with fail
    go_loopw [6] (fun a w2 => a = .int .i64 20 ∧ w2 = w1) (fun _ _ => 0)
    case atStart => exact ⟨rfl, rfl⟩
    case round =>
      obtain ⟨rfl, rfl⟩ := hrel
      go_wp2_with fail
      go_end0
      exact ⟨rfl, hb⟩

set_option maxHeartbeats 400000 in
theorem sortStable_noop (F : Nat) (c : Value) (hE : ∀ args w, (callFunc F args).run Try.prog w = .ok (.enter F args) w) (g off n cap : Nat) (hn : n ≤ 19) (w : World) (hg : g < w.heap.size) (hu : UpRow w g off n) (hc : NoSwap F #[c] n w) :
    Calls Try.prog 108 #[.slice (some ⟨g, off, none⟩) n cap, .func (Fn.func F) #[] #[c]] w fun e w' => e = .returned (.tuple #[]) ∧ Below w.heap.size w w' := by
  have h := Lib.hid (stable_noop F c hE g off n cap hn w hg hu hc)
  clear hu hc
  go_enter Try.func108, Try.ntmps108
  go_wp2_with fail
  refine h.out.mono ?_
  rintro e w1 ⟨rfl, hb⟩
  go_wp2_with fail
  go_end0
  exact ⟨rfl, hb⟩

set_option maxHeartbeats 400000 in
theorem gf1_any (b gv offv n c : Nat) (i j : Nat) (vi vj : Int) (hi : i < n) (hj : j < n) (hn : n ≤ 1000) (h1 : -1000000000000000000 ≤ vi ∧ vi ≤ 1000000000000000000) (h2 : -1000000000000000000 ≤ vj ∧ vj ≤ 1000000000000000000) (w : World)
    (hb : w.cell? ⟨b, 0, none⟩ = some (.slice (some ⟨gv, offv, none⟩) n c)) (ci : w.cell? ⟨gv, offv + i, none⟩ = some (.int .i64 vi)) (cj : w.cell? ⟨gv, offv + j, none⟩ = some (.int .i64 vj)) :
    Calls Try.prog 109 #[.int .i64 i, .int .i64 j, .pointer (some ⟨b, 0, none⟩)] w fun e w' => e = .returned (.int .i64 (vj - vi)) ∧ Below w.heap.size w w' := by
  obtain ⟨h1, h1'⟩ := h1
  obtain ⟨h2, h2'⟩ := h2
  have hi0 : (0 : Int) ≤ (i : Int) := by omega
  have hi1 : (i : Int) < (n : Int) := by omega
  have hj0 : (0 : Int) ≤ (j : Int) := by omega
  have hj1 : (j : Int) < (n : Int) := by omega
  have hwx : IntKind.i64.wrap (vj - vi) = vj - vi := IntWalk.i64_in _ (by omega)
  go_enter Try.func109, Try.ntmps109
  go_wp2_with fail
  go_quiet (fail)
  go_wp2_with fail
  go_ret
  exact ⟨rfl, below_drewN (Below.refl _ _) _⟩

theorem enters_gf1 : ∀ args w, (callFunc 109 args).run Try.prog w = .ok (.enter 109 args) w := enters_of Try.func109 (by kernel_rfl) rfl

theorem own_base {w : World} {base base' : Nat} {e : TypeId} {size : Nat} {v : Value} {n : Nat} {xs : List Value} (h : w.ownsRow base e size v n xs) (hb : base' ≤ base) : w.ownsRow base' e size v n xs := by
  refine ⟨h.1, ?_⟩
  rcases h.2 with h1 | ⟨g, cap, cur, h2, h3, h4⟩
  · exact .inl h1
  · exact .inr ⟨g, cap, cur, h2, Nat.le_trans hb h3, h4⟩

/-- 0, 1, 2 .. -/
def upL (n : Nat) : List Int := (List.range n).map fun j : Nat => (j : Int)
theorem upL_succ (n : Nat) : upL (n + 1) = upL n ++ [(n : Int)] := by simp [upL, List.range_succ]
theorem upL_length (n : Nat) : (upL n).length = n := by simp [upL]
theorem upL_getD (n j : Nat) (h : j < n) : (upL n).getD j 0 = (j : Int) := by simp [upL, h]

/-- a row of numbers is read: values at g from off on -/
def IntsAt (w : World) (g off : Nat) (zs : List Int) : Prop := ∀ j z, zs[j]? = some z → w.cell? ⟨g, off + j, none⟩ = some (.int .i64 z)

def GfPost (w : World) (n : Nat) (os : List Int) (e : Ending) (w' : World) : Prop :=
  ∃ v, e = .returned v ∧ w'.ownsRow w.heap.size 3 1 v n (ints os) ∧ Below w.heap.size w w'

set_option maxRecDepth 20000 in
set_option maxHeartbeats 1000000 in
theorem greatestFirst_down (g off c : Nat) (zs : List Int) (hl : 0 < zs.length) (hl2 : zs.length ≤ 19) (hz : ∀ z ∈ zs, -1000000000000000000 ≤ z ∧ z ≤ 1000000000000000000) (hd : ∀ k, k + 1 < zs.length → zs.getD (k + 1) 0 ≤ zs.getD k 0) (w : World) (hg : g < w.heap.size) (hr : IntsAt w g off zs) :
    Calls Try.prog 68 #[.slice (some ⟨g, off, none⟩) zs.length c] w (GfPost w zs.length (upL zs.length)) := by
  obtain ⟨i0, hi0, hz0, hz1, hz2⟩ := info_parts infoInt
  have HE := enters_gf1
  have HR := Lib.hid hr
  have HZ : Hid (∀ j, j < zs.length → -1000000000000000000 ≤ zs.getD j 0 ∧ zs.getD j 0 ≤ 1000000000000000000 ∧ zs[j]? = some (zs.getD j 0)) := Lib.hid fun j hj => by
    have e : zs[j]? = some (zs.getD j 0) := by rw [List.getD_eq_getElem?_getD, List.getElem?_eq_getElem hj]; rfl
    have := hz _ (List.mem_of_getElem? e)
    exact ⟨this.1, this.2, e⟩
  have HD := Lib.hid hd
  clear hr hz hd
  obtain ⟨n, hn⟩ : ∃ n, zs.length = n := ⟨_, rfl⟩
  rw [hn] at HZ HD hl hl2 ⊢
  clear hn
  go_enter Try.func68, Try.ntmps68
  go_wp2_with fail
  go_loopw [3, 7] (fun s i wr => ∃ k : Nat, k ≤ n ∧ i = .int .i64 k ∧ wr.ownsRow (w.heap.size + 1) 3 1 s k (ints (upL k)) ∧ wr.cell? ⟨w.heap.size, 0, none⟩ = some (.slice (some ⟨g, off, none⟩) n c) ∧ w.heap.size < wr.heap.size ∧ Below w.heap.size w wr) (fun _ i _ => n - (RowKit.intOf i).toNat)
  case atStart => exact ⟨0, Nat.zero_le _, rfl, World.ownsRow_nil _ _ _ _, by simp [go_sem], by simp, (Below.refl _ _).alloc (Nat.le_refl _) _⟩
  case round =>
    obtain ⟨k, hk, rfl, hown, hc, hs, hbr⟩ := hrel
    by_cases hlt : (k : Int) < (n : Int)
    · obtain ⟨m, B, cc, rfl⟩ : ∃ (m : Nat) (B : Option Addr) (cc : Nat), u3 = Value.slice B m cc := by
        rcases hown.2 with ⟨rfl, _⟩ | ⟨g, cap, cur, rfl, _⟩
        · exact ⟨_, _, _, rfl⟩
        · exact ⟨_, _, _, rfl⟩
      have HOWN := Lib.hid hown
      have HNX := Lib.hid (upL_succ k)
      clear hown
      generalize upL k = L at *
      go_wp2_with (at_builtin; refine wpList_append_own_at _ rfl (.tmp 10) (.tmp 12) 23 rfl (w.heap.size + 1) 3 i0 (.int .i64 0) 1 8 Try.underlying23 hi0 hz0 hz1 hz2 rfl (by decide) (.slice B m cc) k (ints L) rfl (HOWN.out.alloc _) ⟨wr.heap.size, 0, none⟩ 1 1 (ints [(k : Int)]) rfl rfl ?_ ?_ ?_ ?_ ?_ ?_)
      case refine_1 =>
        intro i u hi
        rcases i with _ | i
        · simp [ints] at hi; subst hi; exact (cell_at _ _ _ _ _ (by simp))
        · simp [ints] at hi
      case refine_2 => simp [Value.oneCell', ints]
      case refine_3 => unfold maxLen; omega
      case refine_4 => omega
      case refine_5 => simp; omega
      case refine_6 =>
        intro v' w1 hown' hgrow _ hat
        have hrow : ∀ r, (Value.slice B m cc).ownBlock = some r → w.heap.size + 1 ≤ r := fun r hr => (HOWN.out.lt r hr).1
        have hb1 := (hbr.alloc hbr.size (Obj.cells #[Value.int IntKind.i64 (k : Int)] 3)).grown hgrow (by simp; omega) (fun r hr => by have := hrow r hr; omega)
        have hc1 := grown_cell' (v := some (Value.slice (some ⟨g, off, none⟩) n c)) hgrow (b := w.heap.size) (o := 0) (by simp; omega) (fun r hr => by have := hrow r hr; omega) (by rw [cell_old _ _ _ _ hs]; exact hc)
        have hs1 : w.heap.size < w1.heap.size := Nat.lt_of_lt_of_le (by simp; omega) hgrow.size
        rw [← ints_append] at hown'
        have HOWN1 := Lib.hid hown'
        clear hown' hgrow hrow hat hc
        go_wp2_with fail
        go_roundw
        case rel =>
          refine ⟨k + 1, by omega, by go_num, ?_, hc1, hs1, hb1⟩
          rw [HNX.out]
          exact HOWN1.out
        case measure => simp [RowKit.intOf]; omega
    · obtain rfl : k = n := by omega
      obtain ⟨go, cap, hv, hgo1, hgo2⟩ : ∃ go cap, u3 = Value.slice (some ⟨go, 0, none⟩) k cap ∧ w.heap.size + 1 ≤ go ∧ go < wr.heap.size := by
        rcases hown.2 with ⟨_, h⟩ | ⟨go, cap, cur, rfl, hb, hgg, _⟩
        · omega
        · exact ⟨go, cap, rfl, hb, (Array.getElem?_eq_some_iff.1 hgg).1⟩
      subst hv
      have hup : UpRow wr go 0 k := fun j hj => by
        have h := hown.cellAt j (by omega)
        rw [Nat.zero_add, h]
        simp [ints, upL, hj]
      have HUP := Lib.hid hup
      have HOWN := Lib.hid hown
      have hns : NoSwap 109 #[.pointer (some ⟨w.heap.size, 0, none⟩)] k wr := fun j hj => by
        obtain ⟨a1, a2, a3⟩ := HZ.out j (by omega)
        obtain ⟨b1, b2, b3⟩ := HZ.out (j + 1) (by omega)
        have hdd := HD.out j hj
        refine ⟨zs.getD j 0 - zs.getD (j + 1) 0, by omega, by omega, fun W hW => ?_⟩
        have h := gf1_any w.heap.size g off k c (j + 1) j _ _ hj (by omega) (by omega) ⟨b1, b2⟩ ⟨a1, a2⟩ W (cell_next hW hs hc) (cell_next hW (by omega) (cell_next hbr hg (HR.out _ _ b3))) (cell_next hW (by omega) (cell_next hbr hg (HR.out _ _ a3)))
        exact h
      have HNS := Lib.hid hns
      clear hup hown hns
      go_wp2_with fail
      refine (sortStable_noop 109 (.pointer (some ⟨w.heap.size, 0, none⟩)) HE go 0 k cap hl2 _ hgo2 HUP.out HNS.out).mono ?_
      rintro e w2 ⟨rfl, hb2⟩
      have hfin := own_below HOWN.out hb2
      have hbf := hbr.trans (hb2.mono hbr.size)
      have HF := Lib.hid hfin
      clear hfin hb2 hc
      go_wp2_with fail
      go_ret
      exact ⟨_, rfl, own_base HF.out (Nat.le_succ _), hbf⟩
end Go.Proofs.Ytclnfncdphfgjaa
