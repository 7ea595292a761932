/- Contracts: where the value lies in a range. -/
import Derived.Test.YtgklpbgdimkhaaaGreatT1
import Derived.Test.YtgklpbgdimkhaaaGreatKA6
namespace Go.Proofs.YtgklpbgdimkhaaaGreat
open Go.RowKit Go.Lib Go.Shelf
set_option linter.unusedVariables false
set_option linter.unusedSimpArgs false
attribute [local go_sem ↓] Go.wp_at_zero Go.wp_at_succ

/-- what placesBetween returns for the rows k and k + 1 -/
def PlacesAt (xs : List (Int × Int)) (yl yh : Int) (PL : Nat → (Int × Int) × Bool) : Prop :=
  ∀ k p q, xs[k]? = some p → xs[k + 1]? = some q → ((PL k).2 = true → (PL k).1.2 ≤ 1000000000000000000 ∧ -1000000000000000000 ≤ (PL k).1.2) ∧ ∀ W : World,
    Calls Tryz.prog 135 #[.agg #[.int .i64 p.1, .int .i64 p.2], .agg #[.int .i64 q.1, .int .i64 q.2], .agg #[.int .i64 yl, .int .i64 yh]] W fun e w' =>
      e = .returned (.tuple #[.agg #[.int .i64 (PL k).1.1, .int .i64 (PL k).1.2], .bool (PL k).2]) ∧ Below W.heap.size W w'

/-- the set of the places behind the first k stretches -/
def whereAt (PL : Nat → (Int × Int) × Bool) : Nat → List (Int × Int)
  | 0 => []
  | k + 1 => if (PL k).2 then extP (whereAt PL k) (PL k).1 else whereAt PL k
theorem whereAt_length (PL : Nat → (Int × Int) × Bool) (k : Nat) : (whereAt PL k).length ≤ k := by
  induction k with
  | zero => simp [whereAt]
  | succ k ih =>
    unfold whereAt
    split
    · have := extP_length (whereAt PL k) (PL k).1; omega
    · omega

theorem below_realloc {B : Nat} {a w : World} {o p : Obj} (h : Below B a (w.alloc o)) (hB : B ≤ w.heap.size) : Below B a (w.alloc p) :=
  ⟨h.os, h.tape, h.output, by have := h.size; simpa using this, fun k hk => (Below.heap_alloc w p k (by omega)).trans ((Below.heap_alloc w o k (by omega)).symm.trans (h.block k hk))⟩

theorem grown_cell' {w w' : World} {row : Option Nat} {b o : Nat} {v : Option Value} (h : w.grownBy w' row) (hb : b < w.heap.size) (hne : ∀ r, row = some r → b ≠ r) (hc : w.cell? ⟨b, o, none⟩ = v) : w'.cell? ⟨b, o, none⟩ = v :=
  (World.cell?_of_block (h.block b hb (fun e => hne b e.symm rfl))).trans hc
theorem own_below {w w' : World} {base : Nat} {e : TypeId} {size : Nat} {v : Value} {n : Nat} {xs : List Value} (h : w.ownsRow base e size v n xs) (hb : Below w.heap.size w w') : w'.ownsRow base e size v n xs :=
  h.kept (only_of_below' (row := none) hb) (by cases hv : v.ownBlock <;> simp)

/-- what Where leaves -/
def WherePost (w : World) (ys : List (Int × Int)) (e : Ending) (w' : World) : Prop :=
  ∃ v, e = .returned (.tuple #[v, .int .i64 0]) ∧ w'.ownsRow (w.heap.size + 1) 24 2 v ys.length (flat ys) ∧ Below w.heap.size w w'

set_option maxRecDepth 20000 in
set_option maxHeartbeats 600000 in
theorem where_ok (xs : List (Int × Int)) (yl yh : Int) (PL : Nat → (Int × Int) × Bool) (g off c : Nat) (hPL : PlacesAt xs yl yh PL) (ht : tabE xs = 0) (h1 : 2 ≤ xs.length) (h2 : xs.length ≤ 60) (hy : vrB yl yh = true) (w : World) (hg : g < w.heap.size) (hr : RRd w g off xs) :
    Calls Tryz.prog 113 #[.slice (some ⟨g, off, none⟩) xs.length c, .agg #[.int .i64 yl, .int .i64 yh]] w (WherePost w (whereAt PL (xs.length - 1))) := by
  have HC : Hid (∀ W : World, Below w.heap.size w W → Calls Tryz.prog 78 #[.slice (some ⟨g, off, none⟩) xs.length c] W fun e w' => e = .returned (.int .i64 0) ∧ Below W.heap.size W w') := fun W hb => by
    have hz := hb.size
    have h := checkTable_long g off xs c W (by omega) (hr.below hb hg) h1 h2
    rw [ht] at h
    exact h
  have HV : Hid (∀ W : World, Calls Tryz.prog 89 #[.agg #[.int .i64 yl, .int .i64 yh]] W fun e w' => e = .returned (.bool true) ∧ Below W.heap.size W w') := fun W => by
    have h := validRange_any yl yh W
    rw [hy] at h
    exact h
  obtain ⟨n, hn⟩ : ∃ n, xs.length = n + 1 := ⟨xs.length - 1, by omega⟩
  have Hn := Lib.hid hn
  rw [hn] at HC h1 h2 ⊢
  clear hn ht hy
  have HR := Lib.hid hr
  have HP := Lib.hid hPL
  clear hr hPL
  have hwn : IntKind.i64.wrap (n : Int) = (n : Int) := IntWalk.i64_in _ (by omega)
  go_enter Tryz.func113, Tryz.ntmps113
  go_wp2_with fail
  refine (HC.out _ ((Below.refl _ _).alloc (Nat.le_refl _) _)).mono ?_
  rintro e w1 ⟨rfl, hb1⟩
  have c0 := cell_next hb1 (b := w.heap.size) (o := 0) (by simp) (v := some (.int .i64 yl)) (by simp)
  have c1 := cell_next hb1 (b := w.heap.size) (o := 1) (by simp) (v := some (.int .i64 yh)) (by simp)
  have hB := below1 hb1
  have hz : w.heap.size < w1.heap.size := by have := hb1.size; simp at this; omega
  clear hb1
  go_wp2_with fail
  refine (HV.out _).mono ?_
  rintro e w2 ⟨rfl, hb2⟩
  replace c0 := cell_next hb2 hz c0
  replace c1 := cell_next hb2 hz c1
  replace hz := Nat.lt_of_lt_of_le hz hb2.size
  replace hB := hB.trans (hb2.mono hB.size)
  clear hb2
  go_wp2_with fail
  go_loopw [7, 22] (fun s i wr => ∃ k : Nat, k ≤ n ∧ i = .int .i64 k ∧ wr.ownsRow (w.heap.size + 1) 24 2 s (whereAt PL k).length (flat (whereAt PL k)) ∧ Hid (∀ p ∈ whereAt PL k, -1000000000000000000 ≤ p.2 ∧ p.2 ≤ 1000000000000000000) ∧
      wr.cell? ⟨w.heap.size, 0, none⟩ = some (.int .i64 yl) ∧ wr.cell? ⟨w.heap.size, 1, none⟩ = some (.int .i64 yh) ∧ w.heap.size < wr.heap.size ∧ Below w.heap.size w wr) (fun _ i _ => n - (RowKit.intOf i).toNat)
  case atStart => exact ⟨0, Nat.zero_le _, rfl, World.ownsRow_nil _ _ _ _, Lib.hid (by intro p hp; cases hp), c0, c1, hz, hB⟩
  case round =>
    obtain ⟨k, hk, rfl, hown, hbd, d0, d1, hzr, hbr⟩ := hrel
    clear c0 c1 hz hB
    by_cases hlt : k < n
    · obtain ⟨p, hp⟩ : ∃ p, xs[k]? = some p := ⟨_, List.getElem?_eq_getElem (by rw [Hn.out]; omega)⟩
      obtain ⟨q, hq⟩ : ∃ q, xs[k + 1]? = some q := ⟨_, List.getElem?_eq_getElem (by rw [Hn.out]; omega)⟩
      obtain ⟨p0, p1⟩ := (HR.out.below hbr hg) k p hp
      obtain ⟨q0, q1⟩ := (HR.out.below hbr hg) (k + 1) q hq
      obtain ⟨hub, hcall⟩ := HP.out k p q hp hq
      have HUB := Lib.hid hub
      clear hub
      have hext := Lib.hid (extend_any (whereAt PL k) (PL k).1.1 (PL k).1.2)
      have hnext : Hid (whereAt PL (k + 1) = if (PL k).2 then extP (whereAt PL k) (PL k).1 else whereAt PL k) := Lib.hid rfl
      have hlen := whereAt_length PL k
      have HCALL := Lib.hid hcall
      have HOWN := Lib.hid hown
      clear hp hq hcall hown
      generalize hP : PL k = P at *
      obtain ⟨⟨lo, hi⟩, ok⟩ := P
      have hk0 : (0 : Int) ≤ (k : Int) := by omega
      have hk1 : (k : Int) < (n : Int) + 1 := by omega
      have hk2 : (k : Int) + 1 < (n : Int) + 1 := by omega
      have hk3 : (0 : Int) ≤ (k : Int) + 1 := by omega
      have hwk : IntKind.i64.wrap ((k : Int) + 1) = (k : Int) + 1 := IntWalk.i64_in _ (by omega)
      have hgr : g < wr.heap.size := Nat.lt_of_lt_of_le hg hbr.size
      have SB : Hid (∀ W' : World, Below wr.heap.size wr W' → W'.cell? ⟨g, off + k * 2, none⟩ = some (.int .i64 p.1) ∧ W'.cell? ⟨g, off + k * 2 + 1, none⟩ = some (.int .i64 p.2) ∧ W'.cell? ⟨g, off + (k + 1) * 2, none⟩ = some (.int .i64 q.1) ∧ W'.cell? ⟨g, off + (k + 1) * 2 + 1, none⟩ = some (.int .i64 q.2) ∧
          W'.cell? ⟨w.heap.size, 0, none⟩ = some (.int .i64 yl) ∧ W'.cell? ⟨w.heap.size, 1, none⟩ = some (.int .i64 yh) ∧ Below wr.heap.size wr W') := Lib.hid fun W' hb =>
        ⟨cell_next hb hgr p0, cell_next hb hgr p1, cell_next hb hgr q0, cell_next hb hgr q1, cell_next hb hzr d0, cell_next hb hzr d1, hb⟩
      clear p0 p1 q0 q1 d0 d1
      have hS := SB.out wr (Below.refl _ _)
      go_wp2_with fail
      go_region_held3 (fun W' => W'.cell? ⟨g, off + k * 2, none⟩ = some (.int .i64 p.1) ∧ W'.cell? ⟨g, off + k * 2 + 1, none⟩ = some (.int .i64 p.2) ∧ W'.cell? ⟨g, off + (k + 1) * 2, none⟩ = some (.int .i64 q.1) ∧ W'.cell? ⟨g, off + (k + 1) * 2 + 1, none⟩ = some (.int .i64 q.2) ∧
          W'.cell? ⟨w.heap.size, 0, none⟩ = some (.int .i64 yl) ∧ W'.cell? ⟨w.heap.size, 1, none⟩ = some (.int .i64 yh) ∧ Below wr.heap.size wr W')
        (first | exact SB.out _ (Below.drew (Below.refl _ _)) | exact SB.out _ ((‹_ ∧ _ ∧ _ ∧ _ ∧ _ ∧ _ ∧ Below _ _ _›).2.2.2.2.2.2.drew) | exact SB.out _ ((‹_ ∧ _ ∧ _ ∧ _ ∧ _ ∧ _ ∧ Below _ _ _›).2.2.2.2.2.2.trans (hb5.mono (by first | exact (‹_ ∧ _ ∧ _ ∧ _ ∧ _ ∧ _ ∧ Below _ _ _›).2.2.2.2.2.2.size | simp [drew_size]; omega))) | exact SB.out _ ((‹_ ∧ _ ∧ _ ∧ _ ∧ _ ∧ _ ∧ Below _ _ _›).2.2.2.2.2.2.alloc (‹_ ∧ _ ∧ _ ∧ _ ∧ _ ∧ _ ∧ Below _ _ _›).2.2.2.2.2.2.size _) | exact SB.out _ (below_realloc (‹_ ∧ _ ∧ _ ∧ _ ∧ _ ∧ _ ∧ Below _ _ _›).2.2.2.2.2.2 (by omega)) | exact SB.out _ (((‹_ ∧ _ ∧ _ ∧ _ ∧ _ ∧ _ ∧ Below _ _ _›).2.2.2.2.2.2.setCell (p := ⟨wr.heap.size, 0, none⟩) (Nat.le_refl _) _).setCell (p := ⟨wr.heap.size, 1, none⟩) (Nat.le_refl _) _))
        (first | (go_at_call 135; refine (HCALL.out _).mono ?_; rintro e w5 ⟨rfl, hb5⟩; have hz5 := hb5.size; (try simp [drew_size] at hz5); obtain ⟨hc5, hf5⟩ := bcell hb5))
      all_goals
        obtain ⟨_, _, _, _, e0, e1, hb9⟩ := ‹_ ∧ _ ∧ _ ∧ _ ∧ _ ∧ _ ∧ Below _ _ _›
        have own9 := own_below HOWN.out hb9
        have hz9 : w.heap.size < _ := Nat.lt_of_lt_of_le hzr hb9.size
        have hbw := hbr.trans (hb9.mono hbr.size)
        cases ok
        · go_wp2_with fail
          go_roundw
          case rel =>
            have e : whereAt PL (k + 1) = whereAt PL k := hnext.out
            refine ⟨k + 1, by omega, by go_num, ?_, ?_, ?_, ?_, ?_, ?_⟩
            · rw [e]; exact own9
            · rw [e]; exact hbd
            · exact e0
            · exact e1
            · exact hz9
            · exact hbw
          case measure => simp [RowKit.intOf]; omega
        · go_wp2_with fail
          refine (hext.out _ (w.heap.size + 1) hbd.out (by omega) _ (by exact hz9) own9).mono ?_
          rintro e w7 ⟨v', rfl, own7, hg7, hd7⟩
          have hrow : ∀ r, Value.ownBlock _ = some r → w.heap.size + 1 ≤ r := fun r hr => (own9.lt r hr).1
          have f0 := grown_cell' hg7 hz9 (fun r hr => by have := hrow r hr; omega) e0
          have f1 := grown_cell' hg7 hz9 (fun r hr => by have := hrow r hr; omega) e1
          have hz7 := Nat.lt_of_lt_of_le hz9 hg7.size
          have hb7 := hbw.grown hg7 hbw.size (fun r hr => by have := hrow r hr; omega)
          have hl := extP_length (whereAt PL k) (lo, hi)
          have hbd7 := extP_bd (fun z => -1000000000000000000 ≤ z ∧ z ≤ 1000000000000000000) hbd.out (a := (lo, hi)) ⟨(HUB.out (by simp)).2, (HUB.out (by simp)).1⟩
          have hbd7' := Lib.hid hbd7
          clear hbd7 hg7 hrow e0 e1 hbw hb9 own9 hl
          go_wp2_with fail
          go_roundw
          case rel =>
            have e : whereAt PL (k + 1) = extP (whereAt PL k) (lo, hi) := hnext.out
            refine ⟨k + 1, by omega, by go_num, ?_, ?_, f0, f1, hz7, hb7⟩
            · rw [e]; exact own7
            · rw [e]; exact hbd7'
          case measure => simp [RowKit.intOf]; omega
    · obtain rfl : k = n := by omega
      go_wp2_with fail
      go_ret2
      exact ⟨_, rfl, hown, hbr⟩
end Go.Proofs.YtgklpbgdimkhaaaGreat

