/- Contracts of package barrel: a ledger in memory; numbers of things; what was taken and lost; Left. -/
import Derived.Test.YtloddjjmoaljhaaG0
namespace Go.Proofs.Ytloddjjmoaljhaa
open Go.RowKit Go.Lib Go.Shelf
set_option linter.unusedVariables false
set_option linter.unusedSimpArgs false
attribute [local go_sem ↓] Go.wp_at_zero Go.wp_at_succ

/-- a thing: what was taken for it (from, grams), its mass, and what is left -/
structure Th where
  tk : List (Int × Int)
  m : Int
  l : Int
/-- takes in memory, in no block of N -/
def TkAt (w : World) (v : Value) (tk : List (Int × Int)) (N : Nat → Prop) : Prop :=
  ∃ A c, v = .slice A tk.length c ∧ tk.length ≤ c ∧ (0 < tk.length → ∃ g off, A = some ⟨g, off, none⟩ ∧ g < w.heap.size ∧ ¬ N g ∧ RRd w g off tk)
theorem TkAt.below {w w' : World} {v : Value} {tk : List (Int × Int)} {N : Nat → Prop} (h : TkAt w v tk N) (hb : Below w.heap.size w w') : TkAt w' v tk N := by
  obtain ⟨A, c, rfl, hc, h⟩ := h
  refine ⟨A, c, rfl, hc, fun hn => ?_⟩
  obtain ⟨g, off, rfl, hg, hN, hr⟩ := h hn
  exact ⟨g, off, rfl, Nat.lt_of_lt_of_le hg hb.size, hN, hr.below hb hg⟩
theorem TkAt.row {w : World} {v : Value} {tk : List (Int × Int)} {N : Nat → Prop} (h : TkAt w v tk N) : RowAt w.heap.size w v tk := by
  obtain ⟨A, c, rfl, hc, h⟩ := h
  refine ⟨A, c, rfl, hc, fun hn => ?_⟩
  obtain ⟨g, off, rfl, hg, hN, hr⟩ := h hn
  exact ⟨g, off, rfl, hg, hr⟩
def flatH (hs : List (Value × Th)) : List Value := hs.flatMap fun p => [p.1, .int .i64 p.2.m, .int .i64 p.2.l]
theorem flatH_cons (p : Value × Th) (hs : List (Value × Th)) : flatH (p :: hs) = p.1 :: .int .i64 p.2.m :: .int .i64 p.2.l :: flatH hs := rfl
theorem flatH_append (xs ys : List (Value × Th)) : flatH (xs ++ ys) = flatH xs ++ flatH ys := by simp [flatH]
theorem flatH_length (hs : List (Value × Th)) : (flatH hs).length = hs.length * 3 := by
  induction hs with
  | nil => rfl
  | cons p hs ih => rw [flatH_cons]; simp only [List.length_cons, ih]; omega
theorem flatH_at : ∀ (hs : List (Value × Th)) (k : Nat) (p : Value × Th), hs[k]? = some p → (flatH hs)[k * 3]? = some p.1 ∧ (flatH hs)[k * 3 + 1]? = some (.int .i64 p.2.m) ∧ (flatH hs)[k * 3 + 2]? = some (.int .i64 p.2.l) := by
  intro hs
  induction hs with
  | nil => intro k p h; simp at h
  | cons q hs ih =>
    intro k p h
    rw [flatH_cons]
    rcases k with _ | k
    · simp at h; subst h; exact ⟨rfl, rfl, rfl⟩
    · obtain ⟨h0, h1, h2⟩ := ih k p (by simpa using h)
      rw [show (k + 1) * 3 = k * 3 + 1 + 1 + 1 from by omega]
      exact ⟨by simpa using h0, by simpa using h1, by simpa using h2⟩
/-- a ledger at block b: V its row of things, that the ledger owns -/
structure Lg (B b : Nat) (W : World) (V : Value) (hs : List (Value × Th)) : Prop where
  le : B ≤ b
  lt : b < W.heap.size
  cell : W.cell? ⟨b, 0, none⟩ = some V
  fr : W.frozen? ⟨b, 0, none⟩ = false
  ne : V.ownBlock ≠ some b
  row : W.ownsRow B 89 3 V hs.length (flatH hs)
  tk : ∀ p ∈ hs, TkAt W p.1 p.2.tk (fun g => g = b ∨ V.ownBlock = some g)
theorem Lg.below {B b : Nat} {W W' : World} {V : Value} {hs : List (Value × Th)} (h : Lg B b W V hs) (hb : Below W.heap.size W W') : Lg B b W' V hs :=
  ⟨h.le, Nat.lt_of_lt_of_le h.lt hb.size, cell_next hb h.lt h.cell, frozen_next hb h.lt h.fr, h.ne, own_below h.row hb, fun p hp => (h.tk p hp).below hb⟩
theorem Lg.form {B b : Nat} {W : World} {V : Value} {hs : List (Value × Th)} (h : Lg B b W V hs) : ∃ A c, V = .slice A hs.length c ∧ (0 < hs.length → ∃ g, A = some ⟨g, 0, none⟩ ∧ hs.length ≤ c ∧ B ≤ g ∧ g < W.heap.size ∧ g ≠ b ∧ ∀ j u, (flatH hs)[j]? = some u → W.cell? ⟨g, j, none⟩ = some u ∧ W.frozen? ⟨g, j, none⟩ = false) := by
  have hr := h.row
  rcases h.row.2 with ⟨hV, h0⟩ | ⟨g, cap, cur, hV, hb, hh, hnc, _, _, _⟩
  · exact ⟨none, 0, by rw [hV, h0], fun hn => absurd h0 (by omega)⟩
  · refine ⟨_, cap, hV, fun hn => ⟨g, rfl, hnc, hb, ?_, ?_, ?_⟩⟩
    · rcases Nat.lt_or_ge g W.heap.size with h | h
      · exact h
      · rw [Array.getElem?_eq_none h] at hh; cases hh
    · intro e
      exact h.ne (by rw [hV]; simp [Value.ownBlock, e])
    · intro j u hj
      subst hV
      have := hr.cells (g := g) rfl j u hj
      rw [Addr.add_lit, Nat.zero_add] at this
      exact ⟨this, hr.frozenAt j⟩
/-- thing k's three cells -/
theorem Lg.at {B b : Nat} {W : World} {V : Value} {hs : List (Value × Th)} (h : Lg B b W V hs) {k : Nat} {p : Value × Th} (hp : hs[k]? = some p) : ∃ g c, V = .slice (some ⟨g, 0, none⟩) hs.length c ∧ hs.length ≤ c ∧ B ≤ g ∧ g < W.heap.size ∧ g ≠ b ∧
    W.cell? ⟨g, k * 3, none⟩ = some p.1 ∧ W.cell? ⟨g, k * 3 + 1, none⟩ = some (.int .i64 p.2.m) ∧ W.cell? ⟨g, k * 3 + 2, none⟩ = some (.int .i64 p.2.l) ∧ W.frozen? ⟨g, k * 3 + 2, none⟩ = false := by
  obtain ⟨A, c, hV, hr⟩ := h.form
  have hk := (List.getElem?_eq_some_iff.1 hp).1
  obtain ⟨g, rfl, hc, h1, h2, h3, hcell⟩ := hr (by omega)
  obtain ⟨e0, e1, e2⟩ := flatH_at hs k p hp
  exact ⟨g, c, hV, hc, h1, h2, h3, (hcell _ _ e0).1, (hcell _ _ e1).1, (hcell _ _ e2).1, (hcell _ _ e2).2⟩

set_option maxHeartbeats 1000000 in
theorem lcheck_ok (B b : Nat) (V v : Value) (hs : List (Value × Th)) (items : List Int) (w : World) (hn : hs.length ≤ 1000) (hl : items.length ≤ 1000) (hL : Lg B b w V hs) (hv : NsAt w.heap.size w v items) (hi : insB 0 ((hs.length : Int) - 1) items = true) :
    Calls Try.prog 40 #[.pointer (some ⟨b, 0, none⟩), v] w fun e w' => e = .returned (.int .i64 0) ∧ Below w.heap.size w w' := by
  have c1 := Lib.hid (bin_any 0 ((hs.length : Int) - 1) v items w (by omega) hv)
  rw [hi] at c1
  have hc := hL.cell
  obtain ⟨A, c, rfl, _⟩ := hL.form
  clear hL hv hi
  generalize hs.length = n at *
  have y1 : IntKind.i64.wrap ((n : Int) - 1) = (n : Int) - 1 := IntWalk.i64_in _ (by omega)
  go_enter Try.func40, Try.ntmps40
  go_wp2_with fail
  refine c1.out.mono ?_
  rintro e w1 ⟨rfl, hb⟩
  go_wp2_with fail
  go_ret
  exact ⟨rfl, hb⟩

set_option maxHeartbeats 1000000 in
theorem lroom_ok (B b : Nat) (V : Value) (hs : List (Value × Th)) (w : World) (hn : hs.length < 200) (hL : Lg B b w V hs) :
    Calls Try.prog 34 #[.pointer (some ⟨b, 0, none⟩)] w fun e w' => e = .returned (.int .i64 0) ∧ Below w.heap.size w w' := by
  have c1 := Lib.hid (lcheck_ok B b V (.slice none 0 0) hs [] w (by omega) (by simp) hL ⟨none, 0, rfl, fun h => by simp at h⟩ rfl)
  have hc := hL.cell
  have hlt := hL.lt
  obtain ⟨A, c, rfl, _⟩ := hL.form
  clear hL
  generalize hs.length = n at *
  have t1 : decide ((200 : Int) ≤ (n : Int)) = false := by simp; omega
  go_enter Try.func34, Try.ntmps34
  go_wp2_with fail
  refine c1.out.mono ?_
  rintro e w1 ⟨rfl, hb⟩
  replace hc := cell_next hb hlt hc
  go_wp2_with fail
  go_ret
  exact ⟨rfl, hb⟩

/-- the value of a thing -/
def vTh (p : Value × Th) : Value := .agg #[p.1, .int .i64 p.2.m, .int .i64 p.2.l]
set_option maxHeartbeats 400000 in
theorem bush_any (A : Option Addr) (n c : Nat) (m l : Int) (w : World) :
    Calls Try.prog 43 #[.agg #[.slice A n c, .int .i64 m, .int .i64 l]] w fun e w' => e = .returned (.bool (n == 0)) ∧ Below w.heap.size w w' := by
  by_cases h : n = 0
  · subst h
    go_enter Try.func43, Try.ntmps43
    go_wp2_with fail
    go_ret
    exact ⟨rfl, (Below.refl _ _).alloc (Nat.le_refl _) _⟩
  · have t1 : ((n : Int) == 0) = false := by simpa using h
    rw [show (n == 0) = false from by simpa using h]
    clear h
    go_enter Try.func43, Try.ntmps43
    go_wp2_with fail
    go_ret
    exact ⟨rfl, (Below.refl _ _).alloc (Nat.le_refl _) _⟩

/-- grams that were taken -/
def tkS (tk : List (Int × Int)) : Int := tk.foldl (fun a p => a + p.2) 0
theorem tkS_take {tk : List (Int × Int)} {k : Nat} {p : Int × Int} (h : tk[k]? = some p) : tkS (tk.take (k + 1)) = tkS (tk.take k) + p.2 := by rw [List.take_add_one, h]; simp [tkS, List.foldl_append]
def tkB (tk : List (Int × Int)) : Prop := tk.length ≤ 20 ∧ ∀ p ∈ tk, 0 ≤ p.1 ∧ p.1 ≤ 1000 ∧ 0 ≤ p.2 ∧ p.2 ≤ 1000000000

set_option maxRecDepth 20000 in
set_option maxHeartbeats 2000000 in
theorem taken_ok (v : Value) (tk : List (Int × Int)) (m l : Int) (w : World) (hB : tkB tk) (hv : RowAt w.heap.size w v tk) :
    Calls Try.prog 39 #[.agg #[v, .int .i64 m, .int .i64 l]] w fun e w' => e = .returned (.int .i64 (tkS tk)) ∧ Below w.heap.size w w' := by
  obtain ⟨A, c, rfl, hlc, hr⟩ := hv
  obtain ⟨hl, hb⟩ := hB
  have HX : Hid (∀ (k : Nat) (p : Int × Int), tk[k]? = some p → 0 ≤ p.2 ∧ p.2 ≤ 1000000000) := Lib.hid (fun k p h => (hb p (List.mem_of_getElem? h)).2.2)
  have HT : Hid (∀ (k : Nat) (p : Int × Int), tk[k]? = some p → tkS (tk.take (k + 1)) = tkS (tk.take k) + p.2) := Lib.hid (fun k p h => tkS_take h)
  obtain ⟨n, hn⟩ : ∃ n, tk.length = n := ⟨_, rfl⟩
  rw [hn] at hl hr hlc ⊢
  have Hn := Lib.hid hn
  have HR := Lib.hid hr
  have HS := Lib.hid (rfl : tkS tk = tkS tk)
  clear hr hn hb
  go_enter Try.func39, Try.ntmps39
  go_wp2_with fail
  go_loopw [9, 3] (fun i s wr => ∃ (k : Nat) (S : Int), k ≤ n ∧ i = .int .i64 k ∧ s = .int .i64 S ∧ Hid (S = tkS (tk.take k)) ∧ Hid (0 ≤ S ∧ S ≤ 1000000000 * (k : Int)) ∧ Below w.heap.size w wr) (fun i _ _ => n - (RowKit.intOf i).toNat)
  case atStart => exact ⟨0, 0, Nat.zero_le _, rfl, rfl, Lib.hid rfl, Lib.hid ⟨by omega, by omega⟩, (Below.refl _ _).alloc (Nat.le_refl _) _⟩
  case round =>
    obtain ⟨k, S, hk, rfl, rfl, HS, HD, hbr⟩ := hrel
    by_cases hlt : (k : Int) < (n : Int)
    · obtain ⟨⟨x, y⟩, hp⟩ : ∃ p, tk[k]? = some p := ⟨_, List.getElem?_eq_getElem (by rw [Hn.out]; omega)⟩
      obtain ⟨g, off, rfl, hg, hc⟩ := HR.out (by omega)
      obtain ⟨q0, q1⟩ := (hc.below hbr hg) k _ hp
      obtain ⟨b1, b2⟩ := HX.out k _ hp
      have ht := HT.out k _ hp
      rw [← HS.out] at ht
      obtain ⟨d1, d2⟩ := HD.out
      dsimp only at q0 q1 b1 b2 ht
      have y1 : IntKind.i64.wrap (S + y) = S + y := IntWalk.i64_in _ (by omega)
      have HS' := Lib.hid ht.symm
      have HD' : Hid (0 ≤ S + y ∧ S + y ≤ 1000000000 * ((k + 1 : Nat) : Int)) := Lib.hid ⟨by omega, by omega⟩
      clear hp hc ht b1 b2 d1 d2 HS HD
      go_wp2_with fail
      go_roundw
      case rel => exact ⟨k + 1, S + y, by omega, by go_num, rfl, HS', HD', hbr.alloc hbr.size _⟩
      case measure => simp [RowKit.intOf]; omega
    · obtain rfl : k = n := by omega
      have hfull : tk.take k = tk := List.take_of_length_le (by rw [Hn.out]; exact Nat.le_refl _)
      have E : Hid (S = tkS tk) := Lib.hid (by rw [HS.out, hfull])
      clear hfull HS
      go_wp2_with fail
      go_ret
      exact ⟨ret_int E.out, hbr⟩

/-- grams that were lost -/
def loT (p : Th) : Int := if p.tk.length = 0 then 0 else tkS p.tk - p.m
theorem tkS_bd {tk : List (Int × Int)} (h : tkB tk) : 0 ≤ tkS tk ∧ tkS tk ≤ 20000000000 := by
  have key : ∀ (xs : List (Int × Int)) (a : Int), (∀ p ∈ xs, 0 ≤ p.2 ∧ p.2 ≤ 1000000000) → a ≤ xs.foldl (fun a p => a + p.2) a ∧ xs.foldl (fun a p => a + p.2) a ≤ a + 1000000000 * xs.length := by
    intro xs
    induction xs with
    | nil => intro a _; simp
    | cons p xs ih =>
      intro a hx
      have h1 := hx p (List.mem_cons_self ..)
      have h2 := ih (a + p.2) (fun q hq => hx q (List.mem_cons_of_mem _ hq))
      simp only [List.foldl_cons, List.length_cons]
      omega
  have := key tk 0 (fun p hp => (h.2 p hp).2.2)
  have h1 := h.1
  unfold tkS
  omega
set_option maxRecDepth 20000 in
set_option maxHeartbeats 1000000 in
theorem lost_ok (v : Value) (p : Th) (w : World) (hB : tkB p.tk) (hm : 0 ≤ p.m ∧ p.m ≤ 1000000000) (hv : RowAt w.heap.size w v p.tk) :
    Calls Try.prog 41 #[.agg #[v, .int .i64 p.m, .int .i64 p.l]] w fun e w' => e = .returned (.int .i64 (loT p)) ∧ Below w.heap.size w w' := by
  obtain ⟨b1, b2⟩ := tkS_bd hB
  obtain ⟨tk, m, l⟩ := p
  dsimp only at hB hm hv b1 b2 ⊢
  have CT : Hid (∀ W, Below w.heap.size w W → Calls Try.prog 39 #[.agg #[v, .int .i64 m, .int .i64 l]] W fun e w' => e = .returned (.int .i64 (tkS tk)) ∧ Below W.heap.size W w') := Lib.hid (fun W h => taken_ok v tk m l W hB ((hv.below h (Nat.le_refl _)).mono h.size))
  obtain ⟨A, c, rfl, _, _⟩ := hv
  have CB := Lib.hid (bush_any A tk.length c m l)
  have y1 : IntKind.i64.wrap (tkS tk - m) = tkS tk - m := IntWalk.i64_in _ (by omega)
  have hE : Hid (loT ⟨tk, m, l⟩ = if tk.length = 0 then 0 else tkS tk - m) := Lib.hid rfl
  generalize loT ⟨tk, m, l⟩ = r at *
  generalize tkS tk = S at *
  generalize tk.length = n at *
  clear hB hm b1 b2
  by_cases h0 : n = 0
  · subst h0
    obtain rfl : r = 0 := hE.out.trans (if_pos rfl)
    go_enter Try.func41, Try.ntmps41
    go_wp2_with fail
    refine (CB.out _).mono ?_
    rintro e w1 ⟨rfl, hb⟩
    have hB := below1 hb
    go_wp2_with fail
    go_ret
    exact ⟨rfl, hB⟩
  · obtain rfl : r = S - m := hE.out.trans (if_neg h0)
    rw [show (n == 0) = false from by simpa using h0] at CB
    clear h0
    go_enter Try.func41, Try.ntmps41
    go_wp2_with fail
    refine (CB.out _).mono ?_
    rintro e w1 ⟨rfl, hb⟩
    have B0 := cell_next hb (b := w.heap.size) (o := 0) (by simp <;> omega) (v := some (.slice A n c)) (by simp [go_sem])
    have B1 := cell_next hb (b := w.heap.size) (o := 1) (by simp <;> omega) (v := some (.int .i64 m)) (by simp [go_sem])
    have B2 := cell_next hb (b := w.heap.size) (o := 2) (by simp <;> omega) (v := some (.int .i64 l)) (by simp [go_sem])
    have nB : w.heap.size < w1.heap.size := by have := hb.size; simp at this; omega
    have hB := below1 hb
    clear hb
    go_wp2_with fail
    have hBW := hB.size
    refine wp_region_held_drew (S := fun w' => w'.cell? ⟨w.heap.size, 0, none⟩ = some (.slice A n c) ∧ w'.cell? ⟨w.heap.size, 1, none⟩ = some (.int .i64 m) ∧ w'.cell? ⟨w.heap.size, 2, none⟩ = some (.int .i64 l) ∧ True) (by kernel_rfl) ?_ (fun hHeld => ?_)
    focus (exact ⟨B0, B1, B2, trivial⟩)
    have hL : Below w.heap.size w1 w1.drew := Below.drew (Below.refl _ _)
    replace B0 : w1.drew.cell? ⟨w.heap.size, 0, none⟩ = some (.slice A n c) := B0
    replace B1 : w1.drew.cell? ⟨w.heap.size, 1, none⟩ = some (.int .i64 m) := B1
    replace B2 : w1.drew.cell? ⟨w.heap.size, 2, none⟩ = some (.int .i64 l) := B2
    replace nB : w.heap.size < w1.drew.heap.size := nB
    generalize hWd : w1.drew = wd at hHeld hL B0 B1 B2 nB  ⊢
    clear hWd
    refine take_slot (i := 0) (d := 5) (v := ?_) rfl rfl (by kernel_rfl) (by kernel_rfl) (by kernel_rfl) (fun _ _ _ h => h) (Or.inl ⟨by rfl, ?_⟩) (by assumption) ?_
    rotate_left 1
    focus (intro wS hSw; (try dsimp only at hSw); go_simp; try with_reducible rfl)
    try simp only [List.setIfInBounds_toArray, List.set_cons_zero, List.set_cons_succ]
    refine take_slot (i := 2) (d := 7) (v := ?_) rfl rfl (by kernel_rfl) (by kernel_rfl) (by kernel_rfl) (fun _ _ _ h => h) (Or.inl ⟨by rfl, ?_⟩) (by assumption) ?_
    rotate_left 1
    focus (intro wS hSw; (try dsimp only at hSw); go_simp; try with_reducible rfl)
    try simp only [List.setIfInBounds_toArray, List.set_cons_zero, List.set_cons_succ]
    refine take_slot (i := 3) (d := 8) (v := ?_) rfl rfl (by kernel_rfl) (by kernel_rfl) (by kernel_rfl) (fun _ _ _ h => h) (Or.inl ⟨by rfl, ?_⟩) (by assumption) ?_
    rotate_left 1
    focus (intro wS hSw; (try dsimp only at hSw); go_simp; try with_reducible rfl)
    try simp only [List.setIfInBounds_toArray, List.set_cons_zero, List.set_cons_succ]
    refine wpAnyH_ready (rs := [1]) (by kernel_rfl) (by simp) ?_
    refine AllReadyH.cons rfl (fun K hK => ?_) AllReadyH.nil
    go_simp
    refine (CT.out _ (hB.trans hL)).mono ?_
    rintro e Z1 ⟨rfl, hb⟩
    replace B0 := cell_next hb nB B0
    replace B1 := cell_next hb nB B1
    replace B2 := cell_next hb nB B2
    replace nB := Nat.lt_of_lt_of_le nB hb.size
    replace hL := hL.trans (hb.mono (Nat.le_trans hBW hL.size))
    refine hK.out _ _ ⟨B0, B1, B2, trivial⟩ (fun hHeld => ?_)
    clear hK K hb
    try simp only [Act.put, List.setIfInBounds_toArray, List.set_cons_zero, List.set_cons_succ]
    refine take_slot (i := 4) (d := 9) (v := ?_) rfl rfl (by kernel_rfl) (by kernel_rfl) (by kernel_rfl) (fun _ _ _ h => h) (Or.inl ⟨by rfl, ?_⟩) (by assumption) ?_
    rotate_left 1
    focus (intro wS hSw; (try dsimp only at hSw); go_simp; try with_reducible rfl)
    try simp only [List.setIfInBounds_toArray, List.set_cons_zero, List.set_cons_succ]
    refine take_slot (i := 5) (d := 2) (v := ?_) rfl rfl (by kernel_rfl) (by kernel_rfl) (by kernel_rfl) (fun _ _ _ h => h) (Or.inl ⟨by rfl, ?_⟩) (by assumption) ?_
    rotate_left 1
    focus (intro wS hSw; (try dsimp only at hSw); go_simp; try with_reducible rfl)
    try simp only [List.setIfInBounds_toArray, List.set_cons_zero, List.set_cons_succ]
    refine wpAnyH_done (by kernel_rfl) ?_ _
    replace hB := hB.trans hL
    clear hHeld hL hBW
    go_wp2_with fail
    go_ret
    exact ⟨rfl, hB⟩

end Go.Proofs.Ytloddjjmoaljhaa
