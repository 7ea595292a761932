/- Contracts: U21, joined. -/
import Derived.Test.YtfdaiififoomoaaJB18
namespace Go.Proofs.Ytfdaiififoomoaa
open Go.RowKit Go.Lib Go.Shelf
set_option linter.unusedVariables false
set_option linter.unusedSimpArgs false
attribute [local go_sem ↓] Go.wp_at_zero Go.wp_at_succ

def growL (h gl gh : Int) (l : Lo) : Lo := { l with lo := min 1000000 (l.lo + h * gl), hi := min 1000000 (l.hi + h * gh) }
theorem flatL_cons (l : Lo) (xs : List Lo) : flatL (l :: xs) = cellsL l ++ flatL xs := by simp [flatL]
theorem flatL_set : ∀ (xs : List Lo) (j : Nat) (l : Lo) (x y : Int), xs[j]? = some l → ((flatL xs).set (j * 5 + 2) (.int .i64 x)).set (j * 5 + 3) (.int .i64 y) = flatL (xs.set j { l with lo := x, hi := y })
  | [], j, l, x, y, h => by simp at h
  | p :: xs, 0, l, x, y, h => by
    simp at h
    subst h
    simp [flatL_cons, cellsL]
  | p :: xs, j + 1, l, x, y, h => by
    have ih := flatL_set xs j l x y (by simpa using h)
    rw [List.set_cons_succ, flatL_cons, flatL_cons, ← ih]
    have hc : (cellsL p).length = 5 := rfl
    rw [List.set_append_right _ _ (by omega), List.set_append_right _ _ (by omega), hc, show (j + 1) * 5 + 2 - 5 = j * 5 + 2 from by omega, show (j + 1) * 5 + 3 - 5 = j * 5 + 3 from by omega]
theorem OwnL.setLoad {base g cc : Nat} {W : World} {xs : List Lo} (h : OwnL base W (.slice (some ⟨g, 0, none⟩) xs.length cc) xs) (j : Nat) (l : Lo) (x y : Int) (hj : xs[j]? = some l) :
    OwnL base ((W.setCell ⟨g, j * 5 + 2, none⟩ (.int .i64 x)).setCell ⟨g, j * 5 + 3, none⟩ (.int .i64 y)) (.slice (some ⟨g, 0, none⟩) xs.length cc) (xs.set j { l with lo := x, hi := y }) := by
  have h1 := (World.ownsRow.stored h (j * 5 + 2) (.int .i64 x)).1
  have h2 := (World.ownsRow.stored h1 (j * 5 + 3) (.int .i64 y)).1
  unfold OwnL
  rw [flatL_set xs j l x y hj] at h2
  rw [List.length_set]
  exact h2
theorem VesAt.film {W : World} {b : Nat} {sz fl fh : Int} {v : Value} (h : VesAt W b sz fl fh v) (x y : Int) : VesAt ((W.setCell ⟨b, 1, none⟩ (.int .i64 x)).setCell ⟨b, 2, none⟩ (.int .i64 y)) b sz x y v := by
  obtain ⟨n, c0, c1, c2, c3, f1, f2, f3⟩ := h
  exact ⟨by simpa [World.setCell] using n, by simp [go_sem, c0], by simp [go_sem, c1], by simp [go_sem, c2], by simp [go_sem, c3], by simp [go_sem, f1], by simp [go_sem, f2], by simp [go_sem, f3]⟩
theorem CelAt.later {W : World} {c tk : Nat} {vb : Nat → Nat} {C : Cel} (h : CelAt W c tk vb C) (hne : tk ≠ c) (x : Int) : CelAt (W.setCell ⟨c, 5, none⟩ (.int .i64 x)) c tk vb { C with T := x } := by
  obtain ⟨nc, nt, c0, c1, c2, c3, c4, c5, c6, c7, c8, c9, c10, c11, fr, tp⟩ := h
  refine ⟨by simpa [World.setCell] using nc, by simpa [World.setCell] using nt, ?_, ?_, ?_, ?_, ?_, ?_, ?_, ?_, ?_, ?_, ?_, ?_, fun o => ?_, fun i hi => ?_⟩
  all_goals first | (simp [go_sem, *]; done) | (simp [go_sem, fr]; done) | exact (World.cell?_setCell_other _ _ _ _ (by intro e; injection e with e1 e2; omega)).trans (tp i hi)
/-- what a cellar's tanks are: their blocks are apart -/
structure Tanks (base n : Nat) (vb : Nat → Nat) (vs : Nat → Value) (c tk : Nat) : Prop where
  lt : ∀ i, i < n → vb i < base
  ne : ∀ i j, i < n → j < n → vb i = vb j → i = j
  nc : ∀ i, i < n → vb i ≠ c
  nt : ∀ i, i < n → vb i ≠ tk
  ow : ∀ i j, i < n → j < n → i ≠ j → ∀ g, (vs i).ownBlock = some g → (vs j).ownBlock ≠ some g
def InU (n c : Nat) (vb : Nat → Nat) (vs : Nat → Value) (i : Nat) : Prop := i = c ∨ ∃ k, k < n ∧ (i = vb k ∨ (vs k).ownBlock = some i)
def TankAt (base : Nat) (W : World) (b : Nat) (sz fl fh : Int) (v : Value) (xs : List Lo) : Prop := VesAt W b sz fl fh v ∧ OwnL base W v xs
theorem TankAt.kept {base : Nat} {U : Nat → Prop} {W W' : World} {b : Nat} {sz fl fh : Int} {v : Value} {xs : List Lo} (h : TankAt base W b sz fl fh v xs) (hk : Kept U W W') (h1 : ¬ U b) (h2 : ∀ g, v.ownBlock = some g → ¬ U g) : TankAt base W' b sz fl fh v xs := ⟨h.1.kept hk h1, h.2.kept hk h2⟩
theorem TankAt.below {base : Nat} {W W' : World} {b : Nat} {sz fl fh : Int} {v : Value} {xs : List Lo} (h : TankAt base W b sz fl fh v xs) (hb : Below W.heap.size W W') : TankAt base W' b sz fl fh v xs := h.kept (Kept.of_below' hb fun _ => False) (fun h => h) (fun _ _ h => h)
def ldB (l : Lo) : Prop := (0 ≤ l.lo ∧ l.lo ≤ 1000000) ∧ 0 ≤ l.hi ∧ l.hi ≤ 1000000

theorem OwnL.setLoad' {base g cc n : Nat} {W : World} {xs : List Lo} (hn : xs.length = n) (h : OwnL base W (.slice (some ⟨g, 0, none⟩) n cc) xs) (j : Nat) (l : Lo) (x y : Int) (hj : xs[j]? = some l) :
    OwnL base ((W.setCell ⟨g, j * 5 + 2, none⟩ (.int .i64 x)).setCell ⟨g, j * 5 + 3, none⟩ (.int .i64 y)) (.slice (some ⟨g, 0, none⟩) n cc) (xs.set j { l with lo := x, hi := y }) := by
  subst hn
  exact h.setLoad j l x y hj
theorem OwnL.at {base m cc : Nat} {A : Option Addr} {W : World} {ys : List Lo} (h : OwnL base W (.slice A m cc) ys) (j : Nat) (l : Lo) (hj : ys[j]? = some l) :
    ∃ g, A = some ⟨g, 0, none⟩ ∧ base ≤ g ∧ g < W.heap.size ∧ W.cell? ⟨g, j * 5 + 2, none⟩ = some (.int .i64 l.lo) ∧ W.cell? ⟨g, j * 5 + 3, none⟩ = some (.int .i64 l.hi) ∧ W.frozen? ⟨g, j * 5 + 2, none⟩ = false ∧ W.frozen? ⟨g, j * 5 + 3, none⟩ = false := by
  have hl : j < ys.length := (List.getElem?_eq_some_iff.1 hj).1
  obtain ⟨A', c', e', hr⟩ := h.read
  obtain ⟨g', off, e2, hg', hR⟩ := hr (by omega)
  have hh := h.2
  rcases hh with ⟨e, h0⟩ | ⟨g, cap, cur, e, hb, hg, _⟩
  · omega
  · injection e with e1 e3 e4
    injection e' with e5 e6 e7
    subst e2
    subst e1
    injection e5 with e8
    injection e8 with e9 e10 e11
    subst e9
    subst e10
    obtain ⟨_, _, r2, r3, _⟩ := hR j l hj
    refine ⟨g, rfl, hb, hg', by simpa using r2, by simpa using r3, ?_, ?_⟩
    all_goals simp [World.frozen?, hg]
theorem grow_step (f : Lo → Lo) (xs : List Lo) (j : Nat) (l : Lo) (h : xs[j]? = some l) : ((xs.take j).map f ++ xs.drop j)[j]? = some l ∧ ((xs.take j).map f ++ xs.drop j).set j (f l) = (xs.take (j + 1)).map f ++ xs.drop (j + 1) := by
  have hl : j < xs.length := (List.getElem?_eq_some_iff.1 h).1
  have hd : xs.drop j = l :: xs.drop (j + 1) := by
    rw [List.drop_eq_getElem_cons hl]
    rw [List.getElem?_eq_getElem hl] at h
    injection h with h
    rw [h]
  have hlen : ((xs.take j).map f).length = j := by simp; omega
  rw [hd]
  refine ⟨by rw [List.getElem?_append_right (by omega), hlen]; simp, ?_⟩
  rw [List.set_append_right _ _ (by omega), hlen, Nat.sub_self, List.set_cons_zero, List.take_add_one, h, List.map_append, List.append_assoc]
  rfl
theorem grow_len (f : Lo → Lo) (xs : List Lo) (j : Nat) : ((xs.take j).map f ++ xs.drop j).length = xs.length := by
  simp
  omega
def filmT (k i : Nat) (f p : Int) : Int := if i < k then min 1000000 (f + p) else f
def lotsT (f : Lo → Lo) (k i : Nat) (xs : List Lo) : List Lo := if i < k then xs.map f else xs
theorem tanks_step {base n c tk k : Nat} {vb : Nat → Nat} {vs : Nat → Value} (hT : Tanks base n vb vs c tk) (hOb : ∀ i, i < n → ∀ g, (vs i).ownBlock = some g → base ≤ g) {W W' : World} (hK : Kept (fun i => i = vb k ∨ (vs k).ownBlock = some i) W W') (sz f1 f2 : Nat → Int) (xs : Nat → List Lo) (p1 p2 : Int) (f : Lo → Lo)
    (h : ∀ i, i < n → TankAt base W (vb i) (sz i) (filmT k i (f1 i) p1) (filmT k i (f2 i) p2) (vs i) (lotsT f k i (xs i))) (hk : k < n) (hn : TankAt base W' (vb k) (sz k) (min 1000000 (f1 k + p1)) (min 1000000 (f2 k + p2)) (vs k) ((xs k).map f)) :
    ∀ i, i < n → TankAt base W' (vb i) (sz i) (filmT (k + 1) i (f1 i) p1) (filmT (k + 1) i (f2 i) p2) (vs i) (lotsT f (k + 1) i (xs i)) := by
  intro i hi
  by_cases hik : i = k
  · subst hik
    simpa [filmT, lotsT] using hn
  · have e : (i < k + 1) ↔ (i < k) := by omega
    have := h i hi
    unfold filmT lotsT at this ⊢
    simp only [e]
    refine this.kept hK ?_ ?_
    · intro hu
      rcases hu with hu | hu
      · exact hik (hT.ne i k hi hk hu)
      · have := hOb k hk _ hu
        have := hT.lt i hi
        omega
    · intro g hg hu
      rcases hu with hu | hu
      · have := hOb i hi g hg
        have := hT.lt k hk
        omega
      · exact hT.ow i k hi hk hik g hg hu

def StayP (B base c tk : Nat) (vb : Nat → Nat) (C : Cel) (vs : Nat → Value) (sz fl fh : Nat → Int) (xs : Nat → List Lo) (h gl gh : Int) (w : World) (e : Ending) (w' : World) : Prop :=
  e = .returned (.int .i64 0) ∧ CelAt w' c tk vb { C with T := C.T + h } ∧ (∀ i, i < C.n → TankAt base w' (vb i) (sz i) (min 1000000 (fl i + h * C.fl)) (min 1000000 (fh i + h * C.fh)) (vs i) ((xs i).map (growL h gl gh))) ∧ Below B w w' ∧ Kept (InU C.n c vb vs) w w'

set_option maxRecDepth 20000 in
set_option maxHeartbeats 2000000 in
theorem stay_ok (B base c tk : Nat) (vb : Nat → Nat) (C : Cel) (vs : Nat → Value) (sz fl fh : Nat → Int) (xs : Nat → List Lo) (h tl th gl gh : Int) (w : World) (hn : C.n ≤ 1000) (hBc : B ≤ c) (hBb : B ≤ base) (hBv : ∀ i, i < C.n → B ≤ vb i) (hcb : c < base) (htb : tk < base) (hbase : base ≤ w.heap.size) (htc : tk ≠ c)
    (hTk : Tanks base C.n vb vs c tk) (hC : CelAt w c tk vb C) (hV : ∀ i, i < C.n → TankAt base w (vb i) (sz i) (fl i) (fh i) (vs i) (xs i)) (hx : ∀ i, i < C.n → (xs i).length ≤ 40 ∧ ∀ x ∈ xs i, ldB x)
    (hf : ∀ i, i < C.n → (0 ≤ fl i ∧ fl i ≤ 1000000) ∧ 0 ≤ fh i ∧ fh i ≤ 1000000) (hrf : (0 ≤ C.fl ∧ C.fl ≤ 1000000) ∧ 0 ≤ C.fh ∧ C.fh ≤ 1000000) (hT : 0 ≤ C.T ∧ C.T ≤ 1000000) (hh : 0 ≤ h ∧ h ≤ 1000000 - C.T) (hg : (0 ≤ gl ∧ gl ≤ 1000000000) ∧ 0 ≤ gh ∧ gh ≤ 1000000000)
    (hVal : ∀ W, Below w.heap.size w W → Calls Try.prog 34 #[C.gv, .agg #[.int .i64 tl, .int .i64 th]] W fun e w' => e = .returned (.tuple #[.agg #[.int .i64 gl, .int .i64 gh], .int .i64 0]) ∧ Below W.heap.size W w') :
    Calls Try.prog 12 #[.pointer (some ⟨c, 0, none⟩), .int .i64 h, .agg #[.int .i64 tl, .int .i64 th]] w (StayP B base c tk vb C vs sz fl fh xs h gl gh w) := by
  have CC := Lib.hid (fun (W : World) (h : CelAt W c tk vb C) => check_ok c tk vb C (.slice none 0 0) [] W h hn ⟨none, 0, rfl, fun h => by simp at h⟩ (by simp) (by intro x hx; cases hx))
  have CI := Lib.hid (fun (W : World) (g cp : Nat) => in1v_any 0 (1000000 - C.T) h g cp W)
  rw [show inB 0 (1000000 - C.T) h = true from by simp [inB]; omega] at CI
  have CV := Lib.hid hVal
  have CF := Lib.hid (fun i (hi : i < C.n) => grown_any (fl i) (fh i) C.fl C.fh h (hf i hi).1 (hf i hi).2 ⟨hrf.1.1, by have := hrf.1.2; omega⟩ ⟨hrf.2.1, by have := hrf.2.2; omega⟩ (by omega))
  have CL := Lib.hid (fun (l : Lo) (hl : ldB l) => grown_any l.lo l.hi gl gh h hl.1 hl.2 hg.1 hg.2 (by omega))
  have HX := Lib.hid hx
  have HC := Lib.hid hC
  have HV := Lib.hid hV
  have w5 : IntKind.i64.wrap (C.T + h) = C.T + h := IntWalk.i64_in _ (by omega)
  have w6 : IntKind.i64.wrap (1000000 - C.T) = 1000000 - C.T := IntWalk.i64_in _ (by omega)
  have HOb : Hid (∀ i, i < C.n → ∀ g, (vs i).ownBlock = some g → base ≤ g ∧ g < w.heap.size) := Lib.hid (fun i hi => World.ownsRow.lt (hV i hi).2)
  clear hx hC hV hf hrf hT hh hg hVal
  have c5 := HC.out.c5
  go_enter Try.func12, Try.ntmps12
  go_wp2_with fail
  refine (CC.out _ (HC.out.below ((Below.refl _ _).alloc (Nat.le_refl _) _))).mono ?_
  rintro e w1 ⟨rfl, hb⟩
  have b0 := cell_next hb (b := w.heap.size) (o := 0) (by simp <;> omega) (v := some (.int .i64 tl)) (by simp [go_sem])
  have b1 := cell_next hb (b := w.heap.size) (o := 1) (by simp <;> omega) (v := some (.int .i64 th)) (by simp [go_sem])
  have nb : w.heap.size < w1.heap.size := by have := hb.size; simp at this; omega
  have hB := below1 hb
  replace HC := Lib.hid (HC.out.below hB)
  replace c5 := HC.out.c5
  clear hb CC
  go_wp2_with fail
  refine (CI.out _ _ _ (by simp) (by simp [go_sem])).mono ?_
  rintro e w2 ⟨rfl, hb⟩
  have hb' := below1 hb
  replace b0 := cell_next hb' nb b0
  replace b1 := cell_next hb' nb b1
  replace nb := Nat.lt_of_lt_of_le nb hb'.size
  replace hB := hB.trans (hb'.mono hB.size)
  replace HC := Lib.hid (HC.out.below hb')
  have c0 := HC.out.c0
  have nc := HC.out.nc
  clear hb hb' CI c5
  have hBW := Nat.le_refl w2.heap.size
  go_upto_region 6 with fail
  apply suff1 (R := fun g8 W => g8 < W.heap.size ∧ W.cell? ⟨g8, 0, none⟩ = some (.int .i64 gl) ∧ W.cell? ⟨g8, 1, none⟩ = some (.int .i64 gh) ∧ w2.heap.size ≤ g8 ∧ Below w2.heap.size w2 W)
  case main =>
    intro key
    refine wp_region_held_drew (S := fun w' => w'.cell? ⟨w.heap.size, 0, none⟩ = some (.int .i64 tl) ∧ w'.cell? ⟨w.heap.size, 1, none⟩ = some (.int .i64 th) ∧ w'.cell? ⟨c, 0, none⟩ = some (C.gv) ∧ True) (by kernel_rfl) ?_ (fun hHeld => ?_)
    focus (exact ⟨b0, b1, c0, trivial⟩)
    have hL : Below w2.heap.size w2 w2.drew := Below.drew (Below.refl _ _)
    replace b0 : w2.drew.cell? ⟨w.heap.size, 0, none⟩ = some (.int .i64 tl) := b0
    replace b1 : w2.drew.cell? ⟨w.heap.size, 1, none⟩ = some (.int .i64 th) := b1
    replace c0 : w2.drew.cell? ⟨c, 0, none⟩ = some (C.gv) := c0
    replace nb : w.heap.size < w2.drew.heap.size := nb
    replace nc : c < w2.drew.heap.size := nc
    generalize hWd : w2.drew = wd at hHeld hL b0 b1 c0 nb nc  ⊢
    clear hWd
    refine take_slot (i := 0) (d := 28) (v := ?_) rfl rfl (by kernel_rfl) (by kernel_rfl) (by kernel_rfl) (fun _ _ _ h => h) (Or.inl ⟨by rfl, ?_⟩) (by assumption) ?_
    rotate_left 1
    focus (intro wS hSw; (try dsimp only at hSw); go_simp; try with_reducible rfl)
    try simp only [List.setIfInBounds_toArray, List.set_cons_zero, List.set_cons_succ]
    refine take_slot (i := 1) (d := 29) (v := ?_) rfl rfl (by kernel_rfl) (by kernel_rfl) (by kernel_rfl) (fun _ _ _ h => h) (Or.inl ⟨by rfl, ?_⟩) (by assumption) ?_
    rotate_left 1
    focus (intro wS hSw; (try dsimp only at hSw); go_simp; try with_reducible rfl)
    try simp only [List.setIfInBounds_toArray, List.set_cons_zero, List.set_cons_succ]
    refine take_slot (i := 2) (d := 30) (v := ?_) rfl rfl (by kernel_rfl) (by kernel_rfl) (by kernel_rfl) (fun _ _ _ h => h) (Or.inl ⟨by rfl, ?_⟩) (by assumption) ?_
    rotate_left 1
    focus (intro wS hSw; (try dsimp only at hSw); go_simp; try with_reducible rfl)
    try simp only [List.setIfInBounds_toArray, List.set_cons_zero, List.set_cons_succ]
    refine take_slot (i := 3) (d := 31) (v := ?_) rfl rfl (by kernel_rfl) (by kernel_rfl) (by kernel_rfl) (fun _ _ _ h => h) (Or.inl ⟨by rfl, ?_⟩) (by assumption) ?_
    rotate_left 1
    focus (intro wS hSw; (try dsimp only at hSw); go_simp; try with_reducible rfl)
    try simp only [List.setIfInBounds_toArray, List.set_cons_zero, List.set_cons_succ]
    refine take_slot (i := 4) (d := 32) (v := ?_) rfl rfl (by kernel_rfl) (by kernel_rfl) (by kernel_rfl) (fun _ _ _ h => h) (Or.inl ⟨by rfl, ?_⟩) (by assumption) ?_
    rotate_left 1
    focus (intro wS hSw; (try dsimp only at hSw); go_simp; try with_reducible rfl)
    try simp only [List.setIfInBounds_toArray, List.set_cons_zero, List.set_cons_succ]
    refine take_slot (i := 5) (d := 33) (v := ?_) rfl rfl (by kernel_rfl) (by kernel_rfl) (by kernel_rfl) (fun _ _ _ h => h) (Or.inl ⟨by rfl, ?_⟩) (by assumption) ?_
    rotate_left 1
    focus (intro wS hSw; (try dsimp only at hSw); go_simp; try with_reducible rfl)
    try simp only [List.setIfInBounds_toArray, List.set_cons_zero, List.set_cons_succ]
    refine wpAnyH_ready (rs := [6, 10]) (by kernel_rfl) (by simp) ?_
    refine AllReadyH.cons rfl (fun K hK => ?_) (AllReadyH.cons rfl (fun K hK => ?_) AllReadyH.nil)
    · go_simp
      refine (CV.out _ (hB.trans (hL.mono hB.size))).mono ?_
      rintro e Z1 ⟨rfl, hb⟩
      replace b0 := cell_next hb nb b0
      replace b1 := cell_next hb nb b1
      replace c0 := cell_next hb nc c0
      replace nb := Nat.lt_of_lt_of_le nb hb.size
      replace nc := Nat.lt_of_lt_of_le nc hb.size
      replace hL := hL.trans (hb.mono (Nat.le_trans hBW hL.size))
      refine hK.out _ _ ⟨b0, b1, c0, trivial⟩ (fun hHeld => ?_)
      clear hK K hb
      try simp only [Act.put, List.setIfInBounds_toArray, List.set_cons_zero, List.set_cons_succ]
      refine take_slot (i := 7) (d := 27) (v := ?_) rfl rfl (by kernel_rfl) (by kernel_rfl) (by kernel_rfl) (fun _ _ _ h => h) (Or.inl ⟨by rfl, ?_⟩) (by assumption) ?_
      rotate_left 1
      focus (intro wS hSw; (try dsimp only at hSw); go_simp; try with_reducible rfl)
      try simp only [List.setIfInBounds_toArray, List.set_cons_zero, List.set_cons_succ]
      refine take_slot (i := 8) (d := 35) (v := ?_) rfl rfl (by kernel_rfl) (by kernel_rfl) (by kernel_rfl) (fun _ _ _ h => h) (Or.inl ⟨by rfl, ?_⟩) (by assumption) ?_
      rotate_left 1
      focus (intro wS hSw; (try dsimp only at hSw); go_simp; try with_reducible rfl)
      try simp only [List.setIfInBounds_toArray, List.set_cons_zero, List.set_cons_succ]
      refine take_slot (i := 9) (d := 36) (v := ?_) rfl rfl (by kernel_rfl) (by kernel_rfl) (by kernel_rfl) (fun _ _ _ h => h) (Or.inl ⟨by rfl, ?_⟩) (by assumption) ?_
      rotate_left 1
      focus (intro wS hSw; (try dsimp only at hSw); go_simp; try with_reducible rfl)
      try simp only [List.setIfInBounds_toArray, List.set_cons_zero, List.set_cons_succ]
      refine wpAnyH_ready (rs := [10]) (by kernel_rfl) (by simp) ?_
      refine AllReadyH.cons rfl (fun K hK => ?_) AllReadyH.nil
      go_simp
      have hb := (Below.refl Z1.heap.size Z1).alloc (Nat.le_refl _) (Obj.cells #[.int .i64 0, .int .i64 0] 31)
      have szZ2 := hL.size
      have ord2nb := nb
      have ord2nc := nc
      replace b0 := cell_next hb nb b0
      replace b1 := cell_next hb nb b1
      replace c0 := cell_next hb nc c0
      replace nb := Nat.lt_of_lt_of_le nb hb.size
      replace nc := Nat.lt_of_lt_of_le nc hb.size
      replace hL := hL.trans (hb.mono (Nat.le_trans hBW hL.size))
      have Gf0 : (Z1.alloc (Obj.cells #[.int .i64 0, .int .i64 0] 31)).frozen? ⟨Z1.heap.size, 0, none⟩ = false := by simp [go_sem]
      have Gf1 : (Z1.alloc (Obj.cells #[.int .i64 0, .int .i64 0] 31)).frozen? ⟨Z1.heap.size, 1, none⟩ = false := by simp [go_sem]
      have G0 : (Z1.alloc (Obj.cells #[.int .i64 0, .int .i64 0] 31)).cell? ⟨Z1.heap.size, 0, none⟩ = some (.int .i64 0) := cell_new _ _ _ 0
      have G1 : (Z1.alloc (Obj.cells #[.int .i64 0, .int .i64 0] 31)).cell? ⟨Z1.heap.size, 1, none⟩ = some (.int .i64 0) := cell_new _ _ _ 1
      have nG : Z1.heap.size < (Z1.alloc (Obj.cells #[.int .i64 0, .int .i64 0] 31)).heap.size := by simp
      refine hK.out _ _ ⟨b0, b1, c0, trivial⟩ (fun hHeld => ?_)
      clear hK K hb
      generalize Z1.alloc (Obj.cells #[.int .i64 0, .int .i64 0] 31) = Z2 at *
      try simp only [Act.put, List.setIfInBounds_toArray, List.set_cons_zero, List.set_cons_succ]
      refine wpAnyH_ready (rs := [11]) (by kernel_rfl) (by simp) ?_
      refine AllReadyH.cons rfl (fun K hK => ?_) AllReadyH.nil
      go_simp
      replace b0 : ((Z2.setCell ⟨Z1.heap.size, 0, none⟩ (.int .i64 gl)).setCell ⟨Z1.heap.size, 1, none⟩ (.int .i64 gh)).cell? ⟨w.heap.size, 0, none⟩ = some (.int .i64 tl) := ((World.cell?_setCell_other _ _ _ _ (by intro e; injection e with e1 e2; omega)).trans ((World.cell?_setCell_other _ _ _ _ (by intro e; injection e with e1 e2; omega)).trans b0))
      replace b1 : ((Z2.setCell ⟨Z1.heap.size, 0, none⟩ (.int .i64 gl)).setCell ⟨Z1.heap.size, 1, none⟩ (.int .i64 gh)).cell? ⟨w.heap.size, 1, none⟩ = some (.int .i64 th) := ((World.cell?_setCell_other _ _ _ _ (by intro e; injection e with e1 e2; omega)).trans ((World.cell?_setCell_other _ _ _ _ (by intro e; injection e with e1 e2; omega)).trans b1))
      replace c0 : ((Z2.setCell ⟨Z1.heap.size, 0, none⟩ (.int .i64 gl)).setCell ⟨Z1.heap.size, 1, none⟩ (.int .i64 gh)).cell? ⟨c, 0, none⟩ = some (C.gv) := ((World.cell?_setCell_other _ _ _ _ (by intro e; injection e with e1 e2; omega)).trans ((World.cell?_setCell_other _ _ _ _ (by intro e; injection e with e1 e2; omega)).trans c0))
      replace Gf0 : ((Z2.setCell ⟨Z1.heap.size, 0, none⟩ (.int .i64 gl)).setCell ⟨Z1.heap.size, 1, none⟩ (.int .i64 gh)).frozen? ⟨Z1.heap.size, 0, none⟩ = false := by simp [go_sem, Gf0]
      replace Gf1 : ((Z2.setCell ⟨Z1.heap.size, 0, none⟩ (.int .i64 gl)).setCell ⟨Z1.heap.size, 1, none⟩ (.int .i64 gh)).frozen? ⟨Z1.heap.size, 1, none⟩ = false := by simp [go_sem, Gf1]
      replace G0 : ((Z2.setCell ⟨Z1.heap.size, 0, none⟩ (.int .i64 gl)).setCell ⟨Z1.heap.size, 1, none⟩ (.int .i64 gh)).cell? ⟨Z1.heap.size, 0, none⟩ = some (.int .i64 gl) := by simp [go_sem, G0]
      replace G1 : ((Z2.setCell ⟨Z1.heap.size, 0, none⟩ (.int .i64 gl)).setCell ⟨Z1.heap.size, 1, none⟩ (.int .i64 gh)).cell? ⟨Z1.heap.size, 1, none⟩ = some (.int .i64 gh) := by simp [go_sem, G1]
      replace nb : w.heap.size < ((Z2.setCell ⟨Z1.heap.size, 0, none⟩ (.int .i64 gl)).setCell ⟨Z1.heap.size, 1, none⟩ (.int .i64 gh)).heap.size := by simpa [World.setCell] using nb
      replace nc : c < ((Z2.setCell ⟨Z1.heap.size, 0, none⟩ (.int .i64 gl)).setCell ⟨Z1.heap.size, 1, none⟩ (.int .i64 gh)).heap.size := by simpa [World.setCell] using nc
      replace nG : Z1.heap.size < ((Z2.setCell ⟨Z1.heap.size, 0, none⟩ (.int .i64 gl)).setCell ⟨Z1.heap.size, 1, none⟩ (.int .i64 gh)).heap.size := by simpa [World.setCell] using nG
      replace hL := hL.setCell (p := ⟨Z1.heap.size, 0, none⟩) (by show w2.heap.size ≤ Z1.heap.size; omega) (.int .i64 gl)
      replace hL := hL.setCell (p := ⟨Z1.heap.size, 1, none⟩) (by show w2.heap.size ≤ Z1.heap.size; omega) (.int .i64 gh)
      refine hK.out _ _ ⟨b0, b1, c0, trivial⟩ (fun hHeld => ?_)
      clear hK K
      generalize ((Z2.setCell ⟨Z1.heap.size, 0, none⟩ (.int .i64 gl)).setCell ⟨Z1.heap.size, 1, none⟩ (.int .i64 gh)) = Z3 at *
      try simp only [Act.put, List.setIfInBounds_toArray, List.set_cons_zero, List.set_cons_succ]
      refine take_slot (i := 12) (d := 9) (v := ?_) rfl rfl (by kernel_rfl) (by kernel_rfl) (by kernel_rfl) (fun _ _ _ h => h) (Or.inl ⟨by rfl, ?_⟩) (by assumption) ?_
      rotate_left 1
      focus (intro wS hSw; (try dsimp only at hSw); go_simp; try with_reducible rfl)
      try simp only [List.setIfInBounds_toArray, List.set_cons_zero, List.set_cons_succ]
      refine wpAnyH_done (by kernel_rfl) ?_ _
      generalize Z1.heap.size = g8 at *
      exact key g8 Z3 ⟨nG, G0, G1, by omega, hL⟩
    · go_simp
      have hb := (Below.refl wd.heap.size wd).alloc (Nat.le_refl _) (Obj.cells #[.int .i64 0, .int .i64 0] 31)
      have szZ4 := hL.size
      have ord4nb := nb
      have ord4nc := nc
      replace b0 := cell_next hb nb b0
      replace b1 := cell_next hb nb b1
      replace c0 := cell_next hb nc c0
      replace nb := Nat.lt_of_lt_of_le nb hb.size
      replace nc := Nat.lt_of_lt_of_le nc hb.size
      replace hL := hL.trans (hb.mono (Nat.le_trans hBW hL.size))
      have Gf0 : (wd.alloc (Obj.cells #[.int .i64 0, .int .i64 0] 31)).frozen? ⟨wd.heap.size, 0, none⟩ = false := by simp [go_sem]
      have Gf1 : (wd.alloc (Obj.cells #[.int .i64 0, .int .i64 0] 31)).frozen? ⟨wd.heap.size, 1, none⟩ = false := by simp [go_sem]
      have G0 : (wd.alloc (Obj.cells #[.int .i64 0, .int .i64 0] 31)).cell? ⟨wd.heap.size, 0, none⟩ = some (.int .i64 0) := cell_new _ _ _ 0
      have G1 : (wd.alloc (Obj.cells #[.int .i64 0, .int .i64 0] 31)).cell? ⟨wd.heap.size, 1, none⟩ = some (.int .i64 0) := cell_new _ _ _ 1
      have nG : wd.heap.size < (wd.alloc (Obj.cells #[.int .i64 0, .int .i64 0] 31)).heap.size := by simp
      refine hK.out _ _ ⟨b0, b1, c0, trivial⟩ (fun hHeld => ?_)
      clear hK K hb
      generalize wd.alloc (Obj.cells #[.int .i64 0, .int .i64 0] 31) = Z4 at *
      try simp only [Act.put, List.setIfInBounds_toArray, List.set_cons_zero, List.set_cons_succ]
      refine wpAnyH_ready (rs := [6]) (by kernel_rfl) (by simp) ?_
      refine AllReadyH.cons rfl (fun K hK => ?_) AllReadyH.nil
      go_simp
      refine (CV.out _ (hB.trans (hL.mono hB.size))).mono ?_
      rintro e Z5 ⟨rfl, hb⟩
      replace b0 := cell_next hb nb b0
      replace b1 := cell_next hb nb b1
      replace c0 := cell_next hb nc c0
      replace Gf0 := frozen_next hb nG Gf0
      replace Gf1 := frozen_next hb nG Gf1
      replace G0 := cell_next hb nG G0
      replace G1 := cell_next hb nG G1
      replace nb := Nat.lt_of_lt_of_le nb hb.size
      replace nc := Nat.lt_of_lt_of_le nc hb.size
      replace nG := Nat.lt_of_lt_of_le nG hb.size
      replace hL := hL.trans (hb.mono (Nat.le_trans hBW hL.size))
      refine hK.out _ _ ⟨b0, b1, c0, trivial⟩ (fun hHeld => ?_)
      clear hK K hb
      try simp only [Act.put, List.setIfInBounds_toArray, List.set_cons_zero, List.set_cons_succ]
      refine take_slot (i := 7) (d := 27) (v := ?_) rfl rfl (by kernel_rfl) (by kernel_rfl) (by kernel_rfl) (fun _ _ _ h => h) (Or.inl ⟨by rfl, ?_⟩) (by assumption) ?_
      rotate_left 1
      focus (intro wS hSw; (try dsimp only at hSw); go_simp; try with_reducible rfl)
      try simp only [List.setIfInBounds_toArray, List.set_cons_zero, List.set_cons_succ]
      refine take_slot (i := 8) (d := 35) (v := ?_) rfl rfl (by kernel_rfl) (by kernel_rfl) (by kernel_rfl) (fun _ _ _ h => h) (Or.inl ⟨by rfl, ?_⟩) (by assumption) ?_
      rotate_left 1
      focus (intro wS hSw; (try dsimp only at hSw); go_simp; try with_reducible rfl)
      try simp only [List.setIfInBounds_toArray, List.set_cons_zero, List.set_cons_succ]
      refine take_slot (i := 9) (d := 36) (v := ?_) rfl rfl (by kernel_rfl) (by kernel_rfl) (by kernel_rfl) (fun _ _ _ h => h) (Or.inl ⟨by rfl, ?_⟩) (by assumption) ?_
      rotate_left 1
      focus (intro wS hSw; (try dsimp only at hSw); go_simp; try with_reducible rfl)
      try simp only [List.setIfInBounds_toArray, List.set_cons_zero, List.set_cons_succ]
      refine wpAnyH_ready (rs := [11]) (by kernel_rfl) (by simp) ?_
      refine AllReadyH.cons rfl (fun K hK => ?_) AllReadyH.nil
      go_simp
      replace b0 : ((Z5.setCell ⟨wd.heap.size, 0, none⟩ (.int .i64 gl)).setCell ⟨wd.heap.size, 1, none⟩ (.int .i64 gh)).cell? ⟨w.heap.size, 0, none⟩ = some (.int .i64 tl) := ((World.cell?_setCell_other _ _ _ _ (by intro e; injection e with e1 e2; omega)).trans ((World.cell?_setCell_other _ _ _ _ (by intro e; injection e with e1 e2; omega)).trans b0))
      replace b1 : ((Z5.setCell ⟨wd.heap.size, 0, none⟩ (.int .i64 gl)).setCell ⟨wd.heap.size, 1, none⟩ (.int .i64 gh)).cell? ⟨w.heap.size, 1, none⟩ = some (.int .i64 th) := ((World.cell?_setCell_other _ _ _ _ (by intro e; injection e with e1 e2; omega)).trans ((World.cell?_setCell_other _ _ _ _ (by intro e; injection e with e1 e2; omega)).trans b1))
      replace c0 : ((Z5.setCell ⟨wd.heap.size, 0, none⟩ (.int .i64 gl)).setCell ⟨wd.heap.size, 1, none⟩ (.int .i64 gh)).cell? ⟨c, 0, none⟩ = some (C.gv) := ((World.cell?_setCell_other _ _ _ _ (by intro e; injection e with e1 e2; omega)).trans ((World.cell?_setCell_other _ _ _ _ (by intro e; injection e with e1 e2; omega)).trans c0))
      replace Gf0 : ((Z5.setCell ⟨wd.heap.size, 0, none⟩ (.int .i64 gl)).setCell ⟨wd.heap.size, 1, none⟩ (.int .i64 gh)).frozen? ⟨wd.heap.size, 0, none⟩ = false := by simp [go_sem, Gf0]
      replace Gf1 : ((Z5.setCell ⟨wd.heap.size, 0, none⟩ (.int .i64 gl)).setCell ⟨wd.heap.size, 1, none⟩ (.int .i64 gh)).frozen? ⟨wd.heap.size, 1, none⟩ = false := by simp [go_sem, Gf1]
      replace G0 : ((Z5.setCell ⟨wd.heap.size, 0, none⟩ (.int .i64 gl)).setCell ⟨wd.heap.size, 1, none⟩ (.int .i64 gh)).cell? ⟨wd.heap.size, 0, none⟩ = some (.int .i64 gl) := by simp [go_sem, G0]
      replace G1 : ((Z5.setCell ⟨wd.heap.size, 0, none⟩ (.int .i64 gl)).setCell ⟨wd.heap.size, 1, none⟩ (.int .i64 gh)).cell? ⟨wd.heap.size, 1, none⟩ = some (.int .i64 gh) := by simp [go_sem, G1]
      replace nb : w.heap.size < ((Z5.setCell ⟨wd.heap.size, 0, none⟩ (.int .i64 gl)).setCell ⟨wd.heap.size, 1, none⟩ (.int .i64 gh)).heap.size := by simpa [World.setCell] using nb
      replace nc : c < ((Z5.setCell ⟨wd.heap.size, 0, none⟩ (.int .i64 gl)).setCell ⟨wd.heap.size, 1, none⟩ (.int .i64 gh)).heap.size := by simpa [World.setCell] using nc
      replace nG : wd.heap.size < ((Z5.setCell ⟨wd.heap.size, 0, none⟩ (.int .i64 gl)).setCell ⟨wd.heap.size, 1, none⟩ (.int .i64 gh)).heap.size := by simpa [World.setCell] using nG
      replace hL := hL.setCell (p := ⟨wd.heap.size, 0, none⟩) (by show w2.heap.size ≤ wd.heap.size; omega) (.int .i64 gl)
      replace hL := hL.setCell (p := ⟨wd.heap.size, 1, none⟩) (by show w2.heap.size ≤ wd.heap.size; omega) (.int .i64 gh)
      refine hK.out _ _ ⟨b0, b1, c0, trivial⟩ (fun hHeld => ?_)
      clear hK K
      generalize ((Z5.setCell ⟨wd.heap.size, 0, none⟩ (.int .i64 gl)).setCell ⟨wd.heap.size, 1, none⟩ (.int .i64 gh)) = Z6 at *
      try simp only [Act.put, List.setIfInBounds_toArray, List.set_cons_zero, List.set_cons_succ]
      refine take_slot (i := 12) (d := 9) (v := ?_) rfl rfl (by kernel_rfl) (by kernel_rfl) (by kernel_rfl) (fun _ _ _ h => h) (Or.inl ⟨by rfl, ?_⟩) (by assumption) ?_
      rotate_left 1
      focus (intro wS hSw; (try dsimp only at hSw); go_simp; try with_reducible rfl)
      try simp only [List.setIfInBounds_toArray, List.set_cons_zero, List.set_cons_succ]
      refine wpAnyH_done (by kernel_rfl) ?_ _
      generalize wd.heap.size = g8 at *
      exact key g8 Z6 ⟨nG, G0, G1, by omega, hL⟩
  case key =>
    intro g8 Y ⟨nG, G0, G1, hg8, hL⟩
    replace hB := hB.trans (hL.mono hB.size)
    replace HC := Lib.hid (HC.out.below hL)
    replace HV : Hid (∀ i, i < C.n → TankAt base Y (vb i) (sz i) (fl i) (fh i) (vs i) (xs i)) := Lib.hid (fun i hi => (HV.out i hi).below hB)
    have hwY := hB.size
    have hw8 : w.heap.size < g8 := by omega
    have c4 := HC.out.c4
    have c5 := HC.out.c5
    have f5 := HC.out.fr 5
    replace nc := HC.out.nc
    clear hL b0 b1 c0 nb
    go_wp2_with fail
    have hBw : B ≤ w.heap.size := by omega
    have hY1 : ∃ Y1, Y.setCell ⟨c, 5, none⟩ (.int .i64 (C.T + h)) = Y1 := ⟨_, rfl⟩
    have HC1 : Hid (CelAt (Y.setCell ⟨c, 5, none⟩ (.int .i64 (C.T + h))) c tk vb { C with T := C.T + h }) := Lib.hid (HC.out.later htc _)
    have hKc : Kept (fun i => i = c) Y (Y.setCell ⟨c, 5, none⟩ (.int .i64 (C.T + h))) := Kept.set (U := fun i => i = c) _ (p := ⟨c, 5, none⟩) rfl _
    have hB1 : Below B w (Y.setCell ⟨c, 5, none⟩ (.int .i64 (C.T + h))) := (hB.mono hBw).setCell (p := ⟨c, 5, none⟩) hBc _
    have HK1 : Hid (Kept (InU C.n c vb vs) w (Y.setCell ⟨c, 5, none⟩ (.int .i64 (C.T + h)))) := Lib.hid ((Kept.of_below' hB _).trans (hKc.mono fun i hi => .inl hi))
    have HV1 : Hid (∀ i, i < C.n → TankAt base (Y.setCell ⟨c, 5, none⟩ (.int .i64 (C.T + h))) (vb i) (sz i) (filmT 0 i (fl i) (h * C.fl)) (filmT 0 i (fh i) (h * C.fh)) (vs i) (lotsT (growL h gl gh) 0 i (xs i))) := Lib.hid (fun i hi => (HV.out i hi).kept hKc (hTk.nc i hi) (fun g hg hgc => by have := (HOb.out i hi g hg).1; omega))
    have g8c : ¬ (g8 = c) := by omega
    replace G0 := (hKc.cell (p := ⟨g8, 0, none⟩) nG g8c).trans G0
    replace G1 := (hKc.cell (p := ⟨g8, 1, none⟩) nG g8c).trans G1
    replace nG := Nat.lt_of_lt_of_le nG hKc.1
    clear hKc HC HV c4 c5 f5 nc hB hwY hY1 hBW
    generalize Y.setCell ⟨c, 5, none⟩ (.int .i64 (C.T + h)) = Y1 at *
    go_loopw [53] (fun i wr => ∃ k : Nat, k ≤ C.n ∧ i = .int .i64 k ∧ Hid (CelAt wr c tk vb { C with T := C.T + h }) ∧ Hid (∀ i, i < C.n → TankAt base wr (vb i) (sz i) (filmT k i (fl i) (h * C.fl)) (filmT k i (fh i) (h * C.fh)) (vs i) (lotsT (growL h gl gh) k i (xs i))) ∧ g8 < wr.heap.size ∧ wr.cell? ⟨g8, 0, none⟩ = some (.int .i64 gl) ∧ wr.cell? ⟨g8, 1, none⟩ = some (.int .i64 gh) ∧ Below B w wr ∧ Hid (Kept (InU C.n c vb vs) w wr)) (fun i _ => C.n - (RowKit.intOf i).toNat)
    case atStart => exact ⟨0, Nat.zero_le _, rfl, HC1, HV1, nG, G0, G1, hB1, HK1⟩
    case round =>
      clear HC1 HV1 nG G0 G1 hB1 HK1
      obtain ⟨k, hk, rfl, HCr, HVr, nG, G0, G1, hLr, HKr⟩ := hrel
      obtain ⟨wo, hwo⟩ : ∃ wo, wo = wr := ⟨_, rfl⟩
      subst hwo
      by_cases hlt : k < C.n
      · have tpk : wo.cell? ⟨tk, k, none⟩ = some (.pointer (some ⟨vb k, 0, none⟩)) := HCr.out.tp k hlt
        have c2 : wo.cell? ⟨c, 2, none⟩ = some (.int .i64 C.fl) := HCr.out.c2
        have c3 : wo.cell? ⟨c, 3, none⟩ = some (.int .i64 C.fh) := HCr.out.c3
        have nc := HCr.out.nc
        have hBvk := hBv k hlt
        have hvkc := hTk.nc k hlt
        have hvkt := hTk.nt k hlt
        have hvkb := hTk.lt k hlt
        have hxk := (HX.out k hlt).1
        have hTAk := HVr.out k hlt
        have CFk := CF.out k hlt
        rw [show filmT k k (fl k) (h * C.fl) = fl k from by simp [filmT], show filmT k k (fh k) (h * C.fh) = fh k from by simp [filmT], show lotsT (growL h gl gh) k k (xs k) = xs k from by simp [lotsT]] at hTAk
        obtain ⟨hvk, hok⟩ := hTAk
        obtain ⟨A, cc, hvs⟩ := hok.form
        have HOx := Lib.hid (HOb.out k hlt)
        rw [hvs] at hvk hok
        have HVk := Lib.hid hvk
        have HOk := Lib.hid hok
        have v1 := hvk.c1
        have v2 := hvk.c2
        have f1 := hvk.f1
        have f2 := hvk.f2
        have nv := hvk.n
        obtain ⟨p1, hp1⟩ : ∃ p, min 1000000 (fl k + h * C.fl) = p := ⟨_, rfl⟩
        obtain ⟨p2, hp2⟩ : ∃ p, min 1000000 (fh k + h * C.fh) = p := ⟨_, rfl⟩
        rw [hp1, hp2] at CFk
        have HP1 := Lib.hid hp1
        have HP2 := Lib.hid hp2
        obtain ⟨m, hm⟩ : ∃ m, (xs k).length = m := ⟨_, rfl⟩
        rw [hm] at hxk hvs HVk HOk
        have Hvs := Lib.hid hvs
        have Hm := Lib.hid hm
        replace CFk := Lib.hid CFk
        clear hvk hok hp1 hp2 hm hvs
        have hBW : B ≤ wo.heap.size := Nat.le_trans hBw hLr.size
        go_upto_region 13 with fail
        refine wp_region_held_drew (S := fun w' => w'.cell? ⟨c, 2, none⟩ = some (.int .i64 C.fl) ∧ w'.cell? ⟨c, 3, none⟩ = some (.int .i64 C.fh) ∧ True) (by kernel_rfl) ?_ (fun hHeld => ?_)
        focus (exact ⟨c2, c3, trivial⟩)
        have hL : Below B wo wo.drew := Below.drew (Below.refl _ _)
        have hQ : Hid (Kept (fun i => i = vb k) wo wo.drew) := Lib.hid (Kept.refl _ _)
        replace c2 : wo.drew.cell? ⟨c, 2, none⟩ = some (.int .i64 C.fl) := c2
        replace c3 : wo.drew.cell? ⟨c, 3, none⟩ = some (.int .i64 C.fh) := c3
        replace v1 : wo.drew.cell? ⟨vb k, 1, none⟩ = some (.int .i64 (fl k)) := v1
        replace v2 : wo.drew.cell? ⟨vb k, 2, none⟩ = some (.int .i64 (fh k)) := v2
        replace f1 : wo.drew.frozen? ⟨vb k, 1, none⟩ = false := f1
        replace f2 : wo.drew.frozen? ⟨vb k, 2, none⟩ = false := f2
        replace G0 : wo.drew.cell? ⟨g8, 0, none⟩ = some (.int .i64 gl) := G0
        replace G1 : wo.drew.cell? ⟨g8, 1, none⟩ = some (.int .i64 gh) := G1
        replace nc : c < wo.drew.heap.size := nc
        replace nv : vb k < wo.drew.heap.size := nv
        replace nG : g8 < wo.drew.heap.size := nG
        replace HVk := Lib.hid (HVk.out.below (Below.drew (Below.refl _ _)))
        generalize hWd : wo.drew = wd13 at hHeld hL hQ c2 c3 v1 v2 f1 f2 G0 G1 nc nv nG HVk ⊢
        clear hWd
        refine take_slot (i := 0) (d := 57) (v := ?_) rfl rfl (by kernel_rfl) (by kernel_rfl) (by kernel_rfl) (fun _ _ _ h => h) (Or.inl ⟨by rfl, ?_⟩) (by assumption) ?_
        rotate_left 1
        focus (intro wS hSw; (try dsimp only at hSw); go_simp; try with_reducible rfl)
        try simp only [List.setIfInBounds_toArray, List.set_cons_zero, List.set_cons_succ]
        refine take_slot (i := 1) (d := 58) (v := ?_) rfl rfl (by kernel_rfl) (by kernel_rfl) (by kernel_rfl) (fun _ _ _ h => h) (Or.inl ⟨by rfl, ?_⟩) (by assumption) ?_
        rotate_left 1
        focus (intro wS hSw; (try dsimp only at hSw); go_simp; try with_reducible rfl)
        try simp only [List.setIfInBounds_toArray, List.set_cons_zero, List.set_cons_succ]
        refine take_slot (i := 2) (d := 59) (v := ?_) rfl rfl (by kernel_rfl) (by kernel_rfl) (by kernel_rfl) (fun _ _ _ h => h) (Or.inl ⟨by rfl, ?_⟩) (by assumption) ?_
        rotate_left 1
        focus (intro wS hSw; (try dsimp only at hSw); go_simp; try with_reducible rfl)
        try simp only [List.setIfInBounds_toArray, List.set_cons_zero, List.set_cons_succ]
        refine take_slot (i := 3) (d := 60) (v := ?_) rfl rfl (by kernel_rfl) (by kernel_rfl) (by kernel_rfl) (fun _ _ _ h => h) (Or.inl ⟨by rfl, ?_⟩) (by assumption) ?_
        rotate_left 1
        focus (intro wS hSw; (try dsimp only at hSw); go_simp; try with_reducible rfl)
        try simp only [List.setIfInBounds_toArray, List.set_cons_zero, List.set_cons_succ]
        refine take_slot (i := 5) (d := 62) (v := ?_) rfl rfl (by kernel_rfl) (by kernel_rfl) (by kernel_rfl) (fun _ _ _ h => h) (Or.inl ⟨by rfl, ?_⟩) (by assumption) ?_
        rotate_left 1
        focus (intro wS hSw; (try dsimp only at hSw); go_simp; try with_reducible rfl)
        try simp only [List.setIfInBounds_toArray, List.set_cons_zero, List.set_cons_succ]
        refine take_slot (i := 6) (d := 63) (v := ?_) rfl rfl (by kernel_rfl) (by kernel_rfl) (by kernel_rfl) (fun _ _ _ h => h) (Or.inl ⟨by rfl, ?_⟩) (by assumption) ?_
        rotate_left 1
        focus (intro wS hSw; (try dsimp only at hSw); go_simp; try with_reducible rfl)
        try simp only [List.setIfInBounds_toArray, List.set_cons_zero, List.set_cons_succ]
        refine take_slot (i := 7) (d := 64) (v := ?_) rfl rfl (by kernel_rfl) (by kernel_rfl) (by kernel_rfl) (fun _ _ _ h => h) (Or.inl ⟨by rfl, ?_⟩) (by assumption) ?_
        rotate_left 1
        focus (intro wS hSw; (try dsimp only at hSw); go_simp; try with_reducible rfl)
        try simp only [List.setIfInBounds_toArray, List.set_cons_zero, List.set_cons_succ]
        refine take_slot (i := 8) (d := 65) (v := ?_) rfl rfl (by kernel_rfl) (by kernel_rfl) (by kernel_rfl) (fun _ _ _ h => h) (Or.inl ⟨by rfl, ?_⟩) (by assumption) ?_
        rotate_left 1
        focus (intro wS hSw; (try dsimp only at hSw); go_simp; try with_reducible rfl)
        try simp only [List.setIfInBounds_toArray, List.set_cons_zero, List.set_cons_succ]
        refine take_slot (i := 9) (d := 66) (v := ?_) rfl rfl (by kernel_rfl) (by kernel_rfl) (by kernel_rfl) (fun _ _ _ h => h) (Or.inl ⟨by rfl, ?_⟩) (by assumption) ?_
        rotate_left 1
        focus (intro wS hSw; (try dsimp only at hSw); go_simp; try with_reducible rfl)
        try simp only [List.setIfInBounds_toArray, List.set_cons_zero, List.set_cons_succ]
        refine take_slot (i := 10) (d := 67) (v := ?_) rfl rfl (by kernel_rfl) (by kernel_rfl) (by kernel_rfl) (fun _ _ _ h => h) (Or.inl ⟨by rfl, ?_⟩) (by assumption) ?_
        rotate_left 1
        focus (intro wS hSw; (try dsimp only at hSw); go_simp; try with_reducible rfl)
        try simp only [List.setIfInBounds_toArray, List.set_cons_zero, List.set_cons_succ]
        refine wpAnyH_ready (rs := [4]) (by kernel_rfl) (by simp) ?_
        refine AllReadyH.cons rfl (fun K hK => ?_) AllReadyH.nil
        go_simp
        refine hK.out _ _ ⟨c2, c3, trivial⟩ (fun hHeld => ?_)
        clear hK K
        try simp only [Act.put, List.setIfInBounds_toArray, List.set_cons_zero, List.set_cons_succ]
        refine wpAnyH_ready (rs := [11]) (by kernel_rfl) (by simp) ?_
        refine AllReadyH.cons rfl (fun K hK => ?_) AllReadyH.nil
        go_simp
        refine (CFk.out _).mono ?_
        rintro e P2 ⟨rfl, hb⟩
        replace c2 := cell_next hb nc c2
        replace c3 := cell_next hb nc c3
        replace v1 := cell_next hb nv v1
        replace v2 := cell_next hb nv v2
        replace f1 := frozen_next hb nv f1
        replace f2 := frozen_next hb nv f2
        replace G0 := cell_next hb nG G0
        replace G1 := cell_next hb nG G1
        replace nc := Nat.lt_of_lt_of_le nc hb.size
        replace nv := Nat.lt_of_lt_of_le nv hb.size
        replace nG := Nat.lt_of_lt_of_le nG hb.size
        replace hL := hL.trans (hb.mono (Nat.le_trans hBW hL.size))
        replace hQ := Lib.hid (hQ.out.trans (Kept.of_below' hb _))
        replace HVk := Lib.hid (HVk.out.below hb)
        refine hK.out _ _ ⟨c2, c3, trivial⟩ (fun hHeld => ?_)
        clear hK K hb
        try simp only [Act.put, List.setIfInBounds_toArray, List.set_cons_zero, List.set_cons_succ]
        refine take_slot (i := 12) (d := 69) (v := ?_) rfl rfl (by kernel_rfl) (by kernel_rfl) (by kernel_rfl) (fun _ _ _ h => h) (Or.inl ⟨by rfl, ?_⟩) (by assumption) ?_
        rotate_left 1
        focus (intro wS hSw; (try dsimp only at hSw); go_simp; try with_reducible rfl)
        try simp only [List.setIfInBounds_toArray, List.set_cons_zero, List.set_cons_succ]
        refine take_slot (i := 13) (d := 70) (v := ?_) rfl rfl (by kernel_rfl) (by kernel_rfl) (by kernel_rfl) (fun _ _ _ h => h) (Or.inl ⟨by rfl, ?_⟩) (by assumption) ?_
        rotate_left 1
        focus (intro wS hSw; (try dsimp only at hSw); go_simp; try with_reducible rfl)
        try simp only [List.setIfInBounds_toArray, List.set_cons_zero, List.set_cons_succ]
        refine wpAnyH_ready (rs := [14]) (by kernel_rfl) (by simp) ?_
        refine AllReadyH.cons rfl (fun K hK => ?_) AllReadyH.nil
        go_simp
        replace HVk := Lib.hid (HVk.out.film p1 p2)
        replace c2 : ((P2.setCell ⟨vb k, 1, none⟩ (.int .i64 p1)).setCell ⟨vb k, 2, none⟩ (.int .i64 p2)).cell? ⟨c, 2, none⟩ = some (.int .i64 C.fl) := ((World.cell?_setCell_other _ _ _ _ (by intro e; injection e with e1 e2; omega)).trans ((World.cell?_setCell_other _ _ _ _ (by intro e; injection e with e1 e2; omega)).trans c2))
        replace c3 : ((P2.setCell ⟨vb k, 1, none⟩ (.int .i64 p1)).setCell ⟨vb k, 2, none⟩ (.int .i64 p2)).cell? ⟨c, 3, none⟩ = some (.int .i64 C.fh) := ((World.cell?_setCell_other _ _ _ _ (by intro e; injection e with e1 e2; omega)).trans ((World.cell?_setCell_other _ _ _ _ (by intro e; injection e with e1 e2; omega)).trans c3))
        replace v1 : ((P2.setCell ⟨vb k, 1, none⟩ (.int .i64 p1)).setCell ⟨vb k, 2, none⟩ (.int .i64 p2)).cell? ⟨vb k, 1, none⟩ = some (.int .i64 p1) := by simp [go_sem, v1]
        replace v2 : ((P2.setCell ⟨vb k, 1, none⟩ (.int .i64 p1)).setCell ⟨vb k, 2, none⟩ (.int .i64 p2)).cell? ⟨vb k, 2, none⟩ = some (.int .i64 p2) := by simp [go_sem, v2]
        replace f1 : ((P2.setCell ⟨vb k, 1, none⟩ (.int .i64 p1)).setCell ⟨vb k, 2, none⟩ (.int .i64 p2)).frozen? ⟨vb k, 1, none⟩ = false := by simp [go_sem, f1]
        replace f2 : ((P2.setCell ⟨vb k, 1, none⟩ (.int .i64 p1)).setCell ⟨vb k, 2, none⟩ (.int .i64 p2)).frozen? ⟨vb k, 2, none⟩ = false := by simp [go_sem, f2]
        replace G0 : ((P2.setCell ⟨vb k, 1, none⟩ (.int .i64 p1)).setCell ⟨vb k, 2, none⟩ (.int .i64 p2)).cell? ⟨g8, 0, none⟩ = some (.int .i64 gl) := ((World.cell?_setCell_other _ _ _ _ (by intro e; injection e with e1 e2; omega)).trans ((World.cell?_setCell_other _ _ _ _ (by intro e; injection e with e1 e2; omega)).trans G0))
        replace G1 : ((P2.setCell ⟨vb k, 1, none⟩ (.int .i64 p1)).setCell ⟨vb k, 2, none⟩ (.int .i64 p2)).cell? ⟨g8, 1, none⟩ = some (.int .i64 gh) := ((World.cell?_setCell_other _ _ _ _ (by intro e; injection e with e1 e2; omega)).trans ((World.cell?_setCell_other _ _ _ _ (by intro e; injection e with e1 e2; omega)).trans G1))
        replace nc : c < ((P2.setCell ⟨vb k, 1, none⟩ (.int .i64 p1)).setCell ⟨vb k, 2, none⟩ (.int .i64 p2)).heap.size := by simpa [World.setCell] using nc
        replace nv : vb k < ((P2.setCell ⟨vb k, 1, none⟩ (.int .i64 p1)).setCell ⟨vb k, 2, none⟩ (.int .i64 p2)).heap.size := by simpa [World.setCell] using nv
        replace nG : g8 < ((P2.setCell ⟨vb k, 1, none⟩ (.int .i64 p1)).setCell ⟨vb k, 2, none⟩ (.int .i64 p2)).heap.size := by simpa [World.setCell] using nG
        replace hL := hL.setCell (p := ⟨vb k, 1, none⟩) (by show B ≤ vb k; omega) (.int .i64 p1)
        replace hL := hL.setCell (p := ⟨vb k, 2, none⟩) (by show B ≤ vb k; omega) (.int .i64 p2)
        replace hQ := Lib.hid (hQ.out.trans (Kept.set (U := (fun i => i = vb k)) _ (p := ⟨vb k, 1, none⟩) (rfl) (.int .i64 p1)))
        replace hQ := Lib.hid (hQ.out.trans (Kept.set (U := (fun i => i = vb k)) _ (p := ⟨vb k, 2, none⟩) (rfl) (.int .i64 p2)))
        refine hK.out _ _ ⟨c2, c3, trivial⟩ (fun hHeld => ?_)
        clear hK K
        generalize ((P2.setCell ⟨vb k, 1, none⟩ (.int .i64 p1)).setCell ⟨vb k, 2, none⟩ (.int .i64 p2)) = P3 at *
        try simp only [Act.put, List.setIfInBounds_toArray, List.set_cons_zero, List.set_cons_succ]
        refine wpAnyH_done (by kernel_rfl) ?_ _
        have hQ0 := hQ.out
        have hqo : ∀ g, (vs k).ownBlock = some g → ¬ (g = vb k) := fun g hg e => by have := (HOx.out g hg).1; omega
        replace HOk := Lib.hid (HOk.out.kept hQ0 (fun g hg => hqo g (by rw [Hvs.out]; exact hg)))
        replace hBW : B ≤ P3.heap.size := Nat.le_trans hBW hL.size
        have v3 := HVk.out.c3
        clear hHeld v1 v2 f1 f2 c2 c3 tpk hQ0 CFk nc
        go_wp2_with fail
        go_loopw [76] (fun i wr => ∃ j : Nat, j ≤ m ∧ i = .int .i64 j ∧ Hid (VesAt wr (vb k) (sz k) p1 p2 (.slice A m cc)) ∧ Hid (OwnL base wr (.slice A m cc) (((xs k).take j).map (growL h gl gh) ++ (xs k).drop j)) ∧ g8 < wr.heap.size ∧ wr.cell? ⟨g8, 0, none⟩ = some (.int .i64 gl) ∧ wr.cell? ⟨g8, 1, none⟩ = some (.int .i64 gh) ∧ Below B P3 wr ∧ Hid (Kept (fun i => (vs k).ownBlock = some i) P3 wr)) (fun i _ => m - (RowKit.intOf i).toNat)
        case atStart => exact ⟨0, Nat.zero_le _, rfl, HVk, HOk, nG, G0, G1, Below.refl _ _, Lib.hid (Kept.refl _ _)⟩
        case round =>
          have hLo := hL
          have hQo := hQ
          clear HVk HOk nG G0 G1 v3 hL hQ
          obtain ⟨j, hj, rfl, HVq, HOq, nG, G0, G1, hLq, HKq⟩ := hrel
          by_cases hlt2 : j < m
          · obtain ⟨⟨a, s, lo, hi, tm⟩, hp⟩ : ∃ p, (xs k)[j]? = some p := ⟨_, List.getElem?_eq_getElem (by rw [Hm.out]; exact hlt2)⟩
            obtain ⟨hy, hset⟩ := grow_step (growL h gl gh) (xs k) j _ hp
            have hxj := (HX.out k hlt).2 _ (List.mem_of_getElem? hp)
            obtain ⟨g, rfl, hgb, hgw, q2, q3, f2, f3⟩ := HOq.out.at j _ hy
            have CLj := CL.out _ hxj
            dsimp only at q2 q3 CLj
            obtain ⟨y1, hy1⟩ : ∃ p, min 1000000 (lo + h * gl) = p := ⟨_, rfl⟩
            obtain ⟨y2, hy2⟩ : ∃ p, min 1000000 (hi + h * gh) = p := ⟨_, rfl⟩
            simp only [growL] at hset
            rw [hy1, hy2] at CLj hset
            have hln := grow_len (growL h gl gh) (xs k) j
            rw [Hm.out] at hln
            have v3 := HVq.out.c3
            have nv := HVq.out.n
            have hog : (vs k).ownBlock = some g := by rw [Hvs.out]; rfl
            have hgv : g ≠ vb k := by omega
            have hgu : g < w.heap.size := (HOx.out g hog).2
            replace CLj := Lib.hid CLj
            have Hy := Lib.hid hy
            have Hset := Lib.hid hset
            have Hln := Lib.hid hln
            clear hy hset hy1 hy2 hln hp hxj
            generalize hys : List.map (growL h gl gh) ((xs k).take j) ++ (xs k).drop j = ys at *
            have hBW2 := hBW
            replace hBW : B ≤ wr.heap.size := Nat.le_trans hBW hLq.size
            have hBg : B ≤ g := by omega
            go_upto_region 17 with fail
            refine wp_region_held_drew (S := fun w' => w'.cell? ⟨vb k, 3, none⟩ = some (.slice (some ⟨g, 0, none⟩) m cc) ∧ w'.cell? ⟨g8, 0, none⟩ = some (.int .i64 gl) ∧ w'.cell? ⟨g8, 1, none⟩ = some (.int .i64 gh) ∧ True) (by kernel_rfl) ?_ (fun hHeld => ?_)
            focus (exact ⟨v3, G0, G1, trivial⟩)
            have hL : Below B wr wr.drew := Below.drew (Below.refl _ _)
            have hQ : Hid (Kept (fun i => i = g) wr wr.drew) := Lib.hid (Kept.refl _ _)
            replace v3 : wr.drew.cell? ⟨vb k, 3, none⟩ = some (.slice (some ⟨g, 0, none⟩) m cc) := v3
            replace G0 : wr.drew.cell? ⟨g8, 0, none⟩ = some (.int .i64 gl) := G0
            replace G1 : wr.drew.cell? ⟨g8, 1, none⟩ = some (.int .i64 gh) := G1
            replace q2 : wr.drew.cell? ⟨g, j * 5 + 2, none⟩ = some (.int .i64 lo) := q2
            replace q3 : wr.drew.cell? ⟨g, j * 5 + 3, none⟩ = some (.int .i64 hi) := q3
            replace f2 : wr.drew.frozen? ⟨g, j * 5 + 2, none⟩ = false := f2
            replace f3 : wr.drew.frozen? ⟨g, j * 5 + 3, none⟩ = false := f3
            replace nv : vb k < wr.drew.heap.size := nv
            replace nG : g8 < wr.drew.heap.size := nG
            replace hgw : g < wr.drew.heap.size := hgw
            replace HOq := Lib.hid (HOq.out.below (Below.drew (Below.refl _ _)))
            generalize hWd : wr.drew = wd17 at hHeld hL hQ v3 G0 G1 q2 q3 f2 f3 nv nG hgw HOq ⊢
            clear hWd
            refine take_slot (i := 0) (d := 79) (v := ?_) rfl rfl (by kernel_rfl) (by kernel_rfl) (by kernel_rfl) (fun _ _ _ h => h) (Or.inl ⟨by rfl, ?_⟩) (by assumption) ?_
            rotate_left 1
            focus (intro wS hSw; (try dsimp only at hSw); go_simp; try with_reducible rfl)
            try simp only [List.setIfInBounds_toArray, List.set_cons_zero, List.set_cons_succ]
            refine take_slot (i := 1) (d := 80) (v := ?_) rfl rfl (by kernel_rfl) (by kernel_rfl) (by kernel_rfl) (fun _ _ _ h => h) (Or.inl ⟨by rfl, ?_⟩) (by assumption) ?_
            rotate_left 1
            focus (intro wS hSw; (try dsimp only at hSw); go_simp; try with_reducible rfl)
            try simp only [List.setIfInBounds_toArray, List.set_cons_zero, List.set_cons_succ]
            refine take_slot (i := 2) (d := 81) (v := ?_) rfl rfl (by kernel_rfl) (by kernel_rfl) (by kernel_rfl) (fun _ _ _ h => h) (Or.inl ⟨by rfl, ?_⟩) (by assumption) ?_
            rotate_left 1
            focus (intro wS hSw; (try dsimp only at hSw); go_simp; try with_reducible rfl)
            try simp only [List.setIfInBounds_toArray, List.set_cons_zero, List.set_cons_succ]
            refine take_slot (i := 3) (d := 82) (v := ?_) rfl rfl (by kernel_rfl) (by kernel_rfl) (by kernel_rfl) (fun _ _ _ h => h) (Or.inl ⟨by rfl, ?_⟩) (by assumption) ?_
            rotate_left 1
            focus (intro wS hSw; (try dsimp only at hSw); go_simp; try with_reducible rfl)
            try simp only [List.setIfInBounds_toArray, List.set_cons_zero, List.set_cons_succ]
            refine take_slot (i := 4) (d := 83) (v := ?_) rfl rfl (by kernel_rfl) (by kernel_rfl) (by kernel_rfl) (fun _ _ _ h => h) (Or.inl ⟨by rfl, ?_⟩) (by assumption) ?_
            rotate_left 1
            focus (intro wS hSw; (try dsimp only at hSw); go_simp; try with_reducible rfl)
            try simp only [List.setIfInBounds_toArray, List.set_cons_zero, List.set_cons_succ]
            refine take_slot (i := 5) (d := 84) (v := ?_) rfl rfl (by kernel_rfl) (by kernel_rfl) (by kernel_rfl) (fun _ _ _ h => h) (Or.inl ⟨by rfl, ?_⟩) (by assumption) ?_
            rotate_left 1
            focus (intro wS hSw; (try dsimp only at hSw); go_simp; try with_reducible rfl)
            try simp only [List.setIfInBounds_toArray, List.set_cons_zero, List.set_cons_succ]
            refine take_slot (i := 6) (d := 85) (v := ?_) rfl rfl (by kernel_rfl) (by kernel_rfl) (by kernel_rfl) (fun _ _ _ h => h) (Or.inl ⟨by rfl, ?_⟩) (by assumption) ?_
            rotate_left 1
            focus (intro wS hSw; (try dsimp only at hSw); go_simp; try with_reducible rfl)
            try simp only [List.setIfInBounds_toArray, List.set_cons_zero, List.set_cons_succ]
            refine take_slot (i := 7) (d := 86) (v := ?_) rfl rfl (by kernel_rfl) (by kernel_rfl) (by kernel_rfl) (fun _ _ _ h => h) (Or.inl ⟨by rfl, ?_⟩) (by assumption) ?_
            rotate_left 1
            focus (intro wS hSw; (try dsimp only at hSw); go_simp; try with_reducible rfl)
            try simp only [List.setIfInBounds_toArray, List.set_cons_zero, List.set_cons_succ]
            refine take_slot (i := 8) (d := 87) (v := ?_) rfl rfl (by kernel_rfl) (by kernel_rfl) (by kernel_rfl) (fun _ _ _ h => h) (Or.inl ⟨by rfl, ?_⟩) (by assumption) ?_
            rotate_left 1
            focus (intro wS hSw; (try dsimp only at hSw); go_simp; try with_reducible rfl)
            try simp only [List.setIfInBounds_toArray, List.set_cons_zero, List.set_cons_succ]
            refine take_slot (i := 9) (d := 88) (v := ?_) rfl rfl (by kernel_rfl) (by kernel_rfl) (by kernel_rfl) (fun _ _ _ h => h) (Or.inl ⟨by rfl, ?_⟩) (by assumption) ?_
            rotate_left 1
            focus (intro wS hSw; (try dsimp only at hSw); go_simp; try with_reducible rfl)
            try simp only [List.setIfInBounds_toArray, List.set_cons_zero, List.set_cons_succ]
            refine take_slot (i := 10) (d := 89) (v := ?_) rfl rfl (by kernel_rfl) (by kernel_rfl) (by kernel_rfl) (fun _ _ _ h => h) (Or.inl ⟨by rfl, ?_⟩) (by assumption) ?_
            rotate_left 1
            focus (intro wS hSw; (try dsimp only at hSw); go_simp; try with_reducible rfl)
            try simp only [List.setIfInBounds_toArray, List.set_cons_zero, List.set_cons_succ]
            refine take_slot (i := 11) (d := 90) (v := ?_) rfl rfl (by kernel_rfl) (by kernel_rfl) (by kernel_rfl) (fun _ _ _ h => h) (Or.inl ⟨by rfl, ?_⟩) (by assumption) ?_
            rotate_left 1
            focus (intro wS hSw; (try dsimp only at hSw); go_simp; try with_reducible rfl)
            try simp only [List.setIfInBounds_toArray, List.set_cons_zero, List.set_cons_succ]
            refine take_slot (i := 13) (d := 92) (v := ?_) rfl rfl (by kernel_rfl) (by kernel_rfl) (by kernel_rfl) (fun _ _ _ h => h) (Or.inl ⟨by rfl, ?_⟩) (by assumption) ?_
            rotate_left 1
            focus (intro wS hSw; (try dsimp only at hSw); go_simp; try with_reducible rfl)
            try simp only [List.setIfInBounds_toArray, List.set_cons_zero, List.set_cons_succ]
            refine take_slot (i := 14) (d := 93) (v := ?_) rfl rfl (by kernel_rfl) (by kernel_rfl) (by kernel_rfl) (fun _ _ _ h => h) (Or.inl ⟨by rfl, ?_⟩) (by assumption) ?_
            rotate_left 1
            focus (intro wS hSw; (try dsimp only at hSw); go_simp; try with_reducible rfl)
            try simp only [List.setIfInBounds_toArray, List.set_cons_zero, List.set_cons_succ]
            refine wpAnyH_ready (rs := [12]) (by kernel_rfl) (by simp) ?_
            refine AllReadyH.cons rfl (fun K hK => ?_) AllReadyH.nil
            go_simp
            refine hK.out _ _ ⟨v3, G0, G1, trivial⟩ (fun hHeld => ?_)
            clear hK K
            try simp only [Act.put, List.setIfInBounds_toArray, List.set_cons_zero, List.set_cons_succ]
            refine wpAnyH_ready (rs := [15]) (by kernel_rfl) (by simp) ?_
            refine AllReadyH.cons rfl (fun K hK => ?_) AllReadyH.nil
            go_simp
            refine (CLj.out _).mono ?_
            rintro e S2 ⟨rfl, hb⟩
            replace v3 := cell_next hb nv v3
            replace G0 := cell_next hb nG G0
            replace G1 := cell_next hb nG G1
            replace q2 := cell_next hb hgw q2
            replace q3 := cell_next hb hgw q3
            replace f2 := frozen_next hb hgw f2
            replace f3 := frozen_next hb hgw f3
            replace nv := Nat.lt_of_lt_of_le nv hb.size
            replace nG := Nat.lt_of_lt_of_le nG hb.size
            replace hgw := Nat.lt_of_lt_of_le hgw hb.size
            replace hL := hL.trans (hb.mono (Nat.le_trans hBW hL.size))
            replace hQ := Lib.hid (hQ.out.trans (Kept.of_below' hb _))
            replace HOq := Lib.hid (HOq.out.below hb)
            refine hK.out _ _ ⟨v3, G0, G1, trivial⟩ (fun hHeld => ?_)
            clear hK K hb
            try simp only [Act.put, List.setIfInBounds_toArray, List.set_cons_zero, List.set_cons_succ]
            refine take_slot (i := 16) (d := 95) (v := ?_) rfl rfl (by kernel_rfl) (by kernel_rfl) (by kernel_rfl) (fun _ _ _ h => h) (Or.inl ⟨by rfl, ?_⟩) (by assumption) ?_
            rotate_left 1
            focus (intro wS hSw; (try dsimp only at hSw); go_simp; try with_reducible rfl)
            try simp only [List.setIfInBounds_toArray, List.set_cons_zero, List.set_cons_succ]
            refine take_slot (i := 17) (d := 96) (v := ?_) rfl rfl (by kernel_rfl) (by kernel_rfl) (by kernel_rfl) (fun _ _ _ h => h) (Or.inl ⟨by rfl, ?_⟩) (by assumption) ?_
            rotate_left 1
            focus (intro wS hSw; (try dsimp only at hSw); go_simp; try with_reducible rfl)
            try simp only [List.setIfInBounds_toArray, List.set_cons_zero, List.set_cons_succ]
            refine wpAnyH_ready (rs := [18]) (by kernel_rfl) (by simp) ?_
            refine AllReadyH.cons rfl (fun K hK => ?_) AllReadyH.nil
            go_simp
            have hO9 := HOq.out.setLoad' Hln.out j _ y1 y2 Hy.out
            dsimp only at hO9
            rw [Hset.out] at hO9
            replace HOq := Lib.hid hO9
            clear hO9
            replace v3 : ((S2.setCell ⟨g, j * 5 + 2, none⟩ (.int .i64 y1)).setCell ⟨g, j * 5 + 3, none⟩ (.int .i64 y2)).cell? ⟨vb k, 3, none⟩ = some (.slice (some ⟨g, 0, none⟩) m cc) := ((World.cell?_setCell_other _ _ _ _ (by intro e; injection e with e1 e2; omega)).trans ((World.cell?_setCell_other _ _ _ _ (by intro e; injection e with e1 e2; omega)).trans v3))
            replace G0 : ((S2.setCell ⟨g, j * 5 + 2, none⟩ (.int .i64 y1)).setCell ⟨g, j * 5 + 3, none⟩ (.int .i64 y2)).cell? ⟨g8, 0, none⟩ = some (.int .i64 gl) := ((World.cell?_setCell_other _ _ _ _ (by intro e; injection e with e1 e2; omega)).trans ((World.cell?_setCell_other _ _ _ _ (by intro e; injection e with e1 e2; omega)).trans G0))
            replace G1 : ((S2.setCell ⟨g, j * 5 + 2, none⟩ (.int .i64 y1)).setCell ⟨g, j * 5 + 3, none⟩ (.int .i64 y2)).cell? ⟨g8, 1, none⟩ = some (.int .i64 gh) := ((World.cell?_setCell_other _ _ _ _ (by intro e; injection e with e1 e2; omega)).trans ((World.cell?_setCell_other _ _ _ _ (by intro e; injection e with e1 e2; omega)).trans G1))
            replace q2 : ((S2.setCell ⟨g, j * 5 + 2, none⟩ (.int .i64 y1)).setCell ⟨g, j * 5 + 3, none⟩ (.int .i64 y2)).cell? ⟨g, j * 5 + 2, none⟩ = some (.int .i64 y1) := by simp [go_sem, q2]
            replace q3 : ((S2.setCell ⟨g, j * 5 + 2, none⟩ (.int .i64 y1)).setCell ⟨g, j * 5 + 3, none⟩ (.int .i64 y2)).cell? ⟨g, j * 5 + 3, none⟩ = some (.int .i64 y2) := by simp [go_sem, q3]
            replace f2 : ((S2.setCell ⟨g, j * 5 + 2, none⟩ (.int .i64 y1)).setCell ⟨g, j * 5 + 3, none⟩ (.int .i64 y2)).frozen? ⟨g, j * 5 + 2, none⟩ = false := by simp [go_sem, f2]
            replace f3 : ((S2.setCell ⟨g, j * 5 + 2, none⟩ (.int .i64 y1)).setCell ⟨g, j * 5 + 3, none⟩ (.int .i64 y2)).frozen? ⟨g, j * 5 + 3, none⟩ = false := by simp [go_sem, f3]
            replace nv : vb k < ((S2.setCell ⟨g, j * 5 + 2, none⟩ (.int .i64 y1)).setCell ⟨g, j * 5 + 3, none⟩ (.int .i64 y2)).heap.size := by simpa [World.setCell] using nv
            replace nG : g8 < ((S2.setCell ⟨g, j * 5 + 2, none⟩ (.int .i64 y1)).setCell ⟨g, j * 5 + 3, none⟩ (.int .i64 y2)).heap.size := by simpa [World.setCell] using nG
            replace hgw : g < ((S2.setCell ⟨g, j * 5 + 2, none⟩ (.int .i64 y1)).setCell ⟨g, j * 5 + 3, none⟩ (.int .i64 y2)).heap.size := by simpa [World.setCell] using hgw
            replace hL := hL.setCell (p := ⟨g, j * 5 + 2, none⟩) (by show B ≤ g; omega) (.int .i64 y1)
            replace hL := hL.setCell (p := ⟨g, j * 5 + 3, none⟩) (by show B ≤ g; omega) (.int .i64 y2)
            replace hQ := Lib.hid (hQ.out.trans (Kept.set (U := (fun i => i = g)) _ (p := ⟨g, j * 5 + 2, none⟩) (rfl) (.int .i64 y1)))
            replace hQ := Lib.hid (hQ.out.trans (Kept.set (U := (fun i => i = g)) _ (p := ⟨g, j * 5 + 3, none⟩) (rfl) (.int .i64 y2)))
            refine hK.out _ _ ⟨v3, G0, G1, trivial⟩ (fun hHeld => ?_)
            clear hK K
            generalize ((S2.setCell ⟨g, j * 5 + 2, none⟩ (.int .i64 y1)).setCell ⟨g, j * 5 + 3, none⟩ (.int .i64 y2)) = S3 at *
            try simp only [Act.put, List.setIfInBounds_toArray, List.set_cons_zero, List.set_cons_succ]
            refine wpAnyH_done (by kernel_rfl) ?_ _
            have hQ9 := hQ.out
            replace HVq := Lib.hid (HVq.out.kept hQ9 (fun e => hgv e.symm))
            have hLe := hLq.trans hL
            have HKe := Lib.hid (HKq.out.trans (hQ9.mono fun i e => by rw [e]; exact hog))
            clear hQ9 hQ hL hLq HKq hHeld q2 q3 f2 f3 v3 CLj
            go_wp2_with fail
            go_roundw
            case measure => simp [RowKit.intOf]; omega
            exact ⟨j + 1, by omega, by go_num, HVq, HOq, nG, G0, G1, hLe, HKe⟩
          · obtain rfl : j = m := by omega
            have hOf := HOq.out
            rw [List.take_of_length_le (by rw [Hm.out]; exact Nat.le_refl _), List.drop_eq_nil_of_le (by rw [Hm.out]; exact Nat.le_refl _), List.append_nil] at hOf
            have hKt : Kept (fun i => i = vb k ∨ (vs k).ownBlock = some i) wo wr := (hQo.out.mono fun i e => .inl e).trans (HKq.out.mono fun i e => .inr e)
            have HN := Lib.hid (tanks_step hTk (fun i hi g hg => (HOb.out i hi g hg).1) hKt sz fl fh xs (h * C.fl) (h * C.fh) (growL h gl gh) HVr.out hlt ⟨by rw [HP1.out, HP2.out, Hvs.out]; exact HVq.out, by rw [Hvs.out]; exact hOf⟩)
            have hcU : ¬ (c = vb k ∨ (vs k).ownBlock = some c) := fun e => by rcases e with e | e; omega; have := (HOx.out _ e).1; omega
            have htU : ¬ (tk = vb k ∨ (vs k).ownBlock = some tk) := fun e => by rcases e with e | e; omega; have := (HOx.out _ e).1; omega
            replace HCr := Lib.hid (HCr.out.kept hKt hcU htU)
            have hLe := hLr.trans (hLo.trans hLq)
            have HKe := Lib.hid (HKr.out.trans (hKt.mono fun i e => .inr ⟨k, hlt, e⟩))
            clear hOf hKt HVr HVq HOq HKq hQo hLo hLq hLr HKr
            go_wp2_with fail
            go_roundw
            case measure => simp [RowKit.intOf]; omega
            exact ⟨k + 1, by omega, by go_num, HCr, HN, nG, G0, G1, hLe, HKe⟩
      · obtain rfl : k = C.n := by omega
        have HF : Hid (∀ i, i < C.n → TankAt base wo (vb i) (sz i) (min 1000000 (fl i + h * C.fl)) (min 1000000 (fh i + h * C.fh)) (vs i) ((xs i).map (growL h gl gh))) := Lib.hid (fun i hi => by have := HVr.out i hi; simpa [filmT, lotsT, hi] using this)
        clear HVr
        go_wp2_with fail
        go_ret
        exact ⟨rfl, HCr.out, HF.out, hLr, HKr.out⟩
end Go.Proofs.Ytfdaiififoomoaa
