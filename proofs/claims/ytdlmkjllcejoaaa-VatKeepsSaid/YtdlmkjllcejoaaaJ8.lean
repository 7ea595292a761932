/- Contracts: U21, U22, U23, U24, joined. -/
import Derived.Test.YtdlmkjllcejoaaaJ7
import Derived.Test.YtdlmkjllcejoaaaC26
import Derived.Lib.SliceRun
import Derived.Test.YtdlmkjllcejoaaaJ12
import Derived.Test.YtdlmkjllcejoaaaC32
namespace Go.Proofs.Ytdlmkjllcejoaaa
open Go.RowKit Go.Lib Go.Shelf
set_option linter.unusedVariables false
set_option linter.unusedSimpArgs false
attribute [local go_sem ↓] Go.wp_at_zero Go.wp_at_succ

def growL (h gl gh : Int) (l : Lo) : Lo := { l with lo := min 1000000 (l.lo + h * gl), hi := min 1000000 (l.hi + h * gh) }
theorem flatL_cons (l : Lo) (xs : List Lo) : flatL (l :: xs) = cellsL l ++ flatL xs := by simp [flatL]
theorem flatL_set : ∀ (xs : List Lo) (j : Nat) (l : Lo) (x y : Int), xs[j]? = some l → ((flatL xs).set (j * 5 + 2) (.int .i64 x)).set (j * 5 + 3) (.int .i64 y) = flatL (xs.set j { l with lo := x, hi := y })
  | [], j, l, x, y, h => by simp at h
  | p :: xs, 0, l, x, y, h => by
    simp at h
    subst h
    simp [flatL_cons, cellsL]
  | p :: xs, j + 1, l, x, y, h => by
    have ih := flatL_set xs j l x y (by simpa using h)
    rw [List.set_cons_succ, flatL_cons, flatL_cons, ← ih]
    have hc : (cellsL p).length = 5 := rfl
    rw [List.set_append_right _ _ (by omega), List.set_append_right _ _ (by omega), hc, show (j + 1) * 5 + 2 - 5 = j * 5 + 2 from by omega, show (j + 1) * 5 + 3 - 5 = j * 5 + 3 from by omega]
theorem OwnL.setLoad {base g cc : Nat} {W : World} {xs : List Lo} (h : OwnL base W (.slice (some ⟨g, 0, none⟩) xs.length cc) xs) (j : Nat) (l : Lo) (x y : Int) (hj : xs[j]? = some l) :
    OwnL base ((W.setCell ⟨g, j * 5 + 2, none⟩ (.int .i64 x)).setCell ⟨g, j * 5 + 3, none⟩ (.int .i64 y)) (.slice (some ⟨g, 0, none⟩) xs.length cc) (xs.set j { l with lo := x, hi := y }) := by
  have h1 := (World.ownsRow.stored h (j * 5 + 2) (.int .i64 x)).1
  have h2 := (World.ownsRow.stored h1 (j * 5 + 3) (.int .i64 y)).1
  unfold OwnL
  rw [flatL_set xs j l x y hj] at h2
  rw [List.length_set]
  exact h2
theorem VesAt.film {W : World} {b : Nat} {sz fl fh : Int} {v : Value} (h : VesAt W b sz fl fh v) (x y : Int) : VesAt ((W.setCell ⟨b, 1, none⟩ (.int .i64 x)).setCell ⟨b, 2, none⟩ (.int .i64 y)) b sz x y v := by
  obtain ⟨n, c0, c1, c2, c3, f1, f2, f3⟩ := h
  exact ⟨by simpa [World.setCell] using n, by simp [go_sem, c0], by simp [go_sem, c1], by simp [go_sem, c2], by simp [go_sem, c3], by simp [go_sem, f1], by simp [go_sem, f2], by simp [go_sem, f3]⟩
theorem CelAt.later {W : World} {c tk : Nat} {vb : Nat → Nat} {C : Cel} (h : CelAt W c tk vb C) (hne : tk ≠ c) (x : Int) : CelAt (W.setCell ⟨c, 5, none⟩ (.int .i64 x)) c tk vb { C with T := x } := by
  obtain ⟨nc, nt, c0, c1, c2, c3, c4, c5, c6, c7, c8, c9, c10, c11, fr, tp⟩ := h
  refine ⟨by simpa [World.setCell] using nc, by simpa [World.setCell] using nt, ?_, ?_, ?_, ?_, ?_, ?_, ?_, ?_, ?_, ?_, ?_, ?_, fun o => ?_, fun i hi => ?_⟩
  all_goals first | (simp [go_sem, *]; done) | (simp [go_sem, fr]; done) | exact (World.cell?_setCell_other _ _ _ _ (by intro e; injection e with e1 e2; omega)).trans (tp i hi)
/-- what a cellar's tanks are: their blocks are apart -/
structure Tanks (base n : Nat) (vb : Nat → Nat) (vs : Nat → Value) (c tk : Nat) : Prop where
  lt : ∀ i, i < n → vb i < base
  ne : ∀ i j, i < n → j < n → vb i = vb j → i = j
  nc : ∀ i, i < n → vb i ≠ c
  nt : ∀ i, i < n → vb i ≠ tk
  ow : ∀ i j, i < n → j < n → i ≠ j → ∀ g, (vs i).ownBlock = some g → (vs j).ownBlock ≠ some g
def InU (n c : Nat) (vb : Nat → Nat) (vs : Nat → Value) (i : Nat) : Prop := i = c ∨ ∃ k, k < n ∧ (i = vb k ∨ (vs k).ownBlock = some i)
def TankAt (base : Nat) (W : World) (b : Nat) (sz fl fh : Int) (v : Value) (xs : List Lo) : Prop := VesAt W b sz fl fh v ∧ OwnL base W v xs
theorem TankAt.kept {base : Nat} {U : Nat → Prop} {W W' : World} {b : Nat} {sz fl fh : Int} {v : Value} {xs : List Lo} (h : TankAt base W b sz fl fh v xs) (hk : Kept U W W') (h1 : ¬ U b) (h2 : ∀ g, v.ownBlock = some g → ¬ U g) : TankAt base W' b sz fl fh v xs := ⟨h.1.kept hk h1, h.2.kept hk h2⟩
theorem TankAt.below {base : Nat} {W W' : World} {b : Nat} {sz fl fh : Int} {v : Value} {xs : List Lo} (h : TankAt base W b sz fl fh v xs) (hb : Below W.heap.size W W') : TankAt base W' b sz fl fh v xs := h.kept (Kept.of_below' hb fun _ => False) (fun h => h) (fun _ _ h => h)
def ldB (l : Lo) : Prop := (0 ≤ l.lo ∧ l.lo ≤ 1000000) ∧ 0 ≤ l.hi ∧ l.hi ≤ 1000000

theorem OwnL.setLoad' {base g cc n : Nat} {W : World} {xs : List Lo} (hn : xs.length = n) (h : OwnL base W (.slice (some ⟨g, 0, none⟩) n cc) xs) (j : Nat) (l : Lo) (x y : Int) (hj : xs[j]? = some l) :
    OwnL base ((W.setCell ⟨g, j * 5 + 2, none⟩ (.int .i64 x)).setCell ⟨g, j * 5 + 3, none⟩ (.int .i64 y)) (.slice (some ⟨g, 0, none⟩) n cc) (xs.set j { l with lo := x, hi := y }) := by
  subst hn
  exact h.setLoad j l x y hj
theorem OwnL.at {base m cc : Nat} {A : Option Addr} {W : World} {ys : List Lo} (h : OwnL base W (.slice A m cc) ys) (j : Nat) (l : Lo) (hj : ys[j]? = some l) :
    ∃ g, A = some ⟨g, 0, none⟩ ∧ base ≤ g ∧ g < W.heap.size ∧ W.cell? ⟨g, j * 5 + 2, none⟩ = some (.int .i64 l.lo) ∧ W.cell? ⟨g, j * 5 + 3, none⟩ = some (.int .i64 l.hi) ∧ W.frozen? ⟨g, j * 5 + 2, none⟩ = false ∧ W.frozen? ⟨g, j * 5 + 3, none⟩ = false := by
  have hl : j < ys.length := (List.getElem?_eq_some_iff.1 hj).1
  obtain ⟨A', c', e', hr⟩ := h.read
  obtain ⟨g', off, e2, hg', hR⟩ := hr (by omega)
  have hh := h.2
  rcases hh with ⟨e, h0⟩ | ⟨g, cap, cur, e, hb, hg, _⟩
  · omega
  · injection e with e1 e3 e4
    injection e' with e5 e6 e7
    subst e2
    subst e1
    injection e5 with e8
    injection e8 with e9 e10 e11
    subst e9
    subst e10
    obtain ⟨_, _, r2, r3, _⟩ := hR j l hj
    refine ⟨g, rfl, hb, hg', by simpa using r2, by simpa using r3, ?_, ?_⟩
    all_goals simp [World.frozen?, hg]
theorem grow_step (f : Lo → Lo) (xs : List Lo) (j : Nat) (l : Lo) (h : xs[j]? = some l) : ((xs.take j).map f ++ xs.drop j)[j]? = some l ∧ ((xs.take j).map f ++ xs.drop j).set j (f l) = (xs.take (j + 1)).map f ++ xs.drop (j + 1) := by
  have hl : j < xs.length := (List.getElem?_eq_some_iff.1 h).1
  have hd : xs.drop j = l :: xs.drop (j + 1) := by
    rw [List.drop_eq_getElem_cons hl]
    rw [List.getElem?_eq_getElem hl] at h
    injection h with h
    rw [h]
  have hlen : ((xs.take j).map f).length = j := by simp; omega
  rw [hd]
  refine ⟨by rw [List.getElem?_append_right (by omega), hlen]; simp, ?_⟩
  rw [List.set_append_right _ _ (by omega), hlen, Nat.sub_self, List.set_cons_zero, List.take_add_one, h, List.map_append, List.append_assoc]
  rfl
theorem grow_len (f : Lo → Lo) (xs : List Lo) (j : Nat) : ((xs.take j).map f ++ xs.drop j).length = xs.length := by
  simp
  omega
def filmT (k i : Nat) (f p : Int) : Int := if i < k then min 1000000 (f + p) else f
def lotsT (f : Lo → Lo) (k i : Nat) (xs : List Lo) : List Lo := if i < k then xs.map f else xs
theorem tanks_step {base n c tk k : Nat} {vb : Nat → Nat} {vs : Nat → Value} (hT : Tanks base n vb vs c tk) (hOb : ∀ i, i < n → ∀ g, (vs i).ownBlock = some g → base ≤ g) {W W' : World} (hK : Kept (fun i => i = vb k ∨ (vs k).ownBlock = some i) W W') (sz f1 f2 : Nat → Int) (xs : Nat → List Lo) (p1 p2 : Int) (f : Lo → Lo)
    (h : ∀ i, i < n → TankAt base W (vb i) (sz i) (filmT k i (f1 i) p1) (filmT k i (f2 i) p2) (vs i) (lotsT f k i (xs i))) (hk : k < n) (hn : TankAt base W' (vb k) (sz k) (min 1000000 (f1 k + p1)) (min 1000000 (f2 k + p2)) (vs k) ((xs k).map f)) :
    ∀ i, i < n → TankAt base W' (vb i) (sz i) (filmT (k + 1) i (f1 i) p1) (filmT (k + 1) i (f2 i) p2) (vs i) (lotsT f (k + 1) i (xs i)) := by
  intro i hi
  by_cases hik : i = k
  · subst hik
    simpa [filmT, lotsT] using hn
  · have e : (i < k + 1) ↔ (i < k) := by omega
    have := h i hi
    unfold filmT lotsT at this ⊢
    simp only [e]
    refine this.kept hK ?_ ?_
    · intro hu
      rcases hu with hu | hu
      · exact hik (hT.ne i k hi hk hu)
      · have := hOb k hk _ hu
        have := hT.lt i hi
        omega
    · intro g hg hu
      rcases hu with hu | hu
      · have := hOb i hi g hg
        have := hT.lt k hk
        omega
      · exact hT.ow i k hi hk hik g hg hu

def StayP (B base c tk : Nat) (vb : Nat → Nat) (C : Cel) (vs : Nat → Value) (sz fl fh : Nat → Int) (xs : Nat → List Lo) (h gl gh : Int) (w : World) (e : Ending) (w' : World) : Prop :=
  e = .returned (.int .i64 0) ∧ CelAt w' c tk vb { C with T := C.T + h } ∧ (∀ i, i < C.n → TankAt base w' (vb i) (sz i) (min 1000000 (fl i + h * C.fl)) (min 1000000 (fh i + h * C.fh)) (vs i) ((xs i).map (growL h gl gh))) ∧ Below B w w' ∧ Kept (InU C.n c vb vs) w w'

set_option maxRecDepth 20000 in
set_option maxHeartbeats 2000000 in
theorem stay_ok (B base c tk : Nat) (vb : Nat → Nat) (C : Cel) (vs : Nat → Value) (sz fl fh : Nat → Int) (xs : Nat → List Lo) (h tl th gl gh : Int) (w : World) (hn : C.n ≤ 1000) (hBc : B ≤ c) (hBb : B ≤ base) (hBv : ∀ i, i < C.n → B ≤ vb i) (hcb : c < base) (htb : tk < base) (hbase : base ≤ w.heap.size) (htc : tk ≠ c)
    (hTk : Tanks base C.n vb vs c tk) (hC : CelAt w c tk vb C) (hV : ∀ i, i < C.n → TankAt base w (vb i) (sz i) (fl i) (fh i) (vs i) (xs i)) (hx : ∀ i, i < C.n → (xs i).length ≤ 40 ∧ ∀ x ∈ xs i, ldB x)
    (hf : ∀ i, i < C.n → (0 ≤ fl i ∧ fl i ≤ 1000000) ∧ 0 ≤ fh i ∧ fh i ≤ 1000000) (hrf : (0 ≤ C.fl ∧ C.fl ≤ 1000000) ∧ 0 ≤ C.fh ∧ C.fh ≤ 1000000) (hT : 0 ≤ C.T ∧ C.T ≤ 1000000) (hh : 0 ≤ h ∧ h ≤ 1000000 - C.T) (hg : (0 ≤ gl ∧ gl ≤ 1000000000) ∧ 0 ≤ gh ∧ gh ≤ 1000000000)
    (hVal : ∀ W, Below w.heap.size w W → Calls Try.prog 42 #[C.gv, .agg #[.int .i64 tl, .int .i64 th]] W fun e w' => e = .returned (.tuple #[.agg #[.int .i64 gl, .int .i64 gh], .int .i64 0]) ∧ Below W.heap.size W w') :
    Calls Try.prog 36 #[.pointer (some ⟨c, 0, none⟩), .int .i64 h, .agg #[.int .i64 tl, .int .i64 th]] w (StayP B base c tk vb C vs sz fl fh xs h gl gh w) := by
  have CC := Lib.hid (fun (W : World) (h : CelAt W c tk vb C) => check_ok c tk vb C (.slice none 0 0) [] W h hn ⟨none, 0, rfl, fun h => by simp at h⟩ (by simp) (by intro x hx; cases hx))
  have CI := Lib.hid (fun (W : World) (g cp : Nat) => in1v_any 0 (1000000 - C.T) h g cp W)
  rw [show inB 0 (1000000 - C.T) h = true from by simp [inB]; omega] at CI
  have CV := Lib.hid hVal
  have CF := Lib.hid (fun i (hi : i < C.n) => grown_any (fl i) (fh i) C.fl C.fh h (hf i hi).1 (hf i hi).2 ⟨hrf.1.1, by have := hrf.1.2; omega⟩ ⟨hrf.2.1, by have := hrf.2.2; omega⟩ (by omega))
  have CL := Lib.hid (fun (l : Lo) (hl : ldB l) => grown_any l.lo l.hi gl gh h hl.1 hl.2 hg.1 hg.2 (by omega))
  have HX := Lib.hid hx
  have HC := Lib.hid hC
  have HV := Lib.hid hV
  have w5 : IntKind.i64.wrap (C.T + h) = C.T + h := IntWalk.i64_in _ (by omega)
  have w6 : IntKind.i64.wrap (1000000 - C.T) = 1000000 - C.T := IntWalk.i64_in _ (by omega)
  have HOb : Hid (∀ i, i < C.n → ∀ g, (vs i).ownBlock = some g → base ≤ g ∧ g < w.heap.size) := Lib.hid (fun i hi => World.ownsRow.lt (hV i hi).2)
  clear hx hC hV hf hrf hT hh hg hVal
  have c5 := HC.out.c5
  go_enter Try.func36, Try.ntmps36
  go_wp2_with fail
  refine (CC.out _ (HC.out.below ((Below.refl _ _).alloc (Nat.le_refl _) _))).mono ?_
  rintro e w1 ⟨rfl, hb⟩
  have b0 := cell_next hb (b := w.heap.size) (o := 0) (by simp <;> omega) (v := some (.int .i64 tl)) (by simp [go_sem])
  have b1 := cell_next hb (b := w.heap.size) (o := 1) (by simp <;> omega) (v := some (.int .i64 th)) (by simp [go_sem])
  have nb : w.heap.size < w1.heap.size := by have := hb.size; simp at this; omega
  have hB := below1 hb
  replace HC := Lib.hid (HC.out.below hB)
  replace c5 := HC.out.c5
  clear hb CC
  go_wp2_with fail
  refine (CI.out _ _ _ (by simp) (by simp [go_sem])).mono ?_
  rintro e w2 ⟨rfl, hb⟩
  have hb' := below1 hb
  replace b0 := cell_next hb' nb b0
  replace b1 := cell_next hb' nb b1
  replace nb := Nat.lt_of_lt_of_le nb hb'.size
  replace hB := hB.trans (hb'.mono hB.size)
  replace HC := Lib.hid (HC.out.below hb')
  have c0 := HC.out.c0
  have nc := HC.out.nc
  clear hb hb' CI c5
  have hBW := Nat.le_refl w2.heap.size
  go_upto_region 6 with fail
  apply suff1 (R := fun g8 W => g8 < W.heap.size ∧ W.cell? ⟨g8, 0, none⟩ = some (.int .i64 gl) ∧ W.cell? ⟨g8, 1, none⟩ = some (.int .i64 gh) ∧ w2.heap.size ≤ g8 ∧ Below w2.heap.size w2 W)
  case main =>
    intro key
    refine wp_region_held_drew (S := fun w' => w'.cell? ⟨w.heap.size, 0, none⟩ = some (.int .i64 tl) ∧ w'.cell? ⟨w.heap.size, 1, none⟩ = some (.int .i64 th) ∧ w'.cell? ⟨c, 0, none⟩ = some (C.gv) ∧ True) (by kernel_rfl) ?_ (fun hHeld => ?_)
    focus (exact ⟨b0, b1, c0, trivial⟩)
    have hL : Below w2.heap.size w2 w2.drew := Below.drew (Below.refl _ _)
    replace b0 : w2.drew.cell? ⟨w.heap.size, 0, none⟩ = some (.int .i64 tl) := b0
    replace b1 : w2.drew.cell? ⟨w.heap.size, 1, none⟩ = some (.int .i64 th) := b1
    replace c0 : w2.drew.cell? ⟨c, 0, none⟩ = some (C.gv) := c0
    replace nb : w.heap.size < w2.drew.heap.size := nb
    replace nc : c < w2.drew.heap.size := nc
    generalize hWd : w2.drew = wd at hHeld hL b0 b1 c0 nb nc  ⊢
    clear hWd
    refine take_slot (i := 0) (d := 28) (v := ?_) rfl rfl (by kernel_rfl) (by kernel_rfl) (by kernel_rfl) (fun _ _ _ h => h) (Or.inl ⟨by rfl, ?_⟩) (by assumption) ?_
    rotate_left 1
    focus (intro wS hSw; (try dsimp only at hSw); go_simp; try with_reducible rfl)
    try simp only [List.setIfInBounds_toArray, List.set_cons_zero, List.set_cons_succ]
    refine take_slot (i := 1) (d := 29) (v := ?_) rfl rfl (by kernel_rfl) (by kernel_rfl) (by kernel_rfl) (fun _ _ _ h => h) (Or.inl ⟨by rfl, ?_⟩) (by assumption) ?_
    rotate_left 1
    focus (intro wS hSw; (try dsimp only at hSw); go_simp; try with_reducible rfl)
    try simp only [List.setIfInBounds_toArray, List.set_cons_zero, List.set_cons_succ]
    refine take_slot (i := 2) (d := 30) (v := ?_) rfl rfl (by kernel_rfl) (by kernel_rfl) (by kernel_rfl) (fun _ _ _ h => h) (Or.inl ⟨by rfl, ?_⟩) (by assumption) ?_
    rotate_left 1
    focus (intro wS hSw; (try dsimp only at hSw); go_simp; try with_reducible rfl)
    try simp only [List.setIfInBounds_toArray, List.set_cons_zero, List.set_cons_succ]
    refine take_slot (i := 3) (d := 31) (v := ?_) rfl rfl (by kernel_rfl) (by kernel_rfl) (by kernel_rfl) (fun _ _ _ h => h) (Or.inl ⟨by rfl, ?_⟩) (by assumption) ?_
    rotate_left 1
    focus (intro wS hSw; (try dsimp only at hSw); go_simp; try with_reducible rfl)
    try simp only [List.setIfInBounds_toArray, List.set_cons_zero, List.set_cons_succ]
    refine take_slot (i := 4) (d := 32) (v := ?_) rfl rfl (by kernel_rfl) (by kernel_rfl) (by kernel_rfl) (fun _ _ _ h => h) (Or.inl ⟨by rfl, ?_⟩) (by assumption) ?_
    rotate_left 1
    focus (intro wS hSw; (try dsimp only at hSw); go_simp; try with_reducible rfl)
    try simp only [List.setIfInBounds_toArray, List.set_cons_zero, List.set_cons_succ]
    refine take_slot (i := 5) (d := 33) (v := ?_) rfl rfl (by kernel_rfl) (by kernel_rfl) (by kernel_rfl) (fun _ _ _ h => h) (Or.inl ⟨by rfl, ?_⟩) (by assumption) ?_
    rotate_left 1
    focus (intro wS hSw; (try dsimp only at hSw); go_simp; try with_reducible rfl)
    try simp only [List.setIfInBounds_toArray, List.set_cons_zero, List.set_cons_succ]
    refine wpAnyH_ready (rs := [6, 10]) (by kernel_rfl) (by simp) ?_
    refine AllReadyH.cons rfl (fun K hK => ?_) (AllReadyH.cons rfl (fun K hK => ?_) AllReadyH.nil)
    · go_simp
      refine (CV.out _ (hB.trans (hL.mono hB.size))).mono ?_
      rintro e Z1 ⟨rfl, hb⟩
      replace b0 := cell_next hb nb b0
      replace b1 := cell_next hb nb b1
      replace c0 := cell_next hb nc c0
      replace nb := Nat.lt_of_lt_of_le nb hb.size
      replace nc := Nat.lt_of_lt_of_le nc hb.size
      replace hL := hL.trans (hb.mono (Nat.le_trans hBW hL.size))
      refine hK.out _ _ ⟨b0, b1, c0, trivial⟩ (fun hHeld => ?_)
      clear hK K hb
      try simp only [Act.put, List.setIfInBounds_toArray, List.set_cons_zero, List.set_cons_succ]
      refine take_slot (i := 7) (d := 27) (v := ?_) rfl rfl (by kernel_rfl) (by kernel_rfl) (by kernel_rfl) (fun _ _ _ h => h) (Or.inl ⟨by rfl, ?_⟩) (by assumption) ?_
      rotate_left 1
      focus (intro wS hSw; (try dsimp only at hSw); go_simp; try with_reducible rfl)
      try simp only [List.setIfInBounds_toArray, List.set_cons_zero, List.set_cons_succ]
      refine take_slot (i := 8) (d := 35) (v := ?_) rfl rfl (by kernel_rfl) (by kernel_rfl) (by kernel_rfl) (fun _ _ _ h => h) (Or.inl ⟨by rfl, ?_⟩) (by assumption) ?_
      rotate_left 1
      focus (intro wS hSw; (try dsimp only at hSw); go_simp; try with_reducible rfl)
      try simp only [List.setIfInBounds_toArray, List.set_cons_zero, List.set_cons_succ]
      refine take_slot (i := 9) (d := 36) (v := ?_) rfl rfl (by kernel_rfl) (by kernel_rfl) (by kernel_rfl) (fun _ _ _ h => h) (Or.inl ⟨by rfl, ?_⟩) (by assumption) ?_
      rotate_left 1
      focus (intro wS hSw; (try dsimp only at hSw); go_simp; try with_reducible rfl)
      try simp only [List.setIfInBounds_toArray, List.set_cons_zero, List.set_cons_succ]
      refine wpAnyH_ready (rs := [10]) (by kernel_rfl) (by simp) ?_
      refine AllReadyH.cons rfl (fun K hK => ?_) AllReadyH.nil
      go_simp
      have hb := (Below.refl Z1.heap.size Z1).alloc (Nat.le_refl _) (Obj.cells #[.int .i64 0, .int .i64 0] 24)
      have szZ2 := hL.size
      have ord2nb := nb
      have ord2nc := nc
      replace b0 := cell_next hb nb b0
      replace b1 := cell_next hb nb b1
      replace c0 := cell_next hb nc c0
      replace nb := Nat.lt_of_lt_of_le nb hb.size
      replace nc := Nat.lt_of_lt_of_le nc hb.size
      replace hL := hL.trans (hb.mono (Nat.le_trans hBW hL.size))
      have Gf0 : (Z1.alloc (Obj.cells #[.int .i64 0, .int .i64 0] 24)).frozen? ⟨Z1.heap.size, 0, none⟩ = false := by simp [go_sem]
      have Gf1 : (Z1.alloc (Obj.cells #[.int .i64 0, .int .i64 0] 24)).frozen? ⟨Z1.heap.size, 1, none⟩ = false := by simp [go_sem]
      have G0 : (Z1.alloc (Obj.cells #[.int .i64 0, .int .i64 0] 24)).cell? ⟨Z1.heap.size, 0, none⟩ = some (.int .i64 0) := cell_new _ _ _ 0
      have G1 : (Z1.alloc (Obj.cells #[.int .i64 0, .int .i64 0] 24)).cell? ⟨Z1.heap.size, 1, none⟩ = some (.int .i64 0) := cell_new _ _ _ 1
      have nG : Z1.heap.size < (Z1.alloc (Obj.cells #[.int .i64 0, .int .i64 0] 24)).heap.size := by simp
      refine hK.out _ _ ⟨b0, b1, c0, trivial⟩ (fun hHeld => ?_)
      clear hK K hb
      generalize Z1.alloc (Obj.cells #[.int .i64 0, .int .i64 0] 24) = Z2 at *
      try simp only [Act.put, List.setIfInBounds_toArray, List.set_cons_zero, List.set_cons_succ]
      refine wpAnyH_ready (rs := [11]) (by kernel_rfl) (by simp) ?_
      refine AllReadyH.cons rfl (fun K hK => ?_) AllReadyH.nil
      go_simp
      replace b0 : ((Z2.setCell ⟨Z1.heap.size, 0, none⟩ (.int .i64 gl)).setCell ⟨Z1.heap.size, 1, none⟩ (.int .i64 gh)).cell? ⟨w.heap.size, 0, none⟩ = some (.int .i64 tl) := ((World.cell?_setCell_other _ _ _ _ (by intro e; injection e with e1 e2; omega)).trans ((World.cell?_setCell_other _ _ _ _ (by intro e; injection e with e1 e2; omega)).trans b0))
      replace b1 : ((Z2.setCell ⟨Z1.heap.size, 0, none⟩ (.int .i64 gl)).setCell ⟨Z1.heap.size, 1, none⟩ (.int .i64 gh)).cell? ⟨w.heap.size, 1, none⟩ = some (.int .i64 th) := ((World.cell?_setCell_other _ _ _ _ (by intro e; injection e with e1 e2; omega)).trans ((World.cell?_setCell_other _ _ _ _ (by intro e; injection e with e1 e2; omega)).trans b1))
      replace c0 : ((Z2.setCell ⟨Z1.heap.size, 0, none⟩ (.int .i64 gl)).setCell ⟨Z1.heap.size, 1, none⟩ (.int .i64 gh)).cell? ⟨c, 0, none⟩ = some (C.gv) := ((World.cell?_setCell_other _ _ _ _ (by intro e; injection e with e1 e2; omega)).trans ((World.cell?_setCell_other _ _ _ _ (by intro e; injection e with e1 e2; omega)).trans c0))
      replace Gf0 : ((Z2.setCell ⟨Z1.heap.size, 0, none⟩ (.int .i64 gl)).setCell ⟨Z1.heap.size, 1, none⟩ (.int .i64 gh)).frozen? ⟨Z1.heap.size, 0, none⟩ = false := by simp [go_sem, Gf0]
      replace Gf1 : ((Z2.setCell ⟨Z1.heap.size, 0, none⟩ (.int .i64 gl)).setCell ⟨Z1.heap.size, 1, none⟩ (.int .i64 gh)).frozen? ⟨Z1.heap.size, 1, none⟩ = false := by simp [go_sem, Gf1]
      replace G0 : ((Z2.setCell ⟨Z1.heap.size, 0, none⟩ (.int .i64 gl)).setCell ⟨Z1.heap.size, 1, none⟩ (.int .i64 gh)).cell? ⟨Z1.heap.size, 0, none⟩ = some (.int .i64 gl) := by simp [go_sem, G0]
      replace G1 : ((Z2.setCell ⟨Z1.heap.size, 0, none⟩ (.int .i64 gl)).setCell ⟨Z1.heap.size, 1, none⟩ (.int .i64 gh)).cell? ⟨Z1.heap.size, 1, none⟩ = some (.int .i64 gh) := by simp [go_sem, G1]
      replace nb : w.heap.size < ((Z2.setCell ⟨Z1.heap.size, 0, none⟩ (.int .i64 gl)).setCell ⟨Z1.heap.size, 1, none⟩ (.int .i64 gh)).heap.size := by simpa [World.setCell] using nb
      replace nc : c < ((Z2.setCell ⟨Z1.heap.size, 0, none⟩ (.int .i64 gl)).setCell ⟨Z1.heap.size, 1, none⟩ (.int .i64 gh)).heap.size := by simpa [World.setCell] using nc
      replace nG : Z1.heap.size < ((Z2.setCell ⟨Z1.heap.size, 0, none⟩ (.int .i64 gl)).setCell ⟨Z1.heap.size, 1, none⟩ (.int .i64 gh)).heap.size := by simpa [World.setCell] using nG
      replace hL := hL.setCell (p := ⟨Z1.heap.size, 0, none⟩) (by show w2.heap.size ≤ Z1.heap.size; omega) (.int .i64 gl)
      replace hL := hL.setCell (p := ⟨Z1.heap.size, 1, none⟩) (by show w2.heap.size ≤ Z1.heap.size; omega) (.int .i64 gh)
      refine hK.out _ _ ⟨b0, b1, c0, trivial⟩ (fun hHeld => ?_)
      clear hK K
      generalize ((Z2.setCell ⟨Z1.heap.size, 0, none⟩ (.int .i64 gl)).setCell ⟨Z1.heap.size, 1, none⟩ (.int .i64 gh)) = Z3 at *
      try simp only [Act.put, List.setIfInBounds_toArray, List.set_cons_zero, List.set_cons_succ]
      refine take_slot (i := 12) (d := 9) (v := ?_) rfl rfl (by kernel_rfl) (by kernel_rfl) (by kernel_rfl) (fun _ _ _ h => h) (Or.inl ⟨by rfl, ?_⟩) (by assumption) ?_
      rotate_left 1
      focus (intro wS hSw; (try dsimp only at hSw); go_simp; try with_reducible rfl)
      try simp only [List.setIfInBounds_toArray, List.set_cons_zero, List.set_cons_succ]
      refine wpAnyH_done (by kernel_rfl) ?_ _
      generalize Z1.heap.size = g8 at *
      exact key g8 Z3 ⟨nG, G0, G1, by omega, hL⟩
    · go_simp
      have hb := (Below.refl wd.heap.size wd).alloc (Nat.le_refl _) (Obj.cells #[.int .i64 0, .int .i64 0] 24)
      have szZ4 := hL.size
      have ord4nb := nb
      have ord4nc := nc
      replace b0 := cell_next hb nb b0
      replace b1 := cell_next hb nb b1
      replace c0 := cell_next hb nc c0
      replace nb := Nat.lt_of_lt_of_le nb hb.size
      replace nc := Nat.lt_of_lt_of_le nc hb.size
      replace hL := hL.trans (hb.mono (Nat.le_trans hBW hL.size))
      have Gf0 : (wd.alloc (Obj.cells #[.int .i64 0, .int .i64 0] 24)).frozen? ⟨wd.heap.size, 0, none⟩ = false := by simp [go_sem]
      have Gf1 : (wd.alloc (Obj.cells #[.int .i64 0, .int .i64 0] 24)).frozen? ⟨wd.heap.size, 1, none⟩ = false := by simp [go_sem]
      have G0 : (wd.alloc (Obj.cells #[.int .i64 0, .int .i64 0] 24)).cell? ⟨wd.heap.size, 0, none⟩ = some (.int .i64 0) := cell_new _ _ _ 0
      have G1 : (wd.alloc (Obj.cells #[.int .i64 0, .int .i64 0] 24)).cell? ⟨wd.heap.size, 1, none⟩ = some (.int .i64 0) := cell_new _ _ _ 1
      have nG : wd.heap.size < (wd.alloc (Obj.cells #[.int .i64 0, .int .i64 0] 24)).heap.size := by simp
      refine hK.out _ _ ⟨b0, b1, c0, trivial⟩ (fun hHeld => ?_)
      clear hK K hb
      generalize wd.alloc (Obj.cells #[.int .i64 0, .int .i64 0] 24) = Z4 at *
      try simp only [Act.put, List.setIfInBounds_toArray, List.set_cons_zero, List.set_cons_succ]
      refine wpAnyH_ready (rs := [6]) (by kernel_rfl) (by simp) ?_
      refine AllReadyH.cons rfl (fun K hK => ?_) AllReadyH.nil
      go_simp
      refine (CV.out _ (hB.trans (hL.mono hB.size))).mono ?_
      rintro e Z5 ⟨rfl, hb⟩
      replace b0 := cell_next hb nb b0
      replace b1 := cell_next hb nb b1
      replace c0 := cell_next hb nc c0
      replace Gf0 := frozen_next hb nG Gf0
      replace Gf1 := frozen_next hb nG Gf1
      replace G0 := cell_next hb nG G0
      replace G1 := cell_next hb nG G1
      replace nb := Nat.lt_of_lt_of_le nb hb.size
      replace nc := Nat.lt_of_lt_of_le nc hb.size
      replace nG := Nat.lt_of_lt_of_le nG hb.size
      replace hL := hL.trans (hb.mono (Nat.le_trans hBW hL.size))
      refine hK.out _ _ ⟨b0, b1, c0, trivial⟩ (fun hHeld => ?_)
      clear hK K hb
      try simp only [Act.put, List.setIfInBounds_toArray, List.set_cons_zero, List.set_cons_succ]
      refine take_slot (i := 7) (d := 27) (v := ?_) rfl rfl (by kernel_rfl) (by kernel_rfl) (by kernel_rfl) (fun _ _ _ h => h) (Or.inl ⟨by rfl, ?_⟩) (by assumption) ?_
      rotate_left 1
      focus (intro wS hSw; (try dsimp only at hSw); go_simp; try with_reducible rfl)
      try simp only [List.setIfInBounds_toArray, List.set_cons_zero, List.set_cons_succ]
      refine take_slot (i := 8) (d := 35) (v := ?_) rfl rfl (by kernel_rfl) (by kernel_rfl) (by kernel_rfl) (fun _ _ _ h => h) (Or.inl ⟨by rfl, ?_⟩) (by assumption) ?_
      rotate_left 1
      focus (intro wS hSw; (try dsimp only at hSw); go_simp; try with_reducible rfl)
      try simp only [List.setIfInBounds_toArray, List.set_cons_zero, List.set_cons_succ]
      refine take_slot (i := 9) (d := 36) (v := ?_) rfl rfl (by kernel_rfl) (by kernel_rfl) (by kernel_rfl) (fun _ _ _ h => h) (Or.inl ⟨by rfl, ?_⟩) (by assumption) ?_
      rotate_left 1
      focus (intro wS hSw; (try dsimp only at hSw); go_simp; try with_reducible rfl)
      try simp only [List.setIfInBounds_toArray, List.set_cons_zero, List.set_cons_succ]
      refine wpAnyH_ready (rs := [11]) (by kernel_rfl) (by simp) ?_
      refine AllReadyH.cons rfl (fun K hK => ?_) AllReadyH.nil
      go_simp
      replace b0 : ((Z5.setCell ⟨wd.heap.size, 0, none⟩ (.int .i64 gl)).setCell ⟨wd.heap.size, 1, none⟩ (.int .i64 gh)).cell? ⟨w.heap.size, 0, none⟩ = some (.int .i64 tl) := ((World.cell?_setCell_other _ _ _ _ (by intro e; injection e with e1 e2; omega)).trans ((World.cell?_setCell_other _ _ _ _ (by intro e; injection e with e1 e2; omega)).trans b0))
      replace b1 : ((Z5.setCell ⟨wd.heap.size, 0, none⟩ (.int .i64 gl)).setCell ⟨wd.heap.size, 1, none⟩ (.int .i64 gh)).cell? ⟨w.heap.size, 1, none⟩ = some (.int .i64 th) := ((World.cell?_setCell_other _ _ _ _ (by intro e; injection e with e1 e2; omega)).trans ((World.cell?_setCell_other _ _ _ _ (by intro e; injection e with e1 e2; omega)).trans b1))
      replace c0 : ((Z5.setCell ⟨wd.heap.size, 0, none⟩ (.int .i64 gl)).setCell ⟨wd.heap.size, 1, none⟩ (.int .i64 gh)).cell? ⟨c, 0, none⟩ = some (C.gv) := ((World.cell?_setCell_other _ _ _ _ (by intro e; injection e with e1 e2; omega)).trans ((World.cell?_setCell_other _ _ _ _ (by intro e; injection e with e1 e2; omega)).trans c0))
      replace Gf0 : ((Z5.setCell ⟨wd.heap.size, 0, none⟩ (.int .i64 gl)).setCell ⟨wd.heap.size, 1, none⟩ (.int .i64 gh)).frozen? ⟨wd.heap.size, 0, none⟩ = false := by simp [go_sem, Gf0]
      replace Gf1 : ((Z5.setCell ⟨wd.heap.size, 0, none⟩ (.int .i64 gl)).setCell ⟨wd.heap.size, 1, none⟩ (.int .i64 gh)).frozen? ⟨wd.heap.size, 1, none⟩ = false := by simp [go_sem, Gf1]
      replace G0 : ((Z5.setCell ⟨wd.heap.size, 0, none⟩ (.int .i64 gl)).setCell ⟨wd.heap.size, 1, none⟩ (.int .i64 gh)).cell? ⟨wd.heap.size, 0, none⟩ = some (.int .i64 gl) := by simp [go_sem, G0]
      replace G1 : ((Z5.setCell ⟨wd.heap.size, 0, none⟩ (.int .i64 gl)).setCell ⟨wd.heap.size, 1, none⟩ (.int .i64 gh)).cell? ⟨wd.heap.size, 1, none⟩ = some (.int .i64 gh) := by simp [go_sem, G1]
      replace nb : w.heap.size < ((Z5.setCell ⟨wd.heap.size, 0, none⟩ (.int .i64 gl)).setCell ⟨wd.heap.size, 1, none⟩ (.int .i64 gh)).heap.size := by simpa [World.setCell] using nb
      replace nc : c < ((Z5.setCell ⟨wd.heap.size, 0, none⟩ (.int .i64 gl)).setCell ⟨wd.heap.size, 1, none⟩ (.int .i64 gh)).heap.size := by simpa [World.setCell] using nc
      replace nG : wd.heap.size < ((Z5.setCell ⟨wd.heap.size, 0, none⟩ (.int .i64 gl)).setCell ⟨wd.heap.size, 1, none⟩ (.int .i64 gh)).heap.size := by simpa [World.setCell] using nG
      replace hL := hL.setCell (p := ⟨wd.heap.size, 0, none⟩) (by show w2.heap.size ≤ wd.heap.size; omega) (.int .i64 gl)
      replace hL := hL.setCell (p := ⟨wd.heap.size, 1, none⟩) (by show w2.heap.size ≤ wd.heap.size; omega) (.int .i64 gh)
      refine hK.out _ _ ⟨b0, b1, c0, trivial⟩ (fun hHeld => ?_)
      clear hK K
      generalize ((Z5.setCell ⟨wd.heap.size, 0, none⟩ (.int .i64 gl)).setCell ⟨wd.heap.size, 1, none⟩ (.int .i64 gh)) = Z6 at *
      try simp only [Act.put, List.setIfInBounds_toArray, List.set_cons_zero, List.set_cons_succ]
      refine take_slot (i := 12) (d := 9) (v := ?_) rfl rfl (by kernel_rfl) (by kernel_rfl) (by kernel_rfl) (fun _ _ _ h => h) (Or.inl ⟨by rfl, ?_⟩) (by assumption) ?_
      rotate_left 1
      focus (intro wS hSw; (try dsimp only at hSw); go_simp; try with_reducible rfl)
      try simp only [List.setIfInBounds_toArray, List.set_cons_zero, List.set_cons_succ]
      refine wpAnyH_done (by kernel_rfl) ?_ _
      generalize wd.heap.size = g8 at *
      exact key g8 Z6 ⟨nG, G0, G1, by omega, hL⟩
  case key =>
    intro g8 Y ⟨nG, G0, G1, hg8, hL⟩
    replace hB := hB.trans (hL.mono hB.size)
    replace HC := Lib.hid (HC.out.below hL)
    replace HV : Hid (∀ i, i < C.n → TankAt base Y (vb i) (sz i) (fl i) (fh i) (vs i) (xs i)) := Lib.hid (fun i hi => (HV.out i hi).below hB)
    have hwY := hB.size
    have hw8 : w.heap.size < g8 := by omega
    have c4 := HC.out.c4
    have c5 := HC.out.c5
    have f5 := HC.out.fr 5
    replace nc := HC.out.nc
    clear hL b0 b1 c0 nb
    go_wp2_with fail
    have hBw : B ≤ w.heap.size := by omega
    have hY1 : ∃ Y1, Y.setCell ⟨c, 5, none⟩ (.int .i64 (C.T + h)) = Y1 := ⟨_, rfl⟩
    have HC1 : Hid (CelAt (Y.setCell ⟨c, 5, none⟩ (.int .i64 (C.T + h))) c tk vb { C with T := C.T + h }) := Lib.hid (HC.out.later htc _)
    have hKc : Kept (fun i => i = c) Y (Y.setCell ⟨c, 5, none⟩ (.int .i64 (C.T + h))) := Kept.set (U := fun i => i = c) _ (p := ⟨c, 5, none⟩) rfl _
    have hB1 : Below B w (Y.setCell ⟨c, 5, none⟩ (.int .i64 (C.T + h))) := (hB.mono hBw).setCell (p := ⟨c, 5, none⟩) hBc _
    have HK1 : Hid (Kept (InU C.n c vb vs) w (Y.setCell ⟨c, 5, none⟩ (.int .i64 (C.T + h)))) := Lib.hid ((Kept.of_below' hB _).trans (hKc.mono fun i hi => .inl hi))
    have HV1 : Hid (∀ i, i < C.n → TankAt base (Y.setCell ⟨c, 5, none⟩ (.int .i64 (C.T + h))) (vb i) (sz i) (filmT 0 i (fl i) (h * C.fl)) (filmT 0 i (fh i) (h * C.fh)) (vs i) (lotsT (growL h gl gh) 0 i (xs i))) := Lib.hid (fun i hi => (HV.out i hi).kept hKc (hTk.nc i hi) (fun g hg hgc => by have := (HOb.out i hi g hg).1; omega))
    have g8c : ¬ (g8 = c) := by omega
    replace G0 := (hKc.cell (p := ⟨g8, 0, none⟩) nG g8c).trans G0
    replace G1 := (hKc.cell (p := ⟨g8, 1, none⟩) nG g8c).trans G1
    replace nG := Nat.lt_of_lt_of_le nG hKc.1
    clear hKc HC HV c4 c5 f5 nc hB hwY hY1 hBW
    generalize Y.setCell ⟨c, 5, none⟩ (.int .i64 (C.T + h)) = Y1 at *
    go_loopw [53] (fun i wr => ∃ k : Nat, k ≤ C.n ∧ i = .int .i64 k ∧ Hid (CelAt wr c tk vb { C with T := C.T + h }) ∧ Hid (∀ i, i < C.n → TankAt base wr (vb i) (sz i) (filmT k i (fl i) (h * C.fl)) (filmT k i (fh i) (h * C.fh)) (vs i) (lotsT (growL h gl gh) k i (xs i))) ∧ g8 < wr.heap.size ∧ wr.cell? ⟨g8, 0, none⟩ = some (.int .i64 gl) ∧ wr.cell? ⟨g8, 1, none⟩ = some (.int .i64 gh) ∧ Below B w wr ∧ Hid (Kept (InU C.n c vb vs) w wr)) (fun i _ => C.n - (RowKit.intOf i).toNat)
    case atStart => exact ⟨0, Nat.zero_le _, rfl, HC1, HV1, nG, G0, G1, hB1, HK1⟩
    case round =>
      clear HC1 HV1 nG G0 G1 hB1 HK1
      obtain ⟨k, hk, rfl, HCr, HVr, nG, G0, G1, hLr, HKr⟩ := hrel
      obtain ⟨wo, hwo⟩ : ∃ wo, wo = wr := ⟨_, rfl⟩
      subst hwo
      by_cases hlt : k < C.n
      · have tpk : wo.cell? ⟨tk, k, none⟩ = some (.pointer (some ⟨vb k, 0, none⟩)) := HCr.out.tp k hlt
        have c2 : wo.cell? ⟨c, 2, none⟩ = some (.int .i64 C.fl) := HCr.out.c2
        have c3 : wo.cell? ⟨c, 3, none⟩ = some (.int .i64 C.fh) := HCr.out.c3
        have nc := HCr.out.nc
        have hBvk := hBv k hlt
        have hvkc := hTk.nc k hlt
        have hvkt := hTk.nt k hlt
        have hvkb := hTk.lt k hlt
        have hxk := (HX.out k hlt).1
        have hTAk := HVr.out k hlt
        have CFk := CF.out k hlt
        rw [show filmT k k (fl k) (h * C.fl) = fl k from by simp [filmT], show filmT k k (fh k) (h * C.fh) = fh k from by simp [filmT], show lotsT (growL h gl gh) k k (xs k) = xs k from by simp [lotsT]] at hTAk
        obtain ⟨hvk, hok⟩ := hTAk
        obtain ⟨A, cc, hvs⟩ := hok.form
        have HOx := Lib.hid (HOb.out k hlt)
        rw [hvs] at hvk hok
        have HVk := Lib.hid hvk
        have HOk := Lib.hid hok
        have v1 := hvk.c1
        have v2 := hvk.c2
        have f1 := hvk.f1
        have f2 := hvk.f2
        have nv := hvk.n
        obtain ⟨p1, hp1⟩ : ∃ p, min 1000000 (fl k + h * C.fl) = p := ⟨_, rfl⟩
        obtain ⟨p2, hp2⟩ : ∃ p, min 1000000 (fh k + h * C.fh) = p := ⟨_, rfl⟩
        rw [hp1, hp2] at CFk
        have HP1 := Lib.hid hp1
        have HP2 := Lib.hid hp2
        obtain ⟨m, hm⟩ : ∃ m, (xs k).length = m := ⟨_, rfl⟩
        rw [hm] at hxk hvs HVk HOk
        have Hvs := Lib.hid hvs
        have Hm := Lib.hid hm
        replace CFk := Lib.hid CFk
        clear hvk hok hp1 hp2 hm hvs
        have hBW : B ≤ wo.heap.size := Nat.le_trans hBw hLr.size
        go_upto_region 13 with fail
        refine wp_region_held_drew (S := fun w' => w'.cell? ⟨c, 2, none⟩ = some (.int .i64 C.fl) ∧ w'.cell? ⟨c, 3, none⟩ = some (.int .i64 C.fh) ∧ True) (by kernel_rfl) ?_ (fun hHeld => ?_)
        focus (exact ⟨c2, c3, trivial⟩)
        have hL : Below B wo wo.drew := Below.drew (Below.refl _ _)
        have hQ : Hid (Kept (fun i => i = vb k) wo wo.drew) := Lib.hid (Kept.refl _ _)
        replace c2 : wo.drew.cell? ⟨c, 2, none⟩ = some (.int .i64 C.fl) := c2
        replace c3 : wo.drew.cell? ⟨c, 3, none⟩ = some (.int .i64 C.fh) := c3
        replace v1 : wo.drew.cell? ⟨vb k, 1, none⟩ = some (.int .i64 (fl k)) := v1
        replace v2 : wo.drew.cell? ⟨vb k, 2, none⟩ = some (.int .i64 (fh k)) := v2
        replace f1 : wo.drew.frozen? ⟨vb k, 1, none⟩ = false := f1
        replace f2 : wo.drew.frozen? ⟨vb k, 2, none⟩ = false := f2
        replace G0 : wo.drew.cell? ⟨g8, 0, none⟩ = some (.int .i64 gl) := G0
        replace G1 : wo.drew.cell? ⟨g8, 1, none⟩ = some (.int .i64 gh) := G1
        replace nc : c < wo.drew.heap.size := nc
        replace nv : vb k < wo.drew.heap.size := nv
        replace nG : g8 < wo.drew.heap.size := nG
        replace HVk := Lib.hid (HVk.out.below (Below.drew (Below.refl _ _)))
        generalize hWd : wo.drew = wd13 at hHeld hL hQ c2 c3 v1 v2 f1 f2 G0 G1 nc nv nG HVk ⊢
        clear hWd
        refine take_slot (i := 0) (d := 57) (v := ?_) rfl rfl (by kernel_rfl) (by kernel_rfl) (by kernel_rfl) (fun _ _ _ h => h) (Or.inl ⟨by rfl, ?_⟩) (by assumption) ?_
        rotate_left 1
        focus (intro wS hSw; (try dsimp only at hSw); go_simp; try with_reducible rfl)
        try simp only [List.setIfInBounds_toArray, List.set_cons_zero, List.set_cons_succ]
        refine take_slot (i := 1) (d := 58) (v := ?_) rfl rfl (by kernel_rfl) (by kernel_rfl) (by kernel_rfl) (fun _ _ _ h => h) (Or.inl ⟨by rfl, ?_⟩) (by assumption) ?_
        rotate_left 1
        focus (intro wS hSw; (try dsimp only at hSw); go_simp; try with_reducible rfl)
        try simp only [List.setIfInBounds_toArray, List.set_cons_zero, List.set_cons_succ]
        refine take_slot (i := 2) (d := 59) (v := ?_) rfl rfl (by kernel_rfl) (by kernel_rfl) (by kernel_rfl) (fun _ _ _ h => h) (Or.inl ⟨by rfl, ?_⟩) (by assumption) ?_
        rotate_left 1
        focus (intro wS hSw; (try dsimp only at hSw); go_simp; try with_reducible rfl)
        try simp only [List.setIfInBounds_toArray, List.set_cons_zero, List.set_cons_succ]
        refine take_slot (i := 3) (d := 60) (v := ?_) rfl rfl (by kernel_rfl) (by kernel_rfl) (by kernel_rfl) (fun _ _ _ h => h) (Or.inl ⟨by rfl, ?_⟩) (by assumption) ?_
        rotate_left 1
        focus (intro wS hSw; (try dsimp only at hSw); go_simp; try with_reducible rfl)
        try simp only [List.setIfInBounds_toArray, List.set_cons_zero, List.set_cons_succ]
        refine take_slot (i := 5) (d := 62) (v := ?_) rfl rfl (by kernel_rfl) (by kernel_rfl) (by kernel_rfl) (fun _ _ _ h => h) (Or.inl ⟨by rfl, ?_⟩) (by assumption) ?_
        rotate_left 1
        focus (intro wS hSw; (try dsimp only at hSw); go_simp; try with_reducible rfl)
        try simp only [List.setIfInBounds_toArray, List.set_cons_zero, List.set_cons_succ]
        refine take_slot (i := 6) (d := 63) (v := ?_) rfl rfl (by kernel_rfl) (by kernel_rfl) (by kernel_rfl) (fun _ _ _ h => h) (Or.inl ⟨by rfl, ?_⟩) (by assumption) ?_
        rotate_left 1
        focus (intro wS hSw; (try dsimp only at hSw); go_simp; try with_reducible rfl)
        try simp only [List.setIfInBounds_toArray, List.set_cons_zero, List.set_cons_succ]
        refine take_slot (i := 7) (d := 64) (v := ?_) rfl rfl (by kernel_rfl) (by kernel_rfl) (by kernel_rfl) (fun _ _ _ h => h) (Or.inl ⟨by rfl, ?_⟩) (by assumption) ?_
        rotate_left 1
        focus (intro wS hSw; (try dsimp only at hSw); go_simp; try with_reducible rfl)
        try simp only [List.setIfInBounds_toArray, List.set_cons_zero, List.set_cons_succ]
        refine take_slot (i := 8) (d := 65) (v := ?_) rfl rfl (by kernel_rfl) (by kernel_rfl) (by kernel_rfl) (fun _ _ _ h => h) (Or.inl ⟨by rfl, ?_⟩) (by assumption) ?_
        rotate_left 1
        focus (intro wS hSw; (try dsimp only at hSw); go_simp; try with_reducible rfl)
        try simp only [List.setIfInBounds_toArray, List.set_cons_zero, List.set_cons_succ]
        refine take_slot (i := 9) (d := 66) (v := ?_) rfl rfl (by kernel_rfl) (by kernel_rfl) (by kernel_rfl) (fun _ _ _ h => h) (Or.inl ⟨by rfl, ?_⟩) (by assumption) ?_
        rotate_left 1
        focus (intro wS hSw; (try dsimp only at hSw); go_simp; try with_reducible rfl)
        try simp only [List.setIfInBounds_toArray, List.set_cons_zero, List.set_cons_succ]
        refine take_slot (i := 10) (d := 67) (v := ?_) rfl rfl (by kernel_rfl) (by kernel_rfl) (by kernel_rfl) (fun _ _ _ h => h) (Or.inl ⟨by rfl, ?_⟩) (by assumption) ?_
        rotate_left 1
        focus (intro wS hSw; (try dsimp only at hSw); go_simp; try with_reducible rfl)
        try simp only [List.setIfInBounds_toArray, List.set_cons_zero, List.set_cons_succ]
        refine wpAnyH_ready (rs := [4]) (by kernel_rfl) (by simp) ?_
        refine AllReadyH.cons rfl (fun K hK => ?_) AllReadyH.nil
        go_simp
        refine hK.out _ _ ⟨c2, c3, trivial⟩ (fun hHeld => ?_)
        clear hK K
        try simp only [Act.put, List.setIfInBounds_toArray, List.set_cons_zero, List.set_cons_succ]
        refine wpAnyH_ready (rs := [11]) (by kernel_rfl) (by simp) ?_
        refine AllReadyH.cons rfl (fun K hK => ?_) AllReadyH.nil
        go_simp
        refine (CFk.out _).mono ?_
        rintro e P2 ⟨rfl, hb⟩
        replace c2 := cell_next hb nc c2
        replace c3 := cell_next hb nc c3
        replace v1 := cell_next hb nv v1
        replace v2 := cell_next hb nv v2
        replace f1 := frozen_next hb nv f1
        replace f2 := frozen_next hb nv f2
        replace G0 := cell_next hb nG G0
        replace G1 := cell_next hb nG G1
        replace nc := Nat.lt_of_lt_of_le nc hb.size
        replace nv := Nat.lt_of_lt_of_le nv hb.size
        replace nG := Nat.lt_of_lt_of_le nG hb.size
        replace hL := hL.trans (hb.mono (Nat.le_trans hBW hL.size))
        replace hQ := Lib.hid (hQ.out.trans (Kept.of_below' hb _))
        replace HVk := Lib.hid (HVk.out.below hb)
        refine hK.out _ _ ⟨c2, c3, trivial⟩ (fun hHeld => ?_)
        clear hK K hb
        try simp only [Act.put, List.setIfInBounds_toArray, List.set_cons_zero, List.set_cons_succ]
        refine take_slot (i := 12) (d := 69) (v := ?_) rfl rfl (by kernel_rfl) (by kernel_rfl) (by kernel_rfl) (fun _ _ _ h => h) (Or.inl ⟨by rfl, ?_⟩) (by assumption) ?_
        rotate_left 1
        focus (intro wS hSw; (try dsimp only at hSw); go_simp; try with_reducible rfl)
        try simp only [List.setIfInBounds_toArray, List.set_cons_zero, List.set_cons_succ]
        refine take_slot (i := 13) (d := 70) (v := ?_) rfl rfl (by kernel_rfl) (by kernel_rfl) (by kernel_rfl) (fun _ _ _ h => h) (Or.inl ⟨by rfl, ?_⟩) (by assumption) ?_
        rotate_left 1
        focus (intro wS hSw; (try dsimp only at hSw); go_simp; try with_reducible rfl)
        try simp only [List.setIfInBounds_toArray, List.set_cons_zero, List.set_cons_succ]
        refine wpAnyH_ready (rs := [14]) (by kernel_rfl) (by simp) ?_
        refine AllReadyH.cons rfl (fun K hK => ?_) AllReadyH.nil
        go_simp
        replace HVk := Lib.hid (HVk.out.film p1 p2)
        replace c2 : ((P2.setCell ⟨vb k, 1, none⟩ (.int .i64 p1)).setCell ⟨vb k, 2, none⟩ (.int .i64 p2)).cell? ⟨c, 2, none⟩ = some (.int .i64 C.fl) := ((World.cell?_setCell_other _ _ _ _ (by intro e; injection e with e1 e2; omega)).trans ((World.cell?_setCell_other _ _ _ _ (by intro e; injection e with e1 e2; omega)).trans c2))
        replace c3 : ((P2.setCell ⟨vb k, 1, none⟩ (.int .i64 p1)).setCell ⟨vb k, 2, none⟩ (.int .i64 p2)).cell? ⟨c, 3, none⟩ = some (.int .i64 C.fh) := ((World.cell?_setCell_other _ _ _ _ (by intro e; injection e with e1 e2; omega)).trans ((World.cell?_setCell_other _ _ _ _ (by intro e; injection e with e1 e2; omega)).trans c3))
        replace v1 : ((P2.setCell ⟨vb k, 1, none⟩ (.int .i64 p1)).setCell ⟨vb k, 2, none⟩ (.int .i64 p2)).cell? ⟨vb k, 1, none⟩ = some (.int .i64 p1) := by simp [go_sem, v1]
        replace v2 : ((P2.setCell ⟨vb k, 1, none⟩ (.int .i64 p1)).setCell ⟨vb k, 2, none⟩ (.int .i64 p2)).cell? ⟨vb k, 2, none⟩ = some (.int .i64 p2) := by simp [go_sem, v2]
        replace f1 : ((P2.setCell ⟨vb k, 1, none⟩ (.int .i64 p1)).setCell ⟨vb k, 2, none⟩ (.int .i64 p2)).frozen? ⟨vb k, 1, none⟩ = false := by simp [go_sem, f1]
        replace f2 : ((P2.setCell ⟨vb k, 1, none⟩ (.int .i64 p1)).setCell ⟨vb k, 2, none⟩ (.int .i64 p2)).frozen? ⟨vb k, 2, none⟩ = false := by simp [go_sem, f2]
        replace G0 : ((P2.setCell ⟨vb k, 1, none⟩ (.int .i64 p1)).setCell ⟨vb k, 2, none⟩ (.int .i64 p2)).cell? ⟨g8, 0, none⟩ = some (.int .i64 gl) := ((World.cell?_setCell_other _ _ _ _ (by intro e; injection e with e1 e2; omega)).trans ((World.cell?_setCell_other _ _ _ _ (by intro e; injection e with e1 e2; omega)).trans G0))
        replace G1 : ((P2.setCell ⟨vb k, 1, none⟩ (.int .i64 p1)).setCell ⟨vb k, 2, none⟩ (.int .i64 p2)).cell? ⟨g8, 1, none⟩ = some (.int .i64 gh) := ((World.cell?_setCell_other _ _ _ _ (by intro e; injection e with e1 e2; omega)).trans ((World.cell?_setCell_other _ _ _ _ (by intro e; injection e with e1 e2; omega)).trans G1))
        replace nc : c < ((P2.setCell ⟨vb k, 1, none⟩ (.int .i64 p1)).setCell ⟨vb k, 2, none⟩ (.int .i64 p2)).heap.size := by simpa [World.setCell] using nc
        replace nv : vb k < ((P2.setCell ⟨vb k, 1, none⟩ (.int .i64 p1)).setCell ⟨vb k, 2, none⟩ (.int .i64 p2)).heap.size := by simpa [World.setCell] using nv
        replace nG : g8 < ((P2.setCell ⟨vb k, 1, none⟩ (.int .i64 p1)).setCell ⟨vb k, 2, none⟩ (.int .i64 p2)).heap.size := by simpa [World.setCell] using nG
        replace hL := hL.setCell (p := ⟨vb k, 1, none⟩) (by show B ≤ vb k; omega) (.int .i64 p1)
        replace hL := hL.setCell (p := ⟨vb k, 2, none⟩) (by show B ≤ vb k; omega) (.int .i64 p2)
        replace hQ := Lib.hid (hQ.out.trans (Kept.set (U := (fun i => i = vb k)) _ (p := ⟨vb k, 1, none⟩) (rfl) (.int .i64 p1)))
        replace hQ := Lib.hid (hQ.out.trans (Kept.set (U := (fun i => i = vb k)) _ (p := ⟨vb k, 2, none⟩) (rfl) (.int .i64 p2)))
        refine hK.out _ _ ⟨c2, c3, trivial⟩ (fun hHeld => ?_)
        clear hK K
        generalize ((P2.setCell ⟨vb k, 1, none⟩ (.int .i64 p1)).setCell ⟨vb k, 2, none⟩ (.int .i64 p2)) = P3 at *
        try simp only [Act.put, List.setIfInBounds_toArray, List.set_cons_zero, List.set_cons_succ]
        refine wpAnyH_done (by kernel_rfl) ?_ _
        have hQ0 := hQ.out
        have hqo : ∀ g, (vs k).ownBlock = some g → ¬ (g = vb k) := fun g hg e => by have := (HOx.out g hg).1; omega
        replace HOk := Lib.hid (HOk.out.kept hQ0 (fun g hg => hqo g (by rw [Hvs.out]; exact hg)))
        replace hBW : B ≤ P3.heap.size := Nat.le_trans hBW hL.size
        have v3 := HVk.out.c3
        clear hHeld v1 v2 f1 f2 c2 c3 tpk hQ0 CFk nc
        go_wp2_with fail
        go_loopw [76] (fun i wr => ∃ j : Nat, j ≤ m ∧ i = .int .i64 j ∧ Hid (VesAt wr (vb k) (sz k) p1 p2 (.slice A m cc)) ∧ Hid (OwnL base wr (.slice A m cc) (((xs k).take j).map (growL h gl gh) ++ (xs k).drop j)) ∧ g8 < wr.heap.size ∧ wr.cell? ⟨g8, 0, none⟩ = some (.int .i64 gl) ∧ wr.cell? ⟨g8, 1, none⟩ = some (.int .i64 gh) ∧ Below B P3 wr ∧ Hid (Kept (fun i => (vs k).ownBlock = some i) P3 wr)) (fun i _ => m - (RowKit.intOf i).toNat)
        case atStart => exact ⟨0, Nat.zero_le _, rfl, HVk, HOk, nG, G0, G1, Below.refl _ _, Lib.hid (Kept.refl _ _)⟩
        case round =>
          have hLo := hL
          have hQo := hQ
          clear HVk HOk nG G0 G1 v3 hL hQ
          obtain ⟨j, hj, rfl, HVq, HOq, nG, G0, G1, hLq, HKq⟩ := hrel
          by_cases hlt2 : j < m
          · obtain ⟨⟨a, s, lo, hi, tm⟩, hp⟩ : ∃ p, (xs k)[j]? = some p := ⟨_, List.getElem?_eq_getElem (by rw [Hm.out]; exact hlt2)⟩
            obtain ⟨hy, hset⟩ := grow_step (growL h gl gh) (xs k) j _ hp
            have hxj := (HX.out k hlt).2 _ (List.mem_of_getElem? hp)
            obtain ⟨g, rfl, hgb, hgw, q2, q3, f2, f3⟩ := HOq.out.at j _ hy
            have CLj := CL.out _ hxj
            dsimp only at q2 q3 CLj
            obtain ⟨y1, hy1⟩ : ∃ p, min 1000000 (lo + h * gl) = p := ⟨_, rfl⟩
            obtain ⟨y2, hy2⟩ : ∃ p, min 1000000 (hi + h * gh) = p := ⟨_, rfl⟩
            simp only [growL] at hset
            rw [hy1, hy2] at CLj hset
            have hln := grow_len (growL h gl gh) (xs k) j
            rw [Hm.out] at hln
            have v3 := HVq.out.c3
            have nv := HVq.out.n
            have hog : (vs k).ownBlock = some g := by rw [Hvs.out]; rfl
            have hgv : g ≠ vb k := by omega
            have hgu : g < w.heap.size := (HOx.out g hog).2
            replace CLj := Lib.hid CLj
            have Hy := Lib.hid hy
            have Hset := Lib.hid hset
            have Hln := Lib.hid hln
            clear hy hset hy1 hy2 hln hp hxj
            generalize hys : List.map (growL h gl gh) ((xs k).take j) ++ (xs k).drop j = ys at *
            have hBW2 := hBW
            replace hBW : B ≤ wr.heap.size := Nat.le_trans hBW hLq.size
            have hBg : B ≤ g := by omega
            go_upto_region 17 with fail
            refine wp_region_held_drew (S := fun w' => w'.cell? ⟨vb k, 3, none⟩ = some (.slice (some ⟨g, 0, none⟩) m cc) ∧ w'.cell? ⟨g8, 0, none⟩ = some (.int .i64 gl) ∧ w'.cell? ⟨g8, 1, none⟩ = some (.int .i64 gh) ∧ True) (by kernel_rfl) ?_ (fun hHeld => ?_)
            focus (exact ⟨v3, G0, G1, trivial⟩)
            have hL : Below B wr wr.drew := Below.drew (Below.refl _ _)
            have hQ : Hid (Kept (fun i => i = g) wr wr.drew) := Lib.hid (Kept.refl _ _)
            replace v3 : wr.drew.cell? ⟨vb k, 3, none⟩ = some (.slice (some ⟨g, 0, none⟩) m cc) := v3
            replace G0 : wr.drew.cell? ⟨g8, 0, none⟩ = some (.int .i64 gl) := G0
            replace G1 : wr.drew.cell? ⟨g8, 1, none⟩ = some (.int .i64 gh) := G1
            replace q2 : wr.drew.cell? ⟨g, j * 5 + 2, none⟩ = some (.int .i64 lo) := q2
            replace q3 : wr.drew.cell? ⟨g, j * 5 + 3, none⟩ = some (.int .i64 hi) := q3
            replace f2 : wr.drew.frozen? ⟨g, j * 5 + 2, none⟩ = false := f2
            replace f3 : wr.drew.frozen? ⟨g, j * 5 + 3, none⟩ = false := f3
            replace nv : vb k < wr.drew.heap.size := nv
            replace nG : g8 < wr.drew.heap.size := nG
            replace hgw : g < wr.drew.heap.size := hgw
            replace HOq := Lib.hid (HOq.out.below (Below.drew (Below.refl _ _)))
            generalize hWd : wr.drew = wd17 at hHeld hL hQ v3 G0 G1 q2 q3 f2 f3 nv nG hgw HOq ⊢
            clear hWd
            refine take_slot (i := 0) (d := 79) (v := ?_) rfl rfl (by kernel_rfl) (by kernel_rfl) (by kernel_rfl) (fun _ _ _ h => h) (Or.inl ⟨by rfl, ?_⟩) (by assumption) ?_
            rotate_left 1
            focus (intro wS hSw; (try dsimp only at hSw); go_simp; try with_reducible rfl)
            try simp only [List.setIfInBounds_toArray, List.set_cons_zero, List.set_cons_succ]
            refine take_slot (i := 1) (d := 80) (v := ?_) rfl rfl (by kernel_rfl) (by kernel_rfl) (by kernel_rfl) (fun _ _ _ h => h) (Or.inl ⟨by rfl, ?_⟩) (by assumption) ?_
            rotate_left 1
            focus (intro wS hSw; (try dsimp only at hSw); go_simp; try with_reducible rfl)
            try simp only [List.setIfInBounds_toArray, List.set_cons_zero, List.set_cons_succ]
            refine take_slot (i := 2) (d := 81) (v := ?_) rfl rfl (by kernel_rfl) (by kernel_rfl) (by kernel_rfl) (fun _ _ _ h => h) (Or.inl ⟨by rfl, ?_⟩) (by assumption) ?_
            rotate_left 1
            focus (intro wS hSw; (try dsimp only at hSw); go_simp; try with_reducible rfl)
            try simp only [List.setIfInBounds_toArray, List.set_cons_zero, List.set_cons_succ]
            refine take_slot (i := 3) (d := 82) (v := ?_) rfl rfl (by kernel_rfl) (by kernel_rfl) (by kernel_rfl) (fun _ _ _ h => h) (Or.inl ⟨by rfl, ?_⟩) (by assumption) ?_
            rotate_left 1
            focus (intro wS hSw; (try dsimp only at hSw); go_simp; try with_reducible rfl)
            try simp only [List.setIfInBounds_toArray, List.set_cons_zero, List.set_cons_succ]
            refine take_slot (i := 4) (d := 83) (v := ?_) rfl rfl (by kernel_rfl) (by kernel_rfl) (by kernel_rfl) (fun _ _ _ h => h) (Or.inl ⟨by rfl, ?_⟩) (by assumption) ?_
            rotate_left 1
            focus (intro wS hSw; (try dsimp only at hSw); go_simp; try with_reducible rfl)
            try simp only [List.setIfInBounds_toArray, List.set_cons_zero, List.set_cons_succ]
            refine take_slot (i := 5) (d := 84) (v := ?_) rfl rfl (by kernel_rfl) (by kernel_rfl) (by kernel_rfl) (fun _ _ _ h => h) (Or.inl ⟨by rfl, ?_⟩) (by assumption) ?_
            rotate_left 1
            focus (intro wS hSw; (try dsimp only at hSw); go_simp; try with_reducible rfl)
            try simp only [List.setIfInBounds_toArray, List.set_cons_zero, List.set_cons_succ]
            refine take_slot (i := 6) (d := 85) (v := ?_) rfl rfl (by kernel_rfl) (by kernel_rfl) (by kernel_rfl) (fun _ _ _ h => h) (Or.inl ⟨by rfl, ?_⟩) (by assumption) ?_
            rotate_left 1
            focus (intro wS hSw; (try dsimp only at hSw); go_simp; try with_reducible rfl)
            try simp only [List.setIfInBounds_toArray, List.set_cons_zero, List.set_cons_succ]
            refine take_slot (i := 7) (d := 86) (v := ?_) rfl rfl (by kernel_rfl) (by kernel_rfl) (by kernel_rfl) (fun _ _ _ h => h) (Or.inl ⟨by rfl, ?_⟩) (by assumption) ?_
            rotate_left 1
            focus (intro wS hSw; (try dsimp only at hSw); go_simp; try with_reducible rfl)
            try simp only [List.setIfInBounds_toArray, List.set_cons_zero, List.set_cons_succ]
            refine take_slot (i := 8) (d := 87) (v := ?_) rfl rfl (by kernel_rfl) (by kernel_rfl) (by kernel_rfl) (fun _ _ _ h => h) (Or.inl ⟨by rfl, ?_⟩) (by assumption) ?_
            rotate_left 1
            focus (intro wS hSw; (try dsimp only at hSw); go_simp; try with_reducible rfl)
            try simp only [List.setIfInBounds_toArray, List.set_cons_zero, List.set_cons_succ]
            refine take_slot (i := 9) (d := 88) (v := ?_) rfl rfl (by kernel_rfl) (by kernel_rfl) (by kernel_rfl) (fun _ _ _ h => h) (Or.inl ⟨by rfl, ?_⟩) (by assumption) ?_
            rotate_left 1
            focus (intro wS hSw; (try dsimp only at hSw); go_simp; try with_reducible rfl)
            try simp only [List.setIfInBounds_toArray, List.set_cons_zero, List.set_cons_succ]
            refine take_slot (i := 10) (d := 89) (v := ?_) rfl rfl (by kernel_rfl) (by kernel_rfl) (by kernel_rfl) (fun _ _ _ h => h) (Or.inl ⟨by rfl, ?_⟩) (by assumption) ?_
            rotate_left 1
            focus (intro wS hSw; (try dsimp only at hSw); go_simp; try with_reducible rfl)
            try simp only [List.setIfInBounds_toArray, List.set_cons_zero, List.set_cons_succ]
            refine take_slot (i := 11) (d := 90) (v := ?_) rfl rfl (by kernel_rfl) (by kernel_rfl) (by kernel_rfl) (fun _ _ _ h => h) (Or.inl ⟨by rfl, ?_⟩) (by assumption) ?_
            rotate_left 1
            focus (intro wS hSw; (try dsimp only at hSw); go_simp; try with_reducible rfl)
            try simp only [List.setIfInBounds_toArray, List.set_cons_zero, List.set_cons_succ]
            refine take_slot (i := 13) (d := 92) (v := ?_) rfl rfl (by kernel_rfl) (by kernel_rfl) (by kernel_rfl) (fun _ _ _ h => h) (Or.inl ⟨by rfl, ?_⟩) (by assumption) ?_
            rotate_left 1
            focus (intro wS hSw; (try dsimp only at hSw); go_simp; try with_reducible rfl)
            try simp only [List.setIfInBounds_toArray, List.set_cons_zero, List.set_cons_succ]
            refine take_slot (i := 14) (d := 93) (v := ?_) rfl rfl (by kernel_rfl) (by kernel_rfl) (by kernel_rfl) (fun _ _ _ h => h) (Or.inl ⟨by rfl, ?_⟩) (by assumption) ?_
            rotate_left 1
            focus (intro wS hSw; (try dsimp only at hSw); go_simp; try with_reducible rfl)
            try simp only [List.setIfInBounds_toArray, List.set_cons_zero, List.set_cons_succ]
            refine wpAnyH_ready (rs := [12]) (by kernel_rfl) (by simp) ?_
            refine AllReadyH.cons rfl (fun K hK => ?_) AllReadyH.nil
            go_simp
            refine hK.out _ _ ⟨v3, G0, G1, trivial⟩ (fun hHeld => ?_)
            clear hK K
            try simp only [Act.put, List.setIfInBounds_toArray, List.set_cons_zero, List.set_cons_succ]
            refine wpAnyH_ready (rs := [15]) (by kernel_rfl) (by simp) ?_
            refine AllReadyH.cons rfl (fun K hK => ?_) AllReadyH.nil
            go_simp
            refine (CLj.out _).mono ?_
            rintro e S2 ⟨rfl, hb⟩
            replace v3 := cell_next hb nv v3
            replace G0 := cell_next hb nG G0
            replace G1 := cell_next hb nG G1
            replace q2 := cell_next hb hgw q2
            replace q3 := cell_next hb hgw q3
            replace f2 := frozen_next hb hgw f2
            replace f3 := frozen_next hb hgw f3
            replace nv := Nat.lt_of_lt_of_le nv hb.size
            replace nG := Nat.lt_of_lt_of_le nG hb.size
            replace hgw := Nat.lt_of_lt_of_le hgw hb.size
            replace hL := hL.trans (hb.mono (Nat.le_trans hBW hL.size))
            replace hQ := Lib.hid (hQ.out.trans (Kept.of_below' hb _))
            replace HOq := Lib.hid (HOq.out.below hb)
            refine hK.out _ _ ⟨v3, G0, G1, trivial⟩ (fun hHeld => ?_)
            clear hK K hb
            try simp only [Act.put, List.setIfInBounds_toArray, List.set_cons_zero, List.set_cons_succ]
            refine take_slot (i := 16) (d := 95) (v := ?_) rfl rfl (by kernel_rfl) (by kernel_rfl) (by kernel_rfl) (fun _ _ _ h => h) (Or.inl ⟨by rfl, ?_⟩) (by assumption) ?_
            rotate_left 1
            focus (intro wS hSw; (try dsimp only at hSw); go_simp; try with_reducible rfl)
            try simp only [List.setIfInBounds_toArray, List.set_cons_zero, List.set_cons_succ]
            refine take_slot (i := 17) (d := 96) (v := ?_) rfl rfl (by kernel_rfl) (by kernel_rfl) (by kernel_rfl) (fun _ _ _ h => h) (Or.inl ⟨by rfl, ?_⟩) (by assumption) ?_
            rotate_left 1
            focus (intro wS hSw; (try dsimp only at hSw); go_simp; try with_reducible rfl)
            try simp only [List.setIfInBounds_toArray, List.set_cons_zero, List.set_cons_succ]
            refine wpAnyH_ready (rs := [18]) (by kernel_rfl) (by simp) ?_
            refine AllReadyH.cons rfl (fun K hK => ?_) AllReadyH.nil
            go_simp
            have hO9 := HOq.out.setLoad' Hln.out j _ y1 y2 Hy.out
            dsimp only at hO9
            rw [Hset.out] at hO9
            replace HOq := Lib.hid hO9
            clear hO9
            replace v3 : ((S2.setCell ⟨g, j * 5 + 2, none⟩ (.int .i64 y1)).setCell ⟨g, j * 5 + 3, none⟩ (.int .i64 y2)).cell? ⟨vb k, 3, none⟩ = some (.slice (some ⟨g, 0, none⟩) m cc) := ((World.cell?_setCell_other _ _ _ _ (by intro e; injection e with e1 e2; omega)).trans ((World.cell?_setCell_other _ _ _ _ (by intro e; injection e with e1 e2; omega)).trans v3))
            replace G0 : ((S2.setCell ⟨g, j * 5 + 2, none⟩ (.int .i64 y1)).setCell ⟨g, j * 5 + 3, none⟩ (.int .i64 y2)).cell? ⟨g8, 0, none⟩ = some (.int .i64 gl) := ((World.cell?_setCell_other _ _ _ _ (by intro e; injection e with e1 e2; omega)).trans ((World.cell?_setCell_other _ _ _ _ (by intro e; injection e with e1 e2; omega)).trans G0))
            replace G1 : ((S2.setCell ⟨g, j * 5 + 2, none⟩ (.int .i64 y1)).setCell ⟨g, j * 5 + 3, none⟩ (.int .i64 y2)).cell? ⟨g8, 1, none⟩ = some (.int .i64 gh) := ((World.cell?_setCell_other _ _ _ _ (by intro e; injection e with e1 e2; omega)).trans ((World.cell?_setCell_other _ _ _ _ (by intro e; injection e with e1 e2; omega)).trans G1))
            replace q2 : ((S2.setCell ⟨g, j * 5 + 2, none⟩ (.int .i64 y1)).setCell ⟨g, j * 5 + 3, none⟩ (.int .i64 y2)).cell? ⟨g, j * 5 + 2, none⟩ = some (.int .i64 y1) := by simp [go_sem, q2]
            replace q3 : ((S2.setCell ⟨g, j * 5 + 2, none⟩ (.int .i64 y1)).setCell ⟨g, j * 5 + 3, none⟩ (.int .i64 y2)).cell? ⟨g, j * 5 + 3, none⟩ = some (.int .i64 y2) := by simp [go_sem, q3]
            replace f2 : ((S2.setCell ⟨g, j * 5 + 2, none⟩ (.int .i64 y1)).setCell ⟨g, j * 5 + 3, none⟩ (.int .i64 y2)).frozen? ⟨g, j * 5 + 2, none⟩ = false := by simp [go_sem, f2]
            replace f3 : ((S2.setCell ⟨g, j * 5 + 2, none⟩ (.int .i64 y1)).setCell ⟨g, j * 5 + 3, none⟩ (.int .i64 y2)).frozen? ⟨g, j * 5 + 3, none⟩ = false := by simp [go_sem, f3]
            replace nv : vb k < ((S2.setCell ⟨g, j * 5 + 2, none⟩ (.int .i64 y1)).setCell ⟨g, j * 5 + 3, none⟩ (.int .i64 y2)).heap.size := by simpa [World.setCell] using nv
            replace nG : g8 < ((S2.setCell ⟨g, j * 5 + 2, none⟩ (.int .i64 y1)).setCell ⟨g, j * 5 + 3, none⟩ (.int .i64 y2)).heap.size := by simpa [World.setCell] using nG
            replace hgw : g < ((S2.setCell ⟨g, j * 5 + 2, none⟩ (.int .i64 y1)).setCell ⟨g, j * 5 + 3, none⟩ (.int .i64 y2)).heap.size := by simpa [World.setCell] using hgw
            replace hL := hL.setCell (p := ⟨g, j * 5 + 2, none⟩) (by show B ≤ g; omega) (.int .i64 y1)
            replace hL := hL.setCell (p := ⟨g, j * 5 + 3, none⟩) (by show B ≤ g; omega) (.int .i64 y2)
            replace hQ := Lib.hid (hQ.out.trans (Kept.set (U := (fun i => i = g)) _ (p := ⟨g, j * 5 + 2, none⟩) (rfl) (.int .i64 y1)))
            replace hQ := Lib.hid (hQ.out.trans (Kept.set (U := (fun i => i = g)) _ (p := ⟨g, j * 5 + 3, none⟩) (rfl) (.int .i64 y2)))
            refine hK.out _ _ ⟨v3, G0, G1, trivial⟩ (fun hHeld => ?_)
            clear hK K
            generalize ((S2.setCell ⟨g, j * 5 + 2, none⟩ (.int .i64 y1)).setCell ⟨g, j * 5 + 3, none⟩ (.int .i64 y2)) = S3 at *
            try simp only [Act.put, List.setIfInBounds_toArray, List.set_cons_zero, List.set_cons_succ]
            refine wpAnyH_done (by kernel_rfl) ?_ _
            have hQ9 := hQ.out
            replace HVq := Lib.hid (HVq.out.kept hQ9 (fun e => hgv e.symm))
            have hLe := hLq.trans hL
            have HKe := Lib.hid (HKq.out.trans (hQ9.mono fun i e => by rw [e]; exact hog))
            clear hQ9 hQ hL hLq HKq hHeld q2 q3 f2 f3 v3 CLj
            go_wp2_with fail
            go_roundw
            case measure => simp [RowKit.intOf]; omega
            exact ⟨j + 1, by omega, by go_num, HVq, HOq, nG, G0, G1, hLe, HKe⟩
          · obtain rfl : j = m := by omega
            have hOf := HOq.out
            rw [List.take_of_length_le (by rw [Hm.out]; exact Nat.le_refl _), List.drop_eq_nil_of_le (by rw [Hm.out]; exact Nat.le_refl _), List.append_nil] at hOf
            have hKt : Kept (fun i => i = vb k ∨ (vs k).ownBlock = some i) wo wr := (hQo.out.mono fun i e => .inl e).trans (HKq.out.mono fun i e => .inr e)
            have HN := Lib.hid (tanks_step hTk (fun i hi g hg => (HOb.out i hi g hg).1) hKt sz fl fh xs (h * C.fl) (h * C.fh) (growL h gl gh) HVr.out hlt ⟨by rw [HP1.out, HP2.out, Hvs.out]; exact HVq.out, by rw [Hvs.out]; exact hOf⟩)
            have hcU : ¬ (c = vb k ∨ (vs k).ownBlock = some c) := fun e => by rcases e with e | e; omega; have := (HOx.out _ e).1; omega
            have htU : ¬ (tk = vb k ∨ (vs k).ownBlock = some tk) := fun e => by rcases e with e | e; omega; have := (HOx.out _ e).1; omega
            replace HCr := Lib.hid (HCr.out.kept hKt hcU htU)
            have hLe := hLr.trans (hLo.trans hLq)
            have HKe := Lib.hid (HKr.out.trans (hKt.mono fun i e => .inr ⟨k, hlt, e⟩))
            clear hOf hKt HVr HVq HOq HKq hQo hLo hLq hLr HKr
            go_wp2_with fail
            go_roundw
            case measure => simp [RowKit.intOf]; omega
            exact ⟨k + 1, by omega, by go_num, HCr, HN, nG, G0, G1, hLe, HKe⟩
      · obtain rfl : k = C.n := by omega
        have HF : Hid (∀ i, i < C.n → TankAt base wo (vb i) (sz i) (min 1000000 (fl i + h * C.fl)) (min 1000000 (fh i + h * C.fh)) (vs i) ((xs i).map (growL h gl gh))) := Lib.hid (fun i hi => by have := HVr.out i hi; simpa [filmT, lotsT, hi] using this)
        clear HVr
        go_wp2_with fail
        go_ret
        exact ⟨rfl, HCr.out, HF.out, hLr, HKr.out⟩

open Go.RowKit Go.Lib Go.Shelf
set_option linter.unusedVariables false
set_option linter.unusedSimpArgs false
attribute [local go_sem ↓] Go.wp_at_zero Go.wp_at_succ

/-- a table that the call made itself -/
def NewRows (B : Nat) (w : World) (v : Value) (xs : List (Int × Int)) : Prop := ∃ g cap, v = .slice (some ⟨g, 0, none⟩) xs.length cap ∧ w.ownsRow B 169 2 v xs.length (flat xs)
theorem NewRows.row {B : Nat} {w : World} {v : Value} {xs : List (Int × Int)} (h : NewRows B w v xs) : RowAt w.heap.size w v xs := by
  obtain ⟨g, cap, rfl, h⟩ := h
  exact own_rowR xs _ rfl _ w h
set_option maxRecDepth 20000 in
set_option maxHeartbeats 1000000 in
theorem clone_rows (xs : List (Int × Int)) (g off c : Nat) (hl : xs.length ≤ 1000) (h0 : 0 < xs.length) (w : World) (hg : g < w.heap.size) (hr : RRd w g off xs) :
    Calls Try.prog 88 #[.slice (some ⟨g, off, none⟩) xs.length c] w fun e w' => ∃ v', e = .returned v' ∧ NewRows w.heap.size w' v' xs ∧ Below w.heap.size w w' := by
  obtain ⟨i0, hi0, hz0, hz1, hz2⟩ := info_parts infoRow
  obtain ⟨n, hn⟩ : ∃ n, xs.length = n := ⟨_, rfl⟩
  have HNR : Hid (∀ (B : Nat) (w : World) v, w.ownsRow B 169 2 v n (flat xs) → NewRows B w v xs) := Lib.hid fun B w v h => by
    have h' := h
    obtain ⟨_, ⟨rfl, h0'⟩ | ⟨g, cap, cur, rfl, _⟩⟩ := h
    · omega
    · exact ⟨g, cap, by rw [hn], by rw [hn]; exact h'⟩
  rw [hn] at hl h0 ⊢
  have Hn := Lib.hid hn
  have HR := Lib.hid hr
  clear hn hr
  have hnil : ∀ W : World, (binOp .eql 22 (.slice (some ⟨g, off, none⟩) n c) (.slice none 0 0)).run Try.prog W = .ok (.bool false) W := fun W => by
    have := Lib.run_eql_slice_nil W 22 169 (some ⟨g, off, none⟩) n c 0 0 Try.underlying22
    simpa using this
  go_enter Try.func88, Try.ntmps88
  have hown0 : (w.alloc (.cells #[] 169)).ownsRow w.heap.size 169 2 (.slice (some ⟨w.heap.size, 0, none⟩) 0 0) 0 [] :=
    ⟨rfl, .inr ⟨w.heap.size, 0, #[], rfl, Nat.le_refl _, heap_alloc_new w _, Nat.le_refl _, Nat.zero_le _, rfl, rfl⟩⟩
  have HO := Lib.hid hown0
  clear hown0
  go_wp2_with (at_builtin; refine wpList_append_own _ rfl (.tmp 5) (.tmp 6) 22 rfl w.heap.size 169 i0 (.agg #[.int .i64 0, .int .i64 0]) 2 16 Try.underlying22 hi0 hz0 hz1 hz2 rfl (by decide) (.slice (some ⟨w.heap.size, 0, none⟩) 0 0) 0 [] rfl HO.out ⟨g, off, none⟩ n c (flat xs) rfl ?_ ?_ ?_ ?_ ?_ ?_ ?_)
  case refine_1 => rw [flat_length, Hn.out]
  case refine_2 =>
    intro j u hj
    rw [Addr.add_lit]
    exact (((Below.refl _ _).alloc (Nat.le_refl _) _).cell (p := ⟨g, off + j, none⟩) hg).trans (rrd_flat xs off HR.out j u hj)
  case refine_3 =>
    intro u hu
    simp only [flat, List.mem_flatMap] at hu
    obtain ⟨p, _, hp⟩ := hu
    simp at hp
    rcases hp with rfl | rfl <;> rfl
  case refine_4 => unfold maxLen; omega
  case refine_5 => omega
  case refine_6 => simp
  case refine_7 =>
    intro v' w1 hown' hgrow _
    have hB : Below w.heap.size w w1 := ((Below.refl _ _).alloc (Nat.le_refl _) _).grown hgrow (by simp) (fun k hk => by simp [Value.ownBlock] at hk; omega)
    have hR := Lib.hid (HNR.out _ w1 v' (by simpa using hown'))
    clear hown' hgrow
    go_wp2_with fail
    go_ret
    exact ⟨v', rfl, hR.out, hB⟩


set_option maxHeartbeats 400000 in
theorem wrong_any (x y : Int) (w : World) :
    Calls Try.prog 103 #[.agg #[.int .i64 x, .int .i64 y]] w fun e w' => e = .returned (.bool (!inB 0 1000000 y)) ∧ Below w.heap.size w w' := by
  have c1 := Lib.hid (fun (W : World) (g c : Nat) => in1v_any 0 1000000 y g c W)
  generalize inB 0 1000000 y = r at *
  go_enter Try.func103, Try.ntmps103
  go_wp2_with fail
  refine (c1.out _ _ _ (by simp) (by simp [go_sem])).mono ?_
  rintro e w1 ⟨rfl, hb⟩
  have hB := below2 hb
  clear hb
  go_wp2_with fail
  go_ret
  exact ⟨by cases r <;> rfl, hB⟩
theorem enters_wrong : ∀ args w, (callFunc 103 args).run Try.prog w = .ok (.enter 103 args) w := enters_of Try.func103 (by kernel_rfl) rfl

set_option maxRecDepth 20000 in
set_option maxHeartbeats 1000000 in
theorem rowNone (v : Value) (xs : List (Int × Int)) (w : World) (hl : xs.length ≤ 100) (hv : SetAt w.heap.size w v xs) (hT : ∀ p ∈ xs, inB 0 1000000 p.2 = true) :
    Calls Try.prog 149 #[v, .func (Fn.func 103) #[] #[]] w fun e w' => e = .returned (.int .i64 (-1)) ∧ Below w.heap.size w w' := by
  have HE := enters_wrong
  obtain ⟨A, c, rfl, hr⟩ := hv
  have HC := Lib.hid (fun (x y : Int) (W : World) => wrong_any x y W)
  have HT := Lib.hid hT
  clear hT
  obtain ⟨n, hn⟩ : ∃ n, xs.length = n := ⟨_, rfl⟩
  rw [hn] at hr hl ⊢
  have Hn := Lib.hid hn
  have HR := Lib.hid hr
  clear hr hn
  go_enter Try.func149, Try.ntmps149
  go_wp2_with fail
  go_loopw [8] (fun i wr => ∃ k : Nat, k ≤ n ∧ i = .int .i64 k ∧ Below w.heap.size w wr) (fun i _ => n - (RowKit.intOf i).toNat)
  case atStart => exact ⟨0, Nat.zero_le _, rfl, Below.refl _ _⟩
  case round =>
    obtain ⟨k, hk, rfl, hbr⟩ := hrel
    by_cases hlt : (k : Int) < (n : Int)
    · obtain ⟨⟨x, y⟩, hp⟩ : ∃ p, xs[k]? = some p := ⟨_, List.getElem?_eq_getElem (by rw [Hn.out]; omega)⟩
      obtain ⟨g, off, rfl, hg, hc⟩ := HR.out (by omega)
      obtain ⟨q0, q1⟩ := hc k _ hp
      replace q0 := cell_next hbr hg q0
      replace q1 := cell_next hbr hg q1
      have hgw : g < wr.heap.size := by have := hbr.size; omega
      have ht := HT.out _ (List.mem_of_getElem? hp)
      have c1 := HC.out x y wr
      dsimp only at q0 q1 ht
      rw [ht] at c1
      have C1 := Lib.hid c1
      clear hc hp c1 ht
      go_wp2_with fail
      refine C1.out.mono ?_
      rintro e w1 ⟨rfl, hb1⟩
      have hB := hbr.trans (hb1.mono hbr.size)
      clear hb1 q0 q1 C1
      go_wp2_with fail
      go_roundw
      case rel => exact ⟨k + 1, by omega, by go_num, hB⟩
      case measure => simp [RowKit.intOf]; omega
    · obtain rfl : k = n := by omega
      go_wp2_with fail
      go_ret
      exact ⟨rfl, hbr⟩

set_option maxHeartbeats 400000 in
theorem rowsFine (v : Value) (xs : List (Int × Int)) (w : World) (hl : xs.length ≤ 100) (hv : SetAt w.heap.size w v xs) (hT : ∀ p ∈ xs, inB 0 1000000 p.2 = true) :
    Calls Try.prog 105 #[v, .func (Fn.func 103) #[] #[]] w fun e w' => e = .returned (.bool false) ∧ Below w.heap.size w w' := by
  have c1 := Lib.hid (rowNone v xs w hl hv hT)
  clear hv hT
  go_enter Try.func105, Try.ntmps105
  go_wp2_with fail
  refine c1.out.mono ?_
  rintro e w1 ⟨rfl, hb⟩
  go_wp2_with fail
  go_ret
  exact ⟨by simp, hb⟩

set_option maxRecDepth 20000 in
set_option maxHeartbeats 4000000 in
theorem validRules_ok (v : Value) (xs : List (Int × Int)) (lim fl fh : Int) (w : World) (hl : xs.length ≤ 100) (hv : SetAt w.heap.size w v xs) (ht : tabE xs = 0) (hT : ∀ p ∈ xs, inB 0 1000000 p.2 = true) (hlim : inB 1 1000000 lim = true) (hf : rgB 0 1000000 fl fh = true) :
    Calls Try.prog 40 #[.agg #[v, .int .i64 lim, .int .i64 fl, .int .i64 fh]] w fun e w' => e = .returned (.bool true) ∧ Below w.heap.size w w' := by
  have CT := Lib.hid (fun (W : World) (h : Below w.heap.size w W) => checkTable_any v xs W ((hv.below h (Nat.le_refl _)).mono h.size))
  rw [ht] at CT
  have CF := Lib.hid (fun (W : World) (h : Below w.heap.size w W) => rowsFine v xs W hl ((hv.below h (Nat.le_refl _)).mono h.size) hT)
  have CI := Lib.hid (fun (W : World) (g cp : Nat) => in1v_any 1 1000000 lim g cp W)
  rw [hlim] at CI
  have CR := Lib.hid (fun (W : World) => rangeIn_any 0 1000000 fl fh W)
  rw [hf] at CR
  obtain ⟨A, c, rfl, hr⟩ := hv
  clear hr ht hT hlim hf
  generalize xs.length = n at *
  go_enter Try.func40, Try.ntmps40
  go_wp2_with fail
  have b0 : (w.alloc (Obj.cells #[.slice A n c, .int .i64 lim, .int .i64 fl, .int .i64 fh] 26)).cell? ⟨w.heap.size, 0, none⟩ = some (.slice A n c) := cell_new _ _ _ 0
  have b1 : (w.alloc (Obj.cells #[.slice A n c, .int .i64 lim, .int .i64 fl, .int .i64 fh] 26)).cell? ⟨w.heap.size, 1, none⟩ = some (.int .i64 lim) := cell_new _ _ _ 1
  have b2 : (w.alloc (Obj.cells #[.slice A n c, .int .i64 lim, .int .i64 fl, .int .i64 fh] 26)).cell? ⟨w.heap.size, 2, none⟩ = some (.int .i64 fl) := cell_new _ _ _ 2
  have b3 : (w.alloc (Obj.cells #[.slice A n c, .int .i64 lim, .int .i64 fl, .int .i64 fh] 26)).cell? ⟨w.heap.size, 3, none⟩ = some (.int .i64 fh) := cell_new _ _ _ 3
  have nb : w.heap.size < (w.alloc (Obj.cells #[.slice A n c, .int .i64 lim, .int .i64 fl, .int .i64 fh] 26)).heap.size := by simp
  have hB : Below w.heap.size w (w.alloc (Obj.cells #[.slice A n c, .int .i64 lim, .int .i64 fl, .int .i64 fh] 26)) := (Below.refl _ _).alloc (Nat.le_refl _) _
  generalize w.alloc (Obj.cells #[.slice A n c, .int .i64 lim, .int .i64 fl, .int .i64 fh] 26) = w1 at *
  go_wp2_with fail
  refine (CT.out _ hB).mono ?_
  rintro e w2 ⟨rfl, hb⟩
  replace b0 := cell_next hb nb b0
  replace b1 := cell_next hb nb b1
  replace b2 := cell_next hb nb b2
  replace b3 := cell_next hb nb b3
  replace nb := Nat.lt_of_lt_of_le nb hb.size
  replace hB := hB.trans (hb.mono hB.size)
  clear hb
  go_wp2_with fail
  refine (CF.out _ hB).mono ?_
  rintro e w3 ⟨rfl, hb⟩
  replace b1 := cell_next hb nb b1
  replace b2 := cell_next hb nb b2
  replace b3 := cell_next hb nb b3
  replace nb := Nat.lt_of_lt_of_le nb hb.size
  replace hB := hB.trans (hb.mono hB.size)
  clear hb b0
  go_wp2_with fail
  refine (CI.out _ _ _ (by simp) (by simp [go_sem])).mono ?_
  rintro e w4 ⟨rfl, hb⟩
  have hb' := below1 hb
  replace b2 := cell_next hb' nb b2
  replace b3 := cell_next hb' nb b3
  replace nb := Nat.lt_of_lt_of_le nb hb'.size
  replace hB := hB.trans (hb'.mono hB.size)
  clear hb hb' b1
  go_wp2_with fail
  refine (CR.out _).mono ?_
  rintro e w5 ⟨rfl, hb⟩
  replace hB := hB.trans (hb.mono hB.size)
  clear hb b2 b3 nb
  go_wp2_with fail
  go_ret
  exact ⟨by simp, hB⟩

open Go.RowKit Go.Lib Go.Shelf
set_option linter.unusedVariables false
set_option linter.unusedSimpArgs false
attribute [local go_sem ↓] Go.wp_at_zero Go.wp_at_succ

theorem infoPtr : (Try.prog.info? 173).map (fun i => (i.zero, i.size, i.bytes)) = some (some (.pointer none), 1, 8) := by kernel_rfl
def ptr (b : Nat) : Value := .pointer (some ⟨b, 0, none⟩)
theorem SetAt.set_other {B q o : Nat} {W : World} {v x : Value} {xs : List (Int × Int)} (h : SetAt B W v xs) (hne : v.ownBlock ≠ some q) : SetAt B (W.setCell ⟨q, o, none⟩ x) v xs := by
  obtain ⟨A, c, rfl, h⟩ := h
  refine ⟨A, c, rfl, fun hn => ?_⟩
  obtain ⟨g, off, rfl, hg, hr⟩ := h hn
  have hgq : g ≠ q := fun e => hne (by rw [e]; rfl)
  refine ⟨g, off, rfl, hg, fun k p hp => ?_⟩
  obtain ⟨h1, h2⟩ := hr k p hp
  exact ⟨(World.cell?_setCell_other _ _ _ _ (by intro e; injection e with e1 e2; omega)).trans h1, (World.cell?_setCell_other _ _ _ _ (by intro e; injection e with e1 e2; omega)).trans h2⟩
/-- a cellar without its list of tanks -/
structure NcAt (W : World) (c : Nat) (gv : Value) (lim fl fh : Int) (v : Value) : Prop where
  nc : c < W.heap.size
  c0 : W.cell? ⟨c, 0, none⟩ = some (gv)
  c1 : W.cell? ⟨c, 1, none⟩ = some (.int .i64 lim)
  c2 : W.cell? ⟨c, 2, none⟩ = some (.int .i64 fl)
  c3 : W.cell? ⟨c, 3, none⟩ = some (.int .i64 fh)
  c4 : W.cell? ⟨c, 4, none⟩ = some (v)
  c5 : W.cell? ⟨c, 5, none⟩ = some (.int .i64 0)
  c6 : W.cell? ⟨c, 6, none⟩ = some (.int .i64 0)
  c7 : W.cell? ⟨c, 7, none⟩ = some (.int .i64 0)
  c8 : W.cell? ⟨c, 8, none⟩ = some (.int .i64 0)
  c9 : W.cell? ⟨c, 9, none⟩ = some (.int .i64 0)
  c10 : W.cell? ⟨c, 10, none⟩ = some (.int .i64 0)
  c11 : W.cell? ⟨c, 11, none⟩ = some (.int .i64 0)
  fr : ∀ o, W.frozen? ⟨c, o, none⟩ = false
theorem NcAt.kept {U : Nat → Prop} {W W' : World} {c : Nat} {gv v : Value} {lim fl fh : Int} (h : NcAt W c gv lim fl fh v) (hk : Kept U W W') (hu : ¬ U c) : NcAt W' c gv lim fl fh v :=
  have k : ∀ o, W'.cell? ⟨c, o, none⟩ = W.cell? ⟨c, o, none⟩ := fun o => hk.cell (p := ⟨c, o, none⟩) h.nc hu
  ⟨Nat.lt_of_lt_of_le h.nc hk.1, (k 0).trans h.c0, (k 1).trans h.c1, (k 2).trans h.c2, (k 3).trans h.c3, (k 4).trans h.c4, (k 5).trans h.c5, (k 6).trans h.c6, (k 7).trans h.c7, (k 8).trans h.c8, (k 9).trans h.c9, (k 10).trans h.c10, (k 11).trans h.c11, fun o => (hk.frozen (p := ⟨c, o, none⟩) h.nc hu).trans (h.fr o)⟩
theorem NcAt.put {W : World} {c : Nat} {gv v : Value} {lim fl fh : Int} (h : NcAt W c gv lim fl fh v) (v' : Value) : NcAt (W.setCell ⟨c, 4, none⟩ v') c gv lim fl fh v' := by
  obtain ⟨nc, c0, c1, c2, c3, c4, c5, c6, c7, c8, c9, c10, c11, fr⟩ := h
  refine ⟨by simpa [World.setCell] using nc, ?_, ?_, ?_, ?_, ?_, ?_, ?_, ?_, ?_, ?_, ?_, ?_, fun o => ?_⟩
  all_goals first | (simp [go_sem, *]; done) | (simp [go_sem, fr]; done)
theorem ncAt_new (W : World) (gv v : Value) (lim fl fh : Int) : NcAt (W.alloc (Obj.cells #[gv, .int .i64 lim, .int .i64 fl, .int .i64 fh, v, .int .i64 0, .int .i64 0, .int .i64 0, .int .i64 0, .int .i64 0, .int .i64 0, .int .i64 0] 172)) W.heap.size gv lim fl fh v :=
  ⟨by simp, cell_new _ _ _ 0, cell_new _ _ _ 1, cell_new _ _ _ 2, cell_new _ _ _ 3, cell_new _ _ _ 4, cell_new _ _ _ 5, cell_new _ _ _ 6, cell_new _ _ _ 7, cell_new _ _ _ 8, cell_new _ _ _ 9, cell_new _ _ _ 10, cell_new _ _ _ 11, fun o => by simp [go_sem]⟩
theorem vesAt_new (W : World) (z fl fh : Int) (v : Value) : VesAt (W.alloc (Obj.cells #[.int .i64 z, .int .i64 fl, .int .i64 fh, v] 176)) W.heap.size z fl fh v :=
  ⟨by simp, cell_new _ _ _ 0, cell_new _ _ _ 1, cell_new _ _ _ 2, cell_new _ _ _ 3, by simp [go_sem], by simp [go_sem], by simp [go_sem]⟩

theorem ownsRow_kept {U : Nat → Prop} {w w' : World} {base e size n : Nat} {v : Value} {xs : List Value} (h : w.ownsRow base e size v n xs) (hk : Kept U w w') (hne : ∀ g, v.ownBlock = some g → ¬ U g) : w'.ownsRow base e size v n xs := by
  refine ⟨h.1, ?_⟩
  rcases h.2 with ⟨rfl, h0⟩ | ⟨g, cap, cur, rfl, hb, hg, hr⟩
  · exact .inl ⟨rfl, h0⟩
  · exact .inr ⟨g, cap, cur, rfl, hb, hk.2 _ _ hg (hne g rfl), hr⟩
theorem getD_of {bs : List Nat} {i b : Nat} (h : bs[i]? = some b) : bs.getD i 0 = b := by simp [h]
theorem nodup_inj {bs : List Nat} (h : bs.Nodup) {i j : Nat} (hi : i < bs.length) (hj : j < bs.length) (e : bs.getD i 0 = bs.getD j 0) : i = j := by
  rw [getD_of (List.getElem?_eq_getElem hi), getD_of (List.getElem?_eq_getElem hj)] at e
  have hp := List.pairwise_iff_getElem.1 h
  rcases Nat.lt_trichotomy i j with hl | hl | hl
  · exact absurd e (hp i j hi hj hl)
  · exact hl
  · exact absurd e.symm (hp j i hj hi hl)
theorem ves_snoc {W W' : World} {U : Nat → Prop} {bs : List Nat} {zs : List Int} {k b : Nat} {z : Int} {v : Value} (hk : bs.length = k) (hz : zs[k]? = some z) (hV : ∀ (j b : Nat) (z : Int), bs[j]? = some b → zs[j]? = some z → VesAt W b z 0 0 v) (hK : Kept U W W') (hU : ∀ b ∈ bs, ¬ U b) (hn : VesAt W' b z 0 0 v) :
    ∀ (j b' : Nat) (z : Int), (bs ++ [b])[j]? = some b' → zs[j]? = some z → VesAt W' b' z 0 0 v := by
  intro j b' z' h1 h2
  rcases Nat.lt_trichotomy j bs.length with hl | hl | hl
  · rw [List.getElem?_append_left hl] at h1
    exact (hV j b' z' h1 h2).kept hK (hU b' (List.mem_of_getElem? h1))
  · subst hl
    rw [← hk] at hz
    rw [hz] at h2
    simp at h1 h2
    subst h1
    subst h2
    exact hn
  · rw [List.getElem?_append_right (by omega)] at h1
    rw [List.getElem?_eq_none (by simp; omega)] at h1
    cases h1
def NewP (xs : List (Int × Int)) (lim fl fh : Int) (zs : List Int) (w : World) (e : Ending) (w' : World) : Prop :=
  ∃ (c tk cap : Nat) (vb : Nat → Nat) (gv : Value), e = .returned (.tuple #[.pointer (some ⟨c, 0, none⟩), .int .i64 0]) ∧ w.heap.size ≤ c ∧ c < tk ∧ tk < w'.heap.size ∧ CelAt w' c tk vb ⟨gv, lim, fl, fh, 0, 0, 0, 0, 0, 0, 0, zs.length, cap⟩ ∧ SetAt c w' gv xs ∧
    (∀ i z, zs[i]? = some z → VesAt w' (vb i) z 0 0 (.slice none 0 0)) ∧ (∀ i, i < zs.length → c < vb i ∧ vb i < w'.heap.size ∧ vb i ≠ tk) ∧ (∀ i j, i < zs.length → j < zs.length → vb i = vb j → i = j) ∧ Below w.heap.size w w'

set_option maxRecDepth 20000 in
set_option maxHeartbeats 4000000 in
theorem new_ok (v : Value) (xs : List (Int × Int)) (lim fl fh : Int) (v2 : Value) (zs : List Int) (w : World) (hl : xs.length ≤ 100) (hv : SetAt w.heap.size w v xs) (ht : tabE xs = 0) (hT : ∀ p ∈ xs, inB 0 1000000 p.2 = true) (hlim : inB 1 1000000 lim = true) (hf : rgB 0 1000000 fl fh = true)
    (hv2 : NsAt w.heap.size w v2 zs) (h1 : 1 ≤ zs.length) (h2 : zs.length ≤ 20) (hz : insB 1 1000000000 zs = true) :
    Calls Try.prog 33 #[.agg #[v, .int .i64 lim, .int .i64 fl, .int .i64 fh], v2] w (NewP xs lim fl fh zs w) := by
  have CV := Lib.hid (fun (W : World) (h : Below w.heap.size w W) => validRules_ok v xs lim fl fh W hl ((hv.below h (Nat.le_refl _)).mono h.size) ht hT hlim hf)
  have hx2 := (tabOk_of ht).1
  obtain ⟨A, cA, rfl, hr⟩ := hv
  obtain ⟨gx, ox, rfl, hgx, hrx⟩ := hr (by omega)
  have CK := Lib.hid (fun (W : World) (h : Below w.heap.size w W) => clone_rows xs gx ox cA (by omega) (by omega) W (Nat.lt_of_lt_of_le hgx h.size) (fun k p hp => ⟨cell_next h hgx (hrx k p hp).1, cell_next h hgx (hrx k p hp).2⟩))
  have CI := Lib.hid (fun (W : World) (g cp : Nat) => in1v_any 1 20 (zs.length : Int) g cp W)
  rw [show inB 1 20 (zs.length : Int) = true from by simp [inB]; omega] at CI
  have CZ := Lib.hid (fun (W : World) (h : Below w.heap.size w W) => in_any 1 1000000000 v2 zs W (by omega) ((hv2.below h (Nat.le_refl _)).mono h.size))
  rw [hz] at CZ
  obtain ⟨A2, c2, rfl, hr2⟩ := hv2
  have HR2 := Lib.hid hr2
  obtain ⟨i0, hi0, hz0, hz1, hz2⟩ := info_parts infoPtr
  obtain ⟨n, hn⟩ : ∃ n, zs.length = n := ⟨_, rfl⟩
  obtain ⟨m, hm⟩ : ∃ m, xs.length = m := ⟨_, rfl⟩
  rw [hn] at h1 h2 CI CZ HR2 ⊢
  rw [hm] at CV CK ⊢
  have Hn := Lib.hid hn
  have Hm := Lib.hid hm
  clear hr hrx hr2 hn hm ht hT hlim hf hz hl hx2
  go_enter Try.func33, Try.ntmps33
  go_wp2_with fail
  refine (CV.out _ ((Below.refl _ _).alloc (Nat.le_refl _) _)).mono ?_
  rintro e w1 ⟨rfl, hb⟩
  have b0 := cell_next hb (b := w.heap.size) (o := 0) (by simp) (cell_new _ _ _ 0)
  have b1 := cell_next hb (b := w.heap.size) (o := 1) (by simp) (cell_new _ _ _ 1)
  have b2 := cell_next hb (b := w.heap.size) (o := 2) (by simp) (cell_new _ _ _ 2)
  have b3 := cell_next hb (b := w.heap.size) (o := 3) (by simp) (cell_new _ _ _ 3)
  have f0 := frozen_next hb (b := w.heap.size) (o := 0) (v := false) (by simp) (by simp [go_sem])
  have nb : w.heap.size < w1.heap.size := by have := hb.size; simp at this; omega
  have hB := below1 hb
  clear hb CV
  go_wp2_with fail
  refine (CI.out _ _ _ (by simp) (by simp [go_sem])).mono ?_
  rintro e w2 ⟨rfl, hb⟩
  have hb' := below1 hb
  replace b0 := cell_next hb' nb b0
  replace b1 := cell_next hb' nb b1
  replace b2 := cell_next hb' nb b2
  replace b3 := cell_next hb' nb b3
  replace f0 := frozen_next hb' nb f0
  replace nb := Nat.lt_of_lt_of_le nb hb'.size
  replace hB := hB.trans (hb'.mono hB.size)
  clear hb hb' CI
  go_wp2_with fail
  refine (CZ.out _ hB).mono ?_
  rintro e w3 ⟨rfl, hb⟩
  replace b0 := cell_next hb nb b0
  replace b1 := cell_next hb nb b1
  replace b2 := cell_next hb nb b2
  replace b3 := cell_next hb nb b3
  replace f0 := frozen_next hb nb f0
  replace nb := Nat.lt_of_lt_of_le nb hb.size
  replace hB := hB.trans (hb.mono hB.size)
  clear hb CZ
  go_wp2_with fail
  refine (CK.out _ hB).mono ?_
  rintro e w4 ⟨v', rfl, hNR, hb⟩
  replace b0 := cell_next hb nb b0
  replace b1 := cell_next hb nb b1
  replace b2 := cell_next hb nb b2
  replace b3 := cell_next hb nb b3
  replace f0 := frozen_next hb nb f0
  have nb4 := Nat.lt_of_lt_of_le nb hb.size
  replace hB := hB.trans (hb.mono hB.size)
  have hSet := hNR.row.set
  obtain ⟨g', cap', rfl, hown⟩ := hNR
  have hg' : w.heap.size ≠ g' := by have := (World.ownsRow.lt hown g' rfl).1; omega
  have HS : Hid (SetAt w4.heap.size (w4.setCell ⟨w.heap.size, 0, none⟩ (.slice (some ⟨g', 0, none⟩) xs.length cap')) (.slice (some ⟨g', 0, none⟩) xs.length cap') xs) := Lib.hid (hSet.set_other (by simp [Value.ownBlock]; omega))
  rw [Hm.out] at HS
  simp only [Hm.out]
  clear hb CK hown hSet
  go_upto_region 8 with fail
  have hB5 := hB.setCell (p := ⟨w.heap.size, 0, none⟩) (Nat.le_refl _) (.slice (some ⟨g', 0, none⟩) m cap')
  have d0 : (w4.setCell ⟨w.heap.size, 0, none⟩ (.slice (some ⟨g', 0, none⟩) m cap')).cell? ⟨w.heap.size, 0, none⟩ = some (.slice (some ⟨g', 0, none⟩) m cap') := by simp [go_sem, b0]
  have d1 : (w4.setCell ⟨w.heap.size, 0, none⟩ (.slice (some ⟨g', 0, none⟩) m cap')).cell? ⟨w.heap.size, 1, none⟩ = some (.int .i64 lim) := by simp [go_sem, b1]
  have d2 : (w4.setCell ⟨w.heap.size, 0, none⟩ (.slice (some ⟨g', 0, none⟩) m cap')).cell? ⟨w.heap.size, 2, none⟩ = some (.int .i64 fl) := by simp [go_sem, b2]
  have d3 : (w4.setCell ⟨w.heap.size, 0, none⟩ (.slice (some ⟨g', 0, none⟩) m cap')).cell? ⟨w.heap.size, 3, none⟩ = some (.int .i64 fh) := by simp [go_sem, b3]
  have hsz : w4.heap.size = (w4.setCell ⟨w.heap.size, 0, none⟩ (.slice (some ⟨g', 0, none⟩) m cap')).heap.size := by simp [World.setCell]
  rw [hsz] at HS nb4
  clear b0 b1 b2 b3 f0 hB hsz nb
  generalize w4.setCell ⟨w.heap.size, 0, none⟩ (.slice (some ⟨g', 0, none⟩) m cap') = X at *
  go_wp2_with fail
  have HN := Lib.hid (ncAt_new X (.slice (some ⟨g', 0, none⟩) m cap') (.slice none 0 0) lim fl fh)
  have hL0 : Below X.heap.size X (X.alloc (Obj.cells #[.slice (some ⟨g', 0, none⟩) m cap', .int .i64 lim, .int .i64 fl, .int .i64 fh, .slice none 0 0, .int .i64 0, .int .i64 0, .int .i64 0, .int .i64 0, .int .i64 0, .int .i64 0, .int .i64 0] 172)) := (Below.refl _ _).alloc (Nat.le_refl _) _
  clear d0 d1 d2 d3
  generalize X.alloc (Obj.cells #[.slice (some ⟨g', 0, none⟩) m cap', .int .i64 lim, .int .i64 fl, .int .i64 fh, .slice none 0 0, .int .i64 0, .int .i64 0, .int .i64 0, .int .i64 0, .int .i64 0, .int .i64 0, .int .i64 0] 172) = X0 at *
  go_loopw [29] (fun i wr => ∃ (k : Nat) (bs : List Nat) (v : Value), k ≤ n ∧ i = .int .i64 k ∧ Hid (bs.length = k) ∧ Hid (wr.ownsRow (X.heap.size + 1) 173 1 v k (bs.map ptr)) ∧ Hid (NcAt wr X.heap.size (.slice (some ⟨g', 0, none⟩) m cap') lim fl fh v) ∧ Hid (∀ (j b : Nat) (z : Int), bs[j]? = some b → zs[j]? = some z → VesAt wr b z 0 0 (.slice none 0 0)) ∧ Hid (∀ b ∈ bs, X.heap.size < b ∧ b < wr.heap.size ∧ v.ownBlock ≠ some b) ∧ Hid (bs.Nodup) ∧ Below X.heap.size X wr) (fun i _ => n - (RowKit.intOf i).toNat)
  case atStart => exact ⟨0, [], .slice none 0 0, Nat.zero_le _, rfl, Lib.hid rfl, Lib.hid (World.ownsRow_nil _ _ _ _), HN, Lib.hid (fun j b z h => by simp at h), Lib.hid (fun b h => by cases h), Lib.hid List.nodup_nil, hL0⟩
  case round =>
    clear HN hL0
    obtain ⟨k, bs, v, hk, rfl, HBl, HO, HN, HV, HBd, HND, hLr⟩ := hrel
    by_cases hlt : k < n
    · obtain ⟨z, hp⟩ : ∃ p, zs[k]? = some p := ⟨_, List.getElem?_eq_getElem (by rw [Hn.out]; exact hlt)⟩
      obtain ⟨g2, o2, rfl, hg2, hc2⟩ := HR2.out (by omega)
      have q0 : wr.cell? ⟨g2, o2 + k, none⟩ = some (.int .i64 z) := cell_next hLr (by omega) (cell_next hB5 hg2 (hc2 k z hp))
      have hgr : g2 < wr.heap.size := by have := hLr.size; omega
      have hOL := World.ownsRow.lt HO.out
      have c4 := HN.out.c4
      have f4 := HN.out.fr 4
      have nc := HN.out.nc
      have hXr := hLr.size
      obtain ⟨Av, cv, rfl⟩ : ∃ Av cv, v = .slice Av k cv := by
        rcases HO.out.2 with ⟨h, h'⟩ | ⟨g, cap, cur, h, _⟩
        · exact ⟨none, 0, by rw [h', h]⟩
        · exact ⟨_, _, h⟩
      go_wp2_with (at_builtin; refine wpList_append_own_at _ rfl (.tmp 37) (.tmp 41) 170 rfl (X.heap.size + 1) 173 i0 (.pointer none) 1 8 Try.underlying170 hi0 hz0 hz1 hz2 rfl (by decide) (.slice Av k cv) k (bs.map ptr) rfl (World.ownsRow.alloc (World.ownsRow.alloc HO.out _) _) ⟨wr.heap.size + 1, 0, none⟩ 1 1 [ptr wr.heap.size] rfl rfl ?_ ?_ ?_ ?_ ?_ ?_)
      case refine_1 =>
        intro j u hj
        rcases j with _ | j
        · simp at hj
          subst hj
          have := cell_new (wr.alloc (Obj.cells #[.int .i64 z, .int .i64 0, .int .i64 0, .slice none 0 0] 176)) #[.pointer (some ⟨wr.heap.size, 0, none⟩)] 173 0
          rw [show (wr.alloc (Obj.cells #[.int .i64 z, .int .i64 0, .int .i64 0, .slice none 0 0] 176)).heap.size = wr.heap.size + 1 from by simp] at this
          rw [Addr.add_lit]
          exact this
        · simp at hj
      case refine_2 => simp [ptr, Value.oneCell']
      case refine_3 => unfold maxLen; omega
      case refine_4 => omega
      case refine_5 => simp; omega
      case refine_6 =>
        intro v' Y hown' hgrow hnn hat
        have hg2' := grown_alloc hgrow
        have hKg := Kept.of_grown hg2'
        have hNb : ¬ ((Value.slice Av k cv).ownBlock = some wr.heap.size) := fun h => by have := (hOL _ h).2; omega
        have hVb := (vesAt_new wr z 0 0 (.slice none 0 0)).kept hKg hNb
        have hKa : Kept (fun i => (Value.slice Av k cv).ownBlock = some i) wr (wr.alloc (Obj.cells #[.int .i64 z, .int .i64 0, .int .i64 0, .slice none 0 0] 176)) := Kept.of_below' ((Below.refl _ _).alloc (Nat.le_refl _) _) _
        have hKr := hKa.trans hKg
        have hLY := (hLr.alloc hLr.size (Obj.cells #[.int .i64 z, .int .i64 0, .int .i64 0, .slice none 0 0] 176)).grown hg2' (hLr.alloc hLr.size (Obj.cells #[.int .i64 z, .int .i64 0, .int .i64 0, .slice none 0 0] 176)).size (fun g h => by have := (hOL g h).1; omega)
        have hYs : wr.heap.size < Y.heap.size := by have := hKg.1; simp at this; omega
        replace HN := Lib.hid (HN.out.kept hKr (fun h => by have := (hOL _ h).1; omega))
        replace HV := Lib.hid (ves_snoc HBl.out hp HV.out hKr (fun b hb => (HBd.out b hb).2.2) hVb)
        obtain ⟨g3, cap3, rfl, hgb3, hg3⟩ := World.ownsRow.form hown' (by omega)
        have hg3n : ∀ b ∈ bs ++ [wr.heap.size], g3 ≠ b := by
          intro b hb e
          subst e
          rw [List.mem_append, List.mem_singleton] at hb
          rcases hat with h | h
          · rcases hb with hb | hb
            · exact (HBd.out _ hb).2.2 h.symm
            · exact hNb (by rw [← hb]; exact h.symm)
          · have e3 : g3 = wr.heap.size + 1 + 1 := by simpa [Value.ownBlock] using h
            rcases hb with hb | hb
            · have := (HBd.out _ hb).2.1; omega
            · omega
        have c4' := HN.out.c4
        have f4' := HN.out.fr 4
        have nc' := HN.out.nc
        have hKc : Kept (fun i => i = X.heap.size) Y (Y.setCell ⟨X.heap.size, 4, none⟩ (.slice (some ⟨g3, 0, none⟩) (k + 1) cap3)) := Kept.set (U := fun i => i = X.heap.size) _ (p := ⟨X.heap.size, 4, none⟩) rfl _
        have HN2 := Lib.hid (HN.out.put (.slice (some ⟨g3, 0, none⟩) (k + 1) cap3))
        have hbs2 : ∀ b ∈ bs ++ [wr.heap.size], X.heap.size < b ∧ b < Y.heap.size := by
          intro b hb
          rw [List.mem_append, List.mem_singleton] at hb
          rcases hb with hb | hb
          · have := HBd.out b hb; omega
          · omega
        have HV2 : Hid (∀ (j b : Nat) (z : Int), (bs ++ [wr.heap.size])[j]? = some b → zs[j]? = some z → VesAt (Y.setCell ⟨X.heap.size, 4, none⟩ (.slice (some ⟨g3, 0, none⟩) (k + 1) cap3)) b z 0 0 (.slice none 0 0)) := Lib.hid (fun j b z h1 h2 => (HV.out j b z h1 h2).kept hKc (fun e => by have := (hbs2 b (List.mem_of_getElem? h1)).1; omega))
        have hO2 := ownsRow_kept hown' hKc (fun g h e => by have := (World.ownsRow.lt hown' g h).1; omega)
        rw [show List.map ptr bs ++ [ptr wr.heap.size] = (bs ++ [wr.heap.size]).map ptr from by simp] at hO2
        have HO2 := Lib.hid hO2
        have HBd2 : Hid (∀ b ∈ bs ++ [wr.heap.size], X.heap.size < b ∧ b < (Y.setCell ⟨X.heap.size, 4, none⟩ (.slice (some ⟨g3, 0, none⟩) (k + 1) cap3)).heap.size ∧ (Value.slice (some ⟨g3, 0, none⟩) (k + 1) cap3).ownBlock ≠ some b) := Lib.hid (fun b hb => ⟨(hbs2 b hb).1, Nat.lt_of_lt_of_le (hbs2 b hb).2 hKc.1, fun h => hg3n b hb (by simpa [Value.ownBlock] using h)⟩)
        have HND2 : Hid ((bs ++ [wr.heap.size]).Nodup) := Lib.hid (by
          rw [List.nodup_append]
          refine ⟨HND.out, by simp, fun a ha b hb e => ?_⟩
          rw [List.mem_singleton] at hb
          have := (HBd.out a ha).2.1
          omega)
        have hLe := hLY.setCell (p := ⟨X.heap.size, 4, none⟩) (Nat.le_refl _) (.slice (some ⟨g3, 0, none⟩) (k + 1) cap3)
        have HBl2 : Hid ((bs ++ [wr.heap.size]).length = k + 1) := Lib.hid (by simp [HBl.out])
        have HLe := Lib.hid hLe
        clear hown' hgrow hg2' hKg hNb hVb hKa hKr hLY HV hg3n hKc hbs2 hO2 hLe HN HO HBd HND hOL hat hnn HBl c4 f4 q0
        generalize hbsE : bs ++ [wr.heap.size] = bs2 at *
        go_wp2_with fail
        go_roundw
        case measure => simp [RowKit.intOf]; omega
        case rel => exact ⟨k + 1, bs2, _, by omega, by go_num, HBl2, HO2, HN2, HV2, HBd2, HND2, HLe.out⟩
    · obtain rfl : k = n := by omega
      obtain ⟨g3, cap3, rfl, hgb3, hg3⟩ := World.ownsRow.form HO.out (by omega)
      have hn1 := HN.out
      have hcs := fun (i : Nat) (u : Value) => HO.out.cells (g := g3) rfl i u
      have HF : Hid (NewP xs lim fl fh zs w (.returned (.tuple #[.pointer (some ⟨X.heap.size, 0, none⟩), .int .i64 0])) wr) := Lib.hid (by
        have hbl : bs.length = zs.length := by rw [HBl.out, Hn.out]
        refine ⟨X.heap.size, g3, cap3, fun i => bs.getD i 0, .slice (some ⟨g', 0, none⟩) m cap', rfl, by omega, by omega, hg3, ?_, HS.out.below hLr (Nat.le_refl _), ?_, ?_, ?_, hB5.trans (hLr.mono (by omega))⟩
        · refine ⟨hn1.nc, hg3, hn1.c0, hn1.c1, hn1.c2, hn1.c3, by rw [Hn.out]; exact hn1.c4, hn1.c5, hn1.c6, hn1.c7, hn1.c8, hn1.c9, hn1.c10, hn1.c11, hn1.fr, fun i hi => ?_⟩
          have hi' : i < bs.length := by rw [hbl]; exact hi
          have := hcs i (ptr (bs.getD i 0)) (by rw [List.getElem?_map, List.getElem?_eq_getElem hi', getD_of (List.getElem?_eq_getElem hi')]; rfl)
          simpa [Addr.add_lit, ptr] using this
        · intro i z hz
          have hi' : i < bs.length := by rw [hbl]; exact (List.getElem?_eq_some_iff.1 hz).1
          show VesAt wr (bs.getD i 0) z 0 0 _
          rw [getD_of (List.getElem?_eq_getElem hi')]
          exact HV.out i _ z (List.getElem?_eq_getElem hi') hz
        · intro i hi
          have hi' : i < bs.length := by rw [hbl]; exact hi
          have hb := HBd.out _ (List.getElem_mem hi')
          show X.heap.size < bs.getD i 0 ∧ bs.getD i 0 < wr.heap.size ∧ bs.getD i 0 ≠ g3
          rw [getD_of (List.getElem?_eq_getElem hi')]
          exact ⟨hb.1, hb.2.1, fun e => hb.2.2 (by rw [e]; rfl)⟩
        · intro i j hi hj e
          exact nodup_inj HND.out (by rw [hbl]; exact hi) (by rw [hbl]; exact hj) e)
      clear hn1 hcs HO HN HV HBd HND
      go_wp2_with fail
      go_ret2
      exact HF.out

open Go.RowKit Go.Lib Go.Shelf
set_option linter.unusedVariables false
set_option linter.unusedSimpArgs false
attribute [local go_sem ↓] Go.wp_at_zero Go.wp_at_succ

def kRows : List (Int × Int) := [(0, 10), (100, 50), (200, 300)]
structure Fx (c tk : Nat) (vb : Nat → Nat) (base : Nat) : Prop where
  cb : c < base
  tb : tk < base
  c0 : c < vb 0
  v0 : vb 0 < base
  c1 : c < vb 1
  v1 : vb 1 < base
  ct : c < tk
  t0 : vb 0 ≠ tk
  t1 : vb 1 ≠ tk
  ne : vb 0 ≠ vb 1
def St (c tk cap : Nat) (vb : Nat → Nat) (base : Nat) (T p1 p2 d1 d2 fl fh : Int) (xs ys : List Lo) (W : World) : Prop :=
  ∃ gv v0 v1, CelAt W c tk vb ⟨gv, 1000, 1, 2, T, p1, p2, d1, d2, 0, 0, 2, cap⟩ ∧ TankAt base W (vb 0) 1000 fl fh v0 xs ∧ TankAt base W (vb 1) 500 fl fh v1 ys ∧ SetAt c W gv kRows ∧ (∀ g, v0.ownBlock = some g → v1.ownBlock ≠ some g) ∧ base ≤ W.heap.size
theorem St.below {c tk cap base : Nat} {vb : Nat → Nat} {T p1 p2 d1 d2 fl fh : Int} {xs ys : List Lo} {W W' : World} (h : St c tk cap vb base T p1 p2 d1 d2 fl fh xs ys W) (hb : Below W.heap.size W W') : St c tk cap vb base T p1 p2 d1 d2 fl fh xs ys W' := by
  obtain ⟨gv, v0, v1, h1, h2, h3, h4, h5, h6⟩ := h
  have := h1.nc
  exact ⟨gv, v0, v1, h1.below hb, h2.below hb, h3.below hb, h4.below hb (by omega), h5, Nat.le_trans h6 hb.size⟩

theorem pour_st {c tk cap base : Nat} {vb : Nat → Nat} {T p1 p2 d1 d2 fl fh : Int} {xs ys : List Lo} {W : World} (F : Fx c tk vb base) (h : St c tk cap vb base T p1 p2 d1 d2 fl fh xs ys W) (l : Lo) (hT : l.t = T) (hx : ∀ x ∈ xs, loB x ∧ x.t ≤ l.t) (hl : xs.length + 1 ≤ 40) (hlot : lotB l = true) (hm : (lotSum xs).1 + (lotSum xs).2 + (l.a + l.s) ≤ 1000)
    (hp0 : spB p1 p2 = true) (hp1 : spB (p1 + l.a) (p2 + l.s) = true) :
    Calls Try.prog 35 #[.pointer (some ⟨c, 0, none⟩), .int .i64 0, .agg #[.int .i64 l.a, .int .i64 l.s], .agg #[.int .i64 l.lo, .int .i64 l.hi]] W fun e W' => e = .returned (.int .i64 0) ∧ St c tk cap vb base T (p1 + l.a) (p2 + l.s) d1 d2 fl fh (xs ++ [raise fl fh l]) ys W' ∧ Below c W W' := by
  obtain ⟨gv, v0, v1, h1, h2, h3, h4, h5, h6⟩ := h
  obtain ⟨f1, f2, f3, f4, f5, f6, f7, f8, f9, f10⟩ := F
  refine (pour_ok c base c tk 0 vb _ 1000 fl fh v0 xs l W hT (show (0:Nat) < 2 by decide) (show (2:Nat) ≤ 1000 by decide) (by omega) (by omega) (by omega) f1 f2 f4 h6 (by omega) (by omega) (fun e => f8 e.symm) h1 h2.1 h2.2 hx hl hlot hm hp0 hp1).mono ?_
  rintro e W' ⟨rfl, v', hC, hV, hO, hob, hb, hk⟩
  have ho1 : ∀ g, v1.ownBlock = some g → base ≤ g ∧ g < W.heap.size := World.ownsRow.lt h3.2
  have ho0 : ∀ g, v0.ownBlock = some g → base ≤ g ∧ g < W.heap.size := World.ownsRow.lt h2.2
  refine ⟨rfl, ⟨gv, v', v1, hC, ⟨hV, hO⟩, h3.kept hk ?_ ?_, h4.below hb (Nat.le_refl _), ?_, Nat.le_trans h6 hb.size⟩, hb⟩
  · rintro (h | h | h)
    · omega
    · omega
    · have := (ho0 _ h).1; omega
  · rintro g hg (h | h | h)
    · have := (ho1 _ hg).1; omega
    · have := (ho1 _ hg).1; omega
    · exact h5 g h hg
  · intro g hg hg1
    rcases hob with h | ⟨g', h, hge⟩
    · exact h5 g (h ▸ hg) hg1
    · rw [hg] at h
      injection h with h
      have := (ho1 _ hg1).2
      omega

theorem stay_st {c tk cap base : Nat} {vb : Nat → Nat} {T p1 p2 d1 d2 fl fh : Int} {xs ys : List Lo} {W : World} (F : Fx c tk vb base) (h : St c tk cap vb base T p1 p2 d1 d2 fl fh xs ys W) (n a b gl gh : Int) (hx : xs.length ≤ 40 ∧ ∀ x ∈ xs, ldB x) (hy : ys.length ≤ 40 ∧ ∀ x ∈ ys, ldB x)
    (hf : (0 ≤ fl ∧ fl ≤ 1000000) ∧ 0 ≤ fh ∧ fh ≤ 1000000) (hT : 0 ≤ T ∧ T ≤ 1000000) (hn : 0 ≤ n ∧ n ≤ 1000000 - T) (hg : (0 ≤ gl ∧ gl ≤ 1000000000) ∧ 0 ≤ gh ∧ gh ≤ 1000000000) (hE : vlE kRows a b = 0) (hR : vlR kRows a b = (gl, gh)) :
    Calls Try.prog 36 #[.pointer (some ⟨c, 0, none⟩), .int .i64 n, .agg #[.int .i64 a, .int .i64 b]] W fun e W' => e = .returned (.int .i64 0) ∧ St c tk cap vb base (T + n) p1 p2 d1 d2 (min 1000000 (fl + n * 1)) (min 1000000 (fh + n * 2)) (xs.map (growL n gl gh)) (ys.map (growL n gl gh)) W' ∧ Below c W W' := by
  obtain ⟨gv, v0, v1, h1, h2, h3, h4, h5, h6⟩ := h
  obtain ⟨f1, f2, f3, f4, f5, f6, f7, f8, f9, f10⟩ := F
  have ho1 : ∀ g, v1.ownBlock = some g → base ≤ g ∧ g < W.heap.size := World.ownsRow.lt h3.2
  have ho0 : ∀ g, v0.ownBlock = some g → base ≤ g ∧ g < W.heap.size := World.ownsRow.lt h2.2
  have two : ∀ (P : Nat → Prop), P 0 → P 1 → ∀ i, i < 2 → P i := fun P p0 p1 i hi => by
    rcases i with _ | _ | i
    · exact p0
    · exact p1
    · omega
  refine (stay_ok c base c tk vb ⟨gv, 1000, 1, 2, T, p1, p2, d1, d2, 0, 0, 2, cap⟩ (fun i => if i = 0 then v0 else v1) (fun i => if i = 0 then 1000 else 500) (fun _ => fl) (fun _ => fh) (fun i => if i = 0 then xs else ys) n a b gl gh W (show (2:Nat) ≤ 1000 by decide) (Nat.le_refl _) (by omega) (two _ (by omega) (by omega)) f1 f2 h6 (by omega)
    ⟨two _ f4 f6, ?_, two _ (by omega) (by omega), two _ f8 f9, ?_⟩ h1 (two _ h2 h3) (two _ hx hy) (two _ hf hf) (show ((0:Int) ≤ 1 ∧ (1:Int) ≤ 1000000) ∧ (0:Int) ≤ 2 ∧ (2:Int) ≤ 1000000 by decide) hT hn hg ?_).mono ?_
  · intro i j hi hj e
    rcases i with _ | _ | i <;> rcases j with _ | _ | j <;> first | rfl | (exfalso; exact f10 e) | (exfalso; exact f10 e.symm) | (exfalso; dsimp only at hi hj; omega)
  · intro i j hi hj hij g hg
    rcases i with _ | _ | i <;> rcases j with _ | _ | j <;> first | (exfalso; exact hij rfl) | exact h5 g hg | exact (fun h => h5 g h hg) | (exfalso; dsimp only at hi hj; omega)
  · intro W1 hb1
    have hc := h1.nc
    refine (values_any gv kRows a b W1 ((h4.below hb1 (by omega)).mono (Nat.le_trans (by omega) hb1.size))).mono ?_
    rintro e W2 ⟨rfl, hb⟩
    rw [hE, hR]
    exact ⟨rfl, hb⟩
  · rintro e W' ⟨rfl, hC, hV, hb, hk⟩
    have t0 := hV 0 (show (0:Nat) < 2 by decide)
    have t1 := hV 1 (show (1:Nat) < 2 by decide)
    exact ⟨rfl, ⟨gv, v0, v1, hC, t0, t1, h4.below hb (Nat.le_refl _), h5, Nat.le_trans h6 hb.size⟩, hb⟩

theorem draw_st {c tk cap base : Nat} {vb : Nat → Nat} {T p1 p2 d1 d2 fl fh : Int} {xs ys : List Lo} {W : World} (F : Fx c tk vb base) (h : St c tk cap vb base T p1 p2 d1 d2 fl fh xs ys W) (M : Int) (hx : ∀ x ∈ xs, loB x ∧ 0 ≤ x.t ∧ x.t ≤ 1000000) (hl : xs.length ≤ 40) (hT : 0 ≤ T ∧ T ≤ 1000000) (hM1 : 1 ≤ M) (hM2 : M ≤ (lotSum xs).1 + (lotSum xs).2) (hd0 : smB (d1, d2)) :
    Calls Try.prog 37 #[.pointer (some ⟨c, 0, none⟩), .int .i64 0, .int .i64 M] W fun e W' =>
      e = .returned (.tuple #[.agg #[.int .i64 (lotSum (drawL xs M).2.1).1, .int .i64 (lotSum (drawL xs M).2.1).2, .int .i64 (huL ((drawL xs M).2.1.map gm)), .int .i64 (huH ((drawL xs M).2.1.map gm)), .int .i64 (huL ((drawL xs M).2.1.map (ag T))), .int .i64 (huH ((drawL xs M).2.1.map (ag T)))], .int .i64 0]) ∧
      St c tk cap vb base T p1 p2 (d1 + (lotSum (drawL xs M).2.1).1) (d2 + (lotSum (drawL xs M).2.1).2) fl fh (drawL xs M).2.2 ys W' ∧ Below c W W' := by
  obtain ⟨gv, v0, v1, h1, h2, h3, h4, h5, h6⟩ := h
  obtain ⟨f1, f2, f3, f4, f5, f6, f7, f8, f9, f10⟩ := F
  refine (cdraw_ok c base c tk 0 vb _ 1000 fl fh M v0 xs W (show (0:Nat) < 2 by decide) (show (2:Nat) ≤ 1000 by decide) (by omega) (by omega) (by omega) f1 f2 f4 h6 (by omega) (by omega) (fun e => f8 e.symm) h1 h2.1 h2.2 hx hl hT hM1 hM2 hd0).mono ?_
  rintro e W' ⟨rfl, v', hC, hV, hO, hob, hb, hk⟩
  have ho1 : ∀ g, v1.ownBlock = some g → base ≤ g ∧ g < W.heap.size := World.ownsRow.lt h3.2
  refine ⟨rfl, ⟨gv, v', v1, hC, ⟨hV, hO⟩, h3.kept hk ?_ ?_, h4.below hb (Nat.le_refl _), ?_, Nat.le_trans h6 hb.size⟩, hb⟩
  · rintro (h | h)
    · omega
    · omega
  · rintro g hg (h | h)
    · have := (ho1 _ hg).1; omega
    · have := (ho1 _ hg).1; omega
  · intro g hg hg1
    have := hob g hg
    have := (ho1 _ hg1).2
    omega

theorem move_st {c tk cap base : Nat} {vb : Nat → Nat} {T p1 p2 d1 d2 fl fh : Int} {xs ys : List Lo} {W W2 : World} (F : Fx c tk vb base) (h : St c tk cap vb base T p1 p2 d1 d2 fl fh xs ys W) (hb2 : Below W.heap.size W W2) (M : Int) (hx : ∀ x ∈ xs, loB x) (hy : ∀ x ∈ ys, loB x) (hl : xs.length ≤ 40)
    (hM1 : 1 ≤ M) (hM2 : M ≤ (lotSum xs).1 + (lotSum xs).2) (hr1 : ys.length + (drawL xs M).2.1.length ≤ 40) (hr2 : (lotSum ys).1 + (lotSum ys).2 + ((lotSum (drawL xs M).2.1).1 + (lotSum (drawL xs M).2.1).2) ≤ 500)
    (ht1 : ∀ x ∈ ys, ∀ y ∈ (drawL xs M).2.1, x.t ≤ y.t) (ht2 : (drawL xs M).2.1.Pairwise fun x y => x.t ≤ y.t) :
    Calls Try.prog 38 #[.pointer (some ⟨c, 0, none⟩), .int .i64 0, .int .i64 1, .int .i64 M] W2 fun e W' => e = .returned (.int .i64 0) ∧ St c tk cap vb base T p1 p2 d1 d2 fl fh (drawL xs M).2.2 (ys ++ (drawL xs M).2.1.map (raise fl fh)) W' ∧ Below c W2 W' ∧ Kept (fun i => i < W.heap.size) W2 W' := by
  obtain ⟨gv, v0, v1, h1, h2, h3, h4, h5, h6⟩ := h
  have ho1 : ∀ g, v1.ownBlock = some g → base ≤ g ∧ g < W.heap.size := World.ownsRow.lt h3.2
  have hc := h1.nc
  replace h1 := h1.below hb2
  replace h2 := h2.below hb2
  replace h3 := h3.below hb2
  replace h4 := h4.below hb2 (by omega)
  have h6' := Nat.le_trans h6 hb2.size
  obtain ⟨f1, f2, f3, f4, f5, f6, f7, f8, f9, f10⟩ := F
  refine (move_ok c base c tk 0 1 vb _ 1000 fl fh 500 fl fh M v0 v1 xs ys W2 (show (0:Nat) < 2 by decide) (show (1:Nat) < 2 by decide) (by decide) (show (2:Nat) ≤ 1000 by decide) (by omega) (by omega) (by omega) f1 f2 f4 f6 h6' (by omega) (by omega) (fun e => f8 e.symm) (fun e => f9 e.symm) f10 h1 h2.1 h3.1 h2.2 h3.2 hx hy hl hM1 hM2 hr1 hr2 ht1 ht2).mono ?_
  rintro e W' ⟨rfl, v2, v', hC, hV, hO, hV', hO', hob, hob', hap, hb, hk⟩
  exact ⟨rfl, ⟨gv, v2, v', hC, ⟨hV, hO⟩, ⟨hV', hO'⟩, h4.below hb (Nat.le_refl _), hap, Nat.le_trans h6' hb.size⟩, hb, hk.mono fun i hi => by
    rcases hi with h | h | h
    · omega
    · omega
    · exact (ho1 _ h).2⟩

theorem tell_st {c tk cap base : Nat} {vb : Nat → Nat} {T p1 p2 d1 d2 fl fh : Int} {xs ys : List Lo} {W : World} (h : St c tk cap vb base T p1 p2 d1 d2 fl fh xs ys W) (hx : ∀ x ∈ ys, loB x ∧ 0 ≤ x.t ∧ x.t ≤ 1000000) (hl : ys.length ≤ 40) (hT : 0 ≤ T ∧ T ≤ 1000000) :
    Calls Try.prog 39 #[.pointer (some ⟨c, 0, none⟩), .int .i64 1] W fun e w' =>
      e = .returned (.tuple #[.agg #[.int .i64 (lotSum ys).1, .int .i64 (lotSum ys).2, .int .i64 (ys.length : Int), .int .i64 (huL (ys.map gm)), .int .i64 (huH (ys.map gm)), .int .i64 (huL (ys.map (ag T))), .int .i64 (huH (ys.map (ag T))), .int .i64 fl, .int .i64 fh, .int .i64 (cntL (fun l => decide (1000 ≤ l.hi)) ys), .int .i64 (cntL (fun l => decide (1000 ≤ l.lo)) ys)], .int .i64 0]) ∧ Below W.heap.size W w' := by
  obtain ⟨gv, v0, v1, h1, h2, h3, h4, h5, h6⟩ := h
  exact tell_ok base c tk 1 vb _ 500 fl fh v1 ys W (show (1:Nat) < 2 by decide) (show (2:Nat) ≤ 1000 by decide) h1 h3.1 h3.2 hx hl hT

theorem new_st (v : Value) (v2 : Value) (w : World) (hv : SetAt w.heap.size w v kRows) (hv2 : NsAt w.heap.size w v2 [1000, 500]) :
    Calls Try.prog 33 #[.agg #[v, .int .i64 1000, .int .i64 1, .int .i64 2], v2] w fun e w' => ∃ c tk cap vb base, e = .returned (.tuple #[.pointer (some ⟨c, 0, none⟩), .int .i64 0]) ∧ Fx c tk vb base ∧ w.heap.size ≤ c ∧ St c tk cap vb base 0 0 0 0 0 0 0 [] [] w' ∧ Below w.heap.size w w' := by
  refine (new_ok v kRows 1000 1 2 v2 [1000, 500] w (by decide) hv (by decide) (by decide) (by decide) (by decide) hv2 (by decide) (by decide) (by decide)).mono ?_
  rintro e w' ⟨c, tk, cap, vb, gv, rfl, hwc, hct, htk, hC, hS, hV, hb, hi, hB⟩
  have b0 := hb 0 (by decide)
  have b1 := hb 1 (by decide)
  have hne : vb 0 ≠ vb 1 := fun e => by have := hi 0 1 (by decide) (by decide) e; omega
  have hc := hC.nc
  refine ⟨c, tk, cap, vb, w'.heap.size, rfl, ⟨hc, htk, b0.1, b0.2.1, b1.1, b1.2.1, hct, b0.2.2, b1.2.2, hne⟩, hwc, ⟨gv, _, _, hC, ⟨hV 0 1000 rfl, OwnL.nil _ _⟩, ⟨hV 1 500 rfl, OwnL.nil _ _⟩, hS, (fun g h => by cases h), Nat.le_refl _⟩, hB⟩
end Go.Proofs.Ytdlmkjllcejoaaa
