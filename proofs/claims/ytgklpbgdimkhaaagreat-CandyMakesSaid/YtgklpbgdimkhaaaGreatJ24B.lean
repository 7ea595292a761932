/- Contract of the reference of chapter 11: Make. -/
import Derived.Test.YtgklpbgdimkhaaaGreatJ21B
import Derived.Test.YtgklpbgdimkhaaaGreatJ7B
import Derived.OwnWalk
import Derived.Deep.AppendLies
namespace Go.Proofs.YtgklpbgdimkhaaaGreat
open Go.RowKit Go.Lib Go.Shelf
set_option linter.unusedVariables false
set_option linter.unusedSimpArgs false
attribute [local go_sem ↓] Go.wp_at_zero Go.wp_at_succ

theorem jgrown_keep {W w' : World} {row : Option Nat} (h : W.grownBy w' row) {b o : Nat} {v : Option Value} (hb : b < W.heap.size) (hne : row ≠ some b) (hc : W.cell? ⟨b, o, none⟩ = v) : w'.cell? ⟨b, o, none⟩ = v :=
 (World.cell?_of_block (h.block b hb (by first | exact hne | exact fun e => hne e.symm))).trans hc
theorem jgrown_keepf {W w' : World} {row : Option Nat} (h : W.grownBy w' row) {b o : Nat} {v : Bool} (hb : b < W.heap.size) (hne : row ≠ some b) (hc : W.frozen? ⟨b, o, none⟩ = v) : w'.frozen? ⟨b, o, none⟩ = v :=
 (World.frozen?_of_block (h.block b hb (by first | exact hne | exact fun e => hne e.symm))).trans hc
theorem jown_empty0 (W : World) (T size : Nat) : (W.alloc (.cells #[] T)).ownsRow W.heap.size T size (.slice (some ⟨W.heap.size, 0, none⟩) 0 0) 0 [] :=
 ⟨by simp, .inr ⟨W.heap.size, 0, #[], rfl, Nat.le_refl _, heap_alloc_new W _, Nat.le_refl _, Nat.zero_le _, by simp, by simp⟩⟩
theorem jown_base0 {w : World} {base base' : Nat} {e : TypeId} {size : Nat} {v : Value} {n : Nat} {xs : List Value} (h : w.ownsRow base e size v n xs) (hb : base' ≤ base) : w.ownsRow base' e size v n xs := by
 refine ⟨h.1, ?_⟩
 rcases h.2 with hn | ⟨g, cap, cur, hv, hb2, rest⟩
 ·exact .inl hn
 ·exact .inr ⟨g, cap, cur, hv, by omega, rest⟩
theorem jstep_append_d {P : Program} (w : World) {ops : Array Oper} {o : Oper} {a : Act} {K : Act → World → Prop} {Q : Exit → Act → World → Prop} {E : Prop} (d : Nat) (hd : o.dst = some d) (hgd : o.guard = none) (s x : Operand) (t : TypeId)
  (ho : o.op = .call { callee := .builtin .append, args := #[s, x], argTypes := #[t, t] })
  (base : Nat) (e : TypeId) (i : TypeInfo) (z : Value) (size bytes : Nat) (ht : P.underlying t = some (.slice e)) (hi : P.info? e = some i) (hz : i.zero = some z)
  (hsize : i.size = size) (hby : i.bytes = bytes) (hzs : z.cells.size = size) (hsz : 0 < size)
  (v : Value) (n : Nat) (xs : List Value) (hs : a.eval s = v) (hown : w.ownsRow base e size v n xs)
  (ad : Addr) (m c : Nat) (news : List Value) (hx : a.eval x = .slice (some ad) m c) (hl : news.length = m * size) (hnews : ∀ j u, news[j]? = some u → w.cell? (ad.add j) = some u) (h1 : ∀ u ∈ news, u.oneCell' = true)
  (hm : 0 < m) (h63 : n + m ≤ maxLen) (hbytes : (n + m) * bytes ≤ 140737488355328) (hbase : base ≤ w.heap.size) (H : Nat) (hH : w.heap.size = H)
  (h : ∀ g cap w', w'.ownsRow base e size (.slice (some ⟨g, 0, none⟩) (n + m) cap) (n + m) (xs ++ news) → w.grownBy w' v.ownBlock → (v.ownBlock = some g ∨ g = H) → g < w'.heap.size → K (a.put (some d) (.slice (some ⟨g, 0, none⟩) (n + m) cap)) w') :
  if Region.wanted o (yielded ops a.tmps) = true then Oper.wp P o a w K Q else E :=
 step_append_lies w hgd s x t ho base e i z size bytes ht hi hz hsize hby hzs hsz v n xs hs hown ad m c news hx hl hnews h1 hm h63 hbytes hbase H hH (fun g cap w' h1 h2 h3 h4 => by rw [hd]; exact h g cap w' h1 h2 h3 h4)

theorem suffM {R G : Nat → World → Prop} {P : Prop} (main : (∀ g W, R g W → G g W) → P) (key : ∀ g W, R g W → G g W) : P := main key
theorem jown_set {w : World} {base : Nat} {e : TypeId} {size n b o : Nat} {u v : Value} {xs : List Value} (h : w.ownsRow base e size v n xs) (hne : ∀ g, v.ownBlock = some g → g ≠ b) : (w.setCell ⟨b, o, none⟩ u).ownsRow base e size v n xs :=
 ownsRow_kept h (Kept.set (U := fun i => i = b) w (p := ⟨b, o, none⟩) rfl u) (fun g hg e => hne g hg e)

set_option maxRecDepth 20000 in
set_option maxHeartbeats 2000000 in
theorem rMake_rules (v1 v2 v3 va : Value) (R : Cr) (a s : Int) (acts : List Ac) (w : World) (hv : CrAt w.heap.size w v1 v2 v3 R) (h1 : R.xs.length ≤ 1000000) (h2 : R.ys.length ≤ 1000000) (hc : crB R = false) :
  Calls Tryz.prog 21 #[.agg (cCr v1 v2 v3 R).toArray, .agg #[.int .i64 a, .int .i64 s], va] w (MkPost w R a s acts) := by
 have hnb : nbE R a s = 2 := by unfold nbE; rw [hc]; rfl
 have hm := Lib.hid (show MkRes R a s acts 0 2 from .inl ⟨by rw [hnb]; decide, rfl, hnb.symm⟩)
 have F1 := Lib.hid (fun (W : World) (h : Below w.heap.size w W) => rRules_any v1 v2 v3 R W h1 h2 (hv.next h))
 have F2 := Lib.hid (fun (W : World) => rSap_any a s W)
 have HP := Lib.hid (fun (sv : Value) (at' er : Int) (w' : World) => @mk_post w w' R a s acts sv at' er)
 obtain ⟨Q, hQ⟩ : ∃ Q, MkPost w R a s acts = Q := ⟨_, rfl⟩
 rw [hQ] at HP ⊢
 clear hQ
 rw [hc] at F1
 clear hc
 clear hnb
 obtain ⟨A1, c1, A2, c2, A3, c3, rfl, rfl, rfl⟩ := hv.slices
 clear hv h1 h2
 obtain ⟨xs, ys, bl, bh, ps⟩ := R
 dsimp only [cCr] at *
 generalize xs.length = n1 at *
 generalize ys.length = n2 at *
 generalize ps.length = n3 at *
 go_enter Tryz.func21, Tryz.ntmps21
 go_wp2_with fail
 refine (F1.out _ (((Below.refl _ _).alloc (Nat.le_refl _) _).alloc (by simp) _)).mono ?_
 rintro e W1 ⟨rfl, hb⟩
 have b0 := cell_next hb (b := w.heap.size) (o := 0) (by simp <;> omega) (v := some (.slice A1 n1 c1)) (by simp [go_sem])
 have b1 := cell_next hb (b := w.heap.size) (o := 1) (by simp <;> omega) (v := some (.slice A2 n2 c2)) (by simp [go_sem])
 have b2 := cell_next hb (b := w.heap.size) (o := 2) (by simp <;> omega) (v := some (.int .i64 bl)) (by simp [go_sem])
 have b3 := cell_next hb (b := w.heap.size) (o := 3) (by simp <;> omega) (v := some (.int .i64 bh)) (by simp [go_sem])
 have b4 := cell_next hb (b := w.heap.size) (o := 4) (by simp <;> omega) (v := some (.slice A3 n3 c3)) (by simp [go_sem])
 have nb : w.heap.size < W1.heap.size := by have := hb.size; simp at this; omega
 have j0 := cell_next hb (b := w.heap.size + 1) (o := 0) (by simp <;> omega) (v := some (.int .i64 a)) (by simp [go_sem])
 have j1 := cell_next hb (b := w.heap.size + 1) (o := 1) (by simp <;> omega) (v := some (.int .i64 s)) (by simp [go_sem])
 have nj : w.heap.size + 1 < W1.heap.size := by have := hb.size; simp at this; omega
 have hB := (below2 hb)
 clear hb
 go_wp2_with fail
 go_ret3
 exact HP.out _ _ _ _ hB hm.out (fun h => absurd h (by decide)) (fun _ => rfl)

set_option maxRecDepth 20000 in
set_option maxHeartbeats 2000000 in
theorem rMake_sap (v1 v2 v3 va : Value) (R : Cr) (a s : Int) (acts : List Ac) (w : World) (hv : CrAt w.heap.size w v1 v2 v3 R) (h1 : R.xs.length ≤ 1000000) (h2 : R.ys.length ≤ 1000000) (hc : crB R = true) (hs : spB a s = false) :
  Calls Tryz.prog 21 #[.agg (cCr v1 v2 v3 R).toArray, .agg #[.int .i64 a, .int .i64 s], va] w (MkPost w R a s acts) := by
 have hnb : nbE R a s = 2 := by unfold nbE brE; rw [hc, hs]; rfl
 have hm := Lib.hid (show MkRes R a s acts 0 2 from .inl ⟨by rw [hnb]; decide, rfl, hnb.symm⟩)
 have F1 := Lib.hid (fun (W : World) (h : Below w.heap.size w W) => rRules_any v1 v2 v3 R W h1 h2 (hv.next h))
 have F2 := Lib.hid (fun (W : World) => rSap_any a s W)
 have HP := Lib.hid (fun (sv : Value) (at' er : Int) (w' : World) => @mk_post w w' R a s acts sv at' er)
 obtain ⟨Q, hQ⟩ : ∃ Q, MkPost w R a s acts = Q := ⟨_, rfl⟩
 rw [hQ] at HP ⊢
 clear hQ
 rw [hc] at F1
 rw [hs] at F2
 clear hc hs
 clear hnb
 obtain ⟨A1, c1, A2, c2, A3, c3, rfl, rfl, rfl⟩ := hv.slices
 clear hv h1 h2
 obtain ⟨xs, ys, bl, bh, ps⟩ := R
 dsimp only [cCr] at *
 generalize xs.length = n1 at *
 generalize ys.length = n2 at *
 generalize ps.length = n3 at *
 go_enter Tryz.func21, Tryz.ntmps21
 go_wp2_with fail
 refine (F1.out _ (((Below.refl _ _).alloc (Nat.le_refl _) _).alloc (by simp) _)).mono ?_
 rintro e W1 ⟨rfl, hb⟩
 have b0 := cell_next hb (b := w.heap.size) (o := 0) (by simp <;> omega) (v := some (.slice A1 n1 c1)) (by simp [go_sem])
 have b1 := cell_next hb (b := w.heap.size) (o := 1) (by simp <;> omega) (v := some (.slice A2 n2 c2)) (by simp [go_sem])
 have b2 := cell_next hb (b := w.heap.size) (o := 2) (by simp <;> omega) (v := some (.int .i64 bl)) (by simp [go_sem])
 have b3 := cell_next hb (b := w.heap.size) (o := 3) (by simp <;> omega) (v := some (.int .i64 bh)) (by simp [go_sem])
 have b4 := cell_next hb (b := w.heap.size) (o := 4) (by simp <;> omega) (v := some (.slice A3 n3 c3)) (by simp [go_sem])
 have nb : w.heap.size < W1.heap.size := by have := hb.size; simp at this; omega
 have j0 := cell_next hb (b := w.heap.size + 1) (o := 0) (by simp <;> omega) (v := some (.int .i64 a)) (by simp [go_sem])
 have j1 := cell_next hb (b := w.heap.size + 1) (o := 1) (by simp <;> omega) (v := some (.int .i64 s)) (by simp [go_sem])
 have nj : w.heap.size + 1 < W1.heap.size := by have := hb.size; simp at this; omega
 have hB := (below2 hb)
 clear hb
 go_wp2_with fail
 refine (F2.out _).mono ?_
 rintro e W2 ⟨rfl, hb⟩
 replace b0 := cell_next hb nb b0
 replace b1 := cell_next hb nb b1
 replace b2 := cell_next hb nb b2
 replace b3 := cell_next hb nb b3
 replace b4 := cell_next hb nb b4
 replace nb := Nat.lt_of_lt_of_le nb hb.size
 replace j0 := cell_next hb nj j0
 replace j1 := cell_next hb nj j1
 replace nj := Nat.lt_of_lt_of_le nj hb.size
 replace hB := hB.trans (hb.mono hB.size)
 clear hb
 go_wp2_with fail
 go_ret3
 exact HP.out _ _ _ _ hB hm.out (fun h => absurd h (by decide)) (fun _ => rfl)

set_option maxRecDepth 20000 in
set_option maxHeartbeats 2000000 in
theorem rMake_none (v1 v2 v3 va : Value) (R : Cr) (a s : Int) (acts : List Ac) (w : World) (hv : CrAt w.heap.size w v1 v2 v3 R) (h1 : R.xs.length ≤ 1000000) (h2 : R.ys.length ≤ 1000000) (hc : crB R = true) (hs : spB a s = true) (h0 : s = 0) :
  Calls Tryz.prog 21 #[.agg (cCr v1 v2 v3 R).toArray, .agg #[.int .i64 a, .int .i64 s], va] w (MkPost w R a s acts) := by
 have hnb : nbE R a s = 7 := by unfold nbE brE; rw [hc, hs]; subst h0; simp
 have hm := Lib.hid (show MkRes R a s acts 0 7 from .inl ⟨by rw [hnb]; decide, rfl, hnb.symm⟩)
 have F1 := Lib.hid (fun (W : World) (h : Below w.heap.size w W) => rRules_any v1 v2 v3 R W h1 h2 (hv.next h))
 have F2 := Lib.hid (fun (W : World) => rSap_any a s W)
 have HP := Lib.hid (fun (sv : Value) (at' er : Int) (w' : World) => @mk_post w w' R a s acts sv at' er)
 obtain ⟨Q, hQ⟩ : ∃ Q, MkPost w R a s acts = Q := ⟨_, rfl⟩
 rw [hQ] at HP ⊢
 clear hQ
 rw [hc] at F1
 rw [hs] at F2
 have d0 : decide (s = 0) = true := decide_eq_true h0
 have d1 : (s == 0) = true := by simpa using h0
 clear hc hs h0
 clear hnb
 obtain ⟨A1, c1, A2, c2, A3, c3, rfl, rfl, rfl⟩ := hv.slices
 clear hv h1 h2
 obtain ⟨xs, ys, bl, bh, ps⟩ := R
 dsimp only [cCr] at *
 generalize xs.length = n1 at *
 generalize ys.length = n2 at *
 generalize ps.length = n3 at *
 go_enter Tryz.func21, Tryz.ntmps21
 go_wp2_with fail
 refine (F1.out _ (((Below.refl _ _).alloc (Nat.le_refl _) _).alloc (by simp) _)).mono ?_
 rintro e W1 ⟨rfl, hb⟩
 have b0 := cell_next hb (b := w.heap.size) (o := 0) (by simp <;> omega) (v := some (.slice A1 n1 c1)) (by simp [go_sem])
 have b1 := cell_next hb (b := w.heap.size) (o := 1) (by simp <;> omega) (v := some (.slice A2 n2 c2)) (by simp [go_sem])
 have b2 := cell_next hb (b := w.heap.size) (o := 2) (by simp <;> omega) (v := some (.int .i64 bl)) (by simp [go_sem])
 have b3 := cell_next hb (b := w.heap.size) (o := 3) (by simp <;> omega) (v := some (.int .i64 bh)) (by simp [go_sem])
 have b4 := cell_next hb (b := w.heap.size) (o := 4) (by simp <;> omega) (v := some (.slice A3 n3 c3)) (by simp [go_sem])
 have nb : w.heap.size < W1.heap.size := by have := hb.size; simp at this; omega
 have j0 := cell_next hb (b := w.heap.size + 1) (o := 0) (by simp <;> omega) (v := some (.int .i64 a)) (by simp [go_sem])
 have j1 := cell_next hb (b := w.heap.size + 1) (o := 1) (by simp <;> omega) (v := some (.int .i64 s)) (by simp [go_sem])
 have nj : w.heap.size + 1 < W1.heap.size := by have := hb.size; simp at this; omega
 have hB := (below2 hb)
 clear hb
 go_wp2_with fail
 refine (F2.out _).mono ?_
 rintro e W2 ⟨rfl, hb⟩
 replace b0 := cell_next hb nb b0
 replace b1 := cell_next hb nb b1
 replace b2 := cell_next hb nb b2
 replace b3 := cell_next hb nb b3
 replace b4 := cell_next hb nb b4
 replace nb := Nat.lt_of_lt_of_le nb hb.size
 replace j0 := cell_next hb nj j0
 replace j1 := cell_next hb nj j1
 replace nj := Nat.lt_of_lt_of_le nj hb.size
 replace hB := hB.trans (hb.mono hB.size)
 clear hb
 go_wp2_with fail
 go_ret3
 exact HP.out _ _ _ _ hB hm.out (fun h => absurd h (by decide)) (fun _ => rfl)

set_option maxRecDepth 20000 in
set_option maxHeartbeats 2000000 in
theorem rMake_long (v1 v2 v3 va : Value) (R : Cr) (a s : Int) (acts : List Ac) (w : World) (hv : CrAt w.heap.size w v1 v2 v3 R) (h1 : R.xs.length ≤ 1000000) (h2 : R.ys.length ≤ 1000000) (ha : RsAt 4 cAc w.heap.size w va acts) (hc : crB R = true) (hs : spB a s = true) (h0 : s ≠ 0) (hn : 30 < acts.length) :
  Calls Tryz.prog 21 #[.agg (cCr v1 v2 v3 R).toArray, .agg #[.int .i64 a, .int .i64 s], va] w (MkPost w R a s acts) := by
 have hsp := spB_ge hs
 have hnb : nbE R a s = 0 := by
  unfold nbE brE; rw [hc, hs]; simp [h0]; omega
 have d0 : decide (s = 0) = false := decide_eq_false h0
 have d1 : (s == 0) = false := by simpa using h0
 have hm := Lib.hid (show MkRes R a s acts 0 5 from .inr (.inl ⟨hnb, hn, rfl, rfl⟩))
 have F1 := Lib.hid (fun (W : World) (h : Below w.heap.size w W) => rRules_any v1 v2 v3 R W h1 h2 (hv.next h))
 have F2 := Lib.hid (fun (W : World) => rSap_any a s W)
 have HP := Lib.hid (fun (sv : Value) (at' er : Int) (w' : World) => @mk_post w w' R a s acts sv at' er)
 obtain ⟨Q, hQ⟩ : ∃ Q, MkPost w R a s acts = Q := ⟨_, rfl⟩
 rw [hQ] at HP ⊢
 clear hQ
 rw [hc] at F1
 rw [hs] at F2
 obtain ⟨A4, c4, rfl, _⟩ := ha
 have d3 : decide ((30 : Int) < (acts.length : Int)) = true := decide_eq_true (by omega)
 generalize acts.length = n at d3 ⊢
 clear hc hs hnb hsp hn h0
 obtain ⟨A1, c1, A2, c2, A3, c3, rfl, rfl, rfl⟩ := hv.slices
 clear hv h1 h2
 obtain ⟨xs, ys, bl, bh, ps⟩ := R
 dsimp only [cCr] at *
 generalize xs.length = n1 at *
 generalize ys.length = n2 at *
 generalize ps.length = n3 at *
 go_enter Tryz.func21, Tryz.ntmps21
 go_wp2_with fail
 refine (F1.out _ (((Below.refl _ _).alloc (Nat.le_refl _) _).alloc (by simp) _)).mono ?_
 rintro e W1 ⟨rfl, hb⟩
 have b0 := cell_next hb (b := w.heap.size) (o := 0) (by simp <;> omega) (v := some (.slice A1 n1 c1)) (by simp [go_sem])
 have b1 := cell_next hb (b := w.heap.size) (o := 1) (by simp <;> omega) (v := some (.slice A2 n2 c2)) (by simp [go_sem])
 have b2 := cell_next hb (b := w.heap.size) (o := 2) (by simp <;> omega) (v := some (.int .i64 bl)) (by simp [go_sem])
 have b3 := cell_next hb (b := w.heap.size) (o := 3) (by simp <;> omega) (v := some (.int .i64 bh)) (by simp [go_sem])
 have b4 := cell_next hb (b := w.heap.size) (o := 4) (by simp <;> omega) (v := some (.slice A3 n3 c3)) (by simp [go_sem])
 have nb : w.heap.size < W1.heap.size := by have := hb.size; simp at this; omega
 have j0 := cell_next hb (b := w.heap.size + 1) (o := 0) (by simp <;> omega) (v := some (.int .i64 a)) (by simp [go_sem])
 have j1 := cell_next hb (b := w.heap.size + 1) (o := 1) (by simp <;> omega) (v := some (.int .i64 s)) (by simp [go_sem])
 have nj : w.heap.size + 1 < W1.heap.size := by have := hb.size; simp at this; omega
 have hB := (below2 hb)
 clear hb
 go_wp2_with fail
 refine (F2.out _).mono ?_
 rintro e W2 ⟨rfl, hb⟩
 replace b0 := cell_next hb nb b0
 replace b1 := cell_next hb nb b1
 replace b2 := cell_next hb nb b2
 replace b3 := cell_next hb nb b3
 replace b4 := cell_next hb nb b4
 replace nb := Nat.lt_of_lt_of_le nb hb.size
 replace j0 := cell_next hb nj j0
 replace j1 := cell_next hb nj j1
 replace nj := Nat.lt_of_lt_of_le nj hb.size
 replace hB := hB.trans (hb.mono hB.size)
 clear hb
 go_wp2_with fail
 go_ret3
 exact HP.out _ _ _ _ hB hm.out (fun h => absurd h (by decide)) (fun _ => rfl)

set_option maxRecDepth 20000 in
set_option maxHeartbeats 8000000 in
theorem rMake_good (v1 v2 v3 va : Value) (R : Cr) (a s : Int) (acts : List Ac) (w : World) (hv : CrAt w.heap.size w v1 v2 v3 R) (h1 : R.xs.length ≤ 1000000) (h2 : R.ys.length ≤ 1000000) (ha : RsAt 4 cAc w.heap.size w va acts) (hc : crB R = true) (hs : spB a s = true) (h0 : s ≠ 0) (hn : acts.length ≤ 30) :
  Calls Tryz.prog 21 #[.agg (cCr v1 v2 v3 R).toArray, .agg #[.int .i64 a, .int .i64 s], va] w (MkPost w R a s acts) := by
 have hsp := spB_ge hs
 have hnb : nbE R a s = 0 := by
  unfold nbE brE; rw [hc, hs]; simp [h0]; omega
 have d0 : decide (s = 0) = false := decide_eq_false h0
 have d1 : (s == 0) = false := by simpa using h0
 obtain ⟨i0, hi0, hz0, hz1, hz2⟩ := info_parts infoSt
 have F3 := Lib.hid (fun (W : World) => rBrix_any a s W)
 have HE := Lib.hid (fun (X : World) => jown_empty0 X 52 10)
 have HC := Lib.hid (fun (x : Ac) (l : List Ac) (W : World) (h : Below w.heap.size w W) => rAct_any v1 v2 v3 R (stN R (st0 a s) l) x W (stN_ok (st0_ok a s) l) hc (hv.next h))
 have F1 := Lib.hid (fun (W : World) (h : Below w.heap.size w W) => rRules_any v1 v2 v3 R W h1 h2 (hv.next h))
 have F2 := Lib.hid (fun (W : World) => rSap_any a s W)
 have HP := Lib.hid (fun (sv : Value) (at' er : Int) (w' : World) => @mk_post w w' R a s acts sv at' er)
 obtain ⟨Q, hQ⟩ : ∃ Q, MkPost w R a s acts = Q := ⟨_, rfl⟩
 rw [hQ] at HP ⊢
 clear hQ
 rw [hc] at F1
 rw [hs] at F2
 obtain ⟨A4, c4, rfl, hra⟩ := ha
 have HR0 := Lib.hid (show nbE R a s = 0 ∧ acts.length ≤ 30 from ⟨hnb, hn⟩)
 have HRA := Lib.hid hra
 obtain ⟨n, hne⟩ : ∃ n, acts.length = n := ⟨_, rfl⟩
 have HN := Lib.hid hne
 simp only [hne] at HRA HP ⊢
 rw [hne] at hn
 have d3 : decide ((30 : Int) < (n : Int)) = false := decide_eq_false (by omega)
 clear hc hs hnb hsp h0 hra hne
 obtain ⟨A1, c1, A2, c2, A3, c3, rfl, rfl, rfl⟩ := hv.slices
 clear hv h1 h2
 obtain ⟨xs, ys, bl, bh, ps⟩ := R
 dsimp only [cCr] at *
 generalize xs.length = n1 at *
 generalize ys.length = n2 at *
 generalize ps.length = n3 at *
 go_enter Tryz.func21, Tryz.ntmps21
 go_wp2_with fail
 refine (F1.out _ (((Below.refl _ _).alloc (Nat.le_refl _) _).alloc (by simp) _)).mono ?_
 rintro e W1 ⟨rfl, hb⟩
 have b0 := cell_next hb (b := w.heap.size) (o := 0) (by simp <;> omega) (v := some (.slice A1 n1 c1)) (by simp [go_sem])
 have b1 := cell_next hb (b := w.heap.size) (o := 1) (by simp <;> omega) (v := some (.slice A2 n2 c2)) (by simp [go_sem])
 have b2 := cell_next hb (b := w.heap.size) (o := 2) (by simp <;> omega) (v := some (.int .i64 bl)) (by simp [go_sem])
 have b3 := cell_next hb (b := w.heap.size) (o := 3) (by simp <;> omega) (v := some (.int .i64 bh)) (by simp [go_sem])
 have b4 := cell_next hb (b := w.heap.size) (o := 4) (by simp <;> omega) (v := some (.slice A3 n3 c3)) (by simp [go_sem])
 have nb : w.heap.size < W1.heap.size := by have := hb.size; simp at this; omega
 have j0 := cell_next hb (b := w.heap.size + 1) (o := 0) (by simp <;> omega) (v := some (.int .i64 a)) (by simp [go_sem])
 have j1 := cell_next hb (b := w.heap.size + 1) (o := 1) (by simp <;> omega) (v := some (.int .i64 s)) (by simp [go_sem])
 have nj : w.heap.size + 1 < W1.heap.size := by have := hb.size; simp at this; omega
 have hB := (below2 hb)
 clear hb
 go_wp2_with fail
 refine (F2.out _).mono ?_
 rintro e W2 ⟨rfl, hb⟩
 replace b0 := cell_next hb nb b0
 replace b1 := cell_next hb nb b1
 replace b2 := cell_next hb nb b2
 replace b3 := cell_next hb nb b3
 replace b4 := cell_next hb nb b4
 replace nb := Nat.lt_of_lt_of_le nb hb.size
 replace j0 := cell_next hb nj j0
 replace j1 := cell_next hb nj j1
 replace nj := Nat.lt_of_lt_of_le nj hb.size
 replace hB := hB.trans (hb.mono hB.size)
 clear hb
 go_wp2_with fail
 refine (F3.out _).mono ?_
 rintro e W3 ⟨rfl, hb⟩
 replace b0 := cell_next hb nb b0
 replace b1 := cell_next hb nb b1
 replace b2 := cell_next hb nb b2
 replace b3 := cell_next hb nb b3
 replace b4 := cell_next hb nb b4
 replace nb := Nat.lt_of_lt_of_le nb hb.size
 replace j0 := cell_next hb nj j0
 replace j1 := cell_next hb nj j1
 replace nj := Nat.lt_of_lt_of_le nj hb.size
 replace hB := hB.trans (hb.mono hB.size)
 clear hb
 clear j0 j1 nj
 go_wp2_with fail
 have HO0 := jown_base0 ((HE.out (W3.alloc (Obj.cells #[.int .i64 (brL a s), .int .i64 (brH a s)] 24))).alloc (Obj.cells #[.int .i64 (brL a s), .int .i64 (brH a s), .int .i64 0, .int .i64 0, .int .i64 0, .int .i64 0, .int .i64 0, .int .i64 0, .bool false, .int .i64 0] 52)) (show w.heap.size + 1 ≤ (W3.alloc (Obj.cells #[.int .i64 (brL a s), .int .i64 (brH a s)] 24)).heap.size by have := hB.size; simp; omega)
 have e9 : (W3.alloc (Obj.cells #[.int .i64 (brL a s), .int .i64 (brH a s)] 24)).heap.size = W3.heap.size + 1 := by simp
 rw [e9] at HO0
 clear e9
 replace HO0 := Lib.hid HO0
 have hTB : w.heap.size ≤ W3.heap.size := hB.size
 have hNB := nb
 have hb : Below W3.heap.size W3 (((W3.alloc (Obj.cells #[.int .i64 (brL a s), .int .i64 (brH a s)] 24)).alloc (Obj.cells #[] 52)).alloc (Obj.cells #[.int .i64 (brL a s), .int .i64 (brH a s), .int .i64 0, .int .i64 0, .int .i64 0, .int .i64 0, .int .i64 0, .int .i64 0, .bool false, .int .i64 0] 52)) := ((((Below.refl _ _).alloc (Nat.le_refl _) _).alloc (by simp <;> omega) _).alloc (by simp <;> omega) _)
 replace b0 := cell_next hb nb b0
 replace b1 := cell_next hb nb b1
 replace b2 := cell_next hb nb b2
 replace b3 := cell_next hb nb b3
 replace b4 := cell_next hb nb b4
 replace nb := Nat.lt_of_lt_of_le nb hb.size
 have d0 : (((W3.alloc (Obj.cells #[.int .i64 (brL a s), .int .i64 (brH a s)] 24)).alloc (Obj.cells #[] 52)).alloc (Obj.cells #[.int .i64 (brL a s), .int .i64 (brH a s), .int .i64 0, .int .i64 0, .int .i64 0, .int .i64 0, .int .i64 0, .int .i64 0, .bool false, .int .i64 0] 52)).cell? ⟨W3.heap.size, 0, none⟩ = some (.int .i64 (brL a s)) := by simp [go_sem]
 have d1 : (((W3.alloc (Obj.cells #[.int .i64 (brL a s), .int .i64 (brH a s)] 24)).alloc (Obj.cells #[] 52)).alloc (Obj.cells #[.int .i64 (brL a s), .int .i64 (brH a s), .int .i64 0, .int .i64 0, .int .i64 0, .int .i64 0, .int .i64 0, .int .i64 0, .bool false, .int .i64 0] 52)).cell? ⟨W3.heap.size, 1, none⟩ = some (.int .i64 (brH a s)) := by simp [go_sem]
 have nd : W3.heap.size < (((W3.alloc (Obj.cells #[.int .i64 (brL a s), .int .i64 (brH a s)] 24)).alloc (Obj.cells #[] 52)).alloc (Obj.cells #[.int .i64 (brL a s), .int .i64 (brH a s), .int .i64 0, .int .i64 0, .int .i64 0, .int .i64 0, .int .i64 0, .int .i64 0, .bool false, .int .i64 0] 52)).heap.size := by simp <;> omega
 have no : W3.heap.size + 1 < (((W3.alloc (Obj.cells #[.int .i64 (brL a s), .int .i64 (brH a s)] 24)).alloc (Obj.cells #[] 52)).alloc (Obj.cells #[.int .i64 (brL a s), .int .i64 (brH a s), .int .i64 0, .int .i64 0, .int .i64 0, .int .i64 0, .int .i64 0, .int .i64 0, .bool false, .int .i64 0] 52)).heap.size := by simp <;> omega
 have T0 : (((W3.alloc (Obj.cells #[.int .i64 (brL a s), .int .i64 (brH a s)] 24)).alloc (Obj.cells #[] 52)).alloc (Obj.cells #[.int .i64 (brL a s), .int .i64 (brH a s), .int .i64 0, .int .i64 0, .int .i64 0, .int .i64 0, .int .i64 0, .int .i64 0, .bool false, .int .i64 0] 52)).cell? ⟨W3.heap.size + 1 + 1, 0, none⟩ = some (.int .i64 (brL a s)) := by simp [go_sem]
 have fT0 : (((W3.alloc (Obj.cells #[.int .i64 (brL a s), .int .i64 (brH a s)] 24)).alloc (Obj.cells #[] 52)).alloc (Obj.cells #[.int .i64 (brL a s), .int .i64 (brH a s), .int .i64 0, .int .i64 0, .int .i64 0, .int .i64 0, .int .i64 0, .int .i64 0, .bool false, .int .i64 0] 52)).frozen? ⟨W3.heap.size + 1 + 1, 0, none⟩ = false := by simp [go_sem]
 have T1 : (((W3.alloc (Obj.cells #[.int .i64 (brL a s), .int .i64 (brH a s)] 24)).alloc (Obj.cells #[] 52)).alloc (Obj.cells #[.int .i64 (brL a s), .int .i64 (brH a s), .int .i64 0, .int .i64 0, .int .i64 0, .int .i64 0, .int .i64 0, .int .i64 0, .bool false, .int .i64 0] 52)).cell? ⟨W3.heap.size + 1 + 1, 1, none⟩ = some (.int .i64 (brH a s)) := by simp [go_sem]
 have fT1 : (((W3.alloc (Obj.cells #[.int .i64 (brL a s), .int .i64 (brH a s)] 24)).alloc (Obj.cells #[] 52)).alloc (Obj.cells #[.int .i64 (brL a s), .int .i64 (brH a s), .int .i64 0, .int .i64 0, .int .i64 0, .int .i64 0, .int .i64 0, .int .i64 0, .bool false, .int .i64 0] 52)).frozen? ⟨W3.heap.size + 1 + 1, 1, none⟩ = false := by simp [go_sem]
 have T2 : (((W3.alloc (Obj.cells #[.int .i64 (brL a s), .int .i64 (brH a s)] 24)).alloc (Obj.cells #[] 52)).alloc (Obj.cells #[.int .i64 (brL a s), .int .i64 (brH a s), .int .i64 0, .int .i64 0, .int .i64 0, .int .i64 0, .int .i64 0, .int .i64 0, .bool false, .int .i64 0] 52)).cell? ⟨W3.heap.size + 1 + 1, 2, none⟩ = some (.int .i64 0) := by simp [go_sem]
 have fT2 : (((W3.alloc (Obj.cells #[.int .i64 (brL a s), .int .i64 (brH a s)] 24)).alloc (Obj.cells #[] 52)).alloc (Obj.cells #[.int .i64 (brL a s), .int .i64 (brH a s), .int .i64 0, .int .i64 0, .int .i64 0, .int .i64 0, .int .i64 0, .int .i64 0, .bool false, .int .i64 0] 52)).frozen? ⟨W3.heap.size + 1 + 1, 2, none⟩ = false := by simp [go_sem]
 have T3 : (((W3.alloc (Obj.cells #[.int .i64 (brL a s), .int .i64 (brH a s)] 24)).alloc (Obj.cells #[] 52)).alloc (Obj.cells #[.int .i64 (brL a s), .int .i64 (brH a s), .int .i64 0, .int .i64 0, .int .i64 0, .int .i64 0, .int .i64 0, .int .i64 0, .bool false, .int .i64 0] 52)).cell? ⟨W3.heap.size + 1 + 1, 3, none⟩ = some (.int .i64 0) := by simp [go_sem]
 have fT3 : (((W3.alloc (Obj.cells #[.int .i64 (brL a s), .int .i64 (brH a s)] 24)).alloc (Obj.cells #[] 52)).alloc (Obj.cells #[.int .i64 (brL a s), .int .i64 (brH a s), .int .i64 0, .int .i64 0, .int .i64 0, .int .i64 0, .int .i64 0, .int .i64 0, .bool false, .int .i64 0] 52)).frozen? ⟨W3.heap.size + 1 + 1, 3, none⟩ = false := by simp [go_sem]
 have T4 : (((W3.alloc (Obj.cells #[.int .i64 (brL a s), .int .i64 (brH a s)] 24)).alloc (Obj.cells #[] 52)).alloc (Obj.cells #[.int .i64 (brL a s), .int .i64 (brH a s), .int .i64 0, .int .i64 0, .int .i64 0, .int .i64 0, .int .i64 0, .int .i64 0, .bool false, .int .i64 0] 52)).cell? ⟨W3.heap.size + 1 + 1, 4, none⟩ = some (.int .i64 0) := by simp [go_sem]
 have fT4 : (((W3.alloc (Obj.cells #[.int .i64 (brL a s), .int .i64 (brH a s)] 24)).alloc (Obj.cells #[] 52)).alloc (Obj.cells #[.int .i64 (brL a s), .int .i64 (brH a s), .int .i64 0, .int .i64 0, .int .i64 0, .int .i64 0, .int .i64 0, .int .i64 0, .bool false, .int .i64 0] 52)).frozen? ⟨W3.heap.size + 1 + 1, 4, none⟩ = false := by simp [go_sem]
 have T5 : (((W3.alloc (Obj.cells #[.int .i64 (brL a s), .int .i64 (brH a s)] 24)).alloc (Obj.cells #[] 52)).alloc (Obj.cells #[.int .i64 (brL a s), .int .i64 (brH a s), .int .i64 0, .int .i64 0, .int .i64 0, .int .i64 0, .int .i64 0, .int .i64 0, .bool false, .int .i64 0] 52)).cell? ⟨W3.heap.size + 1 + 1, 5, none⟩ = some (.int .i64 0) := by simp [go_sem]
 have fT5 : (((W3.alloc (Obj.cells #[.int .i64 (brL a s), .int .i64 (brH a s)] 24)).alloc (Obj.cells #[] 52)).alloc (Obj.cells #[.int .i64 (brL a s), .int .i64 (brH a s), .int .i64 0, .int .i64 0, .int .i64 0, .int .i64 0, .int .i64 0, .int .i64 0, .bool false, .int .i64 0] 52)).frozen? ⟨W3.heap.size + 1 + 1, 5, none⟩ = false := by simp [go_sem]
 have T6 : (((W3.alloc (Obj.cells #[.int .i64 (brL a s), .int .i64 (brH a s)] 24)).alloc (Obj.cells #[] 52)).alloc (Obj.cells #[.int .i64 (brL a s), .int .i64 (brH a s), .int .i64 0, .int .i64 0, .int .i64 0, .int .i64 0, .int .i64 0, .int .i64 0, .bool false, .int .i64 0] 52)).cell? ⟨W3.heap.size + 1 + 1, 6, none⟩ = some (.int .i64 0) := by simp [go_sem]
 have fT6 : (((W3.alloc (Obj.cells #[.int .i64 (brL a s), .int .i64 (brH a s)] 24)).alloc (Obj.cells #[] 52)).alloc (Obj.cells #[.int .i64 (brL a s), .int .i64 (brH a s), .int .i64 0, .int .i64 0, .int .i64 0, .int .i64 0, .int .i64 0, .int .i64 0, .bool false, .int .i64 0] 52)).frozen? ⟨W3.heap.size + 1 + 1, 6, none⟩ = false := by simp [go_sem]
 have T7 : (((W3.alloc (Obj.cells #[.int .i64 (brL a s), .int .i64 (brH a s)] 24)).alloc (Obj.cells #[] 52)).alloc (Obj.cells #[.int .i64 (brL a s), .int .i64 (brH a s), .int .i64 0, .int .i64 0, .int .i64 0, .int .i64 0, .int .i64 0, .int .i64 0, .bool false, .int .i64 0] 52)).cell? ⟨W3.heap.size + 1 + 1, 7, none⟩ = some (.int .i64 0) := by simp [go_sem]
 have fT7 : (((W3.alloc (Obj.cells #[.int .i64 (brL a s), .int .i64 (brH a s)] 24)).alloc (Obj.cells #[] 52)).alloc (Obj.cells #[.int .i64 (brL a s), .int .i64 (brH a s), .int .i64 0, .int .i64 0, .int .i64 0, .int .i64 0, .int .i64 0, .int .i64 0, .bool false, .int .i64 0] 52)).frozen? ⟨W3.heap.size + 1 + 1, 7, none⟩ = false := by simp [go_sem]
 have T8 : (((W3.alloc (Obj.cells #[.int .i64 (brL a s), .int .i64 (brH a s)] 24)).alloc (Obj.cells #[] 52)).alloc (Obj.cells #[.int .i64 (brL a s), .int .i64 (brH a s), .int .i64 0, .int .i64 0, .int .i64 0, .int .i64 0, .int .i64 0, .int .i64 0, .bool false, .int .i64 0] 52)).cell? ⟨W3.heap.size + 1 + 1, 8, none⟩ = some (.bool false) := by simp [go_sem]
 have fT8 : (((W3.alloc (Obj.cells #[.int .i64 (brL a s), .int .i64 (brH a s)] 24)).alloc (Obj.cells #[] 52)).alloc (Obj.cells #[.int .i64 (brL a s), .int .i64 (brH a s), .int .i64 0, .int .i64 0, .int .i64 0, .int .i64 0, .int .i64 0, .int .i64 0, .bool false, .int .i64 0] 52)).frozen? ⟨W3.heap.size + 1 + 1, 8, none⟩ = false := by simp [go_sem]
 have T9 : (((W3.alloc (Obj.cells #[.int .i64 (brL a s), .int .i64 (brH a s)] 24)).alloc (Obj.cells #[] 52)).alloc (Obj.cells #[.int .i64 (brL a s), .int .i64 (brH a s), .int .i64 0, .int .i64 0, .int .i64 0, .int .i64 0, .int .i64 0, .int .i64 0, .bool false, .int .i64 0] 52)).cell? ⟨W3.heap.size + 1 + 1, 9, none⟩ = some (.int .i64 0) := by simp [go_sem]
 have fT9 : (((W3.alloc (Obj.cells #[.int .i64 (brL a s), .int .i64 (brH a s)] 24)).alloc (Obj.cells #[] 52)).alloc (Obj.cells #[.int .i64 (brL a s), .int .i64 (brH a s), .int .i64 0, .int .i64 0, .int .i64 0, .int .i64 0, .int .i64 0, .int .i64 0, .bool false, .int .i64 0] 52)).frozen? ⟨W3.heap.size + 1 + 1, 9, none⟩ = false := by simp [go_sem]
 have nT : W3.heap.size + 1 + 1 < (((W3.alloc (Obj.cells #[.int .i64 (brL a s), .int .i64 (brH a s)] 24)).alloc (Obj.cells #[] 52)).alloc (Obj.cells #[.int .i64 (brL a s), .int .i64 (brH a s), .int .i64 0, .int .i64 0, .int .i64 0, .int .i64 0, .int .i64 0, .int .i64 0, .bool false, .int .i64 0] 52)).heap.size := by simp <;> omega
 replace hB := hB.trans (hb.mono hB.size)
 clear hb
 generalize (((W3.alloc (Obj.cells #[.int .i64 (brL a s), .int .i64 (brH a s)] 24)).alloc (Obj.cells #[] 52)).alloc (Obj.cells #[.int .i64 (brL a s), .int .i64 (brH a s), .int .i64 0, .int .i64 0, .int .i64 0, .int .i64 0, .int .i64 0, .int .i64 0, .bool false, .int .i64 0] 52)) = W4 at *
 generalize W3.heap.size = q4 at *
 clear d0 d1 nd
 have hTc : Hid (∀ j u, (cSt (stN ⟨xs, ys, bl, bh, ps⟩ (st0 a s) (acts.take 0)))[j]? = some u → W4.cell? ⟨(q4 + 1 + 1), j, none⟩ = some u) := Lib.hid (by
  intro j u hj
  have e : stN ⟨xs, ys, bl, bh, ps⟩ (st0 a s) (acts.take 0) = st0 a s := rfl
  rw [e] at hj
  rcases j with _ | _ | _ | _ | _ | _ | _ | _ | _ | _ | j
  ·simp [cSt, st0] at hj; subst hj; exact T0
  ·simp [cSt, st0] at hj; subst hj; exact T1
  ·simp [cSt, st0] at hj; subst hj; exact T2
  ·simp [cSt, st0] at hj; subst hj; exact T3
  ·simp [cSt, st0] at hj; subst hj; exact T4
  ·simp [cSt, st0] at hj; subst hj; exact T5
  ·simp [cSt, st0] at hj; subst hj; exact T6
  ·simp [cSt, st0] at hj; subst hj; exact T7
  ·simp [cSt, st0] at hj; subst hj; exact T8
  ·simp [cSt, st0] at hj; subst hj; exact T9
  ·simp [cSt] at hj)
 have hTf : Hid (∀ j, j < 10 → W4.frozen? ⟨(q4 + 1 + 1), j, none⟩ = false) := Lib.hid (by
  intro j hj
  rcases j with _ | _ | _ | _ | _ | _ | _ | _ | _ | _ | j
  ·exact fT0
  ·exact fT1
  ·exact fT2
  ·exact fT3
  ·exact fT4
  ·exact fT5
  ·exact fT6
  ·exact fT7
  ·exact fT8
  ·exact fT9
  ·omega)
 have hTn : w.heap.size ≠ (q4 + 1 + 1) ∧ w.heap.size ≤ (q4 + 1 + 1) := by omega
 have hO0 : Hid (∀ g, (Value.slice (some ⟨q4 + 1, 0, none⟩) 0 0).ownBlock = some g → g ≠ (q4 + 1 + 1)) := Lib.hid (by intro g hg; simp [Value.ownBlock] at hg; omega)
 clear T0 fT0 T1 fT1 T2 fT2 T3 fT3 T4 fT4 T5 fT5 T6 fT6 T7 fT7 T8 fT8 T9 fT9 HE hNB no hTB
 go_loopw [12, 13] (fun sv i wr => ∃ k : Nat, k ≤ n ∧ i = .int .i64 k ∧ Hid (wr.ownsRow (w.heap.size + 1) 52 10 sv k (flatS (stL ⟨xs, ys, bl, bh, ps⟩ (st0 a s) acts k))) ∧ Hid (∀ g, sv.ownBlock = some g → g ≠ (q4 + 1 + 1)) ∧ Hid (∀ j u, (cSt (stN ⟨xs, ys, bl, bh, ps⟩ (st0 a s) (acts.take k)))[j]? = some u → wr.cell? ⟨(q4 + 1 + 1), j, none⟩ = some u) ∧ Hid (∀ j, j < 10 → wr.frozen? ⟨(q4 + 1 + 1), j, none⟩ = false) ∧ Hid (okTo ⟨xs, ys, bl, bh, ps⟩ (st0 a s) acts k) ∧ Hid (wr.cell? ⟨w.heap.size, 0, none⟩ = some (.slice A1 n1 c1) ∧ wr.cell? ⟨w.heap.size, 1, none⟩ = some (.slice A2 n2 c2) ∧ wr.cell? ⟨w.heap.size, 2, none⟩ = some (.int .i64 bl) ∧ wr.cell? ⟨w.heap.size, 3, none⟩ = some (.int .i64 bh) ∧ wr.cell? ⟨w.heap.size, 4, none⟩ = some (.slice A3 n3 c3)) ∧ Below w.heap.size w wr ∧ (q4 + 1 + 1) < wr.heap.size) (fun _ i _ => n - (RowKit.intOf i).toNat)
 case atStart => exact ⟨0, Nat.zero_le _, rfl, Lib.hid HO0.out, hO0, hTc, hTf, Lib.hid (fun j x hj => absurd hj (by omega)), Lib.hid ⟨b0, b1, b2, b3, b4⟩, hB, nT⟩
 case round =>
  clear HO0 hO0 hTc hTf b0 b1 b2 b3 b4 nb nT hB
  obtain ⟨k, hk, rfl, ho, hob, hTc, hTf, hok, hbb, hbr, nT⟩ := hrel
  by_cases hlt : (k : Int) < (n : Int)
  ·obtain ⟨x, hp⟩ : ∃ x, acts[k]? = some x := ⟨_, List.getElem?_eq_getElem (by rw [HN.out]; omega)⟩
   obtain ⟨g, off, rfl, hg, hc⟩ := HRA.out (by omega)
   have ng := Nat.lt_of_lt_of_le hg hbr.size
   have q0 := cell_next hbr hg (hc k x hp 0 _ rfl)
   have q1 := cell_next hbr hg (hc k x hp 1 _ rfl)
   have q2 := cell_next hbr hg (hc k x hp 2 _ rfl)
   have q3 := cell_next hbr hg (hc k x hp 3 _ rfl)
   simp only [Nat.add_zero] at q0
   have HK := Lib.hid (fun (h : acE ⟨xs, ys, bl, bh, ps⟩ (stN ⟨xs, ys, bl, bh, ps⟩ (st0 a s) (acts.take k)) x = 0) => okTo_succ hok.out hp h)
   have hbad := Lib.hid (fun (h : acE ⟨xs, ys, bl, bh, ps⟩ (stN ⟨xs, ys, bl, bh, ps⟩ (st0 a s) (acts.take k)) x ≠ 0) => (.inr (.inr ⟨HR0.out.1, HR0.out.2, .inl ⟨k, x, hp, hok.out, rfl, h, rfl⟩⟩) : MkRes ⟨xs, ys, bl, bh, ps⟩ a s acts k _))
   have hsn : acS ⟨xs, ys, bl, bh, ps⟩ (stN ⟨xs, ys, bl, bh, ps⟩ (st0 a s) (acts.take k)) x = stN ⟨xs, ys, bl, bh, ps⟩ (st0 a s) (acts.take (k + 1)) := by rw [← stN_snoc, List.take_add_one, hp]; rfl
   have hsl : Hid (flatS (stL ⟨xs, ys, bl, bh, ps⟩ (st0 a s) acts (k + 1)) = flatS (stL ⟨xs, ys, bl, bh, ps⟩ (st0 a s) acts k) ++ cSt (stN ⟨xs, ys, bl, bh, ps⟩ (st0 a s) (acts.take (k + 1)))) := Lib.hid (by rw [stL_succ, flatS_snoc])
   have CA := HC.out x (acts.take k)
   rw [hsn] at CA
   generalize acE ⟨xs, ys, bl, bh, ps⟩ (stN ⟨xs, ys, bl, bh, ps⟩ (st0 a s) (acts.take k)) x = E at *
   obtain ⟨X0, hX0⟩ : ∃ X, stN ⟨xs, ys, bl, bh, ps⟩ (st0 a s) (acts.take k) = X := ⟨_, rfl⟩
   obtain ⟨X, hX⟩ : ∃ X, stN ⟨xs, ys, bl, bh, ps⟩ (st0 a s) (acts.take (k + 1)) = X := ⟨_, rfl⟩
   rw [hX0] at CA hTc
   rw [hX] at CA hsl
   have HX := Lib.hid hX
   clear hX hX0 hsn hp hc hok
   obtain ⟨dl, dh, hl, hh, sl, sh, tl, th, bg, se⟩ := X0
   obtain ⟨dl2, dh2, hl2, hh2, sl2, sh2, tl2, th2, bg2, se2⟩ := X
   dsimp only [cSt, cAc] at CA
   replace CA := Lib.hid CA
   obtain ⟨b0, b1, b2, b3, b4⟩ := hbb.out
   clear hbb
   have T0 := hTc.out 0 _ rfl
   have fT0 := hTf.out 0 (by decide)
   have T1 := hTc.out 1 _ rfl
   have fT1 := hTf.out 1 (by decide)
   have T2 := hTc.out 2 _ rfl
   have fT2 := hTf.out 2 (by decide)
   have T3 := hTc.out 3 _ rfl
   have fT3 := hTf.out 3 (by decide)
   have T4 := hTc.out 4 _ rfl
   have fT4 := hTf.out 4 (by decide)
   have T5 := hTc.out 5 _ rfl
   have fT5 := hTf.out 5 (by decide)
   have T6 := hTc.out 6 _ rfl
   have fT6 := hTf.out 6 (by decide)
   have T7 := hTc.out 7 _ rfl
   have fT7 := hTf.out 7 (by decide)
   have T8 := hTc.out 8 _ rfl
   have fT8 := hTf.out 8 (by decide)
   have T9 := hTc.out 9 _ rfl
   have fT9 := hTf.out 9 (by decide)
   have nb : w.heap.size < wr.heap.size := by omega
   have nT0 := nT
   have hol : ∀ g, Value.ownBlock _ = some g → w.heap.size + 1 ≤ g ∧ g < wr.heap.size := fun g hg => World.ownsRow.lt ho.out g hg
   replace hob := hob.out
   have HO := ho
   clear hTc hTf ho
   dsimp only [cSt] at T0 T1 T2 T3 T4 T5 T6 T7 T8 T9
   go_wp2_with fail
   apply suffM (R := fun (g : Nat) (W : World) => Below w.heap.size w W ∧ W.cell? ⟨w.heap.size, 0, none⟩ = some (.slice A1 n1 c1) ∧ W.cell? ⟨w.heap.size, 1, none⟩ = some (.slice A2 n2 c2) ∧ W.cell? ⟨w.heap.size, 2, none⟩ = some (.int .i64 bl) ∧ W.cell? ⟨w.heap.size, 3, none⟩ = some (.int .i64 bh) ∧ W.cell? ⟨w.heap.size, 4, none⟩ = some (.slice A3 n3 c3) ∧ W.cell? ⟨(q4 + 1 + 1), 0, none⟩ = some (.int .i64 dl) ∧ W.frozen? ⟨(q4 + 1 + 1), 0, none⟩ = false ∧ W.cell? ⟨(q4 + 1 + 1), 1, none⟩ = some (.int .i64 dh) ∧ W.frozen? ⟨(q4 + 1 + 1), 1, none⟩ = false ∧ W.cell? ⟨(q4 + 1 + 1), 2, none⟩ = some (.int .i64 hl) ∧ W.frozen? ⟨(q4 + 1 + 1), 2, none⟩ = false ∧ W.cell? ⟨(q4 + 1 + 1), 3, none⟩ = some (.int .i64 hh) ∧ W.frozen? ⟨(q4 + 1 + 1), 3, none⟩ = false ∧ W.cell? ⟨(q4 + 1 + 1), 4, none⟩ = some (.int .i64 sl) ∧ W.frozen? ⟨(q4 + 1 + 1), 4, none⟩ = false ∧ W.cell? ⟨(q4 + 1 + 1), 5, none⟩ = some (.int .i64 sh) ∧ W.frozen? ⟨(q4 + 1 + 1), 5, none⟩ = false ∧ W.cell? ⟨(q4 + 1 + 1), 6, none⟩ = some (.int .i64 tl) ∧ W.frozen? ⟨(q4 + 1 + 1), 6, none⟩ = false ∧ W.cell? ⟨(q4 + 1 + 1), 7, none⟩ = some (.int .i64 th) ∧ W.frozen? ⟨(q4 + 1 + 1), 7, none⟩ = false ∧ W.cell? ⟨(q4 + 1 + 1), 8, none⟩ = some (.bool bg) ∧ W.frozen? ⟨(q4 + 1 + 1), 8, none⟩ = false ∧ W.cell? ⟨(q4 + 1 + 1), 9, none⟩ = some (.int .i64 se) ∧ W.frozen? ⟨(q4 + 1 + 1), 9, none⟩ = false ∧ w.heap.size < W.heap.size ∧ (q4 + 1 + 1) < W.heap.size ∧ W.cell? ⟨g, 0, none⟩ = some (.int .i64 dl2) ∧ W.cell? ⟨g, 1, none⟩ = some (.int .i64 dh2) ∧ W.cell? ⟨g, 2, none⟩ = some (.int .i64 hl2) ∧ W.cell? ⟨g, 3, none⟩ = some (.int .i64 hh2) ∧ W.cell? ⟨g, 4, none⟩ = some (.int .i64 sl2) ∧ W.cell? ⟨g, 5, none⟩ = some (.int .i64 sh2) ∧ W.cell? ⟨g, 6, none⟩ = some (.int .i64 tl2) ∧ W.cell? ⟨g, 7, none⟩ = some (.int .i64 th2) ∧ W.cell? ⟨g, 8, none⟩ = some (.bool bg2) ∧ W.cell? ⟨g, 9, none⟩ = some (.int .i64 se2) ∧ g < W.heap.size ∧ wr.heap.size ≤ g ∧ Hid (W.ownsRow (w.heap.size + 1) 52 10 u12 k (flatS (stL ⟨xs, ys, bl, bh, ps⟩ (st0 a s) acts k))))
   case main =>
    intro key
    have hBW : wr.heap.size ≤ wr.heap.size := Nat.le_refl _
    refine wp_region_held_drew (S := fun w' => w'.cell? ⟨w.heap.size, 0, none⟩ = some (.slice A1 n1 c1) ∧ w'.cell? ⟨w.heap.size, 1, none⟩ = some (.slice A2 n2 c2) ∧ w'.cell? ⟨w.heap.size, 2, none⟩ = some (.int .i64 bl) ∧ w'.cell? ⟨w.heap.size, 3, none⟩ = some (.int .i64 bh) ∧ w'.cell? ⟨w.heap.size, 4, none⟩ = some (.slice A3 n3 c3) ∧ w'.cell? ⟨(q4 + 1 + 1), 0, none⟩ = some (.int .i64 dl) ∧ w'.cell? ⟨(q4 + 1 + 1), 1, none⟩ = some (.int .i64 dh) ∧ w'.cell? ⟨(q4 + 1 + 1), 2, none⟩ = some (.int .i64 hl) ∧ w'.cell? ⟨(q4 + 1 + 1), 3, none⟩ = some (.int .i64 hh) ∧ w'.cell? ⟨(q4 + 1 + 1), 4, none⟩ = some (.int .i64 sl) ∧ w'.cell? ⟨(q4 + 1 + 1), 5, none⟩ = some (.int .i64 sh) ∧ w'.cell? ⟨(q4 + 1 + 1), 6, none⟩ = some (.int .i64 tl) ∧ w'.cell? ⟨(q4 + 1 + 1), 7, none⟩ = some (.int .i64 th) ∧ w'.cell? ⟨(q4 + 1 + 1), 8, none⟩ = some (.bool bg) ∧ w'.cell? ⟨(q4 + 1 + 1), 9, none⟩ = some (.int .i64 se) ∧ w'.cell? ⟨g, off + k * 4, none⟩ = some (.int .i64 x.k) ∧ w'.cell? ⟨g, off + k * 4 + 1, none⟩ = some (.int .i64 x.lo) ∧ w'.cell? ⟨g, off + k * 4 + 2, none⟩ = some (.int .i64 x.hi) ∧ w'.cell? ⟨g, off + k * 4 + 3, none⟩ = some (.int .i64 x.m) ∧ True) (by kernel_rfl) ?_ (fun hHeld => ?_)
    focus (exact ⟨b0, b1, b2, b3, b4, T0, T1, T2, T3, T4, T5, T6, T7, T8, T9, q0, q1, q2, q3, trivial⟩)
    have hL : Below wr.heap.size wr wr.drew := Below.drew (Below.refl _ _)
    replace b0 : wr.drew.cell? ⟨w.heap.size, 0, none⟩ = some (.slice A1 n1 c1) := b0
    replace b1 : wr.drew.cell? ⟨w.heap.size, 1, none⟩ = some (.slice A2 n2 c2) := b1
    replace b2 : wr.drew.cell? ⟨w.heap.size, 2, none⟩ = some (.int .i64 bl) := b2
    replace b3 : wr.drew.cell? ⟨w.heap.size, 3, none⟩ = some (.int .i64 bh) := b3
    replace b4 : wr.drew.cell? ⟨w.heap.size, 4, none⟩ = some (.slice A3 n3 c3) := b4
    replace T0 : wr.drew.cell? ⟨(q4 + 1 + 1), 0, none⟩ = some (.int .i64 dl) := T0
    replace fT0 : wr.drew.frozen? ⟨(q4 + 1 + 1), 0, none⟩ = false := fT0
    replace T1 : wr.drew.cell? ⟨(q4 + 1 + 1), 1, none⟩ = some (.int .i64 dh) := T1
    replace fT1 : wr.drew.frozen? ⟨(q4 + 1 + 1), 1, none⟩ = false := fT1
    replace T2 : wr.drew.cell? ⟨(q4 + 1 + 1), 2, none⟩ = some (.int .i64 hl) := T2
    replace fT2 : wr.drew.frozen? ⟨(q4 + 1 + 1), 2, none⟩ = false := fT2
    replace T3 : wr.drew.cell? ⟨(q4 + 1 + 1), 3, none⟩ = some (.int .i64 hh) := T3
    replace fT3 : wr.drew.frozen? ⟨(q4 + 1 + 1), 3, none⟩ = false := fT3
    replace T4 : wr.drew.cell? ⟨(q4 + 1 + 1), 4, none⟩ = some (.int .i64 sl) := T4
    replace fT4 : wr.drew.frozen? ⟨(q4 + 1 + 1), 4, none⟩ = false := fT4
    replace T5 : wr.drew.cell? ⟨(q4 + 1 + 1), 5, none⟩ = some (.int .i64 sh) := T5
    replace fT5 : wr.drew.frozen? ⟨(q4 + 1 + 1), 5, none⟩ = false := fT5
    replace T6 : wr.drew.cell? ⟨(q4 + 1 + 1), 6, none⟩ = some (.int .i64 tl) := T6
    replace fT6 : wr.drew.frozen? ⟨(q4 + 1 + 1), 6, none⟩ = false := fT6
    replace T7 : wr.drew.cell? ⟨(q4 + 1 + 1), 7, none⟩ = some (.int .i64 th) := T7
    replace fT7 : wr.drew.frozen? ⟨(q4 + 1 + 1), 7, none⟩ = false := fT7
    replace T8 : wr.drew.cell? ⟨(q4 + 1 + 1), 8, none⟩ = some (.bool bg) := T8
    replace fT8 : wr.drew.frozen? ⟨(q4 + 1 + 1), 8, none⟩ = false := fT8
    replace T9 : wr.drew.cell? ⟨(q4 + 1 + 1), 9, none⟩ = some (.int .i64 se) := T9
    replace fT9 : wr.drew.frozen? ⟨(q4 + 1 + 1), 9, none⟩ = false := fT9
    replace q0 : wr.drew.cell? ⟨g, off + k * 4, none⟩ = some (.int .i64 x.k) := q0
    replace q1 : wr.drew.cell? ⟨g, off + k * 4 + 1, none⟩ = some (.int .i64 x.lo) := q1
    replace q2 : wr.drew.cell? ⟨g, off + k * 4 + 2, none⟩ = some (.int .i64 x.hi) := q2
    replace q3 : wr.drew.cell? ⟨g, off + k * 4 + 3, none⟩ = some (.int .i64 x.m) := q3
    replace nb : w.heap.size < wr.drew.heap.size := nb
    replace nT : (q4 + 1 + 1) < wr.drew.heap.size := nT
    replace ng : g < wr.drew.heap.size := ng
    replace HO : Hid (wr.drew.ownsRow (w.heap.size + 1) 52 10 u12 k (flatS (stL ⟨xs, ys, bl, bh, ps⟩ (st0 a s) acts k))) := Lib.hid HO.out
    generalize hWd : wr.drew = wd12 at hHeld hL b0 b1 b2 b3 b4 T0 fT0 T1 fT1 T2 fT2 T3 fT3 T4 fT4 T5 fT5 T6 fT6 T7 fT7 T8 fT8 T9 fT9 q0 q1 q2 q3 nb nT ng HO ⊢
    clear hWd
    refine tq 0 45 ?_ ?_ ?_; rotate_left; (focus intro w h; (try dsimp only at h); go_simp; try with_reducible rfl); try simp only [sA, sB, sC]
    refine tq 1 46 ?_ ?_ ?_; rotate_left; (focus intro w h; (try dsimp only at h); go_simp; try with_reducible rfl); try simp only [sA, sB, sC]
    refine tq 2 47 ?_ ?_ ?_; rotate_left; (focus intro w h; (try dsimp only at h); go_simp; try with_reducible rfl); try simp only [sA, sB, sC]
    refine tq 3 48 ?_ ?_ ?_; rotate_left; (focus intro w h; (try dsimp only at h); go_simp; try with_reducible rfl); try simp only [sA, sB, sC]
    refine tq 4 49 ?_ ?_ ?_; rotate_left; (focus intro w h; (try dsimp only at h); go_simp; try with_reducible rfl); try simp only [sA, sB, sC]
    refine tq 5 50 ?_ ?_ ?_; rotate_left; (focus intro w h; (try dsimp only at h); go_simp; try with_reducible rfl); try simp only [sA, sB, sC]
    refine wpAnyH_ready (rs := [6, 10]) (by kernel_rfl) (by simp) ?_
    refine AllReadyH.cons rfl (fun K hK => ?_) (AllReadyH.cons rfl (fun K hK => ?_) AllReadyH.nil)
    ·go_simp
     refine (CA.out _ (hbr.trans (hL.mono hbr.size))).mono ?_
     rintro e Z12x1 ⟨rfl, hb⟩
     replace b0 := cell_next hb nb b0
     replace b1 := cell_next hb nb b1
     replace b2 := cell_next hb nb b2
     replace b3 := cell_next hb nb b3
     replace b4 := cell_next hb nb b4
     replace T0 := cell_next hb nT T0
     replace fT0 := frozen_next hb nT fT0
     replace T1 := cell_next hb nT T1
     replace fT1 := frozen_next hb nT fT1
     replace T2 := cell_next hb nT T2
     replace fT2 := frozen_next hb nT fT2
     replace T3 := cell_next hb nT T3
     replace fT3 := frozen_next hb nT fT3
     replace T4 := cell_next hb nT T4
     replace fT4 := frozen_next hb nT fT4
     replace T5 := cell_next hb nT T5
     replace fT5 := frozen_next hb nT fT5
     replace T6 := cell_next hb nT T6
     replace fT6 := frozen_next hb nT fT6
     replace T7 := cell_next hb nT T7
     replace fT7 := frozen_next hb nT fT7
     replace T8 := cell_next hb nT T8
     replace fT8 := frozen_next hb nT fT8
     replace T9 := cell_next hb nT T9
     replace fT9 := frozen_next hb nT fT9
     replace q0 := cell_next hb ng q0
     replace q1 := cell_next hb ng q1
     replace q2 := cell_next hb ng q2
     replace q3 := cell_next hb ng q3
     replace nb := Nat.lt_of_lt_of_le nb hb.size
     replace nT := Nat.lt_of_lt_of_le nT hb.size
     replace ng := Nat.lt_of_lt_of_le ng hb.size
     replace hL := hL.trans (hb.mono (Nat.le_trans hBW hL.size))
     replace HO := Lib.hid (own_below HO.out hb)
     refine hK.out _ _ ⟨b0, b1, b2, b3, b4, T0, T1, T2, T3, T4, T5, T6, T7, T8, T9, q0, q1, q2, q3, trivial⟩ (fun hHeld => ?_)
     clear hK K hb
     try simp only [Act.put, sA, sB, sC]
     refine tq 7 44 ?_ ?_ ?_; rotate_left; (focus intro w h; (try dsimp only at h); go_simp; try with_reducible rfl); try simp only [sA, sB, sC]
     refine tq 8 52 ?_ ?_ ?_; rotate_left; (focus intro w h; (try dsimp only at h); go_simp; try with_reducible rfl); try simp only [sA, sB, sC]
     refine tq 9 53 ?_ ?_ ?_; rotate_left; (focus intro w h; (try dsimp only at h); go_simp; try with_reducible rfl); try simp only [sA, sB, sC]
     refine rd1 10 (fun K hK => ?_)
     go_simp
     have hb := (Below.refl Z12x1.heap.size Z12x1).alloc (Nat.le_refl _) (Obj.cells #[.int .i64 0, .int .i64 0, .int .i64 0, .int .i64 0, .int .i64 0, .int .i64 0, .int .i64 0, .int .i64 0, .bool false, .int .i64 0] 52)
     have szZ12x2 := hL.size
     have ord2nb := nb
     have ord2nT := nT
     have ord2ng := ng
     replace b0 := cell_next hb nb b0
     replace b1 := cell_next hb nb b1
     replace b2 := cell_next hb nb b2
     replace b3 := cell_next hb nb b3
     replace b4 := cell_next hb nb b4
     replace T0 := cell_next hb nT T0
     replace fT0 := frozen_next hb nT fT0
     replace T1 := cell_next hb nT T1
     replace fT1 := frozen_next hb nT fT1
     replace T2 := cell_next hb nT T2
     replace fT2 := frozen_next hb nT fT2
     replace T3 := cell_next hb nT T3
     replace fT3 := frozen_next hb nT fT3
     replace T4 := cell_next hb nT T4
     replace fT4 := frozen_next hb nT fT4
     replace T5 := cell_next hb nT T5
     replace fT5 := frozen_next hb nT fT5
     replace T6 := cell_next hb nT T6
     replace fT6 := frozen_next hb nT fT6
     replace T7 := cell_next hb nT T7
     replace fT7 := frozen_next hb nT fT7
     replace T8 := cell_next hb nT T8
     replace fT8 := frozen_next hb nT fT8
     replace T9 := cell_next hb nT T9
     replace fT9 := frozen_next hb nT fT9
     replace q0 := cell_next hb ng q0
     replace q1 := cell_next hb ng q1
     replace q2 := cell_next hb ng q2
     replace q3 := cell_next hb ng q3
     replace nb := Nat.lt_of_lt_of_le nb hb.size
     replace nT := Nat.lt_of_lt_of_le nT hb.size
     replace ng := Nat.lt_of_lt_of_le ng hb.size
     replace hL := hL.trans (hb.mono (Nat.le_trans hBW hL.size))
     replace HO := Lib.hid (own_below HO.out hb)
     have Xf0 : (Z12x1.alloc (Obj.cells #[.int .i64 0, .int .i64 0, .int .i64 0, .int .i64 0, .int .i64 0, .int .i64 0, .int .i64 0, .int .i64 0, .bool false, .int .i64 0] 52)).frozen? ⟨Z12x1.heap.size, 0, none⟩ = false := by simp [go_sem]
     have Xf1 : (Z12x1.alloc (Obj.cells #[.int .i64 0, .int .i64 0, .int .i64 0, .int .i64 0, .int .i64 0, .int .i64 0, .int .i64 0, .int .i64 0, .bool false, .int .i64 0] 52)).frozen? ⟨Z12x1.heap.size, 1, none⟩ = false := by simp [go_sem]
     have Xf2 : (Z12x1.alloc (Obj.cells #[.int .i64 0, .int .i64 0, .int .i64 0, .int .i64 0, .int .i64 0, .int .i64 0, .int .i64 0, .int .i64 0, .bool false, .int .i64 0] 52)).frozen? ⟨Z12x1.heap.size, 2, none⟩ = false := by simp [go_sem]
     have Xf3 : (Z12x1.alloc (Obj.cells #[.int .i64 0, .int .i64 0, .int .i64 0, .int .i64 0, .int .i64 0, .int .i64 0, .int .i64 0, .int .i64 0, .bool false, .int .i64 0] 52)).frozen? ⟨Z12x1.heap.size, 3, none⟩ = false := by simp [go_sem]
     have Xf4 : (Z12x1.alloc (Obj.cells #[.int .i64 0, .int .i64 0, .int .i64 0, .int .i64 0, .int .i64 0, .int .i64 0, .int .i64 0, .int .i64 0, .bool false, .int .i64 0] 52)).frozen? ⟨Z12x1.heap.size, 4, none⟩ = false := by simp [go_sem]
     have Xf5 : (Z12x1.alloc (Obj.cells #[.int .i64 0, .int .i64 0, .int .i64 0, .int .i64 0, .int .i64 0, .int .i64 0, .int .i64 0, .int .i64 0, .bool false, .int .i64 0] 52)).frozen? ⟨Z12x1.heap.size, 5, none⟩ = false := by simp [go_sem]
     have Xf6 : (Z12x1.alloc (Obj.cells #[.int .i64 0, .int .i64 0, .int .i64 0, .int .i64 0, .int .i64 0, .int .i64 0, .int .i64 0, .int .i64 0, .bool false, .int .i64 0] 52)).frozen? ⟨Z12x1.heap.size, 6, none⟩ = false := by simp [go_sem]
     have Xf7 : (Z12x1.alloc (Obj.cells #[.int .i64 0, .int .i64 0, .int .i64 0, .int .i64 0, .int .i64 0, .int .i64 0, .int .i64 0, .int .i64 0, .bool false, .int .i64 0] 52)).frozen? ⟨Z12x1.heap.size, 7, none⟩ = false := by simp [go_sem]
     have Xf8 : (Z12x1.alloc (Obj.cells #[.int .i64 0, .int .i64 0, .int .i64 0, .int .i64 0, .int .i64 0, .int .i64 0, .int .i64 0, .int .i64 0, .bool false, .int .i64 0] 52)).frozen? ⟨Z12x1.heap.size, 8, none⟩ = false := by simp [go_sem]
     have Xf9 : (Z12x1.alloc (Obj.cells #[.int .i64 0, .int .i64 0, .int .i64 0, .int .i64 0, .int .i64 0, .int .i64 0, .int .i64 0, .int .i64 0, .bool false, .int .i64 0] 52)).frozen? ⟨Z12x1.heap.size, 9, none⟩ = false := by simp [go_sem]
     have X0 : (Z12x1.alloc (Obj.cells #[.int .i64 0, .int .i64 0, .int .i64 0, .int .i64 0, .int .i64 0, .int .i64 0, .int .i64 0, .int .i64 0, .bool false, .int .i64 0] 52)).cell? ⟨Z12x1.heap.size, 0, none⟩ = some (.int .i64 0) := cell_new _ _ _ 0
     have X1 : (Z12x1.alloc (Obj.cells #[.int .i64 0, .int .i64 0, .int .i64 0, .int .i64 0, .int .i64 0, .int .i64 0, .int .i64 0, .int .i64 0, .bool false, .int .i64 0] 52)).cell? ⟨Z12x1.heap.size, 1, none⟩ = some (.int .i64 0) := cell_new _ _ _ 1
     have X2 : (Z12x1.alloc (Obj.cells #[.int .i64 0, .int .i64 0, .int .i64 0, .int .i64 0, .int .i64 0, .int .i64 0, .int .i64 0, .int .i64 0, .bool false, .int .i64 0] 52)).cell? ⟨Z12x1.heap.size, 2, none⟩ = some (.int .i64 0) := cell_new _ _ _ 2
     have X3 : (Z12x1.alloc (Obj.cells #[.int .i64 0, .int .i64 0, .int .i64 0, .int .i64 0, .int .i64 0, .int .i64 0, .int .i64 0, .int .i64 0, .bool false, .int .i64 0] 52)).cell? ⟨Z12x1.heap.size, 3, none⟩ = some (.int .i64 0) := cell_new _ _ _ 3
     have X4 : (Z12x1.alloc (Obj.cells #[.int .i64 0, .int .i64 0, .int .i64 0, .int .i64 0, .int .i64 0, .int .i64 0, .int .i64 0, .int .i64 0, .bool false, .int .i64 0] 52)).cell? ⟨Z12x1.heap.size, 4, none⟩ = some (.int .i64 0) := cell_new _ _ _ 4
     have X5 : (Z12x1.alloc (Obj.cells #[.int .i64 0, .int .i64 0, .int .i64 0, .int .i64 0, .int .i64 0, .int .i64 0, .int .i64 0, .int .i64 0, .bool false, .int .i64 0] 52)).cell? ⟨Z12x1.heap.size, 5, none⟩ = some (.int .i64 0) := cell_new _ _ _ 5
     have X6 : (Z12x1.alloc (Obj.cells #[.int .i64 0, .int .i64 0, .int .i64 0, .int .i64 0, .int .i64 0, .int .i64 0, .int .i64 0, .int .i64 0, .bool false, .int .i64 0] 52)).cell? ⟨Z12x1.heap.size, 6, none⟩ = some (.int .i64 0) := cell_new _ _ _ 6
     have X7 : (Z12x1.alloc (Obj.cells #[.int .i64 0, .int .i64 0, .int .i64 0, .int .i64 0, .int .i64 0, .int .i64 0, .int .i64 0, .int .i64 0, .bool false, .int .i64 0] 52)).cell? ⟨Z12x1.heap.size, 7, none⟩ = some (.int .i64 0) := cell_new _ _ _ 7
     have X8 : (Z12x1.alloc (Obj.cells #[.int .i64 0, .int .i64 0, .int .i64 0, .int .i64 0, .int .i64 0, .int .i64 0, .int .i64 0, .int .i64 0, .bool false, .int .i64 0] 52)).cell? ⟨Z12x1.heap.size, 8, none⟩ = some (.bool false) := cell_new _ _ _ 8
     have X9 : (Z12x1.alloc (Obj.cells #[.int .i64 0, .int .i64 0, .int .i64 0, .int .i64 0, .int .i64 0, .int .i64 0, .int .i64 0, .int .i64 0, .bool false, .int .i64 0] 52)).cell? ⟨Z12x1.heap.size, 9, none⟩ = some (.int .i64 0) := cell_new _ _ _ 9
     have nX : Z12x1.heap.size < (Z12x1.alloc (Obj.cells #[.int .i64 0, .int .i64 0, .int .i64 0, .int .i64 0, .int .i64 0, .int .i64 0, .int .i64 0, .int .i64 0, .bool false, .int .i64 0] 52)).heap.size := by simp
     refine hK.out _ _ ⟨b0, b1, b2, b3, b4, T0, T1, T2, T3, T4, T5, T6, T7, T8, T9, q0, q1, q2, q3, trivial⟩ (fun hHeld => ?_)
     clear hK K hb
     generalize Z12x1.alloc (Obj.cells #[.int .i64 0, .int .i64 0, .int .i64 0, .int .i64 0, .int .i64 0, .int .i64 0, .int .i64 0, .int .i64 0, .bool false, .int .i64 0] 52) = Z12x2 at *
     try simp only [Act.put, sA, sB, sC]
     refine rd1 11 (fun K hK => ?_)
     go_simp
     have hsL := hL.size
     replace HO := Lib.hid (jown_set (b := Z12x1.heap.size) (o := 9) (u := .int .i64 se2) (jown_set (b := Z12x1.heap.size) (o := 8) (u := .bool bg2) (jown_set (b := Z12x1.heap.size) (o := 7) (u := .int .i64 th2) (jown_set (b := Z12x1.heap.size) (o := 6) (u := .int .i64 tl2) (jown_set (b := Z12x1.heap.size) (o := 5) (u := .int .i64 sh2) (jown_set (b := Z12x1.heap.size) (o := 4) (u := .int .i64 sl2) (jown_set (b := Z12x1.heap.size) (o := 3) (u := .int .i64 hh2) (jown_set (b := Z12x1.heap.size) (o := 2) (u := .int .i64 hl2) (jown_set (b := Z12x1.heap.size) (o := 1) (u := .int .i64 dh2) (jown_set (b := Z12x1.heap.size) (o := 0) (u := .int .i64 dl2) (HO.out) (fun g hg => by have h9 := hol g hg; omega)) (fun g hg => by have h9 := hol g hg; omega)) (fun g hg => by have h9 := hol g hg; omega)) (fun g hg => by have h9 := hol g hg; omega)) (fun g hg => by have h9 := hol g hg; omega)) (fun g hg => by have h9 := hol g hg; omega)) (fun g hg => by have h9 := hol g hg; omega)) (fun g hg => by have h9 := hol g hg; omega)) (fun g hg => by have h9 := hol g hg; omega)) (fun g hg => by have h9 := hol g hg; omega))
     have FAR : ∀ {b2 o2 : Nat} {v2 : Option Value}, ¬ (b2 = Z12x1.heap.size ∧ (o2 = 0 ∨ o2 = 1 ∨ o2 = 2 ∨ o2 = 3 ∨ o2 = 4 ∨ o2 = 5 ∨ o2 = 6 ∨ o2 = 7 ∨ o2 = 8 ∨ o2 = 9)) → Z12x2.cell? ⟨b2, o2, none⟩ = v2 → ((((((((((Z12x2.setCell ⟨Z12x1.heap.size, 0, none⟩ (.int .i64 dl2)).setCell ⟨Z12x1.heap.size, 1, none⟩ (.int .i64 dh2)).setCell ⟨Z12x1.heap.size, 2, none⟩ (.int .i64 hl2)).setCell ⟨Z12x1.heap.size, 3, none⟩ (.int .i64 hh2)).setCell ⟨Z12x1.heap.size, 4, none⟩ (.int .i64 sl2)).setCell ⟨Z12x1.heap.size, 5, none⟩ (.int .i64 sh2)).setCell ⟨Z12x1.heap.size, 6, none⟩ (.int .i64 tl2)).setCell ⟨Z12x1.heap.size, 7, none⟩ (.int .i64 th2)).setCell ⟨Z12x1.heap.size, 8, none⟩ (.bool bg2)).setCell ⟨Z12x1.heap.size, 9, none⟩ (.int .i64 se2)).cell? ⟨b2, o2, none⟩ = v2 := fun h1 h2 => (so (by omega)).trans ((so (by omega)).trans ((so (by omega)).trans ((so (by omega)).trans ((so (by omega)).trans ((so (by omega)).trans ((so (by omega)).trans ((so (by omega)).trans ((so (by omega)).trans ((so (by omega)).trans (h2))))))))))
     have FRZ : ∀ {b2 o2 : Nat} {v2 : Bool}, Z12x2.frozen? ⟨b2, o2, none⟩ = v2 → ((((((((((Z12x2.setCell ⟨Z12x1.heap.size, 0, none⟩ (.int .i64 dl2)).setCell ⟨Z12x1.heap.size, 1, none⟩ (.int .i64 dh2)).setCell ⟨Z12x1.heap.size, 2, none⟩ (.int .i64 hl2)).setCell ⟨Z12x1.heap.size, 3, none⟩ (.int .i64 hh2)).setCell ⟨Z12x1.heap.size, 4, none⟩ (.int .i64 sl2)).setCell ⟨Z12x1.heap.size, 5, none⟩ (.int .i64 sh2)).setCell ⟨Z12x1.heap.size, 6, none⟩ (.int .i64 tl2)).setCell ⟨Z12x1.heap.size, 7, none⟩ (.int .i64 th2)).setCell ⟨Z12x1.heap.size, 8, none⟩ (.bool bg2)).setCell ⟨Z12x1.heap.size, 9, none⟩ (.int .i64 se2)).frozen? ⟨b2, o2, none⟩ = v2 := fun h2 => by simp [go_sem, h2]
     have NSZ : ∀ {b2 : Nat}, b2 < Z12x2.heap.size → b2 < ((((((((((Z12x2.setCell ⟨Z12x1.heap.size, 0, none⟩ (.int .i64 dl2)).setCell ⟨Z12x1.heap.size, 1, none⟩ (.int .i64 dh2)).setCell ⟨Z12x1.heap.size, 2, none⟩ (.int .i64 hl2)).setCell ⟨Z12x1.heap.size, 3, none⟩ (.int .i64 hh2)).setCell ⟨Z12x1.heap.size, 4, none⟩ (.int .i64 sl2)).setCell ⟨Z12x1.heap.size, 5, none⟩ (.int .i64 sh2)).setCell ⟨Z12x1.heap.size, 6, none⟩ (.int .i64 tl2)).setCell ⟨Z12x1.heap.size, 7, none⟩ (.int .i64 th2)).setCell ⟨Z12x1.heap.size, 8, none⟩ (.bool bg2)).setCell ⟨Z12x1.heap.size, 9, none⟩ (.int .i64 se2)).heap.size := fun h2 => by simpa [World.setCell] using h2
     have HIT : ∀ W9, W9 = ((((((((((Z12x2.setCell ⟨Z12x1.heap.size, 0, none⟩ (.int .i64 dl2)).setCell ⟨Z12x1.heap.size, 1, none⟩ (.int .i64 dh2)).setCell ⟨Z12x1.heap.size, 2, none⟩ (.int .i64 hl2)).setCell ⟨Z12x1.heap.size, 3, none⟩ (.int .i64 hh2)).setCell ⟨Z12x1.heap.size, 4, none⟩ (.int .i64 sl2)).setCell ⟨Z12x1.heap.size, 5, none⟩ (.int .i64 sh2)).setCell ⟨Z12x1.heap.size, 6, none⟩ (.int .i64 tl2)).setCell ⟨Z12x1.heap.size, 7, none⟩ (.int .i64 th2)).setCell ⟨Z12x1.heap.size, 8, none⟩ (.bool bg2)).setCell ⟨Z12x1.heap.size, 9, none⟩ (.int .i64 se2)) → W9.cell? ⟨Z12x1.heap.size, 0, none⟩ = some (.int .i64 dl2) ∧ W9.cell? ⟨Z12x1.heap.size, 1, none⟩ = some (.int .i64 dh2) ∧ W9.cell? ⟨Z12x1.heap.size, 2, none⟩ = some (.int .i64 hl2) ∧ W9.cell? ⟨Z12x1.heap.size, 3, none⟩ = some (.int .i64 hh2) ∧ W9.cell? ⟨Z12x1.heap.size, 4, none⟩ = some (.int .i64 sl2) ∧ W9.cell? ⟨Z12x1.heap.size, 5, none⟩ = some (.int .i64 sh2) ∧ W9.cell? ⟨Z12x1.heap.size, 6, none⟩ = some (.int .i64 tl2) ∧ W9.cell? ⟨Z12x1.heap.size, 7, none⟩ = some (.int .i64 th2) ∧ W9.cell? ⟨Z12x1.heap.size, 8, none⟩ = some (.bool bg2) ∧ W9.cell? ⟨Z12x1.heap.size, 9, none⟩ = some (.int .i64 se2) := by
      intro W9 h9
      subst h9
      exact ⟨by simp [go_sem, X0], by simp [go_sem, X1], by simp [go_sem, X2], by simp [go_sem, X3], by simp [go_sem, X4], by simp [go_sem, X5], by simp [go_sem, X6], by simp [go_sem, X7], by simp [go_sem, X8], by simp [go_sem, X9]⟩
     clear X0 X1 X2 X3 X4 X5 X6 X7 X8 X9
     obtain ⟨X0, X1, X2, X3, X4, X5, X6, X7, X8, X9⟩ := HIT _ rfl
     replace b0 := FAR (by omega) b0
     replace b1 := FAR (by omega) b1
     replace b2 := FAR (by omega) b2
     replace b3 := FAR (by omega) b3
     replace b4 := FAR (by omega) b4
     replace T0 := FAR (by omega) T0
     replace fT0 := FRZ fT0
     replace T1 := FAR (by omega) T1
     replace fT1 := FRZ fT1
     replace T2 := FAR (by omega) T2
     replace fT2 := FRZ fT2
     replace T3 := FAR (by omega) T3
     replace fT3 := FRZ fT3
     replace T4 := FAR (by omega) T4
     replace fT4 := FRZ fT4
     replace T5 := FAR (by omega) T5
     replace fT5 := FRZ fT5
     replace T6 := FAR (by omega) T6
     replace fT6 := FRZ fT6
     replace T7 := FAR (by omega) T7
     replace fT7 := FRZ fT7
     replace T8 := FAR (by omega) T8
     replace fT8 := FRZ fT8
     replace T9 := FAR (by omega) T9
     replace fT9 := FRZ fT9
     replace q0 := FAR (by omega) q0
     replace q1 := FAR (by omega) q1
     replace q2 := FAR (by omega) q2
     replace q3 := FAR (by omega) q3
     replace Xf0 := FRZ Xf0
     replace Xf1 := FRZ Xf1
     replace Xf2 := FRZ Xf2
     replace Xf3 := FRZ Xf3
     replace Xf4 := FRZ Xf4
     replace Xf5 := FRZ Xf5
     replace Xf6 := FRZ Xf6
     replace Xf7 := FRZ Xf7
     replace Xf8 := FRZ Xf8
     replace Xf9 := FRZ Xf9
     replace nb := NSZ nb
     replace nT := NSZ nT
     replace ng := NSZ ng
     replace nX := NSZ nX
     clear FAR NSZ FRZ HIT
     replace hL := hL.setCell (p := ⟨Z12x1.heap.size, 0, none⟩) (by show wr.heap.size ≤ Z12x1.heap.size; omega) (.int .i64 dl2)
     replace hL := hL.setCell (p := ⟨Z12x1.heap.size, 1, none⟩) (by show wr.heap.size ≤ Z12x1.heap.size; omega) (.int .i64 dh2)
     replace hL := hL.setCell (p := ⟨Z12x1.heap.size, 2, none⟩) (by show wr.heap.size ≤ Z12x1.heap.size; omega) (.int .i64 hl2)
     replace hL := hL.setCell (p := ⟨Z12x1.heap.size, 3, none⟩) (by show wr.heap.size ≤ Z12x1.heap.size; omega) (.int .i64 hh2)
     replace hL := hL.setCell (p := ⟨Z12x1.heap.size, 4, none⟩) (by show wr.heap.size ≤ Z12x1.heap.size; omega) (.int .i64 sl2)
     replace hL := hL.setCell (p := ⟨Z12x1.heap.size, 5, none⟩) (by show wr.heap.size ≤ Z12x1.heap.size; omega) (.int .i64 sh2)
     replace hL := hL.setCell (p := ⟨Z12x1.heap.size, 6, none⟩) (by show wr.heap.size ≤ Z12x1.heap.size; omega) (.int .i64 tl2)
     replace hL := hL.setCell (p := ⟨Z12x1.heap.size, 7, none⟩) (by show wr.heap.size ≤ Z12x1.heap.size; omega) (.int .i64 th2)
     replace hL := hL.setCell (p := ⟨Z12x1.heap.size, 8, none⟩) (by show wr.heap.size ≤ Z12x1.heap.size; omega) (.bool bg2)
     replace hL := hL.setCell (p := ⟨Z12x1.heap.size, 9, none⟩) (by show wr.heap.size ≤ Z12x1.heap.size; omega) (.int .i64 se2)
     refine hK.out _ _ ⟨b0, b1, b2, b3, b4, T0, T1, T2, T3, T4, T5, T6, T7, T8, T9, q0, q1, q2, q3, trivial⟩ (fun hHeld => ?_)
     clear hK K
     generalize ((((((((((Z12x2.setCell ⟨Z12x1.heap.size, 0, none⟩ (.int .i64 dl2)).setCell ⟨Z12x1.heap.size, 1, none⟩ (.int .i64 dh2)).setCell ⟨Z12x1.heap.size, 2, none⟩ (.int .i64 hl2)).setCell ⟨Z12x1.heap.size, 3, none⟩ (.int .i64 hh2)).setCell ⟨Z12x1.heap.size, 4, none⟩ (.int .i64 sl2)).setCell ⟨Z12x1.heap.size, 5, none⟩ (.int .i64 sh2)).setCell ⟨Z12x1.heap.size, 6, none⟩ (.int .i64 tl2)).setCell ⟨Z12x1.heap.size, 7, none⟩ (.int .i64 th2)).setCell ⟨Z12x1.heap.size, 8, none⟩ (.bool bg2)).setCell ⟨Z12x1.heap.size, 9, none⟩ (.int .i64 se2)) = Z12x3 at *
     try simp only [Act.put, sA, sB, sC]
     refine tq 12 15 ?_ ?_ ?_; rotate_left; (focus intro w h; (try dsimp only at h); go_simp; try with_reducible rfl); try simp only [sA, sB, sC]
     refine wpAnyH_done (by kernel_rfl) ?_ _
     have oX : wr.heap.size ≤ Z12x1.heap.size := by have := hL.size; omega
     have hfin := And.intro (hbr.trans (hL.mono hbr.size)) (And.intro b0 (And.intro b1 (And.intro b2 (And.intro b3 (And.intro b4 (And.intro T0 (And.intro fT0 (And.intro T1 (And.intro fT1 (And.intro T2 (And.intro fT2 (And.intro T3 (And.intro fT3 (And.intro T4 (And.intro fT4 (And.intro T5 (And.intro fT5 (And.intro T6 (And.intro fT6 (And.intro T7 (And.intro fT7 (And.intro T8 (And.intro fT8 (And.intro T9 (And.intro fT9 (And.intro nb (And.intro nT (And.intro X0 (And.intro X1 (And.intro X2 (And.intro X3 (And.intro X4 (And.intro X5 (And.intro X6 (And.intro X7 (And.intro X8 (And.intro X9 (And.intro nX (And.intro oX (HO))))))))))))))))))))))))))))))))))))))))
     clear b0 b1 b2 b3 b4 T0 fT0 T1 fT1 T2 fT2 T3 fT3 T4 fT4 T5 fT5 T6 fT6 T7 fT7 T8 fT8 T9 fT9 nb nT X0 X1 X2 X3 X4 X5 X6 X7 X8 X9 nX oX HO hL hHeld q0 q1 q2 q3 ng
     revert hfin
     generalize Z12x3 = w9
     generalize Z12x1.heap.size = g9
     intro hfin
     exact key g9 w9 hfin
    ·go_simp
     have hb := (Below.refl wd12.heap.size wd12).alloc (Nat.le_refl _) (Obj.cells #[.int .i64 0, .int .i64 0, .int .i64 0, .int .i64 0, .int .i64 0, .int .i64 0, .int .i64 0, .int .i64 0, .bool false, .int .i64 0] 52)
     have szZ12x4 := hL.size
     have ord4nb := nb
     have ord4nT := nT
     have ord4ng := ng
     replace b0 := cell_next hb nb b0
     replace b1 := cell_next hb nb b1
     replace b2 := cell_next hb nb b2
     replace b3 := cell_next hb nb b3
     replace b4 := cell_next hb nb b4
     replace T0 := cell_next hb nT T0
     replace fT0 := frozen_next hb nT fT0
     replace T1 := cell_next hb nT T1
     replace fT1 := frozen_next hb nT fT1
     replace T2 := cell_next hb nT T2
     replace fT2 := frozen_next hb nT fT2
     replace T3 := cell_next hb nT T3
     replace fT3 := frozen_next hb nT fT3
     replace T4 := cell_next hb nT T4
     replace fT4 := frozen_next hb nT fT4
     replace T5 := cell_next hb nT T5
     replace fT5 := frozen_next hb nT fT5
     replace T6 := cell_next hb nT T6
     replace fT6 := frozen_next hb nT fT6
     replace T7 := cell_next hb nT T7
     replace fT7 := frozen_next hb nT fT7
     replace T8 := cell_next hb nT T8
     replace fT8 := frozen_next hb nT fT8
     replace T9 := cell_next hb nT T9
     replace fT9 := frozen_next hb nT fT9
     replace q0 := cell_next hb ng q0
     replace q1 := cell_next hb ng q1
     replace q2 := cell_next hb ng q2
     replace q3 := cell_next hb ng q3
     replace nb := Nat.lt_of_lt_of_le nb hb.size
     replace nT := Nat.lt_of_lt_of_le nT hb.size
     replace ng := Nat.lt_of_lt_of_le ng hb.size
     replace hL := hL.trans (hb.mono (Nat.le_trans hBW hL.size))
     replace HO := Lib.hid (own_below HO.out hb)
     have Xf0 : (wd12.alloc (Obj.cells #[.int .i64 0, .int .i64 0, .int .i64 0, .int .i64 0, .int .i64 0, .int .i64 0, .int .i64 0, .int .i64 0, .bool false, .int .i64 0] 52)).frozen? ⟨wd12.heap.size, 0, none⟩ = false := by simp [go_sem]
     have Xf1 : (wd12.alloc (Obj.cells #[.int .i64 0, .int .i64 0, .int .i64 0, .int .i64 0, .int .i64 0, .int .i64 0, .int .i64 0, .int .i64 0, .bool false, .int .i64 0] 52)).frozen? ⟨wd12.heap.size, 1, none⟩ = false := by simp [go_sem]
     have Xf2 : (wd12.alloc (Obj.cells #[.int .i64 0, .int .i64 0, .int .i64 0, .int .i64 0, .int .i64 0, .int .i64 0, .int .i64 0, .int .i64 0, .bool false, .int .i64 0] 52)).frozen? ⟨wd12.heap.size, 2, none⟩ = false := by simp [go_sem]
     have Xf3 : (wd12.alloc (Obj.cells #[.int .i64 0, .int .i64 0, .int .i64 0, .int .i64 0, .int .i64 0, .int .i64 0, .int .i64 0, .int .i64 0, .bool false, .int .i64 0] 52)).frozen? ⟨wd12.heap.size, 3, none⟩ = false := by simp [go_sem]
     have Xf4 : (wd12.alloc (Obj.cells #[.int .i64 0, .int .i64 0, .int .i64 0, .int .i64 0, .int .i64 0, .int .i64 0, .int .i64 0, .int .i64 0, .bool false, .int .i64 0] 52)).frozen? ⟨wd12.heap.size, 4, none⟩ = false := by simp [go_sem]
     have Xf5 : (wd12.alloc (Obj.cells #[.int .i64 0, .int .i64 0, .int .i64 0, .int .i64 0, .int .i64 0, .int .i64 0, .int .i64 0, .int .i64 0, .bool false, .int .i64 0] 52)).frozen? ⟨wd12.heap.size, 5, none⟩ = false := by simp [go_sem]
     have Xf6 : (wd12.alloc (Obj.cells #[.int .i64 0, .int .i64 0, .int .i64 0, .int .i64 0, .int .i64 0, .int .i64 0, .int .i64 0, .int .i64 0, .bool false, .int .i64 0] 52)).frozen? ⟨wd12.heap.size, 6, none⟩ = false := by simp [go_sem]
     have Xf7 : (wd12.alloc (Obj.cells #[.int .i64 0, .int .i64 0, .int .i64 0, .int .i64 0, .int .i64 0, .int .i64 0, .int .i64 0, .int .i64 0, .bool false, .int .i64 0] 52)).frozen? ⟨wd12.heap.size, 7, none⟩ = false := by simp [go_sem]
     have Xf8 : (wd12.alloc (Obj.cells #[.int .i64 0, .int .i64 0, .int .i64 0, .int .i64 0, .int .i64 0, .int .i64 0, .int .i64 0, .int .i64 0, .bool false, .int .i64 0] 52)).frozen? ⟨wd12.heap.size, 8, none⟩ = false := by simp [go_sem]
     have Xf9 : (wd12.alloc (Obj.cells #[.int .i64 0, .int .i64 0, .int .i64 0, .int .i64 0, .int .i64 0, .int .i64 0, .int .i64 0, .int .i64 0, .bool false, .int .i64 0] 52)).frozen? ⟨wd12.heap.size, 9, none⟩ = false := by simp [go_sem]
     have X0 : (wd12.alloc (Obj.cells #[.int .i64 0, .int .i64 0, .int .i64 0, .int .i64 0, .int .i64 0, .int .i64 0, .int .i64 0, .int .i64 0, .bool false, .int .i64 0] 52)).cell? ⟨wd12.heap.size, 0, none⟩ = some (.int .i64 0) := cell_new _ _ _ 0
     have X1 : (wd12.alloc (Obj.cells #[.int .i64 0, .int .i64 0, .int .i64 0, .int .i64 0, .int .i64 0, .int .i64 0, .int .i64 0, .int .i64 0, .bool false, .int .i64 0] 52)).cell? ⟨wd12.heap.size, 1, none⟩ = some (.int .i64 0) := cell_new _ _ _ 1
     have X2 : (wd12.alloc (Obj.cells #[.int .i64 0, .int .i64 0, .int .i64 0, .int .i64 0, .int .i64 0, .int .i64 0, .int .i64 0, .int .i64 0, .bool false, .int .i64 0] 52)).cell? ⟨wd12.heap.size, 2, none⟩ = some (.int .i64 0) := cell_new _ _ _ 2
     have X3 : (wd12.alloc (Obj.cells #[.int .i64 0, .int .i64 0, .int .i64 0, .int .i64 0, .int .i64 0, .int .i64 0, .int .i64 0, .int .i64 0, .bool false, .int .i64 0] 52)).cell? ⟨wd12.heap.size, 3, none⟩ = some (.int .i64 0) := cell_new _ _ _ 3
     have X4 : (wd12.alloc (Obj.cells #[.int .i64 0, .int .i64 0, .int .i64 0, .int .i64 0, .int .i64 0, .int .i64 0, .int .i64 0, .int .i64 0, .bool false, .int .i64 0] 52)).cell? ⟨wd12.heap.size, 4, none⟩ = some (.int .i64 0) := cell_new _ _ _ 4
     have X5 : (wd12.alloc (Obj.cells #[.int .i64 0, .int .i64 0, .int .i64 0, .int .i64 0, .int .i64 0, .int .i64 0, .int .i64 0, .int .i64 0, .bool false, .int .i64 0] 52)).cell? ⟨wd12.heap.size, 5, none⟩ = some (.int .i64 0) := cell_new _ _ _ 5
     have X6 : (wd12.alloc (Obj.cells #[.int .i64 0, .int .i64 0, .int .i64 0, .int .i64 0, .int .i64 0, .int .i64 0, .int .i64 0, .int .i64 0, .bool false, .int .i64 0] 52)).cell? ⟨wd12.heap.size, 6, none⟩ = some (.int .i64 0) := cell_new _ _ _ 6
     have X7 : (wd12.alloc (Obj.cells #[.int .i64 0, .int .i64 0, .int .i64 0, .int .i64 0, .int .i64 0, .int .i64 0, .int .i64 0, .int .i64 0, .bool false, .int .i64 0] 52)).cell? ⟨wd12.heap.size, 7, none⟩ = some (.int .i64 0) := cell_new _ _ _ 7
     have X8 : (wd12.alloc (Obj.cells #[.int .i64 0, .int .i64 0, .int .i64 0, .int .i64 0, .int .i64 0, .int .i64 0, .int .i64 0, .int .i64 0, .bool false, .int .i64 0] 52)).cell? ⟨wd12.heap.size, 8, none⟩ = some (.bool false) := cell_new _ _ _ 8
     have X9 : (wd12.alloc (Obj.cells #[.int .i64 0, .int .i64 0, .int .i64 0, .int .i64 0, .int .i64 0, .int .i64 0, .int .i64 0, .int .i64 0, .bool false, .int .i64 0] 52)).cell? ⟨wd12.heap.size, 9, none⟩ = some (.int .i64 0) := cell_new _ _ _ 9
     have nX : wd12.heap.size < (wd12.alloc (Obj.cells #[.int .i64 0, .int .i64 0, .int .i64 0, .int .i64 0, .int .i64 0, .int .i64 0, .int .i64 0, .int .i64 0, .bool false, .int .i64 0] 52)).heap.size := by simp
     refine hK.out _ _ ⟨b0, b1, b2, b3, b4, T0, T1, T2, T3, T4, T5, T6, T7, T8, T9, q0, q1, q2, q3, trivial⟩ (fun hHeld => ?_)
     clear hK K hb
     generalize wd12.alloc (Obj.cells #[.int .i64 0, .int .i64 0, .int .i64 0, .int .i64 0, .int .i64 0, .int .i64 0, .int .i64 0, .int .i64 0, .bool false, .int .i64 0] 52) = Z12x4 at *
     try simp only [Act.put, sA, sB, sC]
     refine rd1 6 (fun K hK => ?_)
     go_simp
     refine (CA.out _ (hbr.trans (hL.mono hbr.size))).mono ?_
     rintro e Z12x5 ⟨rfl, hb⟩
     replace b0 := cell_next hb nb b0
     replace b1 := cell_next hb nb b1
     replace b2 := cell_next hb nb b2
     replace b3 := cell_next hb nb b3
     replace b4 := cell_next hb nb b4
     replace T0 := cell_next hb nT T0
     replace fT0 := frozen_next hb nT fT0
     replace T1 := cell_next hb nT T1
     replace fT1 := frozen_next hb nT fT1
     replace T2 := cell_next hb nT T2
     replace fT2 := frozen_next hb nT fT2
     replace T3 := cell_next hb nT T3
     replace fT3 := frozen_next hb nT fT3
     replace T4 := cell_next hb nT T4
     replace fT4 := frozen_next hb nT fT4
     replace T5 := cell_next hb nT T5
     replace fT5 := frozen_next hb nT fT5
     replace T6 := cell_next hb nT T6
     replace fT6 := frozen_next hb nT fT6
     replace T7 := cell_next hb nT T7
     replace fT7 := frozen_next hb nT fT7
     replace T8 := cell_next hb nT T8
     replace fT8 := frozen_next hb nT fT8
     replace T9 := cell_next hb nT T9
     replace fT9 := frozen_next hb nT fT9
     replace q0 := cell_next hb ng q0
     replace q1 := cell_next hb ng q1
     replace q2 := cell_next hb ng q2
     replace q3 := cell_next hb ng q3
     replace Xf0 := frozen_next hb nX Xf0
     replace Xf1 := frozen_next hb nX Xf1
     replace Xf2 := frozen_next hb nX Xf2
     replace Xf3 := frozen_next hb nX Xf3
     replace Xf4 := frozen_next hb nX Xf4
     replace Xf5 := frozen_next hb nX Xf5
     replace Xf6 := frozen_next hb nX Xf6
     replace Xf7 := frozen_next hb nX Xf7
     replace Xf8 := frozen_next hb nX Xf8
     replace Xf9 := frozen_next hb nX Xf9
     replace X0 := cell_next hb nX X0
     replace X1 := cell_next hb nX X1
     replace X2 := cell_next hb nX X2
     replace X3 := cell_next hb nX X3
     replace X4 := cell_next hb nX X4
     replace X5 := cell_next hb nX X5
     replace X6 := cell_next hb nX X6
     replace X7 := cell_next hb nX X7
     replace X8 := cell_next hb nX X8
     replace X9 := cell_next hb nX X9
     replace nb := Nat.lt_of_lt_of_le nb hb.size
     replace nT := Nat.lt_of_lt_of_le nT hb.size
     replace ng := Nat.lt_of_lt_of_le ng hb.size
     replace nX := Nat.lt_of_lt_of_le nX hb.size
     replace hL := hL.trans (hb.mono (Nat.le_trans hBW hL.size))
     replace HO := Lib.hid (own_below HO.out hb)
     refine hK.out _ _ ⟨b0, b1, b2, b3, b4, T0, T1, T2, T3, T4, T5, T6, T7, T8, T9, q0, q1, q2, q3, trivial⟩ (fun hHeld => ?_)
     clear hK K hb
     try simp only [Act.put, sA, sB, sC]
     refine tq 7 44 ?_ ?_ ?_; rotate_left; (focus intro w h; (try dsimp only at h); go_simp; try with_reducible rfl); try simp only [sA, sB, sC]
     refine tq 8 52 ?_ ?_ ?_; rotate_left; (focus intro w h; (try dsimp only at h); go_simp; try with_reducible rfl); try simp only [sA, sB, sC]
     refine tq 9 53 ?_ ?_ ?_; rotate_left; (focus intro w h; (try dsimp only at h); go_simp; try with_reducible rfl); try simp only [sA, sB, sC]
     refine rd1 11 (fun K hK => ?_)
     go_simp
     have hsL := hL.size
     replace HO := Lib.hid (jown_set (b := wd12.heap.size) (o := 9) (u := .int .i64 se2) (jown_set (b := wd12.heap.size) (o := 8) (u := .bool bg2) (jown_set (b := wd12.heap.size) (o := 7) (u := .int .i64 th2) (jown_set (b := wd12.heap.size) (o := 6) (u := .int .i64 tl2) (jown_set (b := wd12.heap.size) (o := 5) (u := .int .i64 sh2) (jown_set (b := wd12.heap.size) (o := 4) (u := .int .i64 sl2) (jown_set (b := wd12.heap.size) (o := 3) (u := .int .i64 hh2) (jown_set (b := wd12.heap.size) (o := 2) (u := .int .i64 hl2) (jown_set (b := wd12.heap.size) (o := 1) (u := .int .i64 dh2) (jown_set (b := wd12.heap.size) (o := 0) (u := .int .i64 dl2) (HO.out) (fun g hg => by have h9 := hol g hg; omega)) (fun g hg => by have h9 := hol g hg; omega)) (fun g hg => by have h9 := hol g hg; omega)) (fun g hg => by have h9 := hol g hg; omega)) (fun g hg => by have h9 := hol g hg; omega)) (fun g hg => by have h9 := hol g hg; omega)) (fun g hg => by have h9 := hol g hg; omega)) (fun g hg => by have h9 := hol g hg; omega)) (fun g hg => by have h9 := hol g hg; omega)) (fun g hg => by have h9 := hol g hg; omega))
     have FAR : ∀ {b2 o2 : Nat} {v2 : Option Value}, ¬ (b2 = wd12.heap.size ∧ (o2 = 0 ∨ o2 = 1 ∨ o2 = 2 ∨ o2 = 3 ∨ o2 = 4 ∨ o2 = 5 ∨ o2 = 6 ∨ o2 = 7 ∨ o2 = 8 ∨ o2 = 9)) → Z12x5.cell? ⟨b2, o2, none⟩ = v2 → ((((((((((Z12x5.setCell ⟨wd12.heap.size, 0, none⟩ (.int .i64 dl2)).setCell ⟨wd12.heap.size, 1, none⟩ (.int .i64 dh2)).setCell ⟨wd12.heap.size, 2, none⟩ (.int .i64 hl2)).setCell ⟨wd12.heap.size, 3, none⟩ (.int .i64 hh2)).setCell ⟨wd12.heap.size, 4, none⟩ (.int .i64 sl2)).setCell ⟨wd12.heap.size, 5, none⟩ (.int .i64 sh2)).setCell ⟨wd12.heap.size, 6, none⟩ (.int .i64 tl2)).setCell ⟨wd12.heap.size, 7, none⟩ (.int .i64 th2)).setCell ⟨wd12.heap.size, 8, none⟩ (.bool bg2)).setCell ⟨wd12.heap.size, 9, none⟩ (.int .i64 se2)).cell? ⟨b2, o2, none⟩ = v2 := fun h1 h2 => (so (by omega)).trans ((so (by omega)).trans ((so (by omega)).trans ((so (by omega)).trans ((so (by omega)).trans ((so (by omega)).trans ((so (by omega)).trans ((so (by omega)).trans ((so (by omega)).trans ((so (by omega)).trans (h2))))))))))
     have FRZ : ∀ {b2 o2 : Nat} {v2 : Bool}, Z12x5.frozen? ⟨b2, o2, none⟩ = v2 → ((((((((((Z12x5.setCell ⟨wd12.heap.size, 0, none⟩ (.int .i64 dl2)).setCell ⟨wd12.heap.size, 1, none⟩ (.int .i64 dh2)).setCell ⟨wd12.heap.size, 2, none⟩ (.int .i64 hl2)).setCell ⟨wd12.heap.size, 3, none⟩ (.int .i64 hh2)).setCell ⟨wd12.heap.size, 4, none⟩ (.int .i64 sl2)).setCell ⟨wd12.heap.size, 5, none⟩ (.int .i64 sh2)).setCell ⟨wd12.heap.size, 6, none⟩ (.int .i64 tl2)).setCell ⟨wd12.heap.size, 7, none⟩ (.int .i64 th2)).setCell ⟨wd12.heap.size, 8, none⟩ (.bool bg2)).setCell ⟨wd12.heap.size, 9, none⟩ (.int .i64 se2)).frozen? ⟨b2, o2, none⟩ = v2 := fun h2 => by simp [go_sem, h2]
     have NSZ : ∀ {b2 : Nat}, b2 < Z12x5.heap.size → b2 < ((((((((((Z12x5.setCell ⟨wd12.heap.size, 0, none⟩ (.int .i64 dl2)).setCell ⟨wd12.heap.size, 1, none⟩ (.int .i64 dh2)).setCell ⟨wd12.heap.size, 2, none⟩ (.int .i64 hl2)).setCell ⟨wd12.heap.size, 3, none⟩ (.int .i64 hh2)).setCell ⟨wd12.heap.size, 4, none⟩ (.int .i64 sl2)).setCell ⟨wd12.heap.size, 5, none⟩ (.int .i64 sh2)).setCell ⟨wd12.heap.size, 6, none⟩ (.int .i64 tl2)).setCell ⟨wd12.heap.size, 7, none⟩ (.int .i64 th2)).setCell ⟨wd12.heap.size, 8, none⟩ (.bool bg2)).setCell ⟨wd12.heap.size, 9, none⟩ (.int .i64 se2)).heap.size := fun h2 => by simpa [World.setCell] using h2
     have HIT : ∀ W9, W9 = ((((((((((Z12x5.setCell ⟨wd12.heap.size, 0, none⟩ (.int .i64 dl2)).setCell ⟨wd12.heap.size, 1, none⟩ (.int .i64 dh2)).setCell ⟨wd12.heap.size, 2, none⟩ (.int .i64 hl2)).setCell ⟨wd12.heap.size, 3, none⟩ (.int .i64 hh2)).setCell ⟨wd12.heap.size, 4, none⟩ (.int .i64 sl2)).setCell ⟨wd12.heap.size, 5, none⟩ (.int .i64 sh2)).setCell ⟨wd12.heap.size, 6, none⟩ (.int .i64 tl2)).setCell ⟨wd12.heap.size, 7, none⟩ (.int .i64 th2)).setCell ⟨wd12.heap.size, 8, none⟩ (.bool bg2)).setCell ⟨wd12.heap.size, 9, none⟩ (.int .i64 se2)) → W9.cell? ⟨wd12.heap.size, 0, none⟩ = some (.int .i64 dl2) ∧ W9.cell? ⟨wd12.heap.size, 1, none⟩ = some (.int .i64 dh2) ∧ W9.cell? ⟨wd12.heap.size, 2, none⟩ = some (.int .i64 hl2) ∧ W9.cell? ⟨wd12.heap.size, 3, none⟩ = some (.int .i64 hh2) ∧ W9.cell? ⟨wd12.heap.size, 4, none⟩ = some (.int .i64 sl2) ∧ W9.cell? ⟨wd12.heap.size, 5, none⟩ = some (.int .i64 sh2) ∧ W9.cell? ⟨wd12.heap.size, 6, none⟩ = some (.int .i64 tl2) ∧ W9.cell? ⟨wd12.heap.size, 7, none⟩ = some (.int .i64 th2) ∧ W9.cell? ⟨wd12.heap.size, 8, none⟩ = some (.bool bg2) ∧ W9.cell? ⟨wd12.heap.size, 9, none⟩ = some (.int .i64 se2) := by
      intro W9 h9
      subst h9
      exact ⟨by simp [go_sem, X0], by simp [go_sem, X1], by simp [go_sem, X2], by simp [go_sem, X3], by simp [go_sem, X4], by simp [go_sem, X5], by simp [go_sem, X6], by simp [go_sem, X7], by simp [go_sem, X8], by simp [go_sem, X9]⟩
     clear X0 X1 X2 X3 X4 X5 X6 X7 X8 X9
     obtain ⟨X0, X1, X2, X3, X4, X5, X6, X7, X8, X9⟩ := HIT _ rfl
     replace b0 := FAR (by omega) b0
     replace b1 := FAR (by omega) b1
     replace b2 := FAR (by omega) b2
     replace b3 := FAR (by omega) b3
     replace b4 := FAR (by omega) b4
     replace T0 := FAR (by omega) T0
     replace fT0 := FRZ fT0
     replace T1 := FAR (by omega) T1
     replace fT1 := FRZ fT1
     replace T2 := FAR (by omega) T2
     replace fT2 := FRZ fT2
     replace T3 := FAR (by omega) T3
     replace fT3 := FRZ fT3
     replace T4 := FAR (by omega) T4
     replace fT4 := FRZ fT4
     replace T5 := FAR (by omega) T5
     replace fT5 := FRZ fT5
     replace T6 := FAR (by omega) T6
     replace fT6 := FRZ fT6
     replace T7 := FAR (by omega) T7
     replace fT7 := FRZ fT7
     replace T8 := FAR (by omega) T8
     replace fT8 := FRZ fT8
     replace T9 := FAR (by omega) T9
     replace fT9 := FRZ fT9
     replace q0 := FAR (by omega) q0
     replace q1 := FAR (by omega) q1
     replace q2 := FAR (by omega) q2
     replace q3 := FAR (by omega) q3
     replace Xf0 := FRZ Xf0
     replace Xf1 := FRZ Xf1
     replace Xf2 := FRZ Xf2
     replace Xf3 := FRZ Xf3
     replace Xf4 := FRZ Xf4
     replace Xf5 := FRZ Xf5
     replace Xf6 := FRZ Xf6
     replace Xf7 := FRZ Xf7
     replace Xf8 := FRZ Xf8
     replace Xf9 := FRZ Xf9
     replace nb := NSZ nb
     replace nT := NSZ nT
     replace ng := NSZ ng
     replace nX := NSZ nX
     clear FAR NSZ FRZ HIT
     replace hL := hL.setCell (p := ⟨wd12.heap.size, 0, none⟩) (by show wr.heap.size ≤ wd12.heap.size; omega) (.int .i64 dl2)
     replace hL := hL.setCell (p := ⟨wd12.heap.size, 1, none⟩) (by show wr.heap.size ≤ wd12.heap.size; omega) (.int .i64 dh2)
     replace hL := hL.setCell (p := ⟨wd12.heap.size, 2, none⟩) (by show wr.heap.size ≤ wd12.heap.size; omega) (.int .i64 hl2)
     replace hL := hL.setCell (p := ⟨wd12.heap.size, 3, none⟩) (by show wr.heap.size ≤ wd12.heap.size; omega) (.int .i64 hh2)
     replace hL := hL.setCell (p := ⟨wd12.heap.size, 4, none⟩) (by show wr.heap.size ≤ wd12.heap.size; omega) (.int .i64 sl2)
     replace hL := hL.setCell (p := ⟨wd12.heap.size, 5, none⟩) (by show wr.heap.size ≤ wd12.heap.size; omega) (.int .i64 sh2)
     replace hL := hL.setCell (p := ⟨wd12.heap.size, 6, none⟩) (by show wr.heap.size ≤ wd12.heap.size; omega) (.int .i64 tl2)
     replace hL := hL.setCell (p := ⟨wd12.heap.size, 7, none⟩) (by show wr.heap.size ≤ wd12.heap.size; omega) (.int .i64 th2)
     replace hL := hL.setCell (p := ⟨wd12.heap.size, 8, none⟩) (by show wr.heap.size ≤ wd12.heap.size; omega) (.bool bg2)
     replace hL := hL.setCell (p := ⟨wd12.heap.size, 9, none⟩) (by show wr.heap.size ≤ wd12.heap.size; omega) (.int .i64 se2)
     refine hK.out _ _ ⟨b0, b1, b2, b3, b4, T0, T1, T2, T3, T4, T5, T6, T7, T8, T9, q0, q1, q2, q3, trivial⟩ (fun hHeld => ?_)
     clear hK K
     generalize ((((((((((Z12x5.setCell ⟨wd12.heap.size, 0, none⟩ (.int .i64 dl2)).setCell ⟨wd12.heap.size, 1, none⟩ (.int .i64 dh2)).setCell ⟨wd12.heap.size, 2, none⟩ (.int .i64 hl2)).setCell ⟨wd12.heap.size, 3, none⟩ (.int .i64 hh2)).setCell ⟨wd12.heap.size, 4, none⟩ (.int .i64 sl2)).setCell ⟨wd12.heap.size, 5, none⟩ (.int .i64 sh2)).setCell ⟨wd12.heap.size, 6, none⟩ (.int .i64 tl2)).setCell ⟨wd12.heap.size, 7, none⟩ (.int .i64 th2)).setCell ⟨wd12.heap.size, 8, none⟩ (.bool bg2)).setCell ⟨wd12.heap.size, 9, none⟩ (.int .i64 se2)) = Z12x6 at *
     try simp only [Act.put, sA, sB, sC]
     refine tq 12 15 ?_ ?_ ?_; rotate_left; (focus intro w h; (try dsimp only at h); go_simp; try with_reducible rfl); try simp only [sA, sB, sC]
     refine wpAnyH_done (by kernel_rfl) ?_ _
     have oX : wr.heap.size ≤ wd12.heap.size := by have := hL.size; omega
     have hfin := And.intro (hbr.trans (hL.mono hbr.size)) (And.intro b0 (And.intro b1 (And.intro b2 (And.intro b3 (And.intro b4 (And.intro T0 (And.intro fT0 (And.intro T1 (And.intro fT1 (And.intro T2 (And.intro fT2 (And.intro T3 (And.intro fT3 (And.intro T4 (And.intro fT4 (And.intro T5 (And.intro fT5 (And.intro T6 (And.intro fT6 (And.intro T7 (And.intro fT7 (And.intro T8 (And.intro fT8 (And.intro T9 (And.intro fT9 (And.intro nb (And.intro nT (And.intro X0 (And.intro X1 (And.intro X2 (And.intro X3 (And.intro X4 (And.intro X5 (And.intro X6 (And.intro X7 (And.intro X8 (And.intro X9 (And.intro nX (And.intro oX (HO))))))))))))))))))))))))))))))))))))))))
     clear b0 b1 b2 b3 b4 T0 fT0 T1 fT1 T2 fT2 T3 fT3 T4 fT4 T5 fT5 T6 fT6 T7 fT7 T8 fT8 T9 fT9 nb nT X0 X1 X2 X3 X4 X5 X6 X7 X8 X9 nX oX HO hL hHeld q0 q1 q2 q3 ng
     revert hfin
     generalize Z12x6 = w9
     generalize wd12.heap.size = g9
     intro hfin
     exact key g9 w9 hfin
   clear b0 b1 b2 b3 b4 T0 fT0 T1 fT1 T2 fT2 T3 fT3 T4 fT4 T5 fT5 T6 fT6 T7 fT7 T8 fT8 T9 fT9 q0 q1 q2 q3 nb nT ng HO hbr
   intro gX V12 ⟨hbr, b0, b1, b2, b3, b4, T0, fT0, T1, fT1, T2, fT2, T3, fT3, T4, fT4, T5, fT5, T6, fT6, T7, fT7, T8, fT8, T9, fT9, nb, nT, X0, X1, X2, X3, X4, X5, X6, X7, X8, X9, nX, oX, HO⟩
   have hXB := oX
   by_cases hE : E = 0
   ·subst hE
    have hok' := Lib.hid (HK.out rfl)
    clear HK hbad
    go_wp2_with fail
    have hBW : w.heap.size ≤ V12.heap.size := hbr.size
    have hqq := hXB
    refine wp_region_held_drew (S := fun w' => w'.cell? ⟨gX, 0, none⟩ = some (.int .i64 dl2) ∧ w'.cell? ⟨gX, 1, none⟩ = some (.int .i64 dh2) ∧ w'.cell? ⟨gX, 2, none⟩ = some (.int .i64 hl2) ∧ w'.cell? ⟨gX, 3, none⟩ = some (.int .i64 hh2) ∧ w'.cell? ⟨gX, 4, none⟩ = some (.int .i64 sl2) ∧ w'.cell? ⟨gX, 5, none⟩ = some (.int .i64 sh2) ∧ w'.cell? ⟨gX, 6, none⟩ = some (.int .i64 tl2) ∧ w'.cell? ⟨gX, 7, none⟩ = some (.int .i64 th2) ∧ w'.cell? ⟨gX, 8, none⟩ = some (.bool bg2) ∧ w'.cell? ⟨gX, 9, none⟩ = some (.int .i64 se2) ∧ True) (by kernel_rfl) ?_ (fun hHeld => ?_)
    focus (exact ⟨X0, X1, X2, X3, X4, X5, X6, X7, X8, X9, trivial⟩)
    have hL : Below w.heap.size V12 V12.drew := Below.drew (Below.refl _ _)
    replace b0 : V12.drew.cell? ⟨w.heap.size, 0, none⟩ = some (.slice A1 n1 c1) := b0
    replace b1 : V12.drew.cell? ⟨w.heap.size, 1, none⟩ = some (.slice A2 n2 c2) := b1
    replace b2 : V12.drew.cell? ⟨w.heap.size, 2, none⟩ = some (.int .i64 bl) := b2
    replace b3 : V12.drew.cell? ⟨w.heap.size, 3, none⟩ = some (.int .i64 bh) := b3
    replace b4 : V12.drew.cell? ⟨w.heap.size, 4, none⟩ = some (.slice A3 n3 c3) := b4
    replace T0 : V12.drew.cell? ⟨(q4 + 1 + 1), 0, none⟩ = some (.int .i64 dl) := T0
    replace fT0 : V12.drew.frozen? ⟨(q4 + 1 + 1), 0, none⟩ = false := fT0
    replace T1 : V12.drew.cell? ⟨(q4 + 1 + 1), 1, none⟩ = some (.int .i64 dh) := T1
    replace fT1 : V12.drew.frozen? ⟨(q4 + 1 + 1), 1, none⟩ = false := fT1
    replace T2 : V12.drew.cell? ⟨(q4 + 1 + 1), 2, none⟩ = some (.int .i64 hl) := T2
    replace fT2 : V12.drew.frozen? ⟨(q4 + 1 + 1), 2, none⟩ = false := fT2
    replace T3 : V12.drew.cell? ⟨(q4 + 1 + 1), 3, none⟩ = some (.int .i64 hh) := T3
    replace fT3 : V12.drew.frozen? ⟨(q4 + 1 + 1), 3, none⟩ = false := fT3
    replace T4 : V12.drew.cell? ⟨(q4 + 1 + 1), 4, none⟩ = some (.int .i64 sl) := T4
    replace fT4 : V12.drew.frozen? ⟨(q4 + 1 + 1), 4, none⟩ = false := fT4
    replace T5 : V12.drew.cell? ⟨(q4 + 1 + 1), 5, none⟩ = some (.int .i64 sh) := T5
    replace fT5 : V12.drew.frozen? ⟨(q4 + 1 + 1), 5, none⟩ = false := fT5
    replace T6 : V12.drew.cell? ⟨(q4 + 1 + 1), 6, none⟩ = some (.int .i64 tl) := T6
    replace fT6 : V12.drew.frozen? ⟨(q4 + 1 + 1), 6, none⟩ = false := fT6
    replace T7 : V12.drew.cell? ⟨(q4 + 1 + 1), 7, none⟩ = some (.int .i64 th) := T7
    replace fT7 : V12.drew.frozen? ⟨(q4 + 1 + 1), 7, none⟩ = false := fT7
    replace T8 : V12.drew.cell? ⟨(q4 + 1 + 1), 8, none⟩ = some (.bool bg) := T8
    replace fT8 : V12.drew.frozen? ⟨(q4 + 1 + 1), 8, none⟩ = false := fT8
    replace T9 : V12.drew.cell? ⟨(q4 + 1 + 1), 9, none⟩ = some (.int .i64 se) := T9
    replace fT9 : V12.drew.frozen? ⟨(q4 + 1 + 1), 9, none⟩ = false := fT9
    replace X0 : V12.drew.cell? ⟨gX, 0, none⟩ = some (.int .i64 dl2) := X0
    replace X1 : V12.drew.cell? ⟨gX, 1, none⟩ = some (.int .i64 dh2) := X1
    replace X2 : V12.drew.cell? ⟨gX, 2, none⟩ = some (.int .i64 hl2) := X2
    replace X3 : V12.drew.cell? ⟨gX, 3, none⟩ = some (.int .i64 hh2) := X3
    replace X4 : V12.drew.cell? ⟨gX, 4, none⟩ = some (.int .i64 sl2) := X4
    replace X5 : V12.drew.cell? ⟨gX, 5, none⟩ = some (.int .i64 sh2) := X5
    replace X6 : V12.drew.cell? ⟨gX, 6, none⟩ = some (.int .i64 tl2) := X6
    replace X7 : V12.drew.cell? ⟨gX, 7, none⟩ = some (.int .i64 th2) := X7
    replace X8 : V12.drew.cell? ⟨gX, 8, none⟩ = some (.bool bg2) := X8
    replace X9 : V12.drew.cell? ⟨gX, 9, none⟩ = some (.int .i64 se2) := X9
    replace nb : w.heap.size < V12.drew.heap.size := nb
    replace nT : (q4 + 1 + 1) < V12.drew.heap.size := nT
    replace nX : gX < V12.drew.heap.size := nX
    replace HO : Hid (V12.drew.ownsRow (w.heap.size + 1) 52 10 u12 k (flatS (stL ⟨xs, ys, bl, bh, ps⟩ (st0 a s) acts k))) := Lib.hid HO.out
    generalize hWd : V12.drew = wd15 at hHeld hL b0 b1 b2 b3 b4 T0 fT0 T1 fT1 T2 fT2 T3 fT3 T4 fT4 T5 fT5 T6 fT6 T7 fT7 T8 fT8 T9 fT9 X0 X1 X2 X3 X4 X5 X6 X7 X8 X9 nb nT nX HO ⊢
    clear hWd
    refine tq 0 58 ?_ ?_ ?_; rotate_left; (focus intro w h; (try dsimp only at h); go_simp; try with_reducible rfl); try simp only [sA, sB, sC]
    refine tq 1 59 ?_ ?_ ?_; rotate_left; (focus intro w h; (try dsimp only at h); go_simp; try with_reducible rfl); try simp only [sA, sB, sC]
    refine tq 2 60 ?_ ?_ ?_; rotate_left; (focus intro w h; (try dsimp only at h); go_simp; try with_reducible rfl); try simp only [sA, sB, sC]
    refine rd1 3 (fun K hK => ?_)
    go_simp
    have hb := (Below.refl wd15.heap.size wd15).alloc (Nat.le_refl _) (Obj.cells #[.int .i64 dl2, .int .i64 dh2, .int .i64 hl2, .int .i64 hh2, .int .i64 sl2, .int .i64 sh2, .int .i64 tl2, .int .i64 th2, .bool bg2, .int .i64 se2] 52)
    have szZ15x1 := hL.size
    have ord1nb := nb
    have ord1nT := nT
    have ord1nX := nX
    replace b0 := cell_next hb nb b0
    replace b1 := cell_next hb nb b1
    replace b2 := cell_next hb nb b2
    replace b3 := cell_next hb nb b3
    replace b4 := cell_next hb nb b4
    replace T0 := cell_next hb nT T0
    replace fT0 := frozen_next hb nT fT0
    replace T1 := cell_next hb nT T1
    replace fT1 := frozen_next hb nT fT1
    replace T2 := cell_next hb nT T2
    replace fT2 := frozen_next hb nT fT2
    replace T3 := cell_next hb nT T3
    replace fT3 := frozen_next hb nT fT3
    replace T4 := cell_next hb nT T4
    replace fT4 := frozen_next hb nT fT4
    replace T5 := cell_next hb nT T5
    replace fT5 := frozen_next hb nT fT5
    replace T6 := cell_next hb nT T6
    replace fT6 := frozen_next hb nT fT6
    replace T7 := cell_next hb nT T7
    replace fT7 := frozen_next hb nT fT7
    replace T8 := cell_next hb nT T8
    replace fT8 := frozen_next hb nT fT8
    replace T9 := cell_next hb nT T9
    replace fT9 := frozen_next hb nT fT9
    replace X0 := cell_next hb nX X0
    replace X1 := cell_next hb nX X1
    replace X2 := cell_next hb nX X2
    replace X3 := cell_next hb nX X3
    replace X4 := cell_next hb nX X4
    replace X5 := cell_next hb nX X5
    replace X6 := cell_next hb nX X6
    replace X7 := cell_next hb nX X7
    replace X8 := cell_next hb nX X8
    replace X9 := cell_next hb nX X9
    replace nb := Nat.lt_of_lt_of_le nb hb.size
    replace nT := Nat.lt_of_lt_of_le nT hb.size
    replace nX := Nat.lt_of_lt_of_le nX hb.size
    replace hL := hL.trans (hb.mono (Nat.le_trans hBW hL.size))
    replace HO := Lib.hid (own_below HO.out hb)
    have K0 : (wd15.alloc (Obj.cells #[.int .i64 dl2, .int .i64 dh2, .int .i64 hl2, .int .i64 hh2, .int .i64 sl2, .int .i64 sh2, .int .i64 tl2, .int .i64 th2, .bool bg2, .int .i64 se2] 52)).cell? ⟨wd15.heap.size, 0, none⟩ = some (.int .i64 dl2) := cell_new _ _ _ 0
    have K1 : (wd15.alloc (Obj.cells #[.int .i64 dl2, .int .i64 dh2, .int .i64 hl2, .int .i64 hh2, .int .i64 sl2, .int .i64 sh2, .int .i64 tl2, .int .i64 th2, .bool bg2, .int .i64 se2] 52)).cell? ⟨wd15.heap.size, 1, none⟩ = some (.int .i64 dh2) := cell_new _ _ _ 1
    have K2 : (wd15.alloc (Obj.cells #[.int .i64 dl2, .int .i64 dh2, .int .i64 hl2, .int .i64 hh2, .int .i64 sl2, .int .i64 sh2, .int .i64 tl2, .int .i64 th2, .bool bg2, .int .i64 se2] 52)).cell? ⟨wd15.heap.size, 2, none⟩ = some (.int .i64 hl2) := cell_new _ _ _ 2
    have K3 : (wd15.alloc (Obj.cells #[.int .i64 dl2, .int .i64 dh2, .int .i64 hl2, .int .i64 hh2, .int .i64 sl2, .int .i64 sh2, .int .i64 tl2, .int .i64 th2, .bool bg2, .int .i64 se2] 52)).cell? ⟨wd15.heap.size, 3, none⟩ = some (.int .i64 hh2) := cell_new _ _ _ 3
    have K4 : (wd15.alloc (Obj.cells #[.int .i64 dl2, .int .i64 dh2, .int .i64 hl2, .int .i64 hh2, .int .i64 sl2, .int .i64 sh2, .int .i64 tl2, .int .i64 th2, .bool bg2, .int .i64 se2] 52)).cell? ⟨wd15.heap.size, 4, none⟩ = some (.int .i64 sl2) := cell_new _ _ _ 4
    have K5 : (wd15.alloc (Obj.cells #[.int .i64 dl2, .int .i64 dh2, .int .i64 hl2, .int .i64 hh2, .int .i64 sl2, .int .i64 sh2, .int .i64 tl2, .int .i64 th2, .bool bg2, .int .i64 se2] 52)).cell? ⟨wd15.heap.size, 5, none⟩ = some (.int .i64 sh2) := cell_new _ _ _ 5
    have K6 : (wd15.alloc (Obj.cells #[.int .i64 dl2, .int .i64 dh2, .int .i64 hl2, .int .i64 hh2, .int .i64 sl2, .int .i64 sh2, .int .i64 tl2, .int .i64 th2, .bool bg2, .int .i64 se2] 52)).cell? ⟨wd15.heap.size, 6, none⟩ = some (.int .i64 tl2) := cell_new _ _ _ 6
    have K7 : (wd15.alloc (Obj.cells #[.int .i64 dl2, .int .i64 dh2, .int .i64 hl2, .int .i64 hh2, .int .i64 sl2, .int .i64 sh2, .int .i64 tl2, .int .i64 th2, .bool bg2, .int .i64 se2] 52)).cell? ⟨wd15.heap.size, 7, none⟩ = some (.int .i64 th2) := cell_new _ _ _ 7
    have K8 : (wd15.alloc (Obj.cells #[.int .i64 dl2, .int .i64 dh2, .int .i64 hl2, .int .i64 hh2, .int .i64 sl2, .int .i64 sh2, .int .i64 tl2, .int .i64 th2, .bool bg2, .int .i64 se2] 52)).cell? ⟨wd15.heap.size, 8, none⟩ = some (.bool bg2) := cell_new _ _ _ 8
    have K9 : (wd15.alloc (Obj.cells #[.int .i64 dl2, .int .i64 dh2, .int .i64 hl2, .int .i64 hh2, .int .i64 sl2, .int .i64 sh2, .int .i64 tl2, .int .i64 th2, .bool bg2, .int .i64 se2] 52)).cell? ⟨wd15.heap.size, 9, none⟩ = some (.int .i64 se2) := cell_new _ _ _ 9
    have nK : wd15.heap.size < (wd15.alloc (Obj.cells #[.int .i64 dl2, .int .i64 dh2, .int .i64 hl2, .int .i64 hh2, .int .i64 sl2, .int .i64 sh2, .int .i64 tl2, .int .i64 th2, .bool bg2, .int .i64 se2] 52)).heap.size := by simp
    refine hK.out _ _ ⟨X0, X1, X2, X3, X4, X5, X6, X7, X8, X9, trivial⟩ (fun hHeld => ?_)
    clear hK K hb
    generalize wd15.alloc (Obj.cells #[.int .i64 dl2, .int .i64 dh2, .int .i64 hl2, .int .i64 hh2, .int .i64 sl2, .int .i64 sh2, .int .i64 tl2, .int .i64 th2, .bool bg2, .int .i64 se2] 52) = Z15x1 at *
    try simp only [Act.put, sA, sB, sC]
    refine rd1 4 (fun K hK => ?_)
    refine jstep_append_d _ 62 rfl rfl (.tmp 59) (.tmp 61) 45 rfl (w.heap.size + 1) 52 i0 (.agg #[.int .i64 0, .int .i64 0, .int .i64 0, .int .i64 0, .int .i64 0, .int .i64 0, .int .i64 0, .int .i64 0, .bool false, .int .i64 0]) 10 80 Tryz.underlying45 hi0 hz0 hz1 hz2 rfl (by decide) u12 k (flatS (stL ⟨xs, ys, bl, bh, ps⟩ (st0 a s) acts k)) rfl HO.out ⟨wd15.heap.size, 0, none⟩ 1 1 (cSt ⟨dl2, dh2, hl2, hh2, sl2, sh2, tl2, th2, bg2, se2⟩) rfl rfl ?_ ?_ (by decide) ?_ ?_ ?_ _ rfl ?_
    ·intro j u hj
     rcases j with _ | _ | _ | _ | _ | _ | _ | _ | _ | _ | j
     ·simp [cSt] at hj; subst hj; exact K0
     ·simp [cSt] at hj; subst hj; exact K1
     ·simp [cSt] at hj; subst hj; exact K2
     ·simp [cSt] at hj; subst hj; exact K3
     ·simp [cSt] at hj; subst hj; exact K4
     ·simp [cSt] at hj; subst hj; exact K5
     ·simp [cSt] at hj; subst hj; exact K6
     ·simp [cSt] at hj; subst hj; exact K7
     ·simp [cSt] at hj; subst hj; exact K8
     ·simp [cSt] at hj; subst hj; exact K9
     ·simp [cSt] at hj
    ·simp [cSt, Value.oneCell']
    ·unfold maxLen; omega
    ·omega
    ·have h8 := hL.size; have h9 := hbr.size; omega
    intro g5 c5 Z15x2 hown' hgrow hat hlt'
    have hsL := hL.size
    have hg5 : w.heap.size + 1 ≤ g5 ∧ g5 ≠ (q4 + 1 + 1) := by rcases hat with h8 | h8; exact ⟨(hol _ h8).1, hob _ h8⟩; exact ⟨by omega, by omega⟩
    replace b0 := jgrown_keep hgrow nb (fun e => by have h1 := hol _ e; have h2 := hob _ e; omega) b0
    replace b1 := jgrown_keep hgrow nb (fun e => by have h1 := hol _ e; have h2 := hob _ e; omega) b1
    replace b2 := jgrown_keep hgrow nb (fun e => by have h1 := hol _ e; have h2 := hob _ e; omega) b2
    replace b3 := jgrown_keep hgrow nb (fun e => by have h1 := hol _ e; have h2 := hob _ e; omega) b3
    replace b4 := jgrown_keep hgrow nb (fun e => by have h1 := hol _ e; have h2 := hob _ e; omega) b4
    replace T0 := jgrown_keep hgrow nT (fun e => by have h1 := hol _ e; have h2 := hob _ e; omega) T0
    replace fT0 := jgrown_keepf hgrow nT (fun e => by have h1 := hol _ e; have h2 := hob _ e; omega) fT0
    replace T1 := jgrown_keep hgrow nT (fun e => by have h1 := hol _ e; have h2 := hob _ e; omega) T1
    replace fT1 := jgrown_keepf hgrow nT (fun e => by have h1 := hol _ e; have h2 := hob _ e; omega) fT1
    replace T2 := jgrown_keep hgrow nT (fun e => by have h1 := hol _ e; have h2 := hob _ e; omega) T2
    replace fT2 := jgrown_keepf hgrow nT (fun e => by have h1 := hol _ e; have h2 := hob _ e; omega) fT2
    replace T3 := jgrown_keep hgrow nT (fun e => by have h1 := hol _ e; have h2 := hob _ e; omega) T3
    replace fT3 := jgrown_keepf hgrow nT (fun e => by have h1 := hol _ e; have h2 := hob _ e; omega) fT3
    replace T4 := jgrown_keep hgrow nT (fun e => by have h1 := hol _ e; have h2 := hob _ e; omega) T4
    replace fT4 := jgrown_keepf hgrow nT (fun e => by have h1 := hol _ e; have h2 := hob _ e; omega) fT4
    replace T5 := jgrown_keep hgrow nT (fun e => by have h1 := hol _ e; have h2 := hob _ e; omega) T5
    replace fT5 := jgrown_keepf hgrow nT (fun e => by have h1 := hol _ e; have h2 := hob _ e; omega) fT5
    replace T6 := jgrown_keep hgrow nT (fun e => by have h1 := hol _ e; have h2 := hob _ e; omega) T6
    replace fT6 := jgrown_keepf hgrow nT (fun e => by have h1 := hol _ e; have h2 := hob _ e; omega) fT6
    replace T7 := jgrown_keep hgrow nT (fun e => by have h1 := hol _ e; have h2 := hob _ e; omega) T7
    replace fT7 := jgrown_keepf hgrow nT (fun e => by have h1 := hol _ e; have h2 := hob _ e; omega) fT7
    replace T8 := jgrown_keep hgrow nT (fun e => by have h1 := hol _ e; have h2 := hob _ e; omega) T8
    replace fT8 := jgrown_keepf hgrow nT (fun e => by have h1 := hol _ e; have h2 := hob _ e; omega) fT8
    replace T9 := jgrown_keep hgrow nT (fun e => by have h1 := hol _ e; have h2 := hob _ e; omega) T9
    replace fT9 := jgrown_keepf hgrow nT (fun e => by have h1 := hol _ e; have h2 := hob _ e; omega) fT9
    replace X0 := jgrown_keep hgrow nX (fun e => by have h1 := hol _ e; have h2 := hob _ e; omega) X0
    replace X1 := jgrown_keep hgrow nX (fun e => by have h1 := hol _ e; have h2 := hob _ e; omega) X1
    replace X2 := jgrown_keep hgrow nX (fun e => by have h1 := hol _ e; have h2 := hob _ e; omega) X2
    replace X3 := jgrown_keep hgrow nX (fun e => by have h1 := hol _ e; have h2 := hob _ e; omega) X3
    replace X4 := jgrown_keep hgrow nX (fun e => by have h1 := hol _ e; have h2 := hob _ e; omega) X4
    replace X5 := jgrown_keep hgrow nX (fun e => by have h1 := hol _ e; have h2 := hob _ e; omega) X5
    replace X6 := jgrown_keep hgrow nX (fun e => by have h1 := hol _ e; have h2 := hob _ e; omega) X6
    replace X7 := jgrown_keep hgrow nX (fun e => by have h1 := hol _ e; have h2 := hob _ e; omega) X7
    replace X8 := jgrown_keep hgrow nX (fun e => by have h1 := hol _ e; have h2 := hob _ e; omega) X8
    replace X9 := jgrown_keep hgrow nX (fun e => by have h1 := hol _ e; have h2 := hob _ e; omega) X9
    replace nb := Nat.lt_of_lt_of_le nb hgrow.size
    replace nT := Nat.lt_of_lt_of_le nT hgrow.size
    replace nX := Nat.lt_of_lt_of_le nX hgrow.size
    replace nK := Nat.lt_of_lt_of_le nK hgrow.size
    replace hL := hL.grown hgrow (by omega) (fun g h => by have := hol _ h; omega)
    replace HO : Hid (Z15x2.ownsRow (w.heap.size + 1) 52 10 (.slice (some ⟨g5, 0, none⟩) (k + 1) c5) (k + 1) (flatS (stL ⟨xs, ys, bl, bh, ps⟩ (st0 a s) acts (k + 1)))) := Lib.hid (by rw [hsl.out]; exact hown')
    refine hK.out _ _ ⟨X0, X1, X2, X3, X4, X5, X6, X7, X8, X9, trivial⟩ (fun hHeld => ?_)
    clear hK K hown' hgrow hat hlt' hsL
    try simp only [Act.put, sA, sB, sC]
    refine rd1 5 (fun K hK => ?_)
    go_simp
    replace HO := Lib.hid (jown_set (b := (q4 + 1 + 1)) (o := 9) (u := .int .i64 se2) (jown_set (b := (q4 + 1 + 1)) (o := 8) (u := .bool bg2) (jown_set (b := (q4 + 1 + 1)) (o := 7) (u := .int .i64 th2) (jown_set (b := (q4 + 1 + 1)) (o := 6) (u := .int .i64 tl2) (jown_set (b := (q4 + 1 + 1)) (o := 5) (u := .int .i64 sh2) (jown_set (b := (q4 + 1 + 1)) (o := 4) (u := .int .i64 sl2) (jown_set (b := (q4 + 1 + 1)) (o := 3) (u := .int .i64 hh2) (jown_set (b := (q4 + 1 + 1)) (o := 2) (u := .int .i64 hl2) (jown_set (b := (q4 + 1 + 1)) (o := 1) (u := .int .i64 dh2) (jown_set (b := (q4 + 1 + 1)) (o := 0) (u := .int .i64 dl2) (HO.out) (fun g hg => by have e9 : g5 = g := (by simpa [Value.ownBlock] using hg); omega)) (fun g hg => by have e9 : g5 = g := (by simpa [Value.ownBlock] using hg); omega)) (fun g hg => by have e9 : g5 = g := (by simpa [Value.ownBlock] using hg); omega)) (fun g hg => by have e9 : g5 = g := (by simpa [Value.ownBlock] using hg); omega)) (fun g hg => by have e9 : g5 = g := (by simpa [Value.ownBlock] using hg); omega)) (fun g hg => by have e9 : g5 = g := (by simpa [Value.ownBlock] using hg); omega)) (fun g hg => by have e9 : g5 = g := (by simpa [Value.ownBlock] using hg); omega)) (fun g hg => by have e9 : g5 = g := (by simpa [Value.ownBlock] using hg); omega)) (fun g hg => by have e9 : g5 = g := (by simpa [Value.ownBlock] using hg); omega)) (fun g hg => by have e9 : g5 = g := (by simpa [Value.ownBlock] using hg); omega))
    have FAR : ∀ {b2 o2 : Nat} {v2 : Option Value}, ¬ (b2 = (q4 + 1 + 1) ∧ (o2 = 0 ∨ o2 = 1 ∨ o2 = 2 ∨ o2 = 3 ∨ o2 = 4 ∨ o2 = 5 ∨ o2 = 6 ∨ o2 = 7 ∨ o2 = 8 ∨ o2 = 9)) → Z15x2.cell? ⟨b2, o2, none⟩ = v2 → ((((((((((Z15x2.setCell ⟨(q4 + 1 + 1), 0, none⟩ (.int .i64 dl2)).setCell ⟨(q4 + 1 + 1), 1, none⟩ (.int .i64 dh2)).setCell ⟨(q4 + 1 + 1), 2, none⟩ (.int .i64 hl2)).setCell ⟨(q4 + 1 + 1), 3, none⟩ (.int .i64 hh2)).setCell ⟨(q4 + 1 + 1), 4, none⟩ (.int .i64 sl2)).setCell ⟨(q4 + 1 + 1), 5, none⟩ (.int .i64 sh2)).setCell ⟨(q4 + 1 + 1), 6, none⟩ (.int .i64 tl2)).setCell ⟨(q4 + 1 + 1), 7, none⟩ (.int .i64 th2)).setCell ⟨(q4 + 1 + 1), 8, none⟩ (.bool bg2)).setCell ⟨(q4 + 1 + 1), 9, none⟩ (.int .i64 se2)).cell? ⟨b2, o2, none⟩ = v2 := fun h1 h2 => (so (by omega)).trans ((so (by omega)).trans ((so (by omega)).trans ((so (by omega)).trans ((so (by omega)).trans ((so (by omega)).trans ((so (by omega)).trans ((so (by omega)).trans ((so (by omega)).trans ((so (by omega)).trans (h2))))))))))
    have FRZ : ∀ {b2 o2 : Nat} {v2 : Bool}, Z15x2.frozen? ⟨b2, o2, none⟩ = v2 → ((((((((((Z15x2.setCell ⟨(q4 + 1 + 1), 0, none⟩ (.int .i64 dl2)).setCell ⟨(q4 + 1 + 1), 1, none⟩ (.int .i64 dh2)).setCell ⟨(q4 + 1 + 1), 2, none⟩ (.int .i64 hl2)).setCell ⟨(q4 + 1 + 1), 3, none⟩ (.int .i64 hh2)).setCell ⟨(q4 + 1 + 1), 4, none⟩ (.int .i64 sl2)).setCell ⟨(q4 + 1 + 1), 5, none⟩ (.int .i64 sh2)).setCell ⟨(q4 + 1 + 1), 6, none⟩ (.int .i64 tl2)).setCell ⟨(q4 + 1 + 1), 7, none⟩ (.int .i64 th2)).setCell ⟨(q4 + 1 + 1), 8, none⟩ (.bool bg2)).setCell ⟨(q4 + 1 + 1), 9, none⟩ (.int .i64 se2)).frozen? ⟨b2, o2, none⟩ = v2 := fun h2 => by simp [go_sem, h2]
    have NSZ : ∀ {b2 : Nat}, b2 < Z15x2.heap.size → b2 < ((((((((((Z15x2.setCell ⟨(q4 + 1 + 1), 0, none⟩ (.int .i64 dl2)).setCell ⟨(q4 + 1 + 1), 1, none⟩ (.int .i64 dh2)).setCell ⟨(q4 + 1 + 1), 2, none⟩ (.int .i64 hl2)).setCell ⟨(q4 + 1 + 1), 3, none⟩ (.int .i64 hh2)).setCell ⟨(q4 + 1 + 1), 4, none⟩ (.int .i64 sl2)).setCell ⟨(q4 + 1 + 1), 5, none⟩ (.int .i64 sh2)).setCell ⟨(q4 + 1 + 1), 6, none⟩ (.int .i64 tl2)).setCell ⟨(q4 + 1 + 1), 7, none⟩ (.int .i64 th2)).setCell ⟨(q4 + 1 + 1), 8, none⟩ (.bool bg2)).setCell ⟨(q4 + 1 + 1), 9, none⟩ (.int .i64 se2)).heap.size := fun h2 => by simpa [World.setCell] using h2
    have HIT : ∀ W9, W9 = ((((((((((Z15x2.setCell ⟨(q4 + 1 + 1), 0, none⟩ (.int .i64 dl2)).setCell ⟨(q4 + 1 + 1), 1, none⟩ (.int .i64 dh2)).setCell ⟨(q4 + 1 + 1), 2, none⟩ (.int .i64 hl2)).setCell ⟨(q4 + 1 + 1), 3, none⟩ (.int .i64 hh2)).setCell ⟨(q4 + 1 + 1), 4, none⟩ (.int .i64 sl2)).setCell ⟨(q4 + 1 + 1), 5, none⟩ (.int .i64 sh2)).setCell ⟨(q4 + 1 + 1), 6, none⟩ (.int .i64 tl2)).setCell ⟨(q4 + 1 + 1), 7, none⟩ (.int .i64 th2)).setCell ⟨(q4 + 1 + 1), 8, none⟩ (.bool bg2)).setCell ⟨(q4 + 1 + 1), 9, none⟩ (.int .i64 se2)) → W9.cell? ⟨(q4 + 1 + 1), 0, none⟩ = some (.int .i64 dl2) ∧ W9.cell? ⟨(q4 + 1 + 1), 1, none⟩ = some (.int .i64 dh2) ∧ W9.cell? ⟨(q4 + 1 + 1), 2, none⟩ = some (.int .i64 hl2) ∧ W9.cell? ⟨(q4 + 1 + 1), 3, none⟩ = some (.int .i64 hh2) ∧ W9.cell? ⟨(q4 + 1 + 1), 4, none⟩ = some (.int .i64 sl2) ∧ W9.cell? ⟨(q4 + 1 + 1), 5, none⟩ = some (.int .i64 sh2) ∧ W9.cell? ⟨(q4 + 1 + 1), 6, none⟩ = some (.int .i64 tl2) ∧ W9.cell? ⟨(q4 + 1 + 1), 7, none⟩ = some (.int .i64 th2) ∧ W9.cell? ⟨(q4 + 1 + 1), 8, none⟩ = some (.bool bg2) ∧ W9.cell? ⟨(q4 + 1 + 1), 9, none⟩ = some (.int .i64 se2) := by
     intro W9 h9
     subst h9
     exact ⟨by simp [go_sem, T0], by simp [go_sem, T1], by simp [go_sem, T2], by simp [go_sem, T3], by simp [go_sem, T4], by simp [go_sem, T5], by simp [go_sem, T6], by simp [go_sem, T7], by simp [go_sem, T8], by simp [go_sem, T9]⟩
    clear T0 T1 T2 T3 T4 T5 T6 T7 T8 T9
    obtain ⟨T0, T1, T2, T3, T4, T5, T6, T7, T8, T9⟩ := HIT _ rfl
    replace b0 := FAR (by omega) b0
    replace b1 := FAR (by omega) b1
    replace b2 := FAR (by omega) b2
    replace b3 := FAR (by omega) b3
    replace b4 := FAR (by omega) b4
    replace fT0 := FRZ fT0
    replace fT1 := FRZ fT1
    replace fT2 := FRZ fT2
    replace fT3 := FRZ fT3
    replace fT4 := FRZ fT4
    replace fT5 := FRZ fT5
    replace fT6 := FRZ fT6
    replace fT7 := FRZ fT7
    replace fT8 := FRZ fT8
    replace fT9 := FRZ fT9
    replace X0 := FAR (by omega) X0
    replace X1 := FAR (by omega) X1
    replace X2 := FAR (by omega) X2
    replace X3 := FAR (by omega) X3
    replace X4 := FAR (by omega) X4
    replace X5 := FAR (by omega) X5
    replace X6 := FAR (by omega) X6
    replace X7 := FAR (by omega) X7
    replace X8 := FAR (by omega) X8
    replace X9 := FAR (by omega) X9
    replace nb := NSZ nb
    replace nT := NSZ nT
    replace nX := NSZ nX
    clear FAR NSZ FRZ HIT
    replace hL := hL.setCell (p := ⟨(q4 + 1 + 1), 0, none⟩) (by show w.heap.size ≤ (q4 + 1 + 1); omega) (.int .i64 dl2)
    replace hL := hL.setCell (p := ⟨(q4 + 1 + 1), 1, none⟩) (by show w.heap.size ≤ (q4 + 1 + 1); omega) (.int .i64 dh2)
    replace hL := hL.setCell (p := ⟨(q4 + 1 + 1), 2, none⟩) (by show w.heap.size ≤ (q4 + 1 + 1); omega) (.int .i64 hl2)
    replace hL := hL.setCell (p := ⟨(q4 + 1 + 1), 3, none⟩) (by show w.heap.size ≤ (q4 + 1 + 1); omega) (.int .i64 hh2)
    replace hL := hL.setCell (p := ⟨(q4 + 1 + 1), 4, none⟩) (by show w.heap.size ≤ (q4 + 1 + 1); omega) (.int .i64 sl2)
    replace hL := hL.setCell (p := ⟨(q4 + 1 + 1), 5, none⟩) (by show w.heap.size ≤ (q4 + 1 + 1); omega) (.int .i64 sh2)
    replace hL := hL.setCell (p := ⟨(q4 + 1 + 1), 6, none⟩) (by show w.heap.size ≤ (q4 + 1 + 1); omega) (.int .i64 tl2)
    replace hL := hL.setCell (p := ⟨(q4 + 1 + 1), 7, none⟩) (by show w.heap.size ≤ (q4 + 1 + 1); omega) (.int .i64 th2)
    replace hL := hL.setCell (p := ⟨(q4 + 1 + 1), 8, none⟩) (by show w.heap.size ≤ (q4 + 1 + 1); omega) (.bool bg2)
    replace hL := hL.setCell (p := ⟨(q4 + 1 + 1), 9, none⟩) (by show w.heap.size ≤ (q4 + 1 + 1); omega) (.int .i64 se2)
    refine hK.out _ _ ⟨X0, X1, X2, X3, X4, X5, X6, X7, X8, X9, trivial⟩ (fun hHeld => ?_)
    clear hK K
    generalize ((((((((((Z15x2.setCell ⟨(q4 + 1 + 1), 0, none⟩ (.int .i64 dl2)).setCell ⟨(q4 + 1 + 1), 1, none⟩ (.int .i64 dh2)).setCell ⟨(q4 + 1 + 1), 2, none⟩ (.int .i64 hl2)).setCell ⟨(q4 + 1 + 1), 3, none⟩ (.int .i64 hh2)).setCell ⟨(q4 + 1 + 1), 4, none⟩ (.int .i64 sl2)).setCell ⟨(q4 + 1 + 1), 5, none⟩ (.int .i64 sh2)).setCell ⟨(q4 + 1 + 1), 6, none⟩ (.int .i64 tl2)).setCell ⟨(q4 + 1 + 1), 7, none⟩ (.int .i64 th2)).setCell ⟨(q4 + 1 + 1), 8, none⟩ (.bool bg2)).setCell ⟨(q4 + 1 + 1), 9, none⟩ (.int .i64 se2)) = Z15x3 at *
    try simp only [Act.put, sA, sB, sC]
    refine tq 6 12 ?_ ?_ ?_; rotate_left; (focus intro w h; (try dsimp only at h); go_simp; try with_reducible rfl); try simp only [sA, sB, sC]
    refine wpAnyH_done (by kernel_rfl) ?_ _
    replace hbr := hbr.trans hL
    have hTc : Hid (∀ j u, (cSt (stN ⟨xs, ys, bl, bh, ps⟩ (st0 a s) (acts.take (k + 1))))[j]? = some u → Z15x3.cell? ⟨(q4 + 1 + 1), j, none⟩ = some u) := Lib.hid (by
     intro j u hj
     rw [HX.out] at hj
     rcases j with _ | _ | _ | _ | _ | _ | _ | _ | _ | _ | j
     ·simp [cSt] at hj; subst hj; exact T0
     ·simp [cSt] at hj; subst hj; exact T1
     ·simp [cSt] at hj; subst hj; exact T2
     ·simp [cSt] at hj; subst hj; exact T3
     ·simp [cSt] at hj; subst hj; exact T4
     ·simp [cSt] at hj; subst hj; exact T5
     ·simp [cSt] at hj; subst hj; exact T6
     ·simp [cSt] at hj; subst hj; exact T7
     ·simp [cSt] at hj; subst hj; exact T8
     ·simp [cSt] at hj; subst hj; exact T9
     ·simp [cSt] at hj)
    have hTf : Hid (∀ j, j < 10 → Z15x3.frozen? ⟨(q4 + 1 + 1), j, none⟩ = false) := Lib.hid (by
     intro j hj
     rcases j with _ | _ | _ | _ | _ | _ | _ | _ | _ | _ | j
     ·exact fT0
     ·exact fT1
     ·exact fT2
     ·exact fT3
     ·exact fT4
     ·exact fT5
     ·exact fT6
     ·exact fT7
     ·exact fT8
     ·exact fT9
     ·omega)
    have hob2 : Hid (∀ g, (Value.slice (some ⟨g5, 0, none⟩) (k + 1) c5).ownBlock = some g → g ≠ (q4 + 1 + 1)) := Lib.hid (by intro g hg; have e9 : g5 = g := (by simpa [Value.ownBlock] using hg); omega)
    have hb5 := Lib.hid (And.intro b0 (And.intro b1 (And.intro b2 (And.intro b3 b4))))
    clear hHeld hL hBW hol hob T0 fT0 X0 T1 fT1 X1 T2 fT2 X2 T3 fT3 X3 T4 fT4 X4 T5 fT5 X5 T6 fT6 X6 T7 fT7 X7 T8 fT8 X8 T9 fT9 X9 b0 b1 b2 b3 b4 nX
    go_wp2_with fail
    go_roundw
    case rel => exact ⟨k + 1, by omega, by go_num, HO, hob2, hTc, hTf, hok', hb5, hbr, nT⟩
    case measure => simp [RowKit.intOf]; omega
   ·have hEb : (E == 0) = false := by simpa using hE
    have hEc : (E != 0) = true := by simpa using hE
    have hEd : decide (E = 0) = false := decide_eq_false hE
    have hm := Lib.hid (hbad.out hE)
    clear HK hbad HO
    go_wp2_with fail
    go_ret3
    exact HP.out _ _ _ _ hbr hm.out (fun h => absurd h hE) (fun _ => rfl)
  ·obtain rfl : k = n := by omega
   have hm := Lib.hid (show MkRes ⟨xs, ys, bl, bh, ps⟩ a s acts 0 0 from .inr (.inr ⟨HR0.out.1, HR0.out.2, .inr ⟨by have := hok.out; rw [HN.out]; exact this, rfl, rfl⟩⟩))
   clear hTc hTf hok hbb
   go_wp2_with fail
   go_ret3
   exact HP.out _ _ _ _ hbr hm.out (fun _ => jown_base0 ho.out (by omega)) (fun h => absurd rfl h)

theorem rMake_any (v1 v2 v3 va : Value) (R : Cr) (a s : Int) (acts : List Ac) (w : World) (hv : CrAt w.heap.size w v1 v2 v3 R) (h1 : R.xs.length ≤ 1000000) (h2 : R.ys.length ≤ 1000000) (ha : RsAt 4 cAc w.heap.size w va acts) :
  Calls Tryz.prog 21 #[.agg (cCr v1 v2 v3 R).toArray, .agg #[.int .i64 a, .int .i64 s], va] w (MkPost w R a s acts) := by
 cases hc : crB R
 ·exact rMake_rules v1 v2 v3 va R a s acts w hv h1 h2 hc
 ·cases hs : spB a s
  ·exact rMake_sap v1 v2 v3 va R a s acts w hv h1 h2 hc hs
  ·by_cases h0 : s = 0
   ·exact rMake_none v1 v2 v3 va R a s acts w hv h1 h2 hc hs h0
   ·by_cases hn : acts.length ≤ 30
    ·exact rMake_good v1 v2 v3 va R a s acts w hv h1 h2 ha hc hs h0 hn
    ·exact rMake_long v1 v2 v3 va R a s acts w hv h1 h2 ha hc hs h0 (by omega)
end Go.Proofs.YtgklpbgdimkhaaaGreat
