/- Contracts: V13, joined. -/
import Derived.Test.YtclnfncdphfgjaaJC23
import Derived.Test.YtclnfncdphfgjaaJC25
namespace Go.Proofs.Ytclnfncdphfgjaa
open Go.RowKit Go.Lib Go.Shelf
set_option linter.unusedVariables false
set_option linter.unusedSimpArgs false
attribute [local go_sem ↓] Go.wp_at_zero Go.wp_at_succ


theorem row_get {B : Nat} {w : World} {A : Option Addr} {n c : Nat} {xs : List (Int × Int)} (h : RowAt B w (.slice A n c) xs) (k : Nat) (z : Int × Int) (hk : xs[k]? = some z) :
    ∃ g off, A = some ⟨g, off, none⟩ ∧ w.cell? ⟨g, off + k * 2, none⟩ = some (.int .i64 z.1) ∧ w.cell? ⟨g, off + (k * 2 + 1), none⟩ = some (.int .i64 z.2) ∧ w.cell? ⟨g, off + k * 2 + 1, none⟩ = some (.int .i64 z.2) := by
  obtain ⟨A', c', e, _, h⟩ := h
  injection e with e1 e2 e3
  obtain ⟨g, off, e4, h4, h5⟩ := h (by have := (List.getElem?_eq_some_iff.1 hk).1; omega)
  obtain ⟨q0, q1⟩ := h5 k z hk
  exact ⟨g, off, e1.trans e4, q0, q1, q1⟩
theorem nums_get {B : Nat} {w : World} {A : Option Addr} {n c : Nat} {xs : List Int} (h : NumsAt B w (.slice A n c) xs) (k : Nat) (z : Int) (hk : xs[k]? = some z) :
    ∃ g off, A = some ⟨g, off, none⟩ ∧ w.cell? ⟨g, off + k, none⟩ = some (.int .i64 z) := by
  obtain ⟨A', c', e, h⟩ := h
  injection e with e1 e2 e3
  obtain ⟨g, off, e4, h4, h5⟩ := h (by have := (List.getElem?_eq_some_iff.1 hk).1; omega)
  exact ⟨g, off, e1.trans e4, h5 k z hk⟩

set_option maxRecDepth 40000 in
set_option maxHeartbeats 400000 in
theorem saps_big (A B : Option Addr) (n p ca cb : Nat) (m : Int) (w : World) (hl : 120 < n ∨ ¬ 120 < n ∧ 120 < p) :
    Calls Try.prog 3 #[.slice A n ca, .int .i64 m, .slice B p cb] w fun e w' => e = .returned (.bool true) ∧ Below w.heap.size w w' := by
  have HK := Lib.hid known_any
  rcases hl with h1 | ⟨h1, h2⟩
  · have t1 : (120 : Int) < (n : Int) := by omega
    go_enter Try.func3, Try.ntmps3
    go_wp2_with fail
    refine (HK.out _).mono ?_
    rintro e W1 ⟨rfl, hb⟩
    have hB := hb
    clear hb
    go_wp2_with fail
    go_ret
    exact ⟨rfl, hB⟩
  · have t1 : ¬ (120 : Int) < (n : Int) := by omega
    have t2 : (120 : Int) < (p : Int) := by omega
    go_enter Try.func3, Try.ntmps3
    go_wp2_with fail
    refine (HK.out _).mono ?_
    rintro e W1 ⟨rfl, hb⟩
    have hB := hb
    clear hb
    go_wp2_with fail
    go_ret
    exact ⟨rfl, hB⟩

set_option maxRecDepth 40000 in
set_option maxHeartbeats 4000000 in
theorem saps_pos (vl vw : Value) (xs : List (Int × Int)) (ws : List Int) (m : Int) (w : World) (hl : RowAt w.heap.size w vl xs) (hw : NumsAt w.heap.size w vw ws) (h1 : xs.length ≤ 120) (h2 : ws.length ≤ 120) (h0 : 0 < xs.length) :
    Calls Try.prog 3 #[vl, .int .i64 m, vw] w fun e w' => e = .returned (.bool true) ∧ Below w.heap.size w w' := by

  have HKn := Lib.hid known_any
  obtain ⟨n, hn⟩ : ∃ n, xs.length = n := ⟨_, rfl⟩
  obtain ⟨p, hp⟩ : ∃ p, ws.length = p := ⟨_, rfl⟩
  obtain ⟨A, c, rfl⟩ := row_slice hl
  obtain ⟨B, d, rfl⟩ := nums_slice hw
  rw [hn] at h1 hl ⊢
  rw [hp] at h2 hw ⊢
  have HA := Lib.hid (fun (W : World) (h : Below w.heap.size w W) => (hl.below h (Nat.le_refl _)).mono h.size)
  have HN := Lib.hid (fun (W : World) (h : Below w.heap.size w W) => (hw.below h (Nat.le_refl _)).mono h.size)
  have cS := Lib.hid (fun W h => saps_l (.slice A n c) xs n hn (by omega) W h)
  have cN := Lib.hid (fun W h => nums_l (.slice B p d) ws p hp (by omega) W h)
  have cM := Lib.hid (fun v W h => mix_all v xs W h)
  have cR := Lib.hid (fun v W h => rMix_all v xs W h)
  have Hn := Lib.hid hn
  have Hp := Lib.hid hp
  clear hl hw hn hp
  obtain ⟨a1, ha1⟩ : ∃ a1, (mxV xs).1 = a1 := ⟨_, rfl⟩
  obtain ⟨a2, ha2⟩ : ∃ a2, (mxV xs).2 = a2 := ⟨_, rfl⟩
  obtain ⟨er, her⟩ : ∃ er, mxE xs = er := ⟨_, rfl⟩
  rw [ha1, ha2, her] at cM cR
  clear ha1 ha2 her
  have t1 : ¬ (120 : Int) < (n : Int) := by omega
  have t2 : ¬ (120 : Int) < (p : Int) := by omega

  obtain ⟨gA, off, rfl, hgA, hrA⟩ : ∃ g off, A = some ⟨g, off, none⟩ ∧ g < w.heap.size ∧ RRd w g off xs := by
    obtain ⟨A', c', e, _, h⟩ := HA.out w (Below.refl _ _)
    injection e with e1 e2 e3
    obtain ⟨g, off, e4, h4, h5⟩ := h h0
    exact ⟨g, off, e1.trans e4, h4, h5⟩
  obtain ⟨⟨a0, s0⟩, hx0⟩ : ∃ q, xs[0]? = some q := ⟨_, List.getElem?_eq_getElem h0⟩
  have HC : Hid (∀ W : World, Below w.heap.size w W → W.cell? ⟨gA, off, none⟩ = some (.int .i64 a0) ∧ W.cell? ⟨gA, off + 1, none⟩ = some (.int .i64 s0)) := Lib.hid (fun W h => by
    obtain ⟨q0, q1⟩ := (hrA.below h hgA) 0 _ hx0
    simp only [Nat.zero_mul, Nat.add_zero, Nat.zero_add] at q0 q1
    exact ⟨q0, q1⟩)
  have t0 : (0 : Int) < (n : Int) := by have := Hn.out; omega
  clear hrA hx0

  have cD := Lib.hid (draw_all a0 s0 m)
  have cE := Lib.hid (rDraw_all a0 s0 m)
  obtain ⟨⟨d1, u1, l1, r1⟩, hdr⟩ : ∃ q, drV a0 s0 m = q := ⟨_, rfl⟩
  obtain ⟨ed, hed⟩ : ∃ q, drE a0 s0 m = q := ⟨_, rfl⟩
  rw [hdr, hed] at cD cE
  simp only [vDr] at cD cE
  clear hdr hed
  obtain ⟨np, hnp⟩ : ∃ q, (spV a0 s0 ws).length = q := ⟨_, rfl⟩
  obtain ⟨nu, hnu⟩ : ∃ q, (shV m ws).length = q := ⟨_, rfl⟩
  have cP := Lib.hid (fun (v : Value) (W : World) (h : NumsAt W.heap.size W v ws) => (split_all a0 s0 ws v W (by have := Hp.out; omega) h).mono (fun e w' h => sp_l hnp h))
  have cQ := Lib.hid (fun (v : Value) (W : World) (h : NumsAt W.heap.size W v ws) => (rSplit_all a0 s0 ws v W (by have := Hp.out; omega) h).mono (fun e w' h => sp_l hnp h))
  have cU := Lib.hid (fun (v : Value) (W : World) (h : NumsAt W.heap.size W v ws) => (share_any m ws v W (by have := Hp.out; omega) h).mono (fun e w' h => sh_l hnu h))
  have cV := Lib.hid (fun (v : Value) (W : World) (h : NumsAt W.heap.size W v ws) => (rShare_any m ws v W (by have := Hp.out; omega) h).mono (fun e w' h => sh_l hnu h))
  have Hnp := Lib.hid hnp
  have Hnu := Lib.hid hnu
  clear hnp hnu
  generalize spV a0 s0 ws = pv at *
  generalize spE a0 s0 ws = ep at *
  generalize shV m ws = uv at *
  generalize shE m ws = eu at *
  go_enter Try.func3, Try.ntmps3
  have hA := Below.refl w.heap.size w
  have hN := Below.refl w.heap.size w
  go_wp2_with fail
  refine (cS.out _ (HA.out _ hA)).mono ?_
  rintro e W1 ⟨AI, cI, rfl, hI', hb⟩
  replace hA := hA.trans (hb.mono hA.size)
  replace hN := hN.trans (hb.mono hN.size)
  have hB := hb
  clear hb
  have HI := Lib.hid (fun (W : World) (h : Below W1.heap.size W1 W) => (hI'.below h (Nat.le_refl _)).mono h.size)
  have hI := Below.refl W1.heap.size W1
  clear hI'
  go_wp2_with fail
  refine (cN.out _ (HN.out _ hN)).mono ?_
  rintro e W2 ⟨AW, cW, rfl, hW', hb⟩
  replace hA := hA.trans (hb.mono hA.size)
  replace hN := hN.trans (hb.mono hN.size)
  replace hI := hI.trans (hb.mono hI.size)
  replace hB := hB.trans (hb.mono hB.size)
  clear hb
  have HW := Lib.hid (fun (W : World) (h : Below W2.heap.size W2 W) => (hW'.below h (Nat.le_refl _)).mono h.size)
  have hW := Below.refl W2.heap.size W2
  clear hW'
  go_wp2_with fail
  refine (cM.out _ _ (HI.out _ hI)).mono ?_
  rintro e W3 ⟨rfl, hb⟩
  replace hA := hA.trans (hb.mono hA.size)
  replace hN := hN.trans (hb.mono hN.size)
  replace hI := hI.trans (hb.mono hI.size)
  replace hW := hW.trans (hb.mono hW.size)
  replace hB := hB.trans (hb.mono hB.size)
  clear hb
  go_wp2_with fail
  have hb : Below W3.heap.size W3 (W3.alloc (Obj.cells #[.int .i64 a1, .int .i64 a2] 28)) := ((Below.refl _ _).alloc (Nat.le_refl _) _)
  replace hA := hA.trans (hb.mono hA.size)
  replace hN := hN.trans (hb.mono hN.size)
  replace hI := hI.trans (hb.mono hI.size)
  replace hW := hW.trans (hb.mono hW.size)
  have Ma0 : (W3.alloc (Obj.cells #[.int .i64 a1, .int .i64 a2] 28)).cell? ⟨W3.heap.size, 0, none⟩ = some (.int .i64 a1) := by simp [go_sem]
  have Ma1 : (W3.alloc (Obj.cells #[.int .i64 a1, .int .i64 a2] 28)).cell? ⟨W3.heap.size, 1, none⟩ = some (.int .i64 a2) := by simp [go_sem]
  have nMa : W3.heap.size < (W3.alloc (Obj.cells #[.int .i64 a1, .int .i64 a2] 28)).heap.size := by simp <;> omega
  replace hB := hB.trans (hb.mono hB.size)
  clear hb
  generalize (W3.alloc (Obj.cells #[.int .i64 a1, .int .i64 a2] 28)) = W4 at *
  generalize W3.heap.size = q4 at *
  refine (cR.out _ _ (HA.out _ hA)).mono ?_
  rintro e W5 ⟨rfl, hb⟩
  replace hA := hA.trans (hb.mono hA.size)
  replace hN := hN.trans (hb.mono hN.size)
  replace hI := hI.trans (hb.mono hI.size)
  replace hW := hW.trans (hb.mono hW.size)
  replace Ma0 := cell_next hb nMa Ma0
  replace Ma1 := cell_next hb nMa Ma1
  replace nMa := Nat.lt_of_lt_of_le nMa hb.size
  replace hB := hB.trans (hb.mono hB.size)
  clear hb
  have hz9 := hB.size
  have x0 : ∀ o o' : Obj, ((W5.alloc o).alloc o').cell? ⟨gA, off, none⟩ = some (.int .i64 a0) := fun o o' => (HC.out _ ((hB.alloc hB.size o).alloc (by simp; omega) o')).1
  have x1 : ∀ o o' : Obj, ((W5.alloc o).alloc o').cell? ⟨gA, off + 1, none⟩ = some (.int .i64 s0) := fun o o' => (HC.out _ ((hB.alloc hB.size o).alloc (by simp; omega) o')).2
  go_wp2_with fail
  have hb : Below W5.heap.size W5 ((W5.alloc (Obj.cells #[.int .i64 a1, .int .i64 a2] 28)).alloc (Obj.cells #[.int .i64 a0, .int .i64 s0] 28)) := (((Below.refl _ _).alloc (Nat.le_refl _) _).alloc (by simp <;> omega) _)
  replace hA := hA.trans (hb.mono hA.size)
  replace hN := hN.trans (hb.mono hN.size)
  replace hI := hI.trans (hb.mono hI.size)
  replace hW := hW.trans (hb.mono hW.size)
  replace Ma0 := cell_next hb nMa Ma0
  replace Ma1 := cell_next hb nMa Ma1
  replace nMa := Nat.lt_of_lt_of_le nMa hb.size
  have Mb0 : ((W5.alloc (Obj.cells #[.int .i64 a1, .int .i64 a2] 28)).alloc (Obj.cells #[.int .i64 a0, .int .i64 s0] 28)).cell? ⟨W5.heap.size, 0, none⟩ = some (.int .i64 a1) := by simp [go_sem]
  have Mb1 : ((W5.alloc (Obj.cells #[.int .i64 a1, .int .i64 a2] 28)).alloc (Obj.cells #[.int .i64 a0, .int .i64 s0] 28)).cell? ⟨W5.heap.size, 1, none⟩ = some (.int .i64 a2) := by simp [go_sem]
  have nMb : W5.heap.size < ((W5.alloc (Obj.cells #[.int .i64 a1, .int .i64 a2] 28)).alloc (Obj.cells #[.int .i64 a0, .int .i64 s0] 28)).heap.size := by simp <;> omega
  have S0 : ((W5.alloc (Obj.cells #[.int .i64 a1, .int .i64 a2] 28)).alloc (Obj.cells #[.int .i64 a0, .int .i64 s0] 28)).cell? ⟨W5.heap.size + 1, 0, none⟩ = some (.int .i64 a0) := by simp [go_sem]
  have S1 : ((W5.alloc (Obj.cells #[.int .i64 a1, .int .i64 a2] 28)).alloc (Obj.cells #[.int .i64 a0, .int .i64 s0] 28)).cell? ⟨W5.heap.size + 1, 1, none⟩ = some (.int .i64 s0) := by simp [go_sem]
  have nS : W5.heap.size + 1 < ((W5.alloc (Obj.cells #[.int .i64 a1, .int .i64 a2] 28)).alloc (Obj.cells #[.int .i64 a0, .int .i64 s0] 28)).heap.size := by simp <;> omega
  replace hB := hB.trans (hb.mono hB.size)
  clear hb
  generalize ((W5.alloc (Obj.cells #[.int .i64 a1, .int .i64 a2] 28)).alloc (Obj.cells #[.int .i64 a0, .int .i64 s0] 28)) = W6 at *
  generalize W5.heap.size = q6 at *
  clear x0 x1
  refine (cD.out _).mono ?_
  rintro e W7 ⟨rfl, hb⟩
  replace hA := hA.trans (hb.mono hA.size)
  replace hN := hN.trans (hb.mono hN.size)
  replace hI := hI.trans (hb.mono hI.size)
  replace hW := hW.trans (hb.mono hW.size)
  replace Ma0 := cell_next hb nMa Ma0
  replace Ma1 := cell_next hb nMa Ma1
  replace nMa := Nat.lt_of_lt_of_le nMa hb.size
  replace Mb0 := cell_next hb nMb Mb0
  replace Mb1 := cell_next hb nMb Mb1
  replace nMb := Nat.lt_of_lt_of_le nMb hb.size
  replace S0 := cell_next hb nS S0
  replace S1 := cell_next hb nS S1
  replace nS := Nat.lt_of_lt_of_le nS hb.size
  replace hB := hB.trans (hb.mono hB.size)
  clear hb
  go_wp2_with fail
  have hb : Below W7.heap.size W7 ((W7.alloc (Obj.cells #[.int .i64 d1, .int .i64 u1] 28)).alloc (Obj.cells #[.int .i64 l1, .int .i64 r1] 28)) := (((Below.refl _ _).alloc (Nat.le_refl _) _).alloc (by simp <;> omega) _)
  replace hA := hA.trans (hb.mono hA.size)
  replace hN := hN.trans (hb.mono hN.size)
  replace hI := hI.trans (hb.mono hI.size)
  replace hW := hW.trans (hb.mono hW.size)
  replace Ma0 := cell_next hb nMa Ma0
  replace Ma1 := cell_next hb nMa Ma1
  replace nMa := Nat.lt_of_lt_of_le nMa hb.size
  replace Mb0 := cell_next hb nMb Mb0
  replace Mb1 := cell_next hb nMb Mb1
  replace nMb := Nat.lt_of_lt_of_le nMb hb.size
  replace S0 := cell_next hb nS S0
  replace S1 := cell_next hb nS S1
  replace nS := Nat.lt_of_lt_of_le nS hb.size
  have Da0 : ((W7.alloc (Obj.cells #[.int .i64 d1, .int .i64 u1] 28)).alloc (Obj.cells #[.int .i64 l1, .int .i64 r1] 28)).cell? ⟨W7.heap.size, 0, none⟩ = some (.int .i64 d1) := by simp [go_sem]
  have Da1 : ((W7.alloc (Obj.cells #[.int .i64 d1, .int .i64 u1] 28)).alloc (Obj.cells #[.int .i64 l1, .int .i64 r1] 28)).cell? ⟨W7.heap.size, 1, none⟩ = some (.int .i64 u1) := by simp [go_sem]
  have nDa : W7.heap.size < ((W7.alloc (Obj.cells #[.int .i64 d1, .int .i64 u1] 28)).alloc (Obj.cells #[.int .i64 l1, .int .i64 r1] 28)).heap.size := by simp <;> omega
  have La0 : ((W7.alloc (Obj.cells #[.int .i64 d1, .int .i64 u1] 28)).alloc (Obj.cells #[.int .i64 l1, .int .i64 r1] 28)).cell? ⟨W7.heap.size + 1, 0, none⟩ = some (.int .i64 l1) := by simp [go_sem]
  have La1 : ((W7.alloc (Obj.cells #[.int .i64 d1, .int .i64 u1] 28)).alloc (Obj.cells #[.int .i64 l1, .int .i64 r1] 28)).cell? ⟨W7.heap.size + 1, 1, none⟩ = some (.int .i64 r1) := by simp [go_sem]
  have nLa : W7.heap.size + 1 < ((W7.alloc (Obj.cells #[.int .i64 d1, .int .i64 u1] 28)).alloc (Obj.cells #[.int .i64 l1, .int .i64 r1] 28)).heap.size := by simp <;> omega
  replace hB := hB.trans (hb.mono hB.size)
  clear hb
  generalize ((W7.alloc (Obj.cells #[.int .i64 d1, .int .i64 u1] 28)).alloc (Obj.cells #[.int .i64 l1, .int .i64 r1] 28)) = W8 at *
  generalize W7.heap.size = q8 at *
  refine (cE.out _).mono ?_
  rintro e W9 ⟨rfl, hb⟩
  replace hA := hA.trans (hb.mono hA.size)
  replace hN := hN.trans (hb.mono hN.size)
  replace hI := hI.trans (hb.mono hI.size)
  replace hW := hW.trans (hb.mono hW.size)
  replace Ma0 := cell_next hb nMa Ma0
  replace Ma1 := cell_next hb nMa Ma1
  replace nMa := Nat.lt_of_lt_of_le nMa hb.size
  replace Mb0 := cell_next hb nMb Mb0
  replace Mb1 := cell_next hb nMb Mb1
  replace nMb := Nat.lt_of_lt_of_le nMb hb.size
  replace S0 := cell_next hb nS S0
  replace S1 := cell_next hb nS S1
  replace nS := Nat.lt_of_lt_of_le nS hb.size
  replace Da0 := cell_next hb nDa Da0
  replace Da1 := cell_next hb nDa Da1
  replace nDa := Nat.lt_of_lt_of_le nDa hb.size
  replace La0 := cell_next hb nLa La0
  replace La1 := cell_next hb nLa La1
  replace nLa := Nat.lt_of_lt_of_le nLa hb.size
  replace hB := hB.trans (hb.mono hB.size)
  clear hb
  go_wp2_with fail
  have hb : Below W9.heap.size W9 ((W9.alloc (Obj.cells #[.int .i64 d1, .int .i64 u1] 28)).alloc (Obj.cells #[.int .i64 l1, .int .i64 r1] 28)) := (((Below.refl _ _).alloc (Nat.le_refl _) _).alloc (by simp <;> omega) _)
  replace hA := hA.trans (hb.mono hA.size)
  replace hN := hN.trans (hb.mono hN.size)
  replace hI := hI.trans (hb.mono hI.size)
  replace hW := hW.trans (hb.mono hW.size)
  replace Ma0 := cell_next hb nMa Ma0
  replace Ma1 := cell_next hb nMa Ma1
  replace nMa := Nat.lt_of_lt_of_le nMa hb.size
  replace Mb0 := cell_next hb nMb Mb0
  replace Mb1 := cell_next hb nMb Mb1
  replace nMb := Nat.lt_of_lt_of_le nMb hb.size
  replace S0 := cell_next hb nS S0
  replace S1 := cell_next hb nS S1
  replace nS := Nat.lt_of_lt_of_le nS hb.size
  replace Da0 := cell_next hb nDa Da0
  replace Da1 := cell_next hb nDa Da1
  replace nDa := Nat.lt_of_lt_of_le nDa hb.size
  replace La0 := cell_next hb nLa La0
  replace La1 := cell_next hb nLa La1
  replace nLa := Nat.lt_of_lt_of_le nLa hb.size
  have Db0 : ((W9.alloc (Obj.cells #[.int .i64 d1, .int .i64 u1] 28)).alloc (Obj.cells #[.int .i64 l1, .int .i64 r1] 28)).cell? ⟨W9.heap.size, 0, none⟩ = some (.int .i64 d1) := by simp [go_sem]
  have Db1 : ((W9.alloc (Obj.cells #[.int .i64 d1, .int .i64 u1] 28)).alloc (Obj.cells #[.int .i64 l1, .int .i64 r1] 28)).cell? ⟨W9.heap.size, 1, none⟩ = some (.int .i64 u1) := by simp [go_sem]
  have nDb : W9.heap.size < ((W9.alloc (Obj.cells #[.int .i64 d1, .int .i64 u1] 28)).alloc (Obj.cells #[.int .i64 l1, .int .i64 r1] 28)).heap.size := by simp <;> omega
  have Lb0 : ((W9.alloc (Obj.cells #[.int .i64 d1, .int .i64 u1] 28)).alloc (Obj.cells #[.int .i64 l1, .int .i64 r1] 28)).cell? ⟨W9.heap.size + 1, 0, none⟩ = some (.int .i64 l1) := by simp [go_sem]
  have Lb1 : ((W9.alloc (Obj.cells #[.int .i64 d1, .int .i64 u1] 28)).alloc (Obj.cells #[.int .i64 l1, .int .i64 r1] 28)).cell? ⟨W9.heap.size + 1, 1, none⟩ = some (.int .i64 r1) := by simp [go_sem]
  have nLb : W9.heap.size + 1 < ((W9.alloc (Obj.cells #[.int .i64 d1, .int .i64 u1] 28)).alloc (Obj.cells #[.int .i64 l1, .int .i64 r1] 28)).heap.size := by simp <;> omega
  replace hB := hB.trans (hb.mono hB.size)
  clear hb
  generalize ((W9.alloc (Obj.cells #[.int .i64 d1, .int .i64 u1] 28)).alloc (Obj.cells #[.int .i64 l1, .int .i64 r1] 28)) = W10 at *
  generalize W9.heap.size = q10 at *
  refine (cP.out _ _ (HW.out _ hW)).mono ?_
  rintro e W11 ⟨AP, cP, rfl, hP', hb⟩
  replace hA := hA.trans (hb.mono hA.size)
  replace hN := hN.trans (hb.mono hN.size)
  replace hI := hI.trans (hb.mono hI.size)
  replace hW := hW.trans (hb.mono hW.size)
  replace Ma0 := cell_next hb nMa Ma0
  replace Ma1 := cell_next hb nMa Ma1
  replace nMa := Nat.lt_of_lt_of_le nMa hb.size
  replace Mb0 := cell_next hb nMb Mb0
  replace Mb1 := cell_next hb nMb Mb1
  replace nMb := Nat.lt_of_lt_of_le nMb hb.size
  replace S0 := cell_next hb nS S0
  replace S1 := cell_next hb nS S1
  replace nS := Nat.lt_of_lt_of_le nS hb.size
  replace Da0 := cell_next hb nDa Da0
  replace Da1 := cell_next hb nDa Da1
  replace nDa := Nat.lt_of_lt_of_le nDa hb.size
  replace La0 := cell_next hb nLa La0
  replace La1 := cell_next hb nLa La1
  replace nLa := Nat.lt_of_lt_of_le nLa hb.size
  replace Db0 := cell_next hb nDb Db0
  replace Db1 := cell_next hb nDb Db1
  replace nDb := Nat.lt_of_lt_of_le nDb hb.size
  replace Lb0 := cell_next hb nLb Lb0
  replace Lb1 := cell_next hb nLb Lb1
  replace nLb := Nat.lt_of_lt_of_le nLb hb.size
  replace hB := hB.trans (hb.mono hB.size)
  clear hb
  have HP := Lib.hid (fun (W : World) (h : Below W11.heap.size W11 W) => (hP'.below h (Nat.le_refl _)).mono h.size)
  have hP := Below.refl W11.heap.size W11
  clear hP'
  go_wp2_with fail
  refine (cQ.out _ _ (HN.out _ hN)).mono ?_
  rintro e W12 ⟨AQ, cQ, rfl, hQ', hb⟩
  replace hA := hA.trans (hb.mono hA.size)
  replace hN := hN.trans (hb.mono hN.size)
  replace hI := hI.trans (hb.mono hI.size)
  replace hW := hW.trans (hb.mono hW.size)
  replace hP := hP.trans (hb.mono hP.size)
  replace Ma0 := cell_next hb nMa Ma0
  replace Ma1 := cell_next hb nMa Ma1
  replace nMa := Nat.lt_of_lt_of_le nMa hb.size
  replace Mb0 := cell_next hb nMb Mb0
  replace Mb1 := cell_next hb nMb Mb1
  replace nMb := Nat.lt_of_lt_of_le nMb hb.size
  replace S0 := cell_next hb nS S0
  replace S1 := cell_next hb nS S1
  replace nS := Nat.lt_of_lt_of_le nS hb.size
  replace Da0 := cell_next hb nDa Da0
  replace Da1 := cell_next hb nDa Da1
  replace nDa := Nat.lt_of_lt_of_le nDa hb.size
  replace La0 := cell_next hb nLa La0
  replace La1 := cell_next hb nLa La1
  replace nLa := Nat.lt_of_lt_of_le nLa hb.size
  replace Db0 := cell_next hb nDb Db0
  replace Db1 := cell_next hb nDb Db1
  replace nDb := Nat.lt_of_lt_of_le nDb hb.size
  replace Lb0 := cell_next hb nLb Lb0
  replace Lb1 := cell_next hb nLb Lb1
  replace nLb := Nat.lt_of_lt_of_le nLb hb.size
  replace hB := hB.trans (hb.mono hB.size)
  clear hb
  have HQ := Lib.hid (fun (W : World) (h : Below W12.heap.size W12 W) => (hQ'.below h (Nat.le_refl _)).mono h.size)
  have hQ := Below.refl W12.heap.size W12
  clear hQ'
  go_wp2_with fail
  refine (cU.out _ _ (HW.out _ hW)).mono ?_
  rintro e W13 ⟨AU, cU, rfl, hU', hb⟩
  replace hA := hA.trans (hb.mono hA.size)
  replace hN := hN.trans (hb.mono hN.size)
  replace hI := hI.trans (hb.mono hI.size)
  replace hW := hW.trans (hb.mono hW.size)
  replace hP := hP.trans (hb.mono hP.size)
  replace hQ := hQ.trans (hb.mono hQ.size)
  replace Ma0 := cell_next hb nMa Ma0
  replace Ma1 := cell_next hb nMa Ma1
  replace nMa := Nat.lt_of_lt_of_le nMa hb.size
  replace Mb0 := cell_next hb nMb Mb0
  replace Mb1 := cell_next hb nMb Mb1
  replace nMb := Nat.lt_of_lt_of_le nMb hb.size
  replace S0 := cell_next hb nS S0
  replace S1 := cell_next hb nS S1
  replace nS := Nat.lt_of_lt_of_le nS hb.size
  replace Da0 := cell_next hb nDa Da0
  replace Da1 := cell_next hb nDa Da1
  replace nDa := Nat.lt_of_lt_of_le nDa hb.size
  replace La0 := cell_next hb nLa La0
  replace La1 := cell_next hb nLa La1
  replace nLa := Nat.lt_of_lt_of_le nLa hb.size
  replace Db0 := cell_next hb nDb Db0
  replace Db1 := cell_next hb nDb Db1
  replace nDb := Nat.lt_of_lt_of_le nDb hb.size
  replace Lb0 := cell_next hb nLb Lb0
  replace Lb1 := cell_next hb nLb Lb1
  replace nLb := Nat.lt_of_lt_of_le nLb hb.size
  replace hB := hB.trans (hb.mono hB.size)
  clear hb
  have HU := Lib.hid (fun (W : World) (h : Below W13.heap.size W13 W) => (hU'.below h (Nat.le_refl _)).mono h.size)
  have hU := Below.refl W13.heap.size W13
  clear hU'
  go_wp2_with fail
  refine (cV.out _ _ (HN.out _ hN)).mono ?_
  rintro e W14 ⟨AV, cV, rfl, hV', hb⟩
  replace hA := hA.trans (hb.mono hA.size)
  replace hN := hN.trans (hb.mono hN.size)
  replace hI := hI.trans (hb.mono hI.size)
  replace hW := hW.trans (hb.mono hW.size)
  replace hP := hP.trans (hb.mono hP.size)
  replace hQ := hQ.trans (hb.mono hQ.size)
  replace hU := hU.trans (hb.mono hU.size)
  replace Ma0 := cell_next hb nMa Ma0
  replace Ma1 := cell_next hb nMa Ma1
  replace nMa := Nat.lt_of_lt_of_le nMa hb.size
  replace Mb0 := cell_next hb nMb Mb0
  replace Mb1 := cell_next hb nMb Mb1
  replace nMb := Nat.lt_of_lt_of_le nMb hb.size
  replace S0 := cell_next hb nS S0
  replace S1 := cell_next hb nS S1
  replace nS := Nat.lt_of_lt_of_le nS hb.size
  replace Da0 := cell_next hb nDa Da0
  replace Da1 := cell_next hb nDa Da1
  replace nDa := Nat.lt_of_lt_of_le nDa hb.size
  replace La0 := cell_next hb nLa La0
  replace La1 := cell_next hb nLa La1
  replace nLa := Nat.lt_of_lt_of_le nLa hb.size
  replace Db0 := cell_next hb nDb Db0
  replace Db1 := cell_next hb nDb Db1
  replace nDb := Nat.lt_of_lt_of_le nDb hb.size
  replace Lb0 := cell_next hb nLb Lb0
  replace Lb1 := cell_next hb nLb Lb1
  replace nLb := Nat.lt_of_lt_of_le nLb hb.size
  replace hB := hB.trans (hb.mono hB.size)
  clear hb
  have HV := Lib.hid (fun (W : World) (h : Below W14.heap.size W14 W) => (hV'.below h (Nat.le_refl _)).mono h.size)
  have hV := Below.refl W14.heap.size W14
  clear hV'
  go_wp2_with fail
  have GI := Lib.hid (fun (W : World) (h : Below W14.heap.size W14 W) (k : Nat) (z : Int × Int) hk => row_get (HI.out W (hI.trans (h.mono hI.size))) k z hk)
  have GA := Lib.hid (fun (W : World) (h : Below W14.heap.size W14 W) (k : Nat) (z : Int × Int) hk => row_get (HA.out W (hA.trans (h.mono hA.size))) k z hk)
  have GP := Lib.hid (fun (W : World) (h : Below W14.heap.size W14 W) (k : Nat) (z : Int × Int) hk => row_get (HP.out W (hP.trans (h.mono hP.size))) k z hk)
  have GQ := Lib.hid (fun (W : World) (h : Below W14.heap.size W14 W) (k : Nat) (z : Int × Int) hk => row_get (HQ.out W (hQ.trans (h.mono hQ.size))) k z hk)
  have GN := Lib.hid (fun (W : World) (h : Below W14.heap.size W14 W) (k : Nat) (z : Int) hk => nums_get (HN.out W (hN.trans (h.mono hN.size))) k z hk)
  have GW := Lib.hid (fun (W : World) (h : Below W14.heap.size W14 W) (k : Nat) (z : Int) hk => nums_get (HW.out W (hW.trans (h.mono hW.size))) k z hk)
  have GU := Lib.hid (fun (W : World) (h : Below W14.heap.size W14 W) (k : Nat) (z : Int) hk => nums_get (HU.out W (hU.trans (h.mono hU.size))) k z hk)
  have GV := Lib.hid (fun (W : World) (h : Below W14.heap.size W14 W) (k : Nat) (z : Int) hk => nums_get (HV.out W (hV.trans (h.mono hV.size))) k z hk)
  clear HI hI HA hA HN hN HW hW HP hP HQ hQ HU hU HV hV
  clear Ma0 Ma1 nMa Mb0 Mb1 nMb S0 S1 nS Da0 Da1 nDa La0 La1 nLa Db0 Db1 nDb Lb0 Lb1 nLb hz9
  go_loopw [26] (fun i wr => ∃ k : Nat, k ≤ n ∧ i = .int .i64 k ∧ Below W14.heap.size W14 wr) (fun i _ => n - (RowKit.intOf i).toNat)
  case atStart => exact ⟨0, Nat.zero_le _, rfl, Below.refl _ _⟩
  case round =>
    obtain ⟨k, hk, rfl, hbr⟩ := hrel
    by_cases hlt : (k : Int) < (n : Int)
    · obtain ⟨⟨x, y⟩, hxy⟩ : ∃ z, xs[k]? = some z := ⟨_, List.getElem?_eq_getElem (by rw [Hn.out]; omega)⟩
      obtain ⟨g1, o1, rfl, i0, i1, i1'⟩ := GI.out _ hbr k _ hxy
      obtain ⟨g2, o2, e2, j0, j1, j1'⟩ := GA.out _ hbr k _ hxy
      injection e2 with e2; injection e2 with e2a e2b; subst e2a; subst e2b
      dsimp only at i0 i1 i1' j0 j1 j1'
      clear hxy
      go_wp2_with fail
      go_quiet (fail)
      have hb2 := below_drewN hbr nq
      clear i0 i1 i1' j0 j1 j1'
      go_wp2_with fail
      go_roundw
      case rel => exact ⟨k + 1, by omega, by go_num, hb2⟩
      case measure => simp [RowKit.intOf]; omega
    · clear GI GA
      generalize wr = wz at *
      go_wp2_with fail
      clear hlt hk
      go_loopw [27] (fun i wr => ∃ k : Nat, k ≤ p ∧ i = .int .i64 k ∧ Below W14.heap.size W14 wr) (fun i _ => p - (RowKit.intOf i).toNat)
      case atStart => exact ⟨0, Nat.zero_le _, rfl, hbr⟩
      case round =>
        clear hbr
        obtain ⟨k, hk, rfl, hbr⟩ := hrel
        by_cases hlt : (k : Int) < (p : Int)
        · obtain ⟨z, hz⟩ : ∃ z, ws[k]? = some z := ⟨_, List.getElem?_eq_getElem (by rw [Hp.out]; omega)⟩
          obtain ⟨g1, o1, rfl, i0⟩ := GW.out _ hbr k _ hz
          obtain ⟨g2, o2, rfl, j0⟩ := GN.out _ hbr k _ hz
          clear hz
          by_cases hk1 : k < np
          · obtain ⟨⟨x, y⟩, hxy⟩ : ∃ z, pv[k]? = some z := ⟨_, List.getElem?_eq_getElem (by rw [Hnp.out]; omega)⟩
            obtain ⟨g3, o3, rfl, x0, x1, x1'⟩ := GP.out _ hbr k _ hxy
            obtain ⟨g4, o4, rfl, y0, y1, y1'⟩ := GQ.out _ hbr k _ hxy
            dsimp only at x0 x1 x1' y0 y1 y1'
            have s1 : (k : Int) < (np : Int) := by omega
            have s1' : decide ((k : Int) < (np : Int)) = true := decide_eq_true s1
            clear hxy
            by_cases hk2 : k < nu
            · obtain ⟨u, hu⟩ : ∃ z, uv[k]? = some z := ⟨_, List.getElem?_eq_getElem (by rw [Hnu.out]; omega)⟩
              obtain ⟨g5, o5, rfl, u0⟩ := GU.out _ hbr k _ hu
              obtain ⟨g6, o6, rfl, v0⟩ := GV.out _ hbr k _ hu
              have s2 : (k : Int) < (nu : Int) := by omega
              have s2' : decide ((k : Int) < (nu : Int)) = true := decide_eq_true s2
              clear hu
              go_wp2_with fail
              go_quiet (fail)
              have hb2 := below_drewN hbr nq
              go_wp2_with fail
              go_roundw
              case rel => exact ⟨k + 1, by omega, by go_num, hb2⟩
              case measure => simp [RowKit.intOf]; omega
            · have s2 : ¬ (k : Int) < (nu : Int) := by omega
              have s2' : decide ((k : Int) < (nu : Int)) = false := decide_eq_false s2
              go_wp2_with fail
              go_quiet (fail)
              have hb2 := below_drewN hbr nq
              go_wp2_with fail
              go_roundw
              case rel => exact ⟨k + 1, by omega, by go_num, hb2⟩
              case measure => simp [RowKit.intOf]; omega
          · have s1 : ¬ (k : Int) < (np : Int) := by omega
            have s1' : decide ((k : Int) < (np : Int)) = false := decide_eq_false s1
            by_cases hk2 : k < nu
            · obtain ⟨u, hu⟩ : ∃ z, uv[k]? = some z := ⟨_, List.getElem?_eq_getElem (by rw [Hnu.out]; omega)⟩
              obtain ⟨g5, o5, rfl, u0⟩ := GU.out _ hbr k _ hu
              obtain ⟨g6, o6, rfl, v0⟩ := GV.out _ hbr k _ hu
              have s2 : (k : Int) < (nu : Int) := by omega
              have s2' : decide ((k : Int) < (nu : Int)) = true := decide_eq_true s2
              clear hu
              go_wp2_with fail
              go_quiet (fail)
              have hb2 := below_drewN hbr nq
              go_wp2_with fail
              go_roundw
              case rel => exact ⟨k + 1, by omega, by go_num, hb2⟩
              case measure => simp [RowKit.intOf]; omega
            · have s2 : ¬ (k : Int) < (nu : Int) := by omega
              have s2' : decide ((k : Int) < (nu : Int)) = false := decide_eq_false s2
              go_wp2_with fail
              go_quiet (fail)
              have hb2 := below_drewN hbr nq
              go_wp2_with fail
              go_roundw
              case rel => exact ⟨k + 1, by omega, by go_num, hb2⟩
              case measure => simp [RowKit.intOf]; omega
        · go_wp2_with fail
          refine (HKn.out _).mono ?_
          rintro e wk ⟨rfl, hbk⟩
          have hB9 := hB.trans ((hbr.trans (hbk.mono hbr.size)).mono hB.size)
          go_wp2_with fail
          go_ret
          exact ⟨rfl, hB9⟩

set_option maxRecDepth 40000 in
set_option maxHeartbeats 4000000 in
theorem saps_zero (vl vw : Value) (xs : List (Int × Int)) (ws : List Int) (m : Int) (w : World) (hl : RowAt w.heap.size w vl xs) (hw : NumsAt w.heap.size w vw ws) (h1 : xs.length ≤ 120) (h2 : ws.length ≤ 120) (h0 : xs.length = 0) :
    Calls Try.prog 3 #[vl, .int .i64 m, vw] w fun e w' => e = .returned (.bool true) ∧ Below w.heap.size w w' := by

  have HKn := Lib.hid known_any
  obtain ⟨n, hn⟩ : ∃ n, xs.length = n := ⟨_, rfl⟩
  obtain ⟨p, hp⟩ : ∃ p, ws.length = p := ⟨_, rfl⟩
  obtain ⟨A, c, rfl⟩ := row_slice hl
  obtain ⟨B, d, rfl⟩ := nums_slice hw
  rw [hn] at h1 hl ⊢
  rw [hp] at h2 hw ⊢
  have HA := Lib.hid (fun (W : World) (h : Below w.heap.size w W) => (hl.below h (Nat.le_refl _)).mono h.size)
  have HN := Lib.hid (fun (W : World) (h : Below w.heap.size w W) => (hw.below h (Nat.le_refl _)).mono h.size)
  have cS := Lib.hid (fun W h => saps_l (.slice A n c) xs n hn (by omega) W h)
  have cN := Lib.hid (fun W h => nums_l (.slice B p d) ws p hp (by omega) W h)
  have cM := Lib.hid (fun v W h => mix_all v xs W h)
  have cR := Lib.hid (fun v W h => rMix_all v xs W h)
  have Hn := Lib.hid hn
  have Hp := Lib.hid hp
  clear hl hw hn hp
  obtain ⟨a1, ha1⟩ : ∃ a1, (mxV xs).1 = a1 := ⟨_, rfl⟩
  obtain ⟨a2, ha2⟩ : ∃ a2, (mxV xs).2 = a2 := ⟨_, rfl⟩
  obtain ⟨er, her⟩ : ∃ er, mxE xs = er := ⟨_, rfl⟩
  rw [ha1, ha2, her] at cM cR
  clear ha1 ha2 her
  have t1 : ¬ (120 : Int) < (n : Int) := by omega
  have t2 : ¬ (120 : Int) < (p : Int) := by omega
  have t0 : ¬ (0 : Int) < (n : Int) := by have := Hn.out; omega

  have cD := Lib.hid (draw_all 0 0 m)
  have cE := Lib.hid (rDraw_all 0 0 m)
  obtain ⟨⟨d1, u1, l1, r1⟩, hdr⟩ : ∃ q, drV 0 0 m = q := ⟨_, rfl⟩
  obtain ⟨ed, hed⟩ : ∃ q, drE 0 0 m = q := ⟨_, rfl⟩
  rw [hdr, hed] at cD cE
  simp only [vDr] at cD cE
  clear hdr hed
  obtain ⟨np, hnp⟩ : ∃ q, (spV 0 0 ws).length = q := ⟨_, rfl⟩
  obtain ⟨nu, hnu⟩ : ∃ q, (shV m ws).length = q := ⟨_, rfl⟩
  have cP := Lib.hid (fun (v : Value) (W : World) (h : NumsAt W.heap.size W v ws) => (split_all 0 0 ws v W (by have := Hp.out; omega) h).mono (fun e w' h => sp_l hnp h))
  have cQ := Lib.hid (fun (v : Value) (W : World) (h : NumsAt W.heap.size W v ws) => (rSplit_all 0 0 ws v W (by have := Hp.out; omega) h).mono (fun e w' h => sp_l hnp h))
  have cU := Lib.hid (fun (v : Value) (W : World) (h : NumsAt W.heap.size W v ws) => (share_any m ws v W (by have := Hp.out; omega) h).mono (fun e w' h => sh_l hnu h))
  have cV := Lib.hid (fun (v : Value) (W : World) (h : NumsAt W.heap.size W v ws) => (rShare_any m ws v W (by have := Hp.out; omega) h).mono (fun e w' h => sh_l hnu h))
  have Hnp := Lib.hid hnp
  have Hnu := Lib.hid hnu
  clear hnp hnu
  generalize spV 0 0 ws = pv at *
  generalize spE 0 0 ws = ep at *
  generalize shV m ws = uv at *
  generalize shE m ws = eu at *
  go_enter Try.func3, Try.ntmps3
  have hA := Below.refl w.heap.size w
  have hN := Below.refl w.heap.size w
  go_wp2_with fail
  refine (cS.out _ (HA.out _ hA)).mono ?_
  rintro e W1 ⟨AI, cI, rfl, hI', hb⟩
  replace hA := hA.trans (hb.mono hA.size)
  replace hN := hN.trans (hb.mono hN.size)
  have hB := hb
  clear hb
  have HI := Lib.hid (fun (W : World) (h : Below W1.heap.size W1 W) => (hI'.below h (Nat.le_refl _)).mono h.size)
  have hI := Below.refl W1.heap.size W1
  clear hI'
  go_wp2_with fail
  refine (cN.out _ (HN.out _ hN)).mono ?_
  rintro e W2 ⟨AW, cW, rfl, hW', hb⟩
  replace hA := hA.trans (hb.mono hA.size)
  replace hN := hN.trans (hb.mono hN.size)
  replace hI := hI.trans (hb.mono hI.size)
  replace hB := hB.trans (hb.mono hB.size)
  clear hb
  have HW := Lib.hid (fun (W : World) (h : Below W2.heap.size W2 W) => (hW'.below h (Nat.le_refl _)).mono h.size)
  have hW := Below.refl W2.heap.size W2
  clear hW'
  go_wp2_with fail
  refine (cM.out _ _ (HI.out _ hI)).mono ?_
  rintro e W3 ⟨rfl, hb⟩
  replace hA := hA.trans (hb.mono hA.size)
  replace hN := hN.trans (hb.mono hN.size)
  replace hI := hI.trans (hb.mono hI.size)
  replace hW := hW.trans (hb.mono hW.size)
  replace hB := hB.trans (hb.mono hB.size)
  clear hb
  go_wp2_with fail
  have hb : Below W3.heap.size W3 (W3.alloc (Obj.cells #[.int .i64 a1, .int .i64 a2] 28)) := ((Below.refl _ _).alloc (Nat.le_refl _) _)
  replace hA := hA.trans (hb.mono hA.size)
  replace hN := hN.trans (hb.mono hN.size)
  replace hI := hI.trans (hb.mono hI.size)
  replace hW := hW.trans (hb.mono hW.size)
  have Ma0 : (W3.alloc (Obj.cells #[.int .i64 a1, .int .i64 a2] 28)).cell? ⟨W3.heap.size, 0, none⟩ = some (.int .i64 a1) := by simp [go_sem]
  have Ma1 : (W3.alloc (Obj.cells #[.int .i64 a1, .int .i64 a2] 28)).cell? ⟨W3.heap.size, 1, none⟩ = some (.int .i64 a2) := by simp [go_sem]
  have nMa : W3.heap.size < (W3.alloc (Obj.cells #[.int .i64 a1, .int .i64 a2] 28)).heap.size := by simp <;> omega
  replace hB := hB.trans (hb.mono hB.size)
  clear hb
  generalize (W3.alloc (Obj.cells #[.int .i64 a1, .int .i64 a2] 28)) = W4 at *
  generalize W3.heap.size = q4 at *
  refine (cR.out _ _ (HA.out _ hA)).mono ?_
  rintro e W5 ⟨rfl, hb⟩
  replace hA := hA.trans (hb.mono hA.size)
  replace hN := hN.trans (hb.mono hN.size)
  replace hI := hI.trans (hb.mono hI.size)
  replace hW := hW.trans (hb.mono hW.size)
  replace Ma0 := cell_next hb nMa Ma0
  replace Ma1 := cell_next hb nMa Ma1
  replace nMa := Nat.lt_of_lt_of_le nMa hb.size
  replace hB := hB.trans (hb.mono hB.size)
  clear hb
  go_wp2_with fail
  have hb : Below W5.heap.size W5 ((W5.alloc (Obj.cells #[.int .i64 a1, .int .i64 a2] 28)).alloc (Obj.cells #[.int .i64 0, .int .i64 0] 28)) := (((Below.refl _ _).alloc (Nat.le_refl _) _).alloc (by simp <;> omega) _)
  replace hA := hA.trans (hb.mono hA.size)
  replace hN := hN.trans (hb.mono hN.size)
  replace hI := hI.trans (hb.mono hI.size)
  replace hW := hW.trans (hb.mono hW.size)
  replace Ma0 := cell_next hb nMa Ma0
  replace Ma1 := cell_next hb nMa Ma1
  replace nMa := Nat.lt_of_lt_of_le nMa hb.size
  have Mb0 : ((W5.alloc (Obj.cells #[.int .i64 a1, .int .i64 a2] 28)).alloc (Obj.cells #[.int .i64 0, .int .i64 0] 28)).cell? ⟨W5.heap.size, 0, none⟩ = some (.int .i64 a1) := by simp [go_sem]
  have Mb1 : ((W5.alloc (Obj.cells #[.int .i64 a1, .int .i64 a2] 28)).alloc (Obj.cells #[.int .i64 0, .int .i64 0] 28)).cell? ⟨W5.heap.size, 1, none⟩ = some (.int .i64 a2) := by simp [go_sem]
  have nMb : W5.heap.size < ((W5.alloc (Obj.cells #[.int .i64 a1, .int .i64 a2] 28)).alloc (Obj.cells #[.int .i64 0, .int .i64 0] 28)).heap.size := by simp <;> omega
  have S0 : ((W5.alloc (Obj.cells #[.int .i64 a1, .int .i64 a2] 28)).alloc (Obj.cells #[.int .i64 0, .int .i64 0] 28)).cell? ⟨W5.heap.size + 1, 0, none⟩ = some (.int .i64 0) := by simp [go_sem]
  have S1 : ((W5.alloc (Obj.cells #[.int .i64 a1, .int .i64 a2] 28)).alloc (Obj.cells #[.int .i64 0, .int .i64 0] 28)).cell? ⟨W5.heap.size + 1, 1, none⟩ = some (.int .i64 0) := by simp [go_sem]
  have nS : W5.heap.size + 1 < ((W5.alloc (Obj.cells #[.int .i64 a1, .int .i64 a2] 28)).alloc (Obj.cells #[.int .i64 0, .int .i64 0] 28)).heap.size := by simp <;> omega
  replace hB := hB.trans (hb.mono hB.size)
  clear hb
  generalize ((W5.alloc (Obj.cells #[.int .i64 a1, .int .i64 a2] 28)).alloc (Obj.cells #[.int .i64 0, .int .i64 0] 28)) = W6 at *
  generalize W5.heap.size = q6 at *
  refine (cD.out _).mono ?_
  rintro e W7 ⟨rfl, hb⟩
  replace hA := hA.trans (hb.mono hA.size)
  replace hN := hN.trans (hb.mono hN.size)
  replace hI := hI.trans (hb.mono hI.size)
  replace hW := hW.trans (hb.mono hW.size)
  replace Ma0 := cell_next hb nMa Ma0
  replace Ma1 := cell_next hb nMa Ma1
  replace nMa := Nat.lt_of_lt_of_le nMa hb.size
  replace Mb0 := cell_next hb nMb Mb0
  replace Mb1 := cell_next hb nMb Mb1
  replace nMb := Nat.lt_of_lt_of_le nMb hb.size
  replace S0 := cell_next hb nS S0
  replace S1 := cell_next hb nS S1
  replace nS := Nat.lt_of_lt_of_le nS hb.size
  replace hB := hB.trans (hb.mono hB.size)
  clear hb
  go_wp2_with fail
  have hb : Below W7.heap.size W7 ((W7.alloc (Obj.cells #[.int .i64 d1, .int .i64 u1] 28)).alloc (Obj.cells #[.int .i64 l1, .int .i64 r1] 28)) := (((Below.refl _ _).alloc (Nat.le_refl _) _).alloc (by simp <;> omega) _)
  replace hA := hA.trans (hb.mono hA.size)
  replace hN := hN.trans (hb.mono hN.size)
  replace hI := hI.trans (hb.mono hI.size)
  replace hW := hW.trans (hb.mono hW.size)
  replace Ma0 := cell_next hb nMa Ma0
  replace Ma1 := cell_next hb nMa Ma1
  replace nMa := Nat.lt_of_lt_of_le nMa hb.size
  replace Mb0 := cell_next hb nMb Mb0
  replace Mb1 := cell_next hb nMb Mb1
  replace nMb := Nat.lt_of_lt_of_le nMb hb.size
  replace S0 := cell_next hb nS S0
  replace S1 := cell_next hb nS S1
  replace nS := Nat.lt_of_lt_of_le nS hb.size
  have Da0 : ((W7.alloc (Obj.cells #[.int .i64 d1, .int .i64 u1] 28)).alloc (Obj.cells #[.int .i64 l1, .int .i64 r1] 28)).cell? ⟨W7.heap.size, 0, none⟩ = some (.int .i64 d1) := by simp [go_sem]
  have Da1 : ((W7.alloc (Obj.cells #[.int .i64 d1, .int .i64 u1] 28)).alloc (Obj.cells #[.int .i64 l1, .int .i64 r1] 28)).cell? ⟨W7.heap.size, 1, none⟩ = some (.int .i64 u1) := by simp [go_sem]
  have nDa : W7.heap.size < ((W7.alloc (Obj.cells #[.int .i64 d1, .int .i64 u1] 28)).alloc (Obj.cells #[.int .i64 l1, .int .i64 r1] 28)).heap.size := by simp <;> omega
  have La0 : ((W7.alloc (Obj.cells #[.int .i64 d1, .int .i64 u1] 28)).alloc (Obj.cells #[.int .i64 l1, .int .i64 r1] 28)).cell? ⟨W7.heap.size + 1, 0, none⟩ = some (.int .i64 l1) := by simp [go_sem]
  have La1 : ((W7.alloc (Obj.cells #[.int .i64 d1, .int .i64 u1] 28)).alloc (Obj.cells #[.int .i64 l1, .int .i64 r1] 28)).cell? ⟨W7.heap.size + 1, 1, none⟩ = some (.int .i64 r1) := by simp [go_sem]
  have nLa : W7.heap.size + 1 < ((W7.alloc (Obj.cells #[.int .i64 d1, .int .i64 u1] 28)).alloc (Obj.cells #[.int .i64 l1, .int .i64 r1] 28)).heap.size := by simp <;> omega
  replace hB := hB.trans (hb.mono hB.size)
  clear hb
  generalize ((W7.alloc (Obj.cells #[.int .i64 d1, .int .i64 u1] 28)).alloc (Obj.cells #[.int .i64 l1, .int .i64 r1] 28)) = W8 at *
  generalize W7.heap.size = q8 at *
  refine (cE.out _).mono ?_
  rintro e W9 ⟨rfl, hb⟩
  replace hA := hA.trans (hb.mono hA.size)
  replace hN := hN.trans (hb.mono hN.size)
  replace hI := hI.trans (hb.mono hI.size)
  replace hW := hW.trans (hb.mono hW.size)
  replace Ma0 := cell_next hb nMa Ma0
  replace Ma1 := cell_next hb nMa Ma1
  replace nMa := Nat.lt_of_lt_of_le nMa hb.size
  replace Mb0 := cell_next hb nMb Mb0
  replace Mb1 := cell_next hb nMb Mb1
  replace nMb := Nat.lt_of_lt_of_le nMb hb.size
  replace S0 := cell_next hb nS S0
  replace S1 := cell_next hb nS S1
  replace nS := Nat.lt_of_lt_of_le nS hb.size
  replace Da0 := cell_next hb nDa Da0
  replace Da1 := cell_next hb nDa Da1
  replace nDa := Nat.lt_of_lt_of_le nDa hb.size
  replace La0 := cell_next hb nLa La0
  replace La1 := cell_next hb nLa La1
  replace nLa := Nat.lt_of_lt_of_le nLa hb.size
  replace hB := hB.trans (hb.mono hB.size)
  clear hb
  go_wp2_with fail
  have hb : Below W9.heap.size W9 ((W9.alloc (Obj.cells #[.int .i64 d1, .int .i64 u1] 28)).alloc (Obj.cells #[.int .i64 l1, .int .i64 r1] 28)) := (((Below.refl _ _).alloc (Nat.le_refl _) _).alloc (by simp <;> omega) _)
  replace hA := hA.trans (hb.mono hA.size)
  replace hN := hN.trans (hb.mono hN.size)
  replace hI := hI.trans (hb.mono hI.size)
  replace hW := hW.trans (hb.mono hW.size)
  replace Ma0 := cell_next hb nMa Ma0
  replace Ma1 := cell_next hb nMa Ma1
  replace nMa := Nat.lt_of_lt_of_le nMa hb.size
  replace Mb0 := cell_next hb nMb Mb0
  replace Mb1 := cell_next hb nMb Mb1
  replace nMb := Nat.lt_of_lt_of_le nMb hb.size
  replace S0 := cell_next hb nS S0
  replace S1 := cell_next hb nS S1
  replace nS := Nat.lt_of_lt_of_le nS hb.size
  replace Da0 := cell_next hb nDa Da0
  replace Da1 := cell_next hb nDa Da1
  replace nDa := Nat.lt_of_lt_of_le nDa hb.size
  replace La0 := cell_next hb nLa La0
  replace La1 := cell_next hb nLa La1
  replace nLa := Nat.lt_of_lt_of_le nLa hb.size
  have Db0 : ((W9.alloc (Obj.cells #[.int .i64 d1, .int .i64 u1] 28)).alloc (Obj.cells #[.int .i64 l1, .int .i64 r1] 28)).cell? ⟨W9.heap.size, 0, none⟩ = some (.int .i64 d1) := by simp [go_sem]
  have Db1 : ((W9.alloc (Obj.cells #[.int .i64 d1, .int .i64 u1] 28)).alloc (Obj.cells #[.int .i64 l1, .int .i64 r1] 28)).cell? ⟨W9.heap.size, 1, none⟩ = some (.int .i64 u1) := by simp [go_sem]
  have nDb : W9.heap.size < ((W9.alloc (Obj.cells #[.int .i64 d1, .int .i64 u1] 28)).alloc (Obj.cells #[.int .i64 l1, .int .i64 r1] 28)).heap.size := by simp <;> omega
  have Lb0 : ((W9.alloc (Obj.cells #[.int .i64 d1, .int .i64 u1] 28)).alloc (Obj.cells #[.int .i64 l1, .int .i64 r1] 28)).cell? ⟨W9.heap.size + 1, 0, none⟩ = some (.int .i64 l1) := by simp [go_sem]
  have Lb1 : ((W9.alloc (Obj.cells #[.int .i64 d1, .int .i64 u1] 28)).alloc (Obj.cells #[.int .i64 l1, .int .i64 r1] 28)).cell? ⟨W9.heap.size + 1, 1, none⟩ = some (.int .i64 r1) := by simp [go_sem]
  have nLb : W9.heap.size + 1 < ((W9.alloc (Obj.cells #[.int .i64 d1, .int .i64 u1] 28)).alloc (Obj.cells #[.int .i64 l1, .int .i64 r1] 28)).heap.size := by simp <;> omega
  replace hB := hB.trans (hb.mono hB.size)
  clear hb
  generalize ((W9.alloc (Obj.cells #[.int .i64 d1, .int .i64 u1] 28)).alloc (Obj.cells #[.int .i64 l1, .int .i64 r1] 28)) = W10 at *
  generalize W9.heap.size = q10 at *
  refine (cP.out _ _ (HW.out _ hW)).mono ?_
  rintro e W11 ⟨AP, cP, rfl, hP', hb⟩
  replace hA := hA.trans (hb.mono hA.size)
  replace hN := hN.trans (hb.mono hN.size)
  replace hI := hI.trans (hb.mono hI.size)
  replace hW := hW.trans (hb.mono hW.size)
  replace Ma0 := cell_next hb nMa Ma0
  replace Ma1 := cell_next hb nMa Ma1
  replace nMa := Nat.lt_of_lt_of_le nMa hb.size
  replace Mb0 := cell_next hb nMb Mb0
  replace Mb1 := cell_next hb nMb Mb1
  replace nMb := Nat.lt_of_lt_of_le nMb hb.size
  replace S0 := cell_next hb nS S0
  replace S1 := cell_next hb nS S1
  replace nS := Nat.lt_of_lt_of_le nS hb.size
  replace Da0 := cell_next hb nDa Da0
  replace Da1 := cell_next hb nDa Da1
  replace nDa := Nat.lt_of_lt_of_le nDa hb.size
  replace La0 := cell_next hb nLa La0
  replace La1 := cell_next hb nLa La1
  replace nLa := Nat.lt_of_lt_of_le nLa hb.size
  replace Db0 := cell_next hb nDb Db0
  replace Db1 := cell_next hb nDb Db1
  replace nDb := Nat.lt_of_lt_of_le nDb hb.size
  replace Lb0 := cell_next hb nLb Lb0
  replace Lb1 := cell_next hb nLb Lb1
  replace nLb := Nat.lt_of_lt_of_le nLb hb.size
  replace hB := hB.trans (hb.mono hB.size)
  clear hb
  have HP := Lib.hid (fun (W : World) (h : Below W11.heap.size W11 W) => (hP'.below h (Nat.le_refl _)).mono h.size)
  have hP := Below.refl W11.heap.size W11
  clear hP'
  go_wp2_with fail
  refine (cQ.out _ _ (HN.out _ hN)).mono ?_
  rintro e W12 ⟨AQ, cQ, rfl, hQ', hb⟩
  replace hA := hA.trans (hb.mono hA.size)
  replace hN := hN.trans (hb.mono hN.size)
  replace hI := hI.trans (hb.mono hI.size)
  replace hW := hW.trans (hb.mono hW.size)
  replace hP := hP.trans (hb.mono hP.size)
  replace Ma0 := cell_next hb nMa Ma0
  replace Ma1 := cell_next hb nMa Ma1
  replace nMa := Nat.lt_of_lt_of_le nMa hb.size
  replace Mb0 := cell_next hb nMb Mb0
  replace Mb1 := cell_next hb nMb Mb1
  replace nMb := Nat.lt_of_lt_of_le nMb hb.size
  replace S0 := cell_next hb nS S0
  replace S1 := cell_next hb nS S1
  replace nS := Nat.lt_of_lt_of_le nS hb.size
  replace Da0 := cell_next hb nDa Da0
  replace Da1 := cell_next hb nDa Da1
  replace nDa := Nat.lt_of_lt_of_le nDa hb.size
  replace La0 := cell_next hb nLa La0
  replace La1 := cell_next hb nLa La1
  replace nLa := Nat.lt_of_lt_of_le nLa hb.size
  replace Db0 := cell_next hb nDb Db0
  replace Db1 := cell_next hb nDb Db1
  replace nDb := Nat.lt_of_lt_of_le nDb hb.size
  replace Lb0 := cell_next hb nLb Lb0
  replace Lb1 := cell_next hb nLb Lb1
  replace nLb := Nat.lt_of_lt_of_le nLb hb.size
  replace hB := hB.trans (hb.mono hB.size)
  clear hb
  have HQ := Lib.hid (fun (W : World) (h : Below W12.heap.size W12 W) => (hQ'.below h (Nat.le_refl _)).mono h.size)
  have hQ := Below.refl W12.heap.size W12
  clear hQ'
  go_wp2_with fail
  refine (cU.out _ _ (HW.out _ hW)).mono ?_
  rintro e W13 ⟨AU, cU, rfl, hU', hb⟩
  replace hA := hA.trans (hb.mono hA.size)
  replace hN := hN.trans (hb.mono hN.size)
  replace hI := hI.trans (hb.mono hI.size)
  replace hW := hW.trans (hb.mono hW.size)
  replace hP := hP.trans (hb.mono hP.size)
  replace hQ := hQ.trans (hb.mono hQ.size)
  replace Ma0 := cell_next hb nMa Ma0
  replace Ma1 := cell_next hb nMa Ma1
  replace nMa := Nat.lt_of_lt_of_le nMa hb.size
  replace Mb0 := cell_next hb nMb Mb0
  replace Mb1 := cell_next hb nMb Mb1
  replace nMb := Nat.lt_of_lt_of_le nMb hb.size
  replace S0 := cell_next hb nS S0
  replace S1 := cell_next hb nS S1
  replace nS := Nat.lt_of_lt_of_le nS hb.size
  replace Da0 := cell_next hb nDa Da0
  replace Da1 := cell_next hb nDa Da1
  replace nDa := Nat.lt_of_lt_of_le nDa hb.size
  replace La0 := cell_next hb nLa La0
  replace La1 := cell_next hb nLa La1
  replace nLa := Nat.lt_of_lt_of_le nLa hb.size
  replace Db0 := cell_next hb nDb Db0
  replace Db1 := cell_next hb nDb Db1
  replace nDb := Nat.lt_of_lt_of_le nDb hb.size
  replace Lb0 := cell_next hb nLb Lb0
  replace Lb1 := cell_next hb nLb Lb1
  replace nLb := Nat.lt_of_lt_of_le nLb hb.size
  replace hB := hB.trans (hb.mono hB.size)
  clear hb
  have HU := Lib.hid (fun (W : World) (h : Below W13.heap.size W13 W) => (hU'.below h (Nat.le_refl _)).mono h.size)
  have hU := Below.refl W13.heap.size W13
  clear hU'
  go_wp2_with fail
  refine (cV.out _ _ (HN.out _ hN)).mono ?_
  rintro e W14 ⟨AV, cV, rfl, hV', hb⟩
  replace hA := hA.trans (hb.mono hA.size)
  replace hN := hN.trans (hb.mono hN.size)
  replace hI := hI.trans (hb.mono hI.size)
  replace hW := hW.trans (hb.mono hW.size)
  replace hP := hP.trans (hb.mono hP.size)
  replace hQ := hQ.trans (hb.mono hQ.size)
  replace hU := hU.trans (hb.mono hU.size)
  replace Ma0 := cell_next hb nMa Ma0
  replace Ma1 := cell_next hb nMa Ma1
  replace nMa := Nat.lt_of_lt_of_le nMa hb.size
  replace Mb0 := cell_next hb nMb Mb0
  replace Mb1 := cell_next hb nMb Mb1
  replace nMb := Nat.lt_of_lt_of_le nMb hb.size
  replace S0 := cell_next hb nS S0
  replace S1 := cell_next hb nS S1
  replace nS := Nat.lt_of_lt_of_le nS hb.size
  replace Da0 := cell_next hb nDa Da0
  replace Da1 := cell_next hb nDa Da1
  replace nDa := Nat.lt_of_lt_of_le nDa hb.size
  replace La0 := cell_next hb nLa La0
  replace La1 := cell_next hb nLa La1
  replace nLa := Nat.lt_of_lt_of_le nLa hb.size
  replace Db0 := cell_next hb nDb Db0
  replace Db1 := cell_next hb nDb Db1
  replace nDb := Nat.lt_of_lt_of_le nDb hb.size
  replace Lb0 := cell_next hb nLb Lb0
  replace Lb1 := cell_next hb nLb Lb1
  replace nLb := Nat.lt_of_lt_of_le nLb hb.size
  replace hB := hB.trans (hb.mono hB.size)
  clear hb
  have HV := Lib.hid (fun (W : World) (h : Below W14.heap.size W14 W) => (hV'.below h (Nat.le_refl _)).mono h.size)
  have hV := Below.refl W14.heap.size W14
  clear hV'
  go_wp2_with fail
  have GI := Lib.hid (fun (W : World) (h : Below W14.heap.size W14 W) (k : Nat) (z : Int × Int) hk => row_get (HI.out W (hI.trans (h.mono hI.size))) k z hk)
  have GA := Lib.hid (fun (W : World) (h : Below W14.heap.size W14 W) (k : Nat) (z : Int × Int) hk => row_get (HA.out W (hA.trans (h.mono hA.size))) k z hk)
  have GP := Lib.hid (fun (W : World) (h : Below W14.heap.size W14 W) (k : Nat) (z : Int × Int) hk => row_get (HP.out W (hP.trans (h.mono hP.size))) k z hk)
  have GQ := Lib.hid (fun (W : World) (h : Below W14.heap.size W14 W) (k : Nat) (z : Int × Int) hk => row_get (HQ.out W (hQ.trans (h.mono hQ.size))) k z hk)
  have GN := Lib.hid (fun (W : World) (h : Below W14.heap.size W14 W) (k : Nat) (z : Int) hk => nums_get (HN.out W (hN.trans (h.mono hN.size))) k z hk)
  have GW := Lib.hid (fun (W : World) (h : Below W14.heap.size W14 W) (k : Nat) (z : Int) hk => nums_get (HW.out W (hW.trans (h.mono hW.size))) k z hk)
  have GU := Lib.hid (fun (W : World) (h : Below W14.heap.size W14 W) (k : Nat) (z : Int) hk => nums_get (HU.out W (hU.trans (h.mono hU.size))) k z hk)
  have GV := Lib.hid (fun (W : World) (h : Below W14.heap.size W14 W) (k : Nat) (z : Int) hk => nums_get (HV.out W (hV.trans (h.mono hV.size))) k z hk)
  clear HI hI HA hA HN hN HW hW HP hP HQ hQ HU hU HV hV
  clear Ma0 Ma1 nMa Mb0 Mb1 nMb S0 S1 nS Da0 Da1 nDa La0 La1 nLa Db0 Db1 nDb Lb0 Lb1 nLb
  go_loopw [26] (fun i wr => ∃ k : Nat, k ≤ n ∧ i = .int .i64 k ∧ Below W14.heap.size W14 wr) (fun i _ => n - (RowKit.intOf i).toNat)
  case atStart => exact ⟨0, Nat.zero_le _, rfl, Below.refl _ _⟩
  case round =>
    obtain ⟨k, hk, rfl, hbr⟩ := hrel
    by_cases hlt : (k : Int) < (n : Int)
    · obtain ⟨⟨x, y⟩, hxy⟩ : ∃ z, xs[k]? = some z := ⟨_, List.getElem?_eq_getElem (by rw [Hn.out]; omega)⟩
      obtain ⟨g1, o1, rfl, i0, i1, i1'⟩ := GI.out _ hbr k _ hxy
      obtain ⟨g2, o2, e2, j0, j1, j1'⟩ := GA.out _ hbr k _ hxy
      subst e2
      dsimp only at i0 i1 i1' j0 j1 j1'
      clear hxy
      go_wp2_with fail
      go_quiet (fail)
      have hb2 := below_drewN hbr nq
      clear i0 i1 i1' j0 j1 j1'
      go_wp2_with fail
      go_roundw
      case rel => exact ⟨k + 1, by omega, by go_num, hb2⟩
      case measure => simp [RowKit.intOf]; omega
    · clear GI GA
      generalize wr = wz at *
      go_wp2_with fail
      clear hlt hk
      go_loopw [27] (fun i wr => ∃ k : Nat, k ≤ p ∧ i = .int .i64 k ∧ Below W14.heap.size W14 wr) (fun i _ => p - (RowKit.intOf i).toNat)
      case atStart => exact ⟨0, Nat.zero_le _, rfl, hbr⟩
      case round =>
        clear hbr
        obtain ⟨k, hk, rfl, hbr⟩ := hrel
        by_cases hlt : (k : Int) < (p : Int)
        · obtain ⟨z, hz⟩ : ∃ z, ws[k]? = some z := ⟨_, List.getElem?_eq_getElem (by rw [Hp.out]; omega)⟩
          obtain ⟨g1, o1, rfl, i0⟩ := GW.out _ hbr k _ hz
          obtain ⟨g2, o2, rfl, j0⟩ := GN.out _ hbr k _ hz
          clear hz
          by_cases hk1 : k < np
          · obtain ⟨⟨x, y⟩, hxy⟩ : ∃ z, pv[k]? = some z := ⟨_, List.getElem?_eq_getElem (by rw [Hnp.out]; omega)⟩
            obtain ⟨g3, o3, rfl, x0, x1, x1'⟩ := GP.out _ hbr k _ hxy
            obtain ⟨g4, o4, rfl, y0, y1, y1'⟩ := GQ.out _ hbr k _ hxy
            dsimp only at x0 x1 x1' y0 y1 y1'
            have s1 : (k : Int) < (np : Int) := by omega
            have s1' : decide ((k : Int) < (np : Int)) = true := decide_eq_true s1
            clear hxy
            by_cases hk2 : k < nu
            · obtain ⟨u, hu⟩ : ∃ z, uv[k]? = some z := ⟨_, List.getElem?_eq_getElem (by rw [Hnu.out]; omega)⟩
              obtain ⟨g5, o5, rfl, u0⟩ := GU.out _ hbr k _ hu
              obtain ⟨g6, o6, rfl, v0⟩ := GV.out _ hbr k _ hu
              have s2 : (k : Int) < (nu : Int) := by omega
              have s2' : decide ((k : Int) < (nu : Int)) = true := decide_eq_true s2
              clear hu
              go_wp2_with fail
              go_quiet (fail)
              have hb2 := below_drewN hbr nq
              go_wp2_with fail
              go_roundw
              case rel => exact ⟨k + 1, by omega, by go_num, hb2⟩
              case measure => simp [RowKit.intOf]; omega
            · have s2 : ¬ (k : Int) < (nu : Int) := by omega
              have s2' : decide ((k : Int) < (nu : Int)) = false := decide_eq_false s2
              go_wp2_with fail
              go_quiet (fail)
              have hb2 := below_drewN hbr nq
              go_wp2_with fail
              go_roundw
              case rel => exact ⟨k + 1, by omega, by go_num, hb2⟩
              case measure => simp [RowKit.intOf]; omega
          · have s1 : ¬ (k : Int) < (np : Int) := by omega
            have s1' : decide ((k : Int) < (np : Int)) = false := decide_eq_false s1
            by_cases hk2 : k < nu
            · obtain ⟨u, hu⟩ : ∃ z, uv[k]? = some z := ⟨_, List.getElem?_eq_getElem (by rw [Hnu.out]; omega)⟩
              obtain ⟨g5, o5, rfl, u0⟩ := GU.out _ hbr k _ hu
              obtain ⟨g6, o6, rfl, v0⟩ := GV.out _ hbr k _ hu
              have s2 : (k : Int) < (nu : Int) := by omega
              have s2' : decide ((k : Int) < (nu : Int)) = true := decide_eq_true s2
              clear hu
              go_wp2_with fail
              go_quiet (fail)
              have hb2 := below_drewN hbr nq
              go_wp2_with fail
              go_roundw
              case rel => exact ⟨k + 1, by omega, by go_num, hb2⟩
              case measure => simp [RowKit.intOf]; omega
            · have s2 : ¬ (k : Int) < (nu : Int) := by omega
              have s2' : decide ((k : Int) < (nu : Int)) = false := decide_eq_false s2
              go_wp2_with fail
              go_quiet (fail)
              have hb2 := below_drewN hbr nq
              go_wp2_with fail
              go_roundw
              case rel => exact ⟨k + 1, by omega, by go_num, hb2⟩
              case measure => simp [RowKit.intOf]; omega
        · go_wp2_with fail
          refine (HKn.out _).mono ?_
          rintro e wk ⟨rfl, hbk⟩
          have hB9 := hB.trans ((hbr.trans (hbk.mono hbr.size)).mono hB.size)
          go_wp2_with fail
          go_ret
          exact ⟨rfl, hB9⟩

theorem saps_any (vl vw : Value) (xs : List (Int × Int)) (ws : List Int) (m : Int) (w : World) (hl : RowAt w.heap.size w vl xs) (hw : NumsAt w.heap.size w vw ws) :
    Calls Try.prog 3 #[vl, .int .i64 m, vw] w fun e w' => e = .returned (.bool true) ∧ Below w.heap.size w w' := by
  by_cases h1 : 120 < xs.length
  · obtain ⟨A, c, rfl⟩ := row_slice hl
    obtain ⟨B, d, rfl⟩ := nums_slice hw
    exact saps_big A B _ _ c d m w (.inl h1)
  · by_cases h2 : 120 < ws.length
    · obtain ⟨A, c, rfl⟩ := row_slice hl
      obtain ⟨B, d, rfl⟩ := nums_slice hw
      exact saps_big A B _ _ c d m w (.inr ⟨h1, h2⟩)
    · by_cases h0 : 0 < xs.length
      · exact saps_pos vl vw xs ws m w hl hw (by omega) (by omega) h0
      · exact saps_zero vl vw xs ws m w hl hw (by omega) (by omega) (by omega)
end Go.Proofs.Ytclnfncdphfgjaa
