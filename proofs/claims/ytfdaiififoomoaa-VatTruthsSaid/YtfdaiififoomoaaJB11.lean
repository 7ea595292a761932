/- Contracts: U13, C13, P3, joined. -/
import Derived.Test.YtfdaiififoomoaaJB10
import Derived.Test.YtfdaiififoomoaaJB4
import Derived.Test.YtfdaiififoomoaaJB3
import Derived.Test.YtfdaiififoomoaaJB2
namespace Go.Proofs.Ytfdaiififoomoaa
open Go.RowKit Go.Lib Go.Shelf
set_option linter.unusedVariables false
set_option linter.unusedSimpArgs false
attribute [local go_sem ↓] Go.wp_at_zero Go.wp_at_succ

/-- a lot in a tank with a film -/
def raise (fl fh : Int) (l : Lo) : Lo := { l with lo := max l.lo fl, hi := max l.hi fh }
/-- the slice v reads as the lots xs; it lies in memory that is there, and not in U -/
def LsU (U : Nat → Prop) (w : World) (v : Value) (xs : List Lo) : Prop :=
  ∃ A c, v = .slice A xs.length c ∧ (0 < xs.length → ∃ g off, A = some ⟨g, off, none⟩ ∧ g < w.heap.size ∧ ¬ U g ∧ LRd w g off xs)
theorem LsU.at {U : Nat → Prop} {w : World} {v : Value} {xs : List Lo} (h : LsU U w v xs) : LsAt w.heap.size w v xs := by
  obtain ⟨A, c, rfl, h⟩ := h
  refine ⟨A, c, rfl, fun hn => ?_⟩
  obtain ⟨g, off, rfl, hg, _, hr⟩ := h hn
  exact ⟨g, off, rfl, hg, hr⟩
/-- what hold leaves -/
def HoldP (B base b : Nat) (sz fl fh : Int) (v : Value) (zs : List Lo) (w : World) (e : Ending) (w' : World) : Prop :=
  (∃ u, e = .returned u) ∧ ∃ v', OwnL base w' v' zs ∧ VesAt w' b sz fl fh v' ∧ (v'.ownBlock = v.ownBlock ∨ ∃ g, v'.ownBlock = some g ∧ w.heap.size ≤ g) ∧ Below B w w' ∧ Kept (fun i => i = b ∨ v.ownBlock = some i) w w'

theorem Kept.of_grown {W W' : World} {row : Option Nat} (h : W.grownBy W' row) : Kept (fun i => row = some i) W W' := ⟨h.size, fun k o ho hu => (h.block k (Array.getElem?_eq_some_iff.1 ho).1 (fun e => hu e.symm)).trans ho⟩
theorem Kept.trans_new {U V : Nat → Prop} {w A C : World} (h : Kept U w A) (k : Kept V A C) (hc : ∀ i, V i → U i ∨ w.heap.size ≤ i) : Kept U w C :=
  ⟨Nat.le_trans h.1 k.1, fun i o ho hu => k.2 i o (h.2 i o ho hu) fun hv => by
    rcases hc i hv with h1 | h1
    · exact hu h1
    · have := (Array.getElem?_eq_some_iff.1 ho).1; omega⟩
theorem VesAt.put {W : World} {b : Nat} {sz fl fh : Int} {v : Value} (h : VesAt W b sz fl fh v) (v' : Value) : VesAt (W.setCell ⟨b, 3, none⟩ v') b sz fl fh v' := by
  obtain ⟨n, c0, c1, c2, c3, f1, f2, f3⟩ := h
  exact ⟨by simpa [World.setCell] using n, by simp [go_sem, c0], by simp [go_sem, c1], by simp [go_sem, c2], by simp [go_sem, c3], by simp [go_sem, f1], by simp [go_sem, f2], by simp [go_sem, f3]⟩
theorem all_older {xs ys : List Lo} {fl fh : Int} {k : Nat} {p : Lo} (h1 : ∀ x ∈ xs, ∀ y ∈ ys, x.t ≤ y.t) (h2 : ys.Pairwise fun x y => x.t ≤ y.t) (hp : ys[k]? = some p) : ∀ l ∈ xs ++ (ys.take k).map (raise fl fh), l.t ≤ p.t := by
  intro l hl
  rcases List.mem_append.1 hl with h | h
  · exact h1 l h p (List.mem_of_getElem? hp)
  · obtain ⟨y, hy, rfl⟩ := List.mem_map.1 h
    obtain ⟨i, hi, rfl⟩ := List.getElem_of_mem hy
    obtain ⟨hk, rfl⟩ := List.getElem?_eq_some_iff.1 hp
    have hik : i < k := by simp at hi; omega
    have := List.pairwise_iff_getElem.1 h2 i k (by omega) hk hik
    rw [List.getElem_take]
    exact this
theorem insert_at (m : Nat) (l : Lo) (g cp : Nat) (v : Value) (xs : List Lo) (base : Nat) (w : World) (hm : xs.length = m) (hbase : base ≤ w.heap.size) (hl : m ≤ 100) (hown : OwnL base w v xs) (hg : g < w.heap.size)
    (h0 : w.cell? ⟨g, 0, none⟩ = some (.int .i64 l.a)) (h1 : w.cell? ⟨g, 1, none⟩ = some (.int .i64 l.s)) (h2 : w.cell? ⟨g, 2, none⟩ = some (.int .i64 l.lo)) (h3 : w.cell? ⟨g, 3, none⟩ = some (.int .i64 l.hi)) (h4 : w.cell? ⟨g, 4, none⟩ = some (.int .i64 l.t)) :
    Calls Try.prog 64 #[v, .int .i64 (m : Int), .slice (some ⟨g, 0, none⟩) 1 cp] w fun e w' => ∃ v', e = .returned v' ∧ AppL base w v (xs ++ [l]) v' w' := by
  subst hm
  exact insert_end l g cp v xs base w hbase hl hown hg h0 h1 h2 h3 h4

set_option maxRecDepth 20000 in
set_option maxHeartbeats 4000000 in
theorem hold_ok (B base b : Nat) (sz fl fh : Int) (v v2 : Value) (xs ys : List Lo) (w : World) (hB1 : B ≤ b) (hB2 : B ≤ base) (hbb : b < base) (hbase : base ≤ w.heap.size) (hV : VesAt w b sz fl fh v) (hown : OwnL base w v xs)
    (hv2 : LsU (fun i => i = b ∨ v.ownBlock = some i) w v2 ys) (hl : xs.length + ys.length ≤ 40) (ht1 : ∀ x ∈ xs, ∀ y ∈ ys, x.t ≤ y.t) (ht2 : ys.Pairwise fun x y => x.t ≤ y.t) :
    Calls Try.prog 30 #[.pointer (some ⟨b, 0, none⟩), v2] w (HoldP B base b sz fl fh v (xs ++ ys.map (raise fl fh)) w) := by
  have rmax := @umax2 Try.prog
  obtain ⟨A2, c2, rfl, hr2⟩ := hv2
  have HR := Lib.hid hr2
  have HT1 := Lib.hid ht1
  have HT2 := Lib.hid ht2
  clear hr2 ht1 ht2
  obtain ⟨n, hn⟩ : ∃ n, ys.length = n := ⟨_, rfl⟩
  rw [hn] at hl HR ⊢
  have Hn := Lib.hid hn
  clear hn
  have HOW := Lib.hid hown
  have HV := Lib.hid hV
  have HLT : Hid (∀ g, v.ownBlock = some g → base ≤ g ∧ g < w.heap.size) := Lib.hid (World.ownsRow.lt hown)
  clear hown hV
  go_enter Try.func30, Try.ntmps30
  go_wp2_with fail
  go_loopw [9] (fun i wr => ∃ (k : Nat) (V : Value), k ≤ n ∧ i = .int .i64 k ∧ Hid (OwnL base wr V (xs ++ (ys.take k).map (raise fl fh))) ∧ Hid (VesAt wr b sz fl fh V) ∧ Hid (V.ownBlock = v.ownBlock ∨ ∃ g, V.ownBlock = some g ∧ w.heap.size ≤ g) ∧ Below B w wr ∧ Hid (Kept (fun i => i = b ∨ v.ownBlock = some i) w wr)) (fun i _ => n - (RowKit.intOf i).toNat)
  case atStart => exact ⟨0, v, Nat.zero_le _, rfl, Lib.hid (by simpa using HOW.out), HV, Lib.hid (.inl rfl), Below.refl _ _, Lib.hid (Kept.refl _ _)⟩
  case round =>
    obtain ⟨k, V, hk, rfl, HO, HVr, HB, hL, hQ⟩ := hrel
    by_cases hlt : k < n
    · have hkl : k < ys.length := by rw [Hn.out]; exact hlt
      obtain ⟨⟨a, s, lo, hi, tm⟩, hp⟩ : ∃ p, ys[k]? = some p := ⟨_, List.getElem?_eq_getElem hkl⟩
      obtain ⟨g2, off, rfl, hg2, hu2, hR⟩ := HR.out (by omega)
      obtain ⟨q0, q1, q2, q3, q4⟩ := (hR.keep fun o => hQ.out.cell (p := ⟨g2, o, none⟩) hg2 hu2) k _ hp
      have hgw : g2 < wr.heap.size := by have := hQ.out.1; omega
      dsimp only at q0 q1 q2 q3 q4
      obtain ⟨A, c, rfl⟩ := HO.out.form
      obtain ⟨m, hm⟩ : ∃ m, (xs ++ (ys.take k).map (raise fl fh)).length = m := ⟨_, rfl⟩
      have hm40 : m ≤ 40 := by rw [← hm]; simp; omega
      have Hm := Lib.hid hm
      rw [hm] at HVr HB HO
      obtain ⟨nb, k0, k1, k2, k3, fk1, fk2, fk3⟩ := HVr.out
      have hnb : b ≠ wr.heap.size := by omega
      clear hR k0 fk1 fk2 hm
      have HP := Lib.hid hp
      clear hp
      have HTT : Hid (∀ l ∈ xs ++ (ys.take k).map (raise fl fh), l.t ≤ tm) := Lib.hid (all_older HT1.out HT2.out HP.out)
      have HN : Hid ((xs ++ (ys.take k).map (raise fl fh)) ++ [(⟨a, s, max lo fl, max hi fh, tm⟩ : Lo)] = xs ++ (ys.take (k + 1)).map (raise fl fh)) := Lib.hid (by rw [List.take_add_one, HP.out, Option.toList_some, List.map_append, List.append_assoc]; rfl)
      have hOb := (World.ownsRow.lt HO.out)
      generalize hXS : xs ++ (ys.take k).map (raise fl fh) = XS at *
      clear hXS
      go_wp2_with fail
      go_region
      obtain ⟨X, hX⟩ : ∃ X, (wr.alloc (Obj.cells #[.int .i64 a, .int .i64 s, .int .i64 (max lo fl), .int .i64 (max hi fh), .int .i64 tm] 92)).drew = X := ⟨_, rfl⟩
      have hBX : Below wr.heap.size wr X := by rw [← hX]; exact ((Below.refl _ _).alloc (Nat.le_refl _) _).drew
      have d0 : X.cell? ⟨wr.heap.size, 0, none⟩ = some (.int .i64 a) := by rw [← hX]; simp [go_sem]
      have d1 : X.cell? ⟨wr.heap.size, 1, none⟩ = some (.int .i64 s) := by rw [← hX]; simp [go_sem]
      have d2 : X.cell? ⟨wr.heap.size, 2, none⟩ = some (.int .i64 (max lo fl)) := by rw [← hX]; simp [go_sem]
      have d3 : X.cell? ⟨wr.heap.size, 3, none⟩ = some (.int .i64 (max hi fh)) := by rw [← hX]; simp [go_sem]
      have d4 : X.cell? ⟨wr.heap.size, 4, none⟩ = some (.int .i64 tm) := by rw [← hX]; simp [go_sem]
      have nq : wr.heap.size < X.heap.size := by rw [← hX]; simp
      rw [hX]
      replace hL := hL.trans (hBX.mono (by omega))
      replace hQ := Lib.hid (hQ.out.trans (Kept.of_below' hBX _))
      replace HO := Lib.hid (HO.out.below hBX)
      replace k1 := cell_next hBX nb k1
      replace k2 := cell_next hBX nb k2
      replace k3 := cell_next hBX nb k3
      replace fk3 := frozen_next hBX nb fk3
      have nbX : b < X.heap.size := by omega
      have hOb2 : ∀ g, (Value.slice A m c).ownBlock = some g → base ≤ g ∧ g < wr.heap.size := hOb
      replace HVr := Lib.hid (HVr.out.below hBX)
      clear hX hBX q0 q1 q2 q3 q4 hgw hOb nb
      generalize wr.heap.size = q at *
      have C1 := Lib.hid (indexNone tm q (.slice A m c) XS X (by rw [Hm.out]; omega) HO.out.read HTT.out nq d4)
      go_wp2_with fail
      refine C1.out.mono ?_
      rintro e X1 ⟨rfl, hb⟩
      replace hL := hL.trans (hb.mono (by have := hL.size; omega))
      replace hQ := Lib.hid (hQ.out.trans (Kept.of_below' hb _))
      replace HO := Lib.hid (HO.out.below hb)
      replace d0 := cell_next hb nq d0
      replace d1 := cell_next hb nq d1
      replace d2 := cell_next hb nq d2
      replace d3 := cell_next hb nq d3
      replace d4 := cell_next hb nq d4
      replace k1 := cell_next hb nbX k1
      replace k2 := cell_next hb nbX k2
      replace k3 := cell_next hb nbX k3
      replace fk3 := frozen_next hb nbX fk3
      replace nq := Nat.lt_of_lt_of_le nq hb.size
      replace nbX := Nat.lt_of_lt_of_le nbX hb.size
      have hBW : B ≤ X1.heap.size := by omega
      have hLX := Lib.hid hL
      have hsz1 := hL.size
      replace HVr := Lib.hid (HVr.out.below hb)
      clear hb C1 hL
      go_upto_region 7 with fail
      refine wp_region_held_drew (S := fun w' => w'.cell? ⟨q, 0, none⟩ = some (.int .i64 (a)) ∧ w'.cell? ⟨q, 1, none⟩ = some (.int .i64 (s)) ∧ w'.cell? ⟨q, 2, none⟩ = some (.int .i64 (max lo fl)) ∧ w'.cell? ⟨q, 3, none⟩ = some (.int .i64 (max hi fh)) ∧ w'.cell? ⟨q, 4, none⟩ = some (.int .i64 (tm)) ∧ True) (by kernel_rfl) ?_ (fun hHeld => ?_)
      focus (exact ⟨d0, d1, d2, d3, d4, trivial⟩)
      have hL : Below B X1 X1.drew := Below.drew (Below.refl _ _)
      have hQ1 : Hid (Kept (fun _ => False) X1 X1.drew) := Lib.hid (Kept.refl _ _)
      replace d0 : X1.drew.cell? ⟨q, 0, none⟩ = some (.int .i64 (a)) := d0
      replace d1 : X1.drew.cell? ⟨q, 1, none⟩ = some (.int .i64 (s)) := d1
      replace d2 : X1.drew.cell? ⟨q, 2, none⟩ = some (.int .i64 (max lo fl)) := d2
      replace d3 : X1.drew.cell? ⟨q, 3, none⟩ = some (.int .i64 (max hi fh)) := d3
      replace d4 : X1.drew.cell? ⟨q, 4, none⟩ = some (.int .i64 (tm)) := d4
      replace k1 : X1.drew.cell? ⟨b, 1, none⟩ = some (.int .i64 fl) := k1
      replace k2 : X1.drew.cell? ⟨b, 2, none⟩ = some (.int .i64 fh) := k2
      replace k3 : X1.drew.cell? ⟨b, 3, none⟩ = some (.slice A m c) := k3
      replace fk3 : X1.drew.frozen? ⟨b, 3, none⟩ = false := fk3
      replace nq : q < X1.drew.heap.size := nq
      replace nbX : b < X1.drew.heap.size := nbX
      generalize hWd : X1.drew = wd at hHeld hL hQ1 d0 d1 d2 d3 d4 k1 k2 k3 fk3 nq nbX  ⊢
      clear hWd
      refine take_slot (i := 0) (d := 46) (v := ?_) rfl rfl (by kernel_rfl) (by kernel_rfl) (by kernel_rfl) (fun _ _ _ h => h) (Or.inl ⟨by rfl, ?_⟩) (by assumption) ?_
      rotate_left 1
      focus (intro wS hSw; (try dsimp only at hSw); go_simp; try with_reducible rfl)
      try simp only [List.setIfInBounds_toArray, List.set_cons_zero, List.set_cons_succ]
      refine take_slot (i := 1) (d := 47) (v := ?_) rfl rfl (by kernel_rfl) (by kernel_rfl) (by kernel_rfl) (fun _ _ _ h => h) (Or.inl ⟨by rfl, ?_⟩) (by assumption) ?_
      rotate_left 1
      focus (intro wS hSw; (try dsimp only at hSw); go_simp; try with_reducible rfl)
      try simp only [List.setIfInBounds_toArray, List.set_cons_zero, List.set_cons_succ]
      refine take_slot (i := 2) (d := 48) (v := ?_) rfl rfl (by kernel_rfl) (by kernel_rfl) (by kernel_rfl) (fun _ _ _ h => h) (Or.inl ⟨by rfl, ?_⟩) (by assumption) ?_
      rotate_left 1
      focus (intro wS hSw; (try dsimp only at hSw); go_simp; try with_reducible rfl)
      try simp only [List.setIfInBounds_toArray, List.set_cons_zero, List.set_cons_succ]
      refine take_slot (i := 3) (d := 49) (v := ?_) rfl rfl (by kernel_rfl) (by kernel_rfl) (by kernel_rfl) (fun _ _ _ h => h) (Or.inl ⟨by rfl, ?_⟩) (by assumption) ?_
      rotate_left 1
      focus (intro wS hSw; (try dsimp only at hSw); go_simp; try with_reducible rfl)
      try simp only [List.setIfInBounds_toArray, List.set_cons_zero, List.set_cons_succ]
      refine take_slot (i := 5) (d := 51) (v := ?_) rfl rfl (by kernel_rfl) (by kernel_rfl) (by kernel_rfl) (fun _ _ _ h => h) (Or.inl ⟨by rfl, ?_⟩) (by assumption) ?_
      rotate_left 1
      focus (intro wS hSw; (try dsimp only at hSw); go_simp; try with_reducible rfl)
      try simp only [List.setIfInBounds_toArray, List.set_cons_zero, List.set_cons_succ]
      refine take_slot (i := 6) (d := 52) (v := ?_) rfl rfl (by kernel_rfl) (by kernel_rfl) (by kernel_rfl) (fun _ _ _ h => h) (Or.inl ⟨by rfl, ?_⟩) (by assumption) ?_
      rotate_left 1
      focus (intro wS hSw; (try dsimp only at hSw); go_simp; try with_reducible rfl)
      try simp only [List.setIfInBounds_toArray, List.set_cons_zero, List.set_cons_succ]
      refine wpAnyH_ready (rs := [4, 7]) (by kernel_rfl) (by simp) ?_
      refine AllReadyH.cons rfl (fun K hK => ?_) (AllReadyH.cons rfl (fun K hK => ?_) AllReadyH.nil)
      · go_simp
        refine hK.out _ _ ⟨d0, d1, d2, d3, d4, trivial⟩ (fun hHeld => ?_)
        clear hK K
        try simp only [Act.put, List.setIfInBounds_toArray, List.set_cons_zero, List.set_cons_succ]
        refine wpAnyH_ready (rs := [7]) (by kernel_rfl) (by simp) ?_
        refine AllReadyH.cons rfl (fun K hK => ?_) AllReadyH.nil
        go_simp
        have hb := (Below.refl wd.heap.size wd).alloc (Nat.le_refl _) (Obj.cells #[.int .i64 (a), .int .i64 (s), .int .i64 (max lo fl), .int .i64 (max hi fh), .int .i64 (tm)] 92)
        replace d0 := cell_next hb nq d0
        replace d1 := cell_next hb nq d1
        replace d2 := cell_next hb nq d2
        replace d3 := cell_next hb nq d3
        replace d4 := cell_next hb nq d4
        replace k1 := cell_next hb nbX k1
        replace k2 := cell_next hb nbX k2
        replace k3 := cell_next hb nbX k3
        replace fk3 := frozen_next hb nbX fk3
        replace nq := Nat.lt_of_lt_of_le nq hb.size
        replace nbX := Nat.lt_of_lt_of_le nbX hb.size
        replace hL := hL.trans (hb.mono (Nat.le_trans hBW hL.size))
        replace hQ1 := Lib.hid (hQ1.out.trans (Kept.of_below' hb _))
        have F0 : (wd.alloc (Obj.cells #[.int .i64 (a), .int .i64 (s), .int .i64 (max lo fl), .int .i64 (max hi fh), .int .i64 (tm)] 92)).cell? ⟨wd.heap.size, 0, none⟩ = some (.int .i64 (a)) := cell_new _ _ _ 0
        have F1 : (wd.alloc (Obj.cells #[.int .i64 (a), .int .i64 (s), .int .i64 (max lo fl), .int .i64 (max hi fh), .int .i64 (tm)] 92)).cell? ⟨wd.heap.size, 1, none⟩ = some (.int .i64 (s)) := cell_new _ _ _ 1
        have F2 : (wd.alloc (Obj.cells #[.int .i64 (a), .int .i64 (s), .int .i64 (max lo fl), .int .i64 (max hi fh), .int .i64 (tm)] 92)).cell? ⟨wd.heap.size, 2, none⟩ = some (.int .i64 (max lo fl)) := cell_new _ _ _ 2
        have F3 : (wd.alloc (Obj.cells #[.int .i64 (a), .int .i64 (s), .int .i64 (max lo fl), .int .i64 (max hi fh), .int .i64 (tm)] 92)).cell? ⟨wd.heap.size, 3, none⟩ = some (.int .i64 (max hi fh)) := cell_new _ _ _ 3
        have F4 : (wd.alloc (Obj.cells #[.int .i64 (a), .int .i64 (s), .int .i64 (max lo fl), .int .i64 (max hi fh), .int .i64 (tm)] 92)).cell? ⟨wd.heap.size, 4, none⟩ = some (.int .i64 (tm)) := cell_new _ _ _ 4
        have nF : wd.heap.size < (wd.alloc (Obj.cells #[.int .i64 (a), .int .i64 (s), .int .i64 (max lo fl), .int .i64 (max hi fh), .int .i64 (tm)] 92)).heap.size := by simp
        refine hK.out _ _ ⟨d0, d1, d2, d3, d4, trivial⟩ (fun hHeld => ?_)
        clear hK K hb
        generalize wd.alloc (Obj.cells #[.int .i64 (a), .int .i64 (s), .int .i64 (max lo fl), .int .i64 (max hi fh), .int .i64 (tm)] 92) = Z2 at *
        try simp only [Act.put, List.setIfInBounds_toArray, List.set_cons_zero, List.set_cons_succ]
        refine wpAnyH_ready (rs := [8]) (by kernel_rfl) (by simp) ?_
        refine AllReadyH.cons rfl (fun K hK => ?_) AllReadyH.nil
        go_simp
        refine (insert_at m ⟨a, s, max lo fl, max hi fh, tm⟩ _ 1 (.slice A m c) XS base Z2 Hm.out (by have := hL.size; have := hLX.out.size; omega) (by omega) (HO.out.kept hQ1.out (fun _ _ h => h)) nF F0 F1 F2 F3 F4).mono ?_
        rintro e Z3 ⟨v', rfl, hA⟩
        have hsz2 := hQ1.out.1
        have hKg := Kept.of_grown hA.2.1
        have hqn : ¬ ((Value.slice A m c).ownBlock = some q) := fun h => by have := (hOb2 q h).2; omega
        have hbn : ¬ ((Value.slice A m c).ownBlock = some b) := fun h => by have := (hOb2 b h).1; omega
        replace d0 := (hKg.cell (p := ⟨q, 0, none⟩) nq hqn).trans d0
        replace d1 := (hKg.cell (p := ⟨q, 1, none⟩) nq hqn).trans d1
        replace d2 := (hKg.cell (p := ⟨q, 2, none⟩) nq hqn).trans d2
        replace d3 := (hKg.cell (p := ⟨q, 3, none⟩) nq hqn).trans d3
        replace d4 := (hKg.cell (p := ⟨q, 4, none⟩) nq hqn).trans d4
        replace k1 := (hKg.cell (p := ⟨b, 1, none⟩) nbX hbn).trans k1
        replace k2 := (hKg.cell (p := ⟨b, 2, none⟩) nbX hbn).trans k2
        replace k3 := (hKg.cell (p := ⟨b, 3, none⟩) nbX hbn).trans k3
        replace fk3 := (hKg.frozen (p := ⟨b, 3, none⟩) nbX hbn).trans fk3
        have hz := hA.2.1.size
        replace nq := Nat.lt_of_lt_of_le nq hz
        replace nbX := Nat.lt_of_lt_of_le nbX hz
        replace hL := hL.grown hA.2.1 (Nat.le_trans hBW hL.size) (fun g h => Nat.le_trans hB2 (hOb2 g h).1)
        have hKt := Lib.hid ((hQ1.out.mono (V := fun i => (Value.slice A m c).ownBlock = some i) (fun _ h => h.elim)).trans hKg)
        have HA := Lib.hid hA
        obtain ⟨A', c', rfl⟩ := hA.1.form
        have hms : (XS ++ [(⟨a, s, max lo fl, max hi fh, tm⟩ : Lo)]).length = m + 1 := by rw [List.length_append, Hm.out]; rfl
        rw [hms] at HA ⊢
        refine hK.out _ _ ⟨d0, d1, d2, d3, d4, trivial⟩ (fun hHeld => ?_)
        clear hK K hA hKg hqn hms F0 F1 F2 F3 F4 nF
        try simp only [Act.put, List.setIfInBounds_toArray, List.set_cons_zero, List.set_cons_succ]
        refine take_slot (i := 9) (d := 55) (v := ?_) rfl rfl (by kernel_rfl) (by kernel_rfl) (by kernel_rfl) (fun _ _ _ h => h) (Or.inl ⟨by rfl, ?_⟩) (by assumption) ?_
        rotate_left 1
        focus (intro wS hSw; (try dsimp only at hSw); go_simp; try with_reducible rfl)
        try simp only [List.setIfInBounds_toArray, List.set_cons_zero, List.set_cons_succ]
        refine take_slot (i := 10) (d := 56) (v := ?_) rfl rfl (by kernel_rfl) (by kernel_rfl) (by kernel_rfl) (fun _ _ _ h => h) (Or.inl ⟨by rfl, ?_⟩) (by assumption) ?_
        rotate_left 1
        focus (intro wS hSw; (try dsimp only at hSw); go_simp; try with_reducible rfl)
        try simp only [List.setIfInBounds_toArray, List.set_cons_zero, List.set_cons_succ]
        refine wpAnyH_ready (rs := [11]) (by kernel_rfl) (by simp) ?_
        refine AllReadyH.cons rfl (fun K hK => ?_) AllReadyH.nil
        go_simp
        refine hK.out _ _ ⟨((World.cell?_setCell_other _ _ _ _ (by intro e; injection e with e1 e2; omega)).trans d0), ((World.cell?_setCell_other _ _ _ _ (by intro e; injection e with e1 e2; omega)).trans d1), ((World.cell?_setCell_other _ _ _ _ (by intro e; injection e with e1 e2; omega)).trans d2), ((World.cell?_setCell_other _ _ _ _ (by intro e; injection e with e1 e2; omega)).trans d3), ((World.cell?_setCell_other _ _ _ _ (by intro e; injection e with e1 e2; omega)).trans d4), trivial⟩ (fun hHeld => ?_)
        clear hK K
        try simp only [Act.put, List.setIfInBounds_toArray, List.set_cons_zero, List.set_cons_succ]
        refine wpAnyH_done (by kernel_rfl) ?_ _
        have hKs : Kept (fun i => i = b) Z3 (Z3.setCell ⟨b, 3, none⟩ (.slice A' (m + 1) c')) := Kept.set (U := fun i => i = b) _ (p := ⟨b, 3, none⟩) rfl _
        have hfar : ∀ g, (Value.slice A' (m + 1) c').ownBlock = some g → ¬ g = b := fun g h => by
          rcases HA.out.2.2 with h1 | ⟨g', h1, h2⟩
          · rw [h1] at h; have := (hOb2 g h).1; omega
          · rw [h1] at h; injection h with h; omega
        have hcases : ∀ i, (Value.slice A m c).ownBlock = some i → (i = b ∨ v.ownBlock = some i) ∨ w.heap.size ≤ i := fun i h => by
          rcases HB.out with h1 | ⟨g', h1, h2⟩
          · exact .inl (.inr (by rw [← h1]; exact h))
          · rw [h1] at h; injection h with h; exact .inr (by omega)
        have hKw := Lib.hid ((hQ.out.trans_new hKt.out hcases).trans (hKs.mono fun i h => .inl h))
        have hO2 : OwnL base (Z3.setCell ⟨b, 3, none⟩ (.slice A' (m + 1) c')) (.slice A' (m + 1) c') (xs ++ (ys.take (k + 1)).map (raise fl fh)) := by rw [← HN.out]; exact HA.out.1.kept hKs hfar
        have hV2 := (HVr.out.kept hKt.out hbn).put (.slice A' (m + 1) c')
        have hL2 : Below B w (Z3.setCell ⟨b, 3, none⟩ (.slice A' (m + 1) c')) := hLX.out.trans (hL.setCell (p := ⟨b, 3, none⟩) hB1 _)
        have hB2' : (Value.slice A' (m + 1) c').ownBlock = v.ownBlock ∨ ∃ g, (Value.slice A' (m + 1) c').ownBlock = some g ∧ w.heap.size ≤ g := by
          rcases HA.out.2.2 with h1 | ⟨g', h1, h2⟩
          · rw [h1]; exact HB.out
          · exact .inr ⟨g', h1, by have := hLX.out.size; omega⟩
        have HO2 := Lib.hid hO2
        have HV2 := Lib.hid hV2
        have HB2' := Lib.hid hB2'
        clear hO2 hV2 hB2' hKs hfar hcases
        go_wp2_with fail
        go_roundw
        case rel => exact ⟨k + 1, .slice A' (m + 1) c', by omega, by go_num, HO2, HV2, HB2', hL2, hKw⟩
        case measure => simp [RowKit.intOf]; omega
      · go_simp
        have hb := (Below.refl wd.heap.size wd).alloc (Nat.le_refl _) (Obj.cells #[.int .i64 (a), .int .i64 (s), .int .i64 (max lo fl), .int .i64 (max hi fh), .int .i64 (tm)] 92)
        replace d0 := cell_next hb nq d0
        replace d1 := cell_next hb nq d1
        replace d2 := cell_next hb nq d2
        replace d3 := cell_next hb nq d3
        replace d4 := cell_next hb nq d4
        replace k1 := cell_next hb nbX k1
        replace k2 := cell_next hb nbX k2
        replace k3 := cell_next hb nbX k3
        replace fk3 := frozen_next hb nbX fk3
        replace nq := Nat.lt_of_lt_of_le nq hb.size
        replace nbX := Nat.lt_of_lt_of_le nbX hb.size
        replace hL := hL.trans (hb.mono (Nat.le_trans hBW hL.size))
        replace hQ1 := Lib.hid (hQ1.out.trans (Kept.of_below' hb _))
        have F0 : (wd.alloc (Obj.cells #[.int .i64 (a), .int .i64 (s), .int .i64 (max lo fl), .int .i64 (max hi fh), .int .i64 (tm)] 92)).cell? ⟨wd.heap.size, 0, none⟩ = some (.int .i64 (a)) := cell_new _ _ _ 0
        have F1 : (wd.alloc (Obj.cells #[.int .i64 (a), .int .i64 (s), .int .i64 (max lo fl), .int .i64 (max hi fh), .int .i64 (tm)] 92)).cell? ⟨wd.heap.size, 1, none⟩ = some (.int .i64 (s)) := cell_new _ _ _ 1
        have F2 : (wd.alloc (Obj.cells #[.int .i64 (a), .int .i64 (s), .int .i64 (max lo fl), .int .i64 (max hi fh), .int .i64 (tm)] 92)).cell? ⟨wd.heap.size, 2, none⟩ = some (.int .i64 (max lo fl)) := cell_new _ _ _ 2
        have F3 : (wd.alloc (Obj.cells #[.int .i64 (a), .int .i64 (s), .int .i64 (max lo fl), .int .i64 (max hi fh), .int .i64 (tm)] 92)).cell? ⟨wd.heap.size, 3, none⟩ = some (.int .i64 (max hi fh)) := cell_new _ _ _ 3
        have F4 : (wd.alloc (Obj.cells #[.int .i64 (a), .int .i64 (s), .int .i64 (max lo fl), .int .i64 (max hi fh), .int .i64 (tm)] 92)).cell? ⟨wd.heap.size, 4, none⟩ = some (.int .i64 (tm)) := cell_new _ _ _ 4
        have nF : wd.heap.size < (wd.alloc (Obj.cells #[.int .i64 (a), .int .i64 (s), .int .i64 (max lo fl), .int .i64 (max hi fh), .int .i64 (tm)] 92)).heap.size := by simp
        refine hK.out _ _ ⟨d0, d1, d2, d3, d4, trivial⟩ (fun hHeld => ?_)
        clear hK K hb
        generalize wd.alloc (Obj.cells #[.int .i64 (a), .int .i64 (s), .int .i64 (max lo fl), .int .i64 (max hi fh), .int .i64 (tm)] 92) = Z5 at *
        try simp only [Act.put, List.setIfInBounds_toArray, List.set_cons_zero, List.set_cons_succ]
        refine wpAnyH_ready (rs := [4]) (by kernel_rfl) (by simp) ?_
        refine AllReadyH.cons rfl (fun K hK => ?_) AllReadyH.nil
        go_simp
        refine hK.out _ _ ⟨d0, d1, d2, d3, d4, trivial⟩ (fun hHeld => ?_)
        clear hK K
        try simp only [Act.put, List.setIfInBounds_toArray, List.set_cons_zero, List.set_cons_succ]
        refine wpAnyH_ready (rs := [8]) (by kernel_rfl) (by simp) ?_
        refine AllReadyH.cons rfl (fun K hK => ?_) AllReadyH.nil
        go_simp
        refine (insert_at m ⟨a, s, max lo fl, max hi fh, tm⟩ _ 1 (.slice A m c) XS base Z5 Hm.out (by have := hL.size; have := hLX.out.size; omega) (by omega) (HO.out.kept hQ1.out (fun _ _ h => h)) nF F0 F1 F2 F3 F4).mono ?_
        rintro e Z7 ⟨v', rfl, hA⟩
        have hsz2 := hQ1.out.1
        have hKg := Kept.of_grown hA.2.1
        have hqn : ¬ ((Value.slice A m c).ownBlock = some q) := fun h => by have := (hOb2 q h).2; omega
        have hbn : ¬ ((Value.slice A m c).ownBlock = some b) := fun h => by have := (hOb2 b h).1; omega
        replace d0 := (hKg.cell (p := ⟨q, 0, none⟩) nq hqn).trans d0
        replace d1 := (hKg.cell (p := ⟨q, 1, none⟩) nq hqn).trans d1
        replace d2 := (hKg.cell (p := ⟨q, 2, none⟩) nq hqn).trans d2
        replace d3 := (hKg.cell (p := ⟨q, 3, none⟩) nq hqn).trans d3
        replace d4 := (hKg.cell (p := ⟨q, 4, none⟩) nq hqn).trans d4
        replace k1 := (hKg.cell (p := ⟨b, 1, none⟩) nbX hbn).trans k1
        replace k2 := (hKg.cell (p := ⟨b, 2, none⟩) nbX hbn).trans k2
        replace k3 := (hKg.cell (p := ⟨b, 3, none⟩) nbX hbn).trans k3
        replace fk3 := (hKg.frozen (p := ⟨b, 3, none⟩) nbX hbn).trans fk3
        have hz := hA.2.1.size
        replace nq := Nat.lt_of_lt_of_le nq hz
        replace nbX := Nat.lt_of_lt_of_le nbX hz
        replace hL := hL.grown hA.2.1 (Nat.le_trans hBW hL.size) (fun g h => Nat.le_trans hB2 (hOb2 g h).1)
        have hKt := Lib.hid ((hQ1.out.mono (V := fun i => (Value.slice A m c).ownBlock = some i) (fun _ h => h.elim)).trans hKg)
        have HA := Lib.hid hA
        obtain ⟨A', c', rfl⟩ := hA.1.form
        have hms : (XS ++ [(⟨a, s, max lo fl, max hi fh, tm⟩ : Lo)]).length = m + 1 := by rw [List.length_append, Hm.out]; rfl
        rw [hms] at HA ⊢
        refine hK.out _ _ ⟨d0, d1, d2, d3, d4, trivial⟩ (fun hHeld => ?_)
        clear hK K hA hKg hqn hms F0 F1 F2 F3 F4 nF
        try simp only [Act.put, List.setIfInBounds_toArray, List.set_cons_zero, List.set_cons_succ]
        refine take_slot (i := 9) (d := 55) (v := ?_) rfl rfl (by kernel_rfl) (by kernel_rfl) (by kernel_rfl) (fun _ _ _ h => h) (Or.inl ⟨by rfl, ?_⟩) (by assumption) ?_
        rotate_left 1
        focus (intro wS hSw; (try dsimp only at hSw); go_simp; try with_reducible rfl)
        try simp only [List.setIfInBounds_toArray, List.set_cons_zero, List.set_cons_succ]
        refine take_slot (i := 10) (d := 56) (v := ?_) rfl rfl (by kernel_rfl) (by kernel_rfl) (by kernel_rfl) (fun _ _ _ h => h) (Or.inl ⟨by rfl, ?_⟩) (by assumption) ?_
        rotate_left 1
        focus (intro wS hSw; (try dsimp only at hSw); go_simp; try with_reducible rfl)
        try simp only [List.setIfInBounds_toArray, List.set_cons_zero, List.set_cons_succ]
        refine wpAnyH_ready (rs := [11]) (by kernel_rfl) (by simp) ?_
        refine AllReadyH.cons rfl (fun K hK => ?_) AllReadyH.nil
        go_simp
        refine hK.out _ _ ⟨((World.cell?_setCell_other _ _ _ _ (by intro e; injection e with e1 e2; omega)).trans d0), ((World.cell?_setCell_other _ _ _ _ (by intro e; injection e with e1 e2; omega)).trans d1), ((World.cell?_setCell_other _ _ _ _ (by intro e; injection e with e1 e2; omega)).trans d2), ((World.cell?_setCell_other _ _ _ _ (by intro e; injection e with e1 e2; omega)).trans d3), ((World.cell?_setCell_other _ _ _ _ (by intro e; injection e with e1 e2; omega)).trans d4), trivial⟩ (fun hHeld => ?_)
        clear hK K
        try simp only [Act.put, List.setIfInBounds_toArray, List.set_cons_zero, List.set_cons_succ]
        refine wpAnyH_done (by kernel_rfl) ?_ _
        have hKs : Kept (fun i => i = b) Z7 (Z7.setCell ⟨b, 3, none⟩ (.slice A' (m + 1) c')) := Kept.set (U := fun i => i = b) _ (p := ⟨b, 3, none⟩) rfl _
        have hfar : ∀ g, (Value.slice A' (m + 1) c').ownBlock = some g → ¬ g = b := fun g h => by
          rcases HA.out.2.2 with h1 | ⟨g', h1, h2⟩
          · rw [h1] at h; have := (hOb2 g h).1; omega
          · rw [h1] at h; injection h with h; omega
        have hcases : ∀ i, (Value.slice A m c).ownBlock = some i → (i = b ∨ v.ownBlock = some i) ∨ w.heap.size ≤ i := fun i h => by
          rcases HB.out with h1 | ⟨g', h1, h2⟩
          · exact .inl (.inr (by rw [← h1]; exact h))
          · rw [h1] at h; injection h with h; exact .inr (by omega)
        have hKw := Lib.hid ((hQ.out.trans_new hKt.out hcases).trans (hKs.mono fun i h => .inl h))
        have hO2 : OwnL base (Z7.setCell ⟨b, 3, none⟩ (.slice A' (m + 1) c')) (.slice A' (m + 1) c') (xs ++ (ys.take (k + 1)).map (raise fl fh)) := by rw [← HN.out]; exact HA.out.1.kept hKs hfar
        have hV2 := (HVr.out.kept hKt.out hbn).put (.slice A' (m + 1) c')
        have hL2 : Below B w (Z7.setCell ⟨b, 3, none⟩ (.slice A' (m + 1) c')) := hLX.out.trans (hL.setCell (p := ⟨b, 3, none⟩) hB1 _)
        have hB2' : (Value.slice A' (m + 1) c').ownBlock = v.ownBlock ∨ ∃ g, (Value.slice A' (m + 1) c').ownBlock = some g ∧ w.heap.size ≤ g := by
          rcases HA.out.2.2 with h1 | ⟨g', h1, h2⟩
          · rw [h1]; exact HB.out
          · exact .inr ⟨g', h1, by have := hLX.out.size; omega⟩
        have HO2 := Lib.hid hO2
        have HV2 := Lib.hid hV2
        have HB2' := Lib.hid hB2'
        clear hO2 hV2 hB2' hKs hfar hcases
        go_wp2_with fail
        go_roundw
        case rel => exact ⟨k + 1, .slice A' (m + 1) c', by omega, by go_num, HO2, HV2, HB2', hL2, hKw⟩
        case measure => simp [RowKit.intOf]; omega
    · obtain rfl : k = n := by omega
      go_wp2_with fail
      go_end0
      refine ⟨⟨_, rfl⟩, V, ?_, HVr.out, HB.out, hL, hQ.out⟩
      have h := HO.out
      rw [List.take_of_length_le (by rw [Hn.out]; exact Nat.le_refl _)] at h
      exact h

open Go.RowKit Go.Lib Go.Shelf
set_option linter.unusedVariables false
set_option linter.unusedSimpArgs false
attribute [local go_sem ↓] Go.wp_at_zero Go.wp_at_succ

theorem keep3 {w W W' : World} {b B : Nat} {x y : Option Value} (hb : Below W.heap.size W W') (h : W.cell? ⟨b, 0, none⟩ = x ∧ W.cell? ⟨b, 1, none⟩ = y ∧ b < W.heap.size ∧ Kp B w W) :
    W'.cell? ⟨b, 0, none⟩ = x ∧ W'.cell? ⟨b, 1, none⟩ = y ∧ b < W'.heap.size ∧ Kp B w W' := by
  obtain ⟨h1, h2, h4, h3⟩ := h
  exact ⟨cell_next hb h4 h1, cell_next hb h4 h2, Nat.lt_of_lt_of_le h4 hb.size, h3.next h3.1.size hb⟩
theorem keep3_set {w W : World} {b B : Nat} {x y : Option Value} {u v : Value} (hB : b ≠ B) (hw : w.heap.size ≤ B) (h : W.cell? ⟨b, 0, none⟩ = x ∧ W.cell? ⟨b, 1, none⟩ = y ∧ b < W.heap.size ∧ Kp B w W) :
    ((W.setCell ⟨B, 0, none⟩ u).setCell ⟨B, 1, none⟩ v).cell? ⟨b, 0, none⟩ = x ∧ ((W.setCell ⟨B, 0, none⟩ u).setCell ⟨B, 1, none⟩ v).cell? ⟨b, 1, none⟩ = y ∧ b < ((W.setCell ⟨B, 0, none⟩ u).setCell ⟨B, 1, none⟩ v).heap.size ∧ Kp B w ((W.setCell ⟨B, 0, none⟩ u).setCell ⟨B, 1, none⟩ v) := by
  obtain ⟨h1, h2, h4, h3⟩ := h
  refine ⟨?_, ?_, by simpa using h4, h3.set hw u v⟩
  · rw [World.cell?_setCell_other _ _ _ _ (by intro e; injection e; omega), World.cell?_setCell_other _ _ _ _ (by intro e; injection e; omega)]; exact h1
  · rw [World.cell?_setCell_other _ _ _ _ (by intro e; injection e; omega), World.cell?_setCell_other _ _ _ _ (by intro e; injection e; omega)]; exact h2

/-- what Brix returns -/
def brE (a s : Int) : Int := if spB a s then (if a + s = 0 then 7 else 0) else 2
def brL (a s : Int) : Int := if brE a s = 0 then qLo s 10000 (a + s) else 0
def brH (a s : Int) : Int := if brE a s = 0 then qHi s 10000 (a + s) else 0
theorem brE_ok {a s : Int} (h : brE a s = 0) : spB a s = true ∧ a + s ≠ 0 := by
  unfold brE at h
  split at h
  · split at h
    · cases h
    · exact ⟨by assumption, by assumption⟩
  · cases h

set_option linter.unusedVariables false
set_option linter.unusedSimpArgs false

theorem fl_le {N m : Int} (hm : 0 < m) : m * (N / m) ≤ N := by
  have h := Int.mul_ediv_add_emod N m
  have h1 := Int.emod_nonneg N (show m ≠ 0 by omega)
  omega
theorem fl_lt {N m : Int} (hm : 0 < m) : N < m * (N / m + 1) := by
  have h := Int.mul_ediv_add_emod N m
  have h1 := Int.emod_lt_of_pos N hm
  rw [Int.mul_add, Int.mul_one]
  omega
theorem fl_ge {N m k : Int} (hm : 0 < m) (h : k * m ≤ N) : k ≤ N / m := (Int.le_ediv_iff_mul_le hm).2 h
theorem fl_mono {N m m' : Int} (hN : 0 ≤ N) (hm' : 0 < m') (h : m' ≤ m) : N / m ≤ N / m' := by
  refine fl_ge hm' ?_
  have h1 := fl_le (N := N) (m := m) (by omega)
  have h2 : 0 ≤ N / m := Int.ediv_nonneg hN (by omega)
  have h3 : N / m * m' ≤ N / m * m := Int.mul_le_mul_of_nonneg_left h h2
  rw [Int.mul_comm m] at h1
  omega
theorem ce_le {N m k : Int} (hm : 0 < m) (h : N ≤ k * m) : -(-N / m) ≤ k := by
  have : -k ≤ -N / m := fl_ge hm (by rw [Int.neg_mul]; omega)
  omega
theorem ce_ge {N m : Int} (hm : 0 < m) : N ≤ -(-N / m) * m := by
  have h := fl_le (N := -N) (m := m) hm
  rw [Int.mul_comm] at h
  rw [Int.neg_mul]
  omega
theorem ce_mono {N m m' : Int} (hN : 0 ≤ N) (hm' : 0 < m') (h : m' ≤ m) : -(-N / m) ≤ -(-N / m') := by
  refine ce_le (by omega) ?_
  have h1 := ce_ge (N := N) (m := m') hm'
  have h2 : 0 ≤ -(-N / m') := by
    have : -N / m' ≤ 0 := Int.ediv_nonpos_of_nonpos_of_neg (by omega) (by omega)
    omega
  have h3 := Int.mul_le_mul_of_nonneg_left h h2
  omega
theorem fl_ce {N m : Int} (hm : 0 < m) : -(-N / m) = N / m ∨ -(-N / m) = N / m + 1 := by
  have h1 := fl_le (N := N) (m := m) hm
  have h2 := fl_lt (N := N) (m := m) hm
  have h3 : -(-N / m) ≤ N / m + 1 := ce_le hm (by rw [Int.mul_comm]; omega)
  have h4 : N / m ≤ -(-N / m) := by
    have := ce_ge (N := N) (m := m) hm
    by_cases h : N / m ≤ -(-N / m)
    · exact h
    · exfalso
      have h5 : -(-N / m) + 1 ≤ N / m := by omega
      have h6 := Int.mul_le_mul_of_nonneg_right h5 (show 0 ≤ m by omega)
      rw [Int.add_mul, Int.one_mul] at h6
      rw [Int.mul_comm m] at h1
      omega
  omega

/-- what is known of sap (W, S), a concentration b, what goes off (w), and both concentrations -/
structure Boils (W S b w xl xh yl yh : Int) : Prop where
  w0 : 0 ≤ w
  w1 : w ≤ W
  c3 : b * (W - w + S) ≤ S * 10000
  c4 : 0 < w → S * 10000 < b * (W - w + 1 + S)
  lb : b ≤ yl
  lx : xl ≤ yl
  hx : xh ≤ yh
  xx : xh = xl ∨ xh = xl + 1
  x0 : 0 ≤ xl
  ht : yh ≤ 10000
  wx : w = 0 ↔ b ≤ xl
  p1 : 0 ≤ b * (W - w + S)
  p2 : b * (W - w + S) ≤ 1000000000000000000
  p3 : 0 ≤ b * (W - w + 1 + S)
  p4 : b * (W - w + 1 + S) ≤ 1000000000000000000
theorem prod_bd {b m : Int} (b0 : 1 ≤ b) (b1 : b ≤ 10000) (m0 : 0 ≤ m) (m1 : m ≤ 10000000000000) : 0 ≤ b * m ∧ b * m ≤ 1000000000000000000 := by
  have h1 : 0 ≤ b * m := Int.mul_nonneg (by omega) m0
  have h2 : b * m ≤ 10000 * m := Int.mul_le_mul_of_nonneg_right b1 m0
  omega
theorem boils_of (W S b : Int) (hW : 0 ≤ W) (hW1 : W ≤ 4294967295) (hS : 0 < S) (hS1 : S ≤ 4294967295) (b0 : 1 ≤ b) (b1 : b ≤ 10000) (w : Int) (hw : w = max 0 (W + S - S * 10000 / b)) :
    Boils W S b w (S * 10000 / (W + S)) (-(-(S * 10000) / (W + S))) (S * 10000 / (W - w + S)) (-(-(S * 10000) / (W - w + S))) := by
  have hq1 := fl_le (N := S * 10000) (m := b) (by omega)
  have hq2 := fl_lt (N := S * 10000) (m := b) (by omega)
  have hqS : S ≤ S * 10000 / b := fl_ge (by omega) (Int.mul_le_mul_of_nonneg_left b1 (by omega))
  generalize S * 10000 / b = q at *
  have hw0 : 0 ≤ w := by omega
  have hw1 : w ≤ W := by omega
  have hm' : W - w + S ≤ q := by omega
  have hc3 : b * (W - w + S) ≤ S * 10000 := Int.le_trans (Int.mul_le_mul_of_nonneg_left hm' (by omega)) hq1
  have hN : 0 ≤ S * 10000 := by omega
  obtain ⟨p1, p2⟩ := prod_bd (m := W - w + S) b0 b1 (by omega) (by omega)
  obtain ⟨p3, p4⟩ := prod_bd (m := W - w + 1 + S) b0 b1 (by omega) (by omega)
  refine ⟨hw0, hw1, hc3, fun h => ?_, fl_ge (by omega) hc3, fl_mono hN (by omega) (by omega), ce_mono hN (by omega) (by omega), fl_ce (by omega), Int.ediv_nonneg hN (by omega), ce_le (by omega) ?_, ?_, p1, p2, p3, p4⟩
  · have e : W - w + 1 + S = q + 1 := by omega
    rw [e]; exact hq2
  · have : S * 10000 ≤ (W - w + S) * 10000 := Int.mul_le_mul_of_nonneg_right (by omega) (by omega)
    rw [Int.mul_comm 10000]; exact this
  · constructor
    · intro h
      subst h
      refine fl_ge (by omega) ?_
      have : W - 0 + S = W + S := by omega
      rw [this] at hc3
      exact hc3
    · intro h
      have h1 := fl_le (N := S * 10000) (m := W + S) (by omega)
      have h2 : b * (W + S) ≤ S * 10000 := by
        have := Int.mul_le_mul_of_nonneg_left h (show 0 ≤ W + S by omega)
        rw [Int.mul_comm b]
        omega
      have h3 : W + S ≤ q := by
        by_cases h4 : W + S ≤ q
        · exact h4
        · exfalso
          have h5 : b * (q + 1) ≤ b * (W + S) := Int.mul_le_mul_of_nonneg_left (by omega) (by omega)
          omega
      omega
end Go.Proofs.Ytfdaiififoomoaa
