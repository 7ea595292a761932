/- Contract: the vacuums of valid tubing, no pipe frozen. -/
import Derived.Test.YtpphchbokphkdaaDoorN8
import Derived.Deep.CutRange
import Derived.BigRegion
import Derived.Outline
namespace Go.Proofs.YtpphchbokphkdaaDoor
open Go.RowKit Go.Lib Go.Shelf
set_option linter.unusedVariables false
set_option linter.unusedSimpArgs false
attribute [local go_sem ↓] Go.wp_at_zero Go.wp_at_succ

theorem set2 {w : World} {b : Nat} {u v : Value} (x y : Value) (h0 : w.cell? ⟨b, 0, none⟩ = some u) (h1 : w.cell? ⟨b, 1, none⟩ = some v) :
    ((w.setCell ⟨b, 0, none⟩ x).setCell ⟨b, 1, none⟩ y).cell? ⟨b, 0, none⟩ = some x ∧ ((w.setCell ⟨b, 0, none⟩ x).setCell ⟨b, 1, none⟩ y).cell? ⟨b, 1, none⟩ = some y := by
  have e1 : (w.setCell ⟨b, 0, none⟩ x).cell? ⟨b, 1, none⟩ = some v := by rw [World.cell?_setCell_other _ _ _ _ (by intro h; injection h; omega)]; exact h1
  refine ⟨?_, World.cell?_setCell_same _ _ _ e1⟩
  rw [World.cell?_setCell_other _ _ _ _ (by intro h; injection h; omega)]
  exact World.cell?_setCell_same _ _ _ h0
theorem set2_far {w : World} {b c o : Nat} {v : Option Value} (x y : Value) (hne : b ≠ c) (h : w.cell? ⟨c, o, none⟩ = v) : ((w.setCell ⟨b, 0, none⟩ x).setCell ⟨b, 1, none⟩ y).cell? ⟨c, o, none⟩ = v := by
  rw [World.cell?_setCell_other _ _ _ _ (by intro h; injection h; omega), World.cell?_setCell_other _ _ _ _ (by intro h; injection h; omega)]
  exact h
theorem frozen_far {w : World} {b c o : Nat} {z : Bool} (x y : Value) (h : w.frozen? ⟨c, o, none⟩ = z) : ((w.setCell ⟨b, 0, none⟩ x).setCell ⟨b, 1, none⟩ y).frozen? ⟨c, o, none⟩ = z := by simp [go_sem, h]
theorem size_far {w : World} {b c : Nat} (x y : Value) (h : c < w.heap.size) : c < ((w.setCell ⟨b, 0, none⟩ x).setCell ⟨b, 1, none⟩ y).heap.size := by simpa [World.setCell] using h
theorem take_slot {P : Program} {md : Region.Mode} {ops : Array Oper} {Q : Exit → Act → World → Prop} {S : World → Prop} {i d : Nat} {oi : Oper} {v : Value} {fuel : Nat} {listed : Array Bool} {a : Act} {w : World} (hi : ops[i]? = some oi) (hd : oi.dst = some d)
    (hs : Region.noSelect ops = true) (hf : Region.free md ops listed i = true) (hr : (Region.ready md ops listed).contains i = true)
    (hQ : ∀ c a w, Q (.panic c) (a.put (some d) v) w → Q (.panic c) a w) (hy : YieldsIf P ops S oi v a) (hS : S w)
    (h : wpAnyH P md ops Q S fuel (listed.setIfInBounds i true) { a with tmps := a.tmps.setIfInBounds d v } w) : wpAnyH P md ops Q S (fuel + 1) listed a w :=
  wpAnyH_take hi hs hf hr (by rw [hd]; exact hQ) hy hS (by rw [hd]; exact h)

/-- what a round of Vacuum has made: where the pipe, its load, the vacuum before it and the one behind it lie -/
def Kv (wr : World) (gr gp gl gt : Nat) (W : World) : Prop :=
  Below wr.heap.size wr W ∧ wr.heap.size ≤ gr ∧ gr < gp ∧ gr < gl ∧ gr < gt ∧ gp < W.heap.size ∧ gl < W.heap.size ∧ gt < W.heap.size ∧ (∃ v, W.cell? ⟨gr, 0, none⟩ = some v) ∧ (∃ v, W.cell? ⟨gr, 1, none⟩ = some v) ∧ W.frozen? ⟨gr, 0, none⟩ = false ∧ W.frozen? ⟨gr, 1, none⟩ = false
def Sv (wr : World) (gr gp gl gt : Nat) (p : Pp) (l t : Int × Int) (W : World) : Prop :=
  W.cell? ⟨gp, 0, none⟩ = some (.int .i64 p.pa) ∧ W.cell? ⟨gp, 1, none⟩ = some (.int .i64 p.ln) ∧ W.cell? ⟨gp, 2, none⟩ = some (.int .i64 p.bo) ∧ W.cell? ⟨gp, 3, none⟩ = some (.int .i64 p.dr) ∧ W.cell? ⟨gp, 4, none⟩ = some (.int .i64 p.ta) ∧
  W.cell? ⟨gl, 0, none⟩ = some (.int .i64 l.1) ∧ W.cell? ⟨gl, 1, none⟩ = some (.int .i64 l.2) ∧ W.cell? ⟨gt, 0, none⟩ = some (.int .i64 t.1) ∧ W.cell? ⟨gt, 1, none⟩ = some (.int .i64 t.2) ∧ Kv wr gr gp gl gt W
theorem keepv {wr W W' : World} {gr gp gl gt : Nat} {p : Pp} {l t : Int × Int} (hb : Below W.heap.size W W') (h : Sv wr gr gp gl gt p l t W) : Sv wr gr gp gl gt p l t W' := by
  obtain ⟨p0, p1, p2, p3, p4, l0, l1, t0, t1, hB, z0, z1, z2, z3, z4, z5, z6, ⟨v0, r0⟩, ⟨v1, r1⟩, f0, f1⟩ := h
  have hs := hb.size
  exact ⟨cell_next hb z4 p0, cell_next hb z4 p1, cell_next hb z4 p2, cell_next hb z4 p3, cell_next hb z4 p4, cell_next hb z5 l0, cell_next hb z5 l1, cell_next hb z6 t0, cell_next hb z6 t1,
    hB.trans (hb.mono hB.size), z0, z1, z2, z3, by omega, by omega, by omega, ⟨v0, cell_next hb (by omega) r0⟩, ⟨v1, cell_next hb (by omega) r1⟩, frozen_next hb (by omega) f0, frozen_next hb (by omega) f1⟩
theorem keepv_set {wr W : World} {gr gp gl gt : Nat} {p : Pp} {l t : Int × Int} (x y : Value) (h : Sv wr gr gp gl gt p l t W) : Sv wr gr gp gl gt p l t ((W.setCell ⟨gr, 0, none⟩ x).setCell ⟨gr, 1, none⟩ y) := by
  obtain ⟨p0, p1, p2, p3, p4, l0, l1, t0, t1, hB, z0, z1, z2, z3, z4, z5, z6, ⟨v0, r0⟩, ⟨v1, r1⟩, f0, f1⟩ := h
  obtain ⟨s0, s1⟩ := set2 x y r0 r1
  exact ⟨set2_far x y (by omega) p0, set2_far x y (by omega) p1, set2_far x y (by omega) p2, set2_far x y (by omega) p3, set2_far x y (by omega) p4, set2_far x y (by omega) l0, set2_far x y (by omega) l1, set2_far x y (by omega) t0, set2_far x y (by omega) t1,
    (hB.setCell (p := ⟨gr, 0, none⟩) z0 x).setCell (p := ⟨gr, 1, none⟩) z0 y, z0, z1, z2, z3, size_far x y z4, size_far x y z5, size_far x y z6, ⟨_, s0⟩, ⟨_, s1⟩, frozen_far x y f0, frozen_far x y f1⟩

theorem vacB (pump : Int) (w : World) : (w.alloc (.cells #[.int .i64 pump, .int .i64 pump] 34)).ownsRow w.heap.size 34 2 (.slice (some ⟨w.heap.size, 0, none⟩) 1 1) 1 (flat [(pump, pump)]) :=
  ⟨rfl, .inr ⟨w.heap.size, 1, #[.int .i64 pump, .int .i64 pump], rfl, Nat.le_refl _, heap_alloc_new w _, Nat.le_refl _, by unfold maxLen; omega, rfl, rfl⟩⟩
theorem own_slice {w : World} {base : Nat} {e : TypeId} {size : Nat} {v : Value} {n : Nat} {xs : List Value} (h : w.ownsRow base e size v n xs) (h0 : 0 < n) : ∃ g cap, v = .slice (some ⟨g, 0, none⟩) n cap := by
  obtain ⟨_, ⟨rfl, h1⟩ | ⟨g, cap, cur, rfl, _⟩⟩ := h
  · omega
  · exact ⟨g, cap, rfl⟩

theorem own_far {w : World} {base : Nat} {e : TypeId} {size : Nat} {v : Value} {n : Nat} {xs : List Value} (h : w.ownsRow base e size v n xs) {b : Nat} (hne : v.ownBlock ≠ some b) (x y : Value) : ((w.setCell ⟨b, 0, none⟩ x).setCell ⟨b, 1, none⟩ y).ownsRow base e size v n xs := by
  have g1 : ∀ (w : World) (p : Addr) (u : Value), p.block = b → w.grownBy (w.setCell p u) (some b) := fun w p u hp => ⟨rfl, rfl, rfl, by simp [World.setCell], fun i hi hn => Below.heap_setCell w p u i (by rintro rfl; exact hn (by rw [hp]))⟩
  have k1 := h.kept (g1 w ⟨b, 0, none⟩ x rfl) (.inr hne)
  exact k1.kept (g1 _ ⟨b, 1, none⟩ y rfl) (.inr hne)

set_option maxRecDepth 20000 in
set_option maxHeartbeats 4000000 in
theorem vacuum_ok (pump : Int) (v fv : Value) (ps : List Pp) (fl : List (Int × Int)) (w : World) (h : flE pump ps fl = 0) (hv : PipesAt w.heap.size w v ps) (hG : Gp w) (hfv : SetAt w.heap.size w fv fl) :
    Calls Tryd.prog 9 #[.agg #[.int .i64 pump, v], fv, .slice none 0 0] w fun e w' => ∃ v', e = .returned (.tuple #[v', .int .i64 0]) ∧ RowAt w'.heap.size w' v' (vacsL pump ps fl) ∧ Below w.heap.size w w' := by
  obtain ⟨i0, hi0, hz0, hz1, hz2⟩ := info_parts infoRange
  obtain ⟨h1, h2, h3⟩ := flE_ok h
  have h4 := h1.1
  have hpump := h1.2.1
  have c1 : Hid (∀ W, Below w.heap.size w W → Calls Tryd.prog 16 #[.agg #[.int .i64 pump, v], fv, .slice none 0 0] W fun e w' => e = .returned (.int .i64 0) ∧ Below W.heap.size W w') :=
    Lib.hid fun W hb => by
      have := checkFlows_any pump v fv ps fl W (by omega) ((hv.below hb (Nat.le_refl _)).mono hb.size) (hG.below hb (Nat.le_refl _)) ((hfv.below hb (Nat.le_refl _)).mono hb.size)
      rw [h] at this
      exact this
  have c2 : Hid (∀ W, Below w.heap.size w W → Calls Tryd.prog 17 #[.agg #[.int .i64 pump, v], fv, .slice none 0 0] W fun e w' => ∃ v', e = .returned v' ∧ RowAt w'.heap.size w' v' (loadsL ps fl) ∧ Below W.heap.size W w') :=
    Lib.hid fun W hb => (loads_ok pump v fv ps fl W h1 h2 h3 ((hv.below hb (Nat.le_refl _)).mono hb.size) ((hfv.below hb (Nat.le_refl _)).mono hb.size)).mono fun e w' ⟨v', he, hr, hB⟩ => ⟨v', he, hr.row, hB⟩
  have CN := fun n => Lib.hid (contains_nil n)
  have HOK := Lib.hid h1
  have HFL := Lib.hid h2
  have HFB := Lib.hid h3
  obtain ⟨A, c, rfl, hc, hps⟩ := hv
  obtain ⟨g, off, rfl, hg, hR⟩ := hps (by omega)
  have HR := Lib.hid hR
  have HLL := Lib.hid (loadsL_length ps fl)
  obtain ⟨n, hn⟩ : ∃ n, ps.length = n := ⟨_, rfl⟩
  rw [hn] at h4 c1 c2 hc ⊢
  have Hn := Lib.hid hn
  obtain ⟨n1, n2⟩ := h4
  obtain ⟨hpump1, hpump2⟩ := hpump
  clear h h1 h2 h3 hG hfv hps hR hn
  have hone : Tryd.prog.cellsOf 34 = 2 := by kernel_rfl
  go_enter Tryd.func9, Tryd.ntmps9
  go_wp2_with fail
  refine (c1.out _ ((Below.refl _ _).alloc (Nat.le_refl _) _)).mono ?_
  rintro e w1 ⟨rfl, hb⟩
  have r0 := cell_next hb (b := w.heap.size) (o := 0) (by simp) (v := some (.int .i64 pump)) (by simp [go_sem])
  have r1 := cell_next hb (b := w.heap.size) (o := 1) (by simp) (v := some (.slice (some ⟨g, off, none⟩) n c)) (by simp [go_sem])
  have hlt : w.heap.size < w1.heap.size := by have := hb.size; simp at this; omega
  have hB := below1 hb
  clear hb
  go_wp2_with fail
  refine (c2.out _ hB).mono ?_
  rintro e w2 ⟨vl, rfl, hRl, hb⟩
  replace r0 := cell_next hb hlt r0
  replace r1 := cell_next hb hlt r1
  replace hlt := Nat.lt_of_lt_of_le hlt hb.size
  replace hB := hB.trans (hb.mono hB.size)
  obtain ⟨Al, cl, rfl, _, hl0⟩ := hRl
  obtain ⟨gl0, offl, rfl, hgl, hRl⟩ := hl0 (by rw [HLL.out, HFL.out, Hn.out]; omega)
  have HRL := Lib.hid hRl
  clear hb hRl hl0 c1 c2
  rw [HLL.out, HFL.out, Hn.out]
  have HO := Lib.hid (vacB pump w2)
  go_wp2_with fail
  obtain ⟨wo, hwo⟩ : ∃ wo : World, wo = w2 := ⟨_, rfl⟩
  go_loopw [10, 11] (fun V i wr => ∃ k : Nat, k < n ∧ i = .int .i64 ((k : Int) + 1) ∧ Hid (wr.ownsRow wo.heap.size 34 2 V (k + 1) (flat (vcS ps (loadsL ps fl) pump k))) ∧ Below wo.heap.size wo wr) (fun _ i _ => n + 1 - (intOf i).toNat)
  case atStart => exact ⟨0, by omega, rfl, by rw [hwo]; exact HO, by rw [hwo]; exact (Below.refl _ _).alloc (Nat.le_refl _) _⟩
  case round =>
    subst hwo
    obtain ⟨k, hkn, rfl, HOW, hBo⟩ := hrel
    obtain ⟨G, cap, rfl⟩ := own_slice HOW.out (by omega)
    replace r0 := cell_next hBo hlt r0
    replace r1 := cell_next hBo hlt r1
    have hzo := hBo.size
    have hGlt := HOW.out.lt G rfl
    by_cases hlast : k + 1 < n
    · have hk1 : ((k : Int) + 1) < (n : Int) := by omega
      have hp := getElem?_getD p0 (show k + 1 < ps.length by rw [Hn.out]; exact hlast)
      have hld := getElem?_getD (0, 0) (show k + 1 < (loadsL ps fl).length by rw [HLL.out, HFL.out, Hn.out]; exact hlast)
      have hBall := hB.trans (hBo.mono hB.size)
      obtain ⟨s0, s1, s2, s3, s4⟩ := (HR.out.below hBall hg) (k + 1) _ hp
      obtain ⟨u0, u1⟩ := (HRL.out.below hBo hgl) (k + 1) _ hld
      obtain ⟨par1, par2, par3⟩ := HOK.out.par (i := k + 1) (by omega) (by rw [Hn.out]; exact hlast)
      have pv := HOK.out.valid (i := k + 1) (by omega) (by rw [Hn.out]; exact hlast)
      have lb := loadsL_bd HOK.out HFL.out HFB.out (i := k + 1) (by rw [Hn.out]; exact hlast)
      have hNext : Hid (flat (vcS ps (loadsL ps fl) pump k) ++ [.int .i64 (vcN ps (loadsL ps fl) (vcS ps (loadsL ps fl) pump k) (k + 1)).1, .int .i64 (vcN ps (loadsL ps fl) (vcS ps (loadsL ps fl) pump k) (k + 1)).2] = flat (vcS ps (loadsL ps fl) pump (k + 1))) := Lib.hid (by rw [vcS, flat_snoc])
      have vb := vcS_bd HOK.out HFL.out HFB.out k (by rw [Hn.out]; exact hkn) (parN ps (k + 1)) (by omega)
      have hvat := getElem?_getD (0, 0) (show parN ps (k + 1) < (vcS ps (loadsL ps fl) pump k).length by rw [vcS_length]; exact par2)
      unfold vcN at hNext
      change Hid (flat (vcS ps (loadsL ps fl) pump k) ++ [.int .i64 (max 0 (((vcS ps (loadsL ps fl) pump k).getD (parN ps (k + 1)) (0, 0)).1 - lossV (ps.getD (k + 1) p0) ((loadsL ps fl).getD (k + 1) (0, 0)).2)), .int .i64 (max 0 (((vcS ps (loadsL ps fl) pump k).getD (parN ps (k + 1)) (0, 0)).2 - lossV (ps.getD (k + 1) p0) ((loadsL ps fl).getD (k + 1) (0, 0)).1))] = flat (vcS ps (loadsL ps fl) pump (k + 1))) at hNext
      generalize (vcS ps (loadsL ps fl) pump k).getD (parN ps (k + 1)) (0, 0) = tv at *
      generalize (loadsL ps fl).getD (k + 1) (0, 0) = ld at *
      generalize hpp : ps.getD (k + 1) p0 = p at *
      generalize hqq : parN ps (k + 1) = q at *
      obtain ⟨fq0, fq1⟩ := flat_at _ q tv hvat
      have cq0 := HOW.out.cellAt (q * 2) (by omega)
      have cq1 := HOW.out.cellAt (q * 2 + 1) (by omega)
      rw [fq0] at cq0
      rw [fq1] at cq1
      generalize vcS ps (loadsL ps fl) pump k = L at *
      have HL' : Hid (vcS ps (loadsL ps fl) pump (k + 1) = vcS ps (loadsL ps fl) pump (k + 1)) := Lib.hid rfl
      obtain ⟨L', hL'⟩ : ∃ L', vcS ps (loadsL ps fl) pump (k + 1) = L' := ⟨_, rfl⟩
      rw [hL'] at hNext
      have HLn := Lib.hid hL'
      clear HL' hL'
      have cA := Lib.hid (vacuumBehind_ok p tv.1 ld.2 pv (by omega) (by omega) (by omega) (by omega))
      have cB := Lib.hid (vacuumBehind_ok p tv.2 ld.1 pv (by omega) (by omega) (by omega) (by omega))
      generalize max 0 (tv.1 - lossV p ld.2) = x at *
      generalize max 0 (tv.2 - lossV p ld.1) = y at *
      have hpa : p.pa = (q : Int) := par3.symm
      clear hp hld par1 par3 pv lb vb hvat fq0 fq1 hqq hpp hBall
      rw [hpa] at s0
      have Hpa := Lib.hid hpa
      clear hpa
      have hq0 : (q : Int) < (k : Int) + 1 := by omega
      go_wp2_with fail
      refine ((CN _).out _).mono ?_
      rintro e w3 ⟨rfl, rfl⟩
      have hb3 := (Below.refl wr.heap.size wr).alloc (Nat.le_refl _) (Obj.cells #[Value.int IntKind.i64 0, Value.int IntKind.i64 0] 34)
      have R0 : (wr.alloc (Obj.cells #[Value.int IntKind.i64 0, Value.int IntKind.i64 0] 34)).cell? ⟨wr.heap.size, 0, none⟩ = some (.int .i64 0) := by simp [go_sem]
      have R1 : (wr.alloc (Obj.cells #[Value.int IntKind.i64 0, Value.int IntKind.i64 0] 34)).cell? ⟨wr.heap.size, 1, none⟩ = some (.int .i64 0) := by simp [go_sem]
      have F0 : (wr.alloc (Obj.cells #[Value.int IntKind.i64 0, Value.int IntKind.i64 0] 34)).frozen? ⟨wr.heap.size, 0, none⟩ = false := by simp [go_sem]
      have F1 : (wr.alloc (Obj.cells #[Value.int IntKind.i64 0, Value.int IntKind.i64 0] 34)).frozen? ⟨wr.heap.size, 1, none⟩ = false := by simp [go_sem]
      have z3 : (wr.alloc (Obj.cells #[Value.int IntKind.i64 0, Value.int IntKind.i64 0] 34)).heap.size = wr.heap.size + 1 := by simp
      have HOW3 : Hid ((wr.alloc (Obj.cells #[Value.int IntKind.i64 0, Value.int IntKind.i64 0] 34)).ownsRow wo.heap.size 34 2 (.slice (some ⟨G, 0, none⟩) (k + 1) cap) (k + 1) (flat L)) := Lib.hid (own_below HOW.out hb3)
      replace s0 := cell_next hb3 (by omega) s0
      replace s1 := cell_next hb3 (by omega) s1
      replace s2 := cell_next hb3 (by omega) s2
      replace s3 := cell_next hb3 (by omega) s3
      replace s4 := cell_next hb3 (by omega) s4
      replace u0 := cell_next hb3 (by omega) u0
      replace u1 := cell_next hb3 (by omega) u1
      replace r0 := cell_next hb3 (by omega) r0
      replace r1 := cell_next hb3 (by omega) r1
      replace cq0 := cell_next hb3 (by omega) cq0
      replace cq1 := cell_next hb3 (by omega) cq1
      generalize wr.alloc (Obj.cells #[Value.int IntKind.i64 0, Value.int IntKind.i64 0] 34) = w3 at *
      have lay : ∀ (b o : Nat) (v : Option Value), b < w3.heap.size → w3.cell? ⟨b, o, none⟩ = v → (∀ x, (w3.alloc x).cell? ⟨b, o, none⟩ = v) ∧ ∀ x x', ((w3.alloc x).alloc x').cell? ⟨b, o, none⟩ = v := fun b o v hlt hc =>
        ⟨fun x => (((Below.refl w3.heap.size w3).alloc (Nat.le_refl _) x).cell (p := ⟨b, o, none⟩) hlt).trans hc, fun x x' => ((((Below.refl w3.heap.size w3).alloc (Nat.le_refl _) x).alloc (by simp) x').cell (p := ⟨b, o, none⟩) hlt).trans hc⟩
      obtain ⟨s0z, s0y⟩ := lay _ _ _ (by omega) s0
      obtain ⟨s1z, s1y⟩ := lay _ _ _ (by omega) s1
      obtain ⟨s2z, s2y⟩ := lay _ _ _ (by omega) s2
      obtain ⟨s3z, s3y⟩ := lay _ _ _ (by omega) s3
      obtain ⟨s4z, s4y⟩ := lay _ _ _ (by omega) s4
      obtain ⟨u0z, u0y⟩ := lay _ _ _ (by omega) u0
      obtain ⟨u1z, u1y⟩ := lay _ _ _ (by omega) u1
      obtain ⟨r1z, r1y⟩ := lay _ _ _ (by omega) r1
      clear lay
      have HKR := Lib.hid (And.intro r0 (And.intro r1 (And.intro cq0 (And.intro cq1 (And.intro R0 (And.intro R1 (And.intro F0 F1)))))))
      have HZ := Lib.hid (And.intro z3 (And.intro hzo (And.intro hlt (And.intro hGlt (And.intro hg (And.intro hgl hb3))))))
      go_upto_region 11 with fail
      go_cut [13, 14] from 33 to 74 (fun s13 s14 wx => ∃ gp gl : Nat, s13 = .pointer (some ⟨gp, 0, none⟩) ∧ s14 = .pointer (some ⟨gl, 0, none⟩) ∧ (w3.heap.size ≤ gp ∧ gp < wx.heap.size ∧ w3.heap.size ≤ gl ∧ gl < wx.heap.size ∧ gp ≠ gl) ∧ (wx.cell? ⟨gp, 0, none⟩ = some (.int .i64 (q : Int)) ∧ wx.cell? ⟨gp, 1, none⟩ = some (.int .i64 p.ln) ∧ wx.cell? ⟨gp, 2, none⟩ = some (.int .i64 p.bo) ∧ wx.cell? ⟨gp, 3, none⟩ = some (.int .i64 p.dr) ∧ wx.cell? ⟨gp, 4, none⟩ = some (.int .i64 p.ta)) ∧ (wx.cell? ⟨gl, 0, none⟩ = some (.int .i64 ld.1) ∧ wx.cell? ⟨gl, 1, none⟩ = some (.int .i64 ld.2)) ∧ Below w3.heap.size w3 wx)
      case first =>
        clear HKR cA cB cq0 cq1 R0 R1 F0 F1 z3 HOW HOW3 hb3 r0 hBo hB hg hgl hGlt hzo
        go_region
        all_goals
          go_wp2_with fail
          go_meet
          first
            | refine ⟨w3.heap.size, w3.heap.size + 1, rfl, rfl, ⟨by simp <;> omega, by simp <;> omega, by simp <;> omega, by simp <;> omega, by simp <;> omega⟩, ⟨by simp [go_sem], by simp [go_sem], by simp [go_sem], by simp [go_sem], by simp [go_sem]⟩, ⟨by simp [go_sem], by simp [go_sem]⟩, ?_⟩
            | refine ⟨w3.heap.size + 1, w3.heap.size, rfl, rfl, ⟨by simp <;> omega, by simp <;> omega, by simp <;> omega, by simp <;> omega, by simp <;> omega⟩, ⟨by simp [go_sem], by simp [go_sem], by simp [go_sem], by simp [go_sem], by simp [go_sem]⟩, ⟨by simp [go_sem], by simp [go_sem]⟩, ?_⟩
          repeat (first | exact Below.refl _ _ | (with_reducible refine Below.setCell ?_ (by simp) _) | (with_reducible refine Below.alloc ?_ (by simp) _) | (with_reducible refine Below.drew ?_))
      case rest =>
        obtain ⟨gp, gl, rfl, rfl, ⟨zp1, zp2, zl1, zl2, zpl⟩, ⟨P0, P1, P2, P3, P4⟩, ⟨L0, L1⟩, hBc⟩ := hcut
        clear s0z s0y s1z s1y s2z s2y s3z s3y s4z s4y u0z u0y u1z u1y r1z r1y s0 s1 s2 s3 s4 u0 u1 r0 r1 cq0 cq1 R0 R1 F0 F1 z3 hzo hlt hGlt hg hgl hb3 HOW
        obtain ⟨r0, r1, cq0, cq1, R0, R1, F0, F1⟩ := HKR.out
        obtain ⟨z3, hzo, hlt, hGlt, hg, hgl, hb3⟩ := HZ.out
        replace r0 := cell_next hBc (by omega) r0
        replace r1 := cell_next hBc (by omega) r1
        replace cq0 := cell_next hBc (by omega) cq0
        replace cq1 := cell_next hBc (by omega) cq1
        replace R0 := cell_next hBc (by omega) R0
        replace R1 := cell_next hBc (by omega) R1
        replace F0 := frozen_next hBc (by omega) F0
        replace F1 := frozen_next hBc (by omega) F1
        have HOWc := Lib.hid (own_below HOW3.out hBc)
        clear HKR HOW3
        have hz4 := hBc.size
        rw [← Hpa.out] at P0
        have hS : Sv wr wr.heap.size gp gl wc.heap.size p ld tv (wc.alloc (Obj.cells #[Value.int IntKind.i64 tv.1, Value.int IntKind.i64 tv.2] 34)) := by
          have hb4 := (Below.refl wc.heap.size wc).alloc (Nat.le_refl _) (Obj.cells #[Value.int IntKind.i64 tv.1, Value.int IntKind.i64 tv.2] 34)
          exact ⟨cell_next hb4 zp2 P0, cell_next hb4 zp2 P1, cell_next hb4 zp2 P2, cell_next hb4 zp2 P3, cell_next hb4 zp2 P4, cell_next hb4 zl2 L0, cell_next hb4 zl2 L1, by simp [go_sem], by simp [go_sem],
            (hb3.trans (hBc.mono (by omega))).trans (hb4.mono (by omega)), Nat.le_refl _, by omega, by omega, by omega, by simp; omega, by simp; omega, by simp, ⟨_, cell_next hb4 (by omega) R0⟩, ⟨_, cell_next hb4 (by omega) R1⟩, frozen_next hb4 (by omega) F0, frozen_next hb4 (by omega) F1⟩
        have HS := Lib.hid hS
        have HOW4 : Hid ((wc.alloc (Obj.cells #[Value.int IntKind.i64 tv.1, Value.int IntKind.i64 tv.2] 34)).ownsRow wo.heap.size 34 2 (.slice (some ⟨G, 0, none⟩) (k + 1) cap) (k + 1) (flat L)) := Lib.hid (HOWc.out.alloc _)
        have hpq := Hpa.out
        rw [hpq] at P0
        have hGw : G < wr.heap.size := hGlt.2
        have hz5 : wr.heap.size < wc.heap.size := by omega
        clear hS hpq
        go_wp2_with fail
        clear P0 P1 P2 P3 P4 L0 L1 r0 r1 cq0 cq1 R0 R1 F0 F1 HOWc
        rw [← Hpa.out]
        generalize wc.alloc (Obj.cells #[Value.int IntKind.i64 tv.1, Value.int IntKind.i64 tv.2] 34) = w4 at *
        generalize hgt : wc.heap.size = gt at *
        have hHS := HS.out
        refine wp_region_held_drew (S := fun W' => W'.cell? ⟨gp, 0, none⟩ = some (.int .i64 p.pa) ∧ W'.cell? ⟨gp, 1, none⟩ = some (.int .i64 p.ln) ∧ W'.cell? ⟨gp, 2, none⟩ = some (.int .i64 p.bo) ∧ W'.cell? ⟨gp, 3, none⟩ = some (.int .i64 p.dr) ∧ W'.cell? ⟨gp, 4, none⟩ = some (.int .i64 p.ta) ∧ W'.cell? ⟨gl, 0, none⟩ = some (.int .i64 ld.1) ∧ W'.cell? ⟨gl, 1, none⟩ = some (.int .i64 ld.2) ∧ W'.cell? ⟨gt, 0, none⟩ = some (.int .i64 tv.1) ∧ W'.cell? ⟨gt, 1, none⟩ = some (.int .i64 tv.2) ∧ Kv wr wr.heap.size gp gl gt W') (by kernel_rfl) ?_ (fun hHeld => ?_)
        focus (exact keepv (Below.drew (Below.refl _ _)) hHS)
        refine take_slot (i := 0) (d := 58) (v := ?_) rfl rfl (by kernel_rfl) (by kernel_rfl) (by kernel_rfl) (fun _ _ _ h => h) (Or.inl ⟨by rfl, ?_⟩) (by assumption) ?_
        rotate_left 1
        focus (intro wS hSw; (try dsimp only at hSw); go_simp; try with_reducible rfl)
        try simp only [List.setIfInBounds_toArray, List.set_cons_zero, List.set_cons_succ]
        refine take_slot (i := 1) (d := 59) (v := ?_) rfl rfl (by kernel_rfl) (by kernel_rfl) (by kernel_rfl) (fun _ _ _ h => h) (Or.inl ⟨by rfl, ?_⟩) (by assumption) ?_
        rotate_left 1
        focus (intro wS hSw; (try dsimp only at hSw); go_simp; try with_reducible rfl)
        try simp only [List.setIfInBounds_toArray, List.set_cons_zero, List.set_cons_succ]
        refine take_slot (i := 2) (d := 60) (v := ?_) rfl rfl (by kernel_rfl) (by kernel_rfl) (by kernel_rfl) (fun _ _ _ h => h) (Or.inl ⟨by rfl, ?_⟩) (by assumption) ?_
        rotate_left 1
        focus (intro wS hSw; (try dsimp only at hSw); go_simp; try with_reducible rfl)
        try simp only [List.setIfInBounds_toArray, List.set_cons_zero, List.set_cons_succ]
        refine take_slot (i := 3) (d := 61) (v := ?_) rfl rfl (by kernel_rfl) (by kernel_rfl) (by kernel_rfl) (fun _ _ _ h => h) (Or.inl ⟨by rfl, ?_⟩) (by assumption) ?_
        rotate_left 1
        focus (intro wS hSw; (try dsimp only at hSw); go_simp; try with_reducible rfl)
        try simp only [List.setIfInBounds_toArray, List.set_cons_zero, List.set_cons_succ]
        refine take_slot (i := 4) (d := 62) (v := ?_) rfl rfl (by kernel_rfl) (by kernel_rfl) (by kernel_rfl) (fun _ _ _ h => h) (Or.inl ⟨by rfl, ?_⟩) (by assumption) ?_
        rotate_left 1
        focus (intro wS hSw; (try dsimp only at hSw); go_simp; try with_reducible rfl)
        try simp only [List.setIfInBounds_toArray, List.set_cons_zero, List.set_cons_succ]
        refine take_slot (i := 6) (d := 64) (v := ?_) rfl rfl (by kernel_rfl) (by kernel_rfl) (by kernel_rfl) (fun _ _ _ h => h) (Or.inl ⟨by rfl, ?_⟩) (by assumption) ?_
        rotate_left 1
        focus (intro wS hSw; (try dsimp only at hSw); go_simp; try with_reducible rfl)
        try simp only [List.setIfInBounds_toArray, List.set_cons_zero, List.set_cons_succ]
        refine take_slot (i := 7) (d := 65) (v := ?_) rfl rfl (by kernel_rfl) (by kernel_rfl) (by kernel_rfl) (fun _ _ _ h => h) (Or.inl ⟨by rfl, ?_⟩) (by assumption) ?_
        rotate_left 1
        focus (intro wS hSw; (try dsimp only at hSw); go_simp; try with_reducible rfl)
        try simp only [List.setIfInBounds_toArray, List.set_cons_zero, List.set_cons_succ]
        refine take_slot (i := 8) (d := 66) (v := ?_) rfl rfl (by kernel_rfl) (by kernel_rfl) (by kernel_rfl) (fun _ _ _ h => h) (Or.inl ⟨by rfl, ?_⟩) (by assumption) ?_
        rotate_left 1
        focus (intro wS hSw; (try dsimp only at hSw); go_simp; try with_reducible rfl)
        try simp only [List.setIfInBounds_toArray, List.set_cons_zero, List.set_cons_succ]
        refine take_slot (i := 9) (d := 67) (v := ?_) rfl rfl (by kernel_rfl) (by kernel_rfl) (by kernel_rfl) (fun _ _ _ h => h) (Or.inl ⟨by rfl, ?_⟩) (by assumption) ?_
        rotate_left 1
        focus (intro wS hSw; (try dsimp only at hSw); go_simp; try with_reducible rfl)
        try simp only [List.setIfInBounds_toArray, List.set_cons_zero, List.set_cons_succ]
        refine take_slot (i := 10) (d := 68) (v := ?_) rfl rfl (by kernel_rfl) (by kernel_rfl) (by kernel_rfl) (fun _ _ _ h => h) (Or.inl ⟨by rfl, ?_⟩) (by assumption) ?_
        rotate_left 1
        focus (intro wS hSw; (try dsimp only at hSw); go_simp; try with_reducible rfl)
        try simp only [List.setIfInBounds_toArray, List.set_cons_zero, List.set_cons_succ]
        refine wpAnyH_ready (rs := [5]) (by kernel_rfl) (by simp) ?_
        refine AllReadyH.cons rfl (fun K hK => ?_) AllReadyH.nil
        skip
        go_simp
        refine (cA.out _).mono ?_; rintro e w5 ⟨rfl, hb5⟩
        refine hK.out _ _ ?_ (fun hHeld => ?_)
        focus (exact keepv hb5 hHeld)
        clear hK K
        try simp only [Act.put, List.setIfInBounds_toArray, List.set_cons_zero, List.set_cons_succ]
        refine wpAnyH_ready (rs := [11]) (by kernel_rfl) (by simp) ?_
        refine AllReadyH.cons rfl (fun K hK => ?_) AllReadyH.nil
        skip
        go_simp
        refine (cB.out _).mono ?_; rintro e w6 ⟨rfl, hb6⟩
        refine hK.out _ _ ?_ (fun hHeld => ?_)
        focus (exact keepv hb6 hHeld)
        clear hK K
        try simp only [Act.put, List.setIfInBounds_toArray, List.set_cons_zero, List.set_cons_succ]
        refine take_slot (i := 12) (d := 70) (v := ?_) rfl rfl (by kernel_rfl) (by kernel_rfl) (by kernel_rfl) (fun _ _ _ h => h) (Or.inl ⟨by rfl, ?_⟩) (by assumption) ?_
        rotate_left 1
        focus (intro wS hSw; (try dsimp only at hSw); go_simp; try with_reducible rfl)
        try simp only [List.setIfInBounds_toArray, List.set_cons_zero, List.set_cons_succ]
        refine wpAnyH_ready (rs := [13]) (by kernel_rfl) (by simp) ?_
        refine AllReadyH.cons rfl (fun K hK => ?_) AllReadyH.nil
        have hK6 := hHeld; obtain ⟨_, _, _, _, _, _, _, _, _, _, _, _, _, _, _, _, _, ⟨_, q0⟩, ⟨_, q1⟩, fq0, fq1⟩ := hK6
        go_simp
        skip
        refine hK.out _ _ ?_ (fun hHeld => ?_)
        focus (exact keepv_set _ _ hHeld)
        clear hK K
        try simp only [Act.put, List.setIfInBounds_toArray, List.set_cons_zero, List.set_cons_succ]
        refine wpAnyH_done (by kernel_rfl) ?_ _
        obtain ⟨e0, e1⟩ := set2 (.int .i64 x) (.int .i64 y) q0 q1
        have ef0 := frozen_far (b := wr.heap.size) (.int .i64 x) (.int .i64 y) fq0
        have HO7 := Lib.hid (own_far (own_below (own_below (w := w4.drew) HOW4.out hb5) hb6) (b := wr.heap.size) (by simp [Value.ownBlock]; omega) (.int .i64 x) (.int .i64 y))
        obtain ⟨_, _, _, _, _, _, _, _, _, hB7, _, zgp, _, _, zp7, _⟩ := hHeld
        generalize (w6.setCell ⟨wr.heap.size, 0, none⟩ (.int .i64 x)).setCell ⟨wr.heap.size, 1, none⟩ (.int .i64 y) = w7 at *
        clear q0 q1 fq0 fq1 hb5 hb6 hHS HOW4 HS
        have hgr7 : wr.heap.size < w7.heap.size := by omega
        go_wp2_with (at_builtin; refine wpList_append_own_at _ rfl (.tmp 71) (.tmp 73) 25 rfl wo.heap.size 34 i0 (.agg #[.int .i64 0, .int .i64 0]) 2 16 Tryd.underlying25 hi0 hz0 hz1 hz2 rfl (by decide) (.slice (some ⟨G, 0, none⟩) (k + 1) cap) (k + 1) (flat L) rfl (HO7.out.alloc _) ⟨w7.heap.size, 0, none⟩ 1 1 [.int .i64 x, .int .i64 y] rfl rfl ?_ ?_ ?_ ?_ ?_ ?_)
        case refine_1 =>
          intro j u hj
          rcases j with _ | _ | j
          · simp at hj; subst hj; exact cell_new _ _ _ 0
          · simp at hj; subst hj; exact cell_new _ _ _ 1
          · simp at hj
        case refine_2 => simp [Value.oneCell']
        case refine_3 => unfold maxLen; omega
        case refine_4 => omega
        case refine_5 => simp; omega
        case refine_6 =>
          intro v' w8 hown' hgrow _ hat
          have hB8 : Below wo.heap.size wo w8 := ((hBo.trans (hB7.mono hBo.size)).alloc (by omega) _).grown hgrow (by simp; omega) (fun k hk => by simp [Value.ownBlock] at hk; omega)
          have HO8 : Hid (w8.ownsRow wo.heap.size 34 2 v' (k + 1 + 1) (flat (vcS ps (loadsL ps fl) pump (k + 1)))) := Lib.hid (by rw [HLn.out, ← hNext.out]; exact hown')
          clear hown' hgrow hat hB7 HO7
          go_wp2_with fail
          go_roundw
          case rel => exact ⟨k + 1, by omega, by go_num, HO8, hB8⟩
          case measure => simp [intOf]; omega
    · obtain rfl : n = k + 1 := by omega
      have hfin : RowAt wr.heap.size wr (.slice (some ⟨G, 0, none⟩) (k + 1) cap) (vacsL pump ps fl) := by
        have hl : (vacsL pump ps fl).length = k + 1 := by rw [vacsL_length (by rw [Hn.out]; omega), Hn.out]
        have e : vacsL pump ps fl = vcS ps (loadsL ps fl) pump k := by unfold vacsL; rw [Hn.out]; rfl
        rw [e]
        rw [e] at hl
        exact own_row _ _ hl _ wr HOW.out
      have HF := Lib.hid hfin
      have hBall := hB.trans (hBo.mono hB.size)
      clear hfin HOW
      go_wp2_with fail
      go_ret2
      exact ⟨.slice (some ⟨G, 0, none⟩) (k + 1) cap, rfl, HF.out, hBall⟩
end Go.Proofs.YtpphchbokphkdaaDoor
