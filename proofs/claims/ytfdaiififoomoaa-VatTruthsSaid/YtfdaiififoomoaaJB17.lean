/- Contracts: U19, joined. -/
import Derived.Test.YtfdaiififoomoaaJB16
namespace Go.Proofs.Ytfdaiififoomoaa
open Go.RowKit Go.Lib Go.Shelf
set_option linter.unusedVariables false
set_option linter.unusedSimpArgs false
attribute [local go_sem ↓] Go.wp_at_zero Go.wp_at_succ

theorem OwnL.ls {U : Nat → Prop} {base : Nat} {w : World} {v : Value} {xs : List Lo} (h : OwnL base w v xs) (hu : ∀ g, v.ownBlock = some g → ¬ U g) : LsU U w v xs := by
  obtain ⟨A, c, rfl, hr⟩ := h.read
  refine ⟨A, c, rfl, fun hn => ?_⟩
  obtain ⟨g, off, rfl, hg, hR⟩ := hr hn
  exact ⟨g, off, rfl, hg, hu g rfl, hR⟩
def MovP (B base c tk k j : Nat) (vb : Nat → Nat) (C : Cel) (sk flk fhk sj flj fhj M : Int) (vj : Value) (xs ys : List Lo) (w : World) (e : Ending) (w' : World) : Prop :=
  e = .returned (.int .i64 0) ∧ ∃ v2 v', CelAt w' c tk vb C ∧ VesAt w' (vb k) sk flk fhk v2 ∧ OwnL base w' v2 (drawL xs M).2.2 ∧ VesAt w' (vb j) sj flj fhj v' ∧ OwnL base w' v' (ys ++ (drawL xs M).2.1.map (raise flj fhj)) ∧
    (∀ g, v2.ownBlock = some g → w.heap.size ≤ g) ∧ (v'.ownBlock = vj.ownBlock ∨ ∃ g, v'.ownBlock = some g ∧ w.heap.size ≤ g) ∧ Apart2 v2 v' ∧ Below B w w' ∧ Kept (fun i => i = vb k ∨ i = vb j ∨ vj.ownBlock = some i) w w'

set_option maxRecDepth 20000 in
set_option maxHeartbeats 8000000 in
theorem move_ok (B base c tk k j : Nat) (vb : Nat → Nat) (C : Cel) (sk flk fhk sj flj fhj M : Int) (vk vj : Value) (xs ys : List Lo) (w : World) (hk : k < C.n) (hj : j < C.n) (hkj : k ≠ j) (hn : C.n ≤ 1000)
    (hBv : B ≤ vb k) (hBj : B ≤ vb j) (hBb : B ≤ base) (hcb : c < base) (htb : tk < base) (hvb : vb k < base) (hvj : vb j < base) (hbase : base ≤ w.heap.size) (hcv : vb k ≠ c) (hcj : vb j ≠ c) (htv : tk ≠ vb k) (htj : tk ≠ vb j) (hvv : vb k ≠ vb j)
    (hC : CelAt w c tk vb C) (hV : VesAt w (vb k) sk flk fhk vk) (hW : VesAt w (vb j) sj flj fhj vj) (hown : OwnL base w vk xs) (howj : OwnL base w vj ys) (hx : ∀ x ∈ xs, loB x) (hy : ∀ x ∈ ys, loB x) (hl : xs.length ≤ 40)
    (hM1 : 1 ≤ M) (hM2 : M ≤ (lotSum xs).1 + (lotSum xs).2) (hr1 : ys.length + (drawL xs M).2.1.length ≤ 40) (hr2 : (lotSum ys).1 + (lotSum ys).2 + ((lotSum (drawL xs M).2.1).1 + (lotSum (drawL xs M).2.1).2) ≤ sj)
    (ht1 : ∀ x ∈ ys, ∀ y ∈ (drawL xs M).2.1, x.t ≤ y.t) (ht2 : (drawL xs M).2.1.Pairwise fun x y => x.t ≤ y.t) :
    Calls Try.prog 21 #[.pointer (some ⟨c, 0, none⟩), .int .i64 (k : Int), .int .i64 (j : Int), .int .i64 M] w (MovP B base c tk k j vb C sk flk fhk sj flj fhj M vj xs ys w) := by
  have CC := Lib.hid (fun (W : World) (h : CelAt W c tk vb C) (g cp : Nat) (hg : g < W.heap.size) (h0 : W.cell? ⟨g, 0, none⟩ = some (.int .i64 (k : Int))) (h1 : W.cell? ⟨g, 1, none⟩ = some (.int .i64 (j : Int))) => check_ok c tk vb C (.slice (some ⟨g, 0, none⟩) 2 cp) [(k : Int), (j : Int)] W h hn ((ns_two h0 h1).mono (by omega)) (by simp) (by intro x hx; simp at hx; rcases hx with rfl | rfl <;> omega))
  obtain ⟨hm0, hlT, hlF, hTo, hFo⟩ := drawL_of xs xs M (fun x h => ⟨hx x h, h⟩) (by omega)
  have CD := Lib.hid (fun (W : World) (h1 : VesAt W (vb k) sk flk fhk vk) (h2 : OwnL base W vk xs) => vdraw_ok (vb k) sk flk fhk M vk xs W h1 hx h2.read hl hM1 hM2)
  unfold DrawP at CD
  unfold MovP
  generalize hT' : (drawL xs M).2.1 = Tk at *
  generalize hF' : (drawL xs M).2.2 = Fk at *
  have CR := Lib.hid (fun (W : World) (v1 : Value) (h1 : VesAt W (vb j) sj flj fhj vj) (h2 : OwnL base W vj ys) (h3 : LsAt W.heap.size W v1 Tk) => hasRoom_ok (vb j) sj flj fhj vj v1 ys Tk W h1 hy (fun l hl => (hTo l hl).1) h2.read h3 hr1 hr2)
  have CH := Lib.hid (fun (W : World) (v1 : Value) (hb : base ≤ W.heap.size) (h1 : VesAt W (vb j) sj flj fhj vj) (h2 : OwnL base W vj ys) (h3 : LsU (fun i => i = vb j ∨ vj.ownBlock = some i) W v1 Tk) => hold_ok B base (vb j) sj flj fhj vj v1 ys Tk W hBj hBb hvj hb h1 h2 h3 hr1 ht1 ht2)
  unfold HoldP at CH
  have hjlt := World.ownsRow.lt howj
  have HC := Lib.hid hC
  have HV := Lib.hid hV
  have HW := Lib.hid hW
  have HO := Lib.hid hown
  have HJ := Lib.hid howj
  have hk0 : (0 : Int) ≤ (k : Int) := by omega
  have hk1 : (k : Int) < (C.n : Int) := by omega
  have hj0 : (0 : Int) ≤ (j : Int) := by omega
  have hj1 : (j : Int) < (C.n : Int) := by omega
  have tkj : ((k : Int) == (j : Int)) = false := by simp; omega
  clear hC hV hW hown howj hx hy hM1 hM2 hm0 hlT hlF hTo hFo hT' hF' hl hr1 hr2 ht1 ht2
  go_enter Try.func21, Try.ntmps21
  go_wp2_with fail
  refine (CC.out _ (HC.out.below ((Below.refl _ _).alloc (Nat.le_refl _) _)) _ _ (by simp) (by simp [go_sem]) (by simp [go_sem])).mono ?_
  rintro e w1 ⟨rfl, hb⟩
  have hB := below1 hb
  have hww := hB.size
  replace HC := Lib.hid (HC.out.below hB)
  replace HV := Lib.hid (HV.out.below hB)
  replace HW := Lib.hid (HW.out.below hB)
  replace HO := Lib.hid (HO.out.below hB)
  replace HJ := Lib.hid (HJ.out.below hB)
  have c4 := HC.out.c4
  have tpk := HC.out.tp k hk
  have nc := HC.out.nc
  have nt := HC.out.nt
  clear hb CC
  go_wp2_with fail
  refine (CD.out _ HV.out HO.out).mono ?_
  rintro e w2 ⟨v1, v2, rfl, hO1, hO2, hAp, hb⟩
  have hz2 := hb.size
  have hO2lt := World.ownsRow.lt hO2
  have hO1lt := World.ownsRow.lt hO1
  replace hB := hB.trans (hb.mono hB.size)
  replace HC := Lib.hid (HC.out.below hb)
  replace HV := Lib.hid (HV.out.below hb)
  replace HW := Lib.hid (HW.out.below hb)
  replace HJ := Lib.hid (HJ.out.below hb)
  obtain ⟨A2, cc2, rfl⟩ := hO2.form
  replace c4 := HC.out.c4
  replace nc := HC.out.nc
  replace nt := HC.out.nt
  replace tpk := HC.out.tp j hj
  clear hb CD HO
  go_wp2_with fail
  refine (CR.out _ v1 HW.out HJ.out hO1.read).mono ?_
  rintro e w3 ⟨rfl, hb⟩
  have hz3 := hb.size
  replace hB := hB.trans (hb.mono hB.size)
  replace HC := Lib.hid (HC.out.below hb)
  replace HV := Lib.hid (HV.out.below hb)
  replace HW := Lib.hid (HW.out.below hb)
  replace HJ := Lib.hid (HJ.out.below hb)
  replace hO1 := hO1.below hb
  replace hO2 := hO2.below hb
  replace c4 := HC.out.c4
  replace nc := HC.out.nc
  replace nt := HC.out.nt
  replace tpk := HC.out.tp k hk
  have tpj := HC.out.tp j hj
  have v3 := HV.out.c3
  have vf3 := HV.out.f3
  have nv := HV.out.n
  clear hb CR
  go_wp2_with fail
  have hKv : Kept (fun i => i = vb k) w3 (w3.setCell ⟨vb k, 3, none⟩ (.slice A2 Fk.length cc2)) := Kept.set (U := fun i => i = vb k) _ (p := ⟨vb k, 3, none⟩) rfl _
  have hV2 := HV.out.put (.slice A2 Fk.length cc2)
  have hB2 : Below B w (w3.setCell ⟨vb k, 3, none⟩ (.slice A2 Fk.length cc2)) := (hB.mono (by omega)).setCell (p := ⟨vb k, 3, none⟩) hBv _
  generalize w3.setCell ⟨vb k, 3, none⟩ (.slice A2 Fk.length cc2) = w4 at *
  have hw34 := hKv.1
  have hw3s := hB.size
  replace HC := Lib.hid (HC.out.kept hKv (fun h => hcv h.symm) htv)
  replace HW := Lib.hid (HW.out.kept hKv (fun h => hvv h.symm))
  have hu0 : ∀ g, vj.ownBlock = some g → ¬ g = vb k := fun g h h2 => by have := (hjlt g h).1; omega
  have hu1 : ∀ g, v1.ownBlock = some g → ¬ g = vb k := fun g h h2 => by have := (hO1lt g h).1; omega
  have hu2 : ∀ g, (Value.slice A2 Fk.length cc2).ownBlock = some g → ¬ g = vb k := fun g h h2 => by have := (hO2lt g h).1; omega
  replace HJ := Lib.hid (HJ.out.kept hKv hu0)
  replace hO1 := hO1.kept hKv hu1
  replace hO2 := hO2.kept hKv hu2
  have hls : LsU (fun i => i = vb j ∨ vj.ownBlock = some i) w4 v1 Tk := hO1.ls (fun g h h2 => by
    have h3 := (hO1lt g h).1
    rcases h2 with h2 | h2
    · omega
    · have := (hjlt g h2).2; omega)
  refine (CH.out _ v1 (by omega) HW.out HJ.out hls).mono ?_
  rintro e w5 ⟨⟨u, rfl⟩, v', hO', hW', hob', hB5, hK5⟩
  have hcU : ¬ (c = vb j ∨ vj.ownBlock = some c) := fun h => by rcases h with h | h; omega; have := (hjlt c h).1; omega
  have htU : ¬ (tk = vb j ∨ vj.ownBlock = some tk) := fun h => by rcases h with h | h; omega; have := (hjlt tk h).1; omega
  have hvU : ¬ (vb k = vb j ∨ vj.ownBlock = some (vb k)) := fun h => by rcases h with h | h; omega; have := (hjlt _ h).1; omega
  have h2U : ∀ g, (Value.slice A2 Fk.length cc2).ownBlock = some g → ¬ (g = vb j ∨ vj.ownBlock = some g) := fun g h h2 => by
    have h3 := (hO2lt g h).1
    rcases h2 with h2 | h2
    · omega
    · have := (hjlt g h2).2; omega
  have hAp2 : Apart2 (.slice A2 Fk.length cc2) v' := fun g h h2 => by
    have h3 := hO2lt g h
    rcases hob' with h4 | ⟨g', h4, h5⟩
    · rw [h4] at h2; have := (hjlt g h2).2; omega
    · rw [h4] at h2; injection h2 with h2; omega
  go_wp2_with fail
  go_ret
  refine ⟨rfl, .slice A2 Fk.length cc2, v', HC.out.kept hK5 hcU htU, hV2.kept hK5 hvU, (hO2.kept hK5 h2U).mono (by omega), hW', hO', fun g h => by have := (hO2lt g h).1; omega, ?_, hAp2, hB2.trans hB5, ((Kept.of_below' hB _).trans (hKv.mono fun i h => .inl h)).trans (hK5.mono fun i h => .inr h)⟩
  rcases hob' with h | ⟨g, h1, h2⟩
  · exact .inl h
  · exact .inr ⟨g, h1, by omega⟩
end Go.Proofs.Ytfdaiififoomoaa
