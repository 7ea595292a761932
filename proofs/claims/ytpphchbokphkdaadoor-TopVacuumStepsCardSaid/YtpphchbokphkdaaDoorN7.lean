/- Contract: the loads of valid tubing, no pipe frozen. -/
import Derived.Test.YtpphchbokphkdaaDoorN6
namespace Go.Proofs.YtpphchbokphkdaaDoor
open Go.RowKit Go.Lib Go.Shelf
set_option linter.unusedVariables false
set_option linter.unusedSimpArgs false
attribute [local go_sem ↓] Go.wp_at_zero Go.wp_at_succ

theorem own_below {w w' : World} {base : Nat} {e : TypeId} {size : Nat} {v : Value} {n : Nat} {xs : List Value} (h : w.ownsRow base e size v n xs) (hb : Below w.heap.size w w') : w'.ownsRow base e size v n xs :=
  h.kept (⟨hb.os, hb.tape, hb.output, hb.size, fun i hi _ => hb.block i hi⟩ : w.grownBy w' none) (by cases hv : v.ownBlock <;> simp)
theorem ldS_bds {pump : Int} {ps : List Pp} {fl : List (Int × Int)} (hn : netOk pump ps) (hl : fl.length = ps.length) (h : ∀ i, i < fl.length → flB (fl.getD i (0, 0)) = true) {d : Nat} (hd : d + 1 ≤ fl.length) {i : Nat} (hi : i < fl.length) :
    0 ≤ ((ldS (parN ps) fl d).getD i (0, 0)).1 ∧ ((ldS (parN ps) fl d).getD i (0, 0)).1 ≤ ((ldS (parN ps) fl d).getD i (0, 0)).2 ∧ ((ldS (parN ps) fl d).getD i (0, 0)).2 ≤ 60000000000 := by
  have h1 := hn.1
  have := (ldS_bd (parN ps) fl (fun k h0 hk => (hn.par h0 (by omega)).2.1) h d hd).1 i hi
  omega

set_option maxRecDepth 20000 in
set_option maxHeartbeats 2000000 in
theorem loads_ok (pump : Int) (v fv : Value) (ps : List Pp) (fl : List (Int × Int)) (w : World) (hok : netOk pump ps) (hl : fl.length = ps.length) (hf : ∀ i, i < fl.length → flB (fl.getD i (0, 0)) = true) (hv : PipesAt w.heap.size w v ps) (hfv : SetAt w.heap.size w fv fl) :
    Calls Tryd.prog 17 #[.agg #[.int .i64 pump, v], fv, .slice none 0 0] w fun e w' => ∃ v', e = .returned v' ∧ NewRow (w.heap.size + 1) w' v' (loadsL ps fl) ∧ Below w.heap.size w w' := by
  have hlen := hok.1
  obtain ⟨A, c, rfl, hc, hv⟩ := hv
  obtain ⟨A', c', rfl, hfv⟩ := hfv
  obtain ⟨g, off, rfl, hg, hR⟩ := hv (by omega)
  obtain ⟨g', off', rfl, hg', hR'⟩ := hfv (by omega)
  have HC : Hid (∀ W, Below w.heap.size w W → Calls Tryd.prog 30 #[.slice (some ⟨g', off', none⟩) fl.length c'] W fun e w' => ∃ v', e = .returned v' ∧ NewRow W.heap.size w' v' fl ∧ Below W.heap.size W w') :=
    Lib.hid fun W hb => clone_some fl g' off' c' (by omega) (by omega) W (Nat.lt_of_lt_of_le hg' hb.size) (hR'.below hb hg')
  have HR := Lib.hid hR
  have HF := Lib.hid hf
  have HL := Lib.hid hl
  have HOK := Lib.hid hok
  have HS : Hid (ldS (parN ps) fl (fl.length - 1) = loadsL ps fl) := Lib.hid rfl
  have HSL : Hid ((loadsL ps fl).length = fl.length) := Lib.hid (loadsL_length ps fl)
  have CN := fun n => Lib.hid (contains_nil n)
  obtain ⟨n, hn⟩ : ∃ n, fl.length = n := ⟨_, rfl⟩
  have hnp : ps.length = n := by rw [← hl, hn]
  rw [hnp] at hlen hc ⊢
  rw [hn] at HC HS HSL ⊢
  have Hn := Lib.hid hn
  have HNP := Lib.hid hnp
  obtain ⟨n1, n2⟩ := hlen
  clear hR hf hl hok hv hfv hR' hn hnp
  go_enter Tryd.func17, Tryd.ntmps17
  go_wp2_with fail
  refine (HC.out _ ((Below.refl _ _).alloc (Nat.le_refl _) _)).mono ?_
  rintro e w1 ⟨v', rfl, ⟨G, cap, rfl, hown⟩, hb⟩
  rw [Hn.out] at hown ⊢
  have r1 := cell_next hb (b := w.heap.size) (o := 1) (by simp) (v := some (.slice (some ⟨g, off, none⟩) n c)) (by simp [go_sem])
  have hz1 : w.heap.size + 1 ≤ w1.heap.size := by have := hb.size; simpa using this
  have hB := below1 hb
  clear hb
  rw [World.size_alloc] at hown
  have HO := Lib.hid hown
  clear hown
  have hwn : IntKind.i64.wrap ((n : Int) - 1) = (n : Int) - 1 := IntWalk.i64_in _ (by omega)
  go_wp2_with fail
  go_loopw [8] (fun i wr => ∃ d : Nat, d + 1 ≤ n ∧ i = .int .i64 (((n - 1 - d : Nat) : Int)) ∧ Hid (wr.ownsRow (w.heap.size + 1) 34 2 (.slice (some ⟨G, 0, none⟩) n cap) n (flat (ldS (parN ps) fl d))) ∧ wr.cell? ⟨w.heap.size, 1, none⟩ = some (.slice (some ⟨g, off, none⟩) n c) ∧ w.heap.size + 1 ≤ wr.heap.size ∧ Below w.heap.size w wr) (fun i _ => (intOf i).toNat)
  case atStart => exact ⟨0, by omega, by rw [show ((n - 1 - 0 : Nat) : Int) = (n : Int) - 1 from by omega], HO, r1, hz1, hB⟩
  case round =>
    obtain ⟨d, hd, rfl, HOW, r1, hz1, hB⟩ := hrel
    obtain ⟨k, hk⟩ : ∃ k, n - 1 - d = k := ⟨_, rfl⟩
    rw [hk]
    have hgw : g < wr.heap.size := by omega
    by_cases h0 : 0 < k
    · have hkn : k < n := by omega
      have hk1 : (0 : Int) < (k : Int) := by omega
      have hkd : Hid (fl.length - 1 - d = k) := Lib.hid (by rw [Hn.out]; exact hk)
      have hdn : d + 1 + 1 ≤ n := by omega
      have hkd' : Hid (((n - 1 - (d + 1) : Nat) : Int) = (k : Int) - 1) := Lib.hid (by omega)
      obtain ⟨par1, par2, par3⟩ := HOK.out.par h0 (by rw [HNP.out]; exact hkn)
      have hp := getElem?_getD p0 (show k < ps.length by rw [HNP.out]; exact hkn)
      obtain ⟨s0, _, _, _, _⟩ := (HR.out.below hB hg) k _ hp
      rw [← par3] at s0
      obtain ⟨q, hq⟩ : ∃ q, parN ps k = q := ⟨_, rfl⟩
      rw [hq] at s0 par2
      have Hq := Lib.hid hq
      clear par1 par3 hp hq
      have hlS : (ldS (parN ps) fl d).length = n := by rw [ldS_length, Hn.out]
      have bq := ldS_bds HOK.out HL.out HF.out (d := d) (by rw [Hn.out]; exact hd) (i := q) (by rw [Hn.out]; omega)
      have bk := ldS_bds HOK.out HL.out HF.out (d := d) (by rw [Hn.out]; exact hd) (i := k) (by rw [Hn.out]; omega)
      have hqe := getElem?_getD (0, 0) (show q < (ldS (parN ps) fl d).length by omega)
      have hke := getElem?_getD (0, 0) (show k < (ldS (parN ps) fl d).length by omega)
      have HNext : Hid (ldS (parN ps) fl (d + 1) = (ldS (parN ps) fl d).set q (((ldS (parN ps) fl d).getD q (0, 0)).1 + ((ldS (parN ps) fl d).getD k (0, 0)).1, ((ldS (parN ps) fl d).getD q (0, 0)).2 + ((ldS (parN ps) fl d).getD k (0, 0)).2)) := Lib.hid (by
        rw [ldS, hkd.out, ldA, Hq.out]; rfl)
      generalize (ldS (parN ps) fl d).getD q (0, 0) = a at *
      generalize (ldS (parN ps) fl d).getD k (0, 0) = b at *
      generalize ldS (parN ps) fl d = L at *
      obtain ⟨fq0, fq1⟩ := flat_at L q a hqe
      obtain ⟨fk0, fk1⟩ := flat_at L k b hke
      have HPut := Lib.hid (flat_put L q (a.1 + b.1) (a.2 + b.2))
      have cq0 := HOW.out.cellAt (q * 2) (by omega)
      have cq1 := HOW.out.cellAt (q * 2 + 1) (by omega)
      have ck0 := HOW.out.cellAt (k * 2) (by omega)
      have ck1 := HOW.out.cellAt (k * 2 + 1) (by omega)
      rw [fq0] at cq0
      rw [fq1] at cq1
      rw [fk0] at ck0
      rw [fk1] at ck1
      have fr0 := HOW.out.frozenAt (q * 2)
      have fr1 := HOW.out.frozenAt (q * 2 + 1)
      clear fq0 fq1 fk0 fk1 hqe hke hlS hk
      obtain ⟨bq1, bq2, bq3⟩ := bq
      obtain ⟨bk1, bk2, bk3⟩ := bk
      have hqn : (q : Int) < (n : Int) := by omega
      have hkn' : (k : Int) < (n : Int) := by omega
      have hGlt := (HOW.out.lt G rfl)
      go_wp2_with fail
      refine ((CN _).out _).mono ?_
      rintro e w2 ⟨rfl, rfl⟩
      go_wp2_with fail
      go_region
      have HO7 : Hid ((wr.setCell ⟨G, q * 2, none⟩ (.int .i64 (a.1 + b.1))).drew.ownsRow (w.heap.size + 1) 34 2 (.slice (some ⟨G, 0, none⟩) n cap) n ((flat L).set (q * 2) (.int .i64 (a.1 + b.1)))) := Lib.hid (HOW.out.stored (q * 2) (.int .i64 (a.1 + b.1))).1
      have dq1 := HO7.out.cellAt (q * 2 + 1) (by omega)
      have dk1 := HO7.out.cellAt (k * 2 + 1) (by omega)
      rw [List.getElem?_set_ne (by omega)] at dq1 dk1
      rw [← HOW.out.cellAt (q * 2 + 1) (by omega), cq1] at dq1
      rw [← HOW.out.cellAt (k * 2 + 1) (by omega), ck1] at dk1
      have er1 := HO7.out.frozenAt (q * 2 + 1)
      have hB7 : Below w.heap.size w (wr.setCell ⟨G, q * 2, none⟩ (.int .i64 (a.1 + b.1))).drew := (hB.setCell (p := ⟨G, q * 2, none⟩) (by dsimp only; omega) _).drew
      have r7 : (wr.setCell ⟨G, q * 2, none⟩ (.int .i64 (a.1 + b.1))).drew.cell? ⟨w.heap.size, 1, none⟩ = some (.slice (some ⟨g, off, none⟩) n c) :=
        (World.cell?_setCell_other _ _ _ _ (by intro e; injection e; omega)).trans r1
      have z7 : w.heap.size + 1 ≤ (wr.setCell ⟨G, q * 2, none⟩ (.int .i64 (a.1 + b.1))).drew.heap.size := by simpa using hz1
      generalize (wr.setCell ⟨G, q * 2, none⟩ (.int .i64 (a.1 + b.1))).drew = w7 at *
      clear cq0 cq1 ck0 ck1 fr0 fr1 hB r1 hz1 HOW s0
      have hGlt7 := (HO7.out.lt G rfl)
      go_wp2_with fail
      go_region
      have HO8 : Hid ((w7.setCell ⟨G, q * 2 + 1, none⟩ (.int .i64 (a.2 + b.2))).drew.ownsRow (w.heap.size + 1) 34 2 (.slice (some ⟨G, 0, none⟩) n cap) n (flat (ldS (parN ps) fl (d + 1)))) := Lib.hid (by
        have := (HO7.out.stored (q * 2 + 1) (.int .i64 (a.2 + b.2))).1
        rw [HPut.out, ← HNext.out] at this
        exact this)
      have hB8 : Below w.heap.size w (w7.setCell ⟨G, q * 2 + 1, none⟩ (.int .i64 (a.2 + b.2))).drew := (hB7.setCell (p := ⟨G, q * 2 + 1, none⟩) (by dsimp only; omega) _).drew
      have r8 : (w7.setCell ⟨G, q * 2 + 1, none⟩ (.int .i64 (a.2 + b.2))).drew.cell? ⟨w.heap.size, 1, none⟩ = some (.slice (some ⟨g, off, none⟩) n c) :=
        (World.cell?_setCell_other _ _ _ _ (by intro e; injection e; omega)).trans r7
      have z8 : w.heap.size + 1 ≤ (w7.setCell ⟨G, q * 2 + 1, none⟩ (.int .i64 (a.2 + b.2))).drew.heap.size := by simpa using z7
      generalize (w7.setCell ⟨G, q * 2 + 1, none⟩ (.int .i64 (a.2 + b.2))).drew = w8 at *
      clear dq1 dk1 er1 hB7 r7 z7 HO7 HNext HPut
      go_wp2_with fail
      go_roundw
      case rel => exact ⟨d + 1, by omega, by rw [hkd'.out], HO8, r8, z8, hB8⟩
      case measure => simp [intOf]; omega
    · obtain rfl : k = 0 := by omega
      have HO' : Hid (wr.ownsRow (w.heap.size + 1) 34 2 (.slice (some ⟨G, 0, none⟩) n cap) n (flat (loadsL ps fl))) := Lib.hid (by
        have := HOW.out
        rw [show d = n - 1 from by omega, HS.out] at this
        exact this)
      clear HOW
      rw [show ((0 : Nat) : Int) = 0 from rfl]
      go_wp2_with fail
      go_ret
      exact ⟨.slice (some ⟨G, 0, none⟩) n cap, rfl, ⟨G, cap, by rw [HSL.out], by rw [HSL.out]; exact HO'.out⟩, hB⟩
end Go.Proofs.YtpphchbokphkdaaDoor
