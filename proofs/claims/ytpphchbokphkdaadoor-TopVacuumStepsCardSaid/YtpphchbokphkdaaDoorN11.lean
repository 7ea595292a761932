/- Contract: whether tubing and flows are good, as the law asks it. -/
import Derived.Test.YtpphchbokphkdaaDoorN10
namespace Go.Proofs.YtpphchbokphkdaaDoor
open Go.RowKit Go.Lib Go.Shelf
set_option linter.unusedVariables false
set_option linter.unusedSimpArgs false
attribute [local go_sem ↓] Go.wp_at_zero Go.wp_at_succ

def goodB (pump : Int) (ps : List Pp) (fl : List (Int × Int)) : Bool := (decide (1 ≤ ps.length) && decide (ps.length ≤ 40)) && decide (fl.length = ps.length) && netB pump ps && flsB fl
theorem below_undrw {n k : Nat} {W W' : World} (h : Below n (W.drewN k) W') : Below n W W' := ⟨h.os, h.tape, h.output, h.size, h.block⟩

set_option maxRecDepth 20000 in
set_option maxHeartbeats 1000000 in
/-- too few nodes, too many, or not as many flows -/
theorem meetGood_early (pump : Int) (A A' : Option Addr) (n m c c' : Nat) (w : World) (h : n < 1 ∨ 40 < n ∨ m ≠ n) :
    Calls Tryd.prog 4 #[.agg #[.int .i64 pump, .slice A n c], .slice A' m c', .int .i64 40] w fun e w' => e = .returned (.bool false) ∧ Below w.heap.size w w' := by
  by_cases h1 : n < 1
  · obtain rfl : n = 0 := by omega
    clear h h1
    go_enter Tryd.func4, Tryd.ntmps4
    go_wp2_with fail
    go_ret
    exact ⟨rfl, (Below.refl _ _).alloc (Nat.le_refl _) _⟩
  · have hn1 : decide ((n : Int) < 1) = false := by simp; omega
    by_cases h2 : 40 < n
    · have hn2 : decide ((40 : Int) < (n : Int)) = true := by simp; omega
      clear h h1 h2
      go_enter Tryd.func4, Tryd.ntmps4
      go_wp2_with fail
      go_ret
      exact ⟨rfl, (Below.refl _ _).alloc (Nat.le_refl _) _⟩
    · have hn2 : decide ((40 : Int) < (n : Int)) = false := by simp; omega
      have hne : ((m : Int) != (n : Int)) = true := by simp; omega
      clear h h1 h2
      go_enter Tryd.func4, Tryd.ntmps4
      go_wp2_with fail
      go_ret
      exact ⟨rfl, (Below.refl _ _).alloc (Nat.le_refl _) _⟩

set_option maxRecDepth 20000 in
set_option maxHeartbeats 1000000 in
/-- the tubing is not valid -/
theorem meetGood_bad (pump : Int) (v fv : Value) (ps : List Pp) (m : Nat) (A' : Option Addr) (c' : Nat) (w : World) (h1 : 1 ≤ ps.length) (h2 : ps.length ≤ 40) (hm : m = ps.length) (hv : PipesAt w.heap.size w v ps) (hG : Gp w) (hb : netB pump ps = false) :
    Calls Tryd.prog 4 #[.agg #[.int .i64 pump, v], .slice A' m c', .int .i64 40] w fun e w' => e = .returned (.bool false) ∧ Below w.heap.size w w' := by
  subst hm
  have c1 : Hid (∀ W, Below w.heap.size w W → Calls Tryd.prog 7 #[.agg #[.int .i64 pump, v]] W fun e w' => ∃ v', e = .returned (.agg #[.int .i64 pump, v']) ∧ PipesAt w'.heap.size w' v' ps ∧ Below W.heap.size W w') :=
    Lib.hid fun W hb => meetNet_ok pump v ps W (by omega) (by omega) ((hv.below hb (Nat.le_refl _)).mono hb.size)
  have c2 : Hid (∀ v W, Below w.heap.size w W → PipesAt W.heap.size W v ps → Calls Tryd.prog 14 #[.agg #[.int .i64 pump, v]] W fun e w' => e = .returned (.int .i64 2) ∧ Below W.heap.size W w') :=
    Lib.hid fun v W hB hp => by
      have := check_any pump v ps W hp (hG.below hB (Nat.le_refl _))
      rw [netE_no hb] at this
      exact this
  obtain ⟨A, c, rfl, _, _⟩ := hv
  obtain ⟨n, hn⟩ : ∃ n, ps.length = n := ⟨_, rfl⟩
  rw [hn] at h1 h2 c1 ⊢
  have hn1 : decide ((n : Int) < 1) = false := by simp; omega
  have hn2 : decide ((40 : Int) < (n : Int)) = false := by simp; omega
  clear hn hb hG
  go_enter Tryd.func4, Tryd.ntmps4
  go_wp2_with fail
  refine (c1.out _ ((Below.refl _ _).alloc (Nat.le_refl _) _)).mono ?_
  rintro e w1 ⟨v', rfl, hp, hb⟩
  have hB := below1 hb
  have HP := Lib.hid hp
  clear hb hp
  go_wp2_with fail
  refine (c2.out _ _ hB HP.out).mono ?_
  rintro e w2 ⟨rfl, hb⟩
  replace hB := hB.trans (hb.mono hB.size)
  clear hb
  go_wp2_with fail
  go_ret
  exact ⟨rfl, hB⟩

set_option maxRecDepth 20000 in
set_option maxHeartbeats 1000000 in
/-- the tubing is valid: all flows are looked at -/
theorem meetGood_rest (pump : Int) (v fv : Value) (ps : List Pp) (fl : List (Int × Int)) (w : World) (h1 : 1 ≤ ps.length) (h2 : ps.length ≤ 40) (hm : fl.length = ps.length) (hv : PipesAt w.heap.size w v ps) (hfv : SetAt w.heap.size w fv fl) (hG : Gp w) (hb : netB pump ps = true) :
    Calls Tryd.prog 4 #[.agg #[.int .i64 pump, v], fv, .int .i64 40] w fun e w' => e = .returned (.bool (flsB fl)) ∧ Below w.heap.size w w' := by
  have c1 : Hid (∀ W, Below w.heap.size w W → Calls Tryd.prog 7 #[.agg #[.int .i64 pump, v]] W fun e w' => ∃ v', e = .returned (.agg #[.int .i64 pump, v']) ∧ PipesAt w'.heap.size w' v' ps ∧ Below W.heap.size W w') :=
    Lib.hid fun W hb => meetNet_ok pump v ps W (by omega) (by omega) ((hv.below hb (Nat.le_refl _)).mono hb.size)
  have c2 : Hid (∀ v W, Below w.heap.size w W → PipesAt W.heap.size W v ps → Calls Tryd.prog 14 #[.agg #[.int .i64 pump, v]] W fun e w' => e = .returned (.int .i64 0) ∧ Below W.heap.size W w') :=
    Lib.hid fun v W hB hp => by
      have := check_any pump v ps W hp (hG.below hB (Nat.le_refl _))
      rw [netE_yes hb] at this
      exact this
  have HOK := Lib.hid (netB_of hb)
  have HNO := Lib.hid (fun (k : Nat) (p : Int × Int) (h : fl[k]? = some p) hp => flsB_no h hp)
  obtain ⟨rb, hrb⟩ : ∃ b, flsB fl = b := ⟨_, rfl⟩
  rw [hrb] at HNO ⊢
  have HRB := Lib.hid hrb
  obtain ⟨A, c, rfl, _, hps⟩ := hv
  obtain ⟨A', c', rfl, hfs⟩ := hfv
  obtain ⟨g, off, rfl, hg, hR⟩ := hps (by omega)
  obtain ⟨g', off', rfl, hg', hR'⟩ := hfs (by omega)
  have HR := Lib.hid hR
  have HR' := Lib.hid hR'
  obtain ⟨n, hn⟩ : ∃ n, ps.length = n := ⟨_, rfl⟩
  have hfn : fl.length = n := hm.trans hn
  rw [hn] at h1 h2 c1 ⊢
  rw [hfn]
  have Hn := Lib.hid hn
  have HFn := Lib.hid hfn
  have hn1 : decide ((n : Int) < 1) = false := by simp; omega
  have hn2 : decide ((40 : Int) < (n : Int)) = false := by simp; omega
  clear hn hb hG hm hps hfs hR hR' hfn hrb
  go_enter Tryd.func4, Tryd.ntmps4
  go_wp2_with fail
  refine (c1.out _ ((Below.refl _ _).alloc (Nat.le_refl _) _)).mono ?_
  rintro e w1 ⟨v', rfl, hp, hb⟩
  have r1 := cell_next hb (b := w.heap.size) (o := 1) (by simp) (v := some (.slice (some ⟨g, off, none⟩) n c)) (by simp [go_sem])
  have hlt : w.heap.size < w1.heap.size := by have := hb.size; simp at this; omega
  have hB := below1 hb
  have HP := Lib.hid hp
  clear hb hp
  go_wp2_with fail
  refine (c2.out _ _ hB HP.out).mono ?_
  rintro e w2 ⟨rfl, hb⟩
  replace r1 := cell_next hb hlt r1
  replace hlt := Nat.lt_of_lt_of_le hlt hb.size
  replace hB := hB.trans (hb.mono hB.size)
  clear hb HP c1 c2 hn1 hn2
  go_wp2_with fail
  obtain ⟨wo, hwo⟩ : ∃ wo : World, wo = w2 := ⟨_, rfl⟩
  go_loopw [7] (fun i wr => ∃ k : Nat, k ≤ n ∧ i = .int .i64 (k : Int) ∧ Hid (flsB (fl.take k) = true) ∧ Below wo.heap.size wo wr) (fun i _ => n - (intOf i).toNat)
  case atStart => exact ⟨0, Nat.zero_le _, rfl, Lib.hid rfl, by rw [hwo]; exact Below.refl _ _⟩
  case round =>
    subst hwo
    obtain ⟨k, hkn, rfl, ho, hBo⟩ := hrel
    replace r1 := cell_next hBo hlt r1
    have hBall := hB.trans (hBo.mono hB.size)
    by_cases hlt2 : (k : Int) < (n : Int)
    · obtain ⟨f, hf⟩ : ∃ f, fl[k]? = some f := ⟨_, List.getElem?_eq_getElem (by rw [HFn.out]; omega)⟩
      obtain ⟨u0, u1⟩ := (HR'.out.below hBall hg') k f hf
      have hp := getElem?_getD p0 (show k < ps.length by rw [Hn.out]; omega)
      obtain ⟨s0, _, _, _, _⟩ := (HR.out.below hBall hg) k _ hp
      have HNk := Lib.hid (HNO.out k f hf)
      have hok : Hid (flsB (fl.take (k + 1)) = flB f) := Lib.hid (by rw [take_snoc' fl k f hf, flsB_snoc, ho.out]; rfl)
      have hfl : Hid (flB f = (decide (0 ≤ f.1) && decide (f.1 ≤ f.2) && decide (f.2 ≤ 1000000000))) := Lib.hid rfl
      obtain ⟨pa, hpa, hpos⟩ : ∃ pa, (ps.getD k p0).pa = pa ∧ (0 < k → 0 ≤ pa ∧ pa < (k : Int)) := ⟨_, rfl, fun h0 => by
        have := HOK.out.par h0 (by rw [Hn.out]; omega)
        omega⟩
      rw [hpa] at s0
      generalize flB f = b at *
      clear hp hf hpa
      by_cases h0 : 0 < k
      · obtain ⟨q1, q2⟩ := hpos h0
        have hk0 : decide ((0 : Int) < (k : Int)) = true := by simp; omega
        have e1 : decide (pa < 0) = false := by simp; omega
        have e2 : decide ((k : Int) ≤ pa) = false := by simp; omega
        clear hpos q1 q2
        cases b
        · have E := Lib.hid (HNk.out rfl)
          by_cases f1 : f.1 < 0
          · clear HNk hfl hok
            have d1 : decide (f.1 < 0) = true := by simp; omega
            clear f1
            go_wp2_with fail
            go_quiet (fail)
            go_wp2_with fail
            go_ret
            exact ⟨(congrArg (fun b => Ending.returned (.bool b)) E.out.symm), below_drewN hBall _⟩
          · by_cases f2 : f.2 < f.1
            · clear HNk hfl hok
              have d1 : decide (f.1 < 0) = false := by simp; omega
              have d2 : decide (f.2 < f.1) = true := by simp; omega
              clear f1 f2
              go_wp2_with fail
              go_quiet (fail)
              go_wp2_with fail
              go_ret
              exact ⟨(congrArg (fun b => Ending.returned (.bool b)) E.out.symm), below_drewN hBall _⟩
            · have f3 : 1000000000 < f.2 := by have h := hfl.out; simp at h; omega
              clear HNk hfl hok
              have d1 : decide (f.1 < 0) = false := by simp; omega
              have d2 : decide (f.2 < f.1) = false := by simp; omega
              have d3 : decide ((1000000000 : Int) < f.2) = true := by simp; omega
              clear f1 f2 f3
              go_wp2_with fail
              go_quiet (fail)
              go_wp2_with fail
              go_ret
              exact ⟨(congrArg (fun b => Ending.returned (.bool b)) E.out.symm), below_drewN hBall _⟩
        · have hx := hfl.out
          simp only [Bool.true_eq, Bool.and_eq_true, decide_eq_true_eq] at hx
          obtain ⟨⟨f1, f2⟩, f3⟩ := hx
          clear HNk hfl
          have d1 : decide (f.1 < 0) = false := by simp; omega
          have d2 : decide (f.2 < f.1) = false := by simp; omega
          have d3 : decide ((1000000000 : Int) < f.2) = false := by simp; omega
          clear f1 f2 f3
          go_wp2_with fail
          go_quiet (fail)
          go_wp2_with fail
          go_roundw
          case rel => exact ⟨k + 1, by omega, by go_num, hok, below_drewN hBo _⟩
          case measure => simp [intOf]; omega
      · have hk0 : decide ((0 : Int) < (k : Int)) = false := by simp; omega
        clear hpos s0
        cases b
        · have E := Lib.hid (HNk.out rfl)
          by_cases f1 : f.1 < 0
          · clear HNk hfl hok
            have d1 : decide (f.1 < 0) = true := by simp; omega
            clear f1
            go_wp2_with fail
            go_quiet (fail)
            go_wp2_with fail
            go_ret
            exact ⟨(congrArg (fun b => Ending.returned (.bool b)) E.out.symm), below_drewN hBall _⟩
          · by_cases f2 : f.2 < f.1
            · clear HNk hfl hok
              have d1 : decide (f.1 < 0) = false := by simp; omega
              have d2 : decide (f.2 < f.1) = true := by simp; omega
              clear f1 f2
              go_wp2_with fail
              go_quiet (fail)
              go_wp2_with fail
              go_ret
              exact ⟨(congrArg (fun b => Ending.returned (.bool b)) E.out.symm), below_drewN hBall _⟩
            · have f3 : 1000000000 < f.2 := by have h := hfl.out; simp at h; omega
              clear HNk hfl hok
              have d1 : decide (f.1 < 0) = false := by simp; omega
              have d2 : decide (f.2 < f.1) = false := by simp; omega
              have d3 : decide ((1000000000 : Int) < f.2) = true := by simp; omega
              clear f1 f2 f3
              go_wp2_with fail
              go_quiet (fail)
              go_wp2_with fail
              go_ret
              exact ⟨(congrArg (fun b => Ending.returned (.bool b)) E.out.symm), below_drewN hBall _⟩
        · have hx := hfl.out
          simp only [Bool.true_eq, Bool.and_eq_true, decide_eq_true_eq] at hx
          obtain ⟨⟨f1, f2⟩, f3⟩ := hx
          clear HNk hfl
          have d1 : decide (f.1 < 0) = false := by simp; omega
          have d2 : decide (f.2 < f.1) = false := by simp; omega
          have d3 : decide ((1000000000 : Int) < f.2) = false := by simp; omega
          clear f1 f2 f3
          go_wp2_with fail
          go_quiet (fail)
          go_wp2_with fail
          go_roundw
          case rel => exact ⟨k + 1, by omega, by go_num, hok, below_drewN hBo _⟩
          case measure => simp [intOf]; omega
    · obtain rfl : k = n := by omega
      have E : Hid (rb = true) := Lib.hid (HRB.out.symm.trans (by have h := ho.out; rwa [List.take_of_length_le (by rw [HFn.out]; exact Nat.le_refl _)] at h))
      go_wp2_with fail
      go_ret
      exact ⟨(congrArg (fun b => Ending.returned (.bool b)) E.out.symm), hBall⟩

theorem meetGood_any (pump : Int) (v fv : Value) (ps : List Pp) (fl : List (Int × Int)) (w : World) (hv : PipesAt w.heap.size w v ps) (hfv : SetAt w.heap.size w fv fl) (hG : Gp w) :
    Calls Tryd.prog 4 #[.agg #[.int .i64 pump, v], fv, .int .i64 40] w fun e w' => e = .returned (.bool (goodB pump ps fl)) ∧ Below w.heap.size w w' := by
  by_cases h : ps.length < 1 ∨ 40 < ps.length ∨ fl.length ≠ ps.length
  · obtain ⟨A, c, rfl, _, _⟩ := hv
    obtain ⟨A', c', rfl, _⟩ := hfv
    rw [show goodB pump ps fl = false from by unfold goodB; rcases h with h | h | h <;> simp <;> omega]
    exact meetGood_early pump A A' _ _ c c' w h
  · by_cases hb : netB pump ps = true
    · rw [show goodB pump ps fl = flsB fl from by unfold goodB; rw [hb, show decide (1 ≤ ps.length) = true from by simp; omega, show decide (ps.length ≤ 40) = true from by simp; omega, show decide (fl.length = ps.length) = true from by simp; omega]; simp]
      exact meetGood_rest pump v fv ps fl w (by omega) (by omega) (by omega) hv hfv hG hb
    · have hbf : netB pump ps = false := by simpa using hb
      rw [show goodB pump ps fl = false from by unfold goodB; rw [hbf]; simp]
      obtain ⟨A', c', rfl, _⟩ := hfv
      exact meetGood_bad pump v (.slice A' fl.length c') ps fl.length A' c' w (by omega) (by omega) (by omega) hv hG hbf
theorem goodB_of {pump : Int} {ps : List Pp} {fl : List (Int × Int)} (h : goodB pump ps fl = true) : 1 ≤ ps.length ∧ ps.length ≤ 40 ∧ fl.length = ps.length ∧ netB pump ps = true ∧ flsB fl = true := by
  unfold goodB at h
  simp only [Bool.and_eq_true, decide_eq_true_eq] at h
  obtain ⟨⟨⟨⟨h1, h2⟩, h3⟩, h4⟩, h5⟩ := h
  exact ⟨h1, h2, h3, h4, h5⟩
end Go.Proofs.YtpphchbokphkdaaDoor
