/- Plain: what the law finds at each node. -/
import Derived.Test.YtpphchbokphkdaaDoorN9
namespace Go.Proofs.YtpphchbokphkdaaDoor
set_option linter.unusedVariables false
set_option linter.unusedSimpArgs false

theorem sumP_psum (xs : List (Int × Int)) : sumP xs = psum xs := rfl
theorem fit_in {lo hi : Int} (h1 : -1000000000000000 ≤ lo) (h2 : hi ≤ 1000000000000000) : fitL lo hi = lo ∧ fitH lo hi = hi ∧ fitE lo hi = 0 := fit_yes lo hi (by omega) (by omega)
theorem vrB_in {lo hi : Int} (h1 : -1000000000000000 ≤ lo) (h : lo ≤ hi) (h2 : hi ≤ 1000000000000000) : vrB lo hi = true := by simp [vrB]; omega
/-- what comes into a node, and from the nodes behind it that have been looked at -/
def behL (ps : List Pp) (fl : List (Int × Int)) (i m : Nat) : List (Int × Int) := fl.getD i (0, 0) :: (kids (parN ps) (i + 1) m i).map fun k => (loadsL ps fl).getD k (0, 0)
theorem behL_start (ps : List Pp) (fl : List (Int × Int)) (i : Nat) : behL ps fl i (i + 1) = [fl.getD i (0, 0)] := by
  unfold behL; rw [kids_end]; rfl
theorem behL_yes {ps : List Pp} {fl : List (Int × Int)} {i m : Nat} (hm : i + 1 ≤ m) (h : parN ps m = i) : behL ps fl i (m + 1) = behL ps fl i m ++ [(loadsL ps fl).getD m (0, 0)] := by
  unfold behL; rw [kids_snoc _ hm, if_pos h, List.map_append]; rfl
theorem behL_no {ps : List Pp} {fl : List (Int × Int)} {i m : Nat} (hm : i + 1 ≤ m) (h : parN ps m ≠ i) : behL ps fl i (m + 1) = behL ps fl i m := by
  unfold behL; rw [kids_snoc _ hm, if_neg h, List.append_nil]
theorem behL_length (ps : List Pp) (fl : List (Int × Int)) (i m : Nat) : 1 ≤ (behL ps fl i m).length ∧ (behL ps fl i m).length ≤ 1 + (m - (i + 1)) := by
  unfold behL
  have := kids_length (parN ps) (i + 1) m i
  simp only [List.length_cons, List.length_map]
  omega
theorem behL_sum {pump : Int} {ps : List Pp} {fl : List (Int × Int)} (hn : netOk pump ps) (hl : fl.length = ps.length) (h : ∀ i, i < fl.length → flB (fl.getD i (0, 0)) = true) {i : Nat} (hi : i < ps.length) :
    smL (behL ps fl i ps.length) = ((loadsL ps fl).getD i (0, 0)).1 ∧ smH (behL ps fl i ps.length) = ((loadsL ps fl).getD i (0, 0)).2 ∧ smE (behL ps fl i ps.length) = 0 := by
  have hs : sumP (behL ps fl i ps.length) = (loadsL ps fl).getD i (0, 0) := by
    rw [sumP_psum]
    have := ld_all (parN ps) fl (fun k h0 hk => (hn.par h0 (by omega)).2.1) i (by omega)
    rw [hl] at this
    unfold behL
    rw [psum_cons]
    unfold loadsL
    rw [hl]
    exact this.symm
  have hc : chkL (behL ps fl i ps.length) = 0 := by
    refine chkL_yes (by have := (behL_length ps fl i ps.length).2; have := hn.1; omega) ?_
    unfold vrsB
    rw [List.all_eq_true]
    intro q hq
    unfold behL at hq
    rw [List.mem_cons] at hq
    rcases hq with rfl | hq
    · have := flB_of (h i (by omega))
      exact vrB_in (by omega) (by omega) (by omega)
    · rw [List.mem_map] at hq
      obtain ⟨k, hk, rfl⟩ := hq
      have hk2 := (kids_mem hk).2.1
      have := loadsL_bd hn hl h (i := k) hk2
      exact vrB_in (by omega) (by omega) (by omega)
  have hb := loadsL_bd hn hl h hi
  unfold smL smH smE
  rw [if_pos hc, if_pos hc, if_pos hc, hs]
  exact fit_in (by omega) (by omega)
theorem less_at {pump : Int} {ps : List Pp} {fl : List (Int × Int)} (hn : netOk pump ps) (hl : fl.length = ps.length) (h : ∀ i, i < fl.length → flB (fl.getD i (0, 0)) = true) {i : Nat} (h0 : 0 < i) (hi : i < ps.length) (t l : Int × Int) (p : Pp)
    (ht : (vacsL pump ps fl).getD (parN ps i) (0, 0) = t) (hld : (loadsL ps fl).getD i (0, 0) = l) (hp : ps.getD i p0 = p) :
    lsL t.1 t.2 (lossV p l.1) (lossV p l.2) = t.1 - lossV p l.2 ∧ lsH t.1 t.2 (lossV p l.1) (lossV p l.2) = t.2 - lossV p l.1 ∧ lsE t.1 t.2 (lossV p l.1) (lossV p l.2) = 0 := by
  have hpar := (hn.par h0 hi).2.1
  have a := vacsL_bd hn hl h (i := parN ps i) (by omega)
  have b := loadsL_bd hn hl h hi
  have v := hn.valid h0 hi
  have hp2 := hn.2.1
  rw [ht] at a
  rw [hld] at b
  rw [hp] at v
  have m1 := lossV_mono v b.2.1
  have n1 := lossV_bd v b.1 (by omega)
  have n2 := lossV_bd v (by omega) b.2.2
  unfold lsL lsH lsE
  rw [vrB_in (by omega) (by omega) (by omega), vrB_in (lo := lossV p l.1) (by omega) (by omega) (by omega)]
  exact fit_in (by omega) (by omega)
theorem atMost_at {pump : Int} {ps : List Pp} {fl : List (Int × Int)} (hn : netOk pump ps) (hl : fl.length = ps.length) (h : ∀ i, i < fl.length → flB (fl.getD i (0, 0)) = true) {i : Nat} (hi : i < ps.length) (u : Int × Int) (hu : (vacsL pump ps fl).getD i (0, 0) = u) :
    (vrB u.1 u.2 && vrB pump pump) = true ∧ decide (u.2 ≤ pump) = true ∧ decide (u.1 ≤ pump) = true := by
  have a := vacsL_bd hn hl h hi
  rw [hu] at a
  have hp2 := hn.2.1
  rw [vrB_in (by omega) (by omega) (by omega), vrB_in (lo := pump) (by omega) (by omega) (by omega)]
  refine ⟨rfl, by simp; omega, by simp; omega⟩
end Go.Proofs.YtpphchbokphkdaaDoor
