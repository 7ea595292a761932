/- Contracts: U15, U16, joined. -/
import Derived.Test.YtfdaiififoomoaaJB12
import Derived.Test.YtfdaiififoomoaaJB13
import Derived.Test.YtfdaiififoomoaaJB4
namespace Go.Proofs.Ytfdaiififoomoaa
open Go.RowKit Go.Lib Go.Shelf
set_option linter.unusedVariables false
set_option linter.unusedSimpArgs false
attribute [local go_sem ↓] Go.wp_at_zero Go.wp_at_succ

def gm (l : Lo) : Int × Int := (l.lo, l.hi)
def ag (T : Int) (l : Lo) : Int × Int := (T - l.t, T - l.t)
theorem enters_germs : ∀ args w, (callFunc 40 args).run Try.prog w = .ok (.enter 40 args) w := enters_of Try.func40 (by kernel_rfl) rfl
theorem enters_age : ∀ args w, (callFunc 41 args).run Try.prog w = .ok (.enter 41 args) w := enters_of Try.func41 (by kernel_rfl) rfl
theorem enters_tell1 : ∀ args w, (callFunc 36 args).run Try.prog w = .ok (.enter 36 args) w := enters_of Try.func36 (by kernel_rfl) rfl
theorem enters_tell2 : ∀ args w, (callFunc 37 args).run Try.prog w = .ok (.enter 37 args) w := enters_of Try.func37 (by kernel_rfl) rfl
theorem infoRg : (Try.prog.info? 31).map (fun i => (i.zero, i.size, i.bytes)) = some (some (.agg #[.int .i64 0, .int .i64 0]), 2, 16) := by kernel_rfl
theorem grown_alloc2 {w w' : World} {o p : Obj} {row : Option Nat} (h : ((w.alloc o).alloc p).grownBy w' row) : w.grownBy w' row := grown_alloc (grown_alloc h)

set_option maxRecDepth 20000 in
set_option maxHeartbeats 2000000 in
theorem aroundG (v : Value) (xs : List Lo) (w : World) (hv : LsAt w.heap.size w v xs) (hl : xs.length ≤ 40) :
    Calls Try.prog 39 #[.func (Fn.func 40) #[] #[], v] w fun e w' => e = .returned (.agg #[.int .i64 (huL (xs.map gm)), .int .i64 (huH (xs.map gm))]) ∧ Below w.heap.size w w' := by
  obtain ⟨i0, hi0, hz0, hz1, hz2⟩ := info_parts infoRg
  have HE := enters_germs
  have CF : Hid (∀ l ∈ xs, ∀ W, Below w.heap.size w W → Calls Try.prog 40 #[vL l] W fun e w' => e = .returned (.agg #[.int .i64 (gm l).1, .int .i64 (gm l).2]) ∧ Below W.heap.size W w') := Lib.hid (fun l hm W hb => germs_any l W)
  obtain ⟨A, c, rfl, hr⟩ := hv
  have HM : Hid (∀ k l, xs[k]? = some l → (xs.take (k + 1)).map gm = (xs.take k).map gm ++ [gm l]) := Lib.hid (fun k l h => by rw [List.take_add_one, h, Option.toList_some, List.map_append]; rfl)
  obtain ⟨n, hn⟩ : ∃ n, xs.length = n := ⟨_, rfl⟩
  rw [hn] at hl hr ⊢
  have Hn := Lib.hid hn
  have HR := Lib.hid hr
  have HL : Hid (∀ W v', W.ownsRow (w.heap.size + 1) 31 2 v' n (flat (xs.map gm)) → Calls Try.prog 70 #[v'] W fun e w' => e = .returned (.tuple #[.agg #[.int .i64 (huL (xs.map gm)), .int .i64 (huH (xs.map gm))], .int .i64 (huE (xs.map gm))]) ∧ Below W.heap.size W w') := Lib.hid (fun W v' h => hullAll_any v' (xs.map gm) W (own_row (xs.map gm) n (by simpa using hn) v' W h))
  clear hr hn
  generalize huL (xs.map gm) = rl at *
  generalize huH (xs.map gm) = rh at *
  generalize huE (xs.map gm) = re at *
  go_enter Try.func39, Try.ntmps39
  go_wp2_with fail
  go_loopw [12, 5] (fun i V wr => ∃ k : Nat, k ≤ n ∧ i = .int .i64 k ∧ Hid (wr.ownsRow (w.heap.size + 1) 31 2 V k (flat ((xs.take k).map gm))) ∧ wr.cell? ⟨w.heap.size, 0, none⟩ = some (.int .i64 0) ∧ wr.cell? ⟨w.heap.size, 1, none⟩ = some (.int .i64 0) ∧ wr.frozen? ⟨w.heap.size, 0, none⟩ = false ∧ wr.frozen? ⟨w.heap.size, 1, none⟩ = false ∧ w.heap.size < wr.heap.size ∧ Below w.heap.size w wr) (fun i _ _ => n - (RowKit.intOf i).toNat)
  case atStart =>
    refine ⟨0, Nat.zero_le _, rfl, Lib.hid (World.ownsRow_nil _ _ _ _), by simp [go_sem], by simp [go_sem], by simp [go_sem], by simp [go_sem], by simp, (Below.refl _ _).alloc (Nat.le_refl _) _⟩
  case round =>
    obtain ⟨k, hk, rfl, HO, c0, c1, f0, f1, hz, hbr⟩ := hrel
    by_cases hlt : k < n
    · obtain ⟨⟨a, s, lo, hi, tm⟩, hp⟩ : ∃ p, xs[k]? = some p := ⟨_, List.getElem?_eq_getElem (by rw [Hn.out]; exact hlt)⟩
      obtain ⟨g, off, rfl, hg, hR⟩ := HR.out (by omega)
      have hgw : g < wr.heap.size := by omega
      obtain ⟨q0, q1, q2, q3, q4⟩ := (hR.keep fun o => hbr.cell (p := ⟨g, o, none⟩) hg) k _ hp
      have hC := CF.out _ (List.mem_of_getElem? hp)
      have HMk := Lib.hid (HM.out k _ hp)
      generalize gm ⟨a, s, lo, hi, tm⟩ = y at *
      obtain ⟨y0, y1⟩ := y
      dsimp only at q0 q1 q2 q3 q4 hC
      simp only [vL] at hC
      have HC := Lib.hid hC
      have hOb := World.ownsRow.lt HO.out
      have hz1w : w.heap.size + 1 ≤ wr.heap.size := hz
      clear hR hp hC
      go_wp2_with fail
      refine (HC.out _ (hbr.alloc hbr.size _)).mono ?_
      rintro e w1 ⟨rfl, hb⟩
      have hB1 := below1 hb
      replace HO := Lib.hid (HO.out.kept (row := none) ⟨hB1.os, hB1.tape, hB1.output, hB1.size, fun i hi _ => hB1.block i hi⟩ (by cases h : u5.ownBlock with | none => exact .inl rfl | some g => exact .inr (by simp)))
      replace c0 := cell_next hB1 hz c0
      replace c1 := cell_next hB1 hz c1
      replace f0 := frozen_next hB1 hz f0
      replace f1 := frozen_next hB1 hz f1
      have hzz := hB1.size
      replace hbr := hbr.trans (hB1.mono (by omega))
      clear hb hB1 q0 q1 q2 q3 q4 HC
      go_wp2_with (at_builtin; refine wpList_append_own_at _ rfl (.tmp 16) (.tmp 20) 36 rfl (w.heap.size + 1) 31 i0 (.agg #[.int .i64 0, .int .i64 0]) 2 16 Try.underlying36 hi0 hz0 hz1 hz2 rfl (by decide) u5 k (flat ((xs.take k).map gm)) rfl (World.ownsRow.alloc HO.out _) ⟨w1.heap.size, 0, none⟩ 1 1 [.int .i64 y0, .int .i64 y1] rfl rfl ?_ ?_ ?_ ?_ ?_ ?_)
      case refine_1 =>
        intro j u hj
        rcases j with _ | _ | j
        all_goals simp at hj
        all_goals (subst hj; exact cell_new _ _ _ _)
      case refine_2 => simp [Value.oneCell']
      case refine_3 => unfold maxLen; omega
      case refine_4 => omega
      case refine_5 => simp; omega
      case refine_6 =>
        intro v' w2 hown' hgrow _ hat
        have hg2 := grown_alloc hgrow
        have hKg := Kept.of_grown hg2
        have hne : ¬ (u5.ownBlock = some w.heap.size) := fun h => by have := (hOb _ h).1; omega
        have hz3 : w.heap.size < w1.heap.size := by omega
        replace c0 := (hKg.cell (p := ⟨w.heap.size, 0, none⟩) hz3 hne).trans c0
        replace c1 := (hKg.cell (p := ⟨w.heap.size, 1, none⟩) hz3 hne).trans c1
        replace f0 := (hKg.frozen (p := ⟨w.heap.size, 0, none⟩) hz3 hne).trans f0
        replace f1 := (hKg.frozen (p := ⟨w.heap.size, 1, none⟩) hz3 hne).trans f1
        have hz4 : w.heap.size < w2.heap.size := by have := hg2.size; omega
        replace hbr := hbr.grown hg2 (by omega) (fun g h => by have := (hOb g h).1; omega)
        have HO2 : Hid (w2.ownsRow (w.heap.size + 1) 31 2 v' (k + 1) (flat ((xs.take (k + 1)).map gm))) := Lib.hid (by rw [HMk.out, flat_append, flat_one, List.map_take]; exact hown')
        clear hown' hgrow hat hg2 hKg hne hOb
        go_wp2_with fail
        go_roundw
        case rel => exact ⟨k + 1, by omega, by go_num, HO2, c0, c1, f0, f1, hz4, hbr⟩
        case measure => simp [RowKit.intOf]; omega
    · obtain rfl : k = n := by omega
      have hO : wr.ownsRow (w.heap.size + 1) 31 2 u5 k (flat (xs.map gm)) := by have h := HO.out; rw [List.take_of_length_le (by rw [Hn.out]; exact Nat.le_refl _)] at h; exact h
      have C9 := Lib.hid (HL.out _ _ hO)
      clear hO
      go_wp2_with fail
      refine C9.out.mono ?_
      rintro e w1 ⟨rfl, hb⟩
      replace c0 := cell_next hb hz c0
      replace c1 := cell_next hb hz c1
      replace f0 := frozen_next hb hz f0
      replace f1 := frozen_next hb hz f1
      have hz4 : w.heap.size < w1.heap.size := by have := hb.size; omega
      have hB := hbr.trans (hb.mono hbr.size)
      clear hb C9
      go_wp2_with fail
      refine bodyPost_ret (v := .agg #[.int .i64 rl, .int .i64 rh]) (by simp [results, Try.results39, go_sem, *]) rfl ⟨rfl, ?_⟩
      first
        | exact ((hB.alloc hB.size _).setCell (p := ⟨w.heap.size, 0, none⟩) (by simp) _).setCell (p := ⟨w.heap.size, 1, none⟩) (by simp) _
        | exact ((hB.setCell (p := ⟨w.heap.size, 0, none⟩) (by simp) _).setCell (p := ⟨w.heap.size, 1, none⟩) (by simp) _).alloc (by simp; omega) _

set_option maxRecDepth 20000 in
set_option maxHeartbeats 2000000 in
theorem aroundA (cb : Nat) (T : Int) (hT : 0 ≤ T ∧ T ≤ 1000000) (v : Value) (xs : List Lo) (w : World) (hv : LsAt w.heap.size w v xs) (hl : xs.length ≤ 40) (htt : ∀ l ∈ xs, 0 ≤ l.t ∧ l.t ≤ 1000000) (hcb : cb < w.heap.size) (h5 : w.cell? ⟨cb, 5, none⟩ = some (.int .i64 T)) :
    Calls Try.prog 39 #[.func (Fn.func 41) #[.pointer (some ⟨cb, 0, none⟩)] #[], v] w fun e w' => e = .returned (.agg #[.int .i64 (huL (xs.map (ag T))), .int .i64 (huH (xs.map (ag T)))]) ∧ Below w.heap.size w w' := by
  obtain ⟨i0, hi0, hz0, hz1, hz2⟩ := info_parts infoRg
  have HE := enters_age
  have CF : Hid (∀ l ∈ xs, ∀ W, Below w.heap.size w W → Calls Try.prog 41 #[.pointer (some ⟨cb, 0, none⟩), vL l] W fun e w' => e = .returned (.agg #[.int .i64 ((ag T) l).1, .int .i64 ((ag T) l).2]) ∧ Below W.heap.size W w') := Lib.hid (fun l hm W hb => age_any cb T l hT (htt l hm) W (Nat.lt_of_lt_of_le hcb hb.size) (cell_next hb hcb h5))
  obtain ⟨A, c, rfl, hr⟩ := hv
  have HM : Hid (∀ k l, xs[k]? = some l → (xs.take (k + 1)).map (ag T) = (xs.take k).map (ag T) ++ [(ag T) l]) := Lib.hid (fun k l h => by rw [List.take_add_one, h, Option.toList_some, List.map_append]; rfl)
  obtain ⟨n, hn⟩ : ∃ n, xs.length = n := ⟨_, rfl⟩
  rw [hn] at hl hr ⊢
  have Hn := Lib.hid hn
  have HR := Lib.hid hr
  have HL : Hid (∀ W v', W.ownsRow (w.heap.size + 1) 31 2 v' n (flat (xs.map (ag T))) → Calls Try.prog 70 #[v'] W fun e w' => e = .returned (.tuple #[.agg #[.int .i64 (huL (xs.map (ag T))), .int .i64 (huH (xs.map (ag T)))], .int .i64 (huE (xs.map (ag T)))]) ∧ Below W.heap.size W w') := Lib.hid (fun W v' h => hullAll_any v' (xs.map (ag T)) W (own_row (xs.map (ag T)) n (by simpa using hn) v' W h))
  clear hr hn
  generalize huL (xs.map (ag T)) = rl at *
  generalize huH (xs.map (ag T)) = rh at *
  generalize huE (xs.map (ag T)) = re at *
  go_enter Try.func39, Try.ntmps39
  go_wp2_with fail
  go_loopw [12, 5] (fun i V wr => ∃ k : Nat, k ≤ n ∧ i = .int .i64 k ∧ Hid (wr.ownsRow (w.heap.size + 1) 31 2 V k (flat ((xs.take k).map (ag T)))) ∧ wr.cell? ⟨w.heap.size, 0, none⟩ = some (.int .i64 0) ∧ wr.cell? ⟨w.heap.size, 1, none⟩ = some (.int .i64 0) ∧ wr.frozen? ⟨w.heap.size, 0, none⟩ = false ∧ wr.frozen? ⟨w.heap.size, 1, none⟩ = false ∧ w.heap.size < wr.heap.size ∧ Below w.heap.size w wr) (fun i _ _ => n - (RowKit.intOf i).toNat)
  case atStart =>
    refine ⟨0, Nat.zero_le _, rfl, Lib.hid (World.ownsRow_nil _ _ _ _), by simp [go_sem], by simp [go_sem], by simp [go_sem], by simp [go_sem], by simp, (Below.refl _ _).alloc (Nat.le_refl _) _⟩
  case round =>
    obtain ⟨k, hk, rfl, HO, c0, c1, f0, f1, hz, hbr⟩ := hrel
    by_cases hlt : k < n
    · obtain ⟨⟨a, s, lo, hi, tm⟩, hp⟩ : ∃ p, xs[k]? = some p := ⟨_, List.getElem?_eq_getElem (by rw [Hn.out]; exact hlt)⟩
      obtain ⟨g, off, rfl, hg, hR⟩ := HR.out (by omega)
      have hgw : g < wr.heap.size := by omega
      obtain ⟨q0, q1, q2, q3, q4⟩ := (hR.keep fun o => hbr.cell (p := ⟨g, o, none⟩) hg) k _ hp
      have hC := CF.out _ (List.mem_of_getElem? hp)
      have HMk := Lib.hid (HM.out k _ hp)
      generalize (ag T) ⟨a, s, lo, hi, tm⟩ = y at *
      obtain ⟨y0, y1⟩ := y
      dsimp only at q0 q1 q2 q3 q4 hC
      simp only [vL] at hC
      have HC := Lib.hid hC
      have hOb := World.ownsRow.lt HO.out
      have hz1w : w.heap.size + 1 ≤ wr.heap.size := hz
      clear hR hp hC
      go_wp2_with fail
      refine (HC.out _ (hbr.alloc hbr.size _)).mono ?_
      rintro e w1 ⟨rfl, hb⟩
      have hB1 := below1 hb
      replace HO := Lib.hid (HO.out.kept (row := none) ⟨hB1.os, hB1.tape, hB1.output, hB1.size, fun i hi _ => hB1.block i hi⟩ (by cases h : u5.ownBlock with | none => exact .inl rfl | some g => exact .inr (by simp)))
      replace c0 := cell_next hB1 hz c0
      replace c1 := cell_next hB1 hz c1
      replace f0 := frozen_next hB1 hz f0
      replace f1 := frozen_next hB1 hz f1
      have hzz := hB1.size
      replace hbr := hbr.trans (hB1.mono (by omega))
      clear hb hB1 q0 q1 q2 q3 q4 HC
      go_wp2_with (at_builtin; refine wpList_append_own_at _ rfl (.tmp 16) (.tmp 20) 36 rfl (w.heap.size + 1) 31 i0 (.agg #[.int .i64 0, .int .i64 0]) 2 16 Try.underlying36 hi0 hz0 hz1 hz2 rfl (by decide) u5 k (flat ((xs.take k).map (ag T))) rfl (World.ownsRow.alloc HO.out _) ⟨w1.heap.size, 0, none⟩ 1 1 [.int .i64 y0, .int .i64 y1] rfl rfl ?_ ?_ ?_ ?_ ?_ ?_)
      case refine_1 =>
        intro j u hj
        rcases j with _ | _ | j
        all_goals simp at hj
        all_goals (subst hj; exact cell_new _ _ _ _)
      case refine_2 => simp [Value.oneCell']
      case refine_3 => unfold maxLen; omega
      case refine_4 => omega
      case refine_5 => simp; omega
      case refine_6 =>
        intro v' w2 hown' hgrow _ hat
        have hg2 := grown_alloc hgrow
        have hKg := Kept.of_grown hg2
        have hne : ¬ (u5.ownBlock = some w.heap.size) := fun h => by have := (hOb _ h).1; omega
        have hz3 : w.heap.size < w1.heap.size := by omega
        replace c0 := (hKg.cell (p := ⟨w.heap.size, 0, none⟩) hz3 hne).trans c0
        replace c1 := (hKg.cell (p := ⟨w.heap.size, 1, none⟩) hz3 hne).trans c1
        replace f0 := (hKg.frozen (p := ⟨w.heap.size, 0, none⟩) hz3 hne).trans f0
        replace f1 := (hKg.frozen (p := ⟨w.heap.size, 1, none⟩) hz3 hne).trans f1
        have hz4 : w.heap.size < w2.heap.size := by have := hg2.size; omega
        replace hbr := hbr.grown hg2 (by omega) (fun g h => by have := (hOb g h).1; omega)
        have HO2 : Hid (w2.ownsRow (w.heap.size + 1) 31 2 v' (k + 1) (flat ((xs.take (k + 1)).map (ag T)))) := Lib.hid (by rw [HMk.out, flat_append, flat_one, List.map_take]; exact hown')
        clear hown' hgrow hat hg2 hKg hne hOb
        go_wp2_with fail
        go_roundw
        case rel => exact ⟨k + 1, by omega, by go_num, HO2, c0, c1, f0, f1, hz4, hbr⟩
        case measure => simp [RowKit.intOf]; omega
    · obtain rfl : k = n := by omega
      have hO : wr.ownsRow (w.heap.size + 1) 31 2 u5 k (flat (xs.map (ag T))) := by have h := HO.out; rw [List.take_of_length_le (by rw [Hn.out]; exact Nat.le_refl _)] at h; exact h
      have C9 := Lib.hid (HL.out _ _ hO)
      clear hO
      go_wp2_with fail
      refine C9.out.mono ?_
      rintro e w1 ⟨rfl, hb⟩
      replace c0 := cell_next hb hz c0
      replace c1 := cell_next hb hz c1
      replace f0 := frozen_next hb hz f0
      replace f1 := frozen_next hb hz f1
      have hz4 : w.heap.size < w1.heap.size := by have := hb.size; omega
      have hB := hbr.trans (hb.mono hbr.size)
      clear hb C9
      go_wp2_with fail
      refine bodyPost_ret (v := .agg #[.int .i64 rl, .int .i64 rh]) (by simp [results, Try.results39, go_sem, *]) rfl ⟨rfl, ?_⟩
      first
        | exact ((hB.alloc hB.size _).setCell (p := ⟨w.heap.size, 0, none⟩) (by simp) _).setCell (p := ⟨w.heap.size, 1, none⟩) (by simp) _
        | exact ((hB.setCell (p := ⟨w.heap.size, 0, none⟩) (by simp) _).setCell (p := ⟨w.heap.size, 1, none⟩) (by simp) _).alloc (by simp; omega) _

open Go.RowKit Go.Lib Go.Shelf
set_option linter.unusedVariables false
set_option linter.unusedSimpArgs false
attribute [local go_sem ↓] Go.wp_at_zero Go.wp_at_succ

def cntL (p : Lo → Bool) (xs : List Lo) : Int := ((xs.filter p).length : Nat)
theorem cntL_snoc (p : Lo → Bool) (xs : List Lo) (l : Lo) : cntL p (xs ++ [l]) = cntL p xs + (if p l then 1 else 0) := by
  unfold cntL
  rw [List.filter_append, List.length_append]
  by_cases h : p l = true
  · rw [if_pos h]; simp [h]
  · rw [if_neg h]; simp [h]
theorem cntL_le (p : Lo → Bool) (xs : List Lo) : 0 ≤ cntL p xs ∧ cntL p xs ≤ xs.length := ⟨by unfold cntL; omega, by unfold cntL; have := List.length_filter_le p xs; omega⟩

set_option maxRecDepth 20000 in
set_option maxHeartbeats 1000000 in
theorem tell1_any (pb cb : Nat) (lim : Int) (l : Lo) (w : World) (hp : pb < w.heap.size) (hc : cb < w.heap.size) (h0 : w.cell? ⟨pb, 0, none⟩ = some (.pointer (some ⟨cb, 0, none⟩))) (h1 : w.cell? ⟨cb, 1, none⟩ = some (.int .i64 lim)) :
    Calls Try.prog 36 #[vL l, .pointer (some ⟨pb, 0, none⟩)] w fun e w' => e = .returned (.bool (decide (lim ≤ l.hi))) ∧ Below w.heap.size w w' := by
  obtain ⟨a, s, lo, hi, t⟩ := l
  simp only [vL]
  have hne : pb ≠ w.heap.size := by omega
  have hne1 : cb ≠ w.heap.size := by omega
  obtain ⟨q, hq⟩ : ∃ q, decide (lim ≤ hi) = q := ⟨_, rfl⟩
  go_enter Try.func36, Try.ntmps36
  go_wp2_with fail
  go_region
  all_goals
    go_wp2_with fail
    go_ret
    first | exact ⟨congrArg (fun b => Ending.returned (.bool b)) hq.symm, ((Below.refl _ _).alloc (Nat.le_refl _) _).drew⟩ | exact ⟨rfl, (Below.refl _ _).alloc (Nat.le_refl _) _⟩ | exact ⟨rfl, below_drewN ((Below.refl _ _).alloc (Nat.le_refl _) _) _⟩ | exact ⟨rfl, ((Below.refl _ _).alloc (Nat.le_refl _) _).drew.drew⟩

set_option maxRecDepth 20000 in
set_option maxHeartbeats 2000000 in
theorem count1_any (pb cb : Nat) (lim : Int) (v : Value) (xs : List Lo) (w : World) (hv : LsAt w.heap.size w v xs) (hl : xs.length ≤ 40) (hpb : pb < w.heap.size) (hcb : cb < w.heap.size) (h0 : w.cell? ⟨pb, 0, none⟩ = some (.pointer (some ⟨cb, 0, none⟩))) (h1 : w.cell? ⟨cb, 1, none⟩ = some (.int .i64 lim)) :
    Calls Try.prog 42 #[.func (Fn.func 36) #[] #[.pointer (some ⟨pb, 0, none⟩)], v] w fun e w' => e = .returned (.int .i64 (cntL (fun l => decide (lim ≤ l.hi)) xs)) ∧ Below w.heap.size w w' := by
  have HE := enters_tell1
  have CF : Hid (∀ l W, Below w.heap.size w W → Calls Try.prog 36 #[vL l, .pointer (some ⟨pb, 0, none⟩)] W fun e w' => e = .returned (.bool (decide (lim ≤ l.hi))) ∧ Below W.heap.size W w') := Lib.hid (fun l W hb => tell1_any pb cb lim l W (Nat.lt_of_lt_of_le hpb hb.size) (Nat.lt_of_lt_of_le hcb hb.size) (cell_next hb hpb h0) (cell_next hb hcb h1))
  obtain ⟨p, hp⟩ : ∃ p : Lo → Bool, (fun l => decide (lim ≤ l.hi)) = p := ⟨_, rfl⟩
  have HP : Hid (∀ l, p l = decide (lim ≤ l.hi)) := Lib.hid (fun l => by rw [← hp])
  rw [hp]
  clear hp h0 h1
  obtain ⟨A, c, rfl, hr⟩ := hv
  obtain ⟨n, hn⟩ : ∃ n, xs.length = n := ⟨_, rfl⟩
  rw [hn] at hl hr ⊢
  have Hn := Lib.hid hn
  have HR := Lib.hid hr
  clear hr hn
  go_enter Try.func42, Try.ntmps42
  go_wp2_with fail
  go_loopw [10, 5] (fun i m wr => ∃ (k : Nat) (M : Int), k ≤ n ∧ i = .int .i64 k ∧ m = .int .i64 M ∧ Hid (M = cntL p (xs.take k)) ∧ Hid (0 ≤ M ∧ M ≤ k) ∧ Below w.heap.size w wr) (fun i _ _ => n - (RowKit.intOf i).toNat)
  case atStart => exact ⟨0, 0, Nat.zero_le _, rfl, rfl, Lib.hid rfl, Lib.hid (by simp), Below.refl _ _⟩
  case round =>
    obtain ⟨k, M, hk, rfl, rfl, HM, HB, hbr⟩ := hrel
    by_cases hlt : k < n
    · obtain ⟨⟨a, s, lo, hi, tm⟩, hp⟩ : ∃ p, xs[k]? = some p := ⟨_, List.getElem?_eq_getElem (by rw [Hn.out]; exact hlt)⟩
      obtain ⟨g, off, rfl, hg, hR⟩ := HR.out (by omega)
      have hgw : g < wr.heap.size := by have := hbr.size; omega
      obtain ⟨q0, q1, q2, q3, q4⟩ := (hR.keep fun o => hbr.cell (p := ⟨g, o, none⟩) hg) k _ hp
      have HMk : Hid (cntL p (xs.take (k + 1)) = cntL p (xs.take k) + (if p ⟨a, s, lo, hi, tm⟩ then 1 else 0)) := Lib.hid (by rw [List.take_add_one, hp, Option.toList_some, cntL_snoc])
      have hC := CF.out ⟨a, s, lo, hi, tm⟩
      have hpp := HP.out ⟨a, s, lo, hi, tm⟩
      dsimp only at q0 q1 q2 q3 q4 hC hpp
      simp only [vL] at hC
      rw [← hpp] at hC
      generalize p ⟨a, s, lo, hi, tm⟩ = pp at *
      have HC := Lib.hid hC
      have w1 : IntKind.i64.wrap (M + 1) = M + 1 := IntWalk.i64_in _ (by have := HB.out; omega)
      clear hR hp hC hpp
      cases pp
      all_goals
        go_wp2_with fail
        refine (HC.out _ (hbr.alloc hbr.size _)).mono ?_
        rintro e W1 ⟨rfl, hb⟩
        have hB1 := below1 hb
        replace hbr := hbr.trans (hB1.mono hbr.size)
        clear hb hB1 q0 q1 q2 q3 q4 HC
        go_wp2_with fail
        go_roundw
        case measure => simp [RowKit.intOf]; omega
      · exact ⟨k + 1, M, by omega, by go_num, rfl, Lib.hid (by rw [HMk.out, ← HM.out]; simp), Lib.hid (by have := HB.out; omega), hbr⟩
      · exact ⟨k + 1, M + 1, by omega, by go_num, rfl, Lib.hid (by rw [HMk.out, ← HM.out]; simp), Lib.hid (by have := HB.out; omega), hbr⟩
    · obtain rfl : k = n := by omega
      have hf : M = cntL p xs := by rw [HM.out, List.take_of_length_le (by rw [Hn.out]; exact Nat.le_refl _)]
      have HF := Lib.hid hf
      clear hf
      go_wp2_with fail
      go_ret
      exact ⟨by rw [HF.out]; rfl, hbr⟩

set_option maxRecDepth 20000 in
set_option maxHeartbeats 1000000 in
theorem tell2_any (pb cb : Nat) (lim : Int) (l : Lo) (w : World) (hp : pb < w.heap.size) (hc : cb < w.heap.size) (h0 : w.cell? ⟨pb, 0, none⟩ = some (.pointer (some ⟨cb, 0, none⟩))) (h1 : w.cell? ⟨cb, 1, none⟩ = some (.int .i64 lim)) :
    Calls Try.prog 37 #[vL l, .pointer (some ⟨pb, 0, none⟩)] w fun e w' => e = .returned (.bool (decide (lim ≤ l.lo))) ∧ Below w.heap.size w w' := by
  obtain ⟨a, s, lo, hi, t⟩ := l
  simp only [vL]
  have hne : pb ≠ w.heap.size := by omega
  have hne1 : cb ≠ w.heap.size := by omega
  obtain ⟨q, hq⟩ : ∃ q, decide (lim ≤ lo) = q := ⟨_, rfl⟩
  go_enter Try.func37, Try.ntmps37
  go_wp2_with fail
  go_region
  all_goals
    go_wp2_with fail
    go_ret
    first | exact ⟨congrArg (fun b => Ending.returned (.bool b)) hq.symm, ((Below.refl _ _).alloc (Nat.le_refl _) _).drew⟩ | exact ⟨rfl, (Below.refl _ _).alloc (Nat.le_refl _) _⟩ | exact ⟨rfl, below_drewN ((Below.refl _ _).alloc (Nat.le_refl _) _) _⟩ | exact ⟨rfl, ((Below.refl _ _).alloc (Nat.le_refl _) _).drew.drew⟩

set_option maxRecDepth 20000 in
set_option maxHeartbeats 2000000 in
theorem count2_any (pb cb : Nat) (lim : Int) (v : Value) (xs : List Lo) (w : World) (hv : LsAt w.heap.size w v xs) (hl : xs.length ≤ 40) (hpb : pb < w.heap.size) (hcb : cb < w.heap.size) (h0 : w.cell? ⟨pb, 0, none⟩ = some (.pointer (some ⟨cb, 0, none⟩))) (h1 : w.cell? ⟨cb, 1, none⟩ = some (.int .i64 lim)) :
    Calls Try.prog 42 #[.func (Fn.func 37) #[] #[.pointer (some ⟨pb, 0, none⟩)], v] w fun e w' => e = .returned (.int .i64 (cntL (fun l => decide (lim ≤ l.lo)) xs)) ∧ Below w.heap.size w w' := by
  have HE := enters_tell2
  have CF : Hid (∀ l W, Below w.heap.size w W → Calls Try.prog 37 #[vL l, .pointer (some ⟨pb, 0, none⟩)] W fun e w' => e = .returned (.bool (decide (lim ≤ l.lo))) ∧ Below W.heap.size W w') := Lib.hid (fun l W hb => tell2_any pb cb lim l W (Nat.lt_of_lt_of_le hpb hb.size) (Nat.lt_of_lt_of_le hcb hb.size) (cell_next hb hpb h0) (cell_next hb hcb h1))
  obtain ⟨p, hp⟩ : ∃ p : Lo → Bool, (fun l => decide (lim ≤ l.lo)) = p := ⟨_, rfl⟩
  have HP : Hid (∀ l, p l = decide (lim ≤ l.lo)) := Lib.hid (fun l => by rw [← hp])
  rw [hp]
  clear hp h0 h1
  obtain ⟨A, c, rfl, hr⟩ := hv
  obtain ⟨n, hn⟩ : ∃ n, xs.length = n := ⟨_, rfl⟩
  rw [hn] at hl hr ⊢
  have Hn := Lib.hid hn
  have HR := Lib.hid hr
  clear hr hn
  go_enter Try.func42, Try.ntmps42
  go_wp2_with fail
  go_loopw [10, 5] (fun i m wr => ∃ (k : Nat) (M : Int), k ≤ n ∧ i = .int .i64 k ∧ m = .int .i64 M ∧ Hid (M = cntL p (xs.take k)) ∧ Hid (0 ≤ M ∧ M ≤ k) ∧ Below w.heap.size w wr) (fun i _ _ => n - (RowKit.intOf i).toNat)
  case atStart => exact ⟨0, 0, Nat.zero_le _, rfl, rfl, Lib.hid rfl, Lib.hid (by simp), Below.refl _ _⟩
  case round =>
    obtain ⟨k, M, hk, rfl, rfl, HM, HB, hbr⟩ := hrel
    by_cases hlt : k < n
    · obtain ⟨⟨a, s, lo, hi, tm⟩, hp⟩ : ∃ p, xs[k]? = some p := ⟨_, List.getElem?_eq_getElem (by rw [Hn.out]; exact hlt)⟩
      obtain ⟨g, off, rfl, hg, hR⟩ := HR.out (by omega)
      have hgw : g < wr.heap.size := by have := hbr.size; omega
      obtain ⟨q0, q1, q2, q3, q4⟩ := (hR.keep fun o => hbr.cell (p := ⟨g, o, none⟩) hg) k _ hp
      have HMk : Hid (cntL p (xs.take (k + 1)) = cntL p (xs.take k) + (if p ⟨a, s, lo, hi, tm⟩ then 1 else 0)) := Lib.hid (by rw [List.take_add_one, hp, Option.toList_some, cntL_snoc])
      have hC := CF.out ⟨a, s, lo, hi, tm⟩
      have hpp := HP.out ⟨a, s, lo, hi, tm⟩
      dsimp only at q0 q1 q2 q3 q4 hC hpp
      simp only [vL] at hC
      rw [← hpp] at hC
      generalize p ⟨a, s, lo, hi, tm⟩ = pp at *
      have HC := Lib.hid hC
      have w1 : IntKind.i64.wrap (M + 1) = M + 1 := IntWalk.i64_in _ (by have := HB.out; omega)
      clear hR hp hC hpp
      cases pp
      all_goals
        go_wp2_with fail
        refine (HC.out _ (hbr.alloc hbr.size _)).mono ?_
        rintro e W1 ⟨rfl, hb⟩
        have hB1 := below1 hb
        replace hbr := hbr.trans (hB1.mono hbr.size)
        clear hb hB1 q0 q1 q2 q3 q4 HC
        go_wp2_with fail
        go_roundw
        case measure => simp [RowKit.intOf]; omega
      · exact ⟨k + 1, M, by omega, by go_num, rfl, Lib.hid (by rw [HMk.out, ← HM.out]; simp), Lib.hid (by have := HB.out; omega), hbr⟩
      · exact ⟨k + 1, M + 1, by omega, by go_num, rfl, Lib.hid (by rw [HMk.out, ← HM.out]; simp), Lib.hid (by have := HB.out; omega), hbr⟩
    · obtain rfl : k = n := by omega
      have hf : M = cntL p xs := by rw [HM.out, List.take_of_length_le (by rw [Hn.out]; exact Nat.le_refl _)]
      have HF := Lib.hid hf
      clear hf
      go_wp2_with fail
      go_ret
      exact ⟨by rw [HF.out]; rfl, hbr⟩
end Go.Proofs.Ytfdaiififoomoaa
