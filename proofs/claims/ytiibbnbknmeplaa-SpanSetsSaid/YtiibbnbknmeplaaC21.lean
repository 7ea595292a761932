/- Contracts: the reference's numbers of one set or the other, of both, of the first one alone. -/
import Derived.Test.YtiibbnbknmeplaaC20
import Derived.Deep.AppendLies
import Derived.Test.YtiibbnbknmeplaaR11
import Derived.Deep.Onto
import Derived.BigRegion
import Derived.Deep.CutRange
namespace Go.Proofs.Ytiibbnbknmeplaa
open Go.RowKit Go.Lib Go.Shelf Go.Sort
set_option linter.unusedVariables false
set_option linter.unusedSimpArgs false
attribute [local go_sem ↓] Go.wp_at_zero Go.wp_at_succ

theorem own_made1 (w : World) (T : TypeId) : (w.alloc (.cells #[] T)).ownsRow w.heap.size T 1 (.slice (some ⟨w.heap.size, 0, none⟩) 0 0) 0 [] :=
  ⟨rfl, .inr ⟨w.heap.size, 0, #[], rfl, Nat.le_refl _, heap_alloc_new w _, Nat.le_refl _, Nat.zero_le _, rfl, rfl⟩⟩
theorem ints_set (L : List Int) (j : Nat) (x : Int) : (ints L).set j (.int .i64 x) = ints (L.set j x) := by simp [ints, List.map_set]
theorem ints_at {L : List Int} {j : Nat} {x : Int} (h : L[j]? = some x) : (ints L)[j]? = some (.int .i64 x) := by simp [ints, h]
theorem ints_length (L : List Int) : (ints L).length = L.length := by simp [ints]
theorem quiet_ex {P : Program} {f : FuncId} {args : Array Value} {w : World} {n : Nat} {v : Value}
    (h : Calls P f args (w.drewN n) fun e w' => e = .returned v ∧ ∃ m, w' = (w.drewN n).drewN m) : Calls P f args (w.drewN n) fun e w'' => e = .returned v ∧ ∃ m, w'' = w.drewN m :=
  h.mono fun _ _ ⟨he, m, hm⟩ => ⟨he, n + m, by rw [hm, World.drewN_drewN]⟩
theorem stepsOf_append (xs ys : List (Int × Int)) : stepsOf (xs ++ ys) = stepsOf xs ++ stepsOf ys := by simp [stepsOf]
/-- way 0: one or the other; 1: both; 2: the first one alone -/
def wayK (way : Nat) (p q : Bool) : Bool := match way with | 0 => p || q | 1 => p && q | _ => p && !q
theorem refAt_bd (K : Bool → Bool → Bool) (xs ys : List (Int × Int)) (S : List Int) (h : ∀ z ∈ S, -10000000000000000 ≤ z ∧ z ≤ 10000000000000000) : ∀ k, (refAt K xs ys S k).length ≤ k ∧ ∀ q ∈ refAt K xs ys S k, -10000000000000001 ≤ q.2 ∧ q.2 ≤ 10000000000000000 := by
  have hd : ∀ j, -10000000000000000 ≤ S.getD j 0 ∧ S.getD j 0 ≤ 10000000000000000 := by
    intro j
    rw [List.getD_eq_getElem?_getD]
    cases hj : S[j]? with
    | none => simp
    | some z => exact h z (List.mem_of_getElem? hj)
  intro k
  induction k with
  | zero => simp [refAt]
  | succ k ih =>
    obtain ⟨i1, i2⟩ := ih
    have d := hd (k + 1)
    unfold refAt
    generalize S.getD (k + 1) 0 = z at *
    generalize S.getD k 0 = y at *
    split
    · unfold rfJ
      cases hp : (refAt K xs ys S k).getLast? with
      | none =>
        refine ⟨by simp, ?_⟩
        intro q hq
        simp at hq
        subst hq
        simp only
        omega
      | some r =>
        simp only
        split
        · refine ⟨by simp; omega, ?_⟩
          intro q hq
          rcases List.mem_append.1 hq with hq | hq
          · exact i2 q (List.dropLast_subset _ hq)
          · simp at hq; subst hq; simp only; omega
        · refine ⟨by simp; omega, ?_⟩
          intro q hq
          rcases List.mem_append.1 hq with hq | hq
          · exact i2 q hq
          · simp at hq; subst hq; simp only; omega
    · exact ⟨by omega, i2⟩
theorem rfJ_nil (y z : Int) : rfJ [] y z = [(y, z - 1)] := rfl
theorem rfJ_set (l : List (Int × Int)) (q : Int × Int) (y z : Int) (h : q.2 + 1 = y) : rfJ (l ++ [q]) y z = l ++ [(q.1, z - 1)] := by simp [rfJ, h]
theorem rfJ_app (l : List (Int × Int)) (q : Int × Int) (y z : Int) (h : ¬ q.2 + 1 = y) : rfJ (l ++ [q]) y z = l ++ [q] ++ [(y, z - 1)] := by simp [rfJ, h]
theorem idx3 (way : Nat) (hw : way < 3) (p q : Bool) (w : World) : (Instr.index 151 (.agg #[.bool (p || q), .bool (p && q), .bool (p && !q)]) (.int .i64 way)).run Try.prog w = .ok (.bool (wayK way p q)) w := by
  rcases way with _ | _ | _ | way
  · kernel_rfl
  · kernel_rfl
  · kernel_rfl
  · omega

set_option maxRecDepth 40000 in
set_option maxHeartbeats 8000000 in
theorem rJoined_any (va vb : Value) (xs ys : List (Int × Int)) (way : Nat) (hway : way < 3) (hsx : setE xs = 0) (hsy : setE ys = 0) (w : World) (hva : SetAt w.heap.size w va xs) (hvb : SetAt w.heap.size w vb ys) :
    Calls Try.prog 77 #[va, vb, .int .i64 way] w (ChoosePost w (joinL (wayK way) xs ys)) := by
  obtain ⟨i0, hi0, hz0, hz1, hz2⟩ := info_parts infoInt
  obtain ⟨j0, hj0, hy0, hy1, hy2⟩ := info_parts infoRange
  obtain ⟨hlx, hvx⟩ := setE_bd hsx
  obtain ⟨hly, hvy⟩ := setE_bd hsy
  obtain ⟨_, hix⟩ := setE_is hsx
  obtain ⟨_, hiy⟩ := setE_is hsy
  have HVX := Lib.hid hvx
  have HVY := Lib.hid hvy
  have HHA := Lib.hid (fun (W : World) (h : Below w.heap.size w W) (x : Int) => rHas_any va xs x (by omega) W ((hva.below h (Nat.le_refl _)).mono h.size))
  have HHB := Lib.hid (fun (W : World) (h : Below w.heap.size w W) (x : Int) => rHas_any vb ys x (by omega) W ((hvb.below h (Nat.le_refl _)).mono h.size))
  have HSB : Hid (∀ z ∈ stepsOf xs ++ stepsOf ys, -10000000000000000 ≤ z ∧ z ≤ 10000000000000000) := Lib.hid (fun z hz => by
    rcases List.mem_append.1 hz with h | h
    · exact mem_stepsOf hix h
    · exact mem_stepsOf hiy h)
  have HJ : Hid (joinL (wayK way) xs ys = cjL (wayK way) xs ys (stepsUp (stepsOf xs ++ stepsOf ys))) := Lib.hid rfl
  generalize joinL (wayK way) xs ys = JL at *
  obtain ⟨A, ca, rfl, hra⟩ := hva
  obtain ⟨B, cb, rfl, hrb⟩ := hvb
  obtain ⟨na, hna⟩ : ∃ n, xs.length = n := ⟨_, rfl⟩
  obtain ⟨nb, hnb⟩ : ∃ n, ys.length = n := ⟨_, rfl⟩
  have hSL : Hid ((stepsOf xs ++ stepsOf ys).length = (na + nb) * 2) := Lib.hid (by rw [List.length_append, stepsOf_length, stepsOf_length, hna, hnb]; omega)
  rw [hna] at hlx hra HHA ⊢
  rw [hnb] at hly hrb HHB ⊢
  have HNA := Lib.hid hna
  have HNB := Lib.hid hnb
  have HRA := Lib.hid hra
  have HRB := Lib.hid hrb
  have HM := Lib.hid (own_made1 w 3)
  clear hna hnb hra hrb hsx hsy hvx hvy hix hiy
  have hw0 : IntKind.i64.wrap ((na : Int) + (nb : Int)) = (na : Int) + (nb : Int) := IntWalk.i64_in _ (by omega)
  go_enter Try.func77, Try.ntmps77
  go_wp2_with fail
  go_loopw [8, 9] (fun s i wr => ∃ k : Nat, k ≤ na + nb ∧ i = .int .i64 k ∧ wr.ownsRow w.heap.size 3 1 s (stepsOf ((xs ++ ys).take k)).length (ints (stepsOf ((xs ++ ys).take k))) ∧ Below w.heap.size w wr) (fun _ i _ => na + nb - (intOf i).toNat)
  case atStart => exact ⟨0, Nat.zero_le _, rfl, HM.out, (Below.refl _ _).alloc (Nat.le_refl _) _⟩
  case round =>
    clear HM
    obtain ⟨k, hk, rfl, hown, hbr⟩ := hrel
    by_cases hlt : (k : Int) < (na : Int) + (nb : Int)
    · obtain ⟨p, hp⟩ : ∃ p, (xs ++ ys)[k]? = some p := ⟨_, List.getElem?_eq_getElem (by rw [List.length_append, HNA.out, HNB.out]; omega)⟩
      have hpv : vrB p.1 p.2 = true := by
        rcases List.mem_append.1 (List.mem_of_getElem? hp) with h | h
        · exact HVX.out p h
        · exact HVY.out p h
      obtain ⟨p1, p2, p3⟩ := vrB_of hpv
      have hnext : Hid (stepsOf ((xs ++ ys).take (k + 1)) = stepsOf ((xs ++ ys).take k) ++ [p.1, p.2 + 1]) := Lib.hid (by rw [take_snoc'' _ k p hp, stepsOf_snoc])
      have hlen : (stepsOf ((xs ++ ys).take k)).length ≤ 800 := by rw [stepsOf_length, List.length_take]; omega
      have HO := Lib.hid hown
      have hz := hbr.size
      clear hown hpv
      generalize stepsOf ((xs ++ ys).take k) = L at *
      have hk0 : (0 : Int) ≤ (k : Int) := by omega
      have hwp : IntKind.i64.wrap (p.2 + 1) = p.2 + 1 := IntWalk.i64_in _ (by omega)
      by_cases hka : (k : Int) < (na : Int)
      · have hpa : xs[k]? = some p := by rw [List.getElem?_append_left (by rw [HNA.out]; omega)] at hp; exact hp
        obtain ⟨g, off, rfl, hg, hc⟩ := HRA.out (by omega)
        obtain ⟨q0, q1⟩ := (hc.below hbr hg) k p hpa
        have hgw : g < wr.heap.size := Nat.lt_of_lt_of_le hg hz
        have q0z : ∀ o, (wr.alloc o).cell? ⟨g, off + k * 2, none⟩ = _ := fun o => (((Below.refl wr.heap.size wr).alloc (Nat.le_refl _) o).cell (p := ⟨g, off + k * 2, none⟩) hgw).trans q0
        have q1z : ∀ o, (wr.alloc o).cell? ⟨g, off + k * 2 + 1, none⟩ = _ := fun o => (((Below.refl wr.heap.size wr).alloc (Nat.le_refl _) o).cell (p := ⟨g, off + k * 2 + 1, none⟩) hgw).trans q1
        clear hc hp hpa
        go_wp2_with (at_builtin; refine wpList_append_own_at _ rfl (.tmp 45) (.tmp 51) 52 rfl w.heap.size 3 i0 (.int .i64 0) 1 8 Try.underlying52 hi0 hz0 hz1 hz2 rfl (by decide) _ L.length (ints L) rfl ((HO.out.alloc _).alloc _) ⟨wr.heap.size + 1, 0, none⟩ 2 2 (ints [p.1, p.2 + 1]) rfl rfl ?_ ?_ ?_ ?_ ?_ ?_)
        case refine_1 =>
          intro j u hj
          rcases j with _ | _ | j
          · simp [ints] at hj; subst hj; first | exact (cell_at _ _ _ _ _ (by first | rfl | simp | omega)) | rfl
          · simp [ints] at hj; subst hj; first | exact (cell_at _ _ _ _ _ (by first | rfl | simp | omega)) | rfl
          · simp [ints] at hj
        case refine_2 => simp [Value.oneCell', ints]
        case refine_3 => unfold maxLen; omega
        case refine_4 => omega
        case refine_5 => (try simp); omega
        case refine_6 =>
          intro v' w7 own7 hgrow _ hat
          have hB7 := ((hbr.alloc hz (.cells #[.int .i64 p.1, .int .i64 p.2] 24)).alloc (by simp; omega) _).grown hgrow (by simp; omega) (fun r hr => (HO.out.lt r hr).1)
          have HO7 := Lib.hid own7
          clear hgrow hat own7
          go_wp2_with fail
          go_roundw
          case rel => exact ⟨k + 1, by omega, by go_num, by rw [hnext.out, ints_append]; simpa using HO7.out, hB7⟩
          case measure => simp [intOf]; omega
      · obtain ⟨j, rfl⟩ : ∃ j, k = na + j := ⟨k - na, by omega⟩
        have hpb : ys[j]? = some p := by rw [List.getElem?_append_right (by rw [HNA.out]; omega), HNA.out, Nat.add_sub_cancel_left] at hp; exact hp
        obtain ⟨g, off, rfl, hg, hc⟩ := HRB.out (by omega)
        obtain ⟨q0, q1⟩ := (hc.below hbr hg) j p hpb
        have hgw : g < wr.heap.size := Nat.lt_of_lt_of_le hg hz
        have q0z : ∀ o, (wr.alloc o).cell? ⟨g, off + j * 2, none⟩ = _ := fun o => (((Below.refl wr.heap.size wr).alloc (Nat.le_refl _) o).cell (p := ⟨g, off + j * 2, none⟩) hgw).trans q0
        have q1z : ∀ o, (wr.alloc o).cell? ⟨g, off + j * 2 + 1, none⟩ = _ := fun o => (((Below.refl wr.heap.size wr).alloc (Nat.le_refl _) o).cell (p := ⟨g, off + j * 2 + 1, none⟩) hgw).trans q1
        have hsub : (na : Int) + (j : Int) - (na : Int) = (j : Int) := by omega
        have hjw : IntKind.i64.wrap (j : Int) = (j : Int) := IntWalk.i64_in _ (by omega)
        have hj00 : (0 : Int) ≤ (j : Int) := by omega
        have hjn : (j : Int) < (nb : Int) := by omega
        have hnot : decide ((na : Int) + (j : Int) < (na : Int)) = false := by simp; omega
        clear hc hp hpb
        go_wp2_with (at_builtin; refine wpList_append_own_at _ rfl (.tmp 45) (.tmp 51) 52 rfl w.heap.size 3 i0 (.int .i64 0) 1 8 Try.underlying52 hi0 hz0 hz1 hz2 rfl (by decide) _ L.length (ints L) rfl ((HO.out.alloc _).alloc _) ⟨wr.heap.size + 1, 0, none⟩ 2 2 (ints [p.1, p.2 + 1]) rfl rfl ?_ ?_ ?_ ?_ ?_ ?_)
        case refine_1 =>
          intro j u hj
          rcases j with _ | _ | j
          · simp [ints] at hj; subst hj; first | exact (cell_at _ _ _ _ _ (by first | rfl | simp | omega)) | rfl
          · simp [ints] at hj; subst hj; first | exact (cell_at _ _ _ _ _ (by first | rfl | simp | omega)) | rfl
          · simp [ints] at hj
        case refine_2 => simp [Value.oneCell', ints]
        case refine_3 => unfold maxLen; omega
        case refine_4 => omega
        case refine_5 => (try simp); omega
        case refine_6 =>
          intro v' w7 own7 hgrow _ hat
          have hB7 := ((hbr.alloc hz (.cells #[.int .i64 p.1, .int .i64 p.2] 24)).alloc (by simp; omega) _).grown hgrow (by simp; omega) (fun r hr => (HO.out.lt r hr).1)
          have HO7 := Lib.hid own7
          clear hgrow hat own7
          go_wp2_with fail
          go_roundw
          case rel => exact ⟨na + j + 1, by omega, by go_num, by rw [hnext.out, ints_append]; simpa using HO7.out, hB7⟩
          case measure => simp [intOf]; omega
    · have hT : (xs ++ ys).take k = xs ++ ys := List.take_of_length_le (by rw [List.length_append, HNA.out, HNB.out]; omega)
      rw [hT, stepsOf_append] at hown
      have hN := hSL.out
      generalize stepsOf xs ++ stepsOf ys = S0 at *
      obtain ⟨N, hNN⟩ : ∃ N, S0.length = N := ⟨_, rfl⟩
      rw [hNN] at hown hN
      have HN := Lib.hid hNN
      obtain ⟨VA, VC, rfl, _⟩ := own_ints (by rw [← hNN] at hown; exact hown)
      rw [hNN] at hown ⊢
      have HO := Lib.hid hown
      clear hown hNN hT
      have hN8 : N ≤ 800 := by omega
      clear hN
      have hb0 := hbr
      clear hbr
      go_wp2_with fail
      go_loopw [11] (fun i wr => ∃ (i' : Nat) (L : List Int), 1 ≤ i' ∧ (i' ≤ N ∨ i' = 1) ∧ i = .int .i64 i' ∧ wr.ownsRow w.heap.size 3 1 (.slice VA N VC) N (ints L) ∧ Hid (L.length = N) ∧ Hid (S0.Perm L) ∧ Hid (UpTo L i') ∧ Below w.heap.size w wr) (fun i _ => N + 1 - (intOf i).toNat)
      case atStart => exact ⟨1, S0, by omega, .inr rfl, rfl, HO.out, HN, Lib.hid (List.Perm.refl _), Lib.hid (upTo_one _), hb0⟩
      case round =>
        clear HO hb0
        obtain ⟨i, L, hi1, hiN, rfl, hown, hLN, hperm, hup, hbr⟩ := hrel
        by_cases hlt : (i : Int) < (N : Int)
        · have HO := Lib.hid hown
          have hb1 := hbr
          have hun := hup.out
          have HUB : Hid (UpBut L i i) := Lib.hid (upBut_in hun)
          clear hown hun hup hbr
          go_wp2_with fail
          go_loopw [12] (fun j wr => ∃ (j' : Nat) (L' : List Int), j' ≤ i ∧ j = .int .i64 j' ∧ wr.ownsRow w.heap.size 3 1 (.slice VA N VC) N (ints L') ∧ Hid (L'.length = N) ∧ Hid (S0.Perm L') ∧ Hid (UpBut L' i j') ∧ Below w.heap.size w wr) (fun j _ => (intOf j).toNat)
          case atStart => exact ⟨i, L, Nat.le_refl _, rfl, HO.out, hLN, hperm, HUB, hb1⟩
          case round =>
            clear HO hb1 hLN hperm HUB
            obtain ⟨j, L', hji, rfl, hown, hLN, hperm, hub, hbr⟩ := hrel
            cases j with
            | zero =>
              have HUP : Hid (UpTo L' (i + 1)) := Lib.hid (upBut_zero hub.out)
              have HO := Lib.hid hown
              clear hown hub
              go_wp2_with fail
              go_quiet (fail)
              go_wp2_with fail
              go_roundw
              case rel => exact ⟨i + 1, L', by omega, by omega, by go_num, HO.out, hLN, hperm, HUP, below_drewN hbr _⟩
              case measure => simp [intOf]; omega
            | succ j =>
              obtain ⟨x, hx⟩ : ∃ x, L'[j]? = some x := ⟨_, List.getElem?_eq_getElem (by rw [hLN.out]; omega)⟩
              obtain ⟨y, hy⟩ : ∃ y, L'[j + 1]? = some y := ⟨_, List.getElem?_eq_getElem (by rw [hLN.out]; omega)⟩
              obtain ⟨gb, capb, hgb, _, _⟩ := hown.form (by omega)
              injection hgb with hgb1 hgb2 hgb3
              subst hgb1 hgb3
              have cx := (hown.cellAt j (by omega)).trans (ints_at hx)
              have cy := (hown.cellAt (j + 1) (by omega)).trans (ints_at hy)
              have fx := hown.frozenAt j
              have fy := hown.frozenAt (j + 1)
              have hgl := hown.lt gb rfl
              have hg1 := hgl.1
              have hg2 := hgl.2
              have HO := Lib.hid hown
              have hz := hbr.size
              have hj0 : (0 : Int) ≤ (j : Int) := by omega
              have hj1 : (0 : Int) < (j : Int) + 1 := by omega
              have hj2 : (0 : Int) ≤ (j : Int) + 1 := by omega
              have hj3 : (j : Int) + 1 < (N : Int) := by omega
              have hj4 : (j : Int) < (N : Int) := by omega
              have hwj : IntKind.i64.wrap (j : Int) = (j : Int) := IntWalk.i64_in _ (by omega)
              by_cases hxy : y < x
              · have HUB : Hid (UpBut ((L'.set (j + 1) x).set j y) i j) := Lib.hid (upBut_swap hub.out hx hy (by omega) hxy)
                have HP : Hid (S0.Perm ((L'.set (j + 1) x).set j y)) := Lib.hid (hperm.out.trans (swap_perm L' j x y hx hy))
                have HL2 : Hid (((L'.set (j + 1) x).set j y).length = N) := Lib.hid (by rw [List.length_set, List.length_set, hLN.out])
                have h1 := ((hown.stored (j + 1) (.int .i64 x)).1.stored j (.int .i64 y)).1
                rw [ints_set, ints_set] at h1
                have HO2 := Lib.hid h1
                have hB2 := Lib.hid ((hbr.setCell (p := ⟨gb, j + 1, none⟩) hg1 (.int .i64 x)).setCell (p := ⟨gb, j, none⟩) hg1 (.int .i64 y))
                clear hown hub hperm hLN hgl hx hy h1
                go_wp2_with fail
                go_quiet (fail)
                go_wp2_with fail
                go_region
                all_goals
                  go_wp2_with fail
                  go_roundw
                case rel =>
                  have b2 := hB2.out
                  exact ⟨j, _, by omega, by go_num, HO2.out, HL2, HP, HUB, ⟨b2.os, b2.tape, b2.output, b2.size, b2.block⟩⟩
                case measure => simp [intOf] <;> omega
              · have HUP : Hid (UpTo L' (i + 1)) := Lib.hid (upBut_out hub.out hx hy (by omega))
                have hxy' : decide (y < x) = false := by simpa using hxy
                clear hown hub hgl hx hy
                go_wp2_with fail
                go_quiet (fail)
                go_wp2_with fail
                go_roundw
                case rel => exact ⟨i + 1, L', by omega, by omega, by go_num, HO.out, hLN, hperm, HUP, below_drewN hbr _⟩
                case measure => simp [intOf]; omega
        · obtain ⟨wo, hwo⟩ : ∃ wo : World, wo = wr := ⟨_, rfl⟩
          subst hwo
          have hS : Hid (UpTo L L.length) := Lib.hid (by
            have h := hup.out
            rcases hiN with h1 | h1
            · have : i = N := by omega
              rw [hLN.out, ← this]; exact h
            · intro a b u v h3 h4
              have := hLN.out
              omega)
          have hSrt : Hid (stepsUp S0 = Lib.compact L) := Lib.hid (by unfold stepsUp; rw [← sorted_is S0 L hperm.out (upTo_all hS.out)])
          have hRef : Hid (JL = refAt (wayK way) xs ys L (N - 1)) := Lib.hid (by rw [HJ.out, hSrt.out, ← refAt_all _ _ _ _ (upTo_all hS.out), hLN.out])
          have HLB : Hid (∀ z ∈ L, -10000000000000000 ≤ z ∧ z ≤ 10000000000000000) := Lib.hid (fun z hz => HSB.out z (hperm.out.symm.subset hz))
          have HLS := Lib.hid (upTo_all hS.out)
          have HCell : Hid (∀ W : World, Below wo.heap.size wo W → 0 < N → ∃ g, VA = some ⟨g, 0, none⟩ ∧ g < wo.heap.size ∧ ∀ (j : Nat) (z : Int), L[j]? = some z → W.cell? ⟨g, j, none⟩ = some (.int .i64 z)) := Lib.hid (fun W hb h0 => by
            obtain ⟨g, cap, hv, hg1, hg2⟩ := hown.form h0
            injection hv with hv1 hv2 hv3
            subst hv1 hv3
            have hg := (hown.lt g rfl).2
            refine ⟨g, rfl, hg, fun j z hz => ?_⟩
            have hj : j < N * 1 := by have := (List.getElem?_eq_some_iff.1 hz).1; rw [hLN.out] at this; omega
            exact cell_next hb hg ((hown.cellAt j hj).trans (ints_at hz)))
          have HBD := Lib.hid (fun k => refAt_bd (wayK way) xs ys L HLB.out k)
          have HStep : Hid (∀ (k : Nat) (y z : Int), L[k]? = some y → L[k + 1]? = some z → refAt (wayK way) xs ys L (k + 1) = if wayK way (memB xs y) (memB ys y) && !(y == z) then rfJ (refAt (wayK way) xs ys L k) y z else refAt (wayK way) xs ys L k) := Lib.hid (fun k y z hy hz => by
            rw [refAt, List.getD_eq_getElem?_getD, List.getD_eq_getElem?_getD, hy, hz]
            rfl)
          have HZ : Hid (refAt (wayK way) xs ys L 0 = []) := Lib.hid rfl
          generalize refAt (wayK way) xs ys L = RF at *
          have HIX := Lib.hid (idx3 way hway)
          have HM2 := Lib.hid (own_made wo 24)
          have hbw := hbr
          have hB2 : Below wo.heap.size wo (wo.alloc (.cells #[] 24)) := (Below.refl _ _).alloc (Nat.le_refl _) _
          clear hown hbr hup hperm HJ HSB hSL HLS hS hSrt
          go_wp2_with fail
          go_loopw [13, 14] (fun o i wr => ∃ k : Nat, (k + 1 ≤ N ∨ k = 0) ∧ i = .int .i64 k ∧ wr.ownsRow wo.heap.size 24 2 o (RF k).length (flat (RF k)) ∧ Below wo.heap.size wo wr) (fun _ i _ => N - (intOf i).toNat)
          case atStart => exact ⟨0, .inr rfl, rfl, by rw [HZ.out]; exact HM2.out, hB2⟩
          case round =>
            clear HM2 hB2
            obtain ⟨k4, hk4, rfl, hown, hbq⟩ := hrel
            by_cases hlt4 : (k4 : Int) + 1 < (N : Int)
            · obtain ⟨y, hy⟩ : ∃ y, L[k4]? = some y := ⟨_, List.getElem?_eq_getElem (by rw [hLN.out]; omega)⟩
              obtain ⟨z, hz⟩ : ∃ z, L[k4 + 1]? = some z := ⟨_, List.getElem?_eq_getElem (by rw [hLN.out]; omega)⟩
              obtain ⟨gb, rfl, hgbw, hcell⟩ := HCell.out wr hbq (by omega)
              have cy := hcell k4 y hy
              have cz := hcell (k4 + 1) z hz
              have zb := HLB.out z (List.mem_of_getElem? hz)
              have yb := HLB.out y (List.mem_of_getElem? hy)
              have hnext := HStep.out k4 y z hy hz
              have hB := hbw.trans (hbq.mono hbw.size)
              have HXA : Hid (∀ n, Calls Try.prog 133 #[.slice A na ca, .int .i64 y] (wr.drewN n) fun e w' => e = .returned (.bool (memB xs y)) ∧ ∃ m, w' = (wr.drewN n).drewN m) := Lib.hid (fun n => HHA.out _ (below_drewN hB n) y)
              have HXB : Hid (∀ n, Calls Try.prog 133 #[.slice B nb cb, .int .i64 y] (wr.drewN n) fun e w' => e = .returned (.bool (memB ys y)) ∧ ∃ m, w' = (wr.drewN n).drewN m) := Lib.hid (fun n => HHB.out _ (below_drewN hB n) y)
              have HI := HIX.out (memB xs y) (memB ys y)
              obtain ⟨r, hr⟩ : ∃ r, wayK way (memB xs y) (memB ys y) = r := ⟨_, rfl⟩
              rw [hr] at hnext HI
              generalize memB xs y = p at *
              generalize memB ys y = q at *
              have HNX := Lib.hid hnext
              have HO := Lib.hid hown
              have hbd := HBD.out k4
              obtain ⟨hlen, hbd2⟩ := hbd
              have Hbd2 := Lib.hid hbd2
              have hk0 : (0 : Int) ≤ (k4 : Int) := by omega
              have hk1 : (0 : Int) ≤ (k4 : Int) + 1 := by omega
              have hkn : (k4 : Int) < (N : Int) := by omega
              have hwk : IntKind.i64.wrap ((k4 : Int) + 1) = (k4 : Int) + 1 := IntWalk.i64_in _ (by omega)
              have hzq := hbq.size
              clear hr hy hz hcell hnext hown hbd2 hB hk4
              go_wp2_with fail
              go_quiet ((go_at_call 133; first | (with_reducible exact quiet_ex (HXA.out _)) | (with_reducible exact quiet_ex (HXB.out _))))
              go_upto_region 22 with fail
              go_cut [17] from 93 to 184 (fun s wx => s = .bool r ∧ Hid (∃ m, wx = wr.drewN m))
              case first =>
                cases p <;> cases q
                all_goals
                  simp only [Bool.or_true, Bool.or_false, Bool.and_true, Bool.and_false, Bool.not_true, Bool.not_false] at HI
                  go_wp2_with fail
                  go_meet
                  exact ⟨rfl, Lib.hid ⟨_, rfl⟩⟩
              case rest =>
                obtain ⟨rfl, hw⟩ := hcut
                have HOW : Hid (wc.ownsRow wo.heap.size 24 2 u13 (RF k4).length (flat (RF k4))) := Lib.hid (by obtain ⟨m, rfl⟩ := hw.out; exact HO.out)
                have dy : wc.cell? ⟨gb, k4, none⟩ = some (.int .i64 y) := by obtain ⟨m, rfl⟩ := hw.out; exact cy
                have dz : wc.cell? ⟨gb, k4 + 1, none⟩ = some (.int .i64 z) := by obtain ⟨m, rfl⟩ := hw.out; exact cz
                have hbc : Below wo.heap.size wo wc := by obtain ⟨m, rfl⟩ := hw.out; exact below_drewN hbq m
                have hgc : gb < wc.heap.size := Nat.lt_of_lt_of_le hgbw hbc.size
                have hzc := hbc.size
                clear hw cy cz hbq HO HXA HXB hzq
                cases r
                · have hn2 := HNX.out
                  simp only [Bool.false_and, Bool.false_eq_true, if_false] at hn2
                  have HN2 := Lib.hid hn2
                  clear hn2 HNX
                  go_wp2_with fail
                  go_quiet (fail)
                  go_wp2_with fail
                  go_roundw
                  case rel => exact ⟨k4 + 1, by omega, by go_num, by rw [HN2.out]; exact HOW.out, below_drewN hbc _⟩
                  case measure => simp [intOf]; omega
                · by_cases hyz : y = z
                  · have hn2 := HNX.out
                    rw [show (true && !(y == z)) = false from by simp [hyz]] at hn2
                    simp only [Bool.false_eq_true, if_false] at hn2
                    have HN2 := Lib.hid hn2
                    have hyz' : (y == z) = true := by simp [hyz]
                    have HYZ := Lib.hid hyz
                    clear hn2 HNX hyz
                    go_wp2_with fail
                    go_quiet (fail)
                    go_wp2_with fail
                    go_roundw
                    case rel => exact ⟨k4 + 1, by omega, by go_num, by rw [HN2.out]; exact HOW.out, below_drewN hbc _⟩
                    case measure => simp [intOf]; omega
                  · have hn2 := HNX.out
                    rw [show (true && !(y == z)) = true from by simp [hyz]] at hn2
                    simp only [if_true] at hn2
                    have HN2 := Lib.hid hn2
                    have hyz' : (y == z) = false := by simp [hyz]
                    have hwz : IntKind.i64.wrap (z - 1) = z - 1 := IntWalk.i64_in _ (by omega)
                    clear hn2 HNX hyz
                    obtain ⟨RL, hRL⟩ : ∃ RL, RF k4 = RL := ⟨_, rfl⟩
                    rw [hRL] at HN2 HOW hlen Hbd2
                    clear hRL
                    rcases List.eq_nil_or_concat RL with rfl | ⟨ls, q, rfl⟩
                    · have HN3 : Hid (RF (k4 + 1) = [(y, z - 1)]) := Lib.hid (HN2.out.trans (rfJ_nil y z))
                      obtain ⟨c', A', rfl⟩ : ∃ (c : Nat) (A : Option Addr), u13 = .slice A 0 c := by
                        rcases HOW.out.2 with ⟨rfl, _⟩ | ⟨g, cap, cur, rfl, _⟩
                        · exact ⟨_, _, rfl⟩
                        · exact ⟨_, _, rfl⟩
                      clear HN2 Hbd2
                      go_wp2_with fail
                      go_quiet (fail)
                      have HOD : Hid ((wc.drewN nq).ownsRow wo.heap.size 24 2 (.slice A' 0 c') 0 (flat [])) := Lib.hid HOW.out
                      have dy1 : (wc.drewN nq).cell? ⟨gb, k4, none⟩ = some (.int .i64 y) := dy
                      have dz1 : (wc.drewN nq).cell? ⟨gb, k4 + 1, none⟩ = some (.int .i64 z) := dz
                      have hbd1 : Below wo.heap.size wo (wc.drewN nq) := below_drewN hbc _
                      have hgd1 : gb < (wc.drewN nq).heap.size := hgc
                      have hzd1 : wo.heap.size ≤ (wc.drewN nq).heap.size := hzc
                      clear dy dz hbc hgc hzc HOW
                      generalize wc.drewN nq = wd at *
                      go_wp2_with fail
                      go_quiet (fail)
                      go_wp2_with fail
                      have hS : (wd.drewN nq).cell? ⟨gb, k4, none⟩ = some (.int .i64 y) ∧ (wd.drewN nq).cell? ⟨gb, k4 + 1, none⟩ = some (.int .i64 z) ∧ Fr gb wo (wd.drewN nq) := ⟨dy1, dz1, below_drewN hbd1 _, hgd1⟩
                      have HOX : Hid ((wd.drewN nq).drew.ownsRow wo.heap.size 24 2 (.slice A' 0 c') 0 (flat [])) := Lib.hid HOD.out
                      refine wp_region_held_drew (S := fun w' => w'.cell? ⟨gb, k4, none⟩ = some (.int .i64 y) ∧ w'.cell? ⟨gb, k4 + 1, none⟩ = some (.int .i64 z) ∧ Fr gb wo w') (by kernel_rfl) ?_ (fun hHeld => ?_)
                      focus (exact keepf (Below.drew (Below.refl _ _)) hS)
                      refine take_slot (i := 0) (d := 171) (v := ?_) rfl rfl (by kernel_rfl) (by kernel_rfl) (by kernel_rfl) (fun _ _ _ h => h) (Or.inl ⟨by rfl, ?_⟩) (by assumption) ?_
                      rotate_left 1
                      focus (intro wS hSw; (try dsimp only at hSw); go_simp; try with_reducible rfl)
                      try simp only [List.setIfInBounds_toArray, List.set_cons_zero, List.set_cons_succ]
                      refine take_slot (i := 1) (d := 172) (v := ?_) rfl rfl (by kernel_rfl) (by kernel_rfl) (by kernel_rfl) (fun _ _ _ h => h) (Or.inl ⟨by rfl, ?_⟩) (by assumption) ?_
                      rotate_left 1
                      focus (intro wS hSw; (try dsimp only at hSw); go_simp; try with_reducible rfl)
                      try simp only [List.setIfInBounds_toArray, List.set_cons_zero, List.set_cons_succ]
                      refine take_slot (i := 2) (d := 173) (v := ?_) rfl rfl (by kernel_rfl) (by kernel_rfl) (by kernel_rfl) (fun _ _ _ h => h) (Or.inl ⟨by rfl, ?_⟩) (by assumption) ?_
                      rotate_left 1
                      focus (intro wS hSw; (try dsimp only at hSw); go_simp; try with_reducible rfl)
                      try simp only [List.setIfInBounds_toArray, List.set_cons_zero, List.set_cons_succ]
                      refine take_slot (i := 3) (d := 174) (v := ?_) rfl rfl (by kernel_rfl) (by kernel_rfl) (by kernel_rfl) (fun _ _ _ h => h) (Or.inl ⟨by rfl, ?_⟩) (by assumption) ?_
                      rotate_left 1
                      focus (intro wS hSw; (try dsimp only at hSw); go_simp; try with_reducible rfl)
                      try simp only [List.setIfInBounds_toArray, List.set_cons_zero, List.set_cons_succ]
                      refine take_slot (i := 4) (d := 175) (v := ?_) rfl rfl (by kernel_rfl) (by kernel_rfl) (by kernel_rfl) (fun _ _ _ h => h) (Or.inl ⟨by rfl, ?_⟩) (by assumption) ?_
                      rotate_left 1
                      focus (intro wS hSw; (try dsimp only at hSw); go_simp; try with_reducible rfl)
                      try simp only [List.setIfInBounds_toArray, List.set_cons_zero, List.set_cons_succ]
                      refine take_slot (i := 5) (d := 176) (v := ?_) rfl rfl (by kernel_rfl) (by kernel_rfl) (by kernel_rfl) (fun _ _ _ h => h) (Or.inl ⟨by rfl, ?_⟩) (by assumption) ?_
                      rotate_left 1
                      focus (intro wS hSw; (try dsimp only at hSw); go_simp; try with_reducible rfl)
                      try simp only [List.setIfInBounds_toArray, List.set_cons_zero, List.set_cons_succ]
                      refine take_slot (i := 6) (d := 177) (v := ?_) rfl rfl (by kernel_rfl) (by kernel_rfl) (by kernel_rfl) (fun _ _ _ h => h) (Or.inl ⟨by rfl, ?_⟩) (by assumption) ?_
                      rotate_left 1
                      focus (intro wS hSw; (try dsimp only at hSw); go_simp; try with_reducible rfl)
                      try simp only [List.setIfInBounds_toArray, List.set_cons_zero, List.set_cons_succ]
                      refine take_slot (i := 7) (d := 178) (v := ?_) rfl rfl (by kernel_rfl) (by kernel_rfl) (by kernel_rfl) (fun _ _ _ h => h) (Or.inl ⟨by rfl, ?_⟩) (by assumption) ?_
                      rotate_left 1
                      focus (intro wS hSw; (try dsimp only at hSw); go_simp; try with_reducible rfl)
                      try simp only [List.setIfInBounds_toArray, List.set_cons_zero, List.set_cons_succ]
                      refine take_slot (i := 8) (d := 179) (v := ?_) rfl rfl (by kernel_rfl) (by kernel_rfl) (by kernel_rfl) (fun _ _ _ h => h) (Or.inl ⟨by rfl, ?_⟩) (by assumption) ?_
                      rotate_left 1
                      focus (intro wS hSw; (try dsimp only at hSw); go_simp; try with_reducible rfl)
                      try simp only [List.setIfInBounds_toArray, List.set_cons_zero, List.set_cons_succ]
                      refine take_slot (i := 9) (d := 180) (v := ?_) rfl rfl (by kernel_rfl) (by kernel_rfl) (by kernel_rfl) (fun _ _ _ h => h) (Or.inl ⟨by rfl, ?_⟩) (by assumption) ?_
                      rotate_left 1
                      focus (intro wS hSw; (try dsimp only at hSw); go_simp; try with_reducible rfl)
                      try simp only [List.setIfInBounds_toArray, List.set_cons_zero, List.set_cons_succ]
                      refine take_slot (i := 10) (d := 181) (v := ?_) rfl rfl (by kernel_rfl) (by kernel_rfl) (by kernel_rfl) (fun _ _ _ h => h) (Or.inl ⟨by rfl, ?_⟩) (by assumption) ?_
                      rotate_left 1
                      focus (intro wS hSw; (try dsimp only at hSw); go_simp; try with_reducible rfl)
                      try simp only [List.setIfInBounds_toArray, List.set_cons_zero, List.set_cons_succ]
                      refine take_slot (i := 11) (d := 182) (v := ?_) rfl rfl (by kernel_rfl) (by kernel_rfl) (by kernel_rfl) (fun _ _ _ h => h) (Or.inl ⟨by rfl, ?_⟩) (by assumption) ?_
                      rotate_left 1
                      focus (intro wS hSw; (try dsimp only at hSw); go_simp; try with_reducible rfl)
                      try simp only [List.setIfInBounds_toArray, List.set_cons_zero, List.set_cons_succ]
                      refine wpAnyH_ready (rs := [12]) (by kernel_rfl) (by simp) ?_
                      refine AllReadyH.cons rfl (fun K hK => ?_) AllReadyH.nil
                      go_simp
                      skip
                      refine hK.out _ _ ?_ (fun hHeld => ?_)
                      focus (exact keepf ((Below.refl _ _).alloc (Nat.le_refl _) _) (by assumption))
                      clear hK K
                      try simp only [Act.put, List.setIfInBounds_toArray, List.set_cons_zero, List.set_cons_succ]
                      refine wpAnyH_ready (rs := [13]) (by kernel_rfl) (by simp) ?_
                      refine AllReadyH.cons rfl (fun K hK => ?_) AllReadyH.nil
                      refine step_append_lies _ rfl (.tmp 171) (.tmp 183) 22 rfl wo.heap.size 24 j0 (.agg #[.int .i64 0, .int .i64 0]) 2 16 Try.underlying22 hj0 hy0 hy1 hy2 rfl (by decide) _ 0 (flat []) rfl (World.ownsRow.alloc HOX.out _) ⟨_, 0, none⟩ 1 1 [.int .i64 y, .int .i64 (z - 1)] rfl rfl ?_ ?_ (by decide) ?_ ?_ ?_ _ rfl ?_
                      case refine_1 =>
                        intro j u hj
                        rcases j with _ | _ | j
                        · simp at hj; subst hj; exact (cell_at _ _ _ _ _ (by simp [drew_size, drewN_size]))
                        · simp at hj; subst hj; exact (cell_at _ _ _ _ _ (by simp [drew_size, drewN_size]))
                        · simp at hj
                      case refine_2 => simp [Value.oneCell']
                      case refine_3 => unfold maxLen; omega
                      case refine_4 => omega
                      case refine_5 => simp [drew_size, drewN_size]; omega
                      intro g7 c7 w7 own7 hgrow hat hlt7
                      have hX := hHeld
                      have hB7 := hX.2.2.1.grown hgrow hX.2.2.1.size (fun r hr => (World.ownsRow.lt HOX.out r hr).1)
                      have HO7 := Lib.hid own7
                      have e0 := grown_cell' hgrow hX.2.2.2 (fun r hr => by have := (World.ownsRow.lt HOX.out r hr).1; omega) hX.1
                      have e1 := grown_cell' hgrow hX.2.2.2 (fun r hr => by have := (World.ownsRow.lt HOX.out r hr).1; omega) hX.2.1
                      have e2 : Fr gb wo w7 := ⟨hB7, Nat.lt_of_lt_of_le hX.2.2.2 hgrow.size⟩
                      clear hgrow hat own7 hX
                      refine hK.out _ _ ⟨e0, e1, e2⟩ (fun hHeld => ?_)
                      clear hK K e0 e1 e2
                      try simp only [Act.put, List.setIfInBounds_toArray, List.set_cons_zero, List.set_cons_succ]
                      refine take_slot (i := 14) (d := 13) (v := ?_) rfl rfl (by kernel_rfl) (by kernel_rfl) (by kernel_rfl) (fun _ _ _ h => h) (Or.inl ⟨by rfl, ?_⟩) (by assumption) ?_
                      rotate_left 1
                      focus (intro wS hSw; (try dsimp only at hSw); go_simp; try with_reducible rfl)
                      try simp only [List.setIfInBounds_toArray, List.set_cons_zero, List.set_cons_succ]
                      refine wpAnyH_done (by kernel_rfl) ?_ _
                      go_wp2_with fail
                      go_roundw
                      case rel => exact ⟨k4 + 1, by omega, by go_num, by rw [HN3.out, flat_one]; simpa [flat_nil] using HO7.out, hB7⟩
                      case measure => simp [intOf]; omega
                    · rw [List.concat_eq_append] at *
                      have hl2 : (ls ++ [q]).length = ls.length + 1 := by simp
                      have hqb := Hbd2.out q (by simp)
                      obtain ⟨qb1, qb2⟩ := hqb
                      rw [hl2] at HOW hlen
                      obtain ⟨g5, cap5, rfl, hg5, hg5'⟩ := HOW.out.form (by omega)
                      have hcell := HOW.out.cellAt (ls.length * 2 + 1) (by omega)
                      rw [flat_last] at hcell
                      have f5 := HOW.out.frozenAt (ls.length * 2 + 1)
                      have hg5w := (HOW.out.lt g5 rfl).2
                      have hg5b := (HOW.out.lt g5 rfl).1
                      have hset := Lib.hid (flat_set ls q (z - 1))
                      obtain ⟨m5, hm5⟩ : ∃ m, ls.length = m := ⟨_, rfl⟩
                      rw [hm5] at hcell hset HOW hlen f5 ⊢
                      have HM5 := Lib.hid hm5
                      have hm0 : (0 : Int) ≤ (m5 : Int) := by omega
                      have hm1 : (m5 : Int) < (m5 : Int) + 1 := by omega
                      have hgd : (0 : Int) < (m5 : Int) + 1 := by omega
                      have hwm : IntKind.i64.wrap (m5 : Int) = (m5 : Int) := IntWalk.i64_in _ (by omega)
                      have hwq : IntKind.i64.wrap (q.2 + 1) = q.2 + 1 := IntWalk.i64_in _ (by omega)
                      have hne : gb ≠ g5 := by omega
                      clear hm5 hl2 hg5 hg5' Hbd2
                      by_cases hq : q.2 + 1 = y
                      · have HN3 : Hid (RF (k4 + 1) = ls ++ [(q.1, z - 1)]) := Lib.hid (HN2.out.trans (rfJ_set ls q y z hq))
                        have hq' : (q.2 + 1 == y) = true := by simp [hq]
                        clear HN2 hq
                        go_wp2_with fail
                        go_quiet (fail)
                        have HOD : Hid ((wc.drewN nq).ownsRow wo.heap.size 24 2 (.slice (some ⟨g5, 0, none⟩) (m5 + 1) cap5) (m5 + 1) (flat (ls ++ [q]))) := Lib.hid HOW.out
                        have dy1 : (wc.drewN nq).cell? ⟨gb, k4, none⟩ = some (.int .i64 y) := dy
                        have dz1 : (wc.drewN nq).cell? ⟨gb, k4 + 1, none⟩ = some (.int .i64 z) := dz
                        have hbd1 : Below wo.heap.size wo (wc.drewN nq) := below_drewN hbc _
                        have hgd1 : gb < (wc.drewN nq).heap.size := hgc
                        have hzd1 : wo.heap.size ≤ (wc.drewN nq).heap.size := hzc
                        have hce1 : (wc.drewN nq).cell? ⟨g5, m5 * 2 + 1, none⟩ = some (.int .i64 q.2) := hcell
                        have hfe1 : (wc.drewN nq).frozen? ⟨g5, m5 * 2 + 1, none⟩ = false := f5
                        clear hcell f5 hg5w
                        clear dy dz hbc hgc hzc HOW
                        generalize wc.drewN nq = wd at *
                        go_wp2_with fail
                        go_quiet (fail)
                        go_wp2_with fail
                        go_roundw
                        case rel =>
                          have h1 := HOD.out.stored (m5 * 2 + 1) (.int .i64 (z - 1))
                          rw [hset.out] at h1
                          have b2 := hbd1.setCell (p := ⟨g5, m5 * 2 + 1, none⟩) hg5b (.int .i64 (z - 1))
                          exact ⟨k4 + 1, by omega, by go_num, by rw [HN3.out, show (ls ++ [(q.1, z - 1)]).length = m5 + 1 from by simp [HM5.out]]; exact h1.1, ⟨b2.os, b2.tape, b2.output, b2.size, b2.block⟩⟩
                        case measure => simp [intOf]; omega
                      · have HN3 : Hid (RF (k4 + 1) = ls ++ [q] ++ [(y, z - 1)]) := Lib.hid (HN2.out.trans (rfJ_app ls q y z hq))
                        have hq' : (q.2 + 1 == y) = false := by simp [hq]
                        clear HN2 hq hset
                        go_wp2_with fail
                        go_quiet (fail)
                        have HOD : Hid ((wc.drewN nq).ownsRow wo.heap.size 24 2 (.slice (some ⟨g5, 0, none⟩) (m5 + 1) cap5) (m5 + 1) (flat (ls ++ [q]))) := Lib.hid HOW.out
                        have dy1 : (wc.drewN nq).cell? ⟨gb, k4, none⟩ = some (.int .i64 y) := dy
                        have dz1 : (wc.drewN nq).cell? ⟨gb, k4 + 1, none⟩ = some (.int .i64 z) := dz
                        have hbd1 : Below wo.heap.size wo (wc.drewN nq) := below_drewN hbc _
                        have hgd1 : gb < (wc.drewN nq).heap.size := hgc
                        have hzd1 : wo.heap.size ≤ (wc.drewN nq).heap.size := hzc
                        have hce1 : (wc.drewN nq).cell? ⟨g5, m5 * 2 + 1, none⟩ = some (.int .i64 q.2) := hcell
                        have hfe1 : (wc.drewN nq).frozen? ⟨g5, m5 * 2 + 1, none⟩ = false := f5
                        clear hcell f5 hg5w
                        clear dy dz hbc hgc hzc HOW
                        generalize wc.drewN nq = wd at *
                        go_wp2_with fail
                        go_quiet (fail)
                        go_wp2_with fail
                        have hS : (wd.drewN nq).cell? ⟨gb, k4, none⟩ = some (.int .i64 y) ∧ (wd.drewN nq).cell? ⟨gb, k4 + 1, none⟩ = some (.int .i64 z) ∧ Fr gb wo (wd.drewN nq) := ⟨dy1, dz1, below_drewN hbd1 _, hgd1⟩
                        have HOX : Hid ((wd.drewN nq).drew.ownsRow wo.heap.size 24 2 (.slice (some ⟨g5, 0, none⟩) (m5 + 1) cap5) (m5 + 1) (flat (ls ++ [q]))) := Lib.hid HOD.out
                        refine wp_region_held_drew (S := fun w' => w'.cell? ⟨gb, k4, none⟩ = some (.int .i64 y) ∧ w'.cell? ⟨gb, k4 + 1, none⟩ = some (.int .i64 z) ∧ Fr gb wo w') (by kernel_rfl) ?_ (fun hHeld => ?_)
                        focus (exact keepf (Below.drew (Below.refl _ _)) hS)
                        refine take_slot (i := 0) (d := 171) (v := ?_) rfl rfl (by kernel_rfl) (by kernel_rfl) (by kernel_rfl) (fun _ _ _ h => h) (Or.inl ⟨by rfl, ?_⟩) (by assumption) ?_
                        rotate_left 1
                        focus (intro wS hSw; (try dsimp only at hSw); go_simp; try with_reducible rfl)
                        try simp only [List.setIfInBounds_toArray, List.set_cons_zero, List.set_cons_succ]
                        refine take_slot (i := 1) (d := 172) (v := ?_) rfl rfl (by kernel_rfl) (by kernel_rfl) (by kernel_rfl) (fun _ _ _ h => h) (Or.inl ⟨by rfl, ?_⟩) (by assumption) ?_
                        rotate_left 1
                        focus (intro wS hSw; (try dsimp only at hSw); go_simp; try with_reducible rfl)
                        try simp only [List.setIfInBounds_toArray, List.set_cons_zero, List.set_cons_succ]
                        refine take_slot (i := 2) (d := 173) (v := ?_) rfl rfl (by kernel_rfl) (by kernel_rfl) (by kernel_rfl) (fun _ _ _ h => h) (Or.inl ⟨by rfl, ?_⟩) (by assumption) ?_
                        rotate_left 1
                        focus (intro wS hSw; (try dsimp only at hSw); go_simp; try with_reducible rfl)
                        try simp only [List.setIfInBounds_toArray, List.set_cons_zero, List.set_cons_succ]
                        refine take_slot (i := 3) (d := 174) (v := ?_) rfl rfl (by kernel_rfl) (by kernel_rfl) (by kernel_rfl) (fun _ _ _ h => h) (Or.inl ⟨by rfl, ?_⟩) (by assumption) ?_
                        rotate_left 1
                        focus (intro wS hSw; (try dsimp only at hSw); go_simp; try with_reducible rfl)
                        try simp only [List.setIfInBounds_toArray, List.set_cons_zero, List.set_cons_succ]
                        refine take_slot (i := 4) (d := 175) (v := ?_) rfl rfl (by kernel_rfl) (by kernel_rfl) (by kernel_rfl) (fun _ _ _ h => h) (Or.inl ⟨by rfl, ?_⟩) (by assumption) ?_
                        rotate_left 1
                        focus (intro wS hSw; (try dsimp only at hSw); go_simp; try with_reducible rfl)
                        try simp only [List.setIfInBounds_toArray, List.set_cons_zero, List.set_cons_succ]
                        refine take_slot (i := 5) (d := 176) (v := ?_) rfl rfl (by kernel_rfl) (by kernel_rfl) (by kernel_rfl) (fun _ _ _ h => h) (Or.inl ⟨by rfl, ?_⟩) (by assumption) ?_
                        rotate_left 1
                        focus (intro wS hSw; (try dsimp only at hSw); go_simp; try with_reducible rfl)
                        try simp only [List.setIfInBounds_toArray, List.set_cons_zero, List.set_cons_succ]
                        refine take_slot (i := 6) (d := 177) (v := ?_) rfl rfl (by kernel_rfl) (by kernel_rfl) (by kernel_rfl) (fun _ _ _ h => h) (Or.inl ⟨by rfl, ?_⟩) (by assumption) ?_
                        rotate_left 1
                        focus (intro wS hSw; (try dsimp only at hSw); go_simp; try with_reducible rfl)
                        try simp only [List.setIfInBounds_toArray, List.set_cons_zero, List.set_cons_succ]
                        refine take_slot (i := 7) (d := 178) (v := ?_) rfl rfl (by kernel_rfl) (by kernel_rfl) (by kernel_rfl) (fun _ _ _ h => h) (Or.inl ⟨by rfl, ?_⟩) (by assumption) ?_
                        rotate_left 1
                        focus (intro wS hSw; (try dsimp only at hSw); go_simp; try with_reducible rfl)
                        try simp only [List.setIfInBounds_toArray, List.set_cons_zero, List.set_cons_succ]
                        refine take_slot (i := 8) (d := 179) (v := ?_) rfl rfl (by kernel_rfl) (by kernel_rfl) (by kernel_rfl) (fun _ _ _ h => h) (Or.inl ⟨by rfl, ?_⟩) (by assumption) ?_
                        rotate_left 1
                        focus (intro wS hSw; (try dsimp only at hSw); go_simp; try with_reducible rfl)
                        try simp only [List.setIfInBounds_toArray, List.set_cons_zero, List.set_cons_succ]
                        refine take_slot (i := 9) (d := 180) (v := ?_) rfl rfl (by kernel_rfl) (by kernel_rfl) (by kernel_rfl) (fun _ _ _ h => h) (Or.inl ⟨by rfl, ?_⟩) (by assumption) ?_
                        rotate_left 1
                        focus (intro wS hSw; (try dsimp only at hSw); go_simp; try with_reducible rfl)
                        try simp only [List.setIfInBounds_toArray, List.set_cons_zero, List.set_cons_succ]
                        refine take_slot (i := 10) (d := 181) (v := ?_) rfl rfl (by kernel_rfl) (by kernel_rfl) (by kernel_rfl) (fun _ _ _ h => h) (Or.inl ⟨by rfl, ?_⟩) (by assumption) ?_
                        rotate_left 1
                        focus (intro wS hSw; (try dsimp only at hSw); go_simp; try with_reducible rfl)
                        try simp only [List.setIfInBounds_toArray, List.set_cons_zero, List.set_cons_succ]
                        refine take_slot (i := 11) (d := 182) (v := ?_) rfl rfl (by kernel_rfl) (by kernel_rfl) (by kernel_rfl) (fun _ _ _ h => h) (Or.inl ⟨by rfl, ?_⟩) (by assumption) ?_
                        rotate_left 1
                        focus (intro wS hSw; (try dsimp only at hSw); go_simp; try with_reducible rfl)
                        try simp only [List.setIfInBounds_toArray, List.set_cons_zero, List.set_cons_succ]
                        refine wpAnyH_ready (rs := [12]) (by kernel_rfl) (by simp) ?_
                        refine AllReadyH.cons rfl (fun K hK => ?_) AllReadyH.nil
                        go_simp
                        skip
                        refine hK.out _ _ ?_ (fun hHeld => ?_)
                        focus (exact keepf ((Below.refl _ _).alloc (Nat.le_refl _) _) (by assumption))
                        clear hK K
                        try simp only [Act.put, List.setIfInBounds_toArray, List.set_cons_zero, List.set_cons_succ]
                        refine wpAnyH_ready (rs := [13]) (by kernel_rfl) (by simp) ?_
                        refine AllReadyH.cons rfl (fun K hK => ?_) AllReadyH.nil
                        refine step_append_lies _ rfl (.tmp 171) (.tmp 183) 22 rfl wo.heap.size 24 j0 (.agg #[.int .i64 0, .int .i64 0]) 2 16 Try.underlying22 hj0 hy0 hy1 hy2 rfl (by decide) _ (m5 + 1) (flat (ls ++ [q])) rfl (World.ownsRow.alloc HOX.out _) ⟨_, 0, none⟩ 1 1 [.int .i64 y, .int .i64 (z - 1)] rfl rfl ?_ ?_ (by decide) ?_ ?_ ?_ _ rfl ?_
                        case refine_1 =>
                          intro j u hj
                          rcases j with _ | _ | j
                          · simp at hj; subst hj; exact (cell_at _ _ _ _ _ (by simp [drew_size, drewN_size]))
                          · simp at hj; subst hj; exact (cell_at _ _ _ _ _ (by simp [drew_size, drewN_size]))
                          · simp at hj
                        case refine_2 => simp [Value.oneCell']
                        case refine_3 => unfold maxLen; omega
                        case refine_4 => omega
                        case refine_5 => simp [drew_size, drewN_size]; omega
                        intro g7 c7 w7 own7 hgrow hat hlt7
                        have hX := hHeld
                        have hB7 := hX.2.2.1.grown hgrow hX.2.2.1.size (fun r hr => (World.ownsRow.lt HOX.out r hr).1)
                        have HO7 := Lib.hid own7
                        have e0 := grown_cell' hgrow hX.2.2.2 (fun r hr => by have := (World.ownsRow.lt HOX.out r hr).1; omega) hX.1
                        have e1 := grown_cell' hgrow hX.2.2.2 (fun r hr => by have := (World.ownsRow.lt HOX.out r hr).1; omega) hX.2.1
                        have e2 : Fr gb wo w7 := ⟨hB7, Nat.lt_of_lt_of_le hX.2.2.2 hgrow.size⟩
                        clear hgrow hat own7 hX
                        refine hK.out _ _ ⟨e0, e1, e2⟩ (fun hHeld => ?_)
                        clear hK K e0 e1 e2
                        try simp only [Act.put, List.setIfInBounds_toArray, List.set_cons_zero, List.set_cons_succ]
                        refine take_slot (i := 14) (d := 13) (v := ?_) rfl rfl (by kernel_rfl) (by kernel_rfl) (by kernel_rfl) (fun _ _ _ h => h) (Or.inl ⟨by rfl, ?_⟩) (by assumption) ?_
                        rotate_left 1
                        focus (intro wS hSw; (try dsimp only at hSw); go_simp; try with_reducible rfl)
                        try simp only [List.setIfInBounds_toArray, List.set_cons_zero, List.set_cons_succ]
                        refine wpAnyH_done (by kernel_rfl) ?_ _
                        go_wp2_with fail
                        go_roundw
                        case rel => exact ⟨k4 + 1, by omega, by go_num, by rw [HN3.out, flat_append _ [(y, z - 1)], flat_one]; simpa [HM5.out] using HO7.out, hB7⟩
                        case measure => simp [intOf]; omega
            · have hkk : k4 = N - 1 := by omega
              have hJ : RF k4 = JL := by rw [hRef.out, hkk]
              rw [hJ] at hown
              obtain ⟨A3, c3, rfl⟩ : ∃ (A3 : Option Addr) (c3 : Nat), u13 = .slice A3 JL.length c3 := by
                obtain ⟨A3, c3, h, _⟩ := own_row JL _ rfl _ wr hown
                exact ⟨A3, c3, h⟩
              have hown2 := World.ownsRow.mono hown hbw.size
              have HO := Lib.hid hown2
              have hB := hbw.trans (hbq.mono hbw.size)
              obtain ⟨m, hm⟩ : ∃ m, JL.length = m := ⟨_, rfl⟩
              have HMM := Lib.hid hm
              rw [hm] at HO ⊢
              clear hown hown2 hJ hkk hRef hm hbq hbw
              by_cases hbig : (200 : Int) < (m : Int)
              · go_wp2_with fail
                go_ret2
                refine ⟨.slice none 0 0, by rw [HMM.out, if_pos (show 200 < m by omega)]; rfl, ?_, hB⟩
                rw [if_pos (by rw [HMM.out]; omega)]
                exact World.ownsRow_nil _ _ _ _
              · go_wp2_with fail
                go_ret2
                refine ⟨.slice A3 m c3, by rw [HMM.out, if_neg (show ¬ 200 < m by omega)]; rfl, ?_, hB⟩
                rw [if_neg (by rw [HMM.out]; omega)]
                rw [HMM.out]
                exact HO.out
end Go.Proofs.Ytiibbnbknmeplaa
