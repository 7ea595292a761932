/- Contracts: the reference's places of a table in a range. -/
import Derived.Test.YtfkkddbghogffaaP13
import Derived.Test.YtfkkddbghogffaaR11
namespace Go.Proofs.Ytfkkddbghogffaa
open Go.RowKit Go.Lib Go.Shelf
set_option linter.unusedVariables false
set_option linter.unusedSimpArgs false
attribute [local go_sem ↓] Go.wp_at_zero Go.wp_at_succ

theorem own_made' (w : World) (T : TypeId) : (w.alloc (.cells #[] T)).ownsRow w.heap.size T 2 (.slice (some ⟨w.heap.size, 0, none⟩) 0 0) 0 (flat []) :=
  ⟨rfl, .inr ⟨w.heap.size, 0, #[], rfl, Nat.le_refl _, heap_alloc_new w _, Nat.le_refl _, Nat.zero_le _, rfl, rfl⟩⟩
theorem flat_lastW {ys : List (Int × Int)} {q : Int × Int} {m : Nat} (h : ys.length = m) : (flat (ys ++ [q]))[m * 2 + 1]? = some (.int .i64 q.2) := by subst h; exact flat_last ys q
theorem wrun_max2 {P : Program} (tys : Array TypeId) (ty : TypeId) (k : IntKind) (x y : Int) (w : World) : (Builtin.max_ tys ty #[.int k x, .int k y]).run P w = .ok (.int k (max x y)) w := by
  simp [Builtin.max_, Builtin.max2]
  split <;> omega
theorem whereAt_lo {xs : List (Int × Int)} (ht : TabOk xs) (yl yh : Int) : ∀ (k : Nat), k < xs.length → ∀ r ∈ whereAt (plK xs yl yh) k, -1000000000 ≤ r.2 := by
  intro k
  induction k with
  | zero => intro _ r hr; simp [whereAt] at hr
  | succ k ih =>
    intro hk
    obtain ⟨p, hp⟩ : ∃ p, xs[k]? = some p := ⟨_, List.getElem?_eq_getElem (by omega)⟩
    obtain ⟨q, hq⟩ : ∃ q, xs[k + 1]? = some q := ⟨_, List.getElem?_eq_getElem hk⟩
    have hpq := ht.2.2.2 k (k + 1) p q (by omega) hp hq
    have hr := (rowB_of (ht.2.2.1 p (List.mem_of_getElem? hp))).1
    have hK := plK_of (yl := yl) (yh := yh) hp hq
    unfold whereAt
    by_cases h2 : (plK xs yl yh k).2 = true
    · rw [if_pos h2]
      refine extP_bd (fun z => -1000000000 ≤ z) (ih (by omega)) ?_
      rw [hK] at h2 ⊢
      have := plP_lo p q yl yh h2 (by omega)
      omega
    · rw [if_neg h2]
      exact ih (by omega)
/-- what is left of a list that is returned -/
def RlPost (w : World) (ys : List (Int × Int)) (e : Ending) (w' : World) : Prop :=
  ∃ v, e = .returned v ∧ w'.ownsRow (w.heap.size + 1) 24 2 v ys.length (flat ys) ∧ Below w.heap.size w w'

set_option maxRecDepth 20000 in
set_option maxHeartbeats 4000000 in
theorem rWhere_at (xs : List (Int × Int)) (yl yh : Int) (g off c : Nat) (hT : TabOk xs) (hy : yl ≤ yh) (w : World) (hg : g < w.heap.size) (hr : RRd w g off xs) :
    Calls Try.prog 70 #[.slice (some ⟨g, off, none⟩) xs.length c, .agg #[.int .i64 yl, .int .i64 yh]] w (RlPost w (whV xs yl yh)) := by
  obtain ⟨i0, hi0, iz0, iz1, iz2⟩ := info_parts infoRange
  have HS := Lib.hid (fun (behind : Bool) (k : Nat) (p q : Int × Int) (hp : xs[k]? = some p) (hq : xs[k + 1]? = some q) (W : World) (h : Below w.heap.size w W) =>
    (show Calls Try.prog 128 #[.slice (some ⟨g, off, none⟩) xs.length c, .int .i64 p.1, .int .i64 q.1, .agg #[.int .i64 yl, .int .i64 yh], .bool (decide (p.2 ≤ q.2)), .bool behind] W fun e w' =>
        ∃ f, e = .returned (.int .i64 f) ∧ Hid (firstIs (fun x => srP yl yh (decide (p.2 ≤ q.2)) behind (segV p q x)) p.1 q.1 f) ∧ Below W.heap.size W w' from by
      have hpq := hT.2.2.2 k (k + 1) p q (by omega) hp hq
      obtain ⟨r1, r2, r3, r4⟩ := rowB_of (hT.2.2.1 p (List.mem_of_getElem? hp))
      obtain ⟨s1, s2, s3, s4⟩ := rowB_of (hT.2.2.1 q (List.mem_of_getElem? hq))
      obtain ⟨n1, hn1⟩ := seg_bound p q hpq yl yh behind
      refine (search_ref xs p.1 q.1 yl yh (decide (p.2 ≤ q.2)) behind g off c hT r1 s2 (by omega) (fun x h1 h2 => seg_cov hT hp hq x h1 h2) (fun x y h1 h2 h3 hx => ?_) W (Nat.lt_of_lt_of_le hg h.size) (hr.below h hg)).mono ?_
      · rw [seg_val hT hp hq x h1 (by omega)] at hx
        rw [seg_val hT hp hq y (by omega) h3]
        have := (hn1 x h1 (by omega)).1 hx
        exact (hn1 y (by omega) h3).2 (by omega)
      · rintro e w' ⟨f, rfl, hf, hb⟩
        exact ⟨f, rfl, Lib.hid (firstIs_congr (fun x h1 h2 => by rw [seg_val hT hp hq x h1 h2]) hf), hb⟩))
  have HPL := Lib.hid (fun (k : Nat) (p q : Int × Int) (hp : xs[k]? = some p) (hq : xs[k + 1]? = some q) (f1 f2 : Int) (h1 : firstIs (fun x => srP yl yh (decide (p.2 ≤ q.2)) false (segV p q x)) p.1 q.1 f1) (h2 : firstIs (fun x => srP yl yh (decide (p.2 ≤ q.2)) true (segV p q x)) p.1 q.1 f2) =>
    (show whereAt (plK xs yl yh) (k + 1) = if f1 ≤ f2 - 1 then extP (whereAt (plK xs yl yh) k) (f1, f2 - 1) else whereAt (plK xs yl yh) k from by
      have hpq := hT.2.2.2 k (k + 1) p q (by omega) hp hq
      obtain ⟨r1, r2, r3, r4⟩ := rowB_of (hT.2.2.1 p (List.mem_of_getElem? hp))
      obtain ⟨s1, s2, s3, s4⟩ := rowB_of (hT.2.2.1 q (List.mem_of_getElem? hq))
      have h := pl_is p q hpq (by omega) yl yh hy f1 f2 h1 h2
      rw [whereAt, plK_of hp hq, h.1]
      by_cases hle : f1 ≤ f2 - 1
      · rw [if_pos hle, if_pos (by simpa using hle), h.2 hle]
      · rw [if_neg hle, if_neg (by simpa using hle)]))
  have HHI := Lib.hid (fun (k : Nat) (p : Int × Int) (hp : xs[k]? = some p) => whereAt_hi hT yl yh k p hp)
  have HLO := Lib.hid (fun (k : Nat) (hk : k < xs.length) => whereAt_lo hT yl yh k hk)
  have HRW := Lib.hid (fun (k : Nat) (p : Int × Int) (hp : xs[k]? = some p) => rowB_of (hT.2.2.1 p (List.mem_of_getElem? hp)))
  have HWV : Hid (whV xs yl yh = whereAt (plK xs yl yh) (xs.length - 1)) := Lib.hid rfl
  have h2 := hT.1
  have h60 := hT.2.1
  obtain ⟨n, hn⟩ : ∃ n, xs.length = n + 1 := ⟨xs.length - 1, by omega⟩
  rw [hn] at HS HWV HLO h2 h60 ⊢
  have Hn := Lib.hid hn
  have HR := Lib.hid hr
  have hLen := Lib.hid (fun k => whereAt_length (plK xs yl yh) k)
  generalize whV xs yl yh = res at *
  generalize hWA : whereAt (plK xs yl yh) = WA at *
  have HW0 : Hid (WA 0 = []) := Lib.hid (by rw [← hWA]; rfl)
  clear hn hT hr hWA
  have HM := Lib.hid (own_made' (w.alloc (.cells #[.int .i64 yl, .int .i64 yh] 24)) 24)
  go_enter Try.func70, Try.ntmps70
  go_wp2_with fail
  go_loopw [5, 6] (fun s i wr => ∃ k : Nat, k ≤ n ∧ i = .int .i64 k ∧ wr.ownsRow (w.heap.size + 1) 24 2 s (WA k).length (flat (WA k)) ∧ Below w.heap.size w wr ∧ w.heap.size + 1 < wr.heap.size ∧ wr.cell? ⟨w.heap.size, 0, none⟩ = some (.int .i64 yl) ∧ wr.cell? ⟨w.heap.size, 1, none⟩ = some (.int .i64 yh)) (fun _ i _ => n - (intOf i).toNat)
  case atStart =>
    have hm := HM.out
    refine ⟨0, Nat.zero_le _, rfl, ?_, ((Below.refl _ _).alloc (Nat.le_refl _) _).alloc (by simp) _, by simp, by simp [go_sem], by simp [go_sem]⟩
    rw [HW0.out]
    simpa using hm
  case round =>
    clear HM
    obtain ⟨k, hk, rfl, hown, hbr, hz, e0, e1⟩ := hrel
    have HO := Lib.hid hown
    clear hown
    have hk0 : (0 : Int) ≤ (k : Int) := by omega
    have wk : IntKind.i64.wrap ((k : Int) + 1) = (k : Int) + 1 := IntWalk.i64_in _ (by omega)
    by_cases hlt : (k : Int) < (n : Int)
    · obtain ⟨p, hp⟩ : ∃ p, xs[k]? = some p := ⟨_, List.getElem?_eq_getElem (by rw [Hn.out]; omega)⟩
      obtain ⟨q, hq⟩ : ∃ q, xs[k + 1]? = some q := ⟨_, List.getElem?_eq_getElem (by rw [Hn.out]; omega)⟩
      obtain ⟨p0, p1⟩ := (HR.out.below hbr hg) k p hp
      obtain ⟨q0, q1⟩ := (HR.out.below hbr hg) (k + 1) q hq
      have c1 := Lib.hid (fun W h => HS.out false k p q hp hq W h)
      have c2 := Lib.hid (fun W h => HS.out true k p q hp hq W h)
      have hN := Lib.hid (HPL.out k p q hp hq)
      have hH := Lib.hid (HHI.out k p hp)
      have hL := Lib.hid (HLO.out k (by omega))
      obtain ⟨r1, r2, r3, r4⟩ := HRW.out k p hp
      obtain ⟨s1, s2, s3, s4⟩ := HRW.out (k + 1) q hq
      have hlen : (WA k).length ≤ k := hLen.out k
      have hlt2 : (k : Int) + 1 < (n : Int) + 1 := by omega
      have hgr := Nat.lt_of_lt_of_le hg hbr.size
      obtain ⟨rs, hrs⟩ : ∃ rs, decide (p.2 ≤ q.2) = rs := ⟨_, rfl⟩
      rw [hrs] at c1 c2 hN
      clear hp hq
      generalize WA k = L at *
      go_wp2_with fail
      go_quiet (fail)
      go_wp2_with fail
      go_quiet (fail)
      go_wp2_with fail
      refine (c1.out _ (below_drewN hbr _)).mono ?_
      rintro e W1 ⟨f1, rfl, hf1, hb⟩
      replace e0 := cell_next hb (by rw [drewN_size]; omega) e0
      replace e1 := cell_next hb (by rw [drewN_size]; omega) e1
      have HO1 := Lib.hid (own_below (ownsRow_drewN HO.out _) hb)
      have hz1 : w.heap.size + 1 < W1.heap.size := by have := hb.size; rw [drewN_size] at this; omega
      have hB1 := (below_drewN hbr _).trans (hb.mono (by rw [drewN_size]; exact hbr.size))
      clear hb HO hz hbr p0 p1 q0 q1 c1
      go_wp2_with fail
      refine (c2.out _ hB1).mono ?_
      rintro e W2 ⟨f2, rfl, hf2, hb⟩
      replace e0 := cell_next hb (by omega) e0
      replace e1 := cell_next hb (by omega) e1
      have HO2 := Lib.hid (own_below HO1.out hb)
      have hz2 : w.heap.size + 1 < W2.heap.size := by have := hb.size; omega
      have hB2 := hB1.trans (hb.mono hB1.size)
      have hnext := Lib.hid (hN.out f1 f2 hf1.out hf2.out)
      obtain ⟨a1, a2, _⟩ := hf1.out
      obtain ⟨b1, b2, _⟩ := hf2.out
      clear hb HO1 hz1 hB1 c2 hN hf1 hf2
      have wf : IntKind.i64.wrap (f2 - 1) = f2 - 1 := IntWalk.i64_in _ (by omega)
      by_cases hle : f1 ≤ f2 - 1
      · have hle' : decide (f2 - 1 < f1) = false := by simp; omega
        have hn2 := Lib.hid (hnext.out.trans (if_pos hle))
        clear hnext
        rcases List.eq_nil_or_concat L with rfl | ⟨ys, r, rfl⟩
        · have hn3 : Hid (WA (k + 1) = [(f1, f2 - 1)]) := Lib.hid (hn2.out.trans rfl)
          obtain ⟨c', A', rfl⟩ : ∃ (c : Nat) (A : Option Addr), u5 = .slice A 0 c := by
            rcases HO2.out.2 with ⟨rfl, _⟩ | ⟨g, cap, cur, rfl, _⟩
            · exact ⟨_, _, rfl⟩
            · exact ⟨_, _, rfl⟩
          clear hn2
          go_wp2_with (at_builtin; refine wpList_append_own_at _ rfl (.tmp 88) (.tmp 92) 22 rfl (w.heap.size + 1) 24 i0 (.agg #[.int .i64 0, .int .i64 0]) 2 16 Try.underlying22 hi0 iz0 iz1 iz2 rfl (by decide) (.slice A' 0 c') 0 [] rfl (HO2.out.alloc _) ⟨W2.heap.size, 0, none⟩ 1 1 [.int .i64 f1, .int .i64 (f2 - 1)] rfl rfl ?_ ?_ ?_ ?_ ?_ ?_)
          case refine_1 =>
            intro j u hj
            rcases j with _ | _ | j
            · simp at hj; subst hj; exact (cell_at _ _ _ _ _ (by simp))
            · simp at hj; subst hj; exact (cell_at _ _ _ _ _ (by simp))
            · simp at hj
          case refine_2 => simp [Value.oneCell']
          case refine_3 => unfold maxLen; omega
          case refine_4 => omega
          case refine_5 => simp; omega
          case refine_6 =>
            intro v' w7 own7 hgrow _ hat
            have hB7 := (hB2.alloc hB2.size _).grown hgrow (by have := hB2.size; simp; omega) (fun r hr => by have := (HO2.out.lt r hr).1; omega)
            have e0' := grown_cell' hgrow (by simp; omega) (fun r hr => by have := (HO2.out.lt r hr).1; omega) (cell_next ((Below.refl W2.heap.size W2).alloc (Nat.le_refl _) _) (by omega) e0)
            have e1' := grown_cell' hgrow (by simp; omega) (fun r hr => by have := (HO2.out.lt r hr).1; omega) (cell_next ((Below.refl W2.heap.size W2).alloc (Nat.le_refl _) _) (by omega) e1)
            have hz7 : w.heap.size + 1 < w7.heap.size := by have := hgrow.size; simp at this; omega
            have HO7 := Lib.hid own7
            clear hgrow hat own7 e0 e1
            go_wp2_with fail
            go_roundw
            case rel => exact ⟨k + 1, by omega, by go_num, by rw [hn3.out, flat_one]; simpa using HO7.out, hB7, hz7, e0', e1'⟩
            case measure => simp [intOf]; omega
        · rw [List.concat_eq_append] at *
          have hrp : r.2 ≤ p.1 := hH.out r (by simp)
          have hr2 : -1000000000 ≤ r.2 := hL.out r (by simp)
          have hl2 : (ys ++ [r]).length = ys.length + 1 := by simp
          rw [hl2] at HO2 hlen
          obtain ⟨g5, cap5, rfl, hg5, hg5'⟩ := HO2.out.form (by omega)
          have hcell := HO2.out.cellAt (ys.length * 2 + 1) (by omega)
          rw [flat_last] at hcell
          have hfr := HO2.out.frozenAt (ys.length * 2 + 1)
          have hg5w := (HO2.out.lt g5 rfl).2
          have hg5b := (HO2.out.lt g5 rfl).1
          have hset := Lib.hid (flat_set ys r (f2 - 1))
          obtain ⟨m, hm⟩ : ∃ m, ys.length = m := ⟨_, rfl⟩
          rw [hm] at hcell hfr hset HO2 hlen ⊢
          have HM := Lib.hid hm
          clear hm hl2 hg5 hg5' hH hL
          have hm0 : (0 : Int) ≤ (m : Int) := by omega
          have hm1 : (m : Int) < (m : Int) + 1 := by omega
          have hwr : IntKind.i64.wrap (m : Int) = (m : Int) := IntWalk.i64_in _ (by omega)
          have hgd : (0 : Int) < (m : Int) + 1 := by omega
          have hwp : IntKind.i64.wrap (r.2 + 1) = r.2 + 1 := IntWalk.i64_in _ (by omega)
          by_cases hme : f1 ≤ r.2 + 1
          · have hn3 : Hid (WA (k + 1) = ys ++ [(r.1, f2 - 1)]) := Lib.hid (by rw [hn2.out]; simp [extP, hme])
            have M1 : ∀ tys ty w, (Builtin.max_ tys ty #[.int .i64 r.2, .int .i64 (f2 - 1)]).run Try.prog w = .ok (.int .i64 (f2 - 1)) w := fun tys ty w => (wrun_max2 tys ty .i64 _ _ w).trans (by rw [Int.max_eq_right (by omega)])
            have h1 := HO2.out.stored (m * 2 + 1) (.int .i64 (f2 - 1))
            rw [hset.out] at h1
            have hB6 := hB2.setCell (p := ⟨g5, m * 2 + 1, none⟩) (by omega : w.heap.size ≤ g5) (.int .i64 (f2 - 1))
            have e0' : (W2.setCell ⟨g5, m * 2 + 1, none⟩ (.int .i64 (f2 - 1))).cell? ⟨w.heap.size, 0, none⟩ = some (.int .i64 yl) := by rw [World.cell?_setCell_other _ _ _ _ (by intro e; injection e; omega)]; exact e0
            have e1' : (W2.setCell ⟨g5, m * 2 + 1, none⟩ (.int .i64 (f2 - 1))).cell? ⟨w.heap.size, 1, none⟩ = some (.int .i64 yh) := by rw [World.cell?_setCell_other _ _ _ _ (by intro e; injection e; omega)]; exact e1
            have hz6 : w.heap.size + 1 < (W2.setCell ⟨g5, m * 2 + 1, none⟩ (.int .i64 (f2 - 1))).heap.size := by simpa [World.setCell] using hz2
            have H1 := Lib.hid h1.1
            have H2 := Lib.hid (And.intro hB6 (And.intro hz6 (And.intro e0' e1')))
            clear h1 hB6 e0' e1' hz6 hn2
            go_wp2_with fail
            go_roundw
            case rel => exact ⟨k + 1, by omega, by go_num, by rw [hn3.out]; simpa [HM.out] using H1.out, H2.out⟩
            case measure => simp [intOf]; omega
          · have hn3 : Hid (WA (k + 1) = ys ++ [r] ++ [(f1, f2 - 1)]) := Lib.hid (by rw [hn2.out]; simp [extP, hme])
            have hme' : decide (f1 ≤ r.2 + 1) = false := by simpa using hme
            clear hn2
            go_wp2_with (at_builtin; refine wpList_append_own_at _ rfl (.tmp 88) (.tmp 92) 22 rfl (w.heap.size + 1) 24 i0 (.agg #[.int .i64 0, .int .i64 0]) 2 16 Try.underlying22 hi0 iz0 iz1 iz2 rfl (by decide) (.slice (some ⟨g5, 0, none⟩) (m + 1) cap5) (m + 1) (flat (ys ++ [r])) rfl (HO2.out.alloc _) ⟨W2.heap.size, 0, none⟩ 1 1 [.int .i64 f1, .int .i64 (f2 - 1)] rfl rfl ?_ ?_ ?_ ?_ ?_ ?_)
            case refine_1 =>
              intro j u hj
              rcases j with _ | _ | j
              · simp at hj; subst hj; exact (cell_at _ _ _ _ _ (by simp))
              · simp at hj; subst hj; exact (cell_at _ _ _ _ _ (by simp))
              · simp at hj
            case refine_2 => simp [Value.oneCell']
            case refine_3 => unfold maxLen; omega
            case refine_4 => omega
            case refine_5 => simp; omega
            case refine_6 =>
              intro v' w7 own7 hgrow _ hat
              have hB7 := (hB2.alloc hB2.size _).grown hgrow (by have := hB2.size; simp; omega) (fun r hr => by have := (HO2.out.lt r hr).1; omega)
              have e0' := grown_cell' hgrow (by simp; omega) (fun r hr => by have := (HO2.out.lt r hr).1; omega) (cell_next ((Below.refl W2.heap.size W2).alloc (Nat.le_refl _) _) (by omega) e0)
              have e1' := grown_cell' hgrow (by simp; omega) (fun r hr => by have := (HO2.out.lt r hr).1; omega) (cell_next ((Below.refl W2.heap.size W2).alloc (Nat.le_refl _) _) (by omega) e1)
              have hz7 : w.heap.size + 1 < w7.heap.size := by have := hgrow.size; simp at this; omega
              have HO7 := Lib.hid own7
              clear hgrow hat own7 e0 e1 hcell
              go_wp2_with fail
              go_roundw
              case rel => exact ⟨k + 1, by omega, by go_num, by rw [hn3.out, flat_append _ [(f1, f2 - 1)], flat_one]; simpa [HM.out] using HO7.out, hB7, hz7, e0', e1'⟩
              case measure => simp [intOf]; omega
      · have hle' : decide (f2 - 1 < f1) = true := by simp; omega
        have hn2 := Lib.hid (hnext.out.trans (if_neg hle))
        clear hnext
        go_wp2_with fail
        go_roundw
        case rel => exact ⟨k + 1, by omega, by go_num, by rw [hn2.out]; exact HO2.out, hB2, hz2, e0, e1⟩
        case measure => simp [intOf]; omega
    · obtain rfl : k = n := by omega
      have HE : Hid (WA k = res) := Lib.hid (by rw [HWV.out]; rfl)
      clear HWV
      go_wp2_with fail
      go_ret
      refine ⟨_, rfl, ?_, hbr⟩
      rw [← HE.out]
      exact HO.out
end Go.Proofs.Ytfkkddbghogffaa
