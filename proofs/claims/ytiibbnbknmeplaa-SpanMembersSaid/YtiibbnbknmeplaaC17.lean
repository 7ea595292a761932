/- Contracts: sets widened and narrowed, and their number nearest to another one. -/
import Derived.Test.YtiibbnbknmeplaaT4
import Derived.Test.YtiibbnbknmeplaaT5
import Derived.Test.YtiibbnbknmeplaaT8
import Derived.Test.YtiibbnbknmeplaaRI
import Derived.Test.YtiibbnbknmeplaaC8
namespace Go.Proofs.Ytiibbnbknmeplaa
open Go.RowKit Go.Lib Go.Shelf
set_option linter.unusedVariables false
set_option linter.unusedSimpArgs false
attribute [local go_sem ↓] Go.wp_at_zero Go.wp_at_succ

theorem nrun_min2 {P : Program} (tys : Array TypeId) (ty : TypeId) (k : IntKind) (x y : Int) (w : World) : (Builtin.min_ tys ty #[.int k x, .int k y]).run P w = .ok (.int k (min x y)) w := by
  simp [Builtin.min_, Builtin.min2]
  split <;> omega
theorem nrun_max2 {P : Program} (tys : Array TypeId) (ty : TypeId) (k : IntKind) (x y : Int) (w : World) : (Builtin.max_ tys ty #[.int k x, .int k y]).run P w = .ok (.int k (max x y)) w := by
  simp [Builtin.max_, Builtin.max2]
  split <;> omega

/-- the error of a set and of a step -/
def stE (xs : List (Int × Int)) (b : Int) : Int := if setE xs = 0 then (if b < 0 ∨ 1000000000000000 < b then 3 else 0) else setE xs
theorem stE_ok {xs : List (Int × Int)} {b : Int} (h : stE xs b = 0) : setE xs = 0 ∧ 0 ≤ b ∧ b ≤ 1000000000000000 := by
  unfold stE at h
  split at h
  · rename_i h0
    split at h
    · omega
    · exact ⟨h0, by omega, by omega⟩
  · omega

set_option maxHeartbeats 1000000 in
theorem checkStep_any (v : Value) (xs : List (Int × Int)) (b : Int) (w : World) (hv : SetAt w.heap.size w v xs) :
    Calls Try.prog 134 #[v, .int .i64 b] w fun e w' => e = .returned (.int .i64 (stE xs b)) ∧ Below w.heap.size w w' := by
  have c1 := Lib.hid (checkSet_any v xs w hv)
  have E : Hid (stE xs b = if setE xs = 0 then (if b < 0 ∨ 1000000000000000 < b then 3 else 0) else setE xs) := Lib.hid rfl
  generalize stE xs b = r at *
  generalize setE xs = s at *
  by_cases h0 : s = 0
  · subst h0
    rw [if_pos rfl] at E
    by_cases h1 : b < 0
    · have E2 := Lib.hid (E.out.trans (if_pos (.inl h1)))
      go_enter Try.func134, Try.ntmps134
      go_wp2_with fail
      refine c1.out.mono ?_
      rintro e w1 ⟨rfl, hb⟩
      go_wp2_with fail
      go_ret
      exact ⟨ret_int E2.out.symm, hb⟩
    · by_cases h2 : 1000000000000000 < b
      · have E2 := Lib.hid (E.out.trans (if_pos (.inr h2)))
        go_enter Try.func134, Try.ntmps134
        go_wp2_with fail
        refine c1.out.mono ?_
        rintro e w1 ⟨rfl, hb⟩
        go_wp2_with fail
        go_ret
        exact ⟨ret_int E2.out.symm, hb⟩
      · have E2 := Lib.hid (E.out.trans (if_neg (by omega)))
        go_enter Try.func134, Try.ntmps134
        go_wp2_with fail
        refine c1.out.mono ?_
        rintro e w1 ⟨rfl, hb⟩
        go_wp2_with fail
        go_ret
        exact ⟨ret_int E2.out.symm, hb⟩
  · have E2 := Lib.hid (E.out.trans (if_neg h0))
    have hne : (s != 0) = true := by simpa using h0
    clear h0
    go_enter Try.func134, Try.ntmps134
    go_wp2_with fail
    refine c1.out.mono ?_
    rintro e w1 ⟨rfl, hb⟩
    go_wp2_with fail
    go_ret
    exact ⟨ret_int E2.out.symm, hb⟩

/-- a range widened, and a set -/
def wdP (b : Int) (p : Int × Int) : Int × Int := (max (p.1 - b) (-1000000000000000), min (p.2 + b) 1000000000000000)
def widL (b : Int) (xs : List (Int × Int)) : List (Int × Int) := xs.foldl (fun acc p => extP acc (wdP b p)) []
/-- what is narrowed -/
def nwL (b : Int) (xs : List (Int × Int)) : List (Int × Int) := (xs.filter fun p => decide (p.1 + b ≤ p.2 - b)).map fun p => (p.1 + b, p.2 - b)
theorem take_snoc'' (xs : List (Int × Int)) (k : Nat) (p : Int × Int) (h : xs[k]? = some p) : xs.take (k + 1) = xs.take k ++ [p] := by
  rw [List.take_add_one, h]; rfl
theorem widL_snoc (b : Int) (xs : List (Int × Int)) (p : Int × Int) : widL b (xs ++ [p]) = extP (widL b xs) (wdP b p) := by simp [widL, List.foldl_append]
theorem nwL_snoc (b : Int) (xs : List (Int × Int)) (p : Int × Int) : nwL b (xs ++ [p]) = if p.1 + b ≤ p.2 - b then nwL b xs ++ [(p.1 + b, p.2 - b)] else nwL b xs := by
  unfold nwL
  rw [List.filter_append, List.map_append]
  by_cases h : p.1 + b ≤ p.2 - b <;> simp [h, List.filter_cons]
theorem extP_len (xs : List (Int × Int)) (a : Int × Int) : (extP xs a).length ≤ xs.length + 1 := extP_length xs a
theorem widL_len (b : Int) (xs : List (Int × Int)) : (widL b xs).length ≤ xs.length := by
  have : ∀ (ys acc : List (Int × Int)), (ys.foldl (fun acc p => extP acc (wdP b p)) acc).length ≤ acc.length + ys.length := by
    intro ys
    induction ys with
    | nil => intro acc; simp
    | cons p ys ih => intro acc; have h1 := ih (extP acc (wdP b p)); have h2 := extP_length acc (wdP b p); simp only [List.foldl_cons, List.length_cons]; omega
  simpa [widL] using this xs []
theorem nwL_len (b : Int) (xs : List (Int × Int)) : (nwL b xs).length ≤ xs.length := by
  unfold nwL
  rw [List.length_map]
  exact List.length_filter_le _ _
theorem setE_bd {xs : List (Int × Int)} (h : setE xs = 0) : xs.length ≤ 200 ∧ ∀ p ∈ xs, vrB p.1 p.2 = true := by
  unfold setE at h
  split at h
  · omega
  · split at h
    · rename_i h1 h2
      refine ⟨by omega, fun p hp => ?_⟩
      obtain ⟨k, hk, rfl⟩ := List.getElem_of_mem hp
      exact rngsOk_at h2 hk (List.getElem?_eq_getElem hk)
    · omega

/-- what is left of a list that is returned with no error -/
def ListPost (w : World) (ys : List (Int × Int)) (err : Int) (e : Ending) (w' : World) : Prop :=
  ∃ v, e = .returned (.tuple #[v, .int .i64 err]) ∧ w'.ownsRow w.heap.size 24 2 v ys.length (flat ys) ∧ Below w.heap.size w w'

set_option maxRecDepth 20000 in
set_option maxHeartbeats 2000000 in
theorem widen_any (v : Value) (xs : List (Int × Int)) (b : Int) (w : World) (hv : SetAt w.heap.size w v xs) :
    Calls Try.prog 78 #[v, .int .i64 b] w (ListPost w (if stE xs b = 0 then widL b xs else []) (stE xs b)) := by
  have c1 := Lib.hid (checkStep_any v xs b w hv)
  by_cases h0 : stE xs b = 0
  · rw [if_pos h0, h0]
    rw [h0] at c1
    obtain ⟨s0, b0, b1⟩ := stE_ok h0
    obtain ⟨hl, hv0⟩ := setE_bd s0
    have HV := Lib.hid hv0
    obtain ⟨A, c, rfl, hr⟩ := hv
    obtain ⟨n, hn⟩ : ∃ n, xs.length = n := ⟨_, rfl⟩
    rw [hn] at hl hr c1 ⊢
    have Hn := Lib.hid hn
    have HR := Lib.hid hr
    clear hr hn h0 s0 hv0
    go_enter Try.func78, Try.ntmps78
    go_wp2_with fail
    refine c1.out.mono ?_
    rintro e w1 ⟨rfl, hB⟩
    go_wp2_with fail
    go_loopw [7, 18] (fun s i wr => ∃ k : Nat, k ≤ n ∧ i = .int .i64 k ∧ wr.ownsRow w.heap.size 24 2 s (widL b (xs.take k)).length (flat (widL b (xs.take k))) ∧ Hid (∀ p ∈ widL b (xs.take k), -1000000000000000000 ≤ p.2 ∧ p.2 ≤ 1000000000000000000) ∧ Below w.heap.size w wr) (fun _ i _ => n - (intOf i).toNat)
    case atStart => exact ⟨0, Nat.zero_le _, rfl, World.ownsRow_nil _ _ _ _, Lib.hid (by intro p hp; cases hp), hB⟩
    case round =>
      clear hB
      obtain ⟨k, hk, rfl, hown, hbd, hbr⟩ := hrel
      by_cases hlt : (k : Int) < (n : Int)
      · obtain ⟨p, hp⟩ : ∃ p, xs[k]? = some p := ⟨_, List.getElem?_eq_getElem (by rw [Hn.out]; omega)⟩
        obtain ⟨g, off, rfl, hg, hc⟩ := HR.out (by omega)
        obtain ⟨q0, q1⟩ := (hc.below hbr hg) k p hp
        obtain ⟨p1, p2, p3⟩ := vrB_of (HV.out p (List.mem_of_getElem? hp))
        have hnext : Hid (widL b (xs.take (k + 1)) = extP (widL b (xs.take k)) (wdP b p)) := Lib.hid (by rw [take_snoc'' xs k p hp, widL_snoc])
        have hlen : (widL b (xs.take k)).length ≤ k := Nat.le_trans (widL_len _ _) (List.length_take_le _ _)
        have hext := Lib.hid (fun s W (hz : w.heap.size ≤ W.heap.size) (ho : W.ownsRow w.heap.size 24 2 s (widL b (xs.take k)).length (flat (widL b (xs.take k)))) => extend_any (widL b (xs.take k)) (wdP b p).1 (wdP b p).2 s w.heap.size hbd.out (by omega) W hz ho)
        have M1 : ∀ tys ty w, (Builtin.max_ tys ty #[.int .i64 (p.1 - b), .int .i64 (-1000000000000000)]).run Try.prog w = .ok (.int .i64 (wdP b p).1) w := fun tys ty w => nrun_max2 tys ty .i64 _ _ w
        have M2 : ∀ tys ty w, (Builtin.min_ tys ty #[.int .i64 (p.2 + b), .int .i64 1000000000000000]).run Try.prog w = .ok (.int .i64 (wdP b p).2) w := fun tys ty w => nrun_min2 tys ty .i64 _ _ w
        have hwb : -1000000000000000000 ≤ (wdP b p).2 ∧ (wdP b p).2 ≤ 1000000000000000000 := by simp only [wdP]; omega
        have Hwb := Lib.hid hwb
        have HO := Lib.hid hown
        have hz := hbr.size
        clear hc hp hwb hown
        generalize wdP b p = u at *
        go_wp2_with fail
        refine (hext.out _ _ (by simp; omega) (HO.out.alloc _)).mono ?_
        rintro e w7 ⟨v', rfl, own7, hg7, hd7⟩
        have hB7 := (hbr.alloc hz (.cells #[.int .i64 p.1, .int .i64 p.2] 24)).grown hg7 (by simp; omega) (fun r hr => (HO.out.lt r hr).1)
        have HO7 := Lib.hid own7
        have hbd7 := Lib.hid (extP_bd (fun z => -1000000000000000000 ≤ z ∧ z ≤ 1000000000000000000) hbd.out (a := u) Hwb.out)
        clear hg7 hd7 own7 hext
        go_wp2_with fail
        go_roundw
        case rel => exact ⟨k + 1, by omega, by go_num, by rw [hnext.out]; exact HO7.out, by rw [hnext.out]; exact hbd7, hB7⟩
        case measure => simp [intOf]; omega
      · obtain rfl : k = n := by omega
        have hT : xs.take k = xs := List.take_of_length_le (by rw [Hn.out]; exact Nat.le_refl _)
        rw [hT] at hown
        have HO := Lib.hid hown
        clear hT hown
        go_wp2_with fail
        go_ret2
        exact ⟨_, rfl, HO.out, hbr⟩
  · rw [if_neg h0]
    have hne : (stE xs b != 0) = true := by simpa using h0
    obtain ⟨A, c, rfl, hr⟩ := hv
    clear hr
    generalize stE xs b = s at *
    generalize xs.length = n at *
    clear h0
    go_enter Try.func78, Try.ntmps78
    go_wp2_with fail
    refine c1.out.mono ?_
    rintro e w1 ⟨rfl, hB⟩
    go_wp2_with fail
    go_ret2
    exact ⟨_, rfl, World.ownsRow_nil _ _ _ _, hB⟩

set_option maxRecDepth 20000 in
set_option maxHeartbeats 2000000 in
theorem narrow_any (v : Value) (xs : List (Int × Int)) (b : Int) (w : World) (hv : SetAt w.heap.size w v xs) :
    Calls Try.prog 79 #[v, .int .i64 b] w (ListPost w (if stE xs b = 0 then nwL b xs else []) (stE xs b)) := by
  obtain ⟨i0, hi0, hz0, hz1, hz2⟩ := info_parts infoRange
  have c1 := Lib.hid (checkStep_any v xs b w hv)
  by_cases h0 : stE xs b = 0
  · rw [if_pos h0, h0]
    rw [h0] at c1
    obtain ⟨s0, b0, b1⟩ := stE_ok h0
    obtain ⟨hl, hv0⟩ := setE_bd s0
    have HV := Lib.hid hv0
    obtain ⟨A, c, rfl, hr⟩ := hv
    obtain ⟨n, hn⟩ : ∃ n, xs.length = n := ⟨_, rfl⟩
    rw [hn] at hl hr c1 ⊢
    have Hn := Lib.hid hn
    have HR := Lib.hid hr
    clear hr hn h0 s0 hv0
    go_enter Try.func79, Try.ntmps79
    go_wp2_with fail
    refine c1.out.mono ?_
    rintro e w1 ⟨rfl, hB⟩
    go_wp2_with fail
    go_loopw [7, 18] (fun s i wr => ∃ k : Nat, k ≤ n ∧ i = .int .i64 k ∧ wr.ownsRow w.heap.size 24 2 s (nwL b (xs.take k)).length (flat (nwL b (xs.take k))) ∧ Below w.heap.size w wr) (fun _ i _ => n - (intOf i).toNat)
    case atStart => exact ⟨0, Nat.zero_le _, rfl, World.ownsRow_nil _ _ _ _, hB⟩
    case round =>
      clear hB
      obtain ⟨k, hk, rfl, hown, hbr⟩ := hrel
      by_cases hlt : (k : Int) < (n : Int)
      · obtain ⟨p, hp⟩ : ∃ p, xs[k]? = some p := ⟨_, List.getElem?_eq_getElem (by rw [Hn.out]; omega)⟩
        obtain ⟨g, off, rfl, hg, hc⟩ := HR.out (by omega)
        obtain ⟨q0, q1⟩ := (hc.below hbr hg) k p hp
        obtain ⟨p1, p2, p3⟩ := vrB_of (HV.out p (List.mem_of_getElem? hp))
        have hnext : Hid (nwL b (xs.take (k + 1)) = if p.1 + b ≤ p.2 - b then nwL b (xs.take k) ++ [(p.1 + b, p.2 - b)] else nwL b (xs.take k)) := Lib.hid (by rw [take_snoc'' xs k p hp, nwL_snoc])
        have hlen : (nwL b (xs.take k)).length ≤ k := Nat.le_trans (nwL_len _ _) (List.length_take_le _ _)
        have HO := Lib.hid hown
        have hz := hbr.size
        clear hc hp hown
        generalize nwL b (xs.take k) = L at *
        by_cases hle : p.1 + b ≤ p.2 - b
        · have hn2 := Lib.hid (hnext.out.trans (if_pos hle))
          clear hnext
          go_wp2_with (at_builtin; refine wpList_append_own_at _ rfl (.tmp 31) (.tmp 41) 22 rfl w.heap.size 24 i0 (.agg #[.int .i64 0, .int .i64 0]) 2 16 Try.underlying22 hi0 hz0 hz1 hz2 rfl (by decide) _ L.length (flat L) rfl ((HO.out.alloc _).alloc _) ⟨wr.heap.size + 1, 0, none⟩ 1 1 [.int .i64 (p.1 + b), .int .i64 (p.2 - b)] rfl rfl ?_ ?_ ?_ ?_ ?_ ?_)
          case refine_1 =>
            intro j u hj
            rcases j with _ | _ | j
            · simp at hj; subst hj; exact (cell_at _ _ _ _ _ (by simp))
            · simp at hj; subst hj; exact (cell_at _ _ _ _ _ (by simp))
            · simp at hj
          case refine_2 => simp [Value.oneCell']
          case refine_3 => unfold maxLen; omega
          case refine_4 => omega
          case refine_5 => simp; omega
          case refine_6 =>
            intro v' w7 own7 hgrow _ hat
            have hB7 := ((hbr.alloc hz (.cells #[.int .i64 p.1, .int .i64 p.2] 24)).alloc (by simp; omega) _).grown hgrow (by simp; omega) (fun r hr => (HO.out.lt r hr).1)
            have HO7 := Lib.hid own7
            clear hgrow hat own7
            go_wp2_with fail
            go_roundw
            case rel => exact ⟨k + 1, by omega, by go_num, by rw [hn2.out, flat_append, flat_one]; simpa using HO7.out, hB7⟩
            case measure => simp [intOf]; omega
        · have hn2 := Lib.hid (hnext.out.trans (if_neg hle))
          clear hnext
          have hB7 := hbr.alloc hz (.cells #[.int .i64 p.1, .int .i64 p.2] 24)
          go_wp2_with fail
          go_roundw
          case rel => exact ⟨k + 1, by omega, by go_num, by rw [hn2.out]; exact HO.out.alloc _, hB7⟩
          case measure => simp [intOf]; omega
      · obtain rfl : k = n := by omega
        have hT : xs.take k = xs := List.take_of_length_le (by rw [Hn.out]; exact Nat.le_refl _)
        rw [hT] at hown
        have HO := Lib.hid hown
        clear hT hown
        go_wp2_with fail
        go_ret2
        exact ⟨_, rfl, HO.out, hbr⟩
  · rw [if_neg h0]
    have hne : (stE xs b != 0) = true := by simpa using h0
    obtain ⟨A, c, rfl, hr⟩ := hv
    clear hr
    generalize stE xs b = s at *
    generalize xs.length = n at *
    clear h0
    go_enter Try.func79, Try.ntmps79
    go_wp2_with fail
    refine c1.out.mono ?_
    rintro e w1 ⟨rfl, hB⟩
    go_wp2_with fail
    go_ret2
    exact ⟨_, rfl, World.ownsRow_nil _ _ _ _, hB⟩

/-- the number of a range that is nearest to another one, and that of a set -/
def nrP (x : Int) (p : Int × Int) : Int := min (max x p.1) p.2
def nrJ (x : Int) (b : Int) (p : Int × Int) : Int := if (nrP x p - x).natAbs < (b - x).natAbs then nrP x p else b
def nrV (x : Int) (xs : List (Int × Int)) : Int := match xs with | [] => 0 | p :: t => t.foldl (nrJ x) (nrP x p)
def nrE (xs : List (Int × Int)) (x : Int) : Int := if setE xs = 0 then (if vnB x then (if xs.length = 0 then 7 else 0) else 3) else setE xs
def nrR (xs : List (Int × Int)) (x : Int) : Int := if nrE xs x = 0 then nrV x xs else 0
theorem nrP_bd {x : Int} {p : Int × Int} (hx : -1000000000000000 ≤ x ∧ x ≤ 1000000000000000) (h : vrB p.1 p.2 = true) : -1000000000000000 ≤ nrP x p ∧ nrP x p ≤ 1000000000000000 := by
  have := vrB_of h
  unfold nrP
  omega

set_option maxHeartbeats 400000 in
theorem nearest_any (p : Int × Int) (x : Int) (w : World) :
    Calls Try.prog 135 #[.agg #[.int .i64 p.1, .int .i64 p.2], .int .i64 x] w fun e w' => e = .returned (.int .i64 (nrP x p)) ∧ Below w.heap.size w w' := by
  have M1 : ∀ tys ty w, (Builtin.max_ tys ty #[.int .i64 x, .int .i64 p.1]).run Try.prog w = .ok (.int .i64 (max x p.1)) w := fun tys ty w => nrun_max2 tys ty .i64 _ _ w
  have M2 : ∀ tys ty w, (Builtin.min_ tys ty #[.int .i64 (max x p.1), .int .i64 p.2]).run Try.prog w = .ok (.int .i64 (nrP x p)) w := fun tys ty w => nrun_min2 tys ty .i64 _ _ w
  generalize nrP x p = r at *
  generalize max x p.1 = m at *
  go_enter Try.func135, Try.ntmps135
  go_wp2_with fail
  go_ret
  exact ⟨rfl, (Below.refl _ _).alloc (Nat.le_refl _) _⟩

set_option maxRecDepth 20000 in
set_option maxHeartbeats 2000000 in
theorem near_any (v : Value) (xs : List (Int × Int)) (x : Int) (w : World) (hv : RowAt w.heap.size w v xs) :
    Calls Try.prog 80 #[v, .int .i64 x] w fun e w' => e = .returned (.tuple #[.int .i64 (nrR xs x), .int .i64 (nrE xs x)]) ∧ Below w.heap.size w w' := by
  have c1 := Lib.hid (checkSet_any v xs w hv.set)
  have c2 := Lib.hid (validNumber_any x)
  have ER : Hid (nrR xs x = if nrE xs x = 0 then nrV x xs else 0) := Lib.hid rfl
  have EE : Hid (nrE xs x = if setE xs = 0 then (if vnB x then (if xs.length = 0 then 7 else 0) else 3) else setE xs) := Lib.hid rfl
  obtain ⟨A, c, rfl, hcap, hr⟩ := hv
  by_cases hs : setE xs = 0
  · rw [hs] at c1
    rw [if_pos hs] at EE
    by_cases hx : vnB x = true
    · rw [hx] at c2
      rw [if_pos hx] at EE
      obtain ⟨x1, x2⟩ := vnB_of hx
      obtain ⟨hl, hv0⟩ := setE_bd hs
      cases xs with
      | nil =>
        have E1 : Hid (nrE [] x = 7) := Lib.hid (EE.out.trans rfl)
        have E2 : Hid (nrR [] x = 0) := Lib.hid (ER.out.trans (by rw [E1.out]; rfl))
        clear ER EE hs hx hv0 hr
        go_enter Try.func80, Try.ntmps80
        go_wp2_with fail
        refine c1.out.mono ?_
        rintro e w1 ⟨rfl, hb⟩
        go_wp2_with fail
        refine (c2.out _).mono ?_
        rintro e w' ⟨rfl, rfl⟩
        go_wp2_with fail
        go_ret2
        exact ⟨ret_ints2 E2.out.symm E1.out.symm, hb⟩
      | cons p ys =>
        have E1 : Hid (nrE (p :: ys) x = 0) := Lib.hid (EE.out.trans (if_neg (by simp)))
        have E2 : Hid (nrR (p :: ys) x = ys.foldl (nrJ x) (nrP x p)) := Lib.hid (ER.out.trans (by rw [E1.out]; rfl))
        obtain ⟨g, off, rfl, hgw, hrr⟩ := hr (by simp)
        have hc0 := (hrr 0 p rfl).1
        have hc1 := (hrr 0 p rfl).2
        simp only [Nat.zero_mul, Nat.add_zero] at hc0 hc1
        have hb0 := nrP_bd ⟨x1, x2⟩ (hv0 p (by simp))
        have HV : Hid (∀ q ∈ ys, vrB q.1 q.2 = true) := Lib.hid (fun q hq => hv0 q (by simp [hq]))
        have HR := Lib.hid (RRd.tail hrr)
        have c3 := Lib.hid (nearest_any p x)
        obtain ⟨n, hn⟩ : ∃ n, ys.length = n := ⟨_, rfl⟩
        have hl1 : (p :: ys).length = n + 1 := by simp [hn]
        rw [hl1] at hcap c1 hl ⊢
        have Hn := Lib.hid hn
        generalize nrR (p :: ys) x = rr at *
        generalize nrE (p :: ys) x = re at *
        clear ER EE hs hx hv0 hr hrr hn hl1
        have hb1 := hb0.1
        have hb2 := hb0.2
        have Hb := Lib.hid hb0
        have HF : Hid (nrP x p = nrP x p) := Lib.hid rfl
        obtain ⟨z, hz⟩ : ∃ z, nrP x p = z := ⟨_, rfl⟩
        rw [hz] at c3 E2 hb1 hb2 Hb
        clear hz HF hb0
        have hg0 : (0 : Int) < (n : Int) + 1 := by omega
        have h1n : (1 : Int) ≤ (n : Int) + 1 := by omega
        have hca : (1 : Int) ≤ (c : Int) := by omega
        have hcb : (n : Int) + 1 ≤ (c : Int) := by omega
        have hwn : IntKind.i64.wrap ((n : Int) + 1) = (n : Int) + 1 := IntWalk.i64_in _ (by omega)
        have hneb : ((n : Int) + 1 == 0) = false := by simp; omega
        by_cases hc1' : c = 1
        · obtain rfl : n = 0 := by omega
          subst hc1'
          have hys : ys = [] := List.eq_nil_of_length_eq_zero Hn.out
          have E3 : Hid (rr = z) := Lib.hid (by rw [E2.out, hys]; rfl)
          clear hys E2
          go_enter Try.func80, Try.ntmps80
          go_wp2_with fail
          refine c1.out.mono ?_
          rintro e w1 ⟨rfl, hb⟩
          replace hc0 := cell_next hb hgw hc0
          replace hc1 := cell_next hb hgw hc1
          go_wp2_with fail
          refine (c2.out _).mono ?_
          rintro e w' ⟨rfl, rfl⟩
          go_wp2_with fail
          refine (c3.out _).mono ?_
          rintro e w2 ⟨rfl, hb2⟩
          have hB := hb.trans (hb2.mono hb.size)
          clear hb hb2 hc0 hc1
          go_wp2_with fail
          go_loopw [7, 30] (fun y i wr => y = .int .i64 z ∧ i = .int .i64 0 ∧ Below w.heap.size w wr) (fun _ _ _ => 0)
          case atStart => exact ⟨rfl, rfl, hB⟩
          case round =>
            clear hB
            obtain ⟨rfl, rfl, hbr⟩ := hrel
            go_wp2_with fail
            go_ret2
            exact ⟨ret_ints2 E3.out.symm E1.out.symm, hbr⟩
        · have hc2 : (1 : Int) < (c : Int) := by omega
          go_enter Try.func80, Try.ntmps80
          go_wp2_with fail
          refine c1.out.mono ?_
          rintro e w1 ⟨rfl, hb⟩
          replace hc0 := cell_next hb hgw hc0
          replace hc1 := cell_next hb hgw hc1
          go_wp2_with fail
          refine (c2.out _).mono ?_
          rintro e w' ⟨rfl, rfl⟩
          go_wp2_with fail
          refine (c3.out _).mono ?_
          rintro e w2 ⟨rfl, hb2⟩
          have hB := hb.trans (hb2.mono hb.size)
          clear hb hb2 hc0 hc1
          go_wp2_with fail
          go_loopw [7, 30] (fun y i wr => ∃ (k : Nat) (u : Int), k ≤ n ∧ i = .int .i64 k ∧ y = .int .i64 u ∧ Hid (u = (ys.take k).foldl (nrJ x) z) ∧ -1000000000000000 ≤ u ∧ u ≤ 1000000000000000 ∧ Below w.heap.size w wr) (fun _ i _ => n - (intOf i).toNat)
          case atStart => exact ⟨0, z, Nat.zero_le _, rfl, rfl, Lib.hid rfl, hb1, hb2, hB⟩
          case round =>
            clear hB
            obtain ⟨k, u, hk, rfl, rfl, hu, u1, u2, hbr⟩ := hrel
            by_cases hlt : (k : Int) < (n : Int)
            · obtain ⟨q, hq⟩ : ∃ q, ys[k]? = some q := ⟨_, List.getElem?_eq_getElem (by rw [Hn.out]; omega)⟩
              obtain ⟨q0, q1⟩ := (HR.out.below hbr hgw) k q hq
              have hqb := nrP_bd ⟨x1, x2⟩ (HV.out q (List.mem_of_getElem? hq))
              have hnext : Hid ((ys.take (k + 1)).foldl (nrJ x) z = if (nrP x q - x).natAbs < (u - x).natAbs then nrP x q else u) := Lib.hid (by rw [take_snoc'' ys k q hq, List.foldl_append, ← hu.out]; rfl)
              have d1 := Lib.hid (nearest_any q x)
              obtain ⟨y, hy⟩ : ∃ y, nrP x q = y := ⟨_, rfl⟩
              rw [hy] at d1 hnext hqb
              obtain ⟨y1, y2⟩ := hqb
              clear hq hy
              have d2 := Lib.hid (size_any (y - x) (by omega) (by omega))
              have d3 := Lib.hid (size_any (u - x) (by omega) (by omega))
              generalize (y - x).natAbs = m1 at *
              generalize (u - x).natAbs = m2 at *
              have hz := hbr.size
              by_cases hm : m1 < m2
              all_goals
                have hn2 := hnext.out
                first | rw [if_pos hm] at hn2 | rw [if_neg hm] at hn2
                have HN2 := Lib.hid hn2.symm
                have hm' := hm
                clear hn2 hnext hm
                go_wp2_with fail
                refine (d1.out _).mono ?_
                rintro e w3 ⟨rfl, hb⟩
                have hB3 := hbr.trans ((below1 hb).mono hz)
                clear hb
                go_wp2_with fail
                refine (d2.out _).mono ?_
                rintro e w' ⟨rfl, rfl⟩
                go_wp2_with fail
                refine (d3.out _).mono ?_
                rintro e w' ⟨rfl, rfl⟩
                go_wp2_with fail
                go_roundw
                case rel => exact ⟨k + 1, _, by omega, by go_num, rfl, HN2, by assumption, by assumption, hB3⟩
                case measure => simp [intOf]; omega
            · obtain rfl : k = n := by omega
              have hT : ys.take k = ys := List.take_of_length_le (by rw [Hn.out]; exact Nat.le_refl _)
              have E3 : Hid (rr = u) := Lib.hid (by rw [E2.out, hu.out, hT])
              clear hT
              go_wp2_with fail
              go_ret2
              exact ⟨ret_ints2 E3.out.symm E1.out.symm, hbr⟩
    · have hxf : vnB x = false := by simpa using hx
      rw [hxf] at c2
      have E1 : Hid (nrE xs x = 3) := Lib.hid (EE.out.trans (by rw [hxf]; rfl))
      have E2 : Hid (nrR xs x = 0) := Lib.hid (ER.out.trans (by rw [E1.out]; rfl))
      generalize nrR xs x = rr at *
      generalize nrE xs x = re at *
      generalize xs.length = n at *
      clear ER EE hs hx hxf hr
      go_enter Try.func80, Try.ntmps80
      go_wp2_with fail
      refine c1.out.mono ?_
      rintro e w1 ⟨rfl, hb⟩
      go_wp2_with fail
      refine (c2.out _).mono ?_
      rintro e w' ⟨rfl, rfl⟩
      go_wp2_with fail
      go_ret2
      exact ⟨ret_ints2 E2.out.symm E1.out.symm, hb⟩
  · have hne : (setE xs != 0) = true := by simpa using hs
    have E1 : Hid (nrE xs x = setE xs) := Lib.hid (EE.out.trans (if_neg hs))
    have E2 : Hid (nrR xs x = 0) := Lib.hid (ER.out.trans (by rw [E1.out, if_neg hs]))
    generalize nrR xs x = rr at *
    generalize nrE xs x = re at *
    generalize setE xs = s at *
    generalize xs.length = n at *
    clear ER EE hs hr
    go_enter Try.func80, Try.ntmps80
    go_wp2_with fail
    refine c1.out.mono ?_
    rintro e w1 ⟨rfl, hb⟩
    go_wp2_with fail
    go_ret2
    exact ⟨ret_ints2 E2.out.symm E1.out.symm, hb⟩
end Go.Proofs.Ytiibbnbknmeplaa
