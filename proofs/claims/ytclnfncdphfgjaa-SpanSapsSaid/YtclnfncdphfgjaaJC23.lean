/- Contracts: V12, T10, T11, C7, C8, joined. -/
import Derived.Test.YtclnfncdphfgjaaJC22
import Derived.Test.YtclnfncdphfgjaaJC13
import Derived.Test.YtclnfncdphfgjaaJC1
namespace Go.Proofs.Ytclnfncdphfgjaa
open Go.RowKit Go.Lib Go.Shelf
set_option linter.unusedVariables false
set_option linter.unusedSimpArgs false
attribute [local go_sem ↓] Go.wp_at_zero Go.wp_at_succ

theorem infoSapW : (Try.prog.info? 28).map (fun i => (i.zero, i.size, i.bytes)) = some (some (.agg #[.int .i64 0, .int .i64 0]), 2, 16) := by kernel_rfl

theorem own_rowS (xs : List (Int × Int)) (n : Nat) (hn : xs.length = n) (v : Value) (w : World) {base : Nat} (h : w.ownsRow base 28 2 v n (flat xs)) : RowAt w.heap.size w v xs := by
  subst hn
  have hc := h
  obtain ⟨_, ⟨rfl, h0⟩ | ⟨g, cap, cur, rfl, _, hh, hnc, _, _, _⟩⟩ := h
  · have : xs = [] := List.eq_nil_of_length_eq_zero h0
    subst this
    exact ⟨none, 0, rfl, Nat.le_refl _, fun h => by simp at h⟩
  · refine ⟨_, cap, rfl, hnc, fun _ => ⟨g, 0, rfl, ?_, flat_rrd xs 0 fun j u hj => ?_⟩⟩
    · rcases Nat.lt_or_ge g w.heap.size with h | h
      · exact h
      · rw [Array.getElem?_eq_none h] at hh; cases hh
    · have := hc.cells (g := g) rfl j u hj
      simpa [Addr.add_lit] using this
set_option maxRecDepth 20000 in
set_option maxHeartbeats 1000000 in
theorem lSaps_some (xs : List (Int × Int)) (g off c : Nat) (hl : xs.length ≤ 1000) (w : World) (hg : g < w.heap.size) (hr : RRd w g off xs) :
    Calls Try.prog 15 #[.slice (some ⟨g, off, none⟩) xs.length c] w fun e w' => ∃ v', e = .returned v' ∧ RowAt w'.heap.size w' v' xs ∧ Below w.heap.size w w' := by
  obtain ⟨i0, hi0, hz0, hz1, hz2⟩ := info_parts infoSapW
  obtain ⟨n, hn⟩ : ∃ n, xs.length = n := ⟨_, rfl⟩
  rw [hn] at hl ⊢
  have Hn := Lib.hid hn
  have HR := Lib.hid hr
  clear hn hr
  go_enter Try.func15, Try.ntmps15
  have hown0 : (w.alloc (.cells #[] 28)).ownsRow w.heap.size 28 2 (.slice (some ⟨w.heap.size, 0, none⟩) 0 0) 0 [] :=
    ⟨rfl, .inr ⟨w.heap.size, 0, #[], rfl, Nat.le_refl _, heap_alloc_new w _, Nat.le_refl _, Nat.zero_le _, rfl, rfl⟩⟩
  have HO := Lib.hid hown0
  clear hown0
  go_wp2_with (at_builtin; refine wpList_append_own _ rfl (.tmp 3) (.tmp 4) 22 rfl w.heap.size 28 i0 (.agg #[.int .i64 0, .int .i64 0]) 2 16 Try.underlying22 hi0 hz0 hz1 hz2 rfl (by decide) (.slice (some ⟨w.heap.size, 0, none⟩) 0 0) 0 [] rfl HO.out ⟨g, off, none⟩ n c (flat xs) rfl ?_ ?_ ?_ ?_ ?_ ?_ ?_)
  case refine_1 => rw [flat_length, Hn.out]
  case refine_2 =>
    intro j u hj
    rw [Addr.add_lit]
    exact (((Below.refl _ _).alloc (Nat.le_refl _) _).cell (p := ⟨g, off + j, none⟩) hg).trans (rrd_flat xs off HR.out j u hj)
  case refine_3 =>
    intro u hu
    simp only [flat, List.mem_flatMap] at hu
    obtain ⟨p, _, hp⟩ := hu
    simp at hp
    rcases hp with rfl | rfl <;> rfl
  case refine_4 => unfold maxLen; omega
  case refine_5 => omega
  case refine_6 => simp
  case refine_7 =>
    intro v' w1 hown' hgrow _
    have hB : Below w.heap.size w w1 := ((Below.refl _ _).alloc (Nat.le_refl _) _).grown hgrow (by simp) (fun k hk => by simp [Value.ownBlock] at hk; omega)
    have hR : RowAt w1.heap.size w1 v' xs := own_rowS xs n Hn.out v' w1 (by simpa using hown')
    have HR1 := Lib.hid hR
    clear hown' hgrow hR
    go_wp2_with fail
    go_ret
    exact ⟨v', rfl, HR1.out, hB⟩

set_option maxRecDepth 20000 in
set_option maxHeartbeats 1000000 in
theorem lSaps_nil (A : Option Addr) (c : Nat) (w : World) :
    Calls Try.prog 15 #[.slice A 0 c] w fun e w' => ∃ v', e = .returned v' ∧ RowAt w'.heap.size w' v' [] ∧ Below w.heap.size w w' := by
  obtain ⟨i0, hi0, hz0, hz1, hz2⟩ := info_parts infoSapW
  rcases A with _ | ⟨g, off, spot⟩
  all_goals
    go_enter Try.func15, Try.ntmps15
    go_wp2_with fail
    go_ret
    exact ⟨_, rfl, ⟨_, 0, rfl, Nat.le_refl _, fun h => by simp at h⟩, (Below.refl _ _).alloc (Nat.le_refl _) _⟩

theorem lSaps_any (v : Value) (xs : List (Int × Int)) (hl : xs.length ≤ 1000) (w : World) (hv : ArgAt w v xs) :
    Calls Try.prog 15 #[v] w fun e w' => ∃ v', e = .returned v' ∧ RowAt w'.heap.size w' v' xs ∧ Below w.heap.size w w' := by
  rcases hv with ⟨⟨A, c, rfl⟩, rfl⟩ | ⟨g, off, c, rfl, hc, hg, hr⟩
  · exact lSaps_nil A c w
  · exact lSaps_some xs g off c hl w hg hr


theorem own_nums (xs : List Int) (n : Nat) (hn : xs.length = n) (v : Value) (w : World) {base : Nat} (h : w.ownsRow base 3 1 v n (ints xs)) : NumsAt w.heap.size w v xs := by
  subst hn
  by_cases h0 : 0 < xs.length
  · obtain ⟨g, c, rfl, _, hg, _, hi⟩ := own_ints' h h0
    exact ⟨_, c, rfl, fun _ => ⟨g, 0, rfl, hg, hi⟩⟩
  · have : xs = [] := List.eq_nil_of_length_eq_zero (by omega)
    subst this
    rcases h.2 with ⟨rfl, _⟩ | ⟨g, cap, cur, rfl, _⟩
    · exact ⟨none, 0, rfl, fun h => by simp at h⟩
    · exact ⟨_, cap, rfl, fun h => by simp at h⟩
set_option maxRecDepth 20000 in
set_option maxHeartbeats 1000000 in
theorem lNums_some (xs : List Int) (g off c : Nat) (hl : xs.length ≤ 1000) (w : World) (hg : g < w.heap.size) (hr : IntsAt w g off xs) :
    Calls Try.prog 16 #[.slice (some ⟨g, off, none⟩) xs.length c] w fun e w' => ∃ v', e = .returned v' ∧ NumsAt w'.heap.size w' v' xs ∧ Below w.heap.size w w' := by
  obtain ⟨i0, hi0, hz0, hz1, hz2⟩ := info_parts infoInt
  obtain ⟨n, hn⟩ : ∃ n, xs.length = n := ⟨_, rfl⟩
  rw [hn] at hl ⊢
  have Hn := Lib.hid hn
  have HR := Lib.hid hr
  clear hn hr
  go_enter Try.func16, Try.ntmps16
  have hown0 : (w.alloc (.cells #[] 3)).ownsRow w.heap.size 3 1 (.slice (some ⟨w.heap.size, 0, none⟩) 0 0) 0 [] :=
    ⟨rfl, .inr ⟨w.heap.size, 0, #[], rfl, Nat.le_refl _, heap_alloc_new w _, Nat.le_refl _, Nat.zero_le _, rfl, rfl⟩⟩
  have HO := Lib.hid hown0
  clear hown0
  go_wp2_with (at_builtin; refine wpList_append_own _ rfl (.tmp 3) (.tmp 4) 23 rfl w.heap.size 3 i0 (.int .i64 0) 1 8 Try.underlying23 hi0 hz0 hz1 hz2 rfl (by decide) (.slice (some ⟨w.heap.size, 0, none⟩) 0 0) 0 [] rfl HO.out ⟨g, off, none⟩ n c (ints xs) rfl ?_ ?_ ?_ ?_ ?_ ?_ ?_)
  case refine_1 => simp [ints, Hn.out]
  case refine_2 =>
    intro j u hj
    rw [Addr.add_lit]
    exact (((Below.refl _ _).alloc (Nat.le_refl _) _).cell (p := ⟨g, off + j, none⟩) hg).trans (by
      simp only [ints, List.getElem?_map, Option.map_eq_some_iff] at hj
      obtain ⟨z, hz, rfl⟩ := hj
      exact HR.out j z hz)
  case refine_3 =>
    intro u hu
    simp only [ints, List.mem_map] at hu
    obtain ⟨p, _, rfl⟩ := hu
    rfl
  case refine_4 => unfold maxLen; omega
  case refine_5 => omega
  case refine_6 => simp
  case refine_7 =>
    intro v' w1 hown' hgrow _
    have hB : Below w.heap.size w w1 := ((Below.refl _ _).alloc (Nat.le_refl _) _).grown hgrow (by simp) (fun k hk => by simp [Value.ownBlock] at hk; omega)
    have hR : NumsAt w1.heap.size w1 v' xs := own_nums xs n Hn.out v' w1 (by simpa using hown')
    have HR1 := Lib.hid hR
    clear hown' hgrow hR
    go_wp2_with fail
    go_ret
    exact ⟨v', rfl, HR1.out, hB⟩

set_option maxRecDepth 20000 in
set_option maxHeartbeats 1000000 in
theorem lNums_nil (A : Option Addr) (c : Nat) (w : World) :
    Calls Try.prog 16 #[.slice A 0 c] w fun e w' => ∃ v', e = .returned v' ∧ NumsAt w'.heap.size w' v' [] ∧ Below w.heap.size w w' := by
  obtain ⟨i0, hi0, hz0, hz1, hz2⟩ := info_parts infoInt
  rcases A with _ | ⟨g, off, spot⟩
  all_goals
    go_enter Try.func16, Try.ntmps16
    go_wp2_with fail
    go_ret
    exact ⟨_, rfl, ⟨_, 0, rfl, fun h => by simp at h⟩, (Below.refl _ _).alloc (Nat.le_refl _) _⟩


theorem lNums_any (v : Value) (xs : List Int) (hl : xs.length ≤ 1000) (w : World) (hv : NumsAt w.heap.size w v xs) :
    Calls Try.prog 16 #[v] w fun e w' => ∃ v', e = .returned v' ∧ NumsAt w'.heap.size w' v' xs ∧ Below w.heap.size w w' := by
  obtain ⟨A, c, rfl, h⟩ := hv
  by_cases h0 : 0 < xs.length
  · obtain ⟨g, off, rfl, hg, hr⟩ := h h0
    exact lNums_some xs g off c hl w hg hr
  · have : xs = [] := List.eq_nil_of_length_eq_zero (by omega)
    subst this
    exact lNums_nil A c w

/-! ### the same, as they are read -/
theorem row_slice {B : Nat} {w : World} {v : Value} {xs : List (Int × Int)} (h : RowAt B w v xs) : ∃ A c, v = .slice A xs.length c := by obtain ⟨A, c, rfl, _⟩ := h; exact ⟨A, c, rfl⟩
theorem nums_slice {B : Nat} {w : World} {v : Value} {xs : List Int} (h : NumsAt B w v xs) : ∃ A c, v = .slice A xs.length c := by obtain ⟨A, c, rfl, _⟩ := h; exact ⟨A, c, rfl⟩
theorem saps_l (v : Value) (xs : List (Int × Int)) (n : Nat) (hn : xs.length = n) (hl : n ≤ 1000) (w : World) (hv : RowAt w.heap.size w v xs) :
    Calls Try.prog 15 #[v] w fun e w' => ∃ A c, e = .returned (.slice A n c) ∧ RowAt w'.heap.size w' (.slice A n c) xs ∧ Below w.heap.size w w' := by
  subst hn
  have ha : ArgAt w v xs := by
    obtain ⟨A, c, rfl, hc, h⟩ := hv
    by_cases h0 : 0 < xs.length
    · obtain ⟨g, off, rfl, hg, hr⟩ := h h0
      exact .inr ⟨g, off, c, rfl, hc, hg, hr⟩
    · have : xs = [] := List.eq_nil_of_length_eq_zero (by omega)
      subst this
      exact .inl ⟨⟨A, c, rfl⟩, rfl⟩
  refine (lSaps_any v xs hl w ha).mono ?_
  rintro e w' ⟨v', rfl, h, hb⟩
  obtain ⟨A, c, rfl⟩ := row_slice h
  exact ⟨A, c, rfl, h, hb⟩
theorem nums_l (v : Value) (xs : List Int) (n : Nat) (hn : xs.length = n) (hl : n ≤ 1000) (w : World) (hv : NumsAt w.heap.size w v xs) :
    Calls Try.prog 16 #[v] w fun e w' => ∃ A c, e = .returned (.slice A n c) ∧ NumsAt w'.heap.size w' (.slice A n c) xs ∧ Below w.heap.size w w' := by
  subst hn
  refine (lNums_any v xs hl w hv).mono ?_
  rintro e w' ⟨v', rfl, h, hb⟩
  obtain ⟨A, c, rfl⟩ := nums_slice h
  exact ⟨A, c, rfl, h, hb⟩
theorem sp_l {w w' : World} {zs : List (Int × Int)} {r : Int} {e : Ending} {n : Nat} (hn : zs.length = n) (h : SpPost w zs r e w') : ∃ A c, e = .returned (.tuple #[.slice A n c, .int .i64 r]) ∧ RowAt w'.heap.size w' (.slice A n c) zs ∧ Below w.heap.size w w' := by
  subst hn
  obtain ⟨v, rfl, ho, hb⟩ := h
  have hr := own_rowS zs _ rfl v w' ho
  obtain ⟨A, c, rfl⟩ := row_slice hr
  exact ⟨A, c, rfl, hr, hb⟩
theorem sh_l {w w' : World} {zs : List Int} {r : Int} {e : Ending} {n : Nat} (hn : zs.length = n) (h : ShPost w zs r e w') : ∃ A c, e = .returned (.tuple #[.slice A n c, .int .i64 r]) ∧ NumsAt w'.heap.size w' (.slice A n c) zs ∧ Below w.heap.size w w' := by
  subst hn
  obtain ⟨v, rfl, ho, hb⟩ := h
  have hr := own_nums zs _ rfl v w' ho
  obtain ⟨A, c, rfl⟩ := nums_slice hr
  exact ⟨A, c, rfl, hr, hb⟩

open Go.RowKit Go.Lib Go.Shelf Go.Sort
set_option linter.unusedVariables false
set_option linter.unusedSimpArgs false
attribute [local go_sem ↓] Go.wp_at_zero Go.wp_at_succ

theorem setE_is {xs : List (Int × Int)} (h : setE xs = 0) : xs.length ≤ 200 ∧ IsSet xs := by
  unfold setE at h
  split at h
  · cases h
  · split at h
    · exact ⟨by omega, isSet_of (by assumption)⟩
    · cases h

theorem mem_compact {α : Type} [Inhabited α] [DecidableEq α] {zs : List α} {x : α} (h : x ∈ Lib.compact zs) : x ∈ zs := by
  unfold Lib.compact Lib.compactUpTo at h
  obtain ⟨i, hi, rfl⟩ := List.mem_map.1 h
  have hi' : i < zs.length := List.mem_range.1 (List.mem_filter.1 hi).1
  simp [getElem!_pos, hi']
theorem mem_stepsUp {zs : List Int} {z : Int} (h : z ∈ stepsUp zs) : z ∈ zs := List.mem_mergeSort.1 (mem_compact h)
theorem stepsUp_length_le (zs : List Int) : (stepsUp zs).length ≤ zs.length := by
  have h := compact_length_le (zs.mergeSort fun x y => decide (x ≤ y))
  rw [List.length_mergeSort] at h
  exact h
theorem mem_stepsOf {xs : List (Int × Int)} (hs : IsSet xs) {z : Int} (h : z ∈ stepsOf xs) : -10000000000000000 ≤ z ∧ z ≤ 10000000000000000 := by
  unfold stepsOf at h
  obtain ⟨p, hp, hz⟩ := List.mem_flatMap.1 h
  have := hs.valid p hp
  simp at hz
  omega
theorem own_ints {w : World} {base : Nat} {v : Value} {Z : List Int} (h : w.ownsRow base 3 1 v Z.length (ints Z)) :
    ∃ A c, v = .slice A Z.length c ∧ (0 < Z.length → ∃ g, A = some ⟨g, 0, none⟩ ∧ base ≤ g ∧ g < w.heap.size ∧ ∀ j, j < Z.length → w.cell? ⟨g, j, none⟩ = some (.int .i64 (Z.getD j 0))) := by
  rcases h.2 with ⟨rfl, h0⟩ | ⟨g, cap, cur, rfl, hb, hg, hn, hm, hs, ht⟩
  · exact ⟨none, 0, by rw [h0], fun h => by omega⟩
  · refine ⟨_, cap, rfl, fun _ => ⟨g, rfl, hb, (Array.getElem?_eq_some_iff.1 hg).1, fun j hj => ?_⟩⟩
    have hc := h.cellAt j (by omega)
    rw [hc]
    simp [ints, hj]

/-- from each change to the next one, and whether it is kept -/
def runsOf (K : Bool → Bool → Bool) (xs ys : List (Int × Int)) (Z : List Int) (k : Nat) : (Int × Int) × Bool :=
  ((Z.getD k 0, Z.getD (k + 1) 0 - 1), K (memB xs (Z.getD k 0)) (memB ys (Z.getD k 0)))
/-- the set of the numbers that are kept -/
def joinL (K : Bool → Bool → Bool) (xs ys : List (Int × Int)) : List (Int × Int) :=
  whereAt (runsOf K xs ys (stepsUp (stepsOf xs ++ stepsOf ys))) ((stepsUp (stepsOf xs ++ stepsOf ys)).length - 1)
def ChoosePost (w : World) (L : List (Int × Int)) (e : Ending) (w' : World) : Prop :=
  ∃ v, e = .returned (.tuple #[v, .int .i64 (if 200 < L.length then 8 else 0)]) ∧ w'.ownsRow w.heap.size 107 2 v (if 200 < L.length then [] else L).length (flat (if 200 < L.length then [] else L)) ∧ Below w.heap.size w w'
/-- what keeps two tests together -/
def KeepAt (F : Nat) (K : Bool → Bool → Bool) : Prop := ∀ (p q : Bool) (w : World), Calls Try.prog F #[.bool p, .bool q] w fun e w' => e = .returned (.bool (K p q)) ∧ Below w.heap.size w w'

set_option maxRecDepth 20000 in
set_option maxHeartbeats 2000000 in
theorem choose_ok (F : Nat) (K : Bool → Bool → Bool) (hE : ∀ args w, (callFunc F args).run Try.prog w = .ok (.enter F args) w) (hK : KeepAt F K) (va vb : Value) (xs ys : List (Int × Int)) (w : World)
    (ha : SetAt w.heap.size w va xs) (hb : SetAt w.heap.size w vb ys) (hea : setE xs = 0) (heb : setE ys = 0) :
    Calls Try.prog 101 #[va, vb, .func (Fn.func F) #[] #[]] w (ChoosePost w (joinL K xs ys)) := by
  have HA := Lib.hid ha
  have HB := Lib.hid hb
  obtain ⟨A, ca, rfl, _⟩ := ha
  obtain ⟨A2, cb, rfl, _⟩ := hb
  obtain ⟨hla, hsa⟩ := setE_is hea
  obtain ⟨hlb, hsb⟩ := setE_is heb
  obtain ⟨na, hna⟩ : ∃ na, xs.length = na := ⟨_, rfl⟩
  obtain ⟨nb, hnb⟩ : ∃ nb, ys.length = nb := ⟨_, rfl⟩
  rw [hna] at HA ⊢
  rw [hnb] at HB ⊢
  have HNA := Lib.hid hna
  have HNB := Lib.hid hnb
  rw [hna] at hla
  rw [hnb] at hlb
  obtain ⟨Z, hZ⟩ : ∃ Z, stepsUp (stepsOf xs ++ stepsOf ys) = Z := ⟨_, rfl⟩
  have hJ : joinL K xs ys = whereAt (runsOf K xs ys Z) (Z.length - 1) := by unfold joinL; rw [hZ]
  rw [hJ]
  have hn0 : Z.length ≤ 1000 := by
    have h := stepsUp_length_le (stepsOf xs ++ stepsOf ys)
    rw [hZ, List.length_append, stepsOf_length, stepsOf_length] at h
    omega
  have hbz0 : ∀ z ∈ Z, -10000000000000000 ≤ z ∧ z ≤ 10000000000000000 := by
    intro z hz
    rw [← hZ] at hz
    rcases List.mem_append.1 (mem_stepsUp hz) with h | h
    · exact mem_stepsOf hsa h
    · exact mem_stepsOf hsb h
  have HZ := Lib.hid hZ
  have HBZ : Hid (∀ j, j < Z.length → -10000000000000000 ≤ Z.getD j 0 ∧ Z.getD j 0 ≤ 10000000000000000) := Lib.hid fun j hj => by
    rw [List.getD_eq_getElem?_getD, List.getElem?_eq_getElem hj]
    exact hbz0 _ (List.getElem_mem hj)
  have HK := Lib.hid hK
  have HEA := Lib.hid hea
  have HEB := Lib.hid heb
  clear hna hnb hZ hJ hbz0 hK hea heb
  go_enter Try.func101, Try.ntmps101
  go_wp2_with fail
  refine (checkSet_any _ xs _ HA.out).mono ?_
  rintro e w1 ⟨rfl, hb1⟩
  rw [HEA.out]
  have hz1 := hb1.size
  go_wp2_with fail
  refine (checkSet_any _ ys _ ((HB.out.below hb1 (Nat.le_refl _)).mono hz1)).mono ?_
  rintro e w2 ⟨rfl, hb2⟩
  rw [HEB.out]
  replace hb1 := hb1.trans (hb2.mono hz1)
  clear hb2 hz1
  have hz2 := hb1.size
  go_wp2_with fail
  obtain ⟨W2, hW2⟩ : ∃ W2, w2.alloc (Obj.cells #[Value.slice A na ca, Value.slice A2 nb cb] 111) = W2 := ⟨_, rfl⟩
  have hb2 : RowKit.Below w.heap.size w W2 := by rw [← hW2]; exact hb1.alloc hz2 _
  have hs2 : W2.heap.size = w2.heap.size + 1 := by rw [← hW2]; simp
  have k0 : W2.cell? ⟨w2.heap.size, 0, none⟩ = some (Value.slice A na ca) := by rw [← hW2]; simp
  have k1 : W2.cell? ⟨w2.heap.size, 1, none⟩ = some (Value.slice A2 nb cb) := by rw [← hW2]; simp
  rw [hW2]
  clear hW2
  generalize w2.heap.size = h at *
  clear hb1
  refine (changes_two h _ _ xs ys W2 (by omega) k0 k1 ((HA.out.below hb2 (Nat.le_refl _)).mono hb2.size) ((HB.out.below hb2 (Nat.le_refl _)).mono hb2.size) hsa hsb (by rw [HNA.out]; exact hla) (by rw [HNB.out]; exact hlb)).mono ?_
  rintro e w3 ⟨v, rfl, hown, hb3⟩
  replace hb3 := hb2.trans (hb3.mono hb2.size)
  have hz3 := hb3.size
  rw [HZ.out] at hown
  clear hb2 k0 k1
  obtain ⟨A3, c3, rfl, hcz0⟩ := own_ints hown
  have HCZ := Lib.hid hcz0
  obtain ⟨n, hn⟩ : ∃ n, Z.length = n := ⟨_, rfl⟩
  rw [hn] at hn0 HBZ HCZ ⊢
  obtain ⟨PL, hPL⟩ : ∃ PL, runsOf K xs ys Z = PL := ⟨_, rfl⟩
  rw [hPL]
  have HPL := Lib.hid hPL
  have HZn := Lib.hid hn
  clear hPL hown hcz0 hn
  go_wp2_with fail
  go_loopw [10, 31] (fun s i wr => ∃ k : Nat, k ≤ n - 1 ∧ i = .int .i64 k ∧ wr.ownsRow w.heap.size 107 2 s (whereAt PL k).length (flat (whereAt PL k)) ∧ (∀ r, s.ownBlock = some r → w3.heap.size ≤ r) ∧ Hid (∀ p ∈ whereAt PL k, -1000000000000000000 ≤ p.2 ∧ p.2 ≤ 1000000000000000000) ∧ Below w3.heap.size w3 wr) (fun _ i _ => n - (RowKit.intOf i).toNat)
  case atStart => exact ⟨0, Nat.zero_le _, rfl, World.ownsRow_nil _ _ _ _, (fun r hr => by cases hr), Lib.hid (by intro p hp; cases hp), Below.refl _ _⟩
  case round =>
    obtain ⟨k, hk, rfl, hset, hfar, hbd, hbr⟩ := hrel
    by_cases hlt : (k : Int) < (n : Int) - 1
    · have HSET := Lib.hid hset
      have HFAR := Lib.hid hfar
      obtain ⟨gz, rfl, _, hgz, hcz⟩ := HCZ.out (by omega)
      have z0 := cell_next hbr hgz (hcz k (by omega))
      have z1 := cell_next hbr hgz (hcz (k + 1) (by omega))
      have hk0 : (0 : Int) ≤ (k : Int) := by omega
      have hk1 : (k : Int) < (n : Int) := by omega
      have hk2 : (k : Int) + 1 < (n : Int) := by omega
      have hk3 : (0 : Int) ≤ (k : Int) + 1 := by omega
      have hwk : IntKind.i64.wrap ((k : Int) + 1) = (k : Int) + 1 := IntWalk.i64_in _ (by omega)
      have hb0 := HBZ.out k (by omega)
      have hb1 := HBZ.out (k + 1) (by omega)
      have hnext : Hid (whereAt PL (k + 1) = if (PL k).2 then extP (whereAt PL k) (PL k).1 else whereAt PL k) := Lib.hid rfl
      have hplk : Hid (PL k = ((Z.getD k 0, Z.getD (k + 1) 0 - 1), K (memB xs (Z.getD k 0)) (memB ys (Z.getD k 0)))) := Lib.hid (by rw [← HPL.out]; rfl)
      have hlen := whereAt_length PL k
      clear hset hfar
      generalize Z.getD k 0 = lo at *
      generalize Z.getD (k + 1) 0 = nx at *
      have hwx : IntKind.i64.wrap (nx - 1) = nx - 1 := IntWalk.i64_in _ (by omega)
      clear hcz
      have SB : Hid (∀ W' : World, Below wr.heap.size wr W' → W'.cell? ⟨gz, k, none⟩ = some (.int .i64 lo) ∧ W'.cell? ⟨gz, k + 1, none⟩ = some (.int .i64 nx) ∧ Below wr.heap.size wr W') := Lib.hid fun W' hb =>
        ⟨cell_next hb (Nat.lt_of_lt_of_le hgz hbr.size) z0, cell_next hb (Nat.lt_of_lt_of_le hgz hbr.size) z1, hb⟩
      clear z0 z1
      have hS := SB.out wr (Below.refl _ _)
      go_wp2_with fail
      go_region_held3 (fun W' => W'.cell? ⟨gz, k, none⟩ = some (.int .i64 lo) ∧ W'.cell? ⟨gz, k + 1, none⟩ = some (.int .i64 nx) ∧ Below wr.heap.size wr W')
        (first | exact SB.out _ (Below.drew (Below.refl _ _)) | exact SB.out _ ((‹_ ∧ _ ∧ Below _ _ _›).2.2.drew) | exact SB.out _ (((Below.refl _ _).alloc (Nat.le_refl _) _).drew) | exact SB.out _ ((‹_ ∧ _ ∧ Below _ _ _›).2.2.alloc (‹_ ∧ _ ∧ Below _ _ _›).2.2.size _) | exact SB.out _ (below_realloc (‹_ ∧ _ ∧ Below _ _ _›).2.2 (by omega)) | exact SB.out _ (((‹_ ∧ _ ∧ Below _ _ _›).2.2.setCell (p := ⟨wr.heap.size, 0, none⟩) (Nat.le_refl _) _).setCell (p := ⟨wr.heap.size, 1, none⟩) (Nat.le_refl _) _))
        (fail)
      obtain ⟨W4, hW4⟩ : ∃ W4, (wr.alloc (Obj.cells #[Value.int IntKind.i64 lo, Value.int IntKind.i64 (nx - 1)] 107)).drew = W4 := ⟨_, rfl⟩
      have hb4 : RowKit.Below wr.heap.size wr W4 := by rw [← hW4]; exact ((Below.refl _ _).alloc (Nat.le_refl _) _).drew
      have hs4 : W4.heap.size = wr.heap.size + 1 := by rw [← hW4]; simp [drew_size]
      have b0 : W4.cell? ⟨wr.heap.size, 0, none⟩ = some (.int .i64 lo) := by rw [← hW4]; exact cell_at _ _ _ _ _ (by simp [drew_size])
      have b1 : W4.cell? ⟨wr.heap.size, 1, none⟩ = some (.int .i64 (nx - 1)) := by rw [← hW4]; exact cell_at _ _ _ _ _ (by simp [drew_size])
      rw [hW4]
      have hset4 := own_below HSET.out hb4
      have hbw4 := hbr.trans (hb4.mono hbr.size)
      have hw4 := hb3.trans (hbw4.mono hz3)
      clear hW4 hS SB HSET hb4 hbr
      generalize wr.heap.size = bx at *
      have HSET := Lib.hid hset4
      have HW4 := Lib.hid hw4
      have HBW4 := Lib.hid hbw4
      have SB : Hid (∀ W' : World, Below W4.heap.size W4 W' → W'.cell? ⟨bx, 0, none⟩ = some (.int .i64 lo) ∧ W'.cell? ⟨bx, 1, none⟩ = some (.int .i64 (nx - 1)) ∧ Below W4.heap.size W4 W') := Lib.hid fun W' hb =>
        ⟨cell_next hb (by omega) b0, cell_next hb (by omega) b1, hb⟩
      have hza := HW4.out.size
      have hxl : xs.length ≤ 1000 := by rw [HNA.out]; omega
      have hyl : ys.length ≤ 1000 := by rw [HNB.out]; omega
      have HA1 : Hid (∀ W' : World, Below W4.heap.size W4 W' → Calls Try.prog 131 #[.slice A na ca, .int .i64 lo] W' fun e w' => e = .returned (.bool (memB xs lo)) ∧ Below W'.heap.size W' w') := Lib.hid fun W' hb =>
        has_set (Value.slice A na ca) xs lo hsa hxl W' ((HA.out.below (HW4.out.trans (hb.mono hza)) (Nat.le_refl _)).mono (Nat.le_trans hza hb.size))
      have HB1 : Hid (∀ W' : World, Below W4.heap.size W4 W' → Calls Try.prog 131 #[.slice A2 nb cb, .int .i64 lo] W' fun e w' => e = .returned (.bool (memB ys lo)) ∧ Below W'.heap.size W' w') := Lib.hid fun W' hb =>
        has_set (Value.slice A2 nb cb) ys lo hsb hyl W' ((HB.out.below (HW4.out.trans (hb.mono hza)) (Nat.le_refl _)).mono (Nat.le_trans hza hb.size))
      have HK1 := Lib.hid (HK.out (memB xs lo) (memB ys lo))
      clear b0 b1 hset4 hw4 hbw4 hxl hyl
      generalize memB xs lo = pa at *
      generalize memB ys lo = pb at *
      generalize K pa pb = kp at *
      have hS := SB.out W4 (Below.refl _ _)
      go_wp2_with fail
      refine wp_region_held_drew (S := fun W' => W'.cell? ⟨bx, 0, none⟩ = some (.int .i64 lo) ∧ W'.cell? ⟨bx, 1, none⟩ = some (.int .i64 (nx - 1)) ∧ Below W4.heap.size W4 W') (by kernel_rfl) ?_ (fun hHeld => ?_)
      focus (exact SB.out _ (Below.drew (Below.refl _ _)))
      refine take_slot (i := 0) (d := 45) (v := ?_) rfl rfl (by kernel_rfl) (by kernel_rfl) (by kernel_rfl) (fun _ _ _ h => h) (Or.inl ⟨by rfl, ?_⟩) (by assumption) ?_
      rotate_left 1
      focus (intro wS hSw; (try dsimp only at hSw); go_simp; try with_reducible rfl)
      try simp only [List.setIfInBounds_toArray, List.set_cons_zero, List.set_cons_succ]
      refine take_slot (i := 1) (d := 46) (v := ?_) rfl rfl (by kernel_rfl) (by kernel_rfl) (by kernel_rfl) (fun _ _ _ h => h) (Or.inl ⟨by rfl, ?_⟩) (by assumption) ?_
      rotate_left 1
      focus (intro wS hSw; (try dsimp only at hSw); go_simp; try with_reducible rfl)
      try simp only [List.setIfInBounds_toArray, List.set_cons_zero, List.set_cons_succ]
      refine take_slot (i := 2) (d := 47) (v := ?_) rfl rfl (by kernel_rfl) (by kernel_rfl) (by kernel_rfl) (fun _ _ _ h => h) (Or.inl ⟨by rfl, ?_⟩) (by assumption) ?_
      rotate_left 1
      focus (intro wS hSw; (try dsimp only at hSw); go_simp; try with_reducible rfl)
      try simp only [List.setIfInBounds_toArray, List.set_cons_zero, List.set_cons_succ]
      refine take_slot (i := 3) (d := 48) (v := ?_) rfl rfl (by kernel_rfl) (by kernel_rfl) (by kernel_rfl) (fun _ _ _ h => h) (Or.inl ⟨by rfl, ?_⟩) (by assumption) ?_
      rotate_left 1
      focus (intro wS hSw; (try dsimp only at hSw); go_simp; try with_reducible rfl)
      try simp only [List.setIfInBounds_toArray, List.set_cons_zero, List.set_cons_succ]
      refine take_slot (i := 5) (d := 50) (v := ?_) rfl rfl (by kernel_rfl) (by kernel_rfl) (by kernel_rfl) (fun _ _ _ h => h) (Or.inl ⟨by rfl, ?_⟩) (by assumption) ?_
      rotate_left 1
      focus (intro wS hSw; (try dsimp only at hSw); go_simp; try with_reducible rfl)
      try simp only [List.setIfInBounds_toArray, List.set_cons_zero, List.set_cons_succ]
      refine take_slot (i := 6) (d := 51) (v := ?_) rfl rfl (by kernel_rfl) (by kernel_rfl) (by kernel_rfl) (fun _ _ _ h => h) (Or.inl ⟨by rfl, ?_⟩) (by assumption) ?_
      rotate_left 1
      focus (intro wS hSw; (try dsimp only at hSw); go_simp; try with_reducible rfl)
      try simp only [List.setIfInBounds_toArray, List.set_cons_zero, List.set_cons_succ]
      refine take_slot (i := 7) (d := 52) (v := ?_) rfl rfl (by kernel_rfl) (by kernel_rfl) (by kernel_rfl) (fun _ _ _ h => h) (Or.inl ⟨by rfl, ?_⟩) (by assumption) ?_
      rotate_left 1
      focus (intro wS hSw; (try dsimp only at hSw); go_simp; try with_reducible rfl)
      try simp only [List.setIfInBounds_toArray, List.set_cons_zero, List.set_cons_succ]
      refine wpAnyH_ready (rs := [4]) (by kernel_rfl) (by simp) ?_
      refine AllReadyH.cons rfl (fun K hK => ?_) AllReadyH.nil
      go_simp
      refine (HA1.out _ hHeld.2.2).mono ?_; rintro e w5 ⟨rfl, hb5⟩
      refine hK.out _ _ ?_ (fun hHeld => ?_)
      focus (exact SB.out _ (hHeld.2.2.trans (hb5.mono hHeld.2.2.size)))
      clear hK K
      try simp only [Act.put, List.setIfInBounds_toArray, List.set_cons_zero, List.set_cons_succ]
      refine wpAnyH_ready (rs := [8]) (by kernel_rfl) (by simp) ?_
      refine AllReadyH.cons rfl (fun K hK => ?_) AllReadyH.nil
      go_simp
      refine (HB1.out _ hHeld.2.2).mono ?_; rintro e w5 ⟨rfl, hb5⟩
      refine hK.out _ _ ?_ (fun hHeld => ?_)
      focus (exact SB.out _ (hHeld.2.2.trans (hb5.mono hHeld.2.2.size)))
      clear hK K
      try simp only [Act.put, List.setIfInBounds_toArray, List.set_cons_zero, List.set_cons_succ]
      refine wpAnyH_ready (rs := [9]) (by kernel_rfl) (by simp) ?_
      refine AllReadyH.cons rfl (fun K hK => ?_) AllReadyH.nil
      go_simp
      refine (HK1.out _).mono ?_; rintro e w5 ⟨rfl, hb5⟩
      refine hK.out _ _ ?_ (fun hHeld => ?_)
      focus (exact SB.out _ (hHeld.2.2.trans (hb5.mono hHeld.2.2.size)))
      clear hK K
      try simp only [Act.put, List.setIfInBounds_toArray, List.set_cons_zero, List.set_cons_succ]
      refine wpAnyH_done (by kernel_rfl) ?_ _
      obtain ⟨e0, e1, hb9⟩ := hHeld
      have own9 := own_below HSET.out hb9
      have hbw := HBW4.out.trans (hb9.mono HBW4.out.size)
      have hz9 := hb9.size
      clear hS SB HA1 HB1 HK1
      cases kp
      · go_wp2_with fail
        go_roundw
        case rel =>
          have e : whereAt PL (k + 1) = whereAt PL k := by rw [hnext.out, hplk.out]; rfl
          refine ⟨k + 1, by omega, by go_num, ?_, HFAR.out, ?_, hbw⟩
          · rw [e]; exact own9
          · rw [e]; exact hbd
        case measure => simp [RowKit.intOf]; omega
      · go_wp2_with fail
        refine (extend_any (whereAt PL k) lo (nx - 1) _ w.heap.size hbd.out (by omega) _ (by omega) own9).mono ?_
        rintro e w7 ⟨v', rfl, own7, hg7, hd7⟩
        have hrow : ∀ r, Value.ownBlock _ = some r → w3.heap.size ≤ r := fun r hr => HFAR.out r hr
        have hb7 := hbw.grown hg7 hbw.size hrow
        have hfar7 : ∀ r, v'.ownBlock = some r → w3.heap.size ≤ r := by
          intro r hr
          rcases hd7 with h | ⟨g, h, hg⟩
          · rw [h] at hr; exact HFAR.out r hr
          · rw [h] at hr; cases hr; have := HBW4.out.size; omega
        have hbd7 := extP_bd (fun z => -1000000000000000000 ≤ z ∧ z ≤ 1000000000000000000) hbd.out (a := (lo, nx - 1)) ⟨by show -1000000000000000000 ≤ nx - 1; omega, by show nx - 1 ≤ 1000000000000000000; omega⟩
        have hbd7' := Lib.hid hbd7
        have HFAR7 := Lib.hid hfar7
        clear hbd7 hg7 hrow e0 e1 hbw hb9 own9 hfar7 hd7
        go_wp2_with fail
        go_roundw
        case rel =>
          have e : whereAt PL (k + 1) = extP (whereAt PL k) (lo, nx - 1) := by rw [hnext.out, hplk.out]; rfl
          refine ⟨k + 1, by omega, by go_num, ?_, HFAR7.out, ?_, hb7⟩
          · rw [e]; exact own7
          · rw [e]; exact hbd7'
        case measure => simp [RowKit.intOf]; omega
    · have hkn : k = n - 1 := by omega
      have hlen := whereAt_length PL k
      have hW : Hid (whereAt (runsOf K xs ys Z) (Z.length - 1) = whereAt PL k) := Lib.hid (by rw [HZn.out, HPL.out, hkn])
      obtain ⟨m, B, cc, rfl⟩ : ∃ (m : Nat) (B : Option Addr) (cc : Nat), u10 = Value.slice B (whereAt PL k).length cc := by
        rcases hset.2 with ⟨rfl, h0⟩ | ⟨g, cap, cur, rfl, _⟩
        · exact ⟨0, none, 0, by rw [h0]⟩
        · exact ⟨0, _, _, rfl⟩
      have HSET := Lib.hid hset
      have hbw := hb3.trans (hbr.mono hz3)
      clear hset hbd hfar hkn
      generalize whereAt PL k = L at *
      obtain ⟨l, hl⟩ : ∃ l, L.length = l := ⟨_, rfl⟩
      rw [hl] at HSET hlen ⊢
      have Hl := Lib.hid hl
      clear hl
      by_cases hbig : 200 < l
      · go_wp2_with fail
        go_ret2
        rw [hW.out]
        refine ⟨.slice none 0 0, ?_, ?_, hbw⟩
        · rw [Hl.out, if_pos hbig]; rfl
        · rw [Hl.out, if_pos hbig]; exact World.ownsRow_nil _ _ _ _
      · go_wp2_with fail
        go_ret2
        rw [hW.out]
        refine ⟨.slice B l cc, ?_, ?_, hbw⟩
        · rw [Hl.out, if_neg hbig]; rfl
        · rw [Hl.out, if_neg hbig, Hl.out]; exact HSET.out

open Go.RowKit Go.Lib Go.Shelf Go.Sort
set_option linter.unusedVariables false
set_option linter.unusedSimpArgs false
attribute [local go_sem ↓] Go.wp_at_zero Go.wp_at_succ

theorem enters_without1 : ∀ args w, (callFunc 102 args).run Try.prog w = .ok (.enter 102 args) w := enters_of Try.func102 (by kernel_rfl) rfl

set_option maxHeartbeats 400000 in
theorem keep_without : KeepAt 102 (fun p q => p && !q) := fun p q w => by
  cases p <;> cases q
  all_goals
    go_enter Try.func102, Try.ntmps102
    go_wp2
    go_ret
    exact ⟨rfl, Below.refl _ _⟩

set_option maxHeartbeats 400000 in
theorem without_ok (va vb : Value) (xs ys : List (Int × Int)) (w : World) (ha : SetAt w.heap.size w va xs) (hb : SetAt w.heap.size w vb ys) (hea : setE xs = 0) (heb : setE ys = 0) :
    Calls Try.prog 56 #[va, vb] w (ChoosePost w (joinL (fun p q => p && !q) xs ys)) := by
  have h := Lib.hid (choose_ok 102 _ enters_without1 keep_without va vb xs ys w ha hb hea heb)
  clear ha hb hea heb
  generalize joinL (fun p q => p && !q) xs ys = L at *
  go_enter Try.func56, Try.ntmps56
  go_wp2_with fail
  refine h.out.mono ?_
  rintro e w1 ⟨v, rfl, hown, hb⟩
  have HO := Lib.hid hown
  clear hown
  obtain ⟨r, hr⟩ : ∃ r, (if 200 < L.length then (8 : Int) else 0) = r := ⟨_, rfl⟩
  rw [hr]
  have HR := Lib.hid hr
  clear hr
  go_wp2_with fail
  go_ret2
  exact ⟨v, by rw [HR.out]; rfl, HO.out, hb⟩

/-- the fixed sets -/
theorem known_steps : stepsUp (stepsOf [(0, 9)] ++ stepsOf [(3, 4)]) = [0, 3, 5, 10] := by
  have e : (stepsOf [(0, 9)] ++ stepsOf [(3, 4)]).mergeSort (fun x y => decide (x ≤ y)) = [0, 3, 5, 10] := by
    simp [stepsOf, List.mergeSort, List.merge, List.MergeSort.Internal.splitInTwo, List.splitAt, List.splitAt.go]
  unfold stepsUp
  rw [e]
  decide +kernel
theorem known_join : joinL (fun p q => p && !q) [(0, 9)] [(3, 4)] = [(0, 2), (5, 9)] := by
  unfold joinL
  rw [known_steps]
  decide +kernel
theorem known_setE : setE [(0, 9)] = 0 ∧ setE [(3, 4)] = 0 := by decide +kernel

open Go.RowKit Go.Lib
set_option linter.unusedVariables false
set_option linter.unusedSimpArgs false

def G64 (n : Int) : Prop := -9223372036854775807 ≤ n ∧ n ≤ 9223372036854775807

theorem gcd_step (x y : Int) : Int.gcd y (x.tmod y) = Int.gcd x y := by
  unfold Int.gcd
  rw [Int.natAbs_tmod, Nat.gcd_comm x.natAbs, Nat.gcd_rec y.natAbs x.natAbs, Nat.gcd_comm]
theorem tmod_bd (x y : Int) (hx : G64 x) : G64 (x.tmod y) := by
  have h := Int.natAbs_tmod x y
  have h2 := Nat.mod_le x.natAbs y.natAbs
  unfold G64 at *
  omega
theorem tmod_lt (x y : Int) (hy : y ≠ 0) : (x.tmod y).natAbs < y.natAbs := by
  rw [Int.natAbs_tmod]
  exact Nat.mod_lt _ (by omega)
theorem wrap_tmod (x y : Int) (hx : G64 x) : IntKind.i64.wrap (x.tmod y) = x.tmod y := by
  have h := tmod_bd x y hx
  unfold G64 at h
  exact IntWalk.i64_in _ (by omega)

set_option maxHeartbeats 400000 in
theorem divisor_any (a b : Int) (ha : G64 a) (hb : G64 b) (w : World) :
    Calls Try.prog 132 #[.int .i64 a, .int .i64 b] w fun e w' => e = .returned (.int .i64 (Int.gcd a b : Nat)) ∧ Below w.heap.size w w' := by
  go_enter Try.func132, Try.ntmps132
  go_wp2_with fail
  go_loopw [0, 1] (fun s t wr => ∃ x y : Int, s = .int .i64 x ∧ t = .int .i64 y ∧ Hid (Int.gcd x y = Int.gcd a b) ∧ Hid (G64 x) ∧ Hid (G64 y) ∧ Below w.heap.size w wr) (fun _ t _ => (RowKit.intOf t).natAbs)
  case atStart => exact ⟨a, b, rfl, rfl, Lib.hid rfl, Lib.hid ha, Lib.hid hb, Below.refl _ _⟩
  case round =>
    obtain ⟨x, y, rfl, rfl, hg, hx, hy, hbr⟩ := hrel
    by_cases h0 : y = 0
    · have hb0 : (y != 0) = false := by simp [h0]
      have hgx : Int.gcd a b = x.natAbs := by rw [← hg.out, h0]; simp
      have HG := Lib.hid hgx
      clear hgx h0
      have hxb := hx.out
      unfold G64 at hxb
      by_cases hn : x < 0
      all_goals
        go_wp2_with fail
        go_ret
        refine ⟨ret_int ?_, hbr⟩
        rw [HG.out]
        omega
    · have hb0 : (y != 0) = true := by simp [h0]
      have hq := tmod_lt x y h0
      have HW := wrap_tmod x y hx.out
      have hy0 : (y == 0) = false := by simp [h0]
      have hg2 := Lib.hid ((gcd_step x y).trans hg.out)
      have hbd := Lib.hid (tmod_bd x y hx.out)
      have Hq := Lib.hid hq
      clear hq
      go_wp2_with fail
      go_quiet (fail)
      go_wp2_with fail
      go_roundw
      case rel => exact ⟨y, x.tmod y, rfl, rfl, hg2, hy, hbd, below_drewN hbr _⟩
      case measure =>
        have h := Hq.out
        rw [Int.natAbs_tmod] at h
        simp [RowKit.intOf]
        exact h

def fitsB (p q : Int) : Bool := decide (-1000000000 ≤ p) && decide (p ≤ 1000000000) && decide (1 ≤ q) && decide (q ≤ 1000000000)
def lowD (num den : Int) : Int := if den < 0 then -(Int.gcd num den : Int) else (Int.gcd num den : Int)
def lowN (num den : Int) : Int := num.tdiv (lowD num den)
def lowQ (num den : Int) : Int := den.tdiv (lowD num den)
/-- what 'lowest' returns -/
def lowRN (num den : Int) : Int := if fitsB (lowN num den) (lowQ num den) then lowN num den else 0
def lowRQ (num den : Int) : Int := if fitsB (lowN num den) (lowQ num den) then lowQ num den else 0
def lowRE (num den : Int) : Int := if fitsB (lowN num den) (lowQ num den) then 0 else 10

set_option maxHeartbeats 400000 in
theorem fits_any (p q : Int) (w : World) :
    Calls Try.prog 133 #[.int .i64 p, .int .i64 q] w fun e w' => e = .returned (.bool (fitsB p q)) ∧ w = w' := by
  by_cases h1 : -1000000000 ≤ p <;> by_cases h2 : p ≤ 1000000000 <;> by_cases h3 : 1 ≤ q <;> by_cases h4 : q ≤ 1000000000
  all_goals try (exfalso; omega)
  all_goals
    go_enter Try.func133, Try.ntmps133
    go_wp2
    go_ret
    exact ⟨by simp [fitsB, *], rfl⟩

theorem tdiv_bd (x y : Int) (hx : G64 x) : G64 (x.tdiv y) := by
  have h := Int.natAbs_tdiv x y
  have h2 : x.natAbs.div y.natAbs ≤ x.natAbs := Nat.div_le_self x.natAbs y.natAbs
  rw [← h] at h2
  clear h
  unfold G64 at *
  omega
theorem wrap_tdiv (x y : Int) (hx : G64 x) : IntKind.i64.wrap (x.tdiv y) = x.tdiv y := by
  have h := tdiv_bd x y hx
  unfold G64 at h
  exact IntWalk.i64_in _ (by omega)
theorem gcd_bd (a b : Int) (hb0 : b ≠ 0) (hb : G64 b) : 0 < Int.gcd a b ∧ Int.gcd a b ≤ 9223372036854775807 := by
  have h1 := Int.gcd_pos_of_ne_zero_right a hb0
  have h2 := Nat.le_of_dvd (by omega) (Int.gcd_dvd_natAbs_right a b)
  unfold G64 at hb
  omega

set_option maxHeartbeats 1000000 in
theorem lowest_any (num den : Int) (hn : G64 num) (hd : G64 den) (hd0 : den ≠ 0) (w : World) :
    Calls Try.prog 104 #[.int .i64 num, .int .i64 den] w fun e w' => e = .returned (.tuple #[.agg #[.int .i64 (lowRN num den), .int .i64 (lowRQ num den)], .int .i64 (lowRE num den)]) ∧ Below w.heap.size w w' := by
  obtain ⟨g1, g2⟩ := gcd_bd num den hd0 hd
  have hD : Hid (lowD num den = if den < 0 then -(Int.gcd num den : Int) else (Int.gcd num den : Int)) := Lib.hid rfl
  have hN : Hid (lowN num den = num.tdiv (lowD num den)) := Lib.hid rfl
  have hQ : Hid (lowQ num den = den.tdiv (lowD num den)) := Lib.hid rfl
  have c1 := Lib.hid (divisor_any num den hn hd)
  have hd0' := Lib.hid hd0
  generalize Int.gcd num den = g at *
  clear hd0
  have hd00 : den = 0 → False := hd0'.out
  have hRN : Hid (lowRN num den = if fitsB (lowN num den) (lowQ num den) then lowN num den else 0) := Lib.hid rfl
  have hRQ : Hid (lowRQ num den = if fitsB (lowN num den) (lowQ num den) then lowQ num den else 0) := Lib.hid rfl
  have hRE : Hid (lowRE num den = if fitsB (lowN num den) (lowQ num den) then 0 else 10) := Lib.hid rfl
  generalize lowRN num den = rn at *
  generalize lowRQ num den = rq at *
  generalize lowRE num den = re at *
  by_cases hneg : den < 0
  all_goals
    rw [hN.out, hQ.out, hD.out] at hRN hRQ hRE
    first | rw [if_pos hneg] at hRN hRQ hRE | rw [if_neg hneg] at hRN hRQ hRE
    try simp only [Int.tdiv_neg] at hRN hRQ hRE
    obtain ⟨b1, b2⟩ := tdiv_bd num g hn
    obtain ⟨b3, b4⟩ := tdiv_bd den g hd
    clear hn hd hN hQ hD
    have z1 : ((g : Int) == 0) = false := by simp; omega
    have z2 : (-(g : Int) == 0) = false := by simp; omega
    go_enter Try.func104, Try.ntmps104
    go_wp2_with fail
    refine (c1.out _).mono ?_
    rintro e w3 ⟨rfl, hb3⟩
    go_wp2_with fail
    go_quiet (fail)
    go_wp2_with fail
    refine (fits_any _ _ _).mono ?_
    rintro e w4 ⟨rfl, rfl⟩
    have r0 := cell_next hb3 (b := w.heap.size) (o := 0) (by simp) (v := some (.int .i64 0)) (by simp)
    have r1 := cell_next hb3 (b := w.heap.size) (o := 1) (by simp) (v := some (.int .i64 0)) (by simp)
    have e0 := frozen_next hb3 (b := w.heap.size) (o := 0) (by simp) (v := false) (by simp)
    have e1 := frozen_next hb3 (b := w.heap.size) (o := 1) (by simp) (v := false) (by simp)
    have hB := below1 hb3
    clear hb3
    generalize num.tdiv _ = p at *
    generalize den.tdiv _ = q at *
    generalize fitsB _ _ = f at *
    cases f
    all_goals
      simp only [if_true, if_false, Bool.false_eq_true] at hRN hRQ hRE
      go_wp2_with fail
      refine bodyPost_ret (v := .tuple #[.agg #[.int .i64 rn, .int .i64 rq], .int .i64 re]) (by rw [hRN.out, hRQ.out, hRE.out]; simp [results, Try.results104, go_sem, r0, r1]) rfl ⟨rfl, ?_⟩
      exact ((below_drewN hB _).setCell (p := ⟨w.heap.size, 0, none⟩) (Nat.le_refl _) _).setCell (p := ⟨w.heap.size, 1, none⟩) (Nat.le_refl _) _

open Go.RowKit Go.Lib
set_option linter.unusedVariables false
set_option linter.unusedSimpArgs false

def vnB (n : Int) : Bool := decide (-1000000000000000 ≤ n) && decide (n ≤ 1000000000000000)
theorem vnB_of {n : Int} (h : vnB n = true) : -1000000000000000 ≤ n ∧ n ≤ 1000000000000000 := by simpa [vnB] using h

set_option maxHeartbeats 400000 in
theorem validNumber_any (n : Int) (w : World) :
    Calls Try.prog 103 #[.int .i64 n] w fun e w' => e = .returned (.bool (vnB n)) ∧ w = w' := by
  by_cases h1 : -1000000000000000 ≤ n <;> by_cases h2 : n ≤ 1000000000000000
  all_goals try (exfalso; omega)
  all_goals
    go_enter Try.func103, Try.ntmps103
    go_wp2
    go_ret
    exact ⟨by simp [vnB, *], rfl⟩

def mkOk (num den : Int) : Bool := vnB num && vnB den && decide (den ≠ 0)
def mkN (num den : Int) : Int := if mkOk num den then lowRN num den else 0
def mkD (num den : Int) : Int := if mkOk num den then lowRQ num den else 0
def mkE (num den : Int) : Int := if mkOk num den then lowRE num den else 3

set_option maxHeartbeats 1000000 in
theorem makePart_any (num den : Int) (w : World) :
    Calls Try.prog 57 #[.int .i64 num, .int .i64 den] w fun e w' => e = .returned (.tuple #[.agg #[.int .i64 (mkN num den), .int .i64 (mkD num den)], .int .i64 (mkE num den)]) ∧ Below w.heap.size w w' := by
  have c1 := Lib.hid (validNumber_any num)
  have c2 := Lib.hid (validNumber_any den)
  have eN : Hid (mkN num den = if mkOk num den then lowRN num den else 0) := Lib.hid rfl
  have eD : Hid (mkD num den = if mkOk num den then lowRQ num den else 0) := Lib.hid rfl
  have eE : Hid (mkE num den = if mkOk num den then lowRE num den else 3) := Lib.hid rfl
  have eO : Hid (mkOk num den = (vnB num && vnB den && decide (den ≠ 0))) := Lib.hid rfl
  generalize mkN num den = rn at *
  generalize mkD num den = rd at *
  generalize mkE num den = re at *
  have c3 : Hid (vnB num = true → vnB den = true → den ≠ 0 → ∀ w, Calls Try.prog 104 #[.int .i64 num, .int .i64 den] w fun e w' => e = .returned (.tuple #[.agg #[.int .i64 (lowRN num den), .int .i64 (lowRQ num den)], .int .i64 (lowRE num den)]) ∧ Below w.heap.size w w') := by
    intro h1 h2 h3 w
    have a := vnB_of h1
    have b := vnB_of h2
    exact lowest_any num den ⟨by omega, by omega⟩ ⟨by omega, by omega⟩ h3 w
  generalize lowRN num den = ln at *
  generalize lowRQ num den = lq at *
  generalize lowRE num den = le at *
  generalize mkOk num den = ok at *
  by_cases hz : den = 0
  all_goals
    generalize vnB num = b1 at *
    generalize vnB den = b2 at *
    cases b1 <;> cases b2
  all_goals
    simp [hz] at eO
    have eo := eO.out
    subst eo
    simp only [if_true, if_false, Bool.false_eq_true] at eN eD eE
    first | have hzb : (den == 0) = true := by simp [hz] | have hzb : (den == 0) = false := by simp [hz]
    have hz' := Lib.hid hz
    clear hz eO
    go_enter Try.func57, Try.ntmps57
    go_wp2_with fail
    refine (c1.out _).mono ?_
    rintro e w1 ⟨rfl, rfl⟩
    go_wp2_with fail
    try (refine (c2.out _).mono ?_; rintro e w2 ⟨rfl, rfl⟩; go_wp2_with fail)
    try (refine (c3.out (by trivial) (by trivial) hz'.out _).mono ?_; rintro e w3 ⟨rfl, hb3⟩; have r0 := cell_next hb3 (b := w.heap.size) (o := 0) (by simp) (v := some (.int .i64 0)) (by simp); have r1 := cell_next hb3 (b := w.heap.size) (o := 1) (by simp) (v := some (.int .i64 0)) (by simp); have e0 := frozen_next hb3 (b := w.heap.size) (o := 0) (by simp) (v := false) (by simp); have e1 := frozen_next hb3 (b := w.heap.size) (o := 1) (by simp) (v := false) (by simp); have hB := below1 hb3; clear hb3; go_wp2_with fail)
    refine bodyPost_ret (v := .tuple #[.agg #[.int .i64 rn, .int .i64 rd], .int .i64 re]) (by rw [eN.out, eD.out, eE.out]; first | (simp [results, Try.results57, go_sem, r0, r1]; done) | (simp [results, Try.results57, go_sem]; done)) rfl ⟨rfl, ?_⟩
    first | exact (hB.setCell (p := ⟨w.heap.size, 0, none⟩) (Nat.le_refl _) _).setCell (p := ⟨w.heap.size, 1, none⟩) (Nat.le_refl _) _ | exact (Below.refl _ _).alloc (Nat.le_refl _) _
end Go.Proofs.Ytclnfncdphfgjaa
