/- Contracts: the set of the numbers that are kept, by whether they are in each of two sets: choose. -/
import Derived.Test.YtkhongbemoahpaaT9
namespace Go.Proofs.Ytkhongbemoahpaa
open Go.RowKit Go.Lib Go.Shelf Go.Sort
set_option linter.unusedVariables false
set_option linter.unusedSimpArgs false
attribute [local go_sem ↓] Go.wp_at_zero Go.wp_at_succ

theorem setE_is {xs : List (Int × Int)} (h : setE xs = 0) : xs.length ≤ 200 ∧ IsSet xs := by
  unfold setE at h
  split at h
  · cases h
  · split at h
    · exact ⟨by omega, isSet_of (by assumption)⟩
    · cases h

theorem mem_compact {α : Type} [Inhabited α] [DecidableEq α] {zs : List α} {x : α} (h : x ∈ Lib.compact zs) : x ∈ zs := by
  unfold Lib.compact Lib.compactUpTo at h
  obtain ⟨i, hi, rfl⟩ := List.mem_map.1 h
  have hi' : i < zs.length := List.mem_range.1 (List.mem_filter.1 hi).1
  simp [getElem!_pos, hi']
theorem mem_stepsUp {zs : List Int} {z : Int} (h : z ∈ stepsUp zs) : z ∈ zs := List.mem_mergeSort.1 (mem_compact h)
theorem stepsUp_length_le (zs : List Int) : (stepsUp zs).length ≤ zs.length := by
  have h := compact_length_le (zs.mergeSort fun x y => decide (x ≤ y))
  rw [List.length_mergeSort] at h
  exact h
theorem mem_stepsOf {xs : List (Int × Int)} (hs : IsSet xs) {z : Int} (h : z ∈ stepsOf xs) : -10000000000000000 ≤ z ∧ z ≤ 10000000000000000 := by
  unfold stepsOf at h
  obtain ⟨p, hp, hz⟩ := List.mem_flatMap.1 h
  have := hs.valid p hp
  simp at hz
  omega
theorem own_ints {w : World} {base : Nat} {v : Value} {Z : List Int} (h : w.ownsRow base 3 1 v Z.length (ints Z)) :
    ∃ A c, v = .slice A Z.length c ∧ (0 < Z.length → ∃ g, A = some ⟨g, 0, none⟩ ∧ base ≤ g ∧ g < w.heap.size ∧ ∀ j, j < Z.length → w.cell? ⟨g, j, none⟩ = some (.int .i64 (Z.getD j 0))) := by
  rcases h.2 with ⟨rfl, h0⟩ | ⟨g, cap, cur, rfl, hb, hg, hn, hm, hs, ht⟩
  · exact ⟨none, 0, by rw [h0], fun h => by omega⟩
  · refine ⟨_, cap, rfl, fun _ => ⟨g, rfl, hb, (Array.getElem?_eq_some_iff.1 hg).1, fun j hj => ?_⟩⟩
    have hc := h.cellAt j (by omega)
    rw [hc]
    simp [ints, hj]

/-- from each change to the next one, and whether it is kept -/
def runsOf (K : Bool → Bool → Bool) (xs ys : List (Int × Int)) (Z : List Int) (k : Nat) : (Int × Int) × Bool :=
  ((Z.getD k 0, Z.getD (k + 1) 0 - 1), K (memB xs (Z.getD k 0)) (memB ys (Z.getD k 0)))
/-- the set of the numbers that are kept -/
def joinL (K : Bool → Bool → Bool) (xs ys : List (Int × Int)) : List (Int × Int) :=
  whereAt (runsOf K xs ys (stepsUp (stepsOf xs ++ stepsOf ys))) ((stepsUp (stepsOf xs ++ stepsOf ys)).length - 1)
def ChoosePost (w : World) (L : List (Int × Int)) (e : Ending) (w' : World) : Prop :=
  ∃ v, e = .returned (.tuple #[v, .int .i64 (if 200 < L.length then 8 else 0)]) ∧ w'.ownsRow w.heap.size 32 2 v (if 200 < L.length then [] else L).length (flat (if 200 < L.length then [] else L)) ∧ Below w.heap.size w w'
/-- what keeps two tests together -/
def KeepAt (F : Nat) (K : Bool → Bool → Bool) : Prop := ∀ (p q : Bool) (w : World), Calls Try.prog F #[.bool p, .bool q] w fun e w' => e = .returned (.bool (K p q)) ∧ Below w.heap.size w w'

set_option maxRecDepth 20000 in
set_option maxHeartbeats 2000000 in
theorem choose_ok (F : Nat) (K : Bool → Bool → Bool) (hE : ∀ args w, (callFunc F args).run Try.prog w = .ok (.enter F args) w) (hK : KeepAt F K) (va vb : Value) (xs ys : List (Int × Int)) (w : World)
    (ha : SetAt w.heap.size w va xs) (hb : SetAt w.heap.size w vb ys) (hea : setE xs = 0) (heb : setE ys = 0) :
    Calls Try.prog 35 #[va, vb, .func (Fn.func F) #[] #[]] w (ChoosePost w (joinL K xs ys)) := by
  have HA := Lib.hid ha
  have HB := Lib.hid hb
  obtain ⟨A, ca, rfl, _⟩ := ha
  obtain ⟨A2, cb, rfl, _⟩ := hb
  obtain ⟨hla, hsa⟩ := setE_is hea
  obtain ⟨hlb, hsb⟩ := setE_is heb
  obtain ⟨na, hna⟩ : ∃ na, xs.length = na := ⟨_, rfl⟩
  obtain ⟨nb, hnb⟩ : ∃ nb, ys.length = nb := ⟨_, rfl⟩
  rw [hna] at HA ⊢
  rw [hnb] at HB ⊢
  have HNA := Lib.hid hna
  have HNB := Lib.hid hnb
  rw [hna] at hla
  rw [hnb] at hlb
  obtain ⟨Z, hZ⟩ : ∃ Z, stepsUp (stepsOf xs ++ stepsOf ys) = Z := ⟨_, rfl⟩
  have hJ : joinL K xs ys = whereAt (runsOf K xs ys Z) (Z.length - 1) := by unfold joinL; rw [hZ]
  rw [hJ]
  have hn0 : Z.length ≤ 1000 := by
    have h := stepsUp_length_le (stepsOf xs ++ stepsOf ys)
    rw [hZ, List.length_append, stepsOf_length, stepsOf_length] at h
    omega
  have hbz0 : ∀ z ∈ Z, -10000000000000000 ≤ z ∧ z ≤ 10000000000000000 := by
    intro z hz
    rw [← hZ] at hz
    rcases List.mem_append.1 (mem_stepsUp hz) with h | h
    · exact mem_stepsOf hsa h
    · exact mem_stepsOf hsb h
  have HZ := Lib.hid hZ
  have HBZ : Hid (∀ j, j < Z.length → -10000000000000000 ≤ Z.getD j 0 ∧ Z.getD j 0 ≤ 10000000000000000) := Lib.hid fun j hj => by
    rw [List.getD_eq_getElem?_getD, List.getElem?_eq_getElem hj]
    exact hbz0 _ (List.getElem_mem hj)
  have HK := Lib.hid hK
  have HEA := Lib.hid hea
  have HEB := Lib.hid heb
  clear hna hnb hZ hJ hbz0 hK hea heb
  go_enter Try.func35, Try.ntmps35
  go_wp2_with fail
  refine (checkSet_any _ xs _ HA.out).mono ?_
  rintro e w1 ⟨rfl, hb1⟩
  rw [HEA.out]
  have hz1 := hb1.size
  go_wp2_with fail
  refine (checkSet_any _ ys _ ((HB.out.below hb1 (Nat.le_refl _)).mono hz1)).mono ?_
  rintro e w2 ⟨rfl, hb2⟩
  rw [HEB.out]
  replace hb1 := hb1.trans (hb2.mono hz1)
  clear hb2 hz1
  have hz2 := hb1.size
  go_wp2_with fail
  obtain ⟨W2, hW2⟩ : ∃ W2, w2.alloc (Obj.cells #[Value.slice A na ca, Value.slice A2 nb cb] 38) = W2 := ⟨_, rfl⟩
  have hb2 : RowKit.Below w.heap.size w W2 := by rw [← hW2]; exact hb1.alloc hz2 _
  have hs2 : W2.heap.size = w2.heap.size + 1 := by rw [← hW2]; simp
  have k0 : W2.cell? ⟨w2.heap.size, 0, none⟩ = some (Value.slice A na ca) := by rw [← hW2]; simp
  have k1 : W2.cell? ⟨w2.heap.size, 1, none⟩ = some (Value.slice A2 nb cb) := by rw [← hW2]; simp
  rw [hW2]
  clear hW2
  generalize w2.heap.size = h at *
  clear hb1
  refine (changes_two h _ _ xs ys W2 (by omega) k0 k1 ((HA.out.below hb2 (Nat.le_refl _)).mono hb2.size) ((HB.out.below hb2 (Nat.le_refl _)).mono hb2.size) hsa hsb (by rw [HNA.out]; exact hla) (by rw [HNB.out]; exact hlb)).mono ?_
  rintro e w3 ⟨v, rfl, hown, hb3⟩
  replace hb3 := hb2.trans (hb3.mono hb2.size)
  have hz3 := hb3.size
  rw [HZ.out] at hown
  clear hb2 k0 k1
  obtain ⟨A3, c3, rfl, hcz0⟩ := own_ints hown
  have HCZ := Lib.hid hcz0
  obtain ⟨n, hn⟩ : ∃ n, Z.length = n := ⟨_, rfl⟩
  rw [hn] at hn0 HBZ HCZ ⊢
  obtain ⟨PL, hPL⟩ : ∃ PL, runsOf K xs ys Z = PL := ⟨_, rfl⟩
  rw [hPL]
  have HPL := Lib.hid hPL
  have HZn := Lib.hid hn
  clear hPL hown hcz0 hn
  go_wp2_with fail
  go_loopw [10, 31] (fun s i wr => ∃ k : Nat, k ≤ n - 1 ∧ i = .int .i64 k ∧ wr.ownsRow w.heap.size 32 2 s (whereAt PL k).length (flat (whereAt PL k)) ∧ (∀ r, s.ownBlock = some r → w3.heap.size ≤ r) ∧ Hid (∀ p ∈ whereAt PL k, -1000000000000000000 ≤ p.2 ∧ p.2 ≤ 1000000000000000000) ∧ Below w3.heap.size w3 wr) (fun _ i _ => n - (RowKit.intOf i).toNat)
  case atStart => exact ⟨0, Nat.zero_le _, rfl, World.ownsRow_nil _ _ _ _, (fun r hr => by cases hr), Lib.hid (by intro p hp; cases hp), Below.refl _ _⟩
  case round =>
    obtain ⟨k, hk, rfl, hset, hfar, hbd, hbr⟩ := hrel
    by_cases hlt : (k : Int) < (n : Int) - 1
    · have HSET := Lib.hid hset
      have HFAR := Lib.hid hfar
      obtain ⟨gz, rfl, _, hgz, hcz⟩ := HCZ.out (by omega)
      have z0 := cell_next hbr hgz (hcz k (by omega))
      have z1 := cell_next hbr hgz (hcz (k + 1) (by omega))
      have hk0 : (0 : Int) ≤ (k : Int) := by omega
      have hk1 : (k : Int) < (n : Int) := by omega
      have hk2 : (k : Int) + 1 < (n : Int) := by omega
      have hk3 : (0 : Int) ≤ (k : Int) + 1 := by omega
      have hwk : IntKind.i64.wrap ((k : Int) + 1) = (k : Int) + 1 := IntWalk.i64_in _ (by omega)
      have hb0 := HBZ.out k (by omega)
      have hb1 := HBZ.out (k + 1) (by omega)
      have hnext : Hid (whereAt PL (k + 1) = if (PL k).2 then extP (whereAt PL k) (PL k).1 else whereAt PL k) := Lib.hid rfl
      have hplk : Hid (PL k = ((Z.getD k 0, Z.getD (k + 1) 0 - 1), K (memB xs (Z.getD k 0)) (memB ys (Z.getD k 0)))) := Lib.hid (by rw [← HPL.out]; rfl)
      have hlen := whereAt_length PL k
      clear hset hfar
      generalize Z.getD k 0 = lo at *
      generalize Z.getD (k + 1) 0 = nx at *
      have hwx : IntKind.i64.wrap (nx - 1) = nx - 1 := IntWalk.i64_in _ (by omega)
      clear hcz
      have SB : Hid (∀ W' : World, Below wr.heap.size wr W' → W'.cell? ⟨gz, k, none⟩ = some (.int .i64 lo) ∧ W'.cell? ⟨gz, k + 1, none⟩ = some (.int .i64 nx) ∧ Below wr.heap.size wr W') := Lib.hid fun W' hb =>
        ⟨cell_next hb (Nat.lt_of_lt_of_le hgz hbr.size) z0, cell_next hb (Nat.lt_of_lt_of_le hgz hbr.size) z1, hb⟩
      clear z0 z1
      have hS := SB.out wr (Below.refl _ _)
      go_wp2_with fail
      go_region_held3 (fun W' => W'.cell? ⟨gz, k, none⟩ = some (.int .i64 lo) ∧ W'.cell? ⟨gz, k + 1, none⟩ = some (.int .i64 nx) ∧ Below wr.heap.size wr W')
        (first | exact SB.out _ (Below.drew (Below.refl _ _)) | exact SB.out _ ((‹_ ∧ _ ∧ Below _ _ _›).2.2.drew) | exact SB.out _ (((Below.refl _ _).alloc (Nat.le_refl _) _).drew) | exact SB.out _ ((‹_ ∧ _ ∧ Below _ _ _›).2.2.alloc (‹_ ∧ _ ∧ Below _ _ _›).2.2.size _) | exact SB.out _ (below_realloc (‹_ ∧ _ ∧ Below _ _ _›).2.2 (by omega)) | exact SB.out _ (((‹_ ∧ _ ∧ Below _ _ _›).2.2.setCell (p := ⟨wr.heap.size, 0, none⟩) (Nat.le_refl _) _).setCell (p := ⟨wr.heap.size, 1, none⟩) (Nat.le_refl _) _))
        (fail)
      obtain ⟨W4, hW4⟩ : ∃ W4, (wr.alloc (Obj.cells #[Value.int IntKind.i64 lo, Value.int IntKind.i64 (nx - 1)] 32)).drew = W4 := ⟨_, rfl⟩
      have hb4 : RowKit.Below wr.heap.size wr W4 := by rw [← hW4]; exact ((Below.refl _ _).alloc (Nat.le_refl _) _).drew
      have hs4 : W4.heap.size = wr.heap.size + 1 := by rw [← hW4]; simp [drew_size]
      have b0 : W4.cell? ⟨wr.heap.size, 0, none⟩ = some (.int .i64 lo) := by rw [← hW4]; exact cell_at _ _ _ _ _ (by simp [drew_size])
      have b1 : W4.cell? ⟨wr.heap.size, 1, none⟩ = some (.int .i64 (nx - 1)) := by rw [← hW4]; exact cell_at _ _ _ _ _ (by simp [drew_size])
      rw [hW4]
      have hset4 := own_below HSET.out hb4
      have hbw4 := hbr.trans (hb4.mono hbr.size)
      have hw4 := hb3.trans (hbw4.mono hz3)
      clear hW4 hS SB HSET hb4 hbr
      generalize wr.heap.size = bx at *
      have HSET := Lib.hid hset4
      have HW4 := Lib.hid hw4
      have HBW4 := Lib.hid hbw4
      have SB : Hid (∀ W' : World, Below W4.heap.size W4 W' → W'.cell? ⟨bx, 0, none⟩ = some (.int .i64 lo) ∧ W'.cell? ⟨bx, 1, none⟩ = some (.int .i64 (nx - 1)) ∧ Below W4.heap.size W4 W') := Lib.hid fun W' hb =>
        ⟨cell_next hb (by omega) b0, cell_next hb (by omega) b1, hb⟩
      have hza := HW4.out.size
      have hxl : xs.length ≤ 1000 := by rw [HNA.out]; omega
      have hyl : ys.length ≤ 1000 := by rw [HNB.out]; omega
      have HA1 : Hid (∀ W' : World, Below W4.heap.size W4 W' → Calls Try.prog 48 #[.slice A na ca, .int .i64 lo] W' fun e w' => e = .returned (.bool (memB xs lo)) ∧ Below W'.heap.size W' w') := Lib.hid fun W' hb =>
        has_set (Value.slice A na ca) xs lo hsa hxl W' ((HA.out.below (HW4.out.trans (hb.mono hza)) (Nat.le_refl _)).mono (Nat.le_trans hza hb.size))
      have HB1 : Hid (∀ W' : World, Below W4.heap.size W4 W' → Calls Try.prog 48 #[.slice A2 nb cb, .int .i64 lo] W' fun e w' => e = .returned (.bool (memB ys lo)) ∧ Below W'.heap.size W' w') := Lib.hid fun W' hb =>
        has_set (Value.slice A2 nb cb) ys lo hsb hyl W' ((HB.out.below (HW4.out.trans (hb.mono hza)) (Nat.le_refl _)).mono (Nat.le_trans hza hb.size))
      have HK1 := Lib.hid (HK.out (memB xs lo) (memB ys lo))
      clear b0 b1 hset4 hw4 hbw4 hxl hyl
      generalize memB xs lo = pa at *
      generalize memB ys lo = pb at *
      generalize K pa pb = kp at *
      have hS := SB.out W4 (Below.refl _ _)
      go_wp2_with fail
      refine wp_region_held_drew (S := fun W' => W'.cell? ⟨bx, 0, none⟩ = some (.int .i64 lo) ∧ W'.cell? ⟨bx, 1, none⟩ = some (.int .i64 (nx - 1)) ∧ Below W4.heap.size W4 W') (by kernel_rfl) ?_ (fun hHeld => ?_)
      focus (exact SB.out _ (Below.drew (Below.refl _ _)))
      refine take_slot (i := 0) (d := 45) (v := ?_) rfl rfl (by kernel_rfl) (by kernel_rfl) (by kernel_rfl) (fun _ _ _ h => h) (Or.inl ⟨by rfl, ?_⟩) (by assumption) ?_
      rotate_left 1
      focus (intro wS hSw; (try dsimp only at hSw); go_simp; try with_reducible rfl)
      try simp only [List.setIfInBounds_toArray, List.set_cons_zero, List.set_cons_succ]
      refine take_slot (i := 1) (d := 46) (v := ?_) rfl rfl (by kernel_rfl) (by kernel_rfl) (by kernel_rfl) (fun _ _ _ h => h) (Or.inl ⟨by rfl, ?_⟩) (by assumption) ?_
      rotate_left 1
      focus (intro wS hSw; (try dsimp only at hSw); go_simp; try with_reducible rfl)
      try simp only [List.setIfInBounds_toArray, List.set_cons_zero, List.set_cons_succ]
      refine take_slot (i := 2) (d := 47) (v := ?_) rfl rfl (by kernel_rfl) (by kernel_rfl) (by kernel_rfl) (fun _ _ _ h => h) (Or.inl ⟨by rfl, ?_⟩) (by assumption) ?_
      rotate_left 1
      focus (intro wS hSw; (try dsimp only at hSw); go_simp; try with_reducible rfl)
      try simp only [List.setIfInBounds_toArray, List.set_cons_zero, List.set_cons_succ]
      refine take_slot (i := 3) (d := 48) (v := ?_) rfl rfl (by kernel_rfl) (by kernel_rfl) (by kernel_rfl) (fun _ _ _ h => h) (Or.inl ⟨by rfl, ?_⟩) (by assumption) ?_
      rotate_left 1
      focus (intro wS hSw; (try dsimp only at hSw); go_simp; try with_reducible rfl)
      try simp only [List.setIfInBounds_toArray, List.set_cons_zero, List.set_cons_succ]
      refine take_slot (i := 5) (d := 50) (v := ?_) rfl rfl (by kernel_rfl) (by kernel_rfl) (by kernel_rfl) (fun _ _ _ h => h) (Or.inl ⟨by rfl, ?_⟩) (by assumption) ?_
      rotate_left 1
      focus (intro wS hSw; (try dsimp only at hSw); go_simp; try with_reducible rfl)
      try simp only [List.setIfInBounds_toArray, List.set_cons_zero, List.set_cons_succ]
      refine take_slot (i := 6) (d := 51) (v := ?_) rfl rfl (by kernel_rfl) (by kernel_rfl) (by kernel_rfl) (fun _ _ _ h => h) (Or.inl ⟨by rfl, ?_⟩) (by assumption) ?_
      rotate_left 1
      focus (intro wS hSw; (try dsimp only at hSw); go_simp; try with_reducible rfl)
      try simp only [List.setIfInBounds_toArray, List.set_cons_zero, List.set_cons_succ]
      refine take_slot (i := 7) (d := 52) (v := ?_) rfl rfl (by kernel_rfl) (by kernel_rfl) (by kernel_rfl) (fun _ _ _ h => h) (Or.inl ⟨by rfl, ?_⟩) (by assumption) ?_
      rotate_left 1
      focus (intro wS hSw; (try dsimp only at hSw); go_simp; try with_reducible rfl)
      try simp only [List.setIfInBounds_toArray, List.set_cons_zero, List.set_cons_succ]
      refine wpAnyH_ready (rs := [4]) (by kernel_rfl) (by simp) ?_
      refine AllReadyH.cons rfl (fun K hK => ?_) AllReadyH.nil
      go_simp
      refine (HA1.out _ hHeld.2.2).mono ?_; rintro e w5 ⟨rfl, hb5⟩
      refine hK.out _ _ ?_ (fun hHeld => ?_)
      focus (exact SB.out _ (hHeld.2.2.trans (hb5.mono hHeld.2.2.size)))
      clear hK K
      try simp only [Act.put, List.setIfInBounds_toArray, List.set_cons_zero, List.set_cons_succ]
      refine wpAnyH_ready (rs := [8]) (by kernel_rfl) (by simp) ?_
      refine AllReadyH.cons rfl (fun K hK => ?_) AllReadyH.nil
      go_simp
      refine (HB1.out _ hHeld.2.2).mono ?_; rintro e w5 ⟨rfl, hb5⟩
      refine hK.out _ _ ?_ (fun hHeld => ?_)
      focus (exact SB.out _ (hHeld.2.2.trans (hb5.mono hHeld.2.2.size)))
      clear hK K
      try simp only [Act.put, List.setIfInBounds_toArray, List.set_cons_zero, List.set_cons_succ]
      refine wpAnyH_ready (rs := [9]) (by kernel_rfl) (by simp) ?_
      refine AllReadyH.cons rfl (fun K hK => ?_) AllReadyH.nil
      go_simp
      refine (HK1.out _).mono ?_; rintro e w5 ⟨rfl, hb5⟩
      refine hK.out _ _ ?_ (fun hHeld => ?_)
      focus (exact SB.out _ (hHeld.2.2.trans (hb5.mono hHeld.2.2.size)))
      clear hK K
      try simp only [Act.put, List.setIfInBounds_toArray, List.set_cons_zero, List.set_cons_succ]
      refine wpAnyH_done (by kernel_rfl) ?_ _
      obtain ⟨e0, e1, hb9⟩ := hHeld
      have own9 := own_below HSET.out hb9
      have hbw := HBW4.out.trans (hb9.mono HBW4.out.size)
      have hz9 := hb9.size
      clear hS SB HA1 HB1 HK1
      cases kp
      · go_wp2_with fail
        go_roundw
        case rel =>
          have e : whereAt PL (k + 1) = whereAt PL k := by rw [hnext.out, hplk.out]; rfl
          refine ⟨k + 1, by omega, by go_num, ?_, HFAR.out, ?_, hbw⟩
          · rw [e]; exact own9
          · rw [e]; exact hbd
        case measure => simp [RowKit.intOf]; omega
      · go_wp2_with fail
        refine (extend_any (whereAt PL k) lo (nx - 1) _ w.heap.size hbd.out (by omega) _ (by omega) own9).mono ?_
        rintro e w7 ⟨v', rfl, own7, hg7, hd7⟩
        have hrow : ∀ r, Value.ownBlock _ = some r → w3.heap.size ≤ r := fun r hr => HFAR.out r hr
        have hb7 := hbw.grown hg7 hbw.size hrow
        have hfar7 : ∀ r, v'.ownBlock = some r → w3.heap.size ≤ r := by
          intro r hr
          rcases hd7 with h | ⟨g, h, hg⟩
          · rw [h] at hr; exact HFAR.out r hr
          · rw [h] at hr; cases hr; have := HBW4.out.size; omega
        have hbd7 := extP_bd (fun z => -1000000000000000000 ≤ z ∧ z ≤ 1000000000000000000) hbd.out (a := (lo, nx - 1)) ⟨by show -1000000000000000000 ≤ nx - 1; omega, by show nx - 1 ≤ 1000000000000000000; omega⟩
        have hbd7' := Lib.hid hbd7
        have HFAR7 := Lib.hid hfar7
        clear hbd7 hg7 hrow e0 e1 hbw hb9 own9 hfar7 hd7
        go_wp2_with fail
        go_roundw
        case rel =>
          have e : whereAt PL (k + 1) = extP (whereAt PL k) (lo, nx - 1) := by rw [hnext.out, hplk.out]; rfl
          refine ⟨k + 1, by omega, by go_num, ?_, HFAR7.out, ?_, hb7⟩
          · rw [e]; exact own7
          · rw [e]; exact hbd7'
        case measure => simp [RowKit.intOf]; omega
    · have hkn : k = n - 1 := by omega
      have hlen := whereAt_length PL k
      have hW : Hid (whereAt (runsOf K xs ys Z) (Z.length - 1) = whereAt PL k) := Lib.hid (by rw [HZn.out, HPL.out, hkn])
      obtain ⟨m, B, cc, rfl⟩ : ∃ (m : Nat) (B : Option Addr) (cc : Nat), u10 = Value.slice B (whereAt PL k).length cc := by
        rcases hset.2 with ⟨rfl, h0⟩ | ⟨g, cap, cur, rfl, _⟩
        · exact ⟨0, none, 0, by rw [h0]⟩
        · exact ⟨0, _, _, rfl⟩
      have HSET := Lib.hid hset
      have hbw := hb3.trans (hbr.mono hz3)
      clear hset hbd hfar hkn
      generalize whereAt PL k = L at *
      obtain ⟨l, hl⟩ : ∃ l, L.length = l := ⟨_, rfl⟩
      rw [hl] at HSET hlen ⊢
      have Hl := Lib.hid hl
      clear hl
      by_cases hbig : 200 < l
      · go_wp2_with fail
        go_ret2
        rw [hW.out]
        refine ⟨.slice none 0 0, ?_, ?_, hbw⟩
        · rw [Hl.out, if_pos hbig]; rfl
        · rw [Hl.out, if_pos hbig]; exact World.ownsRow_nil _ _ _ _
      · go_wp2_with fail
        go_ret2
        rw [hW.out]
        refine ⟨.slice B l cc, ?_, ?_, hbw⟩
        · rw [Hl.out, if_neg hbig]; rfl
        · rw [Hl.out, if_neg hbig, Hl.out]; exact HSET.out
end Go.Proofs.Ytkhongbemoahpaa

