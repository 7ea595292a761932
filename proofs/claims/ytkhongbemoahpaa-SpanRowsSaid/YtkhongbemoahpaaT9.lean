/- Contracts: where the ranges of two sets begin, and where they have ended: the collecting loops. -/
import Derived.Test.YtkhongbemoahpaaT8
import Derived.Test.YtkhongbemoahpaaT5
import Derived.Test.YtkhongbemoahpaaSh
import Derived.Lib.OwnBridge
import Derived.Sort.OwnSortedInts
namespace Go.Proofs.Ytkhongbemoahpaa
open Go.RowKit Go.Lib Go.Shelf Go.Sort
set_option linter.unusedVariables false
set_option linter.unusedSimpArgs false
attribute [local go_sem ↓] Go.wp_at_zero Go.wp_at_succ

/-- where some ranges begin, and have ended -/
def stepsOf (xs : List (Int × Int)) : List Int := xs.flatMap fun p => [p.1, p.2 + 1]
theorem stepsOf_snoc (xs : List (Int × Int)) (p : Int × Int) : stepsOf (xs ++ [p]) = stepsOf xs ++ [p.1, p.2 + 1] := by simp [stepsOf]
theorem stepsOf_length (xs : List (Int × Int)) : (stepsOf xs).length = xs.length * 2 := by
  induction xs with
  | nil => rfl
  | cons p xs ih => rw [← List.singleton_append, stepsOf, List.flatMap_append, List.length_append]; unfold stepsOf at ih; rw [ih]; simp; omega
def ints (zs : List Int) : List Value := zs.map fun z => .int .i64 z
theorem ints_append (xs ys : List Int) : ints (xs ++ ys) = ints xs ++ ints ys := by simp [ints]
theorem infoInt : (Try.prog.info? 3).map (fun i => (i.zero, i.size, i.bytes)) = some (some (.int .i64 0), 1, 8) := by kernel_rfl

/-- where some sets begin and have ended, in order, each once -/
def stepsUp (zs : List Int) : List Int := Lib.compact (zs.mergeSort fun x y => decide (x ≤ y))
theorem stepsUp_nil : stepsUp [] = [] := by
  have h := compact_length_le (([] : List Int).mergeSort fun x y => decide (x ≤ y))
  rw [List.length_mergeSort] at h
  exact List.eq_nil_of_length_eq_zero (Nat.le_zero.1 h)
def ChgPost (w : World) (zs : List Int) (e : Ending) (w' : World) : Prop :=
  ∃ v, e = .returned v ∧ w'.ownsRow w.heap.size 3 1 v (stepsUp zs).length (ints (stepsUp zs)) ∧ Below w.heap.size w w'

set_option maxRecDepth 20000 in
set_option maxHeartbeats 1000000 in
theorem changes_two (h : Nat) (va vb : Value) (xs ys : List (Int × Int)) (w : World) (hh : h < w.heap.size) (h0 : w.cell? ⟨h, 0, none⟩ = some va) (h1 : w.cell? ⟨h, 1, none⟩ = some vb)
    (ha : SetAt w.heap.size w va xs) (hb : SetAt w.heap.size w vb ys) (hsa : IsSet xs) (hsb : IsSet ys) (hla : xs.length ≤ 200) (hlb : ys.length ≤ 200) :
    Calls Try.prog 47 #[.slice (some ⟨h, 0, none⟩) 2 2] w (ChgPost w (stepsOf xs ++ stepsOf ys)) := by
  obtain ⟨i0, hi0, hz0, hz1, hz2⟩ := info_parts infoInt
  have HA := Lib.hid ha
  have HB := Lib.hid hb
  clear ha hb
  have H0 := Lib.hid h0
  have H1 := Lib.hid h1
  clear h0 h1
  go_enter Try.func47, Try.ntmps47
  go_wp2_with fail
  go_loopw [3, 10] (fun s i wr => ∃ k : Nat, k ≤ 2 ∧ i = .int .i64 k ∧ wr.ownsRow w.heap.size 3 1 s (([xs, ys].take k).flatMap stepsOf).length (ints (([xs, ys].take k).flatMap stepsOf)) ∧ Below w.heap.size w wr) (fun _ i _ => 2 - (RowKit.intOf i).toNat)
  case atStart => exact ⟨0, by omega, rfl, World.ownsRow_nil _ _ _ _, Below.refl _ _⟩
  case round =>
    obtain ⟨k, hk, rfl, hown, hbr⟩ := hrel
    by_cases hlt : k < 2
    · obtain ⟨v, zs, hv, hset, hisS, hlen, hacc, hnext⟩ : ∃ v zs, wr.cell? ⟨h, k, none⟩ = some v ∧ SetAt w.heap.size wr v zs ∧ IsSet zs ∧ zs.length ≤ 200 ∧ (([xs, ys].take k).flatMap stepsOf).length ≤ 400 ∧ ([xs, ys].take (k + 1)).flatMap stepsOf = ([xs, ys].take k).flatMap stepsOf ++ stepsOf zs := by
        rcases k with _ | _ | k
        · exact ⟨va, xs, cell_next hbr hh H0.out, HA.out.below hbr (Nat.le_refl _), hsa, hla, by simp, by simp⟩
        · exact ⟨vb, ys, cell_next hbr hh H1.out, HB.out.below hbr (Nat.le_refl _), hsb, hlb, by simp [stepsOf_length]; omega, by simp⟩
        · omega
      obtain ⟨A, c, rfl, hrd⟩ := hset
      have HN := Lib.hid hnext
      have HRD := Lib.hid hrd
      have HOWN := Lib.hid hown
      have HIS := Lib.hid hisS
      generalize ([xs, ys].take k).flatMap stepsOf = acc at *
      clear hnext hrd hown hisS
      obtain ⟨n, hn⟩ : ∃ n, zs.length = n := ⟨_, rfl⟩
      rw [hn] at hv hlen
      have Hn := Lib.hid hn
      clear hn
      have hz := hbr.size
      go_wp2_with fail
      rw [decide_eq_true (show (k : Int) < 2 by omega)]
      go_loopw [3, 16] (fun s i wi => ∃ j : Nat, j ≤ n ∧ i = .int .i64 j ∧ Hid (wi.ownsRow w.heap.size 3 1 s (acc ++ stepsOf (zs.take j)).length (ints (acc ++ stepsOf (zs.take j)))) ∧ Below w.heap.size w wi ∧ Below w.heap.size wr wi) (fun _ i _ => n - (RowKit.intOf i).toNat)
      case atStart => exact ⟨0, by omega, rfl, Lib.hid (by simpa [stepsOf] using HOWN.out), hbr, Below.refl _ _⟩
      case round =>
        obtain ⟨j, hj, rfl, hown, hbi, hbw⟩ := hrel
        by_cases hjn : j < n
        · obtain ⟨p, hp⟩ : ∃ p, zs[j]? = some p := ⟨_, List.getElem?_eq_getElem (by rw [Hn.out]; exact hjn)⟩
          obtain ⟨g, off, rfl, hg, hr⟩ := HRD.out (by rw [Hn.out]; omega)
          have hc0 := hbw.cell (p := ⟨g, off + j * 2, none⟩) hg
          have hc1 := hbw.cell (p := ⟨g, off + j * 2 + 1, none⟩) hg
          rw [(hr j p hp).1] at hc0
          rw [(hr j p hp).2] at hc1
          have hpv := HIS.out.valid p (List.mem_of_getElem? hp)
          have hwp : IntKind.i64.wrap (p.2 + 1) = p.2 + 1 := IntWalk.i64_in _ (by omega)
          have hnx : acc ++ stepsOf (zs.take (j + 1)) = (acc ++ stepsOf (zs.take j)) ++ [p.1, p.2 + 1] := by
            rw [List.take_add_one, hp, List.append_assoc]; exact congrArg _ (stepsOf_snoc _ _)
          have HNX := Lib.hid hnx
          have hL : (acc ++ stepsOf (zs.take j)).length ≤ 800 := by rw [List.length_append, stepsOf_length, List.length_take]; omega
          clear hnx hr hp
          generalize acc ++ stepsOf (zs.take j) = L at *
          have hsz := hbi.size
          obtain ⟨m, B, cc, rfl⟩ : ∃ (m : Nat) (B : Option Addr) (cc : Nat), u3 = Value.slice B m cc := by
            rcases hown.out.2 with ⟨rfl, _⟩ | ⟨g, cap, cur, rfl, _⟩
            · exact ⟨_, _, _, rfl⟩
            · exact ⟨_, _, _, rfl⟩
          go_wp2_with (at_builtin; refine wpList_append_own_at _ rfl (.tmp 20) (.tmp 26) 57 rfl w.heap.size 3 i0 (.int .i64 0) 1 8 Try.underlying57 hi0 hz0 hz1 hz2 rfl (by decide) (.slice B m cc) L.length (ints L) rfl ((hown.out.alloc _).alloc _) ⟨wr.heap.size + 1, 0, none⟩ 2 2 (ints [p.1, p.2 + 1]) rfl rfl ?_ ?_ ?_ ?_ ?_ ?_)
          case refine_1 =>
            intro i u hi
            rcases i with _ | _ | i
            · simp [ints] at hi; subst hi; exact (cell_at _ _ _ _ _ (by simp))
            · simp [ints] at hi; subst hi; exact (cell_at _ _ _ _ _ (by simp))
            · simp [ints] at hi
          case refine_2 => simp [Value.oneCell', ints]
          case refine_3 => unfold maxLen; omega
          case refine_4 => omega
          case refine_5 => simp; omega
          case refine_6 =>
            intro v' w1 hown' hgrow _ hat
            have hrow : ∀ r, (Value.slice B m cc).ownBlock = some r → w.heap.size ≤ r := fun r hr => (hown.out.lt r hr).1
            have hb1 := ((hbi.alloc hsz (Obj.cells #[Value.int IntKind.i64 p.fst, Value.int IntKind.i64 p.snd] 32)).alloc (by simp; omega) (Obj.cells #[Value.int IntKind.i64 p.fst, Value.int IntKind.i64 (p.snd + 1)] 3)).grown hgrow (by simp; omega) hrow
            have hb2 := ((hbw.alloc hsz (Obj.cells #[Value.int IntKind.i64 p.fst, Value.int IntKind.i64 p.snd] 32)).alloc (by simp; omega) (Obj.cells #[Value.int IntKind.i64 p.fst, Value.int IntKind.i64 (p.snd + 1)] 3)).grown hgrow (by simp; omega) hrow
            rw [← ints_append] at hown'
            have HOWN1 := Lib.hid hown'
            clear hown' hgrow hrow hat
            go_wp2_with fail
            go_roundw
            case rel =>
              refine ⟨j + 1, by omega, by go_num, ?_, hb1, hb2⟩
              have e := HNX.out
              refine Lib.hid ?_
              rw [e]
              simpa using HOWN1.out
            case measure => simp [RowKit.intOf]; omega
        · obtain rfl : j = n := by omega
          go_wp2_with fail
          go_roundw
          case rel =>
            refine ⟨k + 1, by omega, by go_num, ?_, hbi⟩
            have e := HN.out
            rw [e]
            have h := hown.out
            rw [List.take_of_length_le (by rw [Hn.out]; omega)] at h
            exact h
          case measure => simp [RowKit.intOf]; omega
    · obtain rfl : k = 2 := by omega
      have hZ : ([xs, ys].take 2).flatMap stepsOf = stepsOf xs ++ stepsOf ys := by simp
      have hlen : (stepsOf xs ++ stepsOf ys).length ≤ 800 := by rw [List.length_append, stepsOf_length, stepsOf_length]; omega
      rw [hZ] at hown
      generalize stepsOf xs ++ stepsOf ys = Z at *
      clear hZ
      go_wp2_with fail
      rcases hown.2 with ⟨rfl, h0⟩ | ⟨g, cap, cur, rfl, hb, hg, hn, hm, hs, ht⟩
      · obtain rfl : Z = [] := List.eq_nil_of_length_eq_zero h0
        refine (Try.slices_Sort_int_none none 0 _).mono ?_
        rintro e w2 ⟨rfl, rfl⟩
        go_wp2_with fail
        refine (Try.slices_Compact_int_empty none 0 _).mono ?_
        rintro e w3 ⟨rfl, rfl⟩
        go_wp2_with fail
        go_ret
        exact ⟨_, rfl, by rw [stepsUp_nil]; exact World.ownsRow_nil _ _ _ _, hbr⟩
      · obtain ⟨g', cap', e1, _, hglt, _, _, _, hH⟩ := holds_of_ownsRow (enc := Value.int .i64) hown (by simp)
        obtain ⟨rfl, rfl⟩ : g = g' ∧ cap = cap' := by simpa using e1
        refine (Try.slices_Sort_int g 0 cap Z wr hH hglt (by omega)).mono ?_
        rintro e w2 ⟨rfl, q, os, rfl⟩
        have own2 := ownsRow_sortedI (n := q) (os := os) (ss := Z) (ts := Z.mergeSort fun x y => decide (x ≤ y)) (by simp) hb hg hn hm hs
        have hb2 := hbr.grown (grownBy_sortedI (n := q) (os := os) (g := g) (Z.mergeSort fun x y => decide (x ≤ y)).toArray) hbr.size (fun r hr => by cases hr; exact hb)
        generalize hw2 : grow (putRow (Value.int .i64) (Sort.ahead wr q) g 0 (Z.mergeSort fun x y => decide (x ≤ y)).toArray) os = w2 at *
        go_wp2_with fail
        obtain ⟨g2, cap2, e2, _, _, _, _, _, hH2⟩ := holds_of_ownsRow (enc := Value.int .i64) own2 (by simp)
        obtain ⟨rfl, rfl⟩ : g = g2 ∧ cap = cap2 := by simpa using e2
        have hC := Try.slices_Compact_int g 0 cap (Z.mergeSort fun x y => decide (x ≤ y)) w2 hH2 (by rw [List.length_mergeSort]; omega) (by rw [List.length_mergeSort]; exact hn)
        have hcl := compact_length_le (Z.mergeSort fun x y => decide (x ≤ y))
        rw [List.length_mergeSort] at hC hcl
        refine hC.mono ?_
        rintro e w3 ⟨rfl, q3, rfl⟩
        have own3 := ownsRow_putRow (enc := Value.int .i64) (q := q3) (k := (stepsUp Z).length) (ys := stepsUp Z ++ List.replicate (Z.length - (stepsUp Z).length) 0) own2 (by unfold stepsUp; simp; omega) (by unfold stepsUp; omega)
        rw [List.take_left] at own3
        have hb3 := below_putRow (enc := Value.int .i64) (q := q3) (d := (stepsUp Z ++ List.replicate (Z.length - (stepsUp Z).length) 0).toArray) hb2 hb
        go_wp2_with fail
        go_ret
        exact ⟨_, rfl, own3, hb3⟩
end Go.Proofs.Ytkhongbemoahpaa

