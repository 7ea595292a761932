/- Contracts: lists of ranges and of saps in memory; the least range with all of them; all sap together. -/
import Derived.Test.YtloddjjmoaljhaaT3
import Derived.Test.YtloddjjmoaljhaaC5
import Derived.Test.YtloddjjmoaljhaaC12
import Derived.Test.YtloddjjmoaljhaaC13
import Derived.Test.YtloddjjmoaljhaaQ0
import Derived.Laws.AppendOwnNone
namespace Go.Proofs.Ytloddjjmoaljhaa
open Go.RowKit Go.Lib Go.Shelf
set_option linter.unusedVariables false
set_option linter.unusedSimpArgs false
attribute [local go_sem ↓] Go.wp_at_zero Go.wp_at_succ

/-- the slice value v reads as the pairs xs; it lies below block B -/
def SetAt (B : Nat) (w : World) (v : Value) (xs : List (Int × Int)) : Prop :=
  ∃ A c, v = .slice A xs.length c ∧ (0 < xs.length → ∃ g off, A = some ⟨g, off, none⟩ ∧ g < B ∧ RRd w g off xs)
theorem SetAt.below {B B' : Nat} {w w' : World} {v : Value} {xs : List (Int × Int)} (h : SetAt B w v xs) (hb : Below B' w w') (hB : B ≤ B') : SetAt B w' v xs := by
  obtain ⟨A, c, rfl, h⟩ := h
  refine ⟨A, c, rfl, fun hn => ?_⟩
  obtain ⟨g, off, rfl, hg, hr⟩ := h hn
  exact ⟨g, off, rfl, hg, hr.below hb (by omega)⟩
theorem SetAt.mono {B B' : Nat} {w : World} {v : Value} {xs : List (Int × Int)} (h : SetAt B w v xs) (hB : B ≤ B') : SetAt B' w v xs := by
  obtain ⟨A, c, rfl, h⟩ := h
  refine ⟨A, c, rfl, fun hn => ?_⟩
  obtain ⟨g, off, rfl, hg, hr⟩ := h hn
  exact ⟨g, off, rfl, by omega, hr⟩
/-- a slice value that reads as ranges, and has room for them -/
def RowAt (B : Nat) (w : World) (v : Value) (xs : List (Int × Int)) : Prop :=
  ∃ A c, v = .slice A xs.length c ∧ xs.length ≤ c ∧ (0 < xs.length → ∃ g off, A = some ⟨g, off, none⟩ ∧ g < B ∧ RRd w g off xs)
theorem RowAt.set {B : Nat} {w : World} {v : Value} {xs : List (Int × Int)} (h : RowAt B w v xs) : SetAt B w v xs := by
  obtain ⟨A, c, rfl, _, h⟩ := h
  exact ⟨A, c, rfl, h⟩
theorem RowAt.below {B B' : Nat} {w w' : World} {v : Value} {xs : List (Int × Int)} (h : RowAt B w v xs) (hb : Below B' w w') (hB : B ≤ B') : RowAt B w' v xs := by
  obtain ⟨A, c, rfl, hc, h⟩ := h
  refine ⟨A, c, rfl, hc, fun hn => ?_⟩
  obtain ⟨g, off, rfl, hg, hr⟩ := h hn
  exact ⟨g, off, rfl, hg, hr.below hb (by omega)⟩
theorem RowAt.mono {B B' : Nat} {w : World} {v : Value} {xs : List (Int × Int)} (h : RowAt B w v xs) (hB : B ≤ B') : RowAt B' w v xs := by
  obtain ⟨A, c, rfl, hc, h⟩ := h
  refine ⟨A, c, rfl, hc, fun hn => ?_⟩
  obtain ⟨g, off, rfl, hg, hr⟩ := h hn
  exact ⟨g, off, rfl, by omega, hr⟩
theorem RRd.tail {w : World} {g off : Nat} {p : Int × Int} {xs : List (Int × Int)} (h : RRd w g off (p :: xs)) : RRd w g (off + 2) xs := fun k q hq => by
  have := h (k + 1) q (by simpa using hq)
  rw [show off + 2 + k * 2 = off + (k + 1) * 2 from by omega]
  exact this
theorem rrd_flat {w : World} {g : Nat} : ∀ (xs : List (Int × Int)) (off : Nat), RRd w g off xs → ∀ j u, (flat xs)[j]? = some u → w.cell? ⟨g, off + j, none⟩ = some u := by
  intro xs
  induction xs with
  | nil => intro off _ j u h; simp [flat] at h
  | cons p xs ih =>
    intro off hr j u h
    have e : flat (p :: xs) = .int .i64 p.1 :: .int .i64 p.2 :: flat xs := rfl
    rw [e] at h
    obtain ⟨h0, h1⟩ := hr 0 p rfl
    rcases j with _ | _ | j
    · simp at h; subst h; simpa using h0
    · simp at h; subst h; simpa using h1
    · have := ih (off + 2) hr.tail j u (by simpa using h)
      rw [show off + (j + 1 + 1) = off + 2 + j from by omega]
      exact this
theorem flat_rrd {w : World} {g : Nat} : ∀ (xs : List (Int × Int)) (off : Nat), (∀ j u, (flat xs)[j]? = some u → w.cell? ⟨g, off + j, none⟩ = some u) → RRd w g off xs := by
  intro xs off h k p hp
  have key : ∀ (ys : List (Int × Int)) (k : Nat) (p : Int × Int), ys[k]? = some p → (flat ys)[2 * k]? = some (.int .i64 p.1) ∧ (flat ys)[2 * k + 1]? = some (.int .i64 p.2) := by
    intro ys
    induction ys with
    | nil => intro k p h; simp at h
    | cons q ys ih =>
      intro k p h
      have e : flat (q :: ys) = .int .i64 q.1 :: .int .i64 q.2 :: flat ys := rfl
      rw [e]
      rcases k with _ | k
      · simp at h; subst h; exact ⟨rfl, rfl⟩
      · obtain ⟨h1, h2⟩ := ih k p (by simpa using h)
        rw [show 2 * (k + 1) = 2 * k + 1 + 1 from by omega]
        exact ⟨by simpa using h1, by simpa using h2⟩
  obtain ⟨h1, h2⟩ := key xs k p hp
  have a := h _ _ h1
  have b := h _ _ h2
  first
    | exact ⟨a, b⟩
    | (constructor
       · simpa [Nat.mul_comm] using a
       · simpa [Nat.mul_comm, Nat.add_assoc] using b)
theorem own_row (xs : List (Int × Int)) (n : Nat) (hn : xs.length = n) (v : Value) (w : World) {base : Nat} (h : w.ownsRow base 32 2 v n (flat xs)) : RowAt w.heap.size w v xs := by
  subst hn
  have hc := h
  obtain ⟨_, ⟨rfl, h0⟩ | ⟨g, cap, cur, rfl, _, hh, hnc, _, _, _⟩⟩ := h
  · have : xs = [] := List.eq_nil_of_length_eq_zero h0
    subst this
    exact ⟨none, 0, rfl, Nat.le_refl _, fun h => by simp at h⟩
  · refine ⟨_, cap, rfl, hnc, fun _ => ⟨g, 0, rfl, ?_, flat_rrd xs 0 fun j u hj => ?_⟩⟩
    · rcases Nat.lt_or_ge g w.heap.size with h | h
      · exact h
      · rw [Array.getElem?_eq_none h] at hh; cases hh
    · have := hc.cells (g := g) rfl j u hj
      simpa [Addr.add_lit] using this
theorem own_below {w w' : World} {base : Nat} {e : TypeId} {size : Nat} {v : Value} {n : Nat} {xs : List Value} (h : w.ownsRow base e size v n xs) (hb : Below w.heap.size w w') : w'.ownsRow base e size v n xs :=
  h.kept (only_of_below' (row := none) hb) (by cases hv : v.ownBlock <;> simp)
theorem take_snoc' (xs : List (Int × Int)) (k : Nat) (p : Int × Int) (h : xs[k]? = some p) : xs.take (k + 1) = xs.take k ++ [p] := by rw [List.take_add_one, h]; rfl
/-- the error of a list of ranges, and of one that must not be empty -/
def vrsB (xs : List (Int × Int)) : Bool := xs.all fun p => vrB p.1 p.2
def chkL (xs : List (Int × Int)) : Int := if 100 < xs.length then 5 else if vrsB xs then 0 else 2
def chkS (xs : List (Int × Int)) : Int := if chkL xs = 0 then (if xs.length = 0 then 4 else 0) else chkL xs
theorem vrsB_snoc (xs : List (Int × Int)) (p : Int × Int) : vrsB (xs ++ [p]) = (vrsB xs && vrB p.1 p.2) := by simp [vrsB, List.all_append]
theorem chkL_no {xs : List (Int × Int)} (hl : xs.length ≤ 100) {k : Nat} {p : Int × Int} (h : xs[k]? = some p) (hp : vrB p.1 p.2 = false) : chkL xs = 2 := by
  have : vrsB xs = false := by
    rw [Bool.eq_false_iff]
    intro ha
    have := List.all_eq_true.1 ha p (List.mem_of_getElem? h)
    rw [hp] at this
    cases this
  unfold chkL
  rw [if_neg (by omega), this]
  rfl
theorem chkL_yes {xs : List (Int × Int)} (hl : xs.length ≤ 100) (h : vrsB xs = true) : chkL xs = 0 := by unfold chkL; rw [if_neg (by omega), h]; rfl
set_option maxRecDepth 20000 in
set_option maxHeartbeats 1000000 in
theorem checkList_any (v : Value) (xs : List (Int × Int)) (w : World) (hv : SetAt w.heap.size w v xs) :
    Calls Try.prog 54 #[v] w fun e w' => e = .returned (.int .i64 (chkL xs)) ∧ Below w.heap.size w w' := by
  obtain ⟨A, c, rfl, hr⟩ := hv
  by_cases hbig : 100 < xs.length
  · have E : Hid (chkL xs = 5) := Lib.hid (by unfold chkL; rw [if_pos hbig])
    generalize xs.length = n at *
    go_enter Try.func54, Try.ntmps54
    go_wp2_with fail
    go_ret
    exact ⟨ret_int E.out.symm, Below.refl _ _⟩
  · have HN := Lib.hid (fun (k : Nat) (p : Int × Int) (h : xs[k]? = some p) hp => chkL_no (by omega) h hp)
    have HY := Lib.hid (fun h => chkL_yes (xs := xs) (by omega) h)
    generalize chkL xs = re at *
    obtain ⟨n, hn⟩ : ∃ n, xs.length = n := ⟨_, rfl⟩
    rw [hn] at hbig hr ⊢
    have Hn := Lib.hid hn
    have HR := Lib.hid hr
    clear hr hn
    go_enter Try.func54, Try.ntmps54
    go_wp2_with fail
    go_loopw [10] (fun i wr => ∃ k : Nat, k ≤ n ∧ i = .int .i64 k ∧ Hid (vrsB (xs.take k) = true) ∧ Below w.heap.size w wr) (fun i _ => n - (RowKit.intOf i).toNat)
    case atStart => exact ⟨0, Nat.zero_le _, rfl, Lib.hid rfl, Below.refl _ _⟩
    case round =>
      obtain ⟨k, hk, rfl, ho, hbr⟩ := hrel
      by_cases hlt : (k : Int) < (n : Int)
      · obtain ⟨p, hp⟩ : ∃ p, xs[k]? = some p := ⟨_, List.getElem?_eq_getElem (by rw [Hn.out]; omega)⟩
        obtain ⟨g, off, rfl, hg, hc⟩ := HR.out (by omega)
        obtain ⟨q0, q1⟩ := (hc.below hbr hg) k p hp
        have HNk := Lib.hid (HN.out k p hp)
        have hok : Hid (vrsB (xs.take (k + 1)) = vrB p.1 p.2) := Lib.hid (by rw [take_snoc' xs k p hp, vrsB_snoc, ho.out]; rfl)
        have c1 := Lib.hid (validRange_any p.1 p.2)
        clear hc hp
        generalize vrB p.1 p.2 = b at *
        cases b
        · have E := Lib.hid (HNk.out rfl)
          go_wp2_with fail
          refine (c1.out _).mono ?_
          rintro e w1 ⟨rfl, hb⟩
          have hB := hbr.trans ((below1 hb).mono hbr.size)
          clear hb
          go_wp2_with fail
          go_ret
          exact ⟨ret_int E.out.symm, hB⟩
        · go_wp2_with fail
          refine (c1.out _).mono ?_
          rintro e w1 ⟨rfl, hb⟩
          have hB := hbr.trans ((below1 hb).mono hbr.size)
          clear hb q0 q1
          go_wp2_with fail
          go_roundw
          case rel => exact ⟨k + 1, by omega, by go_num, hok, hB⟩
          case measure => simp [RowKit.intOf]; omega
      · obtain rfl : k = n := by omega
        have E : Hid (re = 0) := Lib.hid (HY.out (by have h := ho.out; rwa [List.take_of_length_le (by rw [Hn.out]; exact Nat.le_refl _)] at h))
        go_wp2_with fail
        go_ret
        exact ⟨ret_int E.out.symm, hbr⟩
set_option maxRecDepth 20000 in
set_option maxHeartbeats 1000000 in
theorem checkSome_any (v : Value) (xs : List (Int × Int)) (w : World) (hv : SetAt w.heap.size w v xs) :
    Calls Try.prog 26 #[v] w fun e w' => e = .returned (.int .i64 (chkS xs)) ∧ Below w.heap.size w w' := by
  have c1 := Lib.hid (checkList_any v xs w hv)
  obtain ⟨A, c, rfl, hr⟩ := hv
  have E : Hid (chkS xs = if chkL xs = 0 then (if xs.length = 0 then 4 else 0) else chkL xs) := Lib.hid rfl
  generalize chkS xs = rs at *
  generalize chkL xs = re at *
  generalize xs.length = n at *
  clear hr
  by_cases h0 : re = 0
  · subst h0
    by_cases hn : n = 0
    · subst hn
      go_enter Try.func26, Try.ntmps26
      go_wp2_with fail
      refine c1.out.mono ?_
      rintro e w1 ⟨rfl, hb⟩
      go_wp2_with fail
      go_ret
      exact ⟨ret_int (by rw [E.out]; rfl), hb⟩
    · have hn' : ((n : Int) == 0) = false := by simpa using hn
      have HN := Lib.hid hn
      clear hn
      go_enter Try.func26, Try.ntmps26
      go_wp2_with fail
      refine c1.out.mono ?_
      rintro e w1 ⟨rfl, hb⟩
      go_wp2_with fail
      go_ret
      exact ⟨ret_int (by have h := E.out; simp [HN.out] at h; rw [h]), hb⟩
  · have hre : (re != 0) = true := by simpa using h0
    have H0 := Lib.hid h0
    clear h0
    go_enter Try.func26, Try.ntmps26
    go_wp2_with fail
    refine c1.out.mono ?_
    rintro e w1 ⟨rfl, hb⟩
    go_wp2_with fail
    go_ret
    exact ⟨ret_int (by rw [E.out, if_neg H0.out]), hb⟩
theorem chkL_ok {xs : List (Int × Int)} (h : chkL xs = 0) : xs.length ≤ 100 ∧ vrsB xs = true := by
  unfold chkL at h
  split at h
  · cases h
  · split at h
    · exact ⟨by omega, by assumption⟩
    · cases h
theorem keepg {w W W' : World} {g o1 o2 : Nat} {x y : Option Value} (hg : g < w.heap.size) (hb : Below W.heap.size W W') (h : W.cell? ⟨g, o1, none⟩ = x ∧ W.cell? ⟨g, o2, none⟩ = y ∧ Kp w.heap.size w W) :
    W'.cell? ⟨g, o1, none⟩ = x ∧ W'.cell? ⟨g, o2, none⟩ = y ∧ Kp w.heap.size w W' := by
  obtain ⟨h1, h2, h3⟩ := h
  have := h3.2.1
  exact ⟨cell_next hb (by omega) h1, cell_next hb (by omega) h2, h3.next h3.1.size hb⟩
theorem keepg_res {w W : World} {g o1 o2 : Nat} {x y : Option Value} {u v : Value} (hg : g < w.heap.size) (h : W.cell? ⟨g, o1, none⟩ = x ∧ W.cell? ⟨g, o2, none⟩ = y ∧ Kp w.heap.size w W) :
    ((W.setCell ⟨w.heap.size, 0, none⟩ u).setCell ⟨w.heap.size, 1, none⟩ v).cell? ⟨g, o1, none⟩ = x ∧ ((W.setCell ⟨w.heap.size, 0, none⟩ u).setCell ⟨w.heap.size, 1, none⟩ v).cell? ⟨g, o2, none⟩ = y ∧ Kp w.heap.size w ((W.setCell ⟨w.heap.size, 0, none⟩ u).setCell ⟨w.heap.size, 1, none⟩ v) := by
  obtain ⟨h1, h2, h3⟩ := h
  refine ⟨?_, ?_, h3.set (Nat.le_refl _) u v⟩
  · rw [World.cell?_setCell_other _ _ _ _ (by intro e; injection e; omega), World.cell?_setCell_other _ _ _ _ (by intro e; injection e; omega)]; exact h1
  · rw [World.cell?_setCell_other _ _ _ _ (by intro e; injection e; omega), World.cell?_setCell_other _ _ _ _ (by intro e; injection e; omega)]; exact h2
theorem chkS_ok {xs : List (Int × Int)} (h : chkS xs = 0) : 0 < xs.length ∧ xs.length ≤ 100 ∧ vrsB xs = true := by
  unfold chkS at h
  split at h
  · split at h
    · cases h
    · have := chkL_ok (xs := xs) (by assumption)
      exact ⟨by omega, this⟩
  · exact (by assumption : ¬ chkL xs = 0) h |>.elim
theorem hull_at (p : Int × Int) (ys : List (Int × Int)) (n : Nat) (hn : ys.length = n) (hl : n ≤ 100) (w : World) (g off : Nat) (zs : List (Int × Int)) (c : Nat) (W : World) (hb : Below w.heap.size w W) (hg : g < W.heap.size) (hz : zs.length ≤ 100) (hr : RRd W g off zs) :
    Calls Try.prog 27 #[.agg #[.int .i64 p.1, .int .i64 p.2], .slice (some ⟨g, off, none⟩) zs.length c] W fun e w' => e = .returned (.agg #[.int .i64 (zs.foldl hullJ (p.1, p.2)).1, .int .i64 (zs.foldl hullJ (p.1, p.2)).2]) ∧ Below W.heap.size W w' :=
  hull_any p.1 p.2 g off zs c W hg hr (by omega)
theorem keepg_far {w W : World} {g c o1 o2 : Nat} {x y : Option Value} {u v : Value} (hg : g < w.heap.size) (hc : w.heap.size < c) (h : W.cell? ⟨g, o1, none⟩ = x ∧ W.cell? ⟨g, o2, none⟩ = y ∧ Kp w.heap.size w W) :
    ((W.setCell ⟨c, 0, none⟩ u).setCell ⟨c, 1, none⟩ v).cell? ⟨g, o1, none⟩ = x ∧ ((W.setCell ⟨c, 0, none⟩ u).setCell ⟨c, 1, none⟩ v).cell? ⟨g, o2, none⟩ = y ∧ Kp w.heap.size w ((W.setCell ⟨c, 0, none⟩ u).setCell ⟨c, 1, none⟩ v) := by
  obtain ⟨h1, h2, k1, k2, ⟨v0, k3⟩, ⟨v1, k4⟩, k5, k6⟩ := h
  have hne : c ≠ w.heap.size := by omega
  refine ⟨set2_far _ _ (by omega) h1, set2_far _ _ (by omega) h2, (k1.setCell (p := ⟨c, 0, none⟩) (Nat.le_of_lt hc) _).setCell (p := ⟨c, 1, none⟩) (Nat.le_of_lt hc) _, by simpa using k2, ⟨v0, set2_far _ _ hne k3⟩, ⟨v1, set2_far _ _ hne k4⟩, ?_, ?_⟩
  · rw [World.frozen?_setCell, World.frozen?_setCell]; exact k5
  · rw [World.frozen?_setCell, World.frozen?_setCell]; exact k6
def hullP (xs : List (Int × Int)) : Int × Int := match xs with | [] => (0, 0) | p :: ys => ys.foldl hullJ (p.1, p.2)
def huL (xs : List (Int × Int)) : Int := if chkS xs = 0 then (hullP xs).1 else 0
def huH (xs : List (Int × Int)) : Int := if chkS xs = 0 then (hullP xs).2 else 0
def huE (xs : List (Int × Int)) : Int := if chkS xs = 0 then 0 else chkS xs
set_option maxRecDepth 20000 in
set_option maxHeartbeats 2000000 in
theorem hullAll_any (v : Value) (xs : List (Int × Int)) (w : World) (hv : RowAt w.heap.size w v xs) :
    Calls Try.prog 9 #[v] w fun e w' => e = .returned (.tuple #[.agg #[.int .i64 (huL xs), .int .i64 (huH xs)], .int .i64 (huE xs)]) ∧ Below w.heap.size w w' := by
  have HC : Hid (∀ W : World, Below w.heap.size w W → Calls Try.prog 26 #[v] W fun e w' => e = .returned (.int .i64 (chkS xs)) ∧ Below W.heap.size W w') := Lib.hid fun W hb => checkSome_any v xs W ((hv.set.below hb (Nat.le_refl _)).mono hb.size)
  obtain ⟨A, c, rfl, hcap, hr⟩ := hv
  by_cases h0 : chkS xs = 0
  · obtain ⟨hne, hl, hvs⟩ := chkS_ok h0
    obtain ⟨g, off, rfl, hgw, hrr⟩ := hr (by omega)
    obtain ⟨p, ys, rfl⟩ : ∃ p ys, xs = p :: ys := by
      cases xs with
      | nil => simp at hne
      | cons p ys => exact ⟨p, ys, rfl⟩
    have E0 : Hid (huE (p :: ys) = 0) := Lib.hid (by unfold huE; rw [if_pos h0])
    have E1 : Hid (huL (p :: ys) = (hullP (p :: ys)).1) := Lib.hid (by unfold huL; rw [if_pos h0])
    have E2 : Hid (huH (p :: ys) = (hullP (p :: ys)).2) := Lib.hid (by unfold huH; rw [if_pos h0])
    have hc0 := (hrr 0 p rfl).1
    have hc1 := (hrr 0 p rfl).2
    simp only [Nat.zero_mul, Nat.add_zero] at hc0 hc1
    rw [h0] at HC
    have HR := Lib.hid hrr
    obtain ⟨n, hn⟩ : ∃ n, ys.length = n := ⟨_, rfl⟩
    have hl1 : (p :: ys).length = n + 1 := by simp [hn]
    rw [hl1] at hcap HC hl ⊢
    have Hn := Lib.hid hn
    clear hne hvs hr hrr hn hl1 h0
    have hg0 : (0 : Int) < (n : Int) + 1 := by omega
    have hwn : IntKind.i64.wrap ((n : Int) + 1) = (n : Int) + 1 := IntWalk.i64_in _ (by omega)
    have h1n : (1 : Int) ≤ (n : Int) + 1 := by omega
    have hca : (1 : Int) ≤ (c : Int) := by omega
    have hcb : (n : Int) + 1 ≤ (c : Int) := by omega
    obtain ⟨A2, c2, hsl, HT⟩ : ∃ (A2 : Option Addr) (c2 : Nat), (c = 1 ∧ n = 0 ∧ A2 = some ⟨g, off, none⟩ ∧ c2 = 0 ∨ 1 < c ∧ A2 = some ⟨g, off + 2, none⟩ ∧ c2 = c - 1) ∧
        Hid (∀ W : World, Below w.heap.size w W → Calls Try.prog 27 #[.agg #[.int .i64 p.1, .int .i64 p.2], .slice A2 n c2] W fun e w' => e = .returned (.agg #[.int .i64 (hullP (p :: ys)).1, .int .i64 (hullP (p :: ys)).2]) ∧ Below W.heap.size W w') := by
      by_cases hc1' : c = 1
      · have hn0 : n = 0 := by omega
        have hys : ys = [] := List.eq_nil_of_length_eq_zero (by rw [Hn.out]; exact hn0)
        refine ⟨_, _, .inl ⟨hc1', hn0, rfl, rfl⟩, Lib.hid fun W hb => ?_⟩
        have hz := hb.size
        have h := hull_at p ys n Hn.out (by omega) w g off [] 0 W hb (by omega) (by simp) (fun k q hq => by simp at hq)
        rw [hn0]
        simpa [hys, hullP] using h
      · refine ⟨_, _, .inr ⟨by omega, rfl, rfl⟩, Lib.hid fun W hb => ?_⟩
        have hz := hb.size
        have h := hull_at p ys n Hn.out (by omega) w g (off + 2) ys (c - 1) W hb (by omega) (by rw [Hn.out]; omega) (RRd.tail (HR.out.below hb hgw))
        rw [Hn.out] at h
        exact h
    generalize hPP : (hullP (p :: ys)) = P at *
    have HPP := Lib.hid hPP
    clear hPP
    rcases hsl with ⟨rfl, rfl, rfl, rfl⟩ | ⟨hc2, rfl, rfl⟩
    · skip
      go_enter Try.func9, Try.ntmps9
      go_wp2_with fail
      refine (HC.out _ ((Below.refl _ _).alloc (Nat.le_refl _) _)).mono ?_
      rintro e w1 ⟨rfl, hb⟩
      have r0 := cell_next hb (b := w.heap.size) (o := 0) (by simp <;> omega) (v := some (.int .i64 0)) (by simp [go_sem])
      have r1 := cell_next hb (b := w.heap.size) (o := 1) (by simp <;> omega) (v := some (.int .i64 0)) (by simp [go_sem])
      have f0 := frozen_next hb (b := w.heap.size) (o := 0) (by simp <;> omega) (v := false) (by simp [go_sem])
      have f1 := frozen_next hb (b := w.heap.size) (o := 1) (by simp <;> omega) (v := false) (by simp [go_sem])
      have nz : w.heap.size < w1.heap.size := by have := hb.size; simp at this; omega
      have hB := below1 hb
      clear hb
      replace hc0 := cell_next hB hgw hc0
      replace hc1 := cell_next hB hgw hc1
      have hKp : Kp w.heap.size w w1 := ⟨hB, nz, ⟨_, r0⟩, ⟨_, r1⟩, f0, f1⟩
      have HKp := Lib.hid hKp
      clear hKp r0 r1 f0 f1 hB
      go_wp2_with fail
      have hS := And.intro hc0 (And.intro hc1 HKp.out)
      clear hc0 hc1
      refine wp_region_held_drew (S := fun W' => W'.cell? ⟨g, off, none⟩ = some (.int .i64 p.1) ∧ W'.cell? ⟨g, off + 1, none⟩ = some (.int .i64 p.2) ∧ Kp w.heap.size w W') (by kernel_rfl) ?_ (fun hHeld => ?_)
      focus (exact keepg hgw (Below.drew (Below.refl _ _)) hS)
      refine take_slot (i := 0) (d := 11) (v := ?_) rfl rfl (by kernel_rfl) (by kernel_rfl) (by kernel_rfl) (fun _ _ _ h => h) (Or.inl ⟨by rfl, ?_⟩) (by assumption) ?_
      rotate_left 1
      focus (intro wS hSw; (try dsimp only at hSw); go_simp; try with_reducible rfl)
      try simp only [List.setIfInBounds_toArray, List.set_cons_zero, List.set_cons_succ]
      refine take_slot (i := 1) (d := 12) (v := ?_) rfl rfl (by kernel_rfl) (by kernel_rfl) (by kernel_rfl) (fun _ _ _ h => h) (Or.inl ⟨by rfl, ?_⟩) (by assumption) ?_
      rotate_left 1
      focus (intro wS hSw; (try dsimp only at hSw); go_simp; try with_reducible rfl)
      try simp only [List.setIfInBounds_toArray, List.set_cons_zero, List.set_cons_succ]
      refine take_slot (i := 2) (d := 13) (v := ?_) rfl rfl (by kernel_rfl) (by kernel_rfl) (by kernel_rfl) (fun _ _ _ h => h) (Or.inl ⟨by rfl, ?_⟩) (by assumption) ?_
      rotate_left 1
      focus (intro wS hSw; (try dsimp only at hSw); go_simp; try with_reducible rfl)
      try simp only [List.setIfInBounds_toArray, List.set_cons_zero, List.set_cons_succ]
      refine take_slot (i := 3) (d := 14) (v := ?_) rfl rfl (by kernel_rfl) (by kernel_rfl) (by kernel_rfl) (fun _ _ _ h => h) (Or.inl ⟨by rfl, ?_⟩) (by assumption) ?_
      rotate_left 1
      focus (intro wS hSw; (try dsimp only at hSw); go_simp; try with_reducible rfl)
      try simp only [List.setIfInBounds_toArray, List.set_cons_zero, List.set_cons_succ]
      refine take_slot (i := 4) (d := 15) (v := ?_) rfl rfl (by kernel_rfl) (by kernel_rfl) (by kernel_rfl) (fun _ _ _ h => h) (Or.inl ⟨by rfl, ?_⟩) (by assumption) ?_
      rotate_left 1
      focus (intro wS hSw; (try dsimp only at hSw); go_simp; try with_reducible rfl)
      try simp only [List.setIfInBounds_toArray, List.set_cons_zero, List.set_cons_succ]
      refine wpAnyH_ready (rs := [5]) (by kernel_rfl) (by simp) ?_
      refine AllReadyH.cons rfl (fun K hK => ?_) AllReadyH.nil
      skip
      go_simp
      refine (HT.out _ hHeld.2.2.1).mono ?_; rintro e w5 ⟨rfl, hb5⟩
      refine hK.out _ _ ?_ (fun hHeld => ?_)
      focus (exact keepg hgw hb5 hHeld)
      clear hK K
      try simp only [Act.put, List.setIfInBounds_toArray, List.set_cons_zero, List.set_cons_succ]
      refine wpAnyH_ready (rs := [6]) (by kernel_rfl) (by simp) ?_
      refine AllReadyH.cons rfl (fun K hK => ?_) AllReadyH.nil
      have hKeep := hHeld; obtain ⟨_, _, kb, ksz, ⟨v0, k0⟩, ⟨v1, k1⟩, kf0, kf1⟩ := hHeld
      go_simp
      skip
      refine hK.out _ _ ?_ (fun hHeld => ?_)
      focus (exact keepg_res hgw hKeep)
      clear hK K
      try simp only [Act.put, List.setIfInBounds_toArray, List.set_cons_zero, List.set_cons_succ]
      refine take_slot (i := 7) (d := 3) (v := ?_) rfl rfl (by kernel_rfl) (by kernel_rfl) (by kernel_rfl) (fun _ _ _ h => h) (Or.inl ⟨by rfl, ?_⟩) (by assumption) ?_
      rotate_left 1
      focus (intro wS hSw; (try dsimp only at hSw); go_simp; try with_reducible rfl)
      try simp only [List.setIfInBounds_toArray, List.set_cons_zero, List.set_cons_succ]
      refine wpAnyH_done (by kernel_rfl) ?_ _
      obtain ⟨_, _, hkk, _⟩ := hHeld
      go_wp2_with fail
      refine bodyPost_ret (v := .tuple #[.agg #[.int .i64 P.1, .int .i64 P.2], .int .i64 0]) (by simp [results, Try.results9, go_sem, k0, k1]) rfl ⟨by rw [E0.out, E1.out, E2.out], hkk⟩

    · have hcne : ¬ c = 1 := by omega
      go_enter Try.func9, Try.ntmps9
      go_wp2_with fail
      refine (HC.out _ ((Below.refl _ _).alloc (Nat.le_refl _) _)).mono ?_
      rintro e w1 ⟨rfl, hb⟩
      have r0 := cell_next hb (b := w.heap.size) (o := 0) (by simp <;> omega) (v := some (.int .i64 0)) (by simp [go_sem])
      have r1 := cell_next hb (b := w.heap.size) (o := 1) (by simp <;> omega) (v := some (.int .i64 0)) (by simp [go_sem])
      have f0 := frozen_next hb (b := w.heap.size) (o := 0) (by simp <;> omega) (v := false) (by simp [go_sem])
      have f1 := frozen_next hb (b := w.heap.size) (o := 1) (by simp <;> omega) (v := false) (by simp [go_sem])
      have nz : w.heap.size < w1.heap.size := by have := hb.size; simp at this; omega
      have hB := below1 hb
      clear hb
      replace hc0 := cell_next hB hgw hc0
      replace hc1 := cell_next hB hgw hc1
      have hKp : Kp w.heap.size w w1 := ⟨hB, nz, ⟨_, r0⟩, ⟨_, r1⟩, f0, f1⟩
      have HKp := Lib.hid hKp
      clear hKp r0 r1 f0 f1 hB
      go_wp2_with fail
      have hS := And.intro hc0 (And.intro hc1 HKp.out)
      clear hc0 hc1
      refine wp_region_held_drew (S := fun W' => W'.cell? ⟨g, off, none⟩ = some (.int .i64 p.1) ∧ W'.cell? ⟨g, off + 1, none⟩ = some (.int .i64 p.2) ∧ Kp w.heap.size w W') (by kernel_rfl) ?_ (fun hHeld => ?_)
      focus (exact keepg hgw (Below.drew (Below.refl _ _)) hS)
      refine take_slot (i := 0) (d := 11) (v := ?_) rfl rfl (by kernel_rfl) (by kernel_rfl) (by kernel_rfl) (fun _ _ _ h => h) (Or.inl ⟨by rfl, ?_⟩) (by assumption) ?_
      rotate_left 1
      focus (intro wS hSw; (try dsimp only at hSw); go_simp; try with_reducible rfl)
      try simp only [List.setIfInBounds_toArray, List.set_cons_zero, List.set_cons_succ]
      refine take_slot (i := 1) (d := 12) (v := ?_) rfl rfl (by kernel_rfl) (by kernel_rfl) (by kernel_rfl) (fun _ _ _ h => h) (Or.inl ⟨by rfl, ?_⟩) (by assumption) ?_
      rotate_left 1
      focus (intro wS hSw; (try dsimp only at hSw); go_simp; try with_reducible rfl)
      try simp only [List.setIfInBounds_toArray, List.set_cons_zero, List.set_cons_succ]
      refine take_slot (i := 2) (d := 13) (v := ?_) rfl rfl (by kernel_rfl) (by kernel_rfl) (by kernel_rfl) (fun _ _ _ h => h) (Or.inl ⟨by rfl, ?_⟩) (by assumption) ?_
      rotate_left 1
      focus (intro wS hSw; (try dsimp only at hSw); go_simp; try with_reducible rfl)
      try simp only [List.setIfInBounds_toArray, List.set_cons_zero, List.set_cons_succ]
      refine take_slot (i := 3) (d := 14) (v := ?_) rfl rfl (by kernel_rfl) (by kernel_rfl) (by kernel_rfl) (fun _ _ _ h => h) (Or.inl ⟨by rfl, ?_⟩) (by assumption) ?_
      rotate_left 1
      focus (intro wS hSw; (try dsimp only at hSw); go_simp; try with_reducible rfl)
      try simp only [List.setIfInBounds_toArray, List.set_cons_zero, List.set_cons_succ]
      refine take_slot (i := 4) (d := 15) (v := ?_) rfl rfl (by kernel_rfl) (by kernel_rfl) (by kernel_rfl) (fun _ _ _ h => h) (Or.inl ⟨by rfl, ?_⟩) (by assumption) ?_
      rotate_left 1
      focus (intro wS hSw; (try dsimp only at hSw); go_simp; try with_reducible rfl)
      try simp only [List.setIfInBounds_toArray, List.set_cons_zero, List.set_cons_succ]
      refine wpAnyH_ready (rs := [5]) (by kernel_rfl) (by simp) ?_
      refine AllReadyH.cons rfl (fun K hK => ?_) AllReadyH.nil
      skip
      go_simp
      refine (HT.out _ hHeld.2.2.1).mono ?_; rintro e w5 ⟨rfl, hb5⟩
      refine hK.out _ _ ?_ (fun hHeld => ?_)
      focus (exact keepg hgw hb5 hHeld)
      clear hK K
      try simp only [Act.put, List.setIfInBounds_toArray, List.set_cons_zero, List.set_cons_succ]
      refine wpAnyH_ready (rs := [6]) (by kernel_rfl) (by simp) ?_
      refine AllReadyH.cons rfl (fun K hK => ?_) AllReadyH.nil
      have hKeep := hHeld; obtain ⟨_, _, kb, ksz, ⟨v0, k0⟩, ⟨v1, k1⟩, kf0, kf1⟩ := hHeld
      go_simp
      skip
      refine hK.out _ _ ?_ (fun hHeld => ?_)
      focus (exact keepg_res hgw hKeep)
      clear hK K
      try simp only [Act.put, List.setIfInBounds_toArray, List.set_cons_zero, List.set_cons_succ]
      refine take_slot (i := 7) (d := 3) (v := ?_) rfl rfl (by kernel_rfl) (by kernel_rfl) (by kernel_rfl) (fun _ _ _ h => h) (Or.inl ⟨by rfl, ?_⟩) (by assumption) ?_
      rotate_left 1
      focus (intro wS hSw; (try dsimp only at hSw); go_simp; try with_reducible rfl)
      try simp only [List.setIfInBounds_toArray, List.set_cons_zero, List.set_cons_succ]
      refine wpAnyH_done (by kernel_rfl) ?_ _
      obtain ⟨_, _, hkk, _⟩ := hHeld
      go_wp2_with fail
      refine bodyPost_ret (v := .tuple #[.agg #[.int .i64 P.1, .int .i64 P.2], .int .i64 0]) (by simp [results, Try.results9, go_sem, k0, k1]) rfl ⟨by rw [E0.out, E1.out, E2.out], hkk⟩

  · have HN := Lib.hid h0
    have hne : (chkS xs != 0) = true := by simpa using h0
    have E0' : Hid (huE xs = chkS xs) := Lib.hid (by unfold huE; rw [if_neg h0])
    have E1' : Hid (huL xs = 0) := Lib.hid (by unfold huL; rw [if_neg h0])
    have E2' : Hid (huH xs = 0) := Lib.hid (by unfold huH; rw [if_neg h0])
    generalize chkS xs = ce at *
    generalize xs.length = n at *
    clear h0 hr
    go_enter Try.func9, Try.ntmps9
    go_wp2_with fail
    refine (HC.out _ ((Below.refl _ _).alloc (Nat.le_refl _) _)).mono ?_
    rintro e w1 ⟨rfl, hb⟩
    have r0 := cell_next hb (b := w.heap.size) (o := 0) (by simp <;> omega) (v := some (.int .i64 0)) (by simp [go_sem])
    have r1 := cell_next hb (b := w.heap.size) (o := 1) (by simp <;> omega) (v := some (.int .i64 0)) (by simp [go_sem])
    have f0 := frozen_next hb (b := w.heap.size) (o := 0) (by simp <;> omega) (v := false) (by simp [go_sem])
    have f1 := frozen_next hb (b := w.heap.size) (o := 1) (by simp <;> omega) (v := false) (by simp [go_sem])
    have nz : w.heap.size < w1.heap.size := by have := hb.size; simp at this; omega
    have hB := below1 hb
    clear hb
    go_wp2_with fail
    refine bodyPost_ret (v := .tuple #[.agg #[.int .i64 0, .int .i64 0], .int .i64 ce]) (by simp [results, Try.results9, go_sem, r0, r1, f0, f1]) rfl ⟨by rw [E0'.out, E1'.out, E2'.out], ?_⟩
    exact (hB.setCell (p := ⟨w.heap.size, 0, none⟩) (Nat.le_refl _) _).setCell (p := ⟨w.heap.size, 1, none⟩) (Nat.le_refl _) _
def addP (a b : Int × Int) : Int × Int := (a.1 + b.1, a.2 + b.2)
def suU (xs : List (Int × Int)) : Int × Int := xs.foldl addP (0, 0)
theorem suU_snoc (xs : List (Int × Int)) (p : Int × Int) : suU (xs ++ [p]) = addP (suU xs) p := by simp [suU, List.foldl_append]
set_option maxRecDepth 20000 in
set_option maxHeartbeats 1000000 in
theorem mix_ok (g off : Nat) (xs : List (Int × Int)) (c : Nat) (w : World) (hx : ∀ p ∈ xs, spB p.1 p.2 = true) (hg : g < w.heap.size) (hr : RRd w g off xs) (hl : xs.length ≤ 100) (hS : spB (suU xs).1 (suU xs).2 = true) :
    Calls Try.prog 8 #[.slice (some ⟨g, off, none⟩) xs.length c] w fun e w' =>
      e = .returned (.tuple #[.agg #[.int .i64 (suU xs).1, .int .i64 (suU xs).2], .int .i64 0]) ∧ Below w.heap.size w w' := by
  obtain ⟨n, hn⟩ : ∃ n, xs.length = n := ⟨_, rfl⟩
  rw [hn] at hl ⊢
  have Hn := Lib.hid hn
  clear hn
  have HX := Lib.hid hx
  have HR := Lib.hid hr
  have HS := Lib.hid hS
  clear hx hr hS
  go_enter Try.func8, Try.ntmps8
  have t0 : decide ((100 : Int) < (n : Int)) = false := by simp; omega
  go_wp2_with fail
  go_loopw [13] (fun i wr => ∃ (k : Nat) (a : Int × Int), k ≤ n ∧ i = .int .i64 k ∧ Hid (a = suU (xs.take k)) ∧ Hid (0 ≤ a.1 ∧ a.1 ≤ 10000000000000 * k ∧ 0 ≤ a.2 ∧ a.2 ≤ 10000000000000 * k) ∧ wr.cell? ⟨w.heap.size + 1, 0, none⟩ = some (.int .i64 a.1) ∧ wr.cell? ⟨w.heap.size + 1, 1, none⟩ = some (.int .i64 a.2) ∧ wr.frozen? ⟨w.heap.size + 1, 0, none⟩ = false ∧ wr.frozen? ⟨w.heap.size + 1, 1, none⟩ = false ∧
      wr.cell? ⟨w.heap.size, 0, none⟩ = some (.int .i64 0) ∧ wr.cell? ⟨w.heap.size, 1, none⟩ = some (.int .i64 0) ∧ wr.frozen? ⟨w.heap.size, 0, none⟩ = false ∧ wr.frozen? ⟨w.heap.size, 1, none⟩ = false ∧ w.heap.size + 1 < wr.heap.size ∧ Below w.heap.size w wr) (fun i _ => n - (RowKit.intOf i).toNat)
  case atStart =>
    refine ⟨0, (0, 0), Nat.zero_le _, rfl, Lib.hid rfl, Lib.hid (by simp), ?_, ?_, ?_, ?_, ?_, ?_, ?_, ?_, ?_, ?_⟩
    all_goals first | (simp; done) | exact below_al2 w _ _
  case round =>
    obtain ⟨k, ⟨a0, a1⟩, hk, rfl, ha, hDa, c0, c1, f0, f1, d0, d1, e0, e1, hz, hbr⟩ := hrel
    have hz0 : w.heap.size < wr.heap.size := by omega
    have hgw : g < wr.heap.size := by omega
    dsimp only at c0 c1
    by_cases hlt : k < n
    · have hkl : k < xs.length := by rw [Hn.out]; exact hlt
      obtain ⟨⟨p0, p1⟩, hp⟩ : ∃ p, xs[k]? = some p := ⟨_, List.getElem?_eq_getElem hkl⟩
      have hpS : spB p0 p1 = true := HX.out _ (List.mem_of_getElem? hp)
      have v1 := Lib.hid (sapValid_any p0 p1)
      rw [hpS] at v1
      obtain ⟨q0, q1⟩ := (HR.out.below hbr hg) k _ hp
      obtain ⟨r1, r2, r3, r4⟩ := spB_of hpS
      obtain ⟨r5, r6, r7, r8⟩ := hDa.out
      have haq : Hid ((a0 + p0, a1 + p1) = suU (xs.take (k + 1))) := Lib.hid (by rw [List.take_add_one, hp, show (some (p0, p1)).toList = [(p0, p1)] from rfl, suU_snoc, ← ha.out]; rfl)
      have hDq : Hid (0 ≤ a0 + p0 ∧ a0 + p0 ≤ 10000000000000 * ((k + 1 : Nat) : Int) ∧ 0 ≤ a1 + p1 ∧ a1 + p1 ≤ 10000000000000 * ((k + 1 : Nat) : Int)) := Lib.hid ⟨by omega, by omega, by omega, by omega⟩
      have s0 : IntKind.i64.wrap (a0 + p0) = a0 + p0 := IntWalk.i64_in _ (by omega)
      have s1 : IntKind.i64.wrap (a1 + p1) = a1 + p1 := IntWalk.i64_in _ (by omega)
      clear hp r1 r2 r3 r4 r5 r6 r7 r8 hDa ha hpS
      dsimp only at q0 q1
      go_wp2_with fail
      refine (v1.out _).mono ?_
      rintro e w1 ⟨rfl, hb1⟩
      have x0 := cell_next hb1 (b := wr.heap.size) (o := 0) (by simp) (v := some (.int .i64 p0)) (by simp [go_sem])
      have x1 := cell_next hb1 (b := wr.heap.size) (o := 1) (by simp) (v := some (.int .i64 p1)) (by simp [go_sem])
      have hB1 := below1 hb1
      have hz1 : wr.heap.size < w1.heap.size := by have := hb1.size; simp at this; omega
      replace c0 := cell_next hB1 hz c0
      replace c1 := cell_next hB1 hz c1
      replace f0 := frozen_next hB1 hz f0
      replace f1 := frozen_next hB1 hz f1
      replace d0 := cell_next hB1 hz0 d0
      replace d1 := cell_next hB1 hz0 d1
      replace e0 := frozen_next hB1 hz0 e0
      replace e1 := frozen_next hB1 hz0 e1
      have hne : w.heap.size + 1 ≠ wr.heap.size := by omega
      replace hbr := hbr.trans (hB1.mono (by omega))
      clear hb1 hB1 q0 q1 v1
      go_wp2_with fail
      go_roundw
      case rel =>
        refine ⟨k + 1, (a0 + p0, a1 + p1), by omega, by go_num, haq, hDq, ?_, ?_, ?_, ?_, ?_, ?_, ?_, ?_, by simp; omega, ((hbr.setCell (p := ⟨w.heap.size + 1, 0, none⟩) (by simp) _).setCell (p := ⟨w.heap.size + 1, 1, none⟩) (by simp) _)⟩
        all_goals simp [go_sem, *]
      case measure => simp [RowKit.intOf]; omega
    · obtain rfl : k = n := by omega
      have hfin : (a0, a1) = suU xs := by rw [ha.out, List.take_of_length_le (by rw [Hn.out]; omega)]
      have Hfin := Lib.hid hfin
      have v1 := Lib.hid (sapValid_any a0 a1)
      rw [show spB a0 a1 = true from by have h := HS.out; rw [← hfin] at h; exact h] at v1
      clear hfin ha hDa
      go_wp2_with fail
      refine (v1.out _).mono ?_
      rintro e w1 ⟨rfl, hb1⟩
      replace c0 := cell_next hb1 hz c0
      replace c1 := cell_next hb1 hz c1
      replace d0 := cell_next hb1 hz0 d0
      replace d1 := cell_next hb1 hz0 d1
      replace e0 := frozen_next hb1 hz0 e0
      replace e1 := frozen_next hb1 hz0 e1
      replace hbr := hbr.trans (hb1.mono (by omega))
      clear hb1 v1 f0 f1
      go_wp2_with fail
      refine bodyPost_ret (v := .tuple #[.agg #[.int .i64 a0, .int .i64 a1], .int .i64 0]) (by simp [results, Try.results8, go_sem, *]) rfl ⟨by rw [← Hfin.out], ?_⟩
      exact (hbr.setCell (by simp) _).setCell (by simp) _
theorem own_slice {w : World} {base : Nat} {e : TypeId} {size : Nat} {v : Value} {n : Nat} {xs : List Value} (h : w.ownsRow base e size v n xs) (h0 : 0 < n) : ∃ g cap, v = .slice (some ⟨g, 0, none⟩) n cap := by
  obtain ⟨_, ⟨rfl, h1⟩ | ⟨g, cap, cur, rfl, _⟩⟩ := h
  · omega
  · exact ⟨g, cap, rfl⟩
theorem own_far {w : World} {base : Nat} {e : TypeId} {size : Nat} {v : Value} {n : Nat} {xs : List Value} (h : w.ownsRow base e size v n xs) {b : Nat} (hne : v.ownBlock ≠ some b) (x y : Value) : ((w.setCell ⟨b, 0, none⟩ x).setCell ⟨b, 1, none⟩ y).ownsRow base e size v n xs := by
  have g1 : ∀ (w : World) (p : Addr) (u : Value), p.block = b → w.grownBy (w.setCell p u) (some b) := fun w p u hp => ⟨rfl, rfl, rfl, by simp [World.setCell], fun i hi hn => Below.heap_setCell w p u i (by rintro rfl; exact hn (by rw [hp]))⟩
  have k1 := h.kept (g1 w ⟨b, 0, none⟩ x rfl) (.inr hne)
  exact k1.kept (g1 _ ⟨b, 1, none⟩ y rfl) (.inr hne)
theorem own_set1 {w : World} {base : Nat} {e : TypeId} {size : Nat} {v : Value} {n : Nat} {xs : List Value} (h : w.ownsRow base e size v n xs) {b : Nat} (hne : v.ownBlock ≠ some b) (o : Nat) (x : Value) : (w.setCell ⟨b, o, none⟩ x).ownsRow base e size v n xs := by
  have g1 : w.grownBy (w.setCell ⟨b, o, none⟩ x) (some b) := ⟨rfl, rfl, rfl, by simp [World.setCell], fun i hi hn => Below.heap_setCell w ⟨b, o, none⟩ x i (by rintro rfl; exact hn rfl)⟩
  exact h.kept g1 (.inr hne)
end Go.Proofs.Ytloddjjmoaljhaa

