/- Contracts: U22, U38, C27, R1, C28, C29, C33, U39, joined. -/
import Derived.Test.YtfdaiififoomoaaJB19
import Derived.Test.YtfdaiififoomoaaJB5
import Derived.Lib.SliceRun
import Derived.Test.YtfdaiififoomoaaJB1
import Derived.Test.YtfdaiififoomoaaJB6
import Derived.Test.YtfdaiififoomoaaJB3
import Derived.Deep.QuietTactic
import Derived.BigQuiet
import Derived.Test.YtfdaiififoomoaaJB11
namespace Go.Proofs.Ytfdaiififoomoaa
open Go.RowKit Go.Lib Go.Shelf
set_option linter.unusedVariables false
set_option linter.unusedSimpArgs false
attribute [local go_sem ↓] Go.wp_at_zero Go.wp_at_succ

/-- a table that the call made itself -/
def NewRows (B : Nat) (w : World) (v : Value) (xs : List (Int × Int)) : Prop := ∃ g cap, v = .slice (some ⟨g, 0, none⟩) xs.length cap ∧ w.ownsRow B 82 2 v xs.length (flat xs)
theorem NewRows.row {B : Nat} {w : World} {v : Value} {xs : List (Int × Int)} (h : NewRows B w v xs) : RowAt w.heap.size w v xs := by
  obtain ⟨g, cap, rfl, h⟩ := h
  exact own_rowR xs _ rfl _ w h
set_option maxRecDepth 20000 in
set_option maxHeartbeats 1000000 in
theorem clone_rows (xs : List (Int × Int)) (g off c : Nat) (hl : xs.length ≤ 1000) (h0 : 0 < xs.length) (w : World) (hg : g < w.heap.size) (hr : RRd w g off xs) :
    Calls Try.prog 25 #[.slice (some ⟨g, off, none⟩) xs.length c] w fun e w' => ∃ v', e = .returned v' ∧ NewRows w.heap.size w' v' xs ∧ Below w.heap.size w w' := by
  obtain ⟨i0, hi0, hz0, hz1, hz2⟩ := info_parts infoRow
  obtain ⟨n, hn⟩ : ∃ n, xs.length = n := ⟨_, rfl⟩
  have HNR : Hid (∀ (B : Nat) (w : World) v, w.ownsRow B 82 2 v n (flat xs) → NewRows B w v xs) := Lib.hid fun B w v h => by
    have h' := h
    obtain ⟨_, ⟨rfl, h0'⟩ | ⟨g, cap, cur, rfl, _⟩⟩ := h
    · omega
    · exact ⟨g, cap, by rw [hn], by rw [hn]; exact h'⟩
  rw [hn] at hl h0 ⊢
  have Hn := Lib.hid hn
  have HR := Lib.hid hr
  clear hn hr
  have hnil : ∀ W : World, (binOp .eql 29 (.slice (some ⟨g, off, none⟩) n c) (.slice none 0 0)).run Try.prog W = .ok (.bool false) W := fun W => by
    have := Lib.run_eql_slice_nil W 29 82 (some ⟨g, off, none⟩) n c 0 0 Try.underlying29
    simpa using this
  go_enter Try.func25, Try.ntmps25
  have hown0 : (w.alloc (.cells #[] 82)).ownsRow w.heap.size 82 2 (.slice (some ⟨w.heap.size, 0, none⟩) 0 0) 0 [] :=
    ⟨rfl, .inr ⟨w.heap.size, 0, #[], rfl, Nat.le_refl _, heap_alloc_new w _, Nat.le_refl _, Nat.zero_le _, rfl, rfl⟩⟩
  have HO := Lib.hid hown0
  clear hown0
  go_wp2_with (at_builtin; refine wpList_append_own _ rfl (.tmp 5) (.tmp 6) 29 rfl w.heap.size 82 i0 (.agg #[.int .i64 0, .int .i64 0]) 2 16 Try.underlying29 hi0 hz0 hz1 hz2 rfl (by decide) (.slice (some ⟨w.heap.size, 0, none⟩) 0 0) 0 [] rfl HO.out ⟨g, off, none⟩ n c (flat xs) rfl ?_ ?_ ?_ ?_ ?_ ?_ ?_)
  case refine_1 => rw [flat_length, Hn.out]
  case refine_2 =>
    intro j u hj
    rw [Addr.add_lit]
    exact (((Below.refl _ _).alloc (Nat.le_refl _) _).cell (p := ⟨g, off + j, none⟩) hg).trans (rrd_flat xs off HR.out j u hj)
  case refine_3 =>
    intro u hu
    simp only [flat, List.mem_flatMap] at hu
    obtain ⟨p, _, hp⟩ := hu
    simp at hp
    rcases hp with rfl | rfl <;> rfl
  case refine_4 => unfold maxLen; omega
  case refine_5 => omega
  case refine_6 => simp
  case refine_7 =>
    intro v' w1 hown' hgrow _
    have hB : Below w.heap.size w w1 := ((Below.refl _ _).alloc (Nat.le_refl _) _).grown hgrow (by simp) (fun k hk => by simp [Value.ownBlock] at hk; omega)
    have hR := Lib.hid (HNR.out _ w1 v' (by simpa using hown'))
    clear hown' hgrow
    go_wp2_with fail
    go_ret
    exact ⟨v', rfl, hR.out, hB⟩


set_option maxHeartbeats 400000 in
theorem wrong_any (x y : Int) (w : World) :
    Calls Try.prog 54 #[.agg #[.int .i64 x, .int .i64 y]] w fun e w' => e = .returned (.bool (!inB 0 1000000 y)) ∧ Below w.heap.size w w' := by
  have c1 := Lib.hid (fun (W : World) (g c : Nat) => in1v_any 0 1000000 y g c W)
  generalize inB 0 1000000 y = r at *
  go_enter Try.func54, Try.ntmps54
  go_wp2_with fail
  refine (c1.out _ _ _ (by simp) (by simp [go_sem])).mono ?_
  rintro e w1 ⟨rfl, hb⟩
  have hB := below2 hb
  clear hb
  go_wp2_with fail
  go_ret
  exact ⟨by cases r <;> rfl, hB⟩
theorem enters_wrong : ∀ args w, (callFunc 54 args).run Try.prog w = .ok (.enter 54 args) w := enters_of Try.func54 (by kernel_rfl) rfl

set_option maxRecDepth 20000 in
set_option maxHeartbeats 1000000 in
theorem rowNone (v : Value) (xs : List (Int × Int)) (w : World) (hl : xs.length ≤ 100) (hv : SetAt w.heap.size w v xs) (hT : ∀ p ∈ xs, inB 0 1000000 p.2 = true) :
    Calls Try.prog 79 #[v, .func (Fn.func 54) #[] #[]] w fun e w' => e = .returned (.int .i64 (-1)) ∧ Below w.heap.size w w' := by
  have HE := enters_wrong
  obtain ⟨A, c, rfl, hr⟩ := hv
  have HC := Lib.hid (fun (x y : Int) (W : World) => wrong_any x y W)
  have HT := Lib.hid hT
  clear hT
  obtain ⟨n, hn⟩ : ∃ n, xs.length = n := ⟨_, rfl⟩
  rw [hn] at hr hl ⊢
  have Hn := Lib.hid hn
  have HR := Lib.hid hr
  clear hr hn
  go_enter Try.func79, Try.ntmps79
  go_wp2_with fail
  go_loopw [8] (fun i wr => ∃ k : Nat, k ≤ n ∧ i = .int .i64 k ∧ Below w.heap.size w wr) (fun i _ => n - (RowKit.intOf i).toNat)
  case atStart => exact ⟨0, Nat.zero_le _, rfl, Below.refl _ _⟩
  case round =>
    obtain ⟨k, hk, rfl, hbr⟩ := hrel
    by_cases hlt : (k : Int) < (n : Int)
    · obtain ⟨⟨x, y⟩, hp⟩ : ∃ p, xs[k]? = some p := ⟨_, List.getElem?_eq_getElem (by rw [Hn.out]; omega)⟩
      obtain ⟨g, off, rfl, hg, hc⟩ := HR.out (by omega)
      obtain ⟨q0, q1⟩ := hc k _ hp
      replace q0 := cell_next hbr hg q0
      replace q1 := cell_next hbr hg q1
      have hgw : g < wr.heap.size := by have := hbr.size; omega
      have ht := HT.out _ (List.mem_of_getElem? hp)
      have c1 := HC.out x y wr
      dsimp only at q0 q1 ht
      rw [ht] at c1
      have C1 := Lib.hid c1
      clear hc hp c1 ht
      go_wp2_with fail
      refine C1.out.mono ?_
      rintro e w1 ⟨rfl, hb1⟩
      have hB := hbr.trans (hb1.mono hbr.size)
      clear hb1 q0 q1 C1
      go_wp2_with fail
      go_roundw
      case rel => exact ⟨k + 1, by omega, by go_num, hB⟩
      case measure => simp [RowKit.intOf]; omega
    · obtain rfl : k = n := by omega
      go_wp2_with fail
      go_ret
      exact ⟨rfl, hbr⟩

set_option maxHeartbeats 400000 in
theorem rowsFine (v : Value) (xs : List (Int × Int)) (w : World) (hl : xs.length ≤ 100) (hv : SetAt w.heap.size w v xs) (hT : ∀ p ∈ xs, inB 0 1000000 p.2 = true) :
    Calls Try.prog 55 #[v, .func (Fn.func 54) #[] #[]] w fun e w' => e = .returned (.bool false) ∧ Below w.heap.size w w' := by
  have c1 := Lib.hid (rowNone v xs w hl hv hT)
  clear hv hT
  go_enter Try.func55, Try.ntmps55
  go_wp2_with fail
  refine c1.out.mono ?_
  rintro e w1 ⟨rfl, hb⟩
  go_wp2_with fail
  go_ret
  exact ⟨by simp, hb⟩

set_option maxRecDepth 20000 in
set_option maxHeartbeats 4000000 in
theorem validRules_ok (v : Value) (xs : List (Int × Int)) (lim fl fh : Int) (w : World) (hl : xs.length ≤ 100) (hv : SetAt w.heap.size w v xs) (ht : tabE xs = 0) (hT : ∀ p ∈ xs, inB 0 1000000 p.2 = true) (hlim : inB 1 1000000 lim = true) (hf : rgB 0 1000000 fl fh = true) :
    Calls Try.prog 23 #[.agg #[v, .int .i64 lim, .int .i64 fl, .int .i64 fh]] w fun e w' => e = .returned (.bool true) ∧ Below w.heap.size w w' := by
  have CT := Lib.hid (fun (W : World) (h : Below w.heap.size w W) => checkTable_any v xs W ((hv.below h (Nat.le_refl _)).mono h.size))
  rw [ht] at CT
  have CF := Lib.hid (fun (W : World) (h : Below w.heap.size w W) => rowsFine v xs W hl ((hv.below h (Nat.le_refl _)).mono h.size) hT)
  have CI := Lib.hid (fun (W : World) (g cp : Nat) => in1v_any 1 1000000 lim g cp W)
  rw [hlim] at CI
  have CR := Lib.hid (fun (W : World) => rangeIn_any 0 1000000 fl fh W)
  rw [hf] at CR
  obtain ⟨A, c, rfl, hr⟩ := hv
  clear hr ht hT hlim hf
  generalize xs.length = n at *
  go_enter Try.func23, Try.ntmps23
  go_wp2_with fail
  have b0 : (w.alloc (Obj.cells #[.slice A n c, .int .i64 lim, .int .i64 fl, .int .i64 fh] 33)).cell? ⟨w.heap.size, 0, none⟩ = some (.slice A n c) := cell_new _ _ _ 0
  have b1 : (w.alloc (Obj.cells #[.slice A n c, .int .i64 lim, .int .i64 fl, .int .i64 fh] 33)).cell? ⟨w.heap.size, 1, none⟩ = some (.int .i64 lim) := cell_new _ _ _ 1
  have b2 : (w.alloc (Obj.cells #[.slice A n c, .int .i64 lim, .int .i64 fl, .int .i64 fh] 33)).cell? ⟨w.heap.size, 2, none⟩ = some (.int .i64 fl) := cell_new _ _ _ 2
  have b3 : (w.alloc (Obj.cells #[.slice A n c, .int .i64 lim, .int .i64 fl, .int .i64 fh] 33)).cell? ⟨w.heap.size, 3, none⟩ = some (.int .i64 fh) := cell_new _ _ _ 3
  have nb : w.heap.size < (w.alloc (Obj.cells #[.slice A n c, .int .i64 lim, .int .i64 fl, .int .i64 fh] 33)).heap.size := by simp
  have hB : Below w.heap.size w (w.alloc (Obj.cells #[.slice A n c, .int .i64 lim, .int .i64 fl, .int .i64 fh] 33)) := (Below.refl _ _).alloc (Nat.le_refl _) _
  generalize w.alloc (Obj.cells #[.slice A n c, .int .i64 lim, .int .i64 fl, .int .i64 fh] 33) = w1 at *
  go_wp2_with fail
  refine (CT.out _ hB).mono ?_
  rintro e w2 ⟨rfl, hb⟩
  replace b0 := cell_next hb nb b0
  replace b1 := cell_next hb nb b1
  replace b2 := cell_next hb nb b2
  replace b3 := cell_next hb nb b3
  replace nb := Nat.lt_of_lt_of_le nb hb.size
  replace hB := hB.trans (hb.mono hB.size)
  clear hb
  go_wp2_with fail
  refine (CF.out _ hB).mono ?_
  rintro e w3 ⟨rfl, hb⟩
  replace b1 := cell_next hb nb b1
  replace b2 := cell_next hb nb b2
  replace b3 := cell_next hb nb b3
  replace nb := Nat.lt_of_lt_of_le nb hb.size
  replace hB := hB.trans (hb.mono hB.size)
  clear hb b0
  go_wp2_with fail
  refine (CI.out _ _ _ (by simp) (by simp [go_sem])).mono ?_
  rintro e w4 ⟨rfl, hb⟩
  have hb' := below1 hb
  replace b2 := cell_next hb' nb b2
  replace b3 := cell_next hb' nb b3
  replace nb := Nat.lt_of_lt_of_le nb hb'.size
  replace hB := hB.trans (hb'.mono hB.size)
  clear hb hb' b1
  go_wp2_with fail
  refine (CR.out _).mono ?_
  rintro e w5 ⟨rfl, hb⟩
  replace hB := hB.trans (hb.mono hB.size)
  clear hb b2 b3 nb
  go_wp2_with fail
  go_ret
  exact ⟨by simp, hB⟩

set_option linter.unusedVariables false

def yB (xs : List (Int × Int)) : Bool := xs.all fun p => inB 0 1000000 p.2
theorem yB_mem {xs : List (Int × Int)} (h : yB xs = true) {p : Int × Int} (hp : p ∈ xs) : 0 ≤ p.2 ∧ p.2 ≤ 1000000 := by
  have := List.all_eq_true.1 h p hp
  simpa [inB] using this
/-- rules are valid -/
def ruB (xs : List (Int × Int)) (lim fl fh : Int) : Bool := decide (tabE xs = 0) && yB xs && inB 1 1000000 lim && rgB 0 1000000 fl fh

theorem frac_bd {d x c : Int} (hc : 0 < c) (hx0 : 0 ≤ x) (hx : x ≤ c) (hd : 0 ≤ d) : 0 ≤ d * x / c ∧ d * x / c ≤ d ∧ -d ≤ -(d * x) / c ∧ -(d * x) / c ≤ 0 := by
  have h0 : 0 ≤ d * x := Int.mul_nonneg hd hx0
  have h1 : d * x ≤ d * c := Int.mul_le_mul_of_nonneg_left hx hd
  refine ⟨Int.ediv_nonneg h0 (by omega), ?_, ?_, ?_⟩
  · exact Int.ediv_le_of_le_mul hc h1
  · refine (Int.le_ediv_iff_mul_le hc).2 ?_
    rw [Int.neg_mul]
    omega
  · exact Int.ediv_le_of_le_mul hc (by omega)
theorem segV_bd {p q : Int × Int} (hw : p.1 < q.1) {x : Int} (h1 : p.1 ≤ x) (h2 : x ≤ q.1) (hp : 0 ≤ p.2 ∧ p.2 ≤ 1000000) (hq : 0 ≤ q.2 ∧ q.2 ≤ 1000000) : (0 ≤ (segV p q x).1 ∧ (segV p q x).1 ≤ 1000000) ∧ 0 ≤ (segV p q x).2 ∧ (segV p q x).2 ≤ 1000000 := by
  unfold segV
  dsimp only
  rcases Int.le_total p.2 q.2 with h | h
  · have := frac_bd (d := q.2 - p.2) (x := x - p.1) (c := q.1 - p.1) (by omega) (by omega) (by omega) (by omega)
    omega
  · have := frac_bd (d := p.2 - q.2) (x := x - p.1) (c := q.1 - p.1) (by omega) (by omega) (by omega) (by omega)
    have e1 : (q.2 - p.2) * (x - p.1) = -((p.2 - q.2) * (x - p.1)) := by rw [← Int.neg_mul]; congr 1; omega
    rw [e1, Int.neg_neg]
    omega
theorem valV_in {xs : List (Int × Int)} (ht : TabOk xs) (hy : yB xs = true) {x : Int} (hc : covB xs x = true) : (0 ≤ (valV xs x).1 ∧ (valV xs x).1 ≤ 1000000) ∧ 0 ≤ (valV xs x).2 ∧ (valV xs x).2 ≤ 1000000 := by
  obtain ⟨k, p, q, hp, hq, h1, h2, _⟩ := seg_first ht hc
  rw [valV_is ht ⟨k, p, q, hp, hq, h1, h2, rfl⟩]
  exact segV_bd (ht.2.2.2 k (k + 1) p q (by omega) hp hq) h1 h2 (yB_mem hy (List.mem_of_getElem? hp)) (yB_mem hy (List.mem_of_getElem? hq))
theorem vsJ_bd (a b : Int) : ∀ (l : List (Int × Int)) (s : Int × Int), (∀ p ∈ l, 0 ≤ p.2 ∧ p.2 ≤ 1000000) → ((0 ≤ s.1 ∧ s.1 ≤ 1000000) ∧ 0 ≤ s.2 ∧ s.2 ≤ 1000000) → ((0 ≤ (l.foldl (vsJ a b) s).1 ∧ (l.foldl (vsJ a b) s).1 ≤ 1000000) ∧ 0 ≤ (l.foldl (vsJ a b) s).2 ∧ (l.foldl (vsJ a b) s).2 ≤ 1000000)
  | [], s, _, h => h
  | p :: l, s, hl, h => by
    refine vsJ_bd a b l _ (fun q hq => hl q (List.mem_cons_of_mem _ hq)) ?_
    have := hl p (List.mem_cons_self ..)
    unfold vsJ
    split
    · dsimp only; omega
    · exact h
theorem vlR_bd {xs : List (Int × Int)} (ht : tabE xs = 0) (hy : yB xs = true) (a b : Int) : (0 ≤ (vlR xs a b).1 ∧ (vlR xs a b).1 ≤ 1000000) ∧ 0 ≤ (vlR xs a b).2 ∧ (vlR xs a b).2 ≤ 1000000 := by
  unfold vlR
  by_cases h : vlE xs a b = 0
  · rw [if_pos h]
    unfold vlE at h
    rw [if_pos ht] at h
    by_cases h1 : vrB a b = true
    · rw [if_pos h1] at h
      by_cases h2 : covB xs a = true ∧ covB xs b = true
      · have hT := tabOk_of ht
        have ha := valV_in hT hy h2.1
        have hb := valV_in hT hy h2.2
        refine vsJ_bd a b xs _ (fun p hp => yB_mem hy hp) ?_
        unfold vs0
        dsimp only
        omega
      · rw [if_neg h2] at h; cases h
    · rw [if_neg h1] at h; cases h
  · rw [if_neg h]
    simp

/-- the load behind k hours -/
noncomputable def kL (xs l : List (Int × Int)) (s : Int × Int) : Nat → Int × Int
  | 0 => s
  | k + 1 => let p := l.getD k (0, 0); (min 1000000 ((kL xs l s k).1 + 1 * (vlR xs p.1 p.2).1), min 1000000 ((kL xs l s k).2 + 1 * (vlR xs p.1 p.2).2))
theorem kL_bd {xs l : List (Int × Int)} (ht : tabE xs = 0) (hy : yB xs = true) {s : Int × Int} (hs : (0 ≤ s.1 ∧ s.1 ≤ 1000000) ∧ 0 ≤ s.2 ∧ s.2 ≤ 1000000) : ∀ k, (0 ≤ (kL xs l s k).1 ∧ (kL xs l s k).1 ≤ 1000000) ∧ 0 ≤ (kL xs l s k).2 ∧ (kL xs l s k).2 ≤ 1000000
  | 0 => hs
  | k + 1 => by
    have h := kL_bd ht hy hs (l := l) k
    have h' := vlR_bd ht hy (l.getD k (0, 0)).1 (l.getD k (0, 0)).2
    unfold kL
    dsimp only
    omega
/-- the error of hour k -/
def kE (xs l : List (Int × Int)) (k : Nat) : Int := let p := l.getD k (0, 0); vlE xs p.1 p.2
/-- what Keeps answers -/
noncomputable def kpV (xs : List (Int × Int)) (lim fl fh lo hi : Int) (l : List (Int × Int)) : Int × Int × Int :=
  if (ruB xs lim fl fh && rgB 0 1000000 lo hi) = true then
    (if 1000 < l.length then (0, 0, 5) else
      (if fstI (fun k => !decide (kE xs l k = 0)) l.length < 0 then (fstI (fun k => decide (lim ≤ (kL xs l (lo, hi) (k + 1)).2)) l.length, fstI (fun k => decide (lim ≤ (kL xs l (lo, hi) (k + 1)).1)) l.length, 0)
        else (0, 0, kE xs l (fstI (fun k => !decide (kE xs l k = 0)) l.length).toNat)))
  else (0, 0, 2)
theorem fstI_succ (f : Nat → Bool) (n : Nat) : fstI f (n + 1) = if 0 ≤ fstI f n then fstI f n else if f n = true then (n : Int) else -1 := rfl
theorem fstI_keep {f : Nat → Bool} {n : Nat} (h : 0 ≤ fstI f n) : fstI f (n + 1) = fstI f n := by rw [fstI_succ, if_pos h]
theorem fstI_hit {f : Nat → Bool} {n : Nat} (h : fstI f n < 0) (hf : f n = true) : fstI f (n + 1) = n := by rw [fstI_succ, if_neg (by omega), if_pos hf]
theorem fstI_miss {f : Nat → Bool} {n : Nat} (h : fstI f n < 0) (hf : f n = false) : fstI f (n + 1) = fstI f n := by
  rw [fstI_succ, if_neg (by omega), if_neg (by rw [hf]; simp)]
  have := (fstI_rng f n).1
  omega

open Go.RowKit Go.Lib Go.Shelf
set_option linter.unusedVariables false
set_option linter.unusedSimpArgs false
attribute [local go_sem ↓] Go.wp_at_zero Go.wp_at_succ

theorem tabE_bool (xs : List (Int × Int)) : tabOk xs = decide (tabE xs = 0) := by unfold tabE; cases tabOk xs <;> simp

open Go.RowKit Go.Lib Go.Shelf
set_option linter.unusedVariables false
set_option linter.unusedSimpArgs false
attribute [local go_sem ↓] Go.wp_at_zero Go.wp_at_succ

theorem floor_pos (a b : Int) (ha : 0 ≤ a) : a.tdiv b = a / b ∧ a.tmod b = a % b := ⟨Int.tdiv_eq_ediv_of_nonneg ha, Int.tmod_eq_emod_of_nonneg ha⟩
theorem floor_neg (a b : Int) (ha : a < 0) (hb : 0 < b) : (a.tmod b < 0 → a / b = a.tdiv b - 1) ∧ (¬ a.tmod b < 0 → a / b = a.tdiv b) := by
  have h := Int.mul_tdiv_add_tmod a b
  have h1 : a.tmod b ≤ 0 := by
    have := Int.tmod_nonneg b (show 0 ≤ -a by omega)
    rw [Int.neg_tmod] at this
    omega
  have h2 : -b < a.tmod b := by
    have := Int.tmod_lt_of_pos (-a) hb
    rw [Int.neg_tmod] at this
    omega
  generalize a.tdiv b = q at *
  generalize a.tmod b = r at *
  constructor
  · intro hr
    exact ((Int.ediv_emod_unique (a := a) (b := b) (r := b + r) (q := q - 1) hb).2 ⟨by rw [Int.mul_sub, Int.mul_one]; omega, by omega, by omega⟩).1
  · intro hr
    exact ((Int.ediv_emod_unique (a := a) (b := b) (r := r) (q := q) hb).2 ⟨by omega, by omega, by omega⟩).1
theorem tdiv_abs (a b : Int) (hb : 0 < b) (B : Int) (h1 : -B ≤ a) (h2 : a ≤ B) : -B ≤ a.tdiv b ∧ a.tdiv b ≤ B := by
  have h : (a.tdiv b).natAbs ≤ a.natAbs := by rw [Int.natAbs_tdiv]; exact Nat.div_le_self _ _
  omega
theorem tmod_abs (a b : Int) (hb : 0 < b) : -b < a.tmod b ∧ a.tmod b < b := by
  have h1 := Int.tmod_lt_of_pos a hb
  have h2 : -b < a.tmod b := by
    have := Int.tmod_lt_of_pos (-a) hb
    rw [Int.neg_tmod] at this
    omega
  exact ⟨h2, h1⟩

theorem q_of (a s : Int) (hv : spB a s = true) (h0 : a + s ≠ 0) : qLo s 10000 (a + s) = s * 10000 / (a + s) ∧ qHi s 10000 (a + s) = -(-(s * 10000) / (a + s)) := by
  obtain ⟨h1, h2, h3, h4⟩ := spB_of hv
  exact q_pos (a := s) (b := 10000) (c := a + s) (by omega) (by
    rw [show Int.natAbs 10000 = 10000 from rfl]
    refine Nat.le_trans (Nat.div_le_self _ _) ?_
    omega)

open Go.RowKit Go.Lib Go.Shelf
set_option linter.unusedVariables false
set_option linter.unusedSimpArgs false
attribute [local go_sem ↓] Go.wp_at_zero Go.wp_at_succ

/-- the stretch that At comes to -/
theorem seg_last {xs : List (Int × Int)} {x : Int} (ht : TabOk xs) (hc : covB xs x = true) : ∃ k p q, xs[k]? = some p ∧ xs[k + 1]? = some q ∧ p.1 ≤ x ∧ x ≤ q.1 ∧ (k + 2 = xs.length ∨ x < q.1) ∧ ∀ j r, j < k → xs[j + 1]? = some r → r.1 ≤ x := by
  obtain ⟨m, hm⟩ : ∃ m, xs.length = m + 1 := ⟨xs.length - 1, by have := ht.1; omega⟩
  have hm1 : 1 ≤ m := by have := ht.1; omega
  obtain ⟨p, hp⟩ : ∃ p, xs[0]? = some p := ⟨_, List.getElem?_eq_getElem (by omega)⟩
  obtain ⟨q, hq⟩ : ∃ q, xs[m]? = some q := ⟨_, List.getElem?_eq_getElem (by omega)⟩
  rw [covB_of x hm hp hq] at hc
  simp at hc
  have key : ∀ d k p, k + d = m → 1 ≤ d → xs[k]? = some p → p.1 ≤ x → (∀ j r, j < k → xs[j + 1]? = some r → r.1 ≤ x) → ∃ k p q, xs[k]? = some p ∧ xs[k + 1]? = some q ∧ p.1 ≤ x ∧ x ≤ q.1 ∧ (k + 2 = xs.length ∨ x < q.1) ∧ ∀ j r, j < k → xs[j + 1]? = some r → r.1 ≤ x := by
    intro d
    induction d with
    | zero => intro k p _ h; omega
    | succ d ih =>
      intro k p hk _ hp hpx hj
      obtain ⟨r, hr⟩ : ∃ r, xs[k + 1]? = some r := ⟨_, List.getElem?_eq_getElem (by omega)⟩
      by_cases hx : x < r.1
      · exact ⟨k, p, r, hp, hr, hpx, by omega, .inr hx, hj⟩
      · rcases Nat.eq_zero_or_pos d with h | h
        · subst h
          have e : r = q := by rw [show k + 1 = m from by omega, hq] at hr; injection hr with hr; exact hr.symm
          subst e
          exact ⟨k, p, r, hp, hr, hpx, hc.2, .inl (by omega), hj⟩
        · refine ih (k + 1) r (by omega) h hr (by omega) (fun j s hj' hs => ?_)
          by_cases e : j = k
          · subst e; rw [hr] at hs; injection hs with hs; subst hs; omega
          · exact hj j s (by omega) hs
  exact key m 0 p (by omega) hm1 hp hc.1 (fun j r h => by omega)

def AtPost (xs : List (Int × Int)) (x : Int) (w : World) (e : Ending) (w' : World) : Prop :=
  ∃ (k : Nat) (p q : Int × Int), xs[k]? = some p ∧ xs[k + 1]? = some q ∧ p.1 ≤ x ∧ x ≤ q.1 ∧ e = .returned (.tuple #[.int .i64 k, .int .i64 ((q.2 - p.2) * (x - p.1)), .int .i64 (q.1 - p.1)]) ∧ Below w.heap.size w w'

open Go.RowKit Go.Lib Go.Shelf
set_option linter.unusedVariables false
set_option linter.unusedSimpArgs false
attribute [local go_sem ↓] Go.wp_at_zero Go.wp_at_succ

theorem keepT {w W W' : World} {g o : Nat} {x : Option Value} (hg : g < w.heap.size) (hb : Below W.heap.size W W') (h : W.cell? ⟨g, o, none⟩ = x ∧ Kp w.heap.size w W) : W'.cell? ⟨g, o, none⟩ = x ∧ Kp w.heap.size w W' :=
  ⟨cell_next hb (Nat.lt_of_lt_of_le hg h.2.1.size) h.1, h.2.next h.2.1.size hb⟩
theorem keepT_set {w W : World} {g o : Nat} {x : Option Value} {u v : Value} (hg : g < w.heap.size) (h : W.cell? ⟨g, o, none⟩ = x ∧ Kp w.heap.size w W) :
    ((W.setCell ⟨w.heap.size, 0, none⟩ u).setCell ⟨w.heap.size, 1, none⟩ v).cell? ⟨g, o, none⟩ = x ∧ Kp w.heap.size w ((W.setCell ⟨w.heap.size, 0, none⟩ u).setCell ⟨w.heap.size, 1, none⟩ v) := by
  have hne : g ≠ w.heap.size := by omega
  refine ⟨?_, h.2.set (Nat.le_refl _) u v⟩
  rw [World.cell?_setCell_other _ _ _ _ (by intro e; injection e; omega), World.cell?_setCell_other _ _ _ _ (by intro e; injection e; omega)]; exact h.1

open Go.RowKit Go.Lib Go.Shelf
set_option linter.unusedVariables false
set_option linter.unusedSimpArgs false
attribute [local go_sem ↓] Go.wp_at_zero Go.wp_at_succ

theorem frozen_far {w : World} {b c o : Nat} {z : Bool} (x y : Value) (h : w.frozen? ⟨c, o, none⟩ = z) : ((w.setCell ⟨b, 0, none⟩ x).setCell ⟨b, 1, none⟩ y).frozen? ⟨c, o, none⟩ = z := by simp [go_sem, h]
theorem size_far {w : World} {b c : Nat} (x y : Value) (h : c < w.heap.size) : c < ((w.setCell ⟨b, 0, none⟩ x).setCell ⟨b, 1, none⟩ y).heap.size := by simpa [World.setCell] using h
/-- both values lie in blocks of the call's own -/
def Vy (a b : Int) (w : World) (va vb : Int × Int) (s5 s6 : Value) (W : World) : Prop :=
  ∃ gl gh, s5 = .pointer (some ⟨gl, 0, none⟩) ∧ s6 = .pointer (some ⟨gh, 0, none⟩) ∧ gl < W.heap.size ∧ gh < W.heap.size ∧ W.cell? ⟨gl, 0, none⟩ = some (.int .i64 va.1) ∧ W.cell? ⟨gl, 1, none⟩ = some (.int .i64 va.2) ∧
    W.cell? ⟨gh, 0, none⟩ = some (.int .i64 vb.1) ∧ W.cell? ⟨gh, 1, none⟩ = some (.int .i64 vb.2) ∧ W.cell? ⟨w.heap.size, 0, none⟩ = some (.int .i64 a) ∧ W.cell? ⟨w.heap.size, 1, none⟩ = some (.int .i64 b) ∧ Kp (w.heap.size + 1) w W
theorem vy_vx {a b : Int} {w W : World} {va vb : Int × Int} {s5 s6 : Value} (h : Vy a b w va vb s5 s6 W) (s : Int × Int) : Vx a b w s (.pointer (some ⟨W.heap.size, 0, none⟩)) (W.alloc (.cells #[.int .i64 s.1, .int .i64 s.2] 31)) := by
  obtain ⟨gl, gh, _, _, nl, nh, l0, l1, h0, h1, hS⟩ := h
  have hb := (Below.refl W.heap.size W).alloc (Nat.le_refl _) (.cells #[.int .i64 s.1, .int .i64 s.2] 31)
  obtain ⟨e0, e1, hk⟩ := keep2 hb (Nat.le_succ _) hS
  exact ⟨_, rfl, hS.2.2.2.1, by simp, cell_new _ _ _ 0, cell_new _ _ _ 1, by simp [go_sem], by simp [go_sem], e0, e1, hk⟩
theorem vy_vx' {a b : Int} {w W : World} {va vb : Int × Int} {s5 s6 : Value} (h : Vy a b w va vb s5 s6 W) (s : Int × Int) : ∃ gx, gx = W.heap.size ∧ Vx a b w s (.pointer (some ⟨gx, 0, none⟩)) (W.alloc (.cells #[.int .i64 s.1, .int .i64 s.2] 31)) :=
  ⟨_, rfl, vy_vx h s⟩
theorem vx_drewN {a b : Int} {w W : World} {s : Int × Int} {v : Value} (h : Vx a b w s v W) (n : Nat) : Vx a b w s v (W.drewN n) := by
  obtain ⟨gx, rfl, h1, h2, h3, h4, h5, h6, h7, h8, h9, h10, h11, h12, h13, h14⟩ := h
  exact ⟨gx, rfl, h1, h2, h3, h4, h5, h6, h7, h8, below_drewN h9 n, h10, h11, h12, h13, h14⟩
theorem vx_drew {a b : Int} {w W : World} {s : Int × Int} {v : Value} (h : Vx a b w s v W) : Vx a b w s v W.drew := by
  obtain ⟨gx, rfl, h1, h2, h3, h4, h5, h6, h7, h8, h9, h10, h11, h12, h13, h14⟩ := h
  exact ⟨gx, rfl, h1, h2, h3, h4, h5, h6, h7, h8, h9.drew, h10, h11, h12, h13, h14⟩
theorem vx_set {a b : Int} {w W : World} {s : Int × Int} {g : Nat} (h : Vx a b w s (.pointer (some ⟨g, 0, none⟩)) W) (q : Int × Int) : Vx a b w q (.pointer (some ⟨g, 0, none⟩)) ((W.setCell ⟨g, 0, none⟩ (.int .i64 q.1)).setCell ⟨g, 1, none⟩ (.int .i64 q.2)) := by
  obtain ⟨gx, hge, h1, h2, h3, h4, h5, h6, h7, h8, hk⟩ := h
  obtain rfl : g = gx := by injection hge with hge; injection hge with hge; injection hge
  obtain ⟨t0, t1⟩ := set2 (.int .i64 q.1) (.int .i64 q.2) h3 h4
  obtain ⟨e0, e1, hk'⟩ := keep2_far (u := .int .i64 q.1) (v := .int .i64 q.2) (by omega : w.heap.size < g) h1 (by omega) ⟨h7, h8, hk⟩
  exact ⟨g, rfl, h1, size_far _ _ h2, t0, t1, frozen_far _ _ h5, frozen_far _ _ h6, e0, e1, hk'⟩
theorem vrun_min2 {P : Program} (tys : Array TypeId) (ty : TypeId) (k : IntKind) (x y : Int) (w : World) : (Builtin.min_ tys ty #[.int k x, .int k y]).run P w = .ok (.int k (min x y)) w := by
  simp [Builtin.min_, Builtin.min2]
  split <;> omega
theorem vrun_max2 {P : Program} (tys : Array TypeId) (ty : TypeId) (k : IntKind) (x y : Int) (w : World) : (Builtin.max_ tys ty #[.int k x, .int k y]).run P w = .ok (.int k (max x y)) w := by
  simp [Builtin.max_, Builtin.max2]
  split <;> omega

open Go.RowKit Go.Lib Go.Shelf
set_option linter.unusedVariables false
set_option linter.unusedSimpArgs false
attribute [local go_sem ↓] Go.wp_at_zero Go.wp_at_succ

theorem yB_snoc (xs : List (Int × Int)) (p : Int × Int) : yB (xs ++ [p]) = (yB xs && inB 0 1000000 p.2) := by simp [yB, List.all_append]
theorem yB_no {xs : List (Int × Int)} {k : Nat} {p : Int × Int} (h : xs[k]? = some p) (hp : inB 0 1000000 p.2 = false) : yB xs = false := by
  rw [Bool.eq_false_iff]
  intro ha
  have := List.all_eq_true.1 ha p (List.mem_of_getElem? h)
  rw [hp] at this
  cases this
theorem yB_take {xs : List (Int × Int)} {k : Nat} {p : Int × Int} (h : xs[k]? = some p) (ho : yB (xs.take k) = true) : yB (xs.take (k + 1)) = inB 0 1000000 p.2 := by
  rw [List.take_add_one, h, show (some p).toList = [p] from rfl, yB_snoc, ho]; rfl

set_option maxRecDepth 20000 in
set_option maxHeartbeats 1000000 in
theorem rowIx_any (v : Value) (xs : List (Int × Int)) (w : World) (hl : xs.length ≤ 1000000) (hv : SetAt w.heap.size w v xs) :
    Calls Try.prog 79 #[v, .func (Fn.func 54) #[] #[]] w (IxPost (yB xs) w) := by
  have HE := enters_wrong
  obtain ⟨A, c, rfl, hr⟩ := hv
  have HN := Lib.hid (fun (k : Nat) (p : Int × Int) (h : xs[k]? = some p) hp => yB_no h hp)
  have HC := Lib.hid (fun (x y : Int) (W : World) => wrong_any x y W)
  obtain ⟨r, hrr⟩ : ∃ r, yB xs = r := ⟨_, rfl⟩
  rw [hrr] at HN ⊢
  have HB := Lib.hid hrr
  clear hrr
  obtain ⟨n, hn⟩ : ∃ n, xs.length = n := ⟨_, rfl⟩
  rw [hn] at hr hl ⊢
  have Hn := Lib.hid hn
  have HR := Lib.hid hr
  clear hr hn
  go_enter Try.func79, Try.ntmps79
  go_wp2_with fail
  go_loopw [8] (fun i wr => ∃ k : Nat, k ≤ n ∧ i = .int .i64 k ∧ Hid (yB (xs.take k) = true) ∧ Below w.heap.size w wr) (fun i _ => n - (RowKit.intOf i).toNat)
  case atStart => exact ⟨0, Nat.zero_le _, rfl, Lib.hid rfl, Below.refl _ _⟩
  case round =>
    obtain ⟨k, hk, rfl, ho, hbr⟩ := hrel
    by_cases hlt : (k : Int) < (n : Int)
    · obtain ⟨⟨x, y⟩, hp⟩ : ∃ p, xs[k]? = some p := ⟨_, List.getElem?_eq_getElem (by rw [Hn.out]; omega)⟩
      obtain ⟨g, off, rfl, hg, hc⟩ := HR.out (by omega)
      obtain ⟨q0, q1⟩ := hc k _ hp
      replace q0 := cell_next hbr hg q0
      replace q1 := cell_next hbr hg q1
      have hgw : g < wr.heap.size := by have := hbr.size; omega
      have HNk := Lib.hid (HN.out k _ hp)
      have hok : Hid (yB (xs.take (k + 1)) = inB 0 1000000 y) := Lib.hid (yB_take hp ho.out)
      have c1 := Lib.hid (HC.out x y wr)
      clear hc hp
      dsimp only at q0 q1 HNk
      generalize inB 0 1000000 y = b' at *
      cases b'
      · have E := Lib.hid (HNk.out rfl)
        go_wp2_with fail
        refine c1.out.mono ?_
        rintro e w1 ⟨rfl, hb⟩
        have hB := hbr.trans (hb.mono hbr.size)
        clear hb
        go_wp2_with fail
        go_ret
        exact ⟨_, rfl, by rw [E.out, if_neg (by simp)]; omega, hB⟩
      · go_wp2_with fail
        refine c1.out.mono ?_
        rintro e w1 ⟨rfl, hb⟩
        have hB := hbr.trans (hb.mono hbr.size)
        clear hb q0 q1 c1
        go_wp2_with fail
        go_roundw
        case rel => exact ⟨k + 1, by omega, by go_num, hok, hB⟩
        case measure => simp [RowKit.intOf]; omega
    · obtain rfl : k = n := by omega
      have E : Hid (r = true) := Lib.hid (HB.out.symm.trans (by have h := ho.out; rwa [List.take_of_length_le (by rw [Hn.out]; exact Nat.le_refl _)] at h))
      go_wp2_with fail
      go_ret
      exact ⟨_, rfl, by rw [E.out, if_pos rfl], hbr⟩

set_option maxHeartbeats 400000 in
theorem rowsWrong_any (v : Value) (xs : List (Int × Int)) (w : World) (hl : xs.length ≤ 1000000) (hv : SetAt w.heap.size w v xs) :
    Calls Try.prog 55 #[v, .func (Fn.func 54) #[] #[]] w fun e w' => e = .returned (.bool (!yB xs)) ∧ Below w.heap.size w w' := by
  have c1 := Lib.hid (rowIx_any v xs w hl hv)
  clear hv
  generalize yB xs = r at *
  go_enter Try.func55, Try.ntmps55
  go_wp2_with fail
  refine c1.out.mono ?_
  rintro e w1 ⟨i, rfl, hi, hb⟩
  cases r
  · obtain ⟨h1, h2⟩ : 0 ≤ i ∧ i ≤ 9000000000000000000 := by simpa using hi
    clear hi
    go_wp2_with fail
    go_ret
    exact ⟨by simp [*], hb⟩
  · obtain rfl : i = -1 := by simpa using hi
    go_wp2_with fail
    go_ret
    exact ⟨by simp, hb⟩

set_option maxRecDepth 20000 in
set_option maxHeartbeats 4000000 in
theorem validRules_any (v : Value) (xs : List (Int × Int)) (lim fl fh : Int) (w : World) (hl : xs.length ≤ 1000000) (hv : SetAt w.heap.size w v xs) :
    Calls Try.prog 23 #[.agg #[v, .int .i64 lim, .int .i64 fl, .int .i64 fh]] w fun e w' => e = .returned (.bool (ruB xs lim fl fh)) ∧ Below w.heap.size w w' := by
  have CT := Lib.hid (fun (W : World) (h : Below w.heap.size w W) => checkTable_any v xs W ((hv.below h (Nat.le_refl _)).mono h.size))
  have CF := Lib.hid (fun (W : World) (h : Below w.heap.size w W) => rowsWrong_any v xs W hl ((hv.below h (Nat.le_refl _)).mono h.size))
  have CI := Lib.hid (fun (W : World) (g cp : Nat) => in1v_any 1 1000000 lim g cp W)
  have CR := Lib.hid (fun (W : World) => rangeIn_any 0 1000000 fl fh W)
  have hr : Hid (ruB xs lim fl fh = (decide (tabE xs = 0) && yB xs && inB 1 1000000 lim && rgB 0 1000000 fl fh)) := Lib.hid rfl
  generalize ruB xs lim fl fh = r at *
  obtain ⟨A, c, rfl, h⟩ := hv
  clear h
  generalize xs.length = n at *
  generalize tabE xs = T at *
  generalize yB xs = y at *
  generalize inB 1 1000000 lim = p at *
  generalize rgB 0 1000000 fl fh = q at *
  obtain ⟨u, hu⟩ : ∃ u, decide (T = 0) = u := ⟨_, rfl⟩
  rw [hu] at hr
  have hu2 : (T == 0) = u := by rw [← hu]; rfl
  go_enter Try.func23, Try.ntmps23
  go_wp2_with fail
  have hb : Below w.heap.size w (w.alloc (Obj.cells #[.slice A n c, .int .i64 lim, .int .i64 fl, .int .i64 fh] 33)) := ((Below.refl _ _).alloc (Nat.le_refl _) _)
  have b0 : (w.alloc (Obj.cells #[.slice A n c, .int .i64 lim, .int .i64 fl, .int .i64 fh] 33)).cell? ⟨w.heap.size, 0, none⟩ = some (.slice A n c) := by simp [go_sem]
  have b1 : (w.alloc (Obj.cells #[.slice A n c, .int .i64 lim, .int .i64 fl, .int .i64 fh] 33)).cell? ⟨w.heap.size, 1, none⟩ = some (.int .i64 lim) := by simp [go_sem]
  have b2 : (w.alloc (Obj.cells #[.slice A n c, .int .i64 lim, .int .i64 fl, .int .i64 fh] 33)).cell? ⟨w.heap.size, 2, none⟩ = some (.int .i64 fl) := by simp [go_sem]
  have b3 : (w.alloc (Obj.cells #[.slice A n c, .int .i64 lim, .int .i64 fl, .int .i64 fh] 33)).cell? ⟨w.heap.size, 3, none⟩ = some (.int .i64 fh) := by simp [go_sem]
  have nb : w.heap.size < (w.alloc (Obj.cells #[.slice A n c, .int .i64 lim, .int .i64 fl, .int .i64 fh] 33)).heap.size := by simp <;> omega
  have hB := hb
  clear hb
  generalize (w.alloc (Obj.cells #[.slice A n c, .int .i64 lim, .int .i64 fl, .int .i64 fh] 33)) = W1 at *
  go_wp2_with fail
  refine (CT.out _ hB).mono ?_
  rintro e W2 ⟨rfl, hb⟩
  replace b0 := cell_next hb nb b0
  replace b1 := cell_next hb nb b1
  replace b2 := cell_next hb nb b2
  replace b3 := cell_next hb nb b3
  replace nb := Nat.lt_of_lt_of_le nb hb.size
  replace hB := hB.trans (hb.mono hB.size)
  clear hb
  cases u
  · go_wp2_with fail
    go_ret
    exact ⟨by rw [hr.out]; simp, hB⟩
  · go_wp2_with fail
    refine (CF.out _ hB).mono ?_
    rintro e W3 ⟨rfl, hb⟩
    replace b0 := cell_next hb nb b0
    replace b1 := cell_next hb nb b1
    replace b2 := cell_next hb nb b2
    replace b3 := cell_next hb nb b3
    replace nb := Nat.lt_of_lt_of_le nb hb.size
    replace hB := hB.trans (hb.mono hB.size)
    clear hb
    cases y
    · go_wp2_with fail
      go_ret
      exact ⟨by rw [hr.out]; simp, hB⟩
    · go_wp2_with fail
      refine (CI.out _ _ _ (by simp) (by simp [go_sem, *])).mono ?_
      rintro e W4 ⟨rfl, hb⟩
      replace b0 := cell_next (below1 hb) nb b0
      replace b1 := cell_next (below1 hb) nb b1
      replace b2 := cell_next (below1 hb) nb b2
      replace b3 := cell_next (below1 hb) nb b3
      replace nb := Nat.lt_of_lt_of_le nb (below1 hb).size
      replace hB := hB.trans ((below1 hb).mono hB.size)
      clear hb
      generalize W3.heap.size = q4 at *
      cases p
      · go_wp2_with fail
        go_ret
        exact ⟨by rw [hr.out]; simp, hB⟩
      · go_wp2_with fail
        refine (CR.out _).mono ?_
        rintro e W5 ⟨rfl, hb⟩
        replace b0 := cell_next hb nb b0
        replace b1 := cell_next hb nb b1
        replace b2 := cell_next hb nb b2
        replace b3 := cell_next hb nb b3
        replace nb := Nat.lt_of_lt_of_le nb hb.size
        replace hB := hB.trans (hb.mono hB.size)
        clear hb
        go_wp2_with fail
        go_ret
        exact ⟨by rw [hr.out]; simp, hB⟩

def gV (x y e : Int) : Value := .tuple #[.agg #[.int .i64 x, .int .i64 y], .int .i64 e]
end Go.Proofs.Ytfdaiififoomoaa
