/- Contracts: U38, U39, U40, W25, joined. -/
import Derived.Test.YtdlmkjllcejoaaaU31
import Derived.Test.YtdlmkjllcejoaaaC32
import Derived.Test.YtdlmkjllcejoaaaJ8
import Derived.Test.YtdlmkjllcejoaaaRI
import Derived.Test.YtdlmkjllcejoaaaJ19
import Derived.Test.YtdlmkjllcejoaaaU25
namespace Go.Proofs.Ytdlmkjllcejoaaa
set_option linter.unusedVariables false

def yB (xs : List (Int × Int)) : Bool := xs.all fun p => inB 0 1000000 p.2
theorem yB_mem {xs : List (Int × Int)} (h : yB xs = true) {p : Int × Int} (hp : p ∈ xs) : 0 ≤ p.2 ∧ p.2 ≤ 1000000 := by
  have := List.all_eq_true.1 h p hp
  simpa [inB] using this
/-- rules are valid -/
def ruB (xs : List (Int × Int)) (lim fl fh : Int) : Bool := decide (tabE xs = 0) && yB xs && inB 1 1000000 lim && rgB 0 1000000 fl fh

theorem frac_bd {d x c : Int} (hc : 0 < c) (hx0 : 0 ≤ x) (hx : x ≤ c) (hd : 0 ≤ d) : 0 ≤ d * x / c ∧ d * x / c ≤ d ∧ -d ≤ -(d * x) / c ∧ -(d * x) / c ≤ 0 := by
  have h0 : 0 ≤ d * x := Int.mul_nonneg hd hx0
  have h1 : d * x ≤ d * c := Int.mul_le_mul_of_nonneg_left hx hd
  refine ⟨Int.ediv_nonneg h0 (by omega), ?_, ?_, ?_⟩
  · exact Int.ediv_le_of_le_mul hc h1
  · refine (Int.le_ediv_iff_mul_le hc).2 ?_
    rw [Int.neg_mul]
    omega
  · exact Int.ediv_le_of_le_mul hc (by omega)
theorem segV_bd {p q : Int × Int} (hw : p.1 < q.1) {x : Int} (h1 : p.1 ≤ x) (h2 : x ≤ q.1) (hp : 0 ≤ p.2 ∧ p.2 ≤ 1000000) (hq : 0 ≤ q.2 ∧ q.2 ≤ 1000000) : (0 ≤ (segV p q x).1 ∧ (segV p q x).1 ≤ 1000000) ∧ 0 ≤ (segV p q x).2 ∧ (segV p q x).2 ≤ 1000000 := by
  unfold segV
  dsimp only
  rcases Int.le_total p.2 q.2 with h | h
  · have := frac_bd (d := q.2 - p.2) (x := x - p.1) (c := q.1 - p.1) (by omega) (by omega) (by omega) (by omega)
    omega
  · have := frac_bd (d := p.2 - q.2) (x := x - p.1) (c := q.1 - p.1) (by omega) (by omega) (by omega) (by omega)
    have e1 : (q.2 - p.2) * (x - p.1) = -((p.2 - q.2) * (x - p.1)) := by rw [← Int.neg_mul]; congr 1; omega
    rw [e1, Int.neg_neg]
    omega
theorem valV_in {xs : List (Int × Int)} (ht : TabOk xs) (hy : yB xs = true) {x : Int} (hc : covB xs x = true) : (0 ≤ (valV xs x).1 ∧ (valV xs x).1 ≤ 1000000) ∧ 0 ≤ (valV xs x).2 ∧ (valV xs x).2 ≤ 1000000 := by
  obtain ⟨k, p, q, hp, hq, h1, h2, _⟩ := seg_first ht hc
  rw [valV_is ht ⟨k, p, q, hp, hq, h1, h2, rfl⟩]
  exact segV_bd (ht.2.2.2 k (k + 1) p q (by omega) hp hq) h1 h2 (yB_mem hy (List.mem_of_getElem? hp)) (yB_mem hy (List.mem_of_getElem? hq))
theorem vsJ_bd (a b : Int) : ∀ (l : List (Int × Int)) (s : Int × Int), (∀ p ∈ l, 0 ≤ p.2 ∧ p.2 ≤ 1000000) → ((0 ≤ s.1 ∧ s.1 ≤ 1000000) ∧ 0 ≤ s.2 ∧ s.2 ≤ 1000000) → ((0 ≤ (l.foldl (vsJ a b) s).1 ∧ (l.foldl (vsJ a b) s).1 ≤ 1000000) ∧ 0 ≤ (l.foldl (vsJ a b) s).2 ∧ (l.foldl (vsJ a b) s).2 ≤ 1000000)
  | [], s, _, h => h
  | p :: l, s, hl, h => by
    refine vsJ_bd a b l _ (fun q hq => hl q (List.mem_cons_of_mem _ hq)) ?_
    have := hl p (List.mem_cons_self ..)
    unfold vsJ
    split
    · dsimp only; omega
    · exact h
theorem vlR_bd {xs : List (Int × Int)} (ht : tabE xs = 0) (hy : yB xs = true) (a b : Int) : (0 ≤ (vlR xs a b).1 ∧ (vlR xs a b).1 ≤ 1000000) ∧ 0 ≤ (vlR xs a b).2 ∧ (vlR xs a b).2 ≤ 1000000 := by
  unfold vlR
  by_cases h : vlE xs a b = 0
  · rw [if_pos h]
    unfold vlE at h
    rw [if_pos ht] at h
    by_cases h1 : vrB a b = true
    · rw [if_pos h1] at h
      by_cases h2 : covB xs a = true ∧ covB xs b = true
      · have hT := tabOk_of ht
        have ha := valV_in hT hy h2.1
        have hb := valV_in hT hy h2.2
        refine vsJ_bd a b xs _ (fun p hp => yB_mem hy hp) ?_
        unfold vs0
        dsimp only
        omega
      · rw [if_neg h2] at h; cases h
    · rw [if_neg h1] at h; cases h
  · rw [if_neg h]
    simp

/-- the load behind k hours -/
noncomputable def kL (xs l : List (Int × Int)) (s : Int × Int) : Nat → Int × Int
  | 0 => s
  | k + 1 => let p := l.getD k (0, 0); (min 1000000 ((kL xs l s k).1 + 1 * (vlR xs p.1 p.2).1), min 1000000 ((kL xs l s k).2 + 1 * (vlR xs p.1 p.2).2))
theorem kL_bd {xs l : List (Int × Int)} (ht : tabE xs = 0) (hy : yB xs = true) {s : Int × Int} (hs : (0 ≤ s.1 ∧ s.1 ≤ 1000000) ∧ 0 ≤ s.2 ∧ s.2 ≤ 1000000) : ∀ k, (0 ≤ (kL xs l s k).1 ∧ (kL xs l s k).1 ≤ 1000000) ∧ 0 ≤ (kL xs l s k).2 ∧ (kL xs l s k).2 ≤ 1000000
  | 0 => hs
  | k + 1 => by
    have h := kL_bd ht hy hs (l := l) k
    have h' := vlR_bd ht hy (l.getD k (0, 0)).1 (l.getD k (0, 0)).2
    unfold kL
    dsimp only
    omega
/-- the error of hour k -/
def kE (xs l : List (Int × Int)) (k : Nat) : Int := let p := l.getD k (0, 0); vlE xs p.1 p.2
/-- what Keeps answers -/
noncomputable def kpV (xs : List (Int × Int)) (lim fl fh lo hi : Int) (l : List (Int × Int)) : Int × Int × Int :=
  if (ruB xs lim fl fh && rgB 0 1000000 lo hi) = true then
    (if 1000 < l.length then (0, 0, 5) else
      (if fstI (fun k => !decide (kE xs l k = 0)) l.length < 0 then (fstI (fun k => decide (lim ≤ (kL xs l (lo, hi) (k + 1)).2)) l.length, fstI (fun k => decide (lim ≤ (kL xs l (lo, hi) (k + 1)).1)) l.length, 0)
        else (0, 0, kE xs l (fstI (fun k => !decide (kE xs l k = 0)) l.length).toNat)))
  else (0, 0, 2)
theorem fstI_succ (f : Nat → Bool) (n : Nat) : fstI f (n + 1) = if 0 ≤ fstI f n then fstI f n else if f n = true then (n : Int) else -1 := rfl
theorem fstI_keep {f : Nat → Bool} {n : Nat} (h : 0 ≤ fstI f n) : fstI f (n + 1) = fstI f n := by rw [fstI_succ, if_pos h]
theorem fstI_hit {f : Nat → Bool} {n : Nat} (h : fstI f n < 0) (hf : f n = true) : fstI f (n + 1) = n := by rw [fstI_succ, if_neg (by omega), if_pos hf]
theorem fstI_miss {f : Nat → Bool} {n : Nat} (h : fstI f n < 0) (hf : f n = false) : fstI f (n + 1) = fstI f n := by
  rw [fstI_succ, if_neg (by omega), if_neg (by rw [hf]; simp)]
  have := (fstI_rng f n).1
  omega

open Go.RowKit Go.Lib Go.Shelf
set_option linter.unusedVariables false
set_option linter.unusedSimpArgs false
attribute [local go_sem ↓] Go.wp_at_zero Go.wp_at_succ

theorem yB_snoc (xs : List (Int × Int)) (p : Int × Int) : yB (xs ++ [p]) = (yB xs && inB 0 1000000 p.2) := by simp [yB, List.all_append]
theorem yB_no {xs : List (Int × Int)} {k : Nat} {p : Int × Int} (h : xs[k]? = some p) (hp : inB 0 1000000 p.2 = false) : yB xs = false := by
  rw [Bool.eq_false_iff]
  intro ha
  have := List.all_eq_true.1 ha p (List.mem_of_getElem? h)
  rw [hp] at this
  cases this
theorem yB_take {xs : List (Int × Int)} {k : Nat} {p : Int × Int} (h : xs[k]? = some p) (ho : yB (xs.take k) = true) : yB (xs.take (k + 1)) = inB 0 1000000 p.2 := by
  rw [List.take_add_one, h, show (some p).toList = [p] from rfl, yB_snoc, ho]; rfl

set_option maxRecDepth 20000 in
set_option maxHeartbeats 1000000 in
theorem rowIx_any (v : Value) (xs : List (Int × Int)) (w : World) (hl : xs.length ≤ 1000000) (hv : SetAt w.heap.size w v xs) :
    Calls Try.prog 149 #[v, .func (Fn.func 103) #[] #[]] w (IxPost (yB xs) w) := by
  have HE := enters_wrong
  obtain ⟨A, c, rfl, hr⟩ := hv
  have HN := Lib.hid (fun (k : Nat) (p : Int × Int) (h : xs[k]? = some p) hp => yB_no h hp)
  have HC := Lib.hid (fun (x y : Int) (W : World) => wrong_any x y W)
  obtain ⟨r, hrr⟩ : ∃ r, yB xs = r := ⟨_, rfl⟩
  rw [hrr] at HN ⊢
  have HB := Lib.hid hrr
  clear hrr
  obtain ⟨n, hn⟩ : ∃ n, xs.length = n := ⟨_, rfl⟩
  rw [hn] at hr hl ⊢
  have Hn := Lib.hid hn
  have HR := Lib.hid hr
  clear hr hn
  go_enter Try.func149, Try.ntmps149
  go_wp2_with fail
  go_loopw [8] (fun i wr => ∃ k : Nat, k ≤ n ∧ i = .int .i64 k ∧ Hid (yB (xs.take k) = true) ∧ Below w.heap.size w wr) (fun i _ => n - (RowKit.intOf i).toNat)
  case atStart => exact ⟨0, Nat.zero_le _, rfl, Lib.hid rfl, Below.refl _ _⟩
  case round =>
    obtain ⟨k, hk, rfl, ho, hbr⟩ := hrel
    by_cases hlt : (k : Int) < (n : Int)
    · obtain ⟨⟨x, y⟩, hp⟩ : ∃ p, xs[k]? = some p := ⟨_, List.getElem?_eq_getElem (by rw [Hn.out]; omega)⟩
      obtain ⟨g, off, rfl, hg, hc⟩ := HR.out (by omega)
      obtain ⟨q0, q1⟩ := hc k _ hp
      replace q0 := cell_next hbr hg q0
      replace q1 := cell_next hbr hg q1
      have hgw : g < wr.heap.size := by have := hbr.size; omega
      have HNk := Lib.hid (HN.out k _ hp)
      have hok : Hid (yB (xs.take (k + 1)) = inB 0 1000000 y) := Lib.hid (yB_take hp ho.out)
      have c1 := Lib.hid (HC.out x y wr)
      clear hc hp
      dsimp only at q0 q1 HNk
      generalize inB 0 1000000 y = b' at *
      cases b'
      · have E := Lib.hid (HNk.out rfl)
        go_wp2_with fail
        refine c1.out.mono ?_
        rintro e w1 ⟨rfl, hb⟩
        have hB := hbr.trans (hb.mono hbr.size)
        clear hb
        go_wp2_with fail
        go_ret
        exact ⟨_, rfl, by rw [E.out, if_neg (by simp)]; omega, hB⟩
      · go_wp2_with fail
        refine c1.out.mono ?_
        rintro e w1 ⟨rfl, hb⟩
        have hB := hbr.trans (hb.mono hbr.size)
        clear hb q0 q1 c1
        go_wp2_with fail
        go_roundw
        case rel => exact ⟨k + 1, by omega, by go_num, hok, hB⟩
        case measure => simp [RowKit.intOf]; omega
    · obtain rfl : k = n := by omega
      have E : Hid (r = true) := Lib.hid (HB.out.symm.trans (by have h := ho.out; rwa [List.take_of_length_le (by rw [Hn.out]; exact Nat.le_refl _)] at h))
      go_wp2_with fail
      go_ret
      exact ⟨_, rfl, by rw [E.out, if_pos rfl], hbr⟩

set_option maxHeartbeats 400000 in
theorem rowsWrong_any (v : Value) (xs : List (Int × Int)) (w : World) (hl : xs.length ≤ 1000000) (hv : SetAt w.heap.size w v xs) :
    Calls Try.prog 105 #[v, .func (Fn.func 103) #[] #[]] w fun e w' => e = .returned (.bool (!yB xs)) ∧ Below w.heap.size w w' := by
  have c1 := Lib.hid (rowIx_any v xs w hl hv)
  clear hv
  generalize yB xs = r at *
  go_enter Try.func105, Try.ntmps105
  go_wp2_with fail
  refine c1.out.mono ?_
  rintro e w1 ⟨i, rfl, hi, hb⟩
  cases r
  · obtain ⟨h1, h2⟩ : 0 ≤ i ∧ i ≤ 9000000000000000000 := by simpa using hi
    clear hi
    go_wp2_with fail
    go_ret
    exact ⟨by simp [*], hb⟩
  · obtain rfl : i = -1 := by simpa using hi
    go_wp2_with fail
    go_ret
    exact ⟨by simp, hb⟩

set_option maxRecDepth 20000 in
set_option maxHeartbeats 4000000 in
theorem validRules_any (v : Value) (xs : List (Int × Int)) (lim fl fh : Int) (w : World) (hl : xs.length ≤ 1000000) (hv : SetAt w.heap.size w v xs) :
    Calls Try.prog 40 #[.agg #[v, .int .i64 lim, .int .i64 fl, .int .i64 fh]] w fun e w' => e = .returned (.bool (ruB xs lim fl fh)) ∧ Below w.heap.size w w' := by
  have CT := Lib.hid (fun (W : World) (h : Below w.heap.size w W) => checkTable_any v xs W ((hv.below h (Nat.le_refl _)).mono h.size))
  have CF := Lib.hid (fun (W : World) (h : Below w.heap.size w W) => rowsWrong_any v xs W hl ((hv.below h (Nat.le_refl _)).mono h.size))
  have CI := Lib.hid (fun (W : World) (g cp : Nat) => in1v_any 1 1000000 lim g cp W)
  have CR := Lib.hid (fun (W : World) => rangeIn_any 0 1000000 fl fh W)
  have hr : Hid (ruB xs lim fl fh = (decide (tabE xs = 0) && yB xs && inB 1 1000000 lim && rgB 0 1000000 fl fh)) := Lib.hid rfl
  generalize ruB xs lim fl fh = r at *
  obtain ⟨A, c, rfl, h⟩ := hv
  clear h
  generalize xs.length = n at *
  generalize tabE xs = T at *
  generalize yB xs = y at *
  generalize inB 1 1000000 lim = p at *
  generalize rgB 0 1000000 fl fh = q at *
  obtain ⟨u, hu⟩ : ∃ u, decide (T = 0) = u := ⟨_, rfl⟩
  rw [hu] at hr
  have hu2 : (T == 0) = u := by rw [← hu]; rfl
  go_enter Try.func40, Try.ntmps40
  go_wp2_with fail
  have hb : Below w.heap.size w (w.alloc (Obj.cells #[.slice A n c, .int .i64 lim, .int .i64 fl, .int .i64 fh] 26)) := ((Below.refl _ _).alloc (Nat.le_refl _) _)
  have b0 : (w.alloc (Obj.cells #[.slice A n c, .int .i64 lim, .int .i64 fl, .int .i64 fh] 26)).cell? ⟨w.heap.size, 0, none⟩ = some (.slice A n c) := by simp [go_sem]
  have b1 : (w.alloc (Obj.cells #[.slice A n c, .int .i64 lim, .int .i64 fl, .int .i64 fh] 26)).cell? ⟨w.heap.size, 1, none⟩ = some (.int .i64 lim) := by simp [go_sem]
  have b2 : (w.alloc (Obj.cells #[.slice A n c, .int .i64 lim, .int .i64 fl, .int .i64 fh] 26)).cell? ⟨w.heap.size, 2, none⟩ = some (.int .i64 fl) := by simp [go_sem]
  have b3 : (w.alloc (Obj.cells #[.slice A n c, .int .i64 lim, .int .i64 fl, .int .i64 fh] 26)).cell? ⟨w.heap.size, 3, none⟩ = some (.int .i64 fh) := by simp [go_sem]
  have nb : w.heap.size < (w.alloc (Obj.cells #[.slice A n c, .int .i64 lim, .int .i64 fl, .int .i64 fh] 26)).heap.size := by simp <;> omega
  have hB := hb
  clear hb
  generalize (w.alloc (Obj.cells #[.slice A n c, .int .i64 lim, .int .i64 fl, .int .i64 fh] 26)) = W1 at *
  go_wp2_with fail
  refine (CT.out _ hB).mono ?_
  rintro e W2 ⟨rfl, hb⟩
  replace b0 := cell_next hb nb b0
  replace b1 := cell_next hb nb b1
  replace b2 := cell_next hb nb b2
  replace b3 := cell_next hb nb b3
  replace nb := Nat.lt_of_lt_of_le nb hb.size
  replace hB := hB.trans (hb.mono hB.size)
  clear hb
  cases u
  · go_wp2_with fail
    go_ret
    exact ⟨by rw [hr.out]; simp, hB⟩
  · go_wp2_with fail
    refine (CF.out _ hB).mono ?_
    rintro e W3 ⟨rfl, hb⟩
    replace b0 := cell_next hb nb b0
    replace b1 := cell_next hb nb b1
    replace b2 := cell_next hb nb b2
    replace b3 := cell_next hb nb b3
    replace nb := Nat.lt_of_lt_of_le nb hb.size
    replace hB := hB.trans (hb.mono hB.size)
    clear hb
    cases y
    · go_wp2_with fail
      go_ret
      exact ⟨by rw [hr.out]; simp, hB⟩
    · go_wp2_with fail
      refine (CI.out _ _ _ (by simp) (by simp [go_sem, *])).mono ?_
      rintro e W4 ⟨rfl, hb⟩
      replace b0 := cell_next (below1 hb) nb b0
      replace b1 := cell_next (below1 hb) nb b1
      replace b2 := cell_next (below1 hb) nb b2
      replace b3 := cell_next (below1 hb) nb b3
      replace nb := Nat.lt_of_lt_of_le nb (below1 hb).size
      replace hB := hB.trans ((below1 hb).mono hB.size)
      clear hb
      generalize W3.heap.size = q4 at *
      cases p
      · go_wp2_with fail
        go_ret
        exact ⟨by rw [hr.out]; simp, hB⟩
      · go_wp2_with fail
        refine (CR.out _).mono ?_
        rintro e W5 ⟨rfl, hb⟩
        replace b0 := cell_next hb nb b0
        replace b1 := cell_next hb nb b1
        replace b2 := cell_next hb nb b2
        replace b3 := cell_next hb nb b3
        replace nb := Nat.lt_of_lt_of_le nb hb.size
        replace hB := hB.trans (hb.mono hB.size)
        clear hb
        go_wp2_with fail
        go_ret
        exact ⟨by rw [hr.out]; simp, hB⟩

set_option maxRecDepth 20000 in
set_option maxHeartbeats 4000000 in
theorem rLoad_any (x y : Int) (w : World) : Calls Try.prog 45 #[.agg #[.int .i64 x, .int .i64 y]] w fun e w' => e = .returned (.bool (rgB 0 1000000 x y)) ∧ Below w.heap.size w w' := by
  have c1 := Lib.hid (rIn_any x 0 1000000)
  have c2 := Lib.hid (rIn_any y x 1000000)
  have hr : Hid (rgB 0 1000000 x y = ((decide (0 ≤ x) && decide (x ≤ 1000000)) && (decide (x ≤ y) && decide (y ≤ 1000000)))) := Lib.hid (by rw [Bool.eq_iff_iff]; simp [rgB, inB]; omega)
  generalize rgB 0 1000000 x y = r at *
  generalize (decide (0 ≤ x) && decide (x ≤ 1000000)) = p at *
  generalize (decide (x ≤ y) && decide (y ≤ 1000000)) = q at *
  go_enter Try.func45, Try.ntmps45
  go_wp2_with fail
  have hb : Below w.heap.size w (w.alloc (Obj.cells #[.int .i64 x, .int .i64 y] 24)) := ((Below.refl _ _).alloc (Nat.le_refl _) _)
  have b0 : (w.alloc (Obj.cells #[.int .i64 x, .int .i64 y] 24)).cell? ⟨w.heap.size, 0, none⟩ = some (.int .i64 x) := by simp [go_sem]
  have b1 : (w.alloc (Obj.cells #[.int .i64 x, .int .i64 y] 24)).cell? ⟨w.heap.size, 1, none⟩ = some (.int .i64 y) := by simp [go_sem]
  have nb : w.heap.size < (w.alloc (Obj.cells #[.int .i64 x, .int .i64 y] 24)).heap.size := by simp <;> omega
  have hB := hb
  clear hb
  generalize (w.alloc (Obj.cells #[.int .i64 x, .int .i64 y] 24)) = W1 at *
  go_wp2_with fail
  refine (c1.out _).mono ?_
  rintro e w' ⟨rfl, rfl⟩
  cases p
  · go_wp2_with fail
    go_ret
    exact ⟨by rw [hr.out]; simp, hB⟩
  · go_wp2_with fail
    refine (c2.out _).mono ?_
    rintro e w' ⟨rfl, rfl⟩
    go_wp2_with fail
    go_ret
    exact ⟨by rw [hr.out]; simp, hB⟩

set_option maxRecDepth 20000 in
set_option maxHeartbeats 1000000 in
theorem rGrown_any (a b c d n : Int) (ha : 0 ≤ a ∧ a ≤ 1000000) (hb : 0 ≤ b ∧ b ≤ 1000000) (hc : 0 ≤ c ∧ c ≤ 1000000000) (hd : 0 ≤ d ∧ d ≤ 1000000000) (hn : 0 ≤ n ∧ n ≤ 1000000) (w : World) :
    Calls Try.prog 47 #[.agg #[.int .i64 a, .int .i64 b], .agg #[.int .i64 c, .int .i64 d], .int .i64 n] w fun e w' => e = .returned (.agg #[.int .i64 (min 1000000 (a + n * c)), .int .i64 (min 1000000 (b + n * d))]) ∧ Below w.heap.size w w' := by
  have rmin := @umin2 Try.prog
  have p1 : 0 ≤ n * c := Int.mul_nonneg hn.1 hc.1
  have p2 : 0 ≤ n * d := Int.mul_nonneg hn.1 hd.1
  have p3 : n * c ≤ 1000000 * 1000000000 := Int.mul_le_mul hn.2 hc.2 hc.1 (by omega)
  have p4 : n * d ≤ 1000000 * 1000000000 := Int.mul_le_mul hn.2 hd.2 hd.1 (by omega)
  have w1 : IntKind.i64.wrap (n * c) = n * c := IntWalk.i64_in _ (by omega)
  have w2 : IntKind.i64.wrap (n * d) = n * d := IntWalk.i64_in _ (by omega)
  have w3 : IntKind.i64.wrap (a + n * c) = a + n * c := IntWalk.i64_in _ (by omega)
  have w4 : IntKind.i64.wrap (b + n * d) = b + n * d := IntWalk.i64_in _ (by omega)
  clear p1 p2 p3 p4 ha hb hc hd hn
  go_enter Try.func47, Try.ntmps47
  go_wp2
  refine bodyPost_ret (v := .agg #[.int .i64 (min 1000000 (a + n * c)), .int .i64 (min 1000000 (b + n * d))]) (by simp [results, Try.results47, go_sem]) rfl ⟨rfl, ?_⟩
  exact (below_al2 w _ _).trans (((Below.refl _ _).alloc (Nat.le_refl _) _).mono (by simp; omega))


set_option maxRecDepth 20000 in
set_option maxHeartbeats 4000000 in
theorem rRules_any (v : Value) (xs : List (Int × Int)) (lim fl fh : Int) (w : World) (hl : xs.length ≤ 1000000) (hv : SetAt w.heap.size w v xs) :
    Calls Try.prog 44 #[.agg #[v, .int .i64 lim, .int .i64 fl, .int .i64 fh]] w fun e w' => e = .returned (.bool (ruB xs lim fl fh)) ∧ Below w.heap.size w w' := by
  have CT := Lib.hid (fun (W : World) (h : Below w.heap.size w W) => rTable_any v xs hl W ((hv.below h (Nat.le_refl _)).mono h.size))
  have CI := Lib.hid (rIn_any lim 1 1000000)
  have CR := Lib.hid (rLoad_any fl fh)
  have CY := Lib.hid (fun y => rIn_any y 0 1000000)
  have hr : Hid (ruB xs lim fl fh = (decide (tabE xs = 0) && yB xs && inB 1 1000000 lim && rgB 0 1000000 fl fh)) := Lib.hid rfl
  generalize ruB xs lim fl fh = r at *
  obtain ⟨A, c, rfl, h⟩ := hv
  have HN := Lib.hid (fun (k : Nat) (p : Int × Int) (h : xs[k]? = some p) hp => yB_no h hp)
  obtain ⟨y, hy⟩ : ∃ y, yB xs = y := ⟨_, rfl⟩
  rw [hy] at HN hr
  have HB := Lib.hid hy
  clear hy
  obtain ⟨n, hn⟩ : ∃ n, xs.length = n := ⟨_, rfl⟩
  rw [hn] at h hl CT ⊢
  have Hn := Lib.hid hn
  have HR := Lib.hid h
  clear h hn
  rw [show inB 1 1000000 lim = (decide (1 ≤ lim) && decide (lim ≤ 1000000)) from rfl] at hr
  generalize decide (tabE xs = 0) = u at *
  generalize (decide (1 ≤ lim) && decide (lim ≤ 1000000)) = p at *
  generalize rgB 0 1000000 fl fh = q at *
  go_enter Try.func44, Try.ntmps44
  go_wp2_with fail
  have hb : Below w.heap.size w (w.alloc (Obj.cells #[.slice A n c, .int .i64 lim, .int .i64 fl, .int .i64 fh] 26)) := ((Below.refl _ _).alloc (Nat.le_refl _) _)
  have b0 : (w.alloc (Obj.cells #[.slice A n c, .int .i64 lim, .int .i64 fl, .int .i64 fh] 26)).cell? ⟨w.heap.size, 0, none⟩ = some (.slice A n c) := by simp [go_sem]
  have b1 : (w.alloc (Obj.cells #[.slice A n c, .int .i64 lim, .int .i64 fl, .int .i64 fh] 26)).cell? ⟨w.heap.size, 1, none⟩ = some (.int .i64 lim) := by simp [go_sem]
  have b2 : (w.alloc (Obj.cells #[.slice A n c, .int .i64 lim, .int .i64 fl, .int .i64 fh] 26)).cell? ⟨w.heap.size, 2, none⟩ = some (.int .i64 fl) := by simp [go_sem]
  have b3 : (w.alloc (Obj.cells #[.slice A n c, .int .i64 lim, .int .i64 fl, .int .i64 fh] 26)).cell? ⟨w.heap.size, 3, none⟩ = some (.int .i64 fh) := by simp [go_sem]
  have nb : w.heap.size < (w.alloc (Obj.cells #[.slice A n c, .int .i64 lim, .int .i64 fl, .int .i64 fh] 26)).heap.size := by simp <;> omega
  have hB := hb
  clear hb
  generalize (w.alloc (Obj.cells #[.slice A n c, .int .i64 lim, .int .i64 fl, .int .i64 fh] 26)) = W1 at *
  go_wp2_with fail
  refine (CT.out _ hB).mono ?_
  rintro e W2 ⟨rfl, hb⟩
  replace b0 := cell_next hb nb b0
  replace b1 := cell_next hb nb b1
  replace b2 := cell_next hb nb b2
  replace b3 := cell_next hb nb b3
  replace nb := Nat.lt_of_lt_of_le nb hb.size
  replace hB := hB.trans (hb.mono hB.size)
  clear hb
  cases u
  · go_wp2_with fail
    go_ret
    exact ⟨by rw [hr.out]; simp, hB⟩
  · go_wp2_with fail
    refine (CI.out _).mono ?_
    rintro e w' ⟨rfl, rfl⟩
    cases p
    · go_wp2_with fail
      go_ret
      exact ⟨by rw [hr.out]; simp, hB⟩
    · go_wp2_with fail
      refine (CR.out _).mono ?_
      rintro e W3 ⟨rfl, hb⟩
      replace b0 := cell_next hb nb b0
      replace b1 := cell_next hb nb b1
      replace b2 := cell_next hb nb b2
      replace b3 := cell_next hb nb b3
      replace nb := Nat.lt_of_lt_of_le nb hb.size
      replace hB := hB.trans (hb.mono hB.size)
      clear hb
      cases q
      · go_wp2_with fail
        go_ret
        exact ⟨by rw [hr.out]; simp, hB⟩
      · clear CT CI CR
        go_wp2_with fail
        go_loopw [3] (fun i wr => ∃ k : Nat, k ≤ n ∧ i = .int .i64 k ∧ Hid (yB (xs.take k) = true) ∧ wr.cell? ⟨w.heap.size, 0, none⟩ = some (.slice A n c) ∧ wr.cell? ⟨w.heap.size, 1, none⟩ = some (.int .i64 lim) ∧ wr.cell? ⟨w.heap.size, 2, none⟩ = some (.int .i64 fl) ∧ wr.cell? ⟨w.heap.size, 3, none⟩ = some (.int .i64 fh) ∧ w.heap.size < wr.heap.size ∧ Below w.heap.size w wr) (fun i _ => n - (RowKit.intOf i).toNat)
        case atStart => exact ⟨0, Nat.zero_le _, rfl, Lib.hid rfl, b0, b1, b2, b3, nb, hB⟩
        case round =>
          clear hB b0 b1 b2 b3 nb
          obtain ⟨k, hk, rfl, ho, b0, b1, b2, b3, nb, hB⟩ := hrel
          by_cases hlt : (k : Int) < (n : Int)
          · obtain ⟨⟨x0, y0⟩, hp⟩ : ∃ p, xs[k]? = some p := ⟨_, List.getElem?_eq_getElem (by rw [Hn.out]; omega)⟩
            obtain ⟨gg, off, rfl, hg, hc⟩ := HR.out (by omega)
            obtain ⟨q0, q1⟩ := hc k _ hp
            replace q0 := cell_next hB hg q0
            replace q1 := cell_next hB hg q1
            have hgw : gg < wr.heap.size := by have := hB.size; omega
            have HNk := Lib.hid (HN.out k _ hp)
            have hok : Hid (yB (xs.take (k + 1)) = inB 0 1000000 y0) := Lib.hid (yB_take hp ho.out)
            have c1 := Lib.hid (CY.out y0)
            clear hc hp
            dsimp only at q0 q1 HNk
            have wk : IntKind.i64.wrap ((k : Int) + 1) = ((k + 1 : Nat) : Int) := IntWalk.i64_in _ (by omega)
            rw [show inB 0 1000000 y0 = (decide (0 ≤ y0) && decide (y0 ≤ 1000000)) from rfl] at HNk hok
            generalize (decide (0 ≤ y0) && decide (y0 ≤ 1000000)) = b' at *
            go_wp2_with fail
            refine (c1.out _).mono ?_
            rintro e w' ⟨rfl, rfl⟩
            cases b'
            · have E := Lib.hid (HNk.out rfl)
              go_wp2_with fail
              go_ret
              exact ⟨by rw [hr.out, E.out]; simp, hB⟩
            · go_wp2_with fail
              go_roundw
              case rel => exact ⟨k + 1, by omega, by go_num, hok, b0, b1, b2, b3, nb, hB⟩
              case measure => simp [RowKit.intOf]; omega
          · obtain rfl : k = n := by omega
            have E : Hid (y = true) := Lib.hid (HB.out.symm.trans (by have h := ho.out; rwa [List.take_of_length_le (by rw [Hn.out]; exact Nat.le_refl _)] at h))
            go_wp2_with fail
            go_ret
            exact ⟨by rw [hr.out, E.out]; simp, hB⟩

def gV (x y e : Int) : Value := .tuple #[.agg #[.int .i64 x, .int .i64 y], .int .i64 e]

set_option maxRecDepth 20000 in
set_option maxHeartbeats 4000000 in
theorem rGrowth_range (g off c : Nat) (m : Nat) (lim fl fh a b P Q : Int) (hm : m + 1 ≤ 60) (w : World) (hg : g < w.heap.size) (p0w : w.cell? ⟨g, off, none⟩ = some (.int .i64 P)) (q0w : w.cell? ⟨g, off + m * 2, none⟩ = some (.int .i64 Q)) (hv : vrB a b = false) :
    Calls Try.prog 46 #[.agg #[.slice (some ⟨g, off, none⟩) (m + 1) c, .int .i64 lim, .int .i64 fl, .int .i64 fh], .agg #[.int .i64 a, .int .i64 b]] w fun e w' => e = .returned (gV 0 0 2) ∧ Below w.heap.size w w' := by
  have CV := Lib.hid (rRange_any a b)
  rw [hv] at CV
  clear hv
  have wm : IntKind.i64.wrap ((m + 1 : Nat) - 1 : Int) = m := by rw [show ((m + 1 : Nat) - 1 : Int) = m from by omega]; exact IntWalk.i64_in _ (by omega)
  have wm' : IntKind.i64.wrap ((m : Int) + 1 - 1) = m := by rw [show ((m : Int) + 1 - 1) = m from by omega]; exact IntWalk.i64_in _ (by omega)
  have wmm : IntKind.i64.wrap (m : Int) = m := IntWalk.i64_in _ (by omega)
  have hm0 : (0 : Int) ≤ m := by omega
  have hm1 : (m : Int) < (m : Int) + 1 := by omega
  go_enter Try.func46, Try.ntmps46
  go_wp2_with fail
  have hb : Below w.heap.size w (((w.alloc (Obj.cells #[.slice (some ⟨g, off, none⟩) (m + 1) c, .int .i64 lim, .int .i64 fl, .int .i64 fh] 26)).alloc (Obj.cells #[.int .i64 a, .int .i64 b] 24)).alloc (Obj.cells #[.int .i64 0, .int .i64 0] 24)) := ((((Below.refl _ _).alloc (Nat.le_refl _) _).alloc (by simp <;> omega) _).alloc (by simp <;> omega) _)
  have b0 : (((w.alloc (Obj.cells #[.slice (some ⟨g, off, none⟩) (m + 1) c, .int .i64 lim, .int .i64 fl, .int .i64 fh] 26)).alloc (Obj.cells #[.int .i64 a, .int .i64 b] 24)).alloc (Obj.cells #[.int .i64 0, .int .i64 0] 24)).cell? ⟨w.heap.size, 0, none⟩ = some (.slice (some ⟨g, off, none⟩) (m + 1) c) := by simp [go_sem]
  have b1 : (((w.alloc (Obj.cells #[.slice (some ⟨g, off, none⟩) (m + 1) c, .int .i64 lim, .int .i64 fl, .int .i64 fh] 26)).alloc (Obj.cells #[.int .i64 a, .int .i64 b] 24)).alloc (Obj.cells #[.int .i64 0, .int .i64 0] 24)).cell? ⟨w.heap.size, 1, none⟩ = some (.int .i64 lim) := by simp [go_sem]
  have b2 : (((w.alloc (Obj.cells #[.slice (some ⟨g, off, none⟩) (m + 1) c, .int .i64 lim, .int .i64 fl, .int .i64 fh] 26)).alloc (Obj.cells #[.int .i64 a, .int .i64 b] 24)).alloc (Obj.cells #[.int .i64 0, .int .i64 0] 24)).cell? ⟨w.heap.size, 2, none⟩ = some (.int .i64 fl) := by simp [go_sem]
  have b3 : (((w.alloc (Obj.cells #[.slice (some ⟨g, off, none⟩) (m + 1) c, .int .i64 lim, .int .i64 fl, .int .i64 fh] 26)).alloc (Obj.cells #[.int .i64 a, .int .i64 b] 24)).alloc (Obj.cells #[.int .i64 0, .int .i64 0] 24)).cell? ⟨w.heap.size, 3, none⟩ = some (.int .i64 fh) := by simp [go_sem]
  have nb : w.heap.size < (((w.alloc (Obj.cells #[.slice (some ⟨g, off, none⟩) (m + 1) c, .int .i64 lim, .int .i64 fl, .int .i64 fh] 26)).alloc (Obj.cells #[.int .i64 a, .int .i64 b] 24)).alloc (Obj.cells #[.int .i64 0, .int .i64 0] 24)).heap.size := by simp <;> omega
  have t0 : (((w.alloc (Obj.cells #[.slice (some ⟨g, off, none⟩) (m + 1) c, .int .i64 lim, .int .i64 fl, .int .i64 fh] 26)).alloc (Obj.cells #[.int .i64 a, .int .i64 b] 24)).alloc (Obj.cells #[.int .i64 0, .int .i64 0] 24)).cell? ⟨w.heap.size + 1, 0, none⟩ = some (.int .i64 a) := by simp [go_sem]
  have t1 : (((w.alloc (Obj.cells #[.slice (some ⟨g, off, none⟩) (m + 1) c, .int .i64 lim, .int .i64 fl, .int .i64 fh] 26)).alloc (Obj.cells #[.int .i64 a, .int .i64 b] 24)).alloc (Obj.cells #[.int .i64 0, .int .i64 0] 24)).cell? ⟨w.heap.size + 1, 1, none⟩ = some (.int .i64 b) := by simp [go_sem]
  have nt : w.heap.size + 1 < (((w.alloc (Obj.cells #[.slice (some ⟨g, off, none⟩) (m + 1) c, .int .i64 lim, .int .i64 fl, .int .i64 fh] 26)).alloc (Obj.cells #[.int .i64 a, .int .i64 b] 24)).alloc (Obj.cells #[.int .i64 0, .int .i64 0] 24)).heap.size := by simp <;> omega
  have r0 : (((w.alloc (Obj.cells #[.slice (some ⟨g, off, none⟩) (m + 1) c, .int .i64 lim, .int .i64 fl, .int .i64 fh] 26)).alloc (Obj.cells #[.int .i64 a, .int .i64 b] 24)).alloc (Obj.cells #[.int .i64 0, .int .i64 0] 24)).cell? ⟨w.heap.size + 1 + 1, 0, none⟩ = some (.int .i64 0) := by simp [go_sem]
  have fr0 : (((w.alloc (Obj.cells #[.slice (some ⟨g, off, none⟩) (m + 1) c, .int .i64 lim, .int .i64 fl, .int .i64 fh] 26)).alloc (Obj.cells #[.int .i64 a, .int .i64 b] 24)).alloc (Obj.cells #[.int .i64 0, .int .i64 0] 24)).frozen? ⟨w.heap.size + 1 + 1, 0, none⟩ = false := by simp [go_sem]
  have r1 : (((w.alloc (Obj.cells #[.slice (some ⟨g, off, none⟩) (m + 1) c, .int .i64 lim, .int .i64 fl, .int .i64 fh] 26)).alloc (Obj.cells #[.int .i64 a, .int .i64 b] 24)).alloc (Obj.cells #[.int .i64 0, .int .i64 0] 24)).cell? ⟨w.heap.size + 1 + 1, 1, none⟩ = some (.int .i64 0) := by simp [go_sem]
  have fr1 : (((w.alloc (Obj.cells #[.slice (some ⟨g, off, none⟩) (m + 1) c, .int .i64 lim, .int .i64 fl, .int .i64 fh] 26)).alloc (Obj.cells #[.int .i64 a, .int .i64 b] 24)).alloc (Obj.cells #[.int .i64 0, .int .i64 0] 24)).frozen? ⟨w.heap.size + 1 + 1, 1, none⟩ = false := by simp [go_sem]
  have nr : w.heap.size + 1 + 1 < (((w.alloc (Obj.cells #[.slice (some ⟨g, off, none⟩) (m + 1) c, .int .i64 lim, .int .i64 fl, .int .i64 fh] 26)).alloc (Obj.cells #[.int .i64 a, .int .i64 b] 24)).alloc (Obj.cells #[.int .i64 0, .int .i64 0] 24)).heap.size := by simp <;> omega
  have hB := hb
  clear hb
  generalize (((w.alloc (Obj.cells #[.slice (some ⟨g, off, none⟩) (m + 1) c, .int .i64 lim, .int .i64 fl, .int .i64 fh] 26)).alloc (Obj.cells #[.int .i64 a, .int .i64 b] 24)).alloc (Obj.cells #[.int .i64 0, .int .i64 0] 24)) = W1 at *
  go_wp2_with fail
  refine (CV.out _).mono ?_
  rintro e W2 ⟨rfl, hb⟩
  replace b0 := cell_next hb nb b0
  replace b1 := cell_next hb nb b1
  replace b2 := cell_next hb nb b2
  replace b3 := cell_next hb nb b3
  replace nb := Nat.lt_of_lt_of_le nb hb.size
  replace t0 := cell_next hb nt t0
  replace t1 := cell_next hb nt t1
  replace nt := Nat.lt_of_lt_of_le nt hb.size
  replace r0 := cell_next hb nr r0
  replace fr0 := frozen_next hb nr fr0
  replace r1 := cell_next hb nr r1
  replace fr1 := frozen_next hb nr fr1
  replace nr := Nat.lt_of_lt_of_le nr hb.size
  replace hB := hB.trans (hb.mono hB.size)
  clear hb
  go_wp2_with fail
  refine bodyPost_ret (v := gV 0 0 2) (by simp [results, Try.results46, go_sem, r0, r1, fr0, fr1, gV]) rfl ⟨rfl, ?_⟩
  exact ((hB.setCell (p := ⟨w.heap.size + 1 + 1, 0, none⟩) (by simp <;> omega) _).setCell (p := ⟨w.heap.size + 1 + 1, 1, none⟩) (by simp <;> omega) _)

set_option maxRecDepth 20000 in
set_option maxHeartbeats 4000000 in
theorem rGrowth_low (g off c : Nat) (m : Nat) (lim fl fh a b P Q : Int) (hm : m + 1 ≤ 60) (w : World) (hg : g < w.heap.size) (p0w : w.cell? ⟨g, off, none⟩ = some (.int .i64 P)) (q0w : w.cell? ⟨g, off + m * 2, none⟩ = some (.int .i64 Q)) (hv : vrB a b = true) (t1 : decide (a < P) = true) :
    Calls Try.prog 46 #[.agg #[.slice (some ⟨g, off, none⟩) (m + 1) c, .int .i64 lim, .int .i64 fl, .int .i64 fh], .agg #[.int .i64 a, .int .i64 b]] w fun e w' => e = .returned (gV 0 0 3) ∧ Below w.heap.size w w' := by
  have CV := Lib.hid (rRange_any a b)
  rw [hv] at CV
  clear hv
  have wm : IntKind.i64.wrap ((m + 1 : Nat) - 1 : Int) = m := by rw [show ((m + 1 : Nat) - 1 : Int) = m from by omega]; exact IntWalk.i64_in _ (by omega)
  have wm' : IntKind.i64.wrap ((m : Int) + 1 - 1) = m := by rw [show ((m : Int) + 1 - 1) = m from by omega]; exact IntWalk.i64_in _ (by omega)
  have wmm : IntKind.i64.wrap (m : Int) = m := IntWalk.i64_in _ (by omega)
  have hm0 : (0 : Int) ≤ m := by omega
  have hm1 : (m : Int) < (m : Int) + 1 := by omega
  go_enter Try.func46, Try.ntmps46
  go_wp2_with fail
  have hb : Below w.heap.size w (((w.alloc (Obj.cells #[.slice (some ⟨g, off, none⟩) (m + 1) c, .int .i64 lim, .int .i64 fl, .int .i64 fh] 26)).alloc (Obj.cells #[.int .i64 a, .int .i64 b] 24)).alloc (Obj.cells #[.int .i64 0, .int .i64 0] 24)) := ((((Below.refl _ _).alloc (Nat.le_refl _) _).alloc (by simp <;> omega) _).alloc (by simp <;> omega) _)
  have b0 : (((w.alloc (Obj.cells #[.slice (some ⟨g, off, none⟩) (m + 1) c, .int .i64 lim, .int .i64 fl, .int .i64 fh] 26)).alloc (Obj.cells #[.int .i64 a, .int .i64 b] 24)).alloc (Obj.cells #[.int .i64 0, .int .i64 0] 24)).cell? ⟨w.heap.size, 0, none⟩ = some (.slice (some ⟨g, off, none⟩) (m + 1) c) := by simp [go_sem]
  have b1 : (((w.alloc (Obj.cells #[.slice (some ⟨g, off, none⟩) (m + 1) c, .int .i64 lim, .int .i64 fl, .int .i64 fh] 26)).alloc (Obj.cells #[.int .i64 a, .int .i64 b] 24)).alloc (Obj.cells #[.int .i64 0, .int .i64 0] 24)).cell? ⟨w.heap.size, 1, none⟩ = some (.int .i64 lim) := by simp [go_sem]
  have b2 : (((w.alloc (Obj.cells #[.slice (some ⟨g, off, none⟩) (m + 1) c, .int .i64 lim, .int .i64 fl, .int .i64 fh] 26)).alloc (Obj.cells #[.int .i64 a, .int .i64 b] 24)).alloc (Obj.cells #[.int .i64 0, .int .i64 0] 24)).cell? ⟨w.heap.size, 2, none⟩ = some (.int .i64 fl) := by simp [go_sem]
  have b3 : (((w.alloc (Obj.cells #[.slice (some ⟨g, off, none⟩) (m + 1) c, .int .i64 lim, .int .i64 fl, .int .i64 fh] 26)).alloc (Obj.cells #[.int .i64 a, .int .i64 b] 24)).alloc (Obj.cells #[.int .i64 0, .int .i64 0] 24)).cell? ⟨w.heap.size, 3, none⟩ = some (.int .i64 fh) := by simp [go_sem]
  have nb : w.heap.size < (((w.alloc (Obj.cells #[.slice (some ⟨g, off, none⟩) (m + 1) c, .int .i64 lim, .int .i64 fl, .int .i64 fh] 26)).alloc (Obj.cells #[.int .i64 a, .int .i64 b] 24)).alloc (Obj.cells #[.int .i64 0, .int .i64 0] 24)).heap.size := by simp <;> omega
  have t0 : (((w.alloc (Obj.cells #[.slice (some ⟨g, off, none⟩) (m + 1) c, .int .i64 lim, .int .i64 fl, .int .i64 fh] 26)).alloc (Obj.cells #[.int .i64 a, .int .i64 b] 24)).alloc (Obj.cells #[.int .i64 0, .int .i64 0] 24)).cell? ⟨w.heap.size + 1, 0, none⟩ = some (.int .i64 a) := by simp [go_sem]
  have t1 : (((w.alloc (Obj.cells #[.slice (some ⟨g, off, none⟩) (m + 1) c, .int .i64 lim, .int .i64 fl, .int .i64 fh] 26)).alloc (Obj.cells #[.int .i64 a, .int .i64 b] 24)).alloc (Obj.cells #[.int .i64 0, .int .i64 0] 24)).cell? ⟨w.heap.size + 1, 1, none⟩ = some (.int .i64 b) := by simp [go_sem]
  have nt : w.heap.size + 1 < (((w.alloc (Obj.cells #[.slice (some ⟨g, off, none⟩) (m + 1) c, .int .i64 lim, .int .i64 fl, .int .i64 fh] 26)).alloc (Obj.cells #[.int .i64 a, .int .i64 b] 24)).alloc (Obj.cells #[.int .i64 0, .int .i64 0] 24)).heap.size := by simp <;> omega
  have r0 : (((w.alloc (Obj.cells #[.slice (some ⟨g, off, none⟩) (m + 1) c, .int .i64 lim, .int .i64 fl, .int .i64 fh] 26)).alloc (Obj.cells #[.int .i64 a, .int .i64 b] 24)).alloc (Obj.cells #[.int .i64 0, .int .i64 0] 24)).cell? ⟨w.heap.size + 1 + 1, 0, none⟩ = some (.int .i64 0) := by simp [go_sem]
  have fr0 : (((w.alloc (Obj.cells #[.slice (some ⟨g, off, none⟩) (m + 1) c, .int .i64 lim, .int .i64 fl, .int .i64 fh] 26)).alloc (Obj.cells #[.int .i64 a, .int .i64 b] 24)).alloc (Obj.cells #[.int .i64 0, .int .i64 0] 24)).frozen? ⟨w.heap.size + 1 + 1, 0, none⟩ = false := by simp [go_sem]
  have r1 : (((w.alloc (Obj.cells #[.slice (some ⟨g, off, none⟩) (m + 1) c, .int .i64 lim, .int .i64 fl, .int .i64 fh] 26)).alloc (Obj.cells #[.int .i64 a, .int .i64 b] 24)).alloc (Obj.cells #[.int .i64 0, .int .i64 0] 24)).cell? ⟨w.heap.size + 1 + 1, 1, none⟩ = some (.int .i64 0) := by simp [go_sem]
  have fr1 : (((w.alloc (Obj.cells #[.slice (some ⟨g, off, none⟩) (m + 1) c, .int .i64 lim, .int .i64 fl, .int .i64 fh] 26)).alloc (Obj.cells #[.int .i64 a, .int .i64 b] 24)).alloc (Obj.cells #[.int .i64 0, .int .i64 0] 24)).frozen? ⟨w.heap.size + 1 + 1, 1, none⟩ = false := by simp [go_sem]
  have nr : w.heap.size + 1 + 1 < (((w.alloc (Obj.cells #[.slice (some ⟨g, off, none⟩) (m + 1) c, .int .i64 lim, .int .i64 fl, .int .i64 fh] 26)).alloc (Obj.cells #[.int .i64 a, .int .i64 b] 24)).alloc (Obj.cells #[.int .i64 0, .int .i64 0] 24)).heap.size := by simp <;> omega
  have hB := hb
  clear hb
  generalize (((w.alloc (Obj.cells #[.slice (some ⟨g, off, none⟩) (m + 1) c, .int .i64 lim, .int .i64 fl, .int .i64 fh] 26)).alloc (Obj.cells #[.int .i64 a, .int .i64 b] 24)).alloc (Obj.cells #[.int .i64 0, .int .i64 0] 24)) = W1 at *
  go_wp2_with fail
  refine (CV.out _).mono ?_
  rintro e W2 ⟨rfl, hb⟩
  replace b0 := cell_next hb nb b0
  replace b1 := cell_next hb nb b1
  replace b2 := cell_next hb nb b2
  replace b3 := cell_next hb nb b3
  replace nb := Nat.lt_of_lt_of_le nb hb.size
  replace t0 := cell_next hb nt t0
  replace t1 := cell_next hb nt t1
  replace nt := Nat.lt_of_lt_of_le nt hb.size
  replace r0 := cell_next hb nr r0
  replace fr0 := frozen_next hb nr fr0
  replace r1 := cell_next hb nr r1
  replace fr1 := frozen_next hb nr fr1
  replace nr := Nat.lt_of_lt_of_le nr hb.size
  replace hB := hB.trans (hb.mono hB.size)
  clear hb
  go_wp2_with fail
  have p0 := cell_next hB hg p0w
  have q0 := cell_next hB hg q0w
  have ng := Nat.lt_of_lt_of_le hg hB.size
  have hBW : W2.heap.size ≤ W2.heap.size := Nat.le_refl _
  refine wp_region_held_drew (S := fun w' => w'.cell? ⟨w.heap.size, 0, none⟩ = some (.slice (some ⟨g, off, none⟩) (m + 1) c) ∧ w'.cell? ⟨w.heap.size + 1, 0, none⟩ = some (.int .i64 a) ∧ w'.cell? ⟨w.heap.size + 1, 1, none⟩ = some (.int .i64 b) ∧ w'.cell? ⟨g, off, none⟩ = some (.int .i64 P) ∧ w'.cell? ⟨g, off + m * 2, none⟩ = some (.int .i64 Q) ∧ True) (by kernel_rfl) ?_ (fun hHeld => ?_)
  focus (exact ⟨b0, t0, t1, p0, q0, trivial⟩)
  have hL : Below W2.heap.size W2 W2.drew := Below.drew (Below.refl _ _)
  replace b0 : W2.drew.cell? ⟨w.heap.size, 0, none⟩ = some (.slice (some ⟨g, off, none⟩) (m + 1) c) := b0
  replace b1 : W2.drew.cell? ⟨w.heap.size, 1, none⟩ = some (.int .i64 lim) := b1
  replace b2 : W2.drew.cell? ⟨w.heap.size, 2, none⟩ = some (.int .i64 fl) := b2
  replace b3 : W2.drew.cell? ⟨w.heap.size, 3, none⟩ = some (.int .i64 fh) := b3
  replace t0 : W2.drew.cell? ⟨w.heap.size + 1, 0, none⟩ = some (.int .i64 a) := t0
  replace t1 : W2.drew.cell? ⟨w.heap.size + 1, 1, none⟩ = some (.int .i64 b) := t1
  replace r0 : W2.drew.cell? ⟨w.heap.size + 1 + 1, 0, none⟩ = some (.int .i64 0) := r0
  replace fr0 : W2.drew.frozen? ⟨w.heap.size + 1 + 1, 0, none⟩ = false := fr0
  replace r1 : W2.drew.cell? ⟨w.heap.size + 1 + 1, 1, none⟩ = some (.int .i64 0) := r1
  replace fr1 : W2.drew.frozen? ⟨w.heap.size + 1 + 1, 1, none⟩ = false := fr1
  replace p0 : W2.drew.cell? ⟨g, off, none⟩ = some (.int .i64 P) := p0
  replace q0 : W2.drew.cell? ⟨g, off + m * 2, none⟩ = some (.int .i64 Q) := q0
  replace nb : w.heap.size < W2.drew.heap.size := nb
  replace nt : w.heap.size + 1 < W2.drew.heap.size := nt
  replace nr : w.heap.size + 1 + 1 < W2.drew.heap.size := nr
  replace ng : g < W2.drew.heap.size := ng
  generalize hWd : W2.drew = wd9 at hHeld hL b0 b1 b2 b3 t0 t1 r0 fr0 r1 fr1 p0 q0 nb nt nr ng  ⊢
  clear hWd
  refine take_slot (i := 0) (d := 10) (v := ?_) rfl rfl (by kernel_rfl) (by kernel_rfl) (by kernel_rfl) (fun _ _ _ h => h) (Or.inl ⟨by rfl, ?_⟩) (by assumption) ?_
  rotate_left 1
  focus (intro wS hSw; (try dsimp only at hSw); go_simp; try with_reducible rfl)
  try simp only [List.setIfInBounds_toArray, List.set_cons_zero, List.set_cons_succ]
  refine take_slot (i := 1) (d := 11) (v := ?_) rfl rfl (by kernel_rfl) (by kernel_rfl) (by kernel_rfl) (fun _ _ _ h => h) (Or.inl ⟨by rfl, ?_⟩) (by assumption) ?_
  rotate_left 1
  focus (intro wS hSw; (try dsimp only at hSw); go_simp; try with_reducible rfl)
  try simp only [List.setIfInBounds_toArray, List.set_cons_zero, List.set_cons_succ]
  refine take_slot (i := 2) (d := 12) (v := ?_) rfl rfl (by kernel_rfl) (by kernel_rfl) (by kernel_rfl) (fun _ _ _ h => h) (Or.inl ⟨by rfl, ?_⟩) (by assumption) ?_
  rotate_left 1
  focus (intro wS hSw; (try dsimp only at hSw); go_simp; try with_reducible rfl)
  try simp only [List.setIfInBounds_toArray, List.set_cons_zero, List.set_cons_succ]
  refine take_slot (i := 3) (d := 13) (v := ?_) rfl rfl (by kernel_rfl) (by kernel_rfl) (by kernel_rfl) (fun _ _ _ h => h) (Or.inl ⟨by rfl, ?_⟩) (by assumption) ?_
  rotate_left 1
  focus (intro wS hSw; (try dsimp only at hSw); go_simp; try with_reducible rfl)
  try simp only [List.setIfInBounds_toArray, List.set_cons_zero, List.set_cons_succ]
  refine take_slot (i := 4) (d := 14) (v := ?_) rfl rfl (by kernel_rfl) (by kernel_rfl) (by kernel_rfl) (fun _ _ _ h => h) (Or.inl ⟨by rfl, ?_⟩) (by assumption) ?_
  rotate_left 1
  focus (intro wS hSw; (try dsimp only at hSw); go_simp; try with_reducible rfl)
  try simp only [List.setIfInBounds_toArray, List.set_cons_zero, List.set_cons_succ]
  refine take_slot (i := 5) (d := 15) (v := ?_) rfl rfl (by kernel_rfl) (by kernel_rfl) (by kernel_rfl) (fun _ _ _ h => h) (Or.inl ⟨by rfl, ?_⟩) (by assumption) ?_
  rotate_left 1
  focus (intro wS hSw; (try dsimp only at hSw); go_simp; try with_reducible rfl)
  try simp only [List.setIfInBounds_toArray, List.set_cons_zero, List.set_cons_succ]
  refine take_slot (i := 6) (d := 16) (v := ?_) rfl rfl (by kernel_rfl) (by kernel_rfl) (by kernel_rfl) (fun _ _ _ h => h) (Or.inl ⟨by rfl, ?_⟩) (by assumption) ?_
  rotate_left 1
  focus (intro wS hSw; (try dsimp only at hSw); go_simp; try with_reducible rfl)
  try simp only [List.setIfInBounds_toArray, List.set_cons_zero, List.set_cons_succ]
  refine take_slot (i := 7) (d := 17) (v := ?_) rfl rfl (by kernel_rfl) (by kernel_rfl) (by kernel_rfl) (fun _ _ _ h => h) (Or.inl ⟨by rfl, ?_⟩) (by assumption) ?_
  rotate_left 1
  focus (intro wS hSw; (try dsimp only at hSw); go_simp; try with_reducible rfl)
  try simp only [List.setIfInBounds_toArray, List.set_cons_zero, List.set_cons_succ]
  refine take_slot (i := 8) (d := 18) (v := ?_) rfl rfl (by kernel_rfl) (by kernel_rfl) (by kernel_rfl) (fun _ _ _ h => h) (Or.inl ⟨by rfl, ?_⟩) (by assumption) ?_
  rotate_left 1
  focus (intro wS hSw; (try dsimp only at hSw); go_simp; try with_reducible rfl)
  try simp only [List.setIfInBounds_toArray, List.set_cons_zero, List.set_cons_succ]
  refine take_slot (i := 9) (d := 19) (v := undef) rfl rfl (by kernel_rfl) (by kernel_rfl) (by kernel_rfl) (fun _ _ _ h => h) (Or.inr ⟨by rfl, rfl⟩) (by assumption) ?_
  try simp only [List.setIfInBounds_toArray, List.set_cons_zero, List.set_cons_succ]
  refine take_slot (i := 10) (d := 20) (v := undef) rfl rfl (by kernel_rfl) (by kernel_rfl) (by kernel_rfl) (fun _ _ _ h => h) (Or.inr ⟨by rfl, rfl⟩) (by assumption) ?_
  try simp only [List.setIfInBounds_toArray, List.set_cons_zero, List.set_cons_succ]
  refine take_slot (i := 11) (d := 21) (v := undef) rfl rfl (by kernel_rfl) (by kernel_rfl) (by kernel_rfl) (fun _ _ _ h => h) (Or.inr ⟨by rfl, rfl⟩) (by assumption) ?_
  try simp only [List.setIfInBounds_toArray, List.set_cons_zero, List.set_cons_succ]
  refine take_slot (i := 12) (d := 22) (v := undef) rfl rfl (by kernel_rfl) (by kernel_rfl) (by kernel_rfl) (fun _ _ _ h => h) (Or.inr ⟨by rfl, rfl⟩) (by assumption) ?_
  try simp only [List.setIfInBounds_toArray, List.set_cons_zero, List.set_cons_succ]
  refine take_slot (i := 13) (d := 23) (v := undef) rfl rfl (by kernel_rfl) (by kernel_rfl) (by kernel_rfl) (fun _ _ _ h => h) (Or.inr ⟨by rfl, rfl⟩) (by assumption) ?_
  try simp only [List.setIfInBounds_toArray, List.set_cons_zero, List.set_cons_succ]
  refine take_slot (i := 14) (d := 24) (v := undef) rfl rfl (by kernel_rfl) (by kernel_rfl) (by kernel_rfl) (fun _ _ _ h => h) (Or.inr ⟨by rfl, rfl⟩) (by assumption) ?_
  try simp only [List.setIfInBounds_toArray, List.set_cons_zero, List.set_cons_succ]
  refine take_slot (i := 15) (d := 25) (v := undef) rfl rfl (by kernel_rfl) (by kernel_rfl) (by kernel_rfl) (fun _ _ _ h => h) (Or.inr ⟨by rfl, rfl⟩) (by assumption) ?_
  try simp only [List.setIfInBounds_toArray, List.set_cons_zero, List.set_cons_succ]
  refine take_slot (i := 16) (d := 26) (v := undef) rfl rfl (by kernel_rfl) (by kernel_rfl) (by kernel_rfl) (fun _ _ _ h => h) (Or.inr ⟨by rfl, rfl⟩) (by assumption) ?_
  try simp only [List.setIfInBounds_toArray, List.set_cons_zero, List.set_cons_succ]
  refine take_slot (i := 17) (d := 27) (v := undef) rfl rfl (by kernel_rfl) (by kernel_rfl) (by kernel_rfl) (fun _ _ _ h => h) (Or.inr ⟨by rfl, rfl⟩) (by assumption) ?_
  try simp only [List.setIfInBounds_toArray, List.set_cons_zero, List.set_cons_succ]
  refine take_slot (i := 18) (d := 28) (v := undef) rfl rfl (by kernel_rfl) (by kernel_rfl) (by kernel_rfl) (fun _ _ _ h => h) (Or.inr ⟨by rfl, rfl⟩) (by assumption) ?_
  try simp only [List.setIfInBounds_toArray, List.set_cons_zero, List.set_cons_succ]
  refine take_slot (i := 19) (d := 29) (v := undef) rfl rfl (by kernel_rfl) (by kernel_rfl) (by kernel_rfl) (fun _ _ _ h => h) (Or.inr ⟨by rfl, rfl⟩) (by assumption) ?_
  try simp only [List.setIfInBounds_toArray, List.set_cons_zero, List.set_cons_succ]
  refine take_slot (i := 20) (d := 30) (v := undef) rfl rfl (by kernel_rfl) (by kernel_rfl) (by kernel_rfl) (fun _ _ _ h => h) (Or.inr ⟨by rfl, rfl⟩) (by assumption) ?_
  try simp only [List.setIfInBounds_toArray, List.set_cons_zero, List.set_cons_succ]
  refine take_slot (i := 21) (d := 31) (v := ?_) rfl rfl (by kernel_rfl) (by kernel_rfl) (by kernel_rfl) (fun _ _ _ h => h) (Or.inl ⟨by rfl, ?_⟩) (by assumption) ?_
  rotate_left 1
  focus (intro wS hSw; (try dsimp only at hSw); go_simp; try with_reducible rfl)
  try simp only [List.setIfInBounds_toArray, List.set_cons_zero, List.set_cons_succ]
  refine wpAnyH_done (by kernel_rfl) ?_ _
  replace hB := hB.trans (hL.mono hB.size)
  clear hHeld hL hBW
  go_wp2_with fail
  refine bodyPost_ret (v := gV 0 0 3) (by simp [results, Try.results46, go_sem, r0, r1, fr0, fr1, gV]) rfl ⟨rfl, ?_⟩
  exact ((hB.setCell (p := ⟨w.heap.size + 1 + 1, 0, none⟩) (by simp <;> omega) _).setCell (p := ⟨w.heap.size + 1 + 1, 1, none⟩) (by simp <;> omega) _)

set_option maxRecDepth 20000 in
set_option maxHeartbeats 4000000 in
theorem rGrowth_high (g off c : Nat) (m : Nat) (lim fl fh a b P Q : Int) (hm : m + 1 ≤ 60) (w : World) (hg : g < w.heap.size) (p0w : w.cell? ⟨g, off, none⟩ = some (.int .i64 P)) (q0w : w.cell? ⟨g, off + m * 2, none⟩ = some (.int .i64 Q)) (hv : vrB a b = true) (t1 : decide (a < P) = false) (t2 : decide (Q < b) = true) :
    Calls Try.prog 46 #[.agg #[.slice (some ⟨g, off, none⟩) (m + 1) c, .int .i64 lim, .int .i64 fl, .int .i64 fh], .agg #[.int .i64 a, .int .i64 b]] w fun e w' => e = .returned (gV 0 0 3) ∧ Below w.heap.size w w' := by
  have CV := Lib.hid (rRange_any a b)
  rw [hv] at CV
  clear hv
  have wm : IntKind.i64.wrap ((m + 1 : Nat) - 1 : Int) = m := by rw [show ((m + 1 : Nat) - 1 : Int) = m from by omega]; exact IntWalk.i64_in _ (by omega)
  have wm' : IntKind.i64.wrap ((m : Int) + 1 - 1) = m := by rw [show ((m : Int) + 1 - 1) = m from by omega]; exact IntWalk.i64_in _ (by omega)
  have wmm : IntKind.i64.wrap (m : Int) = m := IntWalk.i64_in _ (by omega)
  have hm0 : (0 : Int) ≤ m := by omega
  have hm1 : (m : Int) < (m : Int) + 1 := by omega
  go_enter Try.func46, Try.ntmps46
  go_wp2_with fail
  have hb : Below w.heap.size w (((w.alloc (Obj.cells #[.slice (some ⟨g, off, none⟩) (m + 1) c, .int .i64 lim, .int .i64 fl, .int .i64 fh] 26)).alloc (Obj.cells #[.int .i64 a, .int .i64 b] 24)).alloc (Obj.cells #[.int .i64 0, .int .i64 0] 24)) := ((((Below.refl _ _).alloc (Nat.le_refl _) _).alloc (by simp <;> omega) _).alloc (by simp <;> omega) _)
  have b0 : (((w.alloc (Obj.cells #[.slice (some ⟨g, off, none⟩) (m + 1) c, .int .i64 lim, .int .i64 fl, .int .i64 fh] 26)).alloc (Obj.cells #[.int .i64 a, .int .i64 b] 24)).alloc (Obj.cells #[.int .i64 0, .int .i64 0] 24)).cell? ⟨w.heap.size, 0, none⟩ = some (.slice (some ⟨g, off, none⟩) (m + 1) c) := by simp [go_sem]
  have b1 : (((w.alloc (Obj.cells #[.slice (some ⟨g, off, none⟩) (m + 1) c, .int .i64 lim, .int .i64 fl, .int .i64 fh] 26)).alloc (Obj.cells #[.int .i64 a, .int .i64 b] 24)).alloc (Obj.cells #[.int .i64 0, .int .i64 0] 24)).cell? ⟨w.heap.size, 1, none⟩ = some (.int .i64 lim) := by simp [go_sem]
  have b2 : (((w.alloc (Obj.cells #[.slice (some ⟨g, off, none⟩) (m + 1) c, .int .i64 lim, .int .i64 fl, .int .i64 fh] 26)).alloc (Obj.cells #[.int .i64 a, .int .i64 b] 24)).alloc (Obj.cells #[.int .i64 0, .int .i64 0] 24)).cell? ⟨w.heap.size, 2, none⟩ = some (.int .i64 fl) := by simp [go_sem]
  have b3 : (((w.alloc (Obj.cells #[.slice (some ⟨g, off, none⟩) (m + 1) c, .int .i64 lim, .int .i64 fl, .int .i64 fh] 26)).alloc (Obj.cells #[.int .i64 a, .int .i64 b] 24)).alloc (Obj.cells #[.int .i64 0, .int .i64 0] 24)).cell? ⟨w.heap.size, 3, none⟩ = some (.int .i64 fh) := by simp [go_sem]
  have nb : w.heap.size < (((w.alloc (Obj.cells #[.slice (some ⟨g, off, none⟩) (m + 1) c, .int .i64 lim, .int .i64 fl, .int .i64 fh] 26)).alloc (Obj.cells #[.int .i64 a, .int .i64 b] 24)).alloc (Obj.cells #[.int .i64 0, .int .i64 0] 24)).heap.size := by simp <;> omega
  have t0 : (((w.alloc (Obj.cells #[.slice (some ⟨g, off, none⟩) (m + 1) c, .int .i64 lim, .int .i64 fl, .int .i64 fh] 26)).alloc (Obj.cells #[.int .i64 a, .int .i64 b] 24)).alloc (Obj.cells #[.int .i64 0, .int .i64 0] 24)).cell? ⟨w.heap.size + 1, 0, none⟩ = some (.int .i64 a) := by simp [go_sem]
  have t1 : (((w.alloc (Obj.cells #[.slice (some ⟨g, off, none⟩) (m + 1) c, .int .i64 lim, .int .i64 fl, .int .i64 fh] 26)).alloc (Obj.cells #[.int .i64 a, .int .i64 b] 24)).alloc (Obj.cells #[.int .i64 0, .int .i64 0] 24)).cell? ⟨w.heap.size + 1, 1, none⟩ = some (.int .i64 b) := by simp [go_sem]
  have nt : w.heap.size + 1 < (((w.alloc (Obj.cells #[.slice (some ⟨g, off, none⟩) (m + 1) c, .int .i64 lim, .int .i64 fl, .int .i64 fh] 26)).alloc (Obj.cells #[.int .i64 a, .int .i64 b] 24)).alloc (Obj.cells #[.int .i64 0, .int .i64 0] 24)).heap.size := by simp <;> omega
  have r0 : (((w.alloc (Obj.cells #[.slice (some ⟨g, off, none⟩) (m + 1) c, .int .i64 lim, .int .i64 fl, .int .i64 fh] 26)).alloc (Obj.cells #[.int .i64 a, .int .i64 b] 24)).alloc (Obj.cells #[.int .i64 0, .int .i64 0] 24)).cell? ⟨w.heap.size + 1 + 1, 0, none⟩ = some (.int .i64 0) := by simp [go_sem]
  have fr0 : (((w.alloc (Obj.cells #[.slice (some ⟨g, off, none⟩) (m + 1) c, .int .i64 lim, .int .i64 fl, .int .i64 fh] 26)).alloc (Obj.cells #[.int .i64 a, .int .i64 b] 24)).alloc (Obj.cells #[.int .i64 0, .int .i64 0] 24)).frozen? ⟨w.heap.size + 1 + 1, 0, none⟩ = false := by simp [go_sem]
  have r1 : (((w.alloc (Obj.cells #[.slice (some ⟨g, off, none⟩) (m + 1) c, .int .i64 lim, .int .i64 fl, .int .i64 fh] 26)).alloc (Obj.cells #[.int .i64 a, .int .i64 b] 24)).alloc (Obj.cells #[.int .i64 0, .int .i64 0] 24)).cell? ⟨w.heap.size + 1 + 1, 1, none⟩ = some (.int .i64 0) := by simp [go_sem]
  have fr1 : (((w.alloc (Obj.cells #[.slice (some ⟨g, off, none⟩) (m + 1) c, .int .i64 lim, .int .i64 fl, .int .i64 fh] 26)).alloc (Obj.cells #[.int .i64 a, .int .i64 b] 24)).alloc (Obj.cells #[.int .i64 0, .int .i64 0] 24)).frozen? ⟨w.heap.size + 1 + 1, 1, none⟩ = false := by simp [go_sem]
  have nr : w.heap.size + 1 + 1 < (((w.alloc (Obj.cells #[.slice (some ⟨g, off, none⟩) (m + 1) c, .int .i64 lim, .int .i64 fl, .int .i64 fh] 26)).alloc (Obj.cells #[.int .i64 a, .int .i64 b] 24)).alloc (Obj.cells #[.int .i64 0, .int .i64 0] 24)).heap.size := by simp <;> omega
  have hB := hb
  clear hb
  generalize (((w.alloc (Obj.cells #[.slice (some ⟨g, off, none⟩) (m + 1) c, .int .i64 lim, .int .i64 fl, .int .i64 fh] 26)).alloc (Obj.cells #[.int .i64 a, .int .i64 b] 24)).alloc (Obj.cells #[.int .i64 0, .int .i64 0] 24)) = W1 at *
  go_wp2_with fail
  refine (CV.out _).mono ?_
  rintro e W2 ⟨rfl, hb⟩
  replace b0 := cell_next hb nb b0
  replace b1 := cell_next hb nb b1
  replace b2 := cell_next hb nb b2
  replace b3 := cell_next hb nb b3
  replace nb := Nat.lt_of_lt_of_le nb hb.size
  replace t0 := cell_next hb nt t0
  replace t1 := cell_next hb nt t1
  replace nt := Nat.lt_of_lt_of_le nt hb.size
  replace r0 := cell_next hb nr r0
  replace fr0 := frozen_next hb nr fr0
  replace r1 := cell_next hb nr r1
  replace fr1 := frozen_next hb nr fr1
  replace nr := Nat.lt_of_lt_of_le nr hb.size
  replace hB := hB.trans (hb.mono hB.size)
  clear hb
  go_wp2_with fail
  have p0 := cell_next hB hg p0w
  have q0 := cell_next hB hg q0w
  have ng := Nat.lt_of_lt_of_le hg hB.size
  have hBW : W2.heap.size ≤ W2.heap.size := Nat.le_refl _
  refine wp_region_held_drew (S := fun w' => w'.cell? ⟨w.heap.size, 0, none⟩ = some (.slice (some ⟨g, off, none⟩) (m + 1) c) ∧ w'.cell? ⟨w.heap.size + 1, 0, none⟩ = some (.int .i64 a) ∧ w'.cell? ⟨w.heap.size + 1, 1, none⟩ = some (.int .i64 b) ∧ w'.cell? ⟨g, off, none⟩ = some (.int .i64 P) ∧ w'.cell? ⟨g, off + m * 2, none⟩ = some (.int .i64 Q) ∧ True) (by kernel_rfl) ?_ (fun hHeld => ?_)
  focus (exact ⟨b0, t0, t1, p0, q0, trivial⟩)
  have hL : Below W2.heap.size W2 W2.drew := Below.drew (Below.refl _ _)
  replace b0 : W2.drew.cell? ⟨w.heap.size, 0, none⟩ = some (.slice (some ⟨g, off, none⟩) (m + 1) c) := b0
  replace b1 : W2.drew.cell? ⟨w.heap.size, 1, none⟩ = some (.int .i64 lim) := b1
  replace b2 : W2.drew.cell? ⟨w.heap.size, 2, none⟩ = some (.int .i64 fl) := b2
  replace b3 : W2.drew.cell? ⟨w.heap.size, 3, none⟩ = some (.int .i64 fh) := b3
  replace t0 : W2.drew.cell? ⟨w.heap.size + 1, 0, none⟩ = some (.int .i64 a) := t0
  replace t1 : W2.drew.cell? ⟨w.heap.size + 1, 1, none⟩ = some (.int .i64 b) := t1
  replace r0 : W2.drew.cell? ⟨w.heap.size + 1 + 1, 0, none⟩ = some (.int .i64 0) := r0
  replace fr0 : W2.drew.frozen? ⟨w.heap.size + 1 + 1, 0, none⟩ = false := fr0
  replace r1 : W2.drew.cell? ⟨w.heap.size + 1 + 1, 1, none⟩ = some (.int .i64 0) := r1
  replace fr1 : W2.drew.frozen? ⟨w.heap.size + 1 + 1, 1, none⟩ = false := fr1
  replace p0 : W2.drew.cell? ⟨g, off, none⟩ = some (.int .i64 P) := p0
  replace q0 : W2.drew.cell? ⟨g, off + m * 2, none⟩ = some (.int .i64 Q) := q0
  replace nb : w.heap.size < W2.drew.heap.size := nb
  replace nt : w.heap.size + 1 < W2.drew.heap.size := nt
  replace nr : w.heap.size + 1 + 1 < W2.drew.heap.size := nr
  replace ng : g < W2.drew.heap.size := ng
  generalize hWd : W2.drew = wd9 at hHeld hL b0 b1 b2 b3 t0 t1 r0 fr0 r1 fr1 p0 q0 nb nt nr ng  ⊢
  clear hWd
  refine take_slot (i := 0) (d := 10) (v := ?_) rfl rfl (by kernel_rfl) (by kernel_rfl) (by kernel_rfl) (fun _ _ _ h => h) (Or.inl ⟨by rfl, ?_⟩) (by assumption) ?_
  rotate_left 1
  focus (intro wS hSw; (try dsimp only at hSw); go_simp; try with_reducible rfl)
  try simp only [List.setIfInBounds_toArray, List.set_cons_zero, List.set_cons_succ]
  refine take_slot (i := 1) (d := 11) (v := ?_) rfl rfl (by kernel_rfl) (by kernel_rfl) (by kernel_rfl) (fun _ _ _ h => h) (Or.inl ⟨by rfl, ?_⟩) (by assumption) ?_
  rotate_left 1
  focus (intro wS hSw; (try dsimp only at hSw); go_simp; try with_reducible rfl)
  try simp only [List.setIfInBounds_toArray, List.set_cons_zero, List.set_cons_succ]
  refine take_slot (i := 2) (d := 12) (v := ?_) rfl rfl (by kernel_rfl) (by kernel_rfl) (by kernel_rfl) (fun _ _ _ h => h) (Or.inl ⟨by rfl, ?_⟩) (by assumption) ?_
  rotate_left 1
  focus (intro wS hSw; (try dsimp only at hSw); go_simp; try with_reducible rfl)
  try simp only [List.setIfInBounds_toArray, List.set_cons_zero, List.set_cons_succ]
  refine take_slot (i := 3) (d := 13) (v := ?_) rfl rfl (by kernel_rfl) (by kernel_rfl) (by kernel_rfl) (fun _ _ _ h => h) (Or.inl ⟨by rfl, ?_⟩) (by assumption) ?_
  rotate_left 1
  focus (intro wS hSw; (try dsimp only at hSw); go_simp; try with_reducible rfl)
  try simp only [List.setIfInBounds_toArray, List.set_cons_zero, List.set_cons_succ]
  refine take_slot (i := 4) (d := 14) (v := ?_) rfl rfl (by kernel_rfl) (by kernel_rfl) (by kernel_rfl) (fun _ _ _ h => h) (Or.inl ⟨by rfl, ?_⟩) (by assumption) ?_
  rotate_left 1
  focus (intro wS hSw; (try dsimp only at hSw); go_simp; try with_reducible rfl)
  try simp only [List.setIfInBounds_toArray, List.set_cons_zero, List.set_cons_succ]
  refine take_slot (i := 5) (d := 15) (v := ?_) rfl rfl (by kernel_rfl) (by kernel_rfl) (by kernel_rfl) (fun _ _ _ h => h) (Or.inl ⟨by rfl, ?_⟩) (by assumption) ?_
  rotate_left 1
  focus (intro wS hSw; (try dsimp only at hSw); go_simp; try with_reducible rfl)
  try simp only [List.setIfInBounds_toArray, List.set_cons_zero, List.set_cons_succ]
  refine take_slot (i := 6) (d := 16) (v := ?_) rfl rfl (by kernel_rfl) (by kernel_rfl) (by kernel_rfl) (fun _ _ _ h => h) (Or.inl ⟨by rfl, ?_⟩) (by assumption) ?_
  rotate_left 1
  focus (intro wS hSw; (try dsimp only at hSw); go_simp; try with_reducible rfl)
  try simp only [List.setIfInBounds_toArray, List.set_cons_zero, List.set_cons_succ]
  refine take_slot (i := 7) (d := 17) (v := ?_) rfl rfl (by kernel_rfl) (by kernel_rfl) (by kernel_rfl) (fun _ _ _ h => h) (Or.inl ⟨by rfl, ?_⟩) (by assumption) ?_
  rotate_left 1
  focus (intro wS hSw; (try dsimp only at hSw); go_simp; try with_reducible rfl)
  try simp only [List.setIfInBounds_toArray, List.set_cons_zero, List.set_cons_succ]
  refine take_slot (i := 8) (d := 18) (v := ?_) rfl rfl (by kernel_rfl) (by kernel_rfl) (by kernel_rfl) (fun _ _ _ h => h) (Or.inl ⟨by rfl, ?_⟩) (by assumption) ?_
  rotate_left 1
  focus (intro wS hSw; (try dsimp only at hSw); go_simp; try with_reducible rfl)
  try simp only [List.setIfInBounds_toArray, List.set_cons_zero, List.set_cons_succ]
  refine take_slot (i := 9) (d := 19) (v := ?_) rfl rfl (by kernel_rfl) (by kernel_rfl) (by kernel_rfl) (fun _ _ _ h => h) (Or.inl ⟨by rfl, ?_⟩) (by assumption) ?_
  rotate_left 1
  focus (intro wS hSw; (try dsimp only at hSw); go_simp; try with_reducible rfl)
  try simp only [List.setIfInBounds_toArray, List.set_cons_zero, List.set_cons_succ]
  refine take_slot (i := 10) (d := 20) (v := ?_) rfl rfl (by kernel_rfl) (by kernel_rfl) (by kernel_rfl) (fun _ _ _ h => h) (Or.inl ⟨by rfl, ?_⟩) (by assumption) ?_
  rotate_left 1
  focus (intro wS hSw; (try dsimp only at hSw); go_simp; try with_reducible rfl)
  try simp only [List.setIfInBounds_toArray, List.set_cons_zero, List.set_cons_succ]
  refine take_slot (i := 11) (d := 21) (v := ?_) rfl rfl (by kernel_rfl) (by kernel_rfl) (by kernel_rfl) (fun _ _ _ h => h) (Or.inl ⟨by rfl, ?_⟩) (by assumption) ?_
  rotate_left 1
  focus (intro wS hSw; (try dsimp only at hSw); go_simp; try with_reducible rfl)
  try simp only [List.setIfInBounds_toArray, List.set_cons_zero, List.set_cons_succ]
  refine take_slot (i := 12) (d := 22) (v := ?_) rfl rfl (by kernel_rfl) (by kernel_rfl) (by kernel_rfl) (fun _ _ _ h => h) (Or.inl ⟨by rfl, ?_⟩) (by assumption) ?_
  rotate_left 1
  focus (intro wS hSw; (try dsimp only at hSw); go_simp; try with_reducible rfl)
  try simp only [List.setIfInBounds_toArray, List.set_cons_zero, List.set_cons_succ]
  refine take_slot (i := 13) (d := 23) (v := ?_) rfl rfl (by kernel_rfl) (by kernel_rfl) (by kernel_rfl) (fun _ _ _ h => h) (Or.inl ⟨by rfl, ?_⟩) (by assumption) ?_
  rotate_left 1
  focus (intro wS hSw; (try dsimp only at hSw); go_simp; try with_reducible rfl)
  try simp only [List.setIfInBounds_toArray, List.set_cons_zero, List.set_cons_succ]
  refine take_slot (i := 14) (d := 24) (v := ?_) rfl rfl (by kernel_rfl) (by kernel_rfl) (by kernel_rfl) (fun _ _ _ h => h) (Or.inl ⟨by rfl, ?_⟩) (by assumption) ?_
  rotate_left 1
  focus (intro wS hSw; (try dsimp only at hSw); go_simp; try with_reducible rfl)
  try simp only [List.setIfInBounds_toArray, List.set_cons_zero, List.set_cons_succ]
  refine take_slot (i := 15) (d := 25) (v := ?_) rfl rfl (by kernel_rfl) (by kernel_rfl) (by kernel_rfl) (fun _ _ _ h => h) (Or.inl ⟨by rfl, ?_⟩) (by assumption) ?_
  rotate_left 1
  focus (intro wS hSw; (try dsimp only at hSw); go_simp; try with_reducible rfl)
  try simp only [List.setIfInBounds_toArray, List.set_cons_zero, List.set_cons_succ]
  refine take_slot (i := 16) (d := 26) (v := ?_) rfl rfl (by kernel_rfl) (by kernel_rfl) (by kernel_rfl) (fun _ _ _ h => h) (Or.inl ⟨by rfl, ?_⟩) (by assumption) ?_
  rotate_left 1
  focus (intro wS hSw; (try dsimp only at hSw); go_simp; try with_reducible rfl)
  try simp only [List.setIfInBounds_toArray, List.set_cons_zero, List.set_cons_succ]
  refine take_slot (i := 17) (d := 27) (v := ?_) rfl rfl (by kernel_rfl) (by kernel_rfl) (by kernel_rfl) (fun _ _ _ h => h) (Or.inl ⟨by rfl, ?_⟩) (by assumption) ?_
  rotate_left 1
  focus (intro wS hSw; (try dsimp only at hSw); go_simp; try with_reducible rfl)
  try simp only [List.setIfInBounds_toArray, List.set_cons_zero, List.set_cons_succ]
  refine take_slot (i := 18) (d := 28) (v := ?_) rfl rfl (by kernel_rfl) (by kernel_rfl) (by kernel_rfl) (fun _ _ _ h => h) (Or.inl ⟨by rfl, ?_⟩) (by assumption) ?_
  rotate_left 1
  focus (intro wS hSw; (try dsimp only at hSw); go_simp; try with_reducible rfl)
  try simp only [List.setIfInBounds_toArray, List.set_cons_zero, List.set_cons_succ]
  refine take_slot (i := 19) (d := 29) (v := ?_) rfl rfl (by kernel_rfl) (by kernel_rfl) (by kernel_rfl) (fun _ _ _ h => h) (Or.inl ⟨by rfl, ?_⟩) (by assumption) ?_
  rotate_left 1
  focus (intro wS hSw; (try dsimp only at hSw); go_simp; try with_reducible rfl)
  try simp only [List.setIfInBounds_toArray, List.set_cons_zero, List.set_cons_succ]
  refine take_slot (i := 20) (d := 30) (v := ?_) rfl rfl (by kernel_rfl) (by kernel_rfl) (by kernel_rfl) (fun _ _ _ h => h) (Or.inl ⟨by rfl, ?_⟩) (by assumption) ?_
  rotate_left 1
  focus (intro wS hSw; (try dsimp only at hSw); go_simp; try with_reducible rfl)
  try simp only [List.setIfInBounds_toArray, List.set_cons_zero, List.set_cons_succ]
  refine take_slot (i := 21) (d := 31) (v := ?_) rfl rfl (by kernel_rfl) (by kernel_rfl) (by kernel_rfl) (fun _ _ _ h => h) (Or.inl ⟨by rfl, ?_⟩) (by assumption) ?_
  rotate_left 1
  focus (intro wS hSw; (try dsimp only at hSw); go_simp; try with_reducible rfl)
  try simp only [List.setIfInBounds_toArray, List.set_cons_zero, List.set_cons_succ]
  refine wpAnyH_done (by kernel_rfl) ?_ _
  replace hB := hB.trans (hL.mono hB.size)
  clear hHeld hL hBW
  go_wp2_with fail
  refine bodyPost_ret (v := gV 0 0 3) (by simp [results, Try.results46, go_sem, r0, r1, fr0, fr1, gV]) rfl ⟨rfl, ?_⟩
  exact ((hB.setCell (p := ⟨w.heap.size + 1 + 1, 0, none⟩) (by simp <;> omega) _).setCell (p := ⟨w.heap.size + 1 + 1, 1, none⟩) (by simp <;> omega) _)

set_option maxRecDepth 20000 in
set_option maxHeartbeats 4000000 in
theorem rGrowth_fine (g off c : Nat) (m : Nat) (lim fl fh a b P Q : Int) (hm : m + 1 ≤ 60) (w : World) (hg : g < w.heap.size) (p0w : w.cell? ⟨g, off, none⟩ = some (.int .i64 P)) (q0w : w.cell? ⟨g, off + m * 2, none⟩ = some (.int .i64 Q)) (hv : vrB a b = true) (t1 : decide (a < P) = false) (t2 : decide (Q < b) = false) (X Y : Int) (cw : ∀ W, Below w.heap.size w W → Calls Try.prog 112 #[.slice (some ⟨g, off, none⟩) (m + 1) c, .agg #[.int .i64 a, .int .i64 b]] W fun e w' => e = .returned (.agg #[.int .i64 X, .int .i64 Y]) ∧ Below W.heap.size W w') :
    Calls Try.prog 46 #[.agg #[.slice (some ⟨g, off, none⟩) (m + 1) c, .int .i64 lim, .int .i64 fl, .int .i64 fh], .agg #[.int .i64 a, .int .i64 b]] w fun e w' => e = .returned (gV X Y 0) ∧ Below w.heap.size w w' := by
  have CV := Lib.hid (rRange_any a b)
  rw [hv] at CV
  clear hv
  have wm : IntKind.i64.wrap ((m + 1 : Nat) - 1 : Int) = m := by rw [show ((m + 1 : Nat) - 1 : Int) = m from by omega]; exact IntWalk.i64_in _ (by omega)
  have wm' : IntKind.i64.wrap ((m : Int) + 1 - 1) = m := by rw [show ((m : Int) + 1 - 1) = m from by omega]; exact IntWalk.i64_in _ (by omega)
  have wmm : IntKind.i64.wrap (m : Int) = m := IntWalk.i64_in _ (by omega)
  have hm0 : (0 : Int) ≤ m := by omega
  have hm1 : (m : Int) < (m : Int) + 1 := by omega
  have CW := Lib.hid cw
  clear cw
  go_enter Try.func46, Try.ntmps46
  go_wp2_with fail
  have hb : Below w.heap.size w (((w.alloc (Obj.cells #[.slice (some ⟨g, off, none⟩) (m + 1) c, .int .i64 lim, .int .i64 fl, .int .i64 fh] 26)).alloc (Obj.cells #[.int .i64 a, .int .i64 b] 24)).alloc (Obj.cells #[.int .i64 0, .int .i64 0] 24)) := ((((Below.refl _ _).alloc (Nat.le_refl _) _).alloc (by simp <;> omega) _).alloc (by simp <;> omega) _)
  have b0 : (((w.alloc (Obj.cells #[.slice (some ⟨g, off, none⟩) (m + 1) c, .int .i64 lim, .int .i64 fl, .int .i64 fh] 26)).alloc (Obj.cells #[.int .i64 a, .int .i64 b] 24)).alloc (Obj.cells #[.int .i64 0, .int .i64 0] 24)).cell? ⟨w.heap.size, 0, none⟩ = some (.slice (some ⟨g, off, none⟩) (m + 1) c) := by simp [go_sem]
  have b1 : (((w.alloc (Obj.cells #[.slice (some ⟨g, off, none⟩) (m + 1) c, .int .i64 lim, .int .i64 fl, .int .i64 fh] 26)).alloc (Obj.cells #[.int .i64 a, .int .i64 b] 24)).alloc (Obj.cells #[.int .i64 0, .int .i64 0] 24)).cell? ⟨w.heap.size, 1, none⟩ = some (.int .i64 lim) := by simp [go_sem]
  have b2 : (((w.alloc (Obj.cells #[.slice (some ⟨g, off, none⟩) (m + 1) c, .int .i64 lim, .int .i64 fl, .int .i64 fh] 26)).alloc (Obj.cells #[.int .i64 a, .int .i64 b] 24)).alloc (Obj.cells #[.int .i64 0, .int .i64 0] 24)).cell? ⟨w.heap.size, 2, none⟩ = some (.int .i64 fl) := by simp [go_sem]
  have b3 : (((w.alloc (Obj.cells #[.slice (some ⟨g, off, none⟩) (m + 1) c, .int .i64 lim, .int .i64 fl, .int .i64 fh] 26)).alloc (Obj.cells #[.int .i64 a, .int .i64 b] 24)).alloc (Obj.cells #[.int .i64 0, .int .i64 0] 24)).cell? ⟨w.heap.size, 3, none⟩ = some (.int .i64 fh) := by simp [go_sem]
  have nb : w.heap.size < (((w.alloc (Obj.cells #[.slice (some ⟨g, off, none⟩) (m + 1) c, .int .i64 lim, .int .i64 fl, .int .i64 fh] 26)).alloc (Obj.cells #[.int .i64 a, .int .i64 b] 24)).alloc (Obj.cells #[.int .i64 0, .int .i64 0] 24)).heap.size := by simp <;> omega
  have t0 : (((w.alloc (Obj.cells #[.slice (some ⟨g, off, none⟩) (m + 1) c, .int .i64 lim, .int .i64 fl, .int .i64 fh] 26)).alloc (Obj.cells #[.int .i64 a, .int .i64 b] 24)).alloc (Obj.cells #[.int .i64 0, .int .i64 0] 24)).cell? ⟨w.heap.size + 1, 0, none⟩ = some (.int .i64 a) := by simp [go_sem]
  have t1 : (((w.alloc (Obj.cells #[.slice (some ⟨g, off, none⟩) (m + 1) c, .int .i64 lim, .int .i64 fl, .int .i64 fh] 26)).alloc (Obj.cells #[.int .i64 a, .int .i64 b] 24)).alloc (Obj.cells #[.int .i64 0, .int .i64 0] 24)).cell? ⟨w.heap.size + 1, 1, none⟩ = some (.int .i64 b) := by simp [go_sem]
  have nt : w.heap.size + 1 < (((w.alloc (Obj.cells #[.slice (some ⟨g, off, none⟩) (m + 1) c, .int .i64 lim, .int .i64 fl, .int .i64 fh] 26)).alloc (Obj.cells #[.int .i64 a, .int .i64 b] 24)).alloc (Obj.cells #[.int .i64 0, .int .i64 0] 24)).heap.size := by simp <;> omega
  have r0 : (((w.alloc (Obj.cells #[.slice (some ⟨g, off, none⟩) (m + 1) c, .int .i64 lim, .int .i64 fl, .int .i64 fh] 26)).alloc (Obj.cells #[.int .i64 a, .int .i64 b] 24)).alloc (Obj.cells #[.int .i64 0, .int .i64 0] 24)).cell? ⟨w.heap.size + 1 + 1, 0, none⟩ = some (.int .i64 0) := by simp [go_sem]
  have fr0 : (((w.alloc (Obj.cells #[.slice (some ⟨g, off, none⟩) (m + 1) c, .int .i64 lim, .int .i64 fl, .int .i64 fh] 26)).alloc (Obj.cells #[.int .i64 a, .int .i64 b] 24)).alloc (Obj.cells #[.int .i64 0, .int .i64 0] 24)).frozen? ⟨w.heap.size + 1 + 1, 0, none⟩ = false := by simp [go_sem]
  have r1 : (((w.alloc (Obj.cells #[.slice (some ⟨g, off, none⟩) (m + 1) c, .int .i64 lim, .int .i64 fl, .int .i64 fh] 26)).alloc (Obj.cells #[.int .i64 a, .int .i64 b] 24)).alloc (Obj.cells #[.int .i64 0, .int .i64 0] 24)).cell? ⟨w.heap.size + 1 + 1, 1, none⟩ = some (.int .i64 0) := by simp [go_sem]
  have fr1 : (((w.alloc (Obj.cells #[.slice (some ⟨g, off, none⟩) (m + 1) c, .int .i64 lim, .int .i64 fl, .int .i64 fh] 26)).alloc (Obj.cells #[.int .i64 a, .int .i64 b] 24)).alloc (Obj.cells #[.int .i64 0, .int .i64 0] 24)).frozen? ⟨w.heap.size + 1 + 1, 1, none⟩ = false := by simp [go_sem]
  have nr : w.heap.size + 1 + 1 < (((w.alloc (Obj.cells #[.slice (some ⟨g, off, none⟩) (m + 1) c, .int .i64 lim, .int .i64 fl, .int .i64 fh] 26)).alloc (Obj.cells #[.int .i64 a, .int .i64 b] 24)).alloc (Obj.cells #[.int .i64 0, .int .i64 0] 24)).heap.size := by simp <;> omega
  have hB := hb
  clear hb
  generalize (((w.alloc (Obj.cells #[.slice (some ⟨g, off, none⟩) (m + 1) c, .int .i64 lim, .int .i64 fl, .int .i64 fh] 26)).alloc (Obj.cells #[.int .i64 a, .int .i64 b] 24)).alloc (Obj.cells #[.int .i64 0, .int .i64 0] 24)) = W1 at *
  go_wp2_with fail
  refine (CV.out _).mono ?_
  rintro e W2 ⟨rfl, hb⟩
  replace b0 := cell_next hb nb b0
  replace b1 := cell_next hb nb b1
  replace b2 := cell_next hb nb b2
  replace b3 := cell_next hb nb b3
  replace nb := Nat.lt_of_lt_of_le nb hb.size
  replace t0 := cell_next hb nt t0
  replace t1 := cell_next hb nt t1
  replace nt := Nat.lt_of_lt_of_le nt hb.size
  replace r0 := cell_next hb nr r0
  replace fr0 := frozen_next hb nr fr0
  replace r1 := cell_next hb nr r1
  replace fr1 := frozen_next hb nr fr1
  replace nr := Nat.lt_of_lt_of_le nr hb.size
  replace hB := hB.trans (hb.mono hB.size)
  clear hb
  go_wp2_with fail
  have p0 := cell_next hB hg p0w
  have q0 := cell_next hB hg q0w
  have ng := Nat.lt_of_lt_of_le hg hB.size
  have hBW : W2.heap.size ≤ W2.heap.size := Nat.le_refl _
  refine wp_region_held_drew (S := fun w' => w'.cell? ⟨w.heap.size, 0, none⟩ = some (.slice (some ⟨g, off, none⟩) (m + 1) c) ∧ w'.cell? ⟨w.heap.size + 1, 0, none⟩ = some (.int .i64 a) ∧ w'.cell? ⟨w.heap.size + 1, 1, none⟩ = some (.int .i64 b) ∧ w'.cell? ⟨g, off, none⟩ = some (.int .i64 P) ∧ w'.cell? ⟨g, off + m * 2, none⟩ = some (.int .i64 Q) ∧ True) (by kernel_rfl) ?_ (fun hHeld => ?_)
  focus (exact ⟨b0, t0, t1, p0, q0, trivial⟩)
  have hL : Below W2.heap.size W2 W2.drew := Below.drew (Below.refl _ _)
  replace b0 : W2.drew.cell? ⟨w.heap.size, 0, none⟩ = some (.slice (some ⟨g, off, none⟩) (m + 1) c) := b0
  replace b1 : W2.drew.cell? ⟨w.heap.size, 1, none⟩ = some (.int .i64 lim) := b1
  replace b2 : W2.drew.cell? ⟨w.heap.size, 2, none⟩ = some (.int .i64 fl) := b2
  replace b3 : W2.drew.cell? ⟨w.heap.size, 3, none⟩ = some (.int .i64 fh) := b3
  replace t0 : W2.drew.cell? ⟨w.heap.size + 1, 0, none⟩ = some (.int .i64 a) := t0
  replace t1 : W2.drew.cell? ⟨w.heap.size + 1, 1, none⟩ = some (.int .i64 b) := t1
  replace r0 : W2.drew.cell? ⟨w.heap.size + 1 + 1, 0, none⟩ = some (.int .i64 0) := r0
  replace fr0 : W2.drew.frozen? ⟨w.heap.size + 1 + 1, 0, none⟩ = false := fr0
  replace r1 : W2.drew.cell? ⟨w.heap.size + 1 + 1, 1, none⟩ = some (.int .i64 0) := r1
  replace fr1 : W2.drew.frozen? ⟨w.heap.size + 1 + 1, 1, none⟩ = false := fr1
  replace p0 : W2.drew.cell? ⟨g, off, none⟩ = some (.int .i64 P) := p0
  replace q0 : W2.drew.cell? ⟨g, off + m * 2, none⟩ = some (.int .i64 Q) := q0
  replace nb : w.heap.size < W2.drew.heap.size := nb
  replace nt : w.heap.size + 1 < W2.drew.heap.size := nt
  replace nr : w.heap.size + 1 + 1 < W2.drew.heap.size := nr
  replace ng : g < W2.drew.heap.size := ng
  generalize hWd : W2.drew = wd9 at hHeld hL b0 b1 b2 b3 t0 t1 r0 fr0 r1 fr1 p0 q0 nb nt nr ng  ⊢
  clear hWd
  refine take_slot (i := 0) (d := 10) (v := ?_) rfl rfl (by kernel_rfl) (by kernel_rfl) (by kernel_rfl) (fun _ _ _ h => h) (Or.inl ⟨by rfl, ?_⟩) (by assumption) ?_
  rotate_left 1
  focus (intro wS hSw; (try dsimp only at hSw); go_simp; try with_reducible rfl)
  try simp only [List.setIfInBounds_toArray, List.set_cons_zero, List.set_cons_succ]
  refine take_slot (i := 1) (d := 11) (v := ?_) rfl rfl (by kernel_rfl) (by kernel_rfl) (by kernel_rfl) (fun _ _ _ h => h) (Or.inl ⟨by rfl, ?_⟩) (by assumption) ?_
  rotate_left 1
  focus (intro wS hSw; (try dsimp only at hSw); go_simp; try with_reducible rfl)
  try simp only [List.setIfInBounds_toArray, List.set_cons_zero, List.set_cons_succ]
  refine take_slot (i := 2) (d := 12) (v := ?_) rfl rfl (by kernel_rfl) (by kernel_rfl) (by kernel_rfl) (fun _ _ _ h => h) (Or.inl ⟨by rfl, ?_⟩) (by assumption) ?_
  rotate_left 1
  focus (intro wS hSw; (try dsimp only at hSw); go_simp; try with_reducible rfl)
  try simp only [List.setIfInBounds_toArray, List.set_cons_zero, List.set_cons_succ]
  refine take_slot (i := 3) (d := 13) (v := ?_) rfl rfl (by kernel_rfl) (by kernel_rfl) (by kernel_rfl) (fun _ _ _ h => h) (Or.inl ⟨by rfl, ?_⟩) (by assumption) ?_
  rotate_left 1
  focus (intro wS hSw; (try dsimp only at hSw); go_simp; try with_reducible rfl)
  try simp only [List.setIfInBounds_toArray, List.set_cons_zero, List.set_cons_succ]
  refine take_slot (i := 4) (d := 14) (v := ?_) rfl rfl (by kernel_rfl) (by kernel_rfl) (by kernel_rfl) (fun _ _ _ h => h) (Or.inl ⟨by rfl, ?_⟩) (by assumption) ?_
  rotate_left 1
  focus (intro wS hSw; (try dsimp only at hSw); go_simp; try with_reducible rfl)
  try simp only [List.setIfInBounds_toArray, List.set_cons_zero, List.set_cons_succ]
  refine take_slot (i := 5) (d := 15) (v := ?_) rfl rfl (by kernel_rfl) (by kernel_rfl) (by kernel_rfl) (fun _ _ _ h => h) (Or.inl ⟨by rfl, ?_⟩) (by assumption) ?_
  rotate_left 1
  focus (intro wS hSw; (try dsimp only at hSw); go_simp; try with_reducible rfl)
  try simp only [List.setIfInBounds_toArray, List.set_cons_zero, List.set_cons_succ]
  refine take_slot (i := 6) (d := 16) (v := ?_) rfl rfl (by kernel_rfl) (by kernel_rfl) (by kernel_rfl) (fun _ _ _ h => h) (Or.inl ⟨by rfl, ?_⟩) (by assumption) ?_
  rotate_left 1
  focus (intro wS hSw; (try dsimp only at hSw); go_simp; try with_reducible rfl)
  try simp only [List.setIfInBounds_toArray, List.set_cons_zero, List.set_cons_succ]
  refine take_slot (i := 7) (d := 17) (v := ?_) rfl rfl (by kernel_rfl) (by kernel_rfl) (by kernel_rfl) (fun _ _ _ h => h) (Or.inl ⟨by rfl, ?_⟩) (by assumption) ?_
  rotate_left 1
  focus (intro wS hSw; (try dsimp only at hSw); go_simp; try with_reducible rfl)
  try simp only [List.setIfInBounds_toArray, List.set_cons_zero, List.set_cons_succ]
  refine take_slot (i := 8) (d := 18) (v := ?_) rfl rfl (by kernel_rfl) (by kernel_rfl) (by kernel_rfl) (fun _ _ _ h => h) (Or.inl ⟨by rfl, ?_⟩) (by assumption) ?_
  rotate_left 1
  focus (intro wS hSw; (try dsimp only at hSw); go_simp; try with_reducible rfl)
  try simp only [List.setIfInBounds_toArray, List.set_cons_zero, List.set_cons_succ]
  refine take_slot (i := 9) (d := 19) (v := ?_) rfl rfl (by kernel_rfl) (by kernel_rfl) (by kernel_rfl) (fun _ _ _ h => h) (Or.inl ⟨by rfl, ?_⟩) (by assumption) ?_
  rotate_left 1
  focus (intro wS hSw; (try dsimp only at hSw); go_simp; try with_reducible rfl)
  try simp only [List.setIfInBounds_toArray, List.set_cons_zero, List.set_cons_succ]
  refine take_slot (i := 10) (d := 20) (v := ?_) rfl rfl (by kernel_rfl) (by kernel_rfl) (by kernel_rfl) (fun _ _ _ h => h) (Or.inl ⟨by rfl, ?_⟩) (by assumption) ?_
  rotate_left 1
  focus (intro wS hSw; (try dsimp only at hSw); go_simp; try with_reducible rfl)
  try simp only [List.setIfInBounds_toArray, List.set_cons_zero, List.set_cons_succ]
  refine take_slot (i := 11) (d := 21) (v := ?_) rfl rfl (by kernel_rfl) (by kernel_rfl) (by kernel_rfl) (fun _ _ _ h => h) (Or.inl ⟨by rfl, ?_⟩) (by assumption) ?_
  rotate_left 1
  focus (intro wS hSw; (try dsimp only at hSw); go_simp; try with_reducible rfl)
  try simp only [List.setIfInBounds_toArray, List.set_cons_zero, List.set_cons_succ]
  refine take_slot (i := 12) (d := 22) (v := ?_) rfl rfl (by kernel_rfl) (by kernel_rfl) (by kernel_rfl) (fun _ _ _ h => h) (Or.inl ⟨by rfl, ?_⟩) (by assumption) ?_
  rotate_left 1
  focus (intro wS hSw; (try dsimp only at hSw); go_simp; try with_reducible rfl)
  try simp only [List.setIfInBounds_toArray, List.set_cons_zero, List.set_cons_succ]
  refine take_slot (i := 13) (d := 23) (v := ?_) rfl rfl (by kernel_rfl) (by kernel_rfl) (by kernel_rfl) (fun _ _ _ h => h) (Or.inl ⟨by rfl, ?_⟩) (by assumption) ?_
  rotate_left 1
  focus (intro wS hSw; (try dsimp only at hSw); go_simp; try with_reducible rfl)
  try simp only [List.setIfInBounds_toArray, List.set_cons_zero, List.set_cons_succ]
  refine take_slot (i := 14) (d := 24) (v := ?_) rfl rfl (by kernel_rfl) (by kernel_rfl) (by kernel_rfl) (fun _ _ _ h => h) (Or.inl ⟨by rfl, ?_⟩) (by assumption) ?_
  rotate_left 1
  focus (intro wS hSw; (try dsimp only at hSw); go_simp; try with_reducible rfl)
  try simp only [List.setIfInBounds_toArray, List.set_cons_zero, List.set_cons_succ]
  refine take_slot (i := 15) (d := 25) (v := ?_) rfl rfl (by kernel_rfl) (by kernel_rfl) (by kernel_rfl) (fun _ _ _ h => h) (Or.inl ⟨by rfl, ?_⟩) (by assumption) ?_
  rotate_left 1
  focus (intro wS hSw; (try dsimp only at hSw); go_simp; try with_reducible rfl)
  try simp only [List.setIfInBounds_toArray, List.set_cons_zero, List.set_cons_succ]
  refine take_slot (i := 16) (d := 26) (v := ?_) rfl rfl (by kernel_rfl) (by kernel_rfl) (by kernel_rfl) (fun _ _ _ h => h) (Or.inl ⟨by rfl, ?_⟩) (by assumption) ?_
  rotate_left 1
  focus (intro wS hSw; (try dsimp only at hSw); go_simp; try with_reducible rfl)
  try simp only [List.setIfInBounds_toArray, List.set_cons_zero, List.set_cons_succ]
  refine take_slot (i := 17) (d := 27) (v := ?_) rfl rfl (by kernel_rfl) (by kernel_rfl) (by kernel_rfl) (fun _ _ _ h => h) (Or.inl ⟨by rfl, ?_⟩) (by assumption) ?_
  rotate_left 1
  focus (intro wS hSw; (try dsimp only at hSw); go_simp; try with_reducible rfl)
  try simp only [List.setIfInBounds_toArray, List.set_cons_zero, List.set_cons_succ]
  refine take_slot (i := 18) (d := 28) (v := ?_) rfl rfl (by kernel_rfl) (by kernel_rfl) (by kernel_rfl) (fun _ _ _ h => h) (Or.inl ⟨by rfl, ?_⟩) (by assumption) ?_
  rotate_left 1
  focus (intro wS hSw; (try dsimp only at hSw); go_simp; try with_reducible rfl)
  try simp only [List.setIfInBounds_toArray, List.set_cons_zero, List.set_cons_succ]
  refine take_slot (i := 19) (d := 29) (v := ?_) rfl rfl (by kernel_rfl) (by kernel_rfl) (by kernel_rfl) (fun _ _ _ h => h) (Or.inl ⟨by rfl, ?_⟩) (by assumption) ?_
  rotate_left 1
  focus (intro wS hSw; (try dsimp only at hSw); go_simp; try with_reducible rfl)
  try simp only [List.setIfInBounds_toArray, List.set_cons_zero, List.set_cons_succ]
  refine take_slot (i := 20) (d := 30) (v := ?_) rfl rfl (by kernel_rfl) (by kernel_rfl) (by kernel_rfl) (fun _ _ _ h => h) (Or.inl ⟨by rfl, ?_⟩) (by assumption) ?_
  rotate_left 1
  focus (intro wS hSw; (try dsimp only at hSw); go_simp; try with_reducible rfl)
  try simp only [List.setIfInBounds_toArray, List.set_cons_zero, List.set_cons_succ]
  refine take_slot (i := 21) (d := 31) (v := ?_) rfl rfl (by kernel_rfl) (by kernel_rfl) (by kernel_rfl) (fun _ _ _ h => h) (Or.inl ⟨by rfl, ?_⟩) (by assumption) ?_
  rotate_left 1
  focus (intro wS hSw; (try dsimp only at hSw); go_simp; try with_reducible rfl)
  try simp only [List.setIfInBounds_toArray, List.set_cons_zero, List.set_cons_succ]
  refine wpAnyH_done (by kernel_rfl) ?_ _
  replace hB := hB.trans (hL.mono hB.size)
  clear hHeld hL hBW
  go_wp2_with fail
  refine (CW.out _ hB).mono ?_
  rintro e W3 ⟨rfl, hb⟩
  replace b0 := cell_next hb nb b0
  replace b1 := cell_next hb nb b1
  replace b2 := cell_next hb nb b2
  replace b3 := cell_next hb nb b3
  replace nb := Nat.lt_of_lt_of_le nb hb.size
  replace t0 := cell_next hb nt t0
  replace t1 := cell_next hb nt t1
  replace nt := Nat.lt_of_lt_of_le nt hb.size
  replace r0 := cell_next hb nr r0
  replace fr0 := frozen_next hb nr fr0
  replace r1 := cell_next hb nr r1
  replace fr1 := frozen_next hb nr fr1
  replace nr := Nat.lt_of_lt_of_le nr hb.size
  replace hB := hB.trans (hb.mono hB.size)
  clear hb
  go_wp2_with fail
  refine bodyPost_ret (v := gV X Y 0) (by simp [results, Try.results46, go_sem, r0, r1, fr0, fr1, gV]) rfl ⟨rfl, ?_⟩
  exact ((hB.setCell (p := ⟨w.heap.size + 1 + 1, 0, none⟩) (by simp <;> omega) _).setCell (p := ⟨w.heap.size + 1 + 1, 1, none⟩) (by simp <;> omega) _)

theorem rGrowth_any (v : Value) (xs : List (Int × Int)) (lim fl fh a b : Int) (w : World) (ht : tabE xs = 0) (hv : SetAt w.heap.size w v xs) :
    Calls Try.prog 46 #[.agg #[v, .int .i64 lim, .int .i64 fl, .int .i64 fh], .agg #[.int .i64 a, .int .i64 b]] w fun e w' => e = .returned (gV (vlR xs a b).1 (vlR xs a b).2 (vlE xs a b)) ∧ Below w.heap.size w w' := by
  have hT := tabOk_of ht
  obtain ⟨A, c, rfl, h⟩ := hv
  have hT1 := hT.1
  have hT2 := hT.2.1
  obtain ⟨g, off, rfl, hg, hr⟩ := h (by omega)
  obtain ⟨m, hm⟩ : ∃ m, xs.length = m + 1 := ⟨xs.length - 1, by omega⟩
  obtain ⟨p, hp⟩ : ∃ p, xs[0]? = some p := ⟨_, List.getElem?_eq_getElem (by omega)⟩
  obtain ⟨q, hq⟩ : ∃ q, xs[m]? = some q := ⟨_, List.getElem?_eq_getElem (by omega)⟩
  have hca := covB_of a hm hp hq
  have hcb := covB_of b hm hp hq
  obtain ⟨p0, p1⟩ := hr 0 p hp
  obtain ⟨q0, q1⟩ := hr m q hq
  simp only [Nat.zero_mul, Nat.add_zero] at p0 p1
  have hV := fun (hc1 : covB xs a = true) (hc2 : covB xs b = true) (W : World) (hb : Below w.heap.size w W) => rValues_at xs a b g off c hT hc1 hc2 W (Nat.lt_of_lt_of_le hg hb.size) (hr.below hb hg)
  rw [hm] at hV ⊢
  have h60 : m + 1 ≤ 60 := by omega
  by_cases hab : vrB a b = true
  · have hle : a ≤ b := by simp [vrB] at hab; omega
    by_cases h1 : a < p.1
    · have e0 : covB xs a = false := by rw [hca]; simp; omega
      have e1 : vlE xs a b = 3 := by unfold vlE; rw [if_pos ht, if_pos hab, if_neg (by rw [e0]; simp)]
      have e2 : vlR xs a b = (0, 0) := by unfold vlR; rw [e1]; rfl
      rw [e1, e2]
      exact rGrowth_low g off c m lim fl fh a b p.1 q.1 h60 w hg p0 q0 hab (by simpa using h1)
    · by_cases h2 : q.1 < b
      · have e0 : covB xs b = false := by rw [hcb]; simp; omega
        have e1 : vlE xs a b = 3 := by unfold vlE; rw [if_pos ht, if_pos hab, if_neg (by rw [e0]; simp)]
        have e2 : vlR xs a b = (0, 0) := by unfold vlR; rw [e1]; rfl
        rw [e1, e2]
        exact rGrowth_high g off c m lim fl fh a b p.1 q.1 h60 w hg p0 q0 hab (by simpa using h1) (by simpa using h2)
      · have ea : covB xs a = true := by rw [hca]; simp; omega
        have eb : covB xs b = true := by rw [hcb]; simp; omega
        have e1 : vlE xs a b = 0 := by unfold vlE; rw [if_pos ht, if_pos hab, if_pos ⟨ea, eb⟩]
        have e2 : vlR xs a b = valsV xs a b := by unfold vlR; rw [if_pos e1]
        rw [e1, e2]
        exact rGrowth_fine g off c m lim fl fh a b p.1 q.1 h60 w hg p0 q0 hab (by simpa using h1) (by simpa using h2) _ _ (hV ea eb)
  · have e1 : vlE xs a b = 2 := by unfold vlE; rw [if_pos ht, if_neg hab]
    have e2 : vlR xs a b = (0, 0) := by unfold vlR; rw [e1]; rfl
    rw [e1, e2]
    exact rGrowth_range g off c m lim fl fh a b p.1 q.1 h60 w hg p0 q0 (by simpa using hab)

open Go.RowKit Go.Lib Go.Shelf
set_option linter.unusedVariables false
set_option linter.unusedSimpArgs false
attribute [local go_sem ↓] Go.wp_at_zero Go.wp_at_succ

def kV (x : Int × Int × Int) : Value := .tuple #[.int .i64 x.1, .int .i64 x.2.1, .int .i64 x.2.2]
theorem kp_bad {xs l : List (Int × Int)} {lim fl fh lo hi : Int} (h : (ruB xs lim fl fh && rgB 0 1000000 lo hi) = false) : kpV xs lim fl fh lo hi l = (0, 0, 2) := by
  unfold kpV
  rw [if_neg (by rw [h]; simp)]
theorem kp_long {xs l : List (Int × Int)} {lim fl fh lo hi : Int} (h : (ruB xs lim fl fh && rgB 0 1000000 lo hi) = true) (hl : 1000 < l.length) : kpV xs lim fl fh lo hi l = (0, 0, 5) := by
  unfold kpV
  rw [if_pos h, if_pos hl]
theorem kp_err {xs l : List (Int × Int)} {lim fl fh lo hi : Int} (h : (ruB xs lim fl fh && rgB 0 1000000 lo hi) = true) (hl : l.length ≤ 1000) (k : Nat) (hk : k < l.length) (hj : ∀ j, j < k → kE xs l j = 0) (he : kE xs l k ≠ 0) : kpV xs lim fl fh lo hi l = (0, 0, kE xs l k) := by
  unfold kpV
  have e : fstI (fun k => !decide (kE xs l k = 0)) l.length = (k : Int) := fstI_at hk (by simpa using he) (fun j h => by simpa using hj j h)
  rw [if_pos h, if_neg (by omega), e, if_neg (by omega)]
  rfl
theorem kp_ok {xs l : List (Int × Int)} {lim fl fh lo hi : Int} (h : (ruB xs lim fl fh && rgB 0 1000000 lo hi) = true) (hl : l.length ≤ 1000) (hj : ∀ j, j < l.length → kE xs l j = 0) :
    kpV xs lim fl fh lo hi l = (fstI (fun k => decide (lim ≤ (kL xs l (lo, hi) (k + 1)).2)) l.length, fstI (fun k => decide (lim ≤ (kL xs l (lo, hi) (k + 1)).1)) l.length, 0) := by
  unfold kpV
  have e : fstI (fun k => !decide (kE xs l k = 0)) l.length = -1 := fstI_no (fun j h => by simpa using hj j h)
  rw [if_pos h, if_neg (by omega), e, if_pos (by omega)]
theorem ruB_of {xs : List (Int × Int)} {lim fl fh : Int} (h : ruB xs lim fl fh = true) : tabE xs = 0 ∧ yB xs = true := by
  simp only [ruB, Bool.and_eq_true, decide_eq_true_eq] at h
  exact ⟨h.1.1.1, h.1.1.2⟩
theorem rgB_of {lo hi : Int} (h : rgB 0 1000000 lo hi = true) : (0 ≤ lo ∧ lo ≤ 1000000) ∧ 0 ≤ hi ∧ hi ≤ 1000000 := by
  simp [rgB, inB] at h
  omega

set_option maxRecDepth 40000 in
set_option maxHeartbeats 8000000 in
theorem keeps_any (v : Value) (xs : List (Int × Int)) (lim fl fh lo hi : Int) (v2 : Value) (l : List (Int × Int)) (w : World) (hl : xs.length ≤ 1000000) (hv : SetAt w.heap.size w v xs) (hl2 : l.length ≤ 1000000) (hv2 : SetAt w.heap.size w v2 l) :
    Calls Try.prog 11 #[.agg #[v, .int .i64 lim, .int .i64 fl, .int .i64 fh], .agg #[.int .i64 lo, .int .i64 hi], v2] w fun e w' => e = .returned (kV (kpV xs lim fl fh lo hi l)) ∧ Below w.heap.size w w' := by
  have CV := Lib.hid (fun (W : World) (h : Below w.heap.size w W) => validRules_any v xs lim fl fh W hl ((hv.below h (Nat.le_refl _)).mono h.size))
  have CL := Lib.hid (rangeIn_any 0 1000000 lo hi)
  have CG := Lib.hid (fun (a b : Int) (W : World) (h : Below w.heap.size w W) => values_any v xs a b W ((hv.below h (Nat.le_refl _)).mono h.size))
  have HB1 := Lib.hid (fun h => @kp_bad xs l lim fl fh lo hi h)
  have HB2 := Lib.hid (fun h hl => @kp_long xs l lim fl fh lo hi h hl)
  have HB3 := Lib.hid (fun h hl => @kp_err xs l lim fl fh lo hi h hl)
  have HB4 := Lib.hid (fun h hl => @kp_ok xs l lim fl fh lo hi h hl)
  have HR1 := Lib.hid (fun h => @ruB_of xs lim fl fh h)
  have HR2 := Lib.hid (fun h => @rgB_of lo hi h)
  obtain ⟨K, hK⟩ : ∃ K, kpV xs lim fl fh lo hi l = K := ⟨_, rfl⟩
  rw [hK]
  rw [hK] at HB1 HB2 HB3 HB4
  clear hK
  obtain ⟨A, c, rfl, hA⟩ := hv
  clear hA
  obtain ⟨A2, c2, rfl, hr2⟩ := hv2
  obtain ⟨n2, hn2⟩ : ∃ n, l.length = n := ⟨_, rfl⟩
  rw [hn2] at hl2 hr2 HB2 HB3 HB4 ⊢
  have Hn := Lib.hid hn2
  have HR := Lib.hid hr2
  clear hr2 hn2
  obtain ⟨n, hn⟩ : ∃ n, xs.length = n := ⟨_, rfl⟩
  rw [hn] at CV CG ⊢
  clear hn
  generalize hp1 : ruB xs lim fl fh = p at *
  generalize hp2 : rgB 0 1000000 lo hi = q at *
  go_enter Try.func11, Try.ntmps11
  go_wp2_with fail
  refine (CV.out _ (below_al2 w _ _)).mono ?_
  rintro e W1 ⟨rfl, hb⟩
  have B0 := cell_next hb (b := w.heap.size) (o := 0) (by simp <;> omega) (v := some (.slice A n c)) (by simp [go_sem])
  have B1 := cell_next hb (b := w.heap.size) (o := 1) (by simp <;> omega) (v := some (.int .i64 lim)) (by simp [go_sem])
  have B2 := cell_next hb (b := w.heap.size) (o := 2) (by simp <;> omega) (v := some (.int .i64 fl)) (by simp [go_sem])
  have B3 := cell_next hb (b := w.heap.size) (o := 3) (by simp <;> omega) (v := some (.int .i64 fh)) (by simp [go_sem])
  have nB : w.heap.size < W1.heap.size := by have := hb.size; simp at this; omega
  have D0 := cell_next hb (b := w.heap.size + 1) (o := 0) (by simp <;> omega) (v := some (.int .i64 lo)) (by simp [go_sem])
  have fD0 := frozen_next hb (b := w.heap.size + 1) (o := 0) (by simp <;> omega) (v := false) (by simp [go_sem])
  have D1 := cell_next hb (b := w.heap.size + 1) (o := 1) (by simp <;> omega) (v := some (.int .i64 hi)) (by simp [go_sem])
  have fD1 := frozen_next hb (b := w.heap.size + 1) (o := 1) (by simp <;> omega) (v := false) (by simp [go_sem])
  have nD : w.heap.size + 1 < W1.heap.size := by have := hb.size; simp at this; omega
  have hB := (below2 hb)
  clear hb
  cases p
  · go_wp2_with fail
    refine bodyPost_ret (v := kV (0, 0, 2)) (by simp [kV, results, Try.results11, go_sem]) rfl ⟨by rw [HB1.out rfl], ?_⟩
    exact hB
  · go_wp2_with fail
    refine (CL.out _).mono ?_
    rintro e W2 ⟨rfl, hb⟩
    replace B0 := cell_next hb nB B0
    replace B1 := cell_next hb nB B1
    replace B2 := cell_next hb nB B2
    replace B3 := cell_next hb nB B3
    replace nB := Nat.lt_of_lt_of_le nB hb.size
    replace D0 := cell_next hb nD D0
    replace fD0 := frozen_next hb nD fD0
    replace D1 := cell_next hb nD D1
    replace fD1 := frozen_next hb nD fD1
    replace nD := Nat.lt_of_lt_of_le nD hb.size
    replace hB := hB.trans (hb.mono hB.size)
    clear hb
    cases q
    · go_wp2_with fail
      refine bodyPost_ret (v := kV (0, 0, 2)) (by simp [kV, results, Try.results11, go_sem]) rfl ⟨by rw [HB1.out rfl], ?_⟩
      exact hB
    · clear CV CL HB1
      obtain ⟨ht, hy⟩ := HR1.out (by simp)
      obtain ⟨hd1, hd2⟩ := HR2.out (by simp)
      have HT := Lib.hid (fun a b => vlR_bd ht hy a b)
      have HLb := Lib.hid (fun k => kL_bd (l := l) ht hy (s := (lo, hi)) ⟨hd1, hd2⟩ k)
      clear hd1 hd2 ht hy HR1 HR2
      by_cases h1000 : 1000 < n2
      · have t0 : decide ((1000 : Int) < (n2 : Int)) = true := by simp; omega
        go_wp2_with fail
        refine bodyPost_ret (v := kV (0, 0, 5)) (by simp [kV, results, Try.results11, go_sem]) rfl ⟨by rw [HB2.out rfl h1000], ?_⟩
        exact hB
      · have t0 : decide ((1000 : Int) < (n2 : Int)) = false := by simp; omega
        replace HB3 := Lib.hid (HB3.out rfl (by omega))
        replace HB4 := Lib.hid (HB4.out rfl (by omega))
        clear HB2 h1000
        obtain ⟨fH, hfH⟩ : ∃ f : Nat → Bool, f = fun k => decide (lim ≤ (kL xs l (lo, hi) (k + 1)).2) := ⟨_, rfl⟩
        obtain ⟨fL, hfL⟩ : ∃ f : Nat → Bool, f = fun k => decide (lim ≤ (kL xs l (lo, hi) (k + 1)).1) := ⟨_, rfl⟩
        rw [← hfH, ← hfL] at HB4
        have HS : Hid (∀ (k : Nat) (x y : Int), l[k]? = some (x, y) → kE xs l k = vlE xs x y ∧ (kL xs l (lo, hi) (k + 1)).1 = min 1000000 ((kL xs l (lo, hi) k).1 + 1 * (vlR xs x y).1) ∧ (kL xs l (lo, hi) (k + 1)).2 = min 1000000 ((kL xs l (lo, hi) k).2 + 1 * (vlR xs x y).2)) := Lib.hid (fun k x y h => ⟨by simp [kE, List.getD, h], by simp [kL, List.getD, h], by simp [kL, List.getD, h]⟩)
        have HfH := Lib.hid (fun k => congrFun hfH k)
        have HfL := Lib.hid (fun k => congrFun hfL k)
        try dsimp only at HfH HfL
        have H0 : Hid (kL xs l (lo, hi) 0 = (lo, hi)) := Lib.hid rfl
        clear hfH hfL
        generalize kL xs l (lo, hi) = L at *
        generalize kE xs l = E at *
        go_wp2_with fail
        go_loopw [26, 6, 7] (fun i v1 v2 wr => ∃ (k : Nat) (P S : Int), k ≤ n2 ∧ i = .int .i64 (k : Int) ∧ v1 = .int .i64 P ∧ v2 = .int .i64 S ∧ Hid (P = fstI fH k) ∧ Hid (S = fstI fL k) ∧ Hid (∀ j, j < k → E j = 0) ∧ wr.cell? ⟨w.heap.size, 0, none⟩ = some (.slice A n c) ∧ wr.cell? ⟨w.heap.size, 1, none⟩ = some (.int .i64 lim) ∧ wr.cell? ⟨w.heap.size, 2, none⟩ = some (.int .i64 fl) ∧ wr.cell? ⟨w.heap.size, 3, none⟩ = some (.int .i64 fh) ∧ w.heap.size < wr.heap.size ∧ wr.cell? ⟨w.heap.size + 1, 0, none⟩ = some (.int .i64 (L k).1) ∧ wr.cell? ⟨w.heap.size + 1, 1, none⟩ = some (.int .i64 (L k).2) ∧ wr.frozen? ⟨w.heap.size + 1, 0, none⟩ = false ∧ wr.frozen? ⟨w.heap.size + 1, 1, none⟩ = false ∧ w.heap.size + 1 < wr.heap.size ∧ Below w.heap.size w wr) (fun i _ _ _ => n2 - (RowKit.intOf i).toNat)
        case atStart => exact ⟨0, -1, -1, Nat.zero_le _, rfl, rfl, rfl, Lib.hid rfl, Lib.hid rfl, Lib.hid (fun j h => absurd h (Nat.not_lt_zero j)), B0, B1, B2, B3, nB, by rw [H0.out]; exact D0, by rw [H0.out]; exact D1, fD0, fD1, nD, hB⟩
        case round =>
          clear hB H0 B0 B1 B2 B3 nB D0 D1 fD0 fD1 nD
          obtain ⟨k, P, S, hk, rfl, rfl, rfl, hP, hS, hj, B0, B1, B2, B3, nB, D0, D1, fD0, fD1, nD, hB⟩ := hrel
          by_cases hlt : k < n2
          · obtain ⟨⟨x, y⟩, hp⟩ : ∃ p, l[k]? = some p := ⟨_, List.getElem?_eq_getElem (by rw [Hn.out]; exact hlt)⟩
            obtain ⟨gg, off, rfl, hg, hc⟩ := HR.out (by omega)
            obtain ⟨q0, q1⟩ := hc k _ hp
            replace q0 := cell_next hB hg q0
            replace q1 := cell_next hB hg q1
            dsimp only at q0 q1
            have hgw : gg < wr.heap.size := by have := hB.size; omega
            obtain ⟨s1, s2, s3⟩ := HS.out k x y hp
            have hbd := HT.out x y
            have hbl := HLb.out k
            have cg := CG.out x y
            obtain ⟨X, hX⟩ : ∃ z, (vlR xs x y).1 = z := ⟨_, rfl⟩
            obtain ⟨Y, hY⟩ : ∃ z, (vlR xs x y).2 = z := ⟨_, rfl⟩
            obtain ⟨e, he⟩ : ∃ z, vlE xs x y = z := ⟨_, rfl⟩
            rw [hX, hY] at hbd cg
            rw [hX] at s2
            rw [hY] at s3
            rw [he] at s1 cg
            have CG1 := Lib.hid cg
            have S1 := Lib.hid s1
            have S2 := Lib.hid s2
            have S3 := Lib.hid s3
            have HBD := Lib.hid hbd
            have HBL := Lib.hid hbl
            have t1 : decide ((k : Int) < (n2 : Int)) = true := by simp; omega
            have wk : IntKind.i64.wrap ((k : Int) + 1) = ((k + 1 : Nat) : Int) := IntWalk.i64_in _ (by omega)
            clear hX hY he s1 s2 s3 hbd hbl cg hc hp HS HT HLb CG
            go_wp2_with fail
            refine (CG1.out (wr.alloc (Obj.cells #[.int .i64 x, .int .i64 y] 24)) (hB.alloc hB.size _)).mono ?_
            rintro e' W3 ⟨rfl, hb⟩
            replace B0 := cell_next (below1 hb) nB B0
            replace B1 := cell_next (below1 hb) nB B1
            replace B2 := cell_next (below1 hb) nB B2
            replace B3 := cell_next (below1 hb) nB B3
            replace nB := Nat.lt_of_lt_of_le nB (below1 hb).size
            replace D0 := cell_next (below1 hb) nD D0
            replace fD0 := frozen_next (below1 hb) nD fD0
            replace D1 := cell_next (below1 hb) nD D1
            replace fD1 := frozen_next (below1 hb) nD fD1
            replace nD := Nat.lt_of_lt_of_le nD (below1 hb).size
            have e0 := cell_next hb (b := wr.heap.size) (o := 0) (by simp <;> omega) (v := some (.int .i64 x)) (by simp [go_sem])
            have e1 := cell_next hb (b := wr.heap.size) (o := 1) (by simp <;> omega) (v := some (.int .i64 y)) (by simp [go_sem])
            have ne : wr.heap.size < W3.heap.size := by have := hb.size; simp at this; omega
            replace hB := hB.trans ((below1 hb).mono hB.size)
            clear hb
            generalize wr.heap.size = q3 at *
            clear e0 e1 ne
            by_cases he0 : e = 0
            · have t2 : decide (e = 0) = true := by simpa using he0
              have t3 : (e == 0) = true := by simpa using he0
              go_wp2_with fail
              refine (grown_any (L k).1 (L k).2 X Y 1 HBL.out.1 HBL.out.2 (by have := HBD.out; omega) (by have := HBD.out; omega) (by omega) _).mono ?_
              rintro e W4 ⟨rfl, hb⟩
              replace B0 := cell_next (below1 hb) nB B0
              replace B1 := cell_next (below1 hb) nB B1
              replace B2 := cell_next (below1 hb) nB B2
              replace B3 := cell_next (below1 hb) nB B3
              replace nB := Nat.lt_of_lt_of_le nB (below1 hb).size
              replace D0 := cell_next (below1 hb) nD D0
              replace fD0 := frozen_next (below1 hb) nD fD0
              replace D1 := cell_next (below1 hb) nD D1
              replace fD1 := frozen_next (below1 hb) nD fD1
              replace nD := Nat.lt_of_lt_of_le nD (below1 hb).size
              have N0 := cell_next hb (b := W3.heap.size) (o := 0) (by simp <;> omega) (v := some (.int .i64 X)) (by simp [go_sem])
              have N1 := cell_next hb (b := W3.heap.size) (o := 1) (by simp <;> omega) (v := some (.int .i64 Y)) (by simp [go_sem])
              have nN : W3.heap.size < W4.heap.size := by have := hb.size; simp at this; omega
              replace hB := hB.trans ((below1 hb).mono hB.size)
              clear hb
              generalize W3.heap.size = q4 at *
              clear N0 N1 nN
              rw [← S2.out, ← S3.out]
              have hk1 := HfH.out k
              have hk2 := HfL.out k
              generalize hM : L (k + 1) = M at *
              obtain ⟨u1, hu1⟩ : ∃ u, decide (P < 0) = u := ⟨_, rfl⟩
              obtain ⟨u2, hu2⟩ : ∃ u, decide (S < 0) = u := ⟨_, rfl⟩
              obtain ⟨r1, hr1⟩ : ∃ u, decide (lim ≤ M.2) = u := ⟨_, rfl⟩
              obtain ⟨r2, hr2⟩ : ∃ u, decide (lim ≤ M.1) = u := ⟨_, rfl⟩
              rw [hr1] at hk1
              rw [hr2] at hk2
              have hPn : Hid (fstI fH (k + 1) = if u1 && r1 then (k : Int) else P) := Lib.hid (by
                have hp := hP.out
                subst hp
                cases u1
                · rw [fstI_keep (by simp at hu1; omega)]; rfl
                · cases r1
                  · rw [fstI_miss (by simp at hu1; omega) hk1]; rfl
                  · rw [fstI_hit (by simp at hu1; omega) hk1]; rfl)
              have hSn : Hid (fstI fL (k + 1) = if u2 && r2 then (k : Int) else S) := Lib.hid (by
                have hp := hS.out
                subst hp
                cases u2
                · rw [fstI_keep (by simp at hu2; omega)]; rfl
                · cases r2
                  · rw [fstI_miss (by simp at hu2; omega) hk2]; rfl
                  · rw [fstI_hit (by simp at hu2; omega) hk2]; rfl)
              have hjn : Hid (∀ j, j < k + 1 → E j = 0) := Lib.hid (fun j h => by
                rcases Nat.lt_or_ge j k with h | h
                · exact hj.out j h
                · obtain rfl : j = k := by omega
                  rw [S1.out, he0])
              clear hk1 hk2 hP hS hj HB3 HB4 HfH HfL CG1 S1 S2 S3 HBD HBL
              have hD0 : w.heap.size ≤ w.heap.size + 1 := by omega
              cases u1 <;> cases r1 <;> cases u2 <;> cases r2
              all_goals
                go_wp2_with fail
                go_roundw
                case rel =>
                  refine ⟨k + 1, _, _, by omega, by go_num, rfl, rfl, Lib.hid hPn.out.symm, Lib.hid hSn.out.symm, hjn, ?_, ?_, ?_, ?_, ?_, ?_, ?_, ?_, ?_, ?_, (hB.setCell (p := ⟨w.heap.size + 1, 0, none⟩) hD0 _).setCell (p := ⟨w.heap.size + 1, 1, none⟩) hD0 _⟩
                  all_goals first | (simp [go_sem, *]; done) | (rw [hM]; simp [go_sem, *]; done) | (simp [World.setCell]; omega)
                case measure => simp [RowKit.intOf]; omega
            · have t2 : decide (e = 0) = false := by simpa using he0
              have t3 : (e == 0) = false := by simpa using he0
              have e1 : K = (0, 0, e) := by rw [HB3.out k hlt hj.out (by rw [S1.out]; exact he0), S1.out]
              clear HB3 HB4 HfH HfL CG1 S1 S2 S3 HBD HBL HR Hn hj hP hS
              subst e1
              go_wp2_with fail
              refine bodyPost_ret (v := kV (0, 0, e)) (by simp [kV, results, Try.results11, go_sem]) rfl ⟨rfl, hB.alloc hB.size _⟩
          · obtain rfl : k = n2 := by omega
            have e1 : K = (P, S, 0) := by rw [HB4.out hj.out, ← hP.out, ← hS.out]
            have t1 : decide ((k : Int) < (k : Int)) = false := by simp
            clear HB3 HB4 HS HT HLb HfH HfL CG HR Hn hj hP hS
            subst e1
            go_wp2_with fail
            refine bodyPost_ret (v := kV (P, S, 0)) (by simp [kV, results, Try.results11, go_sem]) rfl ⟨rfl, hB⟩

set_option maxRecDepth 40000 in
set_option maxHeartbeats 8000000 in
theorem rKeeps_any (v : Value) (xs : List (Int × Int)) (lim fl fh lo hi : Int) (v2 : Value) (l : List (Int × Int)) (w : World) (hl : xs.length ≤ 1000000) (hv : SetAt w.heap.size w v xs) (hl2 : l.length ≤ 1000000) (hv2 : SetAt w.heap.size w v2 l) :
    Calls Try.prog 13 #[.agg #[v, .int .i64 lim, .int .i64 fl, .int .i64 fh], .agg #[.int .i64 lo, .int .i64 hi], v2] w fun e w' => e = .returned (kV (kpV xs lim fl fh lo hi l)) ∧ Below w.heap.size w w' := by
  have CV := Lib.hid (fun (W : World) (h : Below w.heap.size w W) => rRules_any v xs lim fl fh W hl ((hv.below h (Nat.le_refl _)).mono h.size))
  have CL := Lib.hid (rLoad_any lo hi)
  have CG := Lib.hid (fun (ht : tabE xs = 0) (a b : Int) (W : World) (h : Below w.heap.size w W) => rGrowth_any v xs lim fl fh a b W ht ((hv.below h (Nat.le_refl _)).mono h.size))
  simp only [gV] at CG
  have HB1 := Lib.hid (fun h => @kp_bad xs l lim fl fh lo hi h)
  have HB2 := Lib.hid (fun h hl => @kp_long xs l lim fl fh lo hi h hl)
  have HB3 := Lib.hid (fun h hl => @kp_err xs l lim fl fh lo hi h hl)
  have HB4 := Lib.hid (fun h hl => @kp_ok xs l lim fl fh lo hi h hl)
  have HR1 := Lib.hid (fun h => @ruB_of xs lim fl fh h)
  have HR2 := Lib.hid (fun h => @rgB_of lo hi h)
  obtain ⟨K, hK⟩ : ∃ K, kpV xs lim fl fh lo hi l = K := ⟨_, rfl⟩
  rw [hK]
  rw [hK] at HB1 HB2 HB3 HB4
  clear hK
  obtain ⟨A, c, rfl, hA⟩ := hv
  clear hA
  obtain ⟨A2, c2, rfl, hr2⟩ := hv2
  obtain ⟨n2, hn2⟩ : ∃ n, l.length = n := ⟨_, rfl⟩
  rw [hn2] at hl2 hr2 HB2 HB3 HB4 ⊢
  have Hn := Lib.hid hn2
  have HR := Lib.hid hr2
  clear hr2 hn2
  obtain ⟨n, hn⟩ : ∃ n, xs.length = n := ⟨_, rfl⟩
  rw [hn] at CV CG ⊢
  clear hn
  generalize hp1 : ruB xs lim fl fh = p at *
  generalize hp2 : rgB 0 1000000 lo hi = q at *
  go_enter Try.func13, Try.ntmps13
  go_wp2_with fail
  refine (CV.out _ (below_al2 w _ _)).mono ?_
  rintro e W1 ⟨rfl, hb⟩
  have B0 := cell_next hb (b := w.heap.size) (o := 0) (by simp <;> omega) (v := some (.slice A n c)) (by simp [go_sem])
  have B1 := cell_next hb (b := w.heap.size) (o := 1) (by simp <;> omega) (v := some (.int .i64 lim)) (by simp [go_sem])
  have B2 := cell_next hb (b := w.heap.size) (o := 2) (by simp <;> omega) (v := some (.int .i64 fl)) (by simp [go_sem])
  have B3 := cell_next hb (b := w.heap.size) (o := 3) (by simp <;> omega) (v := some (.int .i64 fh)) (by simp [go_sem])
  have nB : w.heap.size < W1.heap.size := by have := hb.size; simp at this; omega
  have D0 := cell_next hb (b := w.heap.size + 1) (o := 0) (by simp <;> omega) (v := some (.int .i64 lo)) (by simp [go_sem])
  have fD0 := frozen_next hb (b := w.heap.size + 1) (o := 0) (by simp <;> omega) (v := false) (by simp [go_sem])
  have D1 := cell_next hb (b := w.heap.size + 1) (o := 1) (by simp <;> omega) (v := some (.int .i64 hi)) (by simp [go_sem])
  have fD1 := frozen_next hb (b := w.heap.size + 1) (o := 1) (by simp <;> omega) (v := false) (by simp [go_sem])
  have nD : w.heap.size + 1 < W1.heap.size := by have := hb.size; simp at this; omega
  have hB := (below2 hb)
  clear hb
  cases p
  · go_wp2_with fail
    refine bodyPost_ret (v := kV (0, 0, 2)) (by simp [kV, results, Try.results13, go_sem]) rfl ⟨by rw [HB1.out rfl], ?_⟩
    exact hB
  · go_wp2_with fail
    refine (CL.out _).mono ?_
    rintro e W2 ⟨rfl, hb⟩
    replace B0 := cell_next hb nB B0
    replace B1 := cell_next hb nB B1
    replace B2 := cell_next hb nB B2
    replace B3 := cell_next hb nB B3
    replace nB := Nat.lt_of_lt_of_le nB hb.size
    replace D0 := cell_next hb nD D0
    replace fD0 := frozen_next hb nD fD0
    replace D1 := cell_next hb nD D1
    replace fD1 := frozen_next hb nD fD1
    replace nD := Nat.lt_of_lt_of_le nD hb.size
    replace hB := hB.trans (hb.mono hB.size)
    clear hb
    cases q
    · go_wp2_with fail
      refine bodyPost_ret (v := kV (0, 0, 2)) (by simp [kV, results, Try.results13, go_sem]) rfl ⟨by rw [HB1.out rfl], ?_⟩
      exact hB
    · clear CV CL HB1
      obtain ⟨ht, hy⟩ := HR1.out (by simp)
      obtain ⟨hd1, hd2⟩ := HR2.out (by simp)
      have HT := Lib.hid (fun a b => vlR_bd ht hy a b)
      have HLb := Lib.hid (fun k => kL_bd (l := l) ht hy (s := (lo, hi)) ⟨hd1, hd2⟩ k)
      replace CG := Lib.hid (CG.out ht)
      clear hd1 hd2 ht hy HR1 HR2
      by_cases h1000 : 1000 < n2
      · have t0 : decide ((1000 : Int) < (n2 : Int)) = true := by simp; omega
        go_wp2_with fail
        refine bodyPost_ret (v := kV (0, 0, 5)) (by simp [kV, results, Try.results13, go_sem]) rfl ⟨by rw [HB2.out rfl h1000], ?_⟩
        exact hB
      · have t0 : decide ((1000 : Int) < (n2 : Int)) = false := by simp; omega
        replace HB3 := Lib.hid (HB3.out rfl (by omega))
        replace HB4 := Lib.hid (HB4.out rfl (by omega))
        clear HB2 h1000
        obtain ⟨fH, hfH⟩ : ∃ f : Nat → Bool, f = fun k => decide (lim ≤ (kL xs l (lo, hi) (k + 1)).2) := ⟨_, rfl⟩
        obtain ⟨fL, hfL⟩ : ∃ f : Nat → Bool, f = fun k => decide (lim ≤ (kL xs l (lo, hi) (k + 1)).1) := ⟨_, rfl⟩
        rw [← hfH, ← hfL] at HB4
        have HS : Hid (∀ (k : Nat) (x y : Int), l[k]? = some (x, y) → kE xs l k = vlE xs x y ∧ (kL xs l (lo, hi) (k + 1)).1 = min 1000000 ((kL xs l (lo, hi) k).1 + 1 * (vlR xs x y).1) ∧ (kL xs l (lo, hi) (k + 1)).2 = min 1000000 ((kL xs l (lo, hi) k).2 + 1 * (vlR xs x y).2)) := Lib.hid (fun k x y h => ⟨by simp [kE, List.getD, h], by simp [kL, List.getD, h], by simp [kL, List.getD, h]⟩)
        have HfH := Lib.hid (fun k => congrFun hfH k)
        have HfL := Lib.hid (fun k => congrFun hfL k)
        try dsimp only at HfH HfL
        have H0 : Hid (kL xs l (lo, hi) 0 = (lo, hi)) := Lib.hid rfl
        clear hfH hfL
        generalize kL xs l (lo, hi) = L at *
        generalize kE xs l = E at *
        go_wp2_with fail
        go_loopw [11, 9, 10] (fun i v1 v2 wr => ∃ (k : Nat) (P S : Int), k ≤ n2 ∧ i = .int .i64 (k : Int) ∧ v1 = .int .i64 P ∧ v2 = .int .i64 S ∧ Hid (P = fstI fH k) ∧ Hid (S = fstI fL k) ∧ Hid (∀ j, j < k → E j = 0) ∧ wr.cell? ⟨w.heap.size, 0, none⟩ = some (.slice A n c) ∧ wr.cell? ⟨w.heap.size, 1, none⟩ = some (.int .i64 lim) ∧ wr.cell? ⟨w.heap.size, 2, none⟩ = some (.int .i64 fl) ∧ wr.cell? ⟨w.heap.size, 3, none⟩ = some (.int .i64 fh) ∧ w.heap.size < wr.heap.size ∧ wr.cell? ⟨w.heap.size + 1, 0, none⟩ = some (.int .i64 (L k).1) ∧ wr.cell? ⟨w.heap.size + 1, 1, none⟩ = some (.int .i64 (L k).2) ∧ wr.frozen? ⟨w.heap.size + 1, 0, none⟩ = false ∧ wr.frozen? ⟨w.heap.size + 1, 1, none⟩ = false ∧ w.heap.size + 1 < wr.heap.size ∧ Below w.heap.size w wr) (fun i _ _ _ => n2 - (RowKit.intOf i).toNat)
        case atStart => exact ⟨0, -1, -1, Nat.zero_le _, rfl, rfl, rfl, Lib.hid rfl, Lib.hid rfl, Lib.hid (fun j h => absurd h (Nat.not_lt_zero j)), B0, B1, B2, B3, nB, by rw [H0.out]; exact D0, by rw [H0.out]; exact D1, fD0, fD1, nD, hB⟩
        case round =>
          clear hB H0 B0 B1 B2 B3 nB D0 D1 fD0 fD1 nD
          obtain ⟨k, P, S, hk, rfl, rfl, rfl, hP, hS, hj, B0, B1, B2, B3, nB, D0, D1, fD0, fD1, nD, hB⟩ := hrel
          by_cases hlt : k < n2
          · obtain ⟨⟨x, y⟩, hp⟩ : ∃ p, l[k]? = some p := ⟨_, List.getElem?_eq_getElem (by rw [Hn.out]; exact hlt)⟩
            obtain ⟨gg, off, rfl, hg, hc⟩ := HR.out (by omega)
            obtain ⟨q0, q1⟩ := hc k _ hp
            replace q0 := cell_next hB hg q0
            replace q1 := cell_next hB hg q1
            dsimp only at q0 q1
            have hgw : gg < wr.heap.size := by have := hB.size; omega
            obtain ⟨s1, s2, s3⟩ := HS.out k x y hp
            have hbd := HT.out x y
            have hbl := HLb.out k
            have cg := CG.out x y
            obtain ⟨X, hX⟩ : ∃ z, (vlR xs x y).1 = z := ⟨_, rfl⟩
            obtain ⟨Y, hY⟩ : ∃ z, (vlR xs x y).2 = z := ⟨_, rfl⟩
            obtain ⟨e, he⟩ : ∃ z, vlE xs x y = z := ⟨_, rfl⟩
            rw [hX, hY] at hbd cg
            rw [hX] at s2
            rw [hY] at s3
            rw [he] at s1 cg
            have CG1 := Lib.hid cg
            have S1 := Lib.hid s1
            have S2 := Lib.hid s2
            have S3 := Lib.hid s3
            have HBD := Lib.hid hbd
            have HBL := Lib.hid hbl
            have t1 : decide ((k : Int) < (n2 : Int)) = true := by simp; omega
            have wk : IntKind.i64.wrap ((k : Int) + 1) = ((k + 1 : Nat) : Int) := IntWalk.i64_in _ (by omega)
            clear hX hY he s1 s2 s3 hbd hbl cg hc hp HS HT HLb CG
            go_wp2_with fail
            have hBW : wr.heap.size ≤ wr.heap.size := Nat.le_refl _
            refine wp_region_held_drew (S := fun w' => w'.cell? ⟨w.heap.size, 0, none⟩ = some (.slice A n c) ∧ w'.cell? ⟨w.heap.size, 1, none⟩ = some (.int .i64 lim) ∧ w'.cell? ⟨w.heap.size, 2, none⟩ = some (.int .i64 fl) ∧ w'.cell? ⟨w.heap.size, 3, none⟩ = some (.int .i64 fh) ∧ w'.cell? ⟨gg, off + k * 2, none⟩ = some (.int .i64 x) ∧ w'.cell? ⟨gg, off + k * 2 + 1, none⟩ = some (.int .i64 y) ∧ True) (by kernel_rfl) ?_ (fun hHeld => ?_)
            focus (exact ⟨B0, B1, B2, B3, q0, q1, trivial⟩)
            have hL : Below wr.heap.size wr wr.drew := Below.drew (Below.refl _ _)
            replace B0 : wr.drew.cell? ⟨w.heap.size, 0, none⟩ = some (.slice A n c) := B0
            replace B1 : wr.drew.cell? ⟨w.heap.size, 1, none⟩ = some (.int .i64 lim) := B1
            replace B2 : wr.drew.cell? ⟨w.heap.size, 2, none⟩ = some (.int .i64 fl) := B2
            replace B3 : wr.drew.cell? ⟨w.heap.size, 3, none⟩ = some (.int .i64 fh) := B3
            replace D0 : wr.drew.cell? ⟨w.heap.size + 1, 0, none⟩ = some (.int .i64 (L k).1) := D0
            replace fD0 : wr.drew.frozen? ⟨w.heap.size + 1, 0, none⟩ = false := fD0
            replace D1 : wr.drew.cell? ⟨w.heap.size + 1, 1, none⟩ = some (.int .i64 (L k).2) := D1
            replace fD1 : wr.drew.frozen? ⟨w.heap.size + 1, 1, none⟩ = false := fD1
            replace q0 : wr.drew.cell? ⟨gg, off + k * 2, none⟩ = some (.int .i64 x) := q0
            replace q1 : wr.drew.cell? ⟨gg, off + k * 2 + 1, none⟩ = some (.int .i64 y) := q1
            replace nB : w.heap.size < wr.drew.heap.size := nB
            replace nD : w.heap.size + 1 < wr.drew.heap.size := nD
            replace hgw : gg < wr.drew.heap.size := hgw
            generalize hWd : wr.drew = wd at hHeld hL B0 B1 B2 B3 D0 fD0 D1 fD1 q0 q1 nB nD hgw  ⊢
            clear hWd
            refine take_slot (i := 0) (d := 32) (v := ?_) rfl rfl (by kernel_rfl) (by kernel_rfl) (by kernel_rfl) (fun _ _ _ h => h) (Or.inl ⟨by rfl, ?_⟩) (by assumption) ?_
            rotate_left 1
            focus (intro wS hSw; (try dsimp only at hSw); go_simp; try with_reducible rfl)
            try simp only [List.setIfInBounds_toArray, List.set_cons_zero, List.set_cons_succ]
            refine take_slot (i := 1) (d := 33) (v := ?_) rfl rfl (by kernel_rfl) (by kernel_rfl) (by kernel_rfl) (fun _ _ _ h => h) (Or.inl ⟨by rfl, ?_⟩) (by assumption) ?_
            rotate_left 1
            focus (intro wS hSw; (try dsimp only at hSw); go_simp; try with_reducible rfl)
            try simp only [List.setIfInBounds_toArray, List.set_cons_zero, List.set_cons_succ]
            refine take_slot (i := 2) (d := 34) (v := ?_) rfl rfl (by kernel_rfl) (by kernel_rfl) (by kernel_rfl) (fun _ _ _ h => h) (Or.inl ⟨by rfl, ?_⟩) (by assumption) ?_
            rotate_left 1
            focus (intro wS hSw; (try dsimp only at hSw); go_simp; try with_reducible rfl)
            try simp only [List.setIfInBounds_toArray, List.set_cons_zero, List.set_cons_succ]
            refine take_slot (i := 3) (d := 35) (v := ?_) rfl rfl (by kernel_rfl) (by kernel_rfl) (by kernel_rfl) (fun _ _ _ h => h) (Or.inl ⟨by rfl, ?_⟩) (by assumption) ?_
            rotate_left 1
            focus (intro wS hSw; (try dsimp only at hSw); go_simp; try with_reducible rfl)
            try simp only [List.setIfInBounds_toArray, List.set_cons_zero, List.set_cons_succ]
            refine take_slot (i := 4) (d := 36) (v := ?_) rfl rfl (by kernel_rfl) (by kernel_rfl) (by kernel_rfl) (fun _ _ _ h => h) (Or.inl ⟨by rfl, ?_⟩) (by assumption) ?_
            rotate_left 1
            focus (intro wS hSw; (try dsimp only at hSw); go_simp; try with_reducible rfl)
            try simp only [List.setIfInBounds_toArray, List.set_cons_zero, List.set_cons_succ]
            refine wpAnyH_ready (rs := [5, 9]) (by kernel_rfl) (by simp) ?_
            refine AllReadyH.cons rfl (fun K hK => ?_) (AllReadyH.cons rfl (fun K hK => ?_) AllReadyH.nil)
            · go_simp
              refine (CG1.out _ (hB.trans (hL.mono hB.size))).mono ?_
              rintro e Z1 ⟨rfl, hb⟩
              replace B0 := cell_next hb nB B0
              replace B1 := cell_next hb nB B1
              replace B2 := cell_next hb nB B2
              replace B3 := cell_next hb nB B3
              replace D0 := cell_next hb nD D0
              replace fD0 := frozen_next hb nD fD0
              replace D1 := cell_next hb nD D1
              replace fD1 := frozen_next hb nD fD1
              replace q0 := cell_next hb hgw q0
              replace q1 := cell_next hb hgw q1
              replace nB := Nat.lt_of_lt_of_le nB hb.size
              replace nD := Nat.lt_of_lt_of_le nD hb.size
              replace hgw := Nat.lt_of_lt_of_le hgw hb.size
              replace hL := hL.trans (hb.mono (Nat.le_trans hBW hL.size))
              refine hK.out _ _ ⟨B0, B1, B2, B3, q0, q1, trivial⟩ (fun hHeld => ?_)
              clear hK K hb
              try simp only [Act.put, List.setIfInBounds_toArray, List.set_cons_zero, List.set_cons_succ]
              refine take_slot (i := 6) (d := 31) (v := ?_) rfl rfl (by kernel_rfl) (by kernel_rfl) (by kernel_rfl) (fun _ _ _ h => h) (Or.inl ⟨by rfl, ?_⟩) (by assumption) ?_
              rotate_left 1
              focus (intro wS hSw; (try dsimp only at hSw); go_simp; try with_reducible rfl)
              try simp only [List.setIfInBounds_toArray, List.set_cons_zero, List.set_cons_succ]
              refine take_slot (i := 7) (d := 38) (v := ?_) rfl rfl (by kernel_rfl) (by kernel_rfl) (by kernel_rfl) (fun _ _ _ h => h) (Or.inl ⟨by rfl, ?_⟩) (by assumption) ?_
              rotate_left 1
              focus (intro wS hSw; (try dsimp only at hSw); go_simp; try with_reducible rfl)
              try simp only [List.setIfInBounds_toArray, List.set_cons_zero, List.set_cons_succ]
              refine take_slot (i := 8) (d := 39) (v := ?_) rfl rfl (by kernel_rfl) (by kernel_rfl) (by kernel_rfl) (fun _ _ _ h => h) (Or.inl ⟨by rfl, ?_⟩) (by assumption) ?_
              rotate_left 1
              focus (intro wS hSw; (try dsimp only at hSw); go_simp; try with_reducible rfl)
              try simp only [List.setIfInBounds_toArray, List.set_cons_zero, List.set_cons_succ]
              refine wpAnyH_ready (rs := [9]) (by kernel_rfl) (by simp) ?_
              refine AllReadyH.cons rfl (fun K hK => ?_) AllReadyH.nil
              go_simp
              have hb := (Below.refl Z1.heap.size Z1).alloc (Nat.le_refl _) (Obj.cells #[.int .i64 0, .int .i64 0] 24)
              have szZ2 := hL.size
              have ord2nB := nB
              have ord2nD := nD
              have ord2hgw := hgw
              replace B0 := cell_next hb nB B0
              replace B1 := cell_next hb nB B1
              replace B2 := cell_next hb nB B2
              replace B3 := cell_next hb nB B3
              replace D0 := cell_next hb nD D0
              replace fD0 := frozen_next hb nD fD0
              replace D1 := cell_next hb nD D1
              replace fD1 := frozen_next hb nD fD1
              replace q0 := cell_next hb hgw q0
              replace q1 := cell_next hb hgw q1
              replace nB := Nat.lt_of_lt_of_le nB hb.size
              replace nD := Nat.lt_of_lt_of_le nD hb.size
              replace hgw := Nat.lt_of_lt_of_le hgw hb.size
              replace hL := hL.trans (hb.mono (Nat.le_trans hBW hL.size))
              have Nf0 : (Z1.alloc (Obj.cells #[.int .i64 0, .int .i64 0] 24)).frozen? ⟨Z1.heap.size, 0, none⟩ = false := by simp [go_sem]
              have Nf1 : (Z1.alloc (Obj.cells #[.int .i64 0, .int .i64 0] 24)).frozen? ⟨Z1.heap.size, 1, none⟩ = false := by simp [go_sem]
              have N0 : (Z1.alloc (Obj.cells #[.int .i64 0, .int .i64 0] 24)).cell? ⟨Z1.heap.size, 0, none⟩ = some (.int .i64 0) := cell_new _ _ _ 0
              have N1 : (Z1.alloc (Obj.cells #[.int .i64 0, .int .i64 0] 24)).cell? ⟨Z1.heap.size, 1, none⟩ = some (.int .i64 0) := cell_new _ _ _ 1
              have nN : Z1.heap.size < (Z1.alloc (Obj.cells #[.int .i64 0, .int .i64 0] 24)).heap.size := by simp
              refine hK.out _ _ ⟨B0, B1, B2, B3, q0, q1, trivial⟩ (fun hHeld => ?_)
              clear hK K hb
              generalize Z1.alloc (Obj.cells #[.int .i64 0, .int .i64 0] 24) = Z2 at *
              try simp only [Act.put, List.setIfInBounds_toArray, List.set_cons_zero, List.set_cons_succ]
              refine wpAnyH_ready (rs := [10]) (by kernel_rfl) (by simp) ?_
              refine AllReadyH.cons rfl (fun K hK => ?_) AllReadyH.nil
              go_simp
              replace B0 : ((Z2.setCell ⟨Z1.heap.size, 0, none⟩ (.int .i64 X)).setCell ⟨Z1.heap.size, 1, none⟩ (.int .i64 Y)).cell? ⟨w.heap.size, 0, none⟩ = some (.slice A n c) := ((World.cell?_setCell_other _ _ _ _ (by intro e; injection e with e1 e2; omega)).trans ((World.cell?_setCell_other _ _ _ _ (by intro e; injection e with e1 e2; omega)).trans B0))
              replace B1 : ((Z2.setCell ⟨Z1.heap.size, 0, none⟩ (.int .i64 X)).setCell ⟨Z1.heap.size, 1, none⟩ (.int .i64 Y)).cell? ⟨w.heap.size, 1, none⟩ = some (.int .i64 lim) := ((World.cell?_setCell_other _ _ _ _ (by intro e; injection e with e1 e2; omega)).trans ((World.cell?_setCell_other _ _ _ _ (by intro e; injection e with e1 e2; omega)).trans B1))
              replace B2 : ((Z2.setCell ⟨Z1.heap.size, 0, none⟩ (.int .i64 X)).setCell ⟨Z1.heap.size, 1, none⟩ (.int .i64 Y)).cell? ⟨w.heap.size, 2, none⟩ = some (.int .i64 fl) := ((World.cell?_setCell_other _ _ _ _ (by intro e; injection e with e1 e2; omega)).trans ((World.cell?_setCell_other _ _ _ _ (by intro e; injection e with e1 e2; omega)).trans B2))
              replace B3 : ((Z2.setCell ⟨Z1.heap.size, 0, none⟩ (.int .i64 X)).setCell ⟨Z1.heap.size, 1, none⟩ (.int .i64 Y)).cell? ⟨w.heap.size, 3, none⟩ = some (.int .i64 fh) := ((World.cell?_setCell_other _ _ _ _ (by intro e; injection e with e1 e2; omega)).trans ((World.cell?_setCell_other _ _ _ _ (by intro e; injection e with e1 e2; omega)).trans B3))
              replace D0 : ((Z2.setCell ⟨Z1.heap.size, 0, none⟩ (.int .i64 X)).setCell ⟨Z1.heap.size, 1, none⟩ (.int .i64 Y)).cell? ⟨w.heap.size + 1, 0, none⟩ = some (.int .i64 (L k).1) := ((World.cell?_setCell_other _ _ _ _ (by intro e; injection e with e1 e2; omega)).trans ((World.cell?_setCell_other _ _ _ _ (by intro e; injection e with e1 e2; omega)).trans D0))
              replace fD0 : ((Z2.setCell ⟨Z1.heap.size, 0, none⟩ (.int .i64 X)).setCell ⟨Z1.heap.size, 1, none⟩ (.int .i64 Y)).frozen? ⟨w.heap.size + 1, 0, none⟩ = false := by simp [go_sem, fD0]
              replace D1 : ((Z2.setCell ⟨Z1.heap.size, 0, none⟩ (.int .i64 X)).setCell ⟨Z1.heap.size, 1, none⟩ (.int .i64 Y)).cell? ⟨w.heap.size + 1, 1, none⟩ = some (.int .i64 (L k).2) := ((World.cell?_setCell_other _ _ _ _ (by intro e; injection e with e1 e2; omega)).trans ((World.cell?_setCell_other _ _ _ _ (by intro e; injection e with e1 e2; omega)).trans D1))
              replace fD1 : ((Z2.setCell ⟨Z1.heap.size, 0, none⟩ (.int .i64 X)).setCell ⟨Z1.heap.size, 1, none⟩ (.int .i64 Y)).frozen? ⟨w.heap.size + 1, 1, none⟩ = false := by simp [go_sem, fD1]
              replace q0 : ((Z2.setCell ⟨Z1.heap.size, 0, none⟩ (.int .i64 X)).setCell ⟨Z1.heap.size, 1, none⟩ (.int .i64 Y)).cell? ⟨gg, off + k * 2, none⟩ = some (.int .i64 x) := ((World.cell?_setCell_other _ _ _ _ (by intro e; injection e with e1 e2; omega)).trans ((World.cell?_setCell_other _ _ _ _ (by intro e; injection e with e1 e2; omega)).trans q0))
              replace q1 : ((Z2.setCell ⟨Z1.heap.size, 0, none⟩ (.int .i64 X)).setCell ⟨Z1.heap.size, 1, none⟩ (.int .i64 Y)).cell? ⟨gg, off + k * 2 + 1, none⟩ = some (.int .i64 y) := ((World.cell?_setCell_other _ _ _ _ (by intro e; injection e with e1 e2; omega)).trans ((World.cell?_setCell_other _ _ _ _ (by intro e; injection e with e1 e2; omega)).trans q1))
              replace Nf0 : ((Z2.setCell ⟨Z1.heap.size, 0, none⟩ (.int .i64 X)).setCell ⟨Z1.heap.size, 1, none⟩ (.int .i64 Y)).frozen? ⟨Z1.heap.size, 0, none⟩ = false := by simp [go_sem, Nf0]
              replace Nf1 : ((Z2.setCell ⟨Z1.heap.size, 0, none⟩ (.int .i64 X)).setCell ⟨Z1.heap.size, 1, none⟩ (.int .i64 Y)).frozen? ⟨Z1.heap.size, 1, none⟩ = false := by simp [go_sem, Nf1]
              replace N0 : ((Z2.setCell ⟨Z1.heap.size, 0, none⟩ (.int .i64 X)).setCell ⟨Z1.heap.size, 1, none⟩ (.int .i64 Y)).cell? ⟨Z1.heap.size, 0, none⟩ = some (.int .i64 X) := by simp [go_sem, N0]
              replace N1 : ((Z2.setCell ⟨Z1.heap.size, 0, none⟩ (.int .i64 X)).setCell ⟨Z1.heap.size, 1, none⟩ (.int .i64 Y)).cell? ⟨Z1.heap.size, 1, none⟩ = some (.int .i64 Y) := by simp [go_sem, N1]
              replace nB : w.heap.size < ((Z2.setCell ⟨Z1.heap.size, 0, none⟩ (.int .i64 X)).setCell ⟨Z1.heap.size, 1, none⟩ (.int .i64 Y)).heap.size := by simpa [World.setCell] using nB
              replace nD : w.heap.size + 1 < ((Z2.setCell ⟨Z1.heap.size, 0, none⟩ (.int .i64 X)).setCell ⟨Z1.heap.size, 1, none⟩ (.int .i64 Y)).heap.size := by simpa [World.setCell] using nD
              replace hgw : gg < ((Z2.setCell ⟨Z1.heap.size, 0, none⟩ (.int .i64 X)).setCell ⟨Z1.heap.size, 1, none⟩ (.int .i64 Y)).heap.size := by simpa [World.setCell] using hgw
              replace nN : Z1.heap.size < ((Z2.setCell ⟨Z1.heap.size, 0, none⟩ (.int .i64 X)).setCell ⟨Z1.heap.size, 1, none⟩ (.int .i64 Y)).heap.size := by simpa [World.setCell] using nN
              replace hL := hL.setCell (p := ⟨Z1.heap.size, 0, none⟩) (by show wr.heap.size ≤ Z1.heap.size; omega) (.int .i64 X)
              replace hL := hL.setCell (p := ⟨Z1.heap.size, 1, none⟩) (by show wr.heap.size ≤ Z1.heap.size; omega) (.int .i64 Y)
              refine hK.out _ _ ⟨B0, B1, B2, B3, q0, q1, trivial⟩ (fun hHeld => ?_)
              clear hK K
              try simp only [Act.put, List.setIfInBounds_toArray, List.set_cons_zero, List.set_cons_succ]
              refine take_slot (i := 11) (d := 13) (v := ?_) rfl rfl (by kernel_rfl) (by kernel_rfl) (by kernel_rfl) (fun _ _ _ h => h) (Or.inl ⟨by rfl, ?_⟩) (by assumption) ?_
              rotate_left 1
              focus (intro wS hSw; (try dsimp only at hSw); go_simp; try with_reducible rfl)
              try simp only [List.setIfInBounds_toArray, List.set_cons_zero, List.set_cons_succ]
              refine wpAnyH_done (by kernel_rfl) ?_ _
              replace hB := hB.trans (hL.mono hB.size)
              clear hHeld hL hBW q0 q1 hgw
              generalize hN : Z1.heap.size = kN at *
              clear hN
              clear Nf0 Nf1
              by_cases he0 : e = 0
              · have t2 : decide (e = 0) = true := by simpa using he0
                have t3 : (e == 0) = true := by simpa using he0
                go_wp2_with fail
                refine (rGrown_any (L k).1 (L k).2 X Y 1 HBL.out.1 HBL.out.2 (by have := HBD.out; omega) (by have := HBD.out; omega) (by omega) _).mono ?_
                rintro e W3 ⟨rfl, hb⟩
                replace B0 := cell_next hb nB B0
                replace B1 := cell_next hb nB B1
                replace B2 := cell_next hb nB B2
                replace B3 := cell_next hb nB B3
                replace nB := Nat.lt_of_lt_of_le nB hb.size
                replace D0 := cell_next hb nD D0
                replace fD0 := frozen_next hb nD fD0
                replace D1 := cell_next hb nD D1
                replace fD1 := frozen_next hb nD fD1
                replace nD := Nat.lt_of_lt_of_le nD hb.size
                replace N0 := cell_next hb nN N0
                replace N1 := cell_next hb nN N1
                replace nN := Nat.lt_of_lt_of_le nN hb.size
                replace hB := hB.trans (hb.mono hB.size)
                clear hb
                clear N0 N1 nN
                rw [← S2.out, ← S3.out]
                have hk1 := HfH.out k
                have hk2 := HfL.out k
                generalize hM : L (k + 1) = M at *
                obtain ⟨u1, hu1⟩ : ∃ u, decide (P < 0) = u := ⟨_, rfl⟩
                obtain ⟨u2, hu2⟩ : ∃ u, decide (S < 0) = u := ⟨_, rfl⟩
                obtain ⟨r1, hr1⟩ : ∃ u, decide (lim ≤ M.2) = u := ⟨_, rfl⟩
                obtain ⟨r2, hr2⟩ : ∃ u, decide (lim ≤ M.1) = u := ⟨_, rfl⟩
                rw [hr1] at hk1
                rw [hr2] at hk2
                have hPn : Hid (fstI fH (k + 1) = if u1 && r1 then (k : Int) else P) := Lib.hid (by
                  have hp := hP.out
                  subst hp
                  cases u1
                  · rw [fstI_keep (by simp at hu1; omega)]; rfl
                  · cases r1
                    · rw [fstI_miss (by simp at hu1; omega) hk1]; rfl
                    · rw [fstI_hit (by simp at hu1; omega) hk1]; rfl)
                have hSn : Hid (fstI fL (k + 1) = if u2 && r2 then (k : Int) else S) := Lib.hid (by
                  have hp := hS.out
                  subst hp
                  cases u2
                  · rw [fstI_keep (by simp at hu2; omega)]; rfl
                  · cases r2
                    · rw [fstI_miss (by simp at hu2; omega) hk2]; rfl
                    · rw [fstI_hit (by simp at hu2; omega) hk2]; rfl)
                have hjn : Hid (∀ j, j < k + 1 → E j = 0) := Lib.hid (fun j h => by
                  rcases Nat.lt_or_ge j k with h | h
                  · exact hj.out j h
                  · obtain rfl : j = k := by omega
                    rw [S1.out, he0])
                clear hk1 hk2 hP hS hj HB3 HB4 HfH HfL CG1 S1 S2 S3 HBD HBL
                have hD0 : w.heap.size ≤ w.heap.size + 1 := by omega
                cases u1 <;> cases r1 <;> cases u2 <;> cases r2
                all_goals
                  go_wp2_with fail
                  go_roundw
                  case rel =>
                    refine ⟨k + 1, _, _, by omega, by go_num, rfl, rfl, Lib.hid hPn.out.symm, Lib.hid hSn.out.symm, hjn, ?_, ?_, ?_, ?_, ?_, ?_, ?_, ?_, ?_, ?_, (hB.setCell (p := ⟨w.heap.size + 1, 0, none⟩) hD0 _).setCell (p := ⟨w.heap.size + 1, 1, none⟩) hD0 _⟩
                    all_goals first | (simp [go_sem, *]; done) | (rw [hM]; simp [go_sem, *]; done) | (simp [World.setCell]; omega)
                  case measure => simp [RowKit.intOf]; omega
              · have t2 : decide (e = 0) = false := by simpa using he0
                have t3 : (e == 0) = false := by simpa using he0
                have e1 : K = (0, 0, e) := by rw [HB3.out k hlt hj.out (by rw [S1.out]; exact he0), S1.out]
                clear HB3 HB4 HfH HfL CG1 S1 S2 S3 HBD HBL HR Hn hj hP hS
                subst e1
                go_wp2_with fail
                refine bodyPost_ret (v := kV (0, 0, e)) (by simp [kV, results, Try.results13, go_sem]) rfl ⟨rfl, hB⟩
            · go_simp
              have hb := (Below.refl wd.heap.size wd).alloc (Nat.le_refl _) (Obj.cells #[.int .i64 0, .int .i64 0] 24)
              have szZ4 := hL.size
              have ord4nB := nB
              have ord4nD := nD
              have ord4hgw := hgw
              replace B0 := cell_next hb nB B0
              replace B1 := cell_next hb nB B1
              replace B2 := cell_next hb nB B2
              replace B3 := cell_next hb nB B3
              replace D0 := cell_next hb nD D0
              replace fD0 := frozen_next hb nD fD0
              replace D1 := cell_next hb nD D1
              replace fD1 := frozen_next hb nD fD1
              replace q0 := cell_next hb hgw q0
              replace q1 := cell_next hb hgw q1
              replace nB := Nat.lt_of_lt_of_le nB hb.size
              replace nD := Nat.lt_of_lt_of_le nD hb.size
              replace hgw := Nat.lt_of_lt_of_le hgw hb.size
              replace hL := hL.trans (hb.mono (Nat.le_trans hBW hL.size))
              have Nf0 : (wd.alloc (Obj.cells #[.int .i64 0, .int .i64 0] 24)).frozen? ⟨wd.heap.size, 0, none⟩ = false := by simp [go_sem]
              have Nf1 : (wd.alloc (Obj.cells #[.int .i64 0, .int .i64 0] 24)).frozen? ⟨wd.heap.size, 1, none⟩ = false := by simp [go_sem]
              have N0 : (wd.alloc (Obj.cells #[.int .i64 0, .int .i64 0] 24)).cell? ⟨wd.heap.size, 0, none⟩ = some (.int .i64 0) := cell_new _ _ _ 0
              have N1 : (wd.alloc (Obj.cells #[.int .i64 0, .int .i64 0] 24)).cell? ⟨wd.heap.size, 1, none⟩ = some (.int .i64 0) := cell_new _ _ _ 1
              have nN : wd.heap.size < (wd.alloc (Obj.cells #[.int .i64 0, .int .i64 0] 24)).heap.size := by simp
              refine hK.out _ _ ⟨B0, B1, B2, B3, q0, q1, trivial⟩ (fun hHeld => ?_)
              clear hK K hb
              generalize wd.alloc (Obj.cells #[.int .i64 0, .int .i64 0] 24) = Z4 at *
              try simp only [Act.put, List.setIfInBounds_toArray, List.set_cons_zero, List.set_cons_succ]
              refine wpAnyH_ready (rs := [5]) (by kernel_rfl) (by simp) ?_
              refine AllReadyH.cons rfl (fun K hK => ?_) AllReadyH.nil
              go_simp
              refine (CG1.out _ (hB.trans (hL.mono hB.size))).mono ?_
              rintro e Z5 ⟨rfl, hb⟩
              replace B0 := cell_next hb nB B0
              replace B1 := cell_next hb nB B1
              replace B2 := cell_next hb nB B2
              replace B3 := cell_next hb nB B3
              replace D0 := cell_next hb nD D0
              replace fD0 := frozen_next hb nD fD0
              replace D1 := cell_next hb nD D1
              replace fD1 := frozen_next hb nD fD1
              replace q0 := cell_next hb hgw q0
              replace q1 := cell_next hb hgw q1
              replace Nf0 := frozen_next hb nN Nf0
              replace Nf1 := frozen_next hb nN Nf1
              replace N0 := cell_next hb nN N0
              replace N1 := cell_next hb nN N1
              replace nB := Nat.lt_of_lt_of_le nB hb.size
              replace nD := Nat.lt_of_lt_of_le nD hb.size
              replace hgw := Nat.lt_of_lt_of_le hgw hb.size
              replace nN := Nat.lt_of_lt_of_le nN hb.size
              replace hL := hL.trans (hb.mono (Nat.le_trans hBW hL.size))
              refine hK.out _ _ ⟨B0, B1, B2, B3, q0, q1, trivial⟩ (fun hHeld => ?_)
              clear hK K hb
              try simp only [Act.put, List.setIfInBounds_toArray, List.set_cons_zero, List.set_cons_succ]
              refine take_slot (i := 6) (d := 31) (v := ?_) rfl rfl (by kernel_rfl) (by kernel_rfl) (by kernel_rfl) (fun _ _ _ h => h) (Or.inl ⟨by rfl, ?_⟩) (by assumption) ?_
              rotate_left 1
              focus (intro wS hSw; (try dsimp only at hSw); go_simp; try with_reducible rfl)
              try simp only [List.setIfInBounds_toArray, List.set_cons_zero, List.set_cons_succ]
              refine take_slot (i := 7) (d := 38) (v := ?_) rfl rfl (by kernel_rfl) (by kernel_rfl) (by kernel_rfl) (fun _ _ _ h => h) (Or.inl ⟨by rfl, ?_⟩) (by assumption) ?_
              rotate_left 1
              focus (intro wS hSw; (try dsimp only at hSw); go_simp; try with_reducible rfl)
              try simp only [List.setIfInBounds_toArray, List.set_cons_zero, List.set_cons_succ]
              refine take_slot (i := 8) (d := 39) (v := ?_) rfl rfl (by kernel_rfl) (by kernel_rfl) (by kernel_rfl) (fun _ _ _ h => h) (Or.inl ⟨by rfl, ?_⟩) (by assumption) ?_
              rotate_left 1
              focus (intro wS hSw; (try dsimp only at hSw); go_simp; try with_reducible rfl)
              try simp only [List.setIfInBounds_toArray, List.set_cons_zero, List.set_cons_succ]
              refine wpAnyH_ready (rs := [10]) (by kernel_rfl) (by simp) ?_
              refine AllReadyH.cons rfl (fun K hK => ?_) AllReadyH.nil
              go_simp
              replace B0 : ((Z5.setCell ⟨wd.heap.size, 0, none⟩ (.int .i64 X)).setCell ⟨wd.heap.size, 1, none⟩ (.int .i64 Y)).cell? ⟨w.heap.size, 0, none⟩ = some (.slice A n c) := ((World.cell?_setCell_other _ _ _ _ (by intro e; injection e with e1 e2; omega)).trans ((World.cell?_setCell_other _ _ _ _ (by intro e; injection e with e1 e2; omega)).trans B0))
              replace B1 : ((Z5.setCell ⟨wd.heap.size, 0, none⟩ (.int .i64 X)).setCell ⟨wd.heap.size, 1, none⟩ (.int .i64 Y)).cell? ⟨w.heap.size, 1, none⟩ = some (.int .i64 lim) := ((World.cell?_setCell_other _ _ _ _ (by intro e; injection e with e1 e2; omega)).trans ((World.cell?_setCell_other _ _ _ _ (by intro e; injection e with e1 e2; omega)).trans B1))
              replace B2 : ((Z5.setCell ⟨wd.heap.size, 0, none⟩ (.int .i64 X)).setCell ⟨wd.heap.size, 1, none⟩ (.int .i64 Y)).cell? ⟨w.heap.size, 2, none⟩ = some (.int .i64 fl) := ((World.cell?_setCell_other _ _ _ _ (by intro e; injection e with e1 e2; omega)).trans ((World.cell?_setCell_other _ _ _ _ (by intro e; injection e with e1 e2; omega)).trans B2))
              replace B3 : ((Z5.setCell ⟨wd.heap.size, 0, none⟩ (.int .i64 X)).setCell ⟨wd.heap.size, 1, none⟩ (.int .i64 Y)).cell? ⟨w.heap.size, 3, none⟩ = some (.int .i64 fh) := ((World.cell?_setCell_other _ _ _ _ (by intro e; injection e with e1 e2; omega)).trans ((World.cell?_setCell_other _ _ _ _ (by intro e; injection e with e1 e2; omega)).trans B3))
              replace D0 : ((Z5.setCell ⟨wd.heap.size, 0, none⟩ (.int .i64 X)).setCell ⟨wd.heap.size, 1, none⟩ (.int .i64 Y)).cell? ⟨w.heap.size + 1, 0, none⟩ = some (.int .i64 (L k).1) := ((World.cell?_setCell_other _ _ _ _ (by intro e; injection e with e1 e2; omega)).trans ((World.cell?_setCell_other _ _ _ _ (by intro e; injection e with e1 e2; omega)).trans D0))
              replace fD0 : ((Z5.setCell ⟨wd.heap.size, 0, none⟩ (.int .i64 X)).setCell ⟨wd.heap.size, 1, none⟩ (.int .i64 Y)).frozen? ⟨w.heap.size + 1, 0, none⟩ = false := by simp [go_sem, fD0]
              replace D1 : ((Z5.setCell ⟨wd.heap.size, 0, none⟩ (.int .i64 X)).setCell ⟨wd.heap.size, 1, none⟩ (.int .i64 Y)).cell? ⟨w.heap.size + 1, 1, none⟩ = some (.int .i64 (L k).2) := ((World.cell?_setCell_other _ _ _ _ (by intro e; injection e with e1 e2; omega)).trans ((World.cell?_setCell_other _ _ _ _ (by intro e; injection e with e1 e2; omega)).trans D1))
              replace fD1 : ((Z5.setCell ⟨wd.heap.size, 0, none⟩ (.int .i64 X)).setCell ⟨wd.heap.size, 1, none⟩ (.int .i64 Y)).frozen? ⟨w.heap.size + 1, 1, none⟩ = false := by simp [go_sem, fD1]
              replace q0 : ((Z5.setCell ⟨wd.heap.size, 0, none⟩ (.int .i64 X)).setCell ⟨wd.heap.size, 1, none⟩ (.int .i64 Y)).cell? ⟨gg, off + k * 2, none⟩ = some (.int .i64 x) := ((World.cell?_setCell_other _ _ _ _ (by intro e; injection e with e1 e2; omega)).trans ((World.cell?_setCell_other _ _ _ _ (by intro e; injection e with e1 e2; omega)).trans q0))
              replace q1 : ((Z5.setCell ⟨wd.heap.size, 0, none⟩ (.int .i64 X)).setCell ⟨wd.heap.size, 1, none⟩ (.int .i64 Y)).cell? ⟨gg, off + k * 2 + 1, none⟩ = some (.int .i64 y) := ((World.cell?_setCell_other _ _ _ _ (by intro e; injection e with e1 e2; omega)).trans ((World.cell?_setCell_other _ _ _ _ (by intro e; injection e with e1 e2; omega)).trans q1))
              replace Nf0 : ((Z5.setCell ⟨wd.heap.size, 0, none⟩ (.int .i64 X)).setCell ⟨wd.heap.size, 1, none⟩ (.int .i64 Y)).frozen? ⟨wd.heap.size, 0, none⟩ = false := by simp [go_sem, Nf0]
              replace Nf1 : ((Z5.setCell ⟨wd.heap.size, 0, none⟩ (.int .i64 X)).setCell ⟨wd.heap.size, 1, none⟩ (.int .i64 Y)).frozen? ⟨wd.heap.size, 1, none⟩ = false := by simp [go_sem, Nf1]
              replace N0 : ((Z5.setCell ⟨wd.heap.size, 0, none⟩ (.int .i64 X)).setCell ⟨wd.heap.size, 1, none⟩ (.int .i64 Y)).cell? ⟨wd.heap.size, 0, none⟩ = some (.int .i64 X) := by simp [go_sem, N0]
              replace N1 : ((Z5.setCell ⟨wd.heap.size, 0, none⟩ (.int .i64 X)).setCell ⟨wd.heap.size, 1, none⟩ (.int .i64 Y)).cell? ⟨wd.heap.size, 1, none⟩ = some (.int .i64 Y) := by simp [go_sem, N1]
              replace nB : w.heap.size < ((Z5.setCell ⟨wd.heap.size, 0, none⟩ (.int .i64 X)).setCell ⟨wd.heap.size, 1, none⟩ (.int .i64 Y)).heap.size := by simpa [World.setCell] using nB
              replace nD : w.heap.size + 1 < ((Z5.setCell ⟨wd.heap.size, 0, none⟩ (.int .i64 X)).setCell ⟨wd.heap.size, 1, none⟩ (.int .i64 Y)).heap.size := by simpa [World.setCell] using nD
              replace hgw : gg < ((Z5.setCell ⟨wd.heap.size, 0, none⟩ (.int .i64 X)).setCell ⟨wd.heap.size, 1, none⟩ (.int .i64 Y)).heap.size := by simpa [World.setCell] using hgw
              replace nN : wd.heap.size < ((Z5.setCell ⟨wd.heap.size, 0, none⟩ (.int .i64 X)).setCell ⟨wd.heap.size, 1, none⟩ (.int .i64 Y)).heap.size := by simpa [World.setCell] using nN
              replace hL := hL.setCell (p := ⟨wd.heap.size, 0, none⟩) (by show wr.heap.size ≤ wd.heap.size; omega) (.int .i64 X)
              replace hL := hL.setCell (p := ⟨wd.heap.size, 1, none⟩) (by show wr.heap.size ≤ wd.heap.size; omega) (.int .i64 Y)
              refine hK.out _ _ ⟨B0, B1, B2, B3, q0, q1, trivial⟩ (fun hHeld => ?_)
              clear hK K
              try simp only [Act.put, List.setIfInBounds_toArray, List.set_cons_zero, List.set_cons_succ]
              refine take_slot (i := 11) (d := 13) (v := ?_) rfl rfl (by kernel_rfl) (by kernel_rfl) (by kernel_rfl) (fun _ _ _ h => h) (Or.inl ⟨by rfl, ?_⟩) (by assumption) ?_
              rotate_left 1
              focus (intro wS hSw; (try dsimp only at hSw); go_simp; try with_reducible rfl)
              try simp only [List.setIfInBounds_toArray, List.set_cons_zero, List.set_cons_succ]
              refine wpAnyH_done (by kernel_rfl) ?_ _
              replace hB := hB.trans (hL.mono hB.size)
              clear hHeld hL hBW q0 q1 hgw
              generalize hN : wd.heap.size = kN at *
              clear hN
              clear Nf0 Nf1
              by_cases he0 : e = 0
              · have t2 : decide (e = 0) = true := by simpa using he0
                have t3 : (e == 0) = true := by simpa using he0
                go_wp2_with fail
                refine (rGrown_any (L k).1 (L k).2 X Y 1 HBL.out.1 HBL.out.2 (by have := HBD.out; omega) (by have := HBD.out; omega) (by omega) _).mono ?_
                rintro e W3 ⟨rfl, hb⟩
                replace B0 := cell_next hb nB B0
                replace B1 := cell_next hb nB B1
                replace B2 := cell_next hb nB B2
                replace B3 := cell_next hb nB B3
                replace nB := Nat.lt_of_lt_of_le nB hb.size
                replace D0 := cell_next hb nD D0
                replace fD0 := frozen_next hb nD fD0
                replace D1 := cell_next hb nD D1
                replace fD1 := frozen_next hb nD fD1
                replace nD := Nat.lt_of_lt_of_le nD hb.size
                replace N0 := cell_next hb nN N0
                replace N1 := cell_next hb nN N1
                replace nN := Nat.lt_of_lt_of_le nN hb.size
                replace hB := hB.trans (hb.mono hB.size)
                clear hb
                clear N0 N1 nN
                rw [← S2.out, ← S3.out]
                have hk1 := HfH.out k
                have hk2 := HfL.out k
                generalize hM : L (k + 1) = M at *
                obtain ⟨u1, hu1⟩ : ∃ u, decide (P < 0) = u := ⟨_, rfl⟩
                obtain ⟨u2, hu2⟩ : ∃ u, decide (S < 0) = u := ⟨_, rfl⟩
                obtain ⟨r1, hr1⟩ : ∃ u, decide (lim ≤ M.2) = u := ⟨_, rfl⟩
                obtain ⟨r2, hr2⟩ : ∃ u, decide (lim ≤ M.1) = u := ⟨_, rfl⟩
                rw [hr1] at hk1
                rw [hr2] at hk2
                have hPn : Hid (fstI fH (k + 1) = if u1 && r1 then (k : Int) else P) := Lib.hid (by
                  have hp := hP.out
                  subst hp
                  cases u1
                  · rw [fstI_keep (by simp at hu1; omega)]; rfl
                  · cases r1
                    · rw [fstI_miss (by simp at hu1; omega) hk1]; rfl
                    · rw [fstI_hit (by simp at hu1; omega) hk1]; rfl)
                have hSn : Hid (fstI fL (k + 1) = if u2 && r2 then (k : Int) else S) := Lib.hid (by
                  have hp := hS.out
                  subst hp
                  cases u2
                  · rw [fstI_keep (by simp at hu2; omega)]; rfl
                  · cases r2
                    · rw [fstI_miss (by simp at hu2; omega) hk2]; rfl
                    · rw [fstI_hit (by simp at hu2; omega) hk2]; rfl)
                have hjn : Hid (∀ j, j < k + 1 → E j = 0) := Lib.hid (fun j h => by
                  rcases Nat.lt_or_ge j k with h | h
                  · exact hj.out j h
                  · obtain rfl : j = k := by omega
                    rw [S1.out, he0])
                clear hk1 hk2 hP hS hj HB3 HB4 HfH HfL CG1 S1 S2 S3 HBD HBL
                have hD0 : w.heap.size ≤ w.heap.size + 1 := by omega
                cases u1 <;> cases r1 <;> cases u2 <;> cases r2
                all_goals
                  go_wp2_with fail
                  go_roundw
                  case rel =>
                    refine ⟨k + 1, _, _, by omega, by go_num, rfl, rfl, Lib.hid hPn.out.symm, Lib.hid hSn.out.symm, hjn, ?_, ?_, ?_, ?_, ?_, ?_, ?_, ?_, ?_, ?_, (hB.setCell (p := ⟨w.heap.size + 1, 0, none⟩) hD0 _).setCell (p := ⟨w.heap.size + 1, 1, none⟩) hD0 _⟩
                    all_goals first | (simp [go_sem, *]; done) | (rw [hM]; simp [go_sem, *]; done) | (simp [World.setCell]; omega)
                  case measure => simp [RowKit.intOf]; omega
              · have t2 : decide (e = 0) = false := by simpa using he0
                have t3 : (e == 0) = false := by simpa using he0
                have e1 : K = (0, 0, e) := by rw [HB3.out k hlt hj.out (by rw [S1.out]; exact he0), S1.out]
                clear HB3 HB4 HfH HfL CG1 S1 S2 S3 HBD HBL HR Hn hj hP hS
                subst e1
                go_wp2_with fail
                refine bodyPost_ret (v := kV (0, 0, e)) (by simp [kV, results, Try.results13, go_sem]) rfl ⟨rfl, hB⟩
          · obtain rfl : k = n2 := by omega
            have e1 : K = (P, S, 0) := by rw [HB4.out hj.out, ← hP.out, ← hS.out]
            have t1 : decide ((k : Int) < (k : Int)) = false := by simp
            clear HB3 HB4 HS HT HLb HfH HfL CG HR Hn hj hP hS
            subst e1
            go_wp2_with fail
            refine bodyPost_ret (v := kV (P, S, 0)) (by simp [kV, results, Try.results13, go_sem]) rfl ⟨rfl, hB⟩

open Go.RowKit Go.Lib Go.Shelf
set_option linter.unusedVariables false
set_option linter.unusedSimpArgs false
attribute [local go_sem ↓] Go.wp_at_zero Go.wp_at_succ

set_option maxRecDepth 20000 in
set_option maxHeartbeats 1000000 in
theorem l6Ranges_some (xs : List (Int × Int)) (g off c : Nat) (hl : xs.length ≤ 2000) (w : World) (hg : g < w.heap.size) (hr : RRd w g off xs) :
    Calls Try.prog 10 #[.slice (some ⟨g, off, none⟩) xs.length c] w fun e w' => ∃ v', e = .returned v' ∧ RowAt w'.heap.size w' v' xs ∧ Below w.heap.size w w' := by
  obtain ⟨i0, hi0, hz0, hz1, hz2⟩ := info_parts infoRange
  obtain ⟨n, hn⟩ : ∃ n, xs.length = n := ⟨_, rfl⟩
  rw [hn] at hl ⊢
  have Hn := Lib.hid hn
  have HR := Lib.hid hr
  clear hn hr
  go_enter Try.func10, Try.ntmps10
  have hown0 : (w.alloc (.cells #[] 24)).ownsRow w.heap.size 24 2 (.slice (some ⟨w.heap.size, 0, none⟩) 0 0) 0 [] :=
    ⟨rfl, .inr ⟨w.heap.size, 0, #[], rfl, Nat.le_refl _, heap_alloc_new w _, Nat.le_refl _, Nat.zero_le _, rfl, rfl⟩⟩
  have HO := Lib.hid hown0
  clear hown0
  go_wp2_with (at_builtin; refine wpList_append_own _ rfl (.tmp 3) (.tmp 4) 27 rfl w.heap.size 24 i0 (.agg #[.int .i64 0, .int .i64 0]) 2 16 Try.underlying27 hi0 hz0 hz1 hz2 rfl (by decide) (.slice (some ⟨w.heap.size, 0, none⟩) 0 0) 0 [] rfl HO.out ⟨g, off, none⟩ n c (flat xs) rfl ?_ ?_ ?_ ?_ ?_ ?_ ?_)
  case refine_1 => rw [flat_length, Hn.out]
  case refine_2 =>
    intro j u hj
    rw [Addr.add_lit]
    exact (((Below.refl _ _).alloc (Nat.le_refl _) _).cell (p := ⟨g, off + j, none⟩) hg).trans (rrd_flat xs off HR.out j u hj)
  case refine_3 =>
    intro u hu
    simp only [flat, List.mem_flatMap] at hu
    obtain ⟨p, _, hp⟩ := hu
    simp at hp
    rcases hp with rfl | rfl <;> rfl
  case refine_4 => unfold maxLen; omega
  case refine_5 => omega
  case refine_6 => simp
  case refine_7 =>
    intro v' w1 hown' hgrow _
    have hB : Below w.heap.size w w1 := ((Below.refl _ _).alloc (Nat.le_refl _) _).grown hgrow (by simp) (fun k hk => by simp [Value.ownBlock] at hk; omega)
    have hR : RowAt w1.heap.size w1 v' xs := own_row xs n Hn.out v' w1 (by simpa using hown')
    have HR1 := Lib.hid hR
    clear hown' hgrow hR
    go_wp2_with fail
    go_ret
    exact ⟨v', rfl, HR1.out, hB⟩

set_option maxRecDepth 20000 in
set_option maxHeartbeats 1000000 in
theorem l6Ranges_nil (A : Option Addr) (c : Nat) (w : World) :
    Calls Try.prog 10 #[.slice A 0 c] w fun e w' => ∃ v', e = .returned v' ∧ RowAt w'.heap.size w' v' [] ∧ Below w.heap.size w w' := by
  obtain ⟨i0, hi0, hz0, hz1, hz2⟩ := info_parts infoRange
  rcases A with _ | ⟨g, off, spot⟩
  all_goals
    go_enter Try.func10, Try.ntmps10
    go_wp2_with fail
    go_ret
    exact ⟨_, rfl, ⟨_, 0, rfl, Nat.le_refl _, fun h => by simp at h⟩, (Below.refl _ _).alloc (Nat.le_refl _) _⟩

theorem l6Ranges_any (v : Value) (xs : List (Int × Int)) (hl : xs.length ≤ 2000) (w : World) (hv : ArgAt w v xs) :
    Calls Try.prog 10 #[v] w fun e w' => ∃ v', e = .returned v' ∧ RowAt w'.heap.size w' v' xs ∧ Below w.heap.size w w' := by
  rcases hv with ⟨⟨A, c, rfl⟩, rfl⟩ | ⟨g, off, c, rfl, hc, hg, hr⟩
  · exact l6Ranges_nil A c w
  · exact l6Ranges_some xs g off c hl w hg hr
set_option maxRecDepth 20000 in
set_option maxHeartbeats 1000000 in
theorem l6Own_some (xs : List (Int × Int)) (g off c : Nat) (lim fl fh : Int) (hl : xs.length ≤ 1000) (w : World) (hg : g < w.heap.size) (hr : RRd w g off xs) :
    Calls Try.prog 12 #[.agg #[.slice (some ⟨g, off, none⟩) xs.length c, .int .i64 lim, .int .i64 fl, .int .i64 fh]] w fun e w' => ∃ v', e = .returned (.agg #[v', .int .i64 lim, .int .i64 fl, .int .i64 fh]) ∧ RowAt w'.heap.size w' v' xs ∧ Below w.heap.size w w' := by
  obtain ⟨i0, hi0, hz0, hz1, hz2⟩ := info_parts infoRow
  obtain ⟨n, hn⟩ : ∃ n, xs.length = n := ⟨_, rfl⟩
  rw [hn] at hl ⊢
  have Hn := Lib.hid hn
  have HR := Lib.hid hr
  clear hn hr
  go_enter Try.func12, Try.ntmps12
  have hown0 : (((w.alloc (Obj.cells #[.slice (some ⟨g, off, none⟩) n c, .int .i64 lim, .int .i64 fl, .int .i64 fh] 26)).alloc (Obj.cells #[.slice none 0 0, .int .i64 0, .int .i64 0, .int .i64 0] 26)).alloc (.cells #[] 169)).ownsRow (w.heap.size + 1 + 1) 169 2 (.slice (some ⟨w.heap.size + 1 + 1, 0, none⟩) 0 0) 0 [] :=
    ⟨rfl, .inr ⟨w.heap.size + 1 + 1, 0, #[], rfl, Nat.le_refl _, by have := World.alloc_heap_new ((w.alloc (Obj.cells #[.slice (some ⟨g, off, none⟩) n c, .int .i64 lim, .int .i64 fl, .int .i64 fh] 26)).alloc (Obj.cells #[.slice none 0 0, .int .i64 0, .int .i64 0, .int .i64 0] 26)) (.cells #[] 169); simpa using this, Nat.le_refl _, Nat.zero_le _, rfl, rfl⟩⟩
  have HO := Lib.hid hown0
  clear hown0
  go_wp2_with (at_builtin; refine wpList_append_own _ rfl (.tmp 3) (.tmp 5) 22 rfl (w.heap.size + 1 + 1) 169 i0 (.agg #[.int .i64 0, .int .i64 0]) 2 16 Try.underlying22 hi0 hz0 hz1 hz2 rfl (by decide) (.slice (some ⟨w.heap.size + 1 + 1, 0, none⟩) 0 0) 0 [] rfl HO.out ⟨g, off, none⟩ n c (flat xs) rfl ?_ ?_ ?_ ?_ ?_ ?_ ?_)
  case refine_1 => rw [flat_length, Hn.out]
  case refine_2 =>
    intro j u hj
    rw [Addr.add_lit]
    exact (((below_al2 w _ _).alloc (by simp <;> omega) _).cell (p := ⟨g, off + j, none⟩) hg).trans (rrd_flat xs off HR.out j u hj)
  case refine_3 =>
    intro u hu
    simp only [flat, List.mem_flatMap] at hu
    obtain ⟨p, _, hp⟩ := hu
    simp at hp
    rcases hp with rfl | rfl <;> rfl
  case refine_4 => unfold maxLen; omega
  case refine_5 => omega
  case refine_6 => simp
  case refine_7 =>
    intro v' w1 hown' hgrow _
    have hW : Below (w.heap.size + 1 + 1) (((w.alloc (Obj.cells #[.slice (some ⟨g, off, none⟩) n c, .int .i64 lim, .int .i64 fl, .int .i64 fh] 26)).alloc (Obj.cells #[.slice none 0 0, .int .i64 0, .int .i64 0, .int .i64 0] 26)).alloc (.cells #[] 169)) w1 := (Below.refl _ _).grown hgrow (by simp <;> omega) (fun k hk => by simp [Value.ownBlock] at hk; omega)
    have hB : Below w.heap.size w w1 := ((below_al2 w _ _).alloc (by simp <;> omega) _).trans (hW.mono (by omega))
    have b0 := cell_next hW (b := w.heap.size) (o := 0) (by omega) (v := some (.slice (some ⟨g, off, none⟩) n c)) (by simp [go_sem])
    have b1 := cell_next hW (b := w.heap.size) (o := 1) (by omega) (v := some (.int .i64 lim)) (by simp [go_sem])
    have b2 := cell_next hW (b := w.heap.size) (o := 2) (by omega) (v := some (.int .i64 fl)) (by simp [go_sem])
    have b3 := cell_next hW (b := w.heap.size) (o := 3) (by omega) (v := some (.int .i64 fh)) (by simp [go_sem])
    have f0 := frozen_next hW (b := w.heap.size) (o := 0) (by omega) (v := false) (by simp [go_sem])
    have r0 := cell_next hW (b := w.heap.size + 1) (o := 0) (by omega) (v := some (.slice none 0 0)) (by simp [go_sem])
    have r1 := cell_next hW (b := w.heap.size + 1) (o := 1) (by omega) (v := some (.int .i64 0)) (by simp [go_sem])
    have r2 := cell_next hW (b := w.heap.size + 1) (o := 2) (by omega) (v := some (.int .i64 0)) (by simp [go_sem])
    have r3 := cell_next hW (b := w.heap.size + 1) (o := 3) (by omega) (v := some (.int .i64 0)) (by simp [go_sem])
    have g0 := frozen_next hW (b := w.heap.size + 1) (o := 0) (by omega) (v := false) (by simp [go_sem])
    have g1 := frozen_next hW (b := w.heap.size + 1) (o := 1) (by omega) (v := false) (by simp [go_sem])
    have g2 := frozen_next hW (b := w.heap.size + 1) (o := 2) (by omega) (v := false) (by simp [go_sem])
    have g3 := frozen_next hW (b := w.heap.size + 1) (o := 3) (by omega) (v := false) (by simp [go_sem])
    have hR : RowAt w1.heap.size w1 v' xs := own_rowR xs n Hn.out v' w1 (by simpa using hown')
    have hne : v'.ownBlock ≠ some w.heap.size ∧ v'.ownBlock ≠ some (w.heap.size + 1) := by
      have hlt := World.ownsRow.lt (by simpa using hown')
      exact ⟨fun e => by have := (hlt _ e).1; omega, fun e => by have := (hlt _ e).1; omega⟩
    obtain ⟨A', c', rfl, hc', hx'⟩ := hR
    have HR1 := Lib.hid hx'
    have HNE := Lib.hid hne
    clear hown' hgrow hx' hne
    go_wp2_with fail
    refine bodyPost_ret (v := .agg #[.slice A' xs.length c', .int .i64 lim, .int .i64 fl, .int .i64 fh]) (by simp [results, Try.results12, go_sem, *]) rfl ⟨_, rfl, ?_, ?_⟩
    · refine ⟨A', c', rfl, hc', fun h => ?_⟩
      obtain ⟨gg, o2, rfl, hg2, hr2⟩ := HR1.out h
      have n1 : gg ≠ w.heap.size := fun e => HNE.out.1 (by simp [Value.ownBlock, e])
      have n2 : gg ≠ w.heap.size + 1 := fun e => HNE.out.2 (by simp [Value.ownBlock, e])
      refine ⟨gg, o2, rfl, by simpa [World.setCell] using hg2, hr2.keep fun o => ?_⟩
      simp [go_sem, n1, n2]
    · exact ((((hB.setCell (by simp <;> omega) _).setCell (by simp <;> omega) _).setCell (by simp <;> omega) _).setCell (by simp <;> omega) _).setCell (by simp <;> omega) _

set_option maxRecDepth 20000 in
set_option maxHeartbeats 8000000 in
theorem l6Own_nil (A : Option Addr) (c : Nat) (lim fl fh : Int) (w : World) :
    Calls Try.prog 12 #[.agg #[.slice A 0 c, .int .i64 lim, .int .i64 fl, .int .i64 fh]] w fun e w' => ∃ v', e = .returned (.agg #[v', .int .i64 lim, .int .i64 fl, .int .i64 fh]) ∧ RowAt w'.heap.size w' v' [] ∧ Below w.heap.size w w' := by
  obtain ⟨i0, hi0, hz0, hz1, hz2⟩ := info_parts infoRow
  rcases A with _ | ⟨g, off, spot⟩
  all_goals
    go_enter Try.func12, Try.ntmps12
    go_wp2_with fail
    refine bodyPost_ret (v := .agg #[.slice (some ⟨w.heap.size + 1 + 1, 0, none⟩) 0 0, .int .i64 lim, .int .i64 fl, .int .i64 fh]) (by simp [results, Try.results12, go_sem, *]) rfl ⟨_, rfl, ⟨_, 0, rfl, Nat.le_refl _, fun h => by simp at h⟩, ?_⟩
    exact (below_al2 w _ _).alloc (by simp <;> omega) _

theorem l6Own_any (v : Value) (xs : List (Int × Int)) (lim fl fh : Int) (hl : xs.length ≤ 1000) (w : World) (hv : ArgAt w v xs) :
    Calls Try.prog 12 #[.agg #[v, .int .i64 lim, .int .i64 fl, .int .i64 fh]] w fun e w' => ∃ v', e = .returned (.agg #[v', .int .i64 lim, .int .i64 fl, .int .i64 fh]) ∧ RowAt w'.heap.size w' v' xs ∧ Below w.heap.size w w' := by
  rcases hv with ⟨⟨A, c, rfl⟩, rfl⟩ | ⟨g, off, c, rfl, hc, hg, hr⟩
  · exact l6Own_nil A c lim fl fh w
  · exact l6Own_some xs g off c lim fl fh hl w hg hr


theorem ArgAt.below {w W : World} {v : Value} {xs : List (Int × Int)} (h : ArgAt w v xs) (hb : Below w.heap.size w W) : ArgAt W v xs := by
  rcases h with ⟨h1, h2⟩ | ⟨g, off, c, h1, hc, hg, hr⟩
  · exact .inl ⟨h1, h2⟩
  · exact .inr ⟨g, off, c, h1, hc, Nat.lt_of_lt_of_le hg hb.size, hr.below hb hg⟩
theorem r7_next {l : List (Int × Int)} {A : Option Addr} {W W' : World} (h : ∃ g o, A = some ⟨g, o, none⟩ ∧ g < W.heap.size ∧ RRd W g o l) (hb : Below W.heap.size W W') : ∃ g o, A = some ⟨g, o, none⟩ ∧ g < W'.heap.size ∧ RRd W' g o l := by
  obtain ⟨g, o, rfl, hg, hr⟩ := h
  exact ⟨g, o, rfl, Nat.lt_of_lt_of_le hg hb.size, hr.below hb hg⟩
theorem set_of7 {l : List (Int × Int)} {A : Option Addr} {n c : Nat} {W W' : World} (h : 0 < n → ∃ g o, A = some ⟨g, o, none⟩ ∧ g < W.heap.size ∧ RRd W g o l) (hb : Below W.heap.size W W') (hn : l.length = n) : SetAt W'.heap.size W' (.slice A n c) l := by
  subst hn
  exact ⟨A, c, rfl, fun h0 => r7_next (h h0) hb⟩

set_option maxRecDepth 40000 in
set_option maxHeartbeats 8000000 in
theorem vatKeeps_true (va : Value) (xs : List (Int × Int)) (lim fl fh lo hi : Int) (vb : Value) (l : List (Int × Int)) (w : World) (hv : ArgAt w va xs) (hv2 : ArgAt w vb l) :
    Calls Try.prog 3 #[.agg #[va, .int .i64 lim, .int .i64 fl, .int .i64 fh], .agg #[.int .i64 lo, .int .i64 hi], vb] w fun e w' => e = .returned (.bool true) ∧ Below w.heap.size w w' := by
  have CK := Lib.hid known_any
  have hs : SetAt w.heap.size w va xs := hv.row.set
  have hs2 : SetAt w.heap.size w vb l := hv2.row.set
  have CP := Lib.hid (fun (hl : l.length ≤ 2000) (W : World) (h : Below w.heap.size w W) => l6Ranges_any vb l hl W (hv2.below h))
  have CO := Lib.hid (fun (hl : xs.length ≤ 1000) (W : World) (h : Below w.heap.size w W) => l6Own_any va xs lim fl fh hl W (hv.below h))
  have CR := Lib.hid (fun (hl : xs.length ≤ 1000000) (hl2 : l.length ≤ 1000000) (W : World) (h : Below w.heap.size w W) => rKeeps_any va xs lim fl fh lo hi vb l W hl ((hs.below h (Nat.le_refl _)).mono h.size) hl2 ((hs2.below h (Nat.le_refl _)).mono h.size))
  have CQ := Lib.hid (fun (hl : xs.length ≤ 1000000) (hl2 : l.length ≤ 1000000) (v v2 : Value) (W : World) (h1 : SetAt W.heap.size W v xs) (h2 : SetAt W.heap.size W v2 l) => keeps_any v xs lim fl fh lo hi v2 l W hl h1 hl2 h2)
  obtain ⟨⟨K1, K2, K3⟩, hK⟩ : ∃ K, kpV xs lim fl fh lo hi l = K := ⟨_, rfl⟩
  rw [hK] at CR CQ
  clear hK
  simp only [kV] at CR CQ
  obtain ⟨A, c, rfl, hA⟩ := hs
  obtain ⟨A2, c2, rfl, hr2⟩ := hs2
  clear hA hv hv2
  obtain ⟨n2, hn2⟩ : ∃ n, l.length = n := ⟨_, rfl⟩
  have Hn := Lib.hid hn2
  have HR := Lib.hid hr2
  rw [hn2] at CP CR CQ ⊢
  clear hr2
  obtain ⟨n, hn⟩ : ∃ n, xs.length = n := ⟨_, rfl⟩
  rw [hn] at CO CR CQ ⊢
  rw [hn2] at HR
  clear hn hn2
  obtain ⟨u1, h1⟩ : ∃ u, decide ((70 : Int) < (n : Int)) = u := ⟨_, rfl⟩
  obtain ⟨u2, h2⟩ : ∃ u, decide ((200 : Int) < (n2 : Int)) = u := ⟨_, rfl⟩
  obtain ⟨u3, h3⟩ : ∃ u, decide ((n2 : Int) ≤ 1000) = u := ⟨_, rfl⟩
  obtain ⟨u4, h4⟩ : ∃ u, decide ((1100 : Int) < (n2 : Int)) = u := ⟨_, rfl⟩
  have hq : u1 = false → u4 = false → n ≤ 70 ∧ n2 ≤ 1100 := fun a b => by subst a b; simp at h1 h4; omega
  cases u1
  · cases u2
    · cases u4
      · obtain ⟨hn70, hn11⟩ := hq rfl rfl
        clear hq
        go_enter Try.func3, Try.ntmps3
        go_wp2_with fail
        have hb : Below w.heap.size w ((w.alloc (Obj.cells #[.slice A n c, .int .i64 lim, .int .i64 fl, .int .i64 fh] 26)).alloc (Obj.cells #[.int .i64 lo, .int .i64 hi] 24)) := (((Below.refl _ _).alloc (Nat.le_refl _) _).alloc (by simp <;> omega) _)
        have B0 : ((w.alloc (Obj.cells #[.slice A n c, .int .i64 lim, .int .i64 fl, .int .i64 fh] 26)).alloc (Obj.cells #[.int .i64 lo, .int .i64 hi] 24)).cell? ⟨w.heap.size, 0, none⟩ = some (.slice A n c) := by simp [go_sem]
        have B1 : ((w.alloc (Obj.cells #[.slice A n c, .int .i64 lim, .int .i64 fl, .int .i64 fh] 26)).alloc (Obj.cells #[.int .i64 lo, .int .i64 hi] 24)).cell? ⟨w.heap.size, 1, none⟩ = some (.int .i64 lim) := by simp [go_sem]
        have B2 : ((w.alloc (Obj.cells #[.slice A n c, .int .i64 lim, .int .i64 fl, .int .i64 fh] 26)).alloc (Obj.cells #[.int .i64 lo, .int .i64 hi] 24)).cell? ⟨w.heap.size, 2, none⟩ = some (.int .i64 fl) := by simp [go_sem]
        have B3 : ((w.alloc (Obj.cells #[.slice A n c, .int .i64 lim, .int .i64 fl, .int .i64 fh] 26)).alloc (Obj.cells #[.int .i64 lo, .int .i64 hi] 24)).cell? ⟨w.heap.size, 3, none⟩ = some (.int .i64 fh) := by simp [go_sem]
        have nB : w.heap.size < ((w.alloc (Obj.cells #[.slice A n c, .int .i64 lim, .int .i64 fl, .int .i64 fh] 26)).alloc (Obj.cells #[.int .i64 lo, .int .i64 hi] 24)).heap.size := by simp <;> omega
        have D0 : ((w.alloc (Obj.cells #[.slice A n c, .int .i64 lim, .int .i64 fl, .int .i64 fh] 26)).alloc (Obj.cells #[.int .i64 lo, .int .i64 hi] 24)).cell? ⟨w.heap.size + 1, 0, none⟩ = some (.int .i64 lo) := by simp [go_sem]
        have D1 : ((w.alloc (Obj.cells #[.slice A n c, .int .i64 lim, .int .i64 fl, .int .i64 fh] 26)).alloc (Obj.cells #[.int .i64 lo, .int .i64 hi] 24)).cell? ⟨w.heap.size + 1, 1, none⟩ = some (.int .i64 hi) := by simp [go_sem]
        have nD : w.heap.size + 1 < ((w.alloc (Obj.cells #[.slice A n c, .int .i64 lim, .int .i64 fl, .int .i64 fh] 26)).alloc (Obj.cells #[.int .i64 lo, .int .i64 hi] 24)).heap.size := by simp <;> omega
        have hB := hb
        clear hb
        generalize ((w.alloc (Obj.cells #[.slice A n c, .int .i64 lim, .int .i64 fl, .int .i64 fh] 26)).alloc (Obj.cells #[.int .i64 lo, .int .i64 hi] 24)) = W1 at *
        have CP1 := Lib.hid (CP.out (by omega) _ hB)
        refine CP1.out.mono ?_
        rintro e V1 ⟨v7, rfl, hv7, hb⟩
        replace B0 := cell_next hb nB B0
        replace B1 := cell_next hb nB B1
        replace B2 := cell_next hb nB B2
        replace B3 := cell_next hb nB B3
        replace nB := Nat.lt_of_lt_of_le nB hb.size
        replace D0 := cell_next hb nD D0
        replace D1 := cell_next hb nD D1
        replace nD := Nat.lt_of_lt_of_le nD hb.size
        replace hB := hB.trans (hb.mono hB.size)
        clear hb
        obtain ⟨A7, c7, rfl, hc7, hx7⟩ := hv7
        have hnn := Hn.out
        rw [hnn] at hc7 hx7 ⊢
        clear hnn
        have H7 := Lib.hid hx7
        clear hx7 CP CP1
        go_wp2_with fail
        have CO1 := Lib.hid (fun W h => CO.out (by omega) W h)
        have CQ1 := Lib.hid (fun v v2 W h1 h2 => CQ.out (by omega) (by omega) v v2 W h1 h2)
        clear CO CQ
        have hBW : V1.heap.size ≤ V1.heap.size := Nat.le_refl _
        refine wp_region_held_drew (S := fun w' => w'.cell? ⟨w.heap.size, 0, none⟩ = some (.slice A n c) ∧ w'.cell? ⟨w.heap.size, 1, none⟩ = some (.int .i64 lim) ∧ w'.cell? ⟨w.heap.size, 2, none⟩ = some (.int .i64 fl) ∧ w'.cell? ⟨w.heap.size, 3, none⟩ = some (.int .i64 fh) ∧ w'.cell? ⟨w.heap.size + 1, 0, none⟩ = some (.int .i64 lo) ∧ w'.cell? ⟨w.heap.size + 1, 1, none⟩ = some (.int .i64 hi) ∧ True) (by kernel_rfl) ?_ (fun hHeld => ?_)
        focus (exact ⟨B0, B1, B2, B3, D0, D1, trivial⟩)
        have hL : Below V1.heap.size V1 V1.drew := Below.drew (Below.refl _ _)
        replace B0 : V1.drew.cell? ⟨w.heap.size, 0, none⟩ = some (.slice A n c) := B0
        replace B1 : V1.drew.cell? ⟨w.heap.size, 1, none⟩ = some (.int .i64 lim) := B1
        replace B2 : V1.drew.cell? ⟨w.heap.size, 2, none⟩ = some (.int .i64 fl) := B2
        replace B3 : V1.drew.cell? ⟨w.heap.size, 3, none⟩ = some (.int .i64 fh) := B3
        replace D0 : V1.drew.cell? ⟨w.heap.size + 1, 0, none⟩ = some (.int .i64 lo) := D0
        replace D1 : V1.drew.cell? ⟨w.heap.size + 1, 1, none⟩ = some (.int .i64 hi) := D1
        replace nB : w.heap.size < V1.drew.heap.size := nB
        replace nD : w.heap.size + 1 < V1.drew.heap.size := nD
        generalize hWd : V1.drew = wd4 at hHeld hL B0 B1 B2 B3 D0 D1 nB nD  ⊢
        clear hWd
        refine take_slot (i := 0) (d := 38) (v := ?_) rfl rfl (by kernel_rfl) (by kernel_rfl) (by kernel_rfl) (fun _ _ _ h => h) (Or.inl ⟨by rfl, ?_⟩) (by assumption) ?_
        rotate_left 1
        focus (intro wS hSw; (try dsimp only at hSw); go_simp; try with_reducible rfl)
        try simp only [List.setIfInBounds_toArray, List.set_cons_zero, List.set_cons_succ]
        refine take_slot (i := 2) (d := 40) (v := ?_) rfl rfl (by kernel_rfl) (by kernel_rfl) (by kernel_rfl) (fun _ _ _ h => h) (Or.inl ⟨by rfl, ?_⟩) (by assumption) ?_
        rotate_left 1
        focus (intro wS hSw; (try dsimp only at hSw); go_simp; try with_reducible rfl)
        try simp only [List.setIfInBounds_toArray, List.set_cons_zero, List.set_cons_succ]
        refine take_slot (i := 3) (d := 41) (v := ?_) rfl rfl (by kernel_rfl) (by kernel_rfl) (by kernel_rfl) (fun _ _ _ h => h) (Or.inl ⟨by rfl, ?_⟩) (by assumption) ?_
        rotate_left 1
        focus (intro wS hSw; (try dsimp only at hSw); go_simp; try with_reducible rfl)
        try simp only [List.setIfInBounds_toArray, List.set_cons_zero, List.set_cons_succ]
        refine wpAnyH_ready (rs := [1]) (by kernel_rfl) (by simp) ?_
        refine AllReadyH.cons rfl (fun K hK => ?_) AllReadyH.nil
        go_simp
        refine (CO1.out _ (hB.trans (hL.mono hB.size))).mono ?_
        rintro e Z1 ⟨v3, rfl, hv3, hb⟩
        replace B0 := cell_next hb nB B0
        replace B1 := cell_next hb nB B1
        replace B2 := cell_next hb nB B2
        replace B3 := cell_next hb nB B3
        replace D0 := cell_next hb nD D0
        replace D1 := cell_next hb nD D1
        replace nB := Nat.lt_of_lt_of_le nB hb.size
        replace nD := Nat.lt_of_lt_of_le nD hb.size
        replace hL := hL.trans (hb.mono (Nat.le_trans hBW hL.size))
        refine hK.out _ _ ⟨B0, B1, B2, B3, D0, D1, trivial⟩ (fun hHeld => ?_)
        clear hK K hb
        try simp only [Act.put, List.setIfInBounds_toArray, List.set_cons_zero, List.set_cons_succ]
        refine wpAnyH_ready (rs := [4]) (by kernel_rfl) (by simp) ?_
        refine AllReadyH.cons rfl (fun K hK => ?_) AllReadyH.nil
        go_simp
        refine (CQ1.out v3 (.slice A7 n2 c7) _ hv3.set (set_of7 H7.out hL Hn.out)).mono ?_
        rintro e Z2 ⟨rfl, hb⟩
        replace B0 := cell_next hb nB B0
        replace B1 := cell_next hb nB B1
        replace B2 := cell_next hb nB B2
        replace B3 := cell_next hb nB B3
        replace D0 := cell_next hb nD D0
        replace D1 := cell_next hb nD D1
        replace nB := Nat.lt_of_lt_of_le nB hb.size
        replace nD := Nat.lt_of_lt_of_le nD hb.size
        replace hL := hL.trans (hb.mono (Nat.le_trans hBW hL.size))
        refine hK.out _ _ ⟨B0, B1, B2, B3, D0, D1, trivial⟩ (fun hHeld => ?_)
        clear hK K hb
        try simp only [Act.put, List.setIfInBounds_toArray, List.set_cons_zero, List.set_cons_succ]
        refine take_slot (i := 5) (d := 37) (v := ?_) rfl rfl (by kernel_rfl) (by kernel_rfl) (by kernel_rfl) (fun _ _ _ h => h) (Or.inl ⟨by rfl, ?_⟩) (by assumption) ?_
        rotate_left 1
        focus (intro wS hSw; (try dsimp only at hSw); go_simp; try with_reducible rfl)
        try simp only [List.setIfInBounds_toArray, List.set_cons_zero, List.set_cons_succ]
        refine take_slot (i := 6) (d := 43) (v := ?_) rfl rfl (by kernel_rfl) (by kernel_rfl) (by kernel_rfl) (fun _ _ _ h => h) (Or.inl ⟨by rfl, ?_⟩) (by assumption) ?_
        rotate_left 1
        focus (intro wS hSw; (try dsimp only at hSw); go_simp; try with_reducible rfl)
        try simp only [List.setIfInBounds_toArray, List.set_cons_zero, List.set_cons_succ]
        refine take_slot (i := 7) (d := 44) (v := ?_) rfl rfl (by kernel_rfl) (by kernel_rfl) (by kernel_rfl) (fun _ _ _ h => h) (Or.inl ⟨by rfl, ?_⟩) (by assumption) ?_
        rotate_left 1
        focus (intro wS hSw; (try dsimp only at hSw); go_simp; try with_reducible rfl)
        try simp only [List.setIfInBounds_toArray, List.set_cons_zero, List.set_cons_succ]
        refine take_slot (i := 8) (d := 45) (v := ?_) rfl rfl (by kernel_rfl) (by kernel_rfl) (by kernel_rfl) (fun _ _ _ h => h) (Or.inl ⟨by rfl, ?_⟩) (by assumption) ?_
        rotate_left 1
        focus (intro wS hSw; (try dsimp only at hSw); go_simp; try with_reducible rfl)
        try simp only [List.setIfInBounds_toArray, List.set_cons_zero, List.set_cons_succ]
        refine take_slot (i := 9) (d := 8) (v := ?_) rfl rfl (by kernel_rfl) (by kernel_rfl) (by kernel_rfl) (fun _ _ _ h => h) (Or.inl ⟨by rfl, ?_⟩) (by assumption) ?_
        rotate_left 1
        focus (intro wS hSw; (try dsimp only at hSw); go_simp; try with_reducible rfl)
        try simp only [List.setIfInBounds_toArray, List.set_cons_zero, List.set_cons_succ]
        refine take_slot (i := 10) (d := 9) (v := ?_) rfl rfl (by kernel_rfl) (by kernel_rfl) (by kernel_rfl) (fun _ _ _ h => h) (Or.inl ⟨by rfl, ?_⟩) (by assumption) ?_
        rotate_left 1
        focus (intro wS hSw; (try dsimp only at hSw); go_simp; try with_reducible rfl)
        try simp only [List.setIfInBounds_toArray, List.set_cons_zero, List.set_cons_succ]
        refine take_slot (i := 11) (d := 10) (v := ?_) rfl rfl (by kernel_rfl) (by kernel_rfl) (by kernel_rfl) (fun _ _ _ h => h) (Or.inl ⟨by rfl, ?_⟩) (by assumption) ?_
        rotate_left 1
        focus (intro wS hSw; (try dsimp only at hSw); go_simp; try with_reducible rfl)
        try simp only [List.setIfInBounds_toArray, List.set_cons_zero, List.set_cons_succ]
        refine wpAnyH_done (by kernel_rfl) ?_ _
        replace hB := hB.trans (hL.mono hB.size)
        replace H7 := Lib.hid (fun h => r7_next (H7.out h) hL)
        clear hHeld hL hBW hv3
        clear CO1 CQ1
        go_wp2_with fail
        go_loopw [11] (fun i wr => ∃ k : Nat, k ≤ n2 ∧ i = .int .i64 (k : Int) ∧ wr.cell? ⟨w.heap.size, 0, none⟩ = some (.slice A n c) ∧ wr.cell? ⟨w.heap.size, 1, none⟩ = some (.int .i64 lim) ∧ wr.cell? ⟨w.heap.size, 2, none⟩ = some (.int .i64 fl) ∧ wr.cell? ⟨w.heap.size, 3, none⟩ = some (.int .i64 fh) ∧ w.heap.size < wr.heap.size ∧ wr.cell? ⟨w.heap.size + 1, 0, none⟩ = some (.int .i64 lo) ∧ wr.cell? ⟨w.heap.size + 1, 1, none⟩ = some (.int .i64 hi) ∧ w.heap.size + 1 < wr.heap.size ∧ Hid (0 < n2 → ∃ g o, A7 = some ⟨g, o, none⟩ ∧ g < wr.heap.size ∧ RRd wr g o l) ∧ Below w.heap.size w wr) (fun i _ => n2 - (RowKit.intOf i).toNat)
        case atStart => exact ⟨0, Nat.zero_le _, rfl, B0, B1, B2, B3, nB, D0, D1, nD, H7, hB⟩
        case round =>
          clear hB H7 B0 B1 B2 B3 nB D0 D1 nD
          obtain ⟨k, hk, rfl, B0, B1, B2, B3, nB, D0, D1, nD, H7, hB⟩ := hrel
          by_cases hlt : k < n2
          · obtain ⟨⟨x, y⟩, hp⟩ : ∃ p, l[k]? = some p := ⟨_, List.getElem?_eq_getElem (by rw [Hn.out]; exact hlt)⟩
            obtain ⟨g7, o7, rfl, hg7, hr7⟩ := H7.out (by omega)
            obtain ⟨g2, o2, rfl, hg2, hr2⟩ := HR.out (by omega)
            obtain ⟨p0, p1⟩ := hr7 k _ hp
            obtain ⟨q0, q1⟩ := hr2.below hB hg2 k _ hp
            dsimp only at p0 p1 q0 q1
            have hgw : g2 < wr.heap.size := by have := hB.size; omega
            have wk : IntKind.i64.wrap ((k : Int) + 1) = ((k + 1 : Nat) : Int) := IntWalk.i64_in _ (by omega)
            clear hp hr7 hr2
            go_wp2_with fail
            have hBW : wr.heap.size ≤ wr.heap.size := Nat.le_refl _
            refine wp_region_held_drew (S := fun w' => w'.cell? ⟨g7, o7 + k * 2, none⟩ = some (.int .i64 x) ∧ w'.cell? ⟨g7, o7 + k * 2 + 1, none⟩ = some (.int .i64 y) ∧ w'.cell? ⟨g2, o2 + k * 2, none⟩ = some (.int .i64 x) ∧ w'.cell? ⟨g2, o2 + k * 2 + 1, none⟩ = some (.int .i64 y) ∧ True) (by kernel_rfl) ?_ (fun hHeld => ?_)
            focus (exact ⟨p0, p1, q0, q1, trivial⟩)
            have hL : Below wr.heap.size wr wr.drew := Below.drew (Below.refl _ _)
            replace B0 : wr.drew.cell? ⟨w.heap.size, 0, none⟩ = some (.slice A n c) := B0
            replace B1 : wr.drew.cell? ⟨w.heap.size, 1, none⟩ = some (.int .i64 lim) := B1
            replace B2 : wr.drew.cell? ⟨w.heap.size, 2, none⟩ = some (.int .i64 fl) := B2
            replace B3 : wr.drew.cell? ⟨w.heap.size, 3, none⟩ = some (.int .i64 fh) := B3
            replace D0 : wr.drew.cell? ⟨w.heap.size + 1, 0, none⟩ = some (.int .i64 lo) := D0
            replace D1 : wr.drew.cell? ⟨w.heap.size + 1, 1, none⟩ = some (.int .i64 hi) := D1
            replace p0 : wr.drew.cell? ⟨g7, o7 + k * 2, none⟩ = some (.int .i64 x) := p0
            replace p1 : wr.drew.cell? ⟨g7, o7 + k * 2 + 1, none⟩ = some (.int .i64 y) := p1
            replace q0 : wr.drew.cell? ⟨g2, o2 + k * 2, none⟩ = some (.int .i64 x) := q0
            replace q1 : wr.drew.cell? ⟨g2, o2 + k * 2 + 1, none⟩ = some (.int .i64 y) := q1
            replace nB : w.heap.size < wr.drew.heap.size := nB
            replace nD : w.heap.size + 1 < wr.drew.heap.size := nD
            replace hg7 : g7 < wr.drew.heap.size := hg7
            replace hgw : g2 < wr.drew.heap.size := hgw
            generalize hWd : wr.drew = wd8 at hHeld hL B0 B1 B2 B3 D0 D1 p0 p1 q0 q1 nB nD hg7 hgw  ⊢
            clear hWd
            refine take_slot (i := 0) (d := 52) (v := ?_) rfl rfl (by kernel_rfl) (by kernel_rfl) (by kernel_rfl) (fun _ _ _ h => h) (Or.inl ⟨by rfl, ?_⟩) (by assumption) ?_
            rotate_left 1
            focus (intro wS hSw; (try dsimp only at hSw); go_simp; try with_reducible rfl)
            try simp only [List.setIfInBounds_toArray, List.set_cons_zero, List.set_cons_succ]
            refine take_slot (i := 1) (d := 53) (v := ?_) rfl rfl (by kernel_rfl) (by kernel_rfl) (by kernel_rfl) (fun _ _ _ h => h) (Or.inl ⟨by rfl, ?_⟩) (by assumption) ?_
            rotate_left 1
            focus (intro wS hSw; (try dsimp only at hSw); go_simp; try with_reducible rfl)
            try simp only [List.setIfInBounds_toArray, List.set_cons_zero, List.set_cons_succ]
            refine take_slot (i := 2) (d := 54) (v := ?_) rfl rfl (by kernel_rfl) (by kernel_rfl) (by kernel_rfl) (fun _ _ _ h => h) (Or.inl ⟨by rfl, ?_⟩) (by assumption) ?_
            rotate_left 1
            focus (intro wS hSw; (try dsimp only at hSw); go_simp; try with_reducible rfl)
            try simp only [List.setIfInBounds_toArray, List.set_cons_zero, List.set_cons_succ]
            refine take_slot (i := 3) (d := 55) (v := ?_) rfl rfl (by kernel_rfl) (by kernel_rfl) (by kernel_rfl) (fun _ _ _ h => h) (Or.inl ⟨by rfl, ?_⟩) (by assumption) ?_
            rotate_left 1
            focus (intro wS hSw; (try dsimp only at hSw); go_simp; try with_reducible rfl)
            try simp only [List.setIfInBounds_toArray, List.set_cons_zero, List.set_cons_succ]
            refine take_slot (i := 4) (d := 56) (v := ?_) rfl rfl (by kernel_rfl) (by kernel_rfl) (by kernel_rfl) (fun _ _ _ h => h) (Or.inl ⟨by rfl, ?_⟩) (by assumption) ?_
            rotate_left 1
            focus (intro wS hSw; (try dsimp only at hSw); go_simp; try with_reducible rfl)
            try simp only [List.setIfInBounds_toArray, List.set_cons_zero, List.set_cons_succ]
            refine take_slot (i := 5) (d := 57) (v := ?_) rfl rfl (by kernel_rfl) (by kernel_rfl) (by kernel_rfl) (fun _ _ _ h => h) (Or.inl ⟨by rfl, ?_⟩) (by assumption) ?_
            rotate_left 1
            focus (intro wS hSw; (try dsimp only at hSw); go_simp; try with_reducible rfl)
            try simp only [List.setIfInBounds_toArray, List.set_cons_zero, List.set_cons_succ]
            refine take_slot (i := 6) (d := 58) (v := ?_) rfl rfl (by kernel_rfl) (by kernel_rfl) (by kernel_rfl) (fun _ _ _ h => h) (Or.inl ⟨by rfl, ?_⟩) (by assumption) ?_
            rotate_left 1
            focus (intro wS hSw; (try dsimp only at hSw); go_simp; try with_reducible rfl)
            try simp only [List.setIfInBounds_toArray, List.set_cons_zero, List.set_cons_succ]
            refine take_slot (i := 7) (d := 59) (v := ?_) rfl rfl (by kernel_rfl) (by kernel_rfl) (by kernel_rfl) (fun _ _ _ h => h) (Or.inl ⟨by rfl, ?_⟩) (by assumption) ?_
            rotate_left 1
            focus (intro wS hSw; (try dsimp only at hSw); go_simp; try with_reducible rfl)
            try simp only [List.setIfInBounds_toArray, List.set_cons_zero, List.set_cons_succ]
            refine take_slot (i := 8) (d := 60) (v := ?_) rfl rfl (by kernel_rfl) (by kernel_rfl) (by kernel_rfl) (fun _ _ _ h => h) (Or.inl ⟨by rfl, ?_⟩) (by assumption) ?_
            rotate_left 1
            focus (intro wS hSw; (try dsimp only at hSw); go_simp; try with_reducible rfl)
            try simp only [List.setIfInBounds_toArray, List.set_cons_zero, List.set_cons_succ]
            refine wpAnyH_done (by kernel_rfl) ?_ _
            replace hB := hB.trans (hL.mono hB.size)
            replace H7 := Lib.hid (fun h => r7_next (H7.out h) hL)
            clear hHeld hL hBW p0 p1 q0 q1
            go_wp2_with fail
            go_roundw
            case rel => exact ⟨k + 1, by omega, by go_num, B0, B1, B2, B3, nB, D0, D1, nD, H7, hB⟩
            case measure => simp [RowKit.intOf]; omega
          · obtain rfl : k = n2 := by omega
            have t1 : decide ((k : Int) < (k : Int)) = false := by simp
            have CR1 := Lib.hid (CR.out (by omega) (by omega) wr hB)
            clear CR H7 HR
            go_wp2_with fail
            refine (CR1.out).mono ?_
            rintro e W2 ⟨rfl, hb⟩
            replace B0 := cell_next hb nB B0
            replace B1 := cell_next hb nB B1
            replace B2 := cell_next hb nB B2
            replace B3 := cell_next hb nB B3
            replace nB := Nat.lt_of_lt_of_le nB hb.size
            replace D0 := cell_next hb nD D0
            replace D1 := cell_next hb nD D1
            replace nD := Nat.lt_of_lt_of_le nD hb.size
            replace hB := hB.trans (hb.mono hB.size)
            clear hb
            clear CR1
            go_wp2_with fail
            refine (CK.out _).mono ?_
            rintro e W3 ⟨rfl, hb⟩
            replace B0 := cell_next hb nB B0
            replace B1 := cell_next hb nB B1
            replace B2 := cell_next hb nB B2
            replace B3 := cell_next hb nB B3
            replace nB := Nat.lt_of_lt_of_le nB hb.size
            replace D0 := cell_next hb nD D0
            replace D1 := cell_next hb nD D1
            replace nD := Nat.lt_of_lt_of_le nD hb.size
            replace hB := hB.trans (hb.mono hB.size)
            clear hb
            go_wp2_with fail
            go_ret
            exact ⟨by simp, hB⟩
      · go_enter Try.func3, Try.ntmps3
        go_wp2_with fail
        refine (CK.out _).mono ?_
        rintro e W1 ⟨rfl, hb⟩
        have B0 := cell_next hb (b := w.heap.size) (o := 0) (by simp <;> omega) (v := some (.slice A n c)) (by simp [go_sem])
        have B1 := cell_next hb (b := w.heap.size) (o := 1) (by simp <;> omega) (v := some (.int .i64 lim)) (by simp [go_sem])
        have B2 := cell_next hb (b := w.heap.size) (o := 2) (by simp <;> omega) (v := some (.int .i64 fl)) (by simp [go_sem])
        have B3 := cell_next hb (b := w.heap.size) (o := 3) (by simp <;> omega) (v := some (.int .i64 fh)) (by simp [go_sem])
        have nB : w.heap.size < W1.heap.size := by have := hb.size; simp at this; omega
        have D0 := cell_next hb (b := w.heap.size + 1) (o := 0) (by simp <;> omega) (v := some (.int .i64 lo)) (by simp [go_sem])
        have D1 := cell_next hb (b := w.heap.size + 1) (o := 1) (by simp <;> omega) (v := some (.int .i64 hi)) (by simp [go_sem])
        have nD : w.heap.size + 1 < W1.heap.size := by have := hb.size; simp at this; omega
        have hB := (below2 hb)
        clear hb
        go_wp2_with fail
        go_ret
        exact ⟨rfl, hB⟩
    · cases u3
      · cases u4
        · obtain ⟨hn70, hn11⟩ := hq rfl rfl
          clear hq
          go_enter Try.func3, Try.ntmps3
          go_wp2_with fail
          have hb : Below w.heap.size w ((w.alloc (Obj.cells #[.slice A n c, .int .i64 lim, .int .i64 fl, .int .i64 fh] 26)).alloc (Obj.cells #[.int .i64 lo, .int .i64 hi] 24)) := (((Below.refl _ _).alloc (Nat.le_refl _) _).alloc (by simp <;> omega) _)
          have B0 : ((w.alloc (Obj.cells #[.slice A n c, .int .i64 lim, .int .i64 fl, .int .i64 fh] 26)).alloc (Obj.cells #[.int .i64 lo, .int .i64 hi] 24)).cell? ⟨w.heap.size, 0, none⟩ = some (.slice A n c) := by simp [go_sem]
          have B1 : ((w.alloc (Obj.cells #[.slice A n c, .int .i64 lim, .int .i64 fl, .int .i64 fh] 26)).alloc (Obj.cells #[.int .i64 lo, .int .i64 hi] 24)).cell? ⟨w.heap.size, 1, none⟩ = some (.int .i64 lim) := by simp [go_sem]
          have B2 : ((w.alloc (Obj.cells #[.slice A n c, .int .i64 lim, .int .i64 fl, .int .i64 fh] 26)).alloc (Obj.cells #[.int .i64 lo, .int .i64 hi] 24)).cell? ⟨w.heap.size, 2, none⟩ = some (.int .i64 fl) := by simp [go_sem]
          have B3 : ((w.alloc (Obj.cells #[.slice A n c, .int .i64 lim, .int .i64 fl, .int .i64 fh] 26)).alloc (Obj.cells #[.int .i64 lo, .int .i64 hi] 24)).cell? ⟨w.heap.size, 3, none⟩ = some (.int .i64 fh) := by simp [go_sem]
          have nB : w.heap.size < ((w.alloc (Obj.cells #[.slice A n c, .int .i64 lim, .int .i64 fl, .int .i64 fh] 26)).alloc (Obj.cells #[.int .i64 lo, .int .i64 hi] 24)).heap.size := by simp <;> omega
          have D0 : ((w.alloc (Obj.cells #[.slice A n c, .int .i64 lim, .int .i64 fl, .int .i64 fh] 26)).alloc (Obj.cells #[.int .i64 lo, .int .i64 hi] 24)).cell? ⟨w.heap.size + 1, 0, none⟩ = some (.int .i64 lo) := by simp [go_sem]
          have D1 : ((w.alloc (Obj.cells #[.slice A n c, .int .i64 lim, .int .i64 fl, .int .i64 fh] 26)).alloc (Obj.cells #[.int .i64 lo, .int .i64 hi] 24)).cell? ⟨w.heap.size + 1, 1, none⟩ = some (.int .i64 hi) := by simp [go_sem]
          have nD : w.heap.size + 1 < ((w.alloc (Obj.cells #[.slice A n c, .int .i64 lim, .int .i64 fl, .int .i64 fh] 26)).alloc (Obj.cells #[.int .i64 lo, .int .i64 hi] 24)).heap.size := by simp <;> omega
          have hB := hb
          clear hb
          generalize ((w.alloc (Obj.cells #[.slice A n c, .int .i64 lim, .int .i64 fl, .int .i64 fh] 26)).alloc (Obj.cells #[.int .i64 lo, .int .i64 hi] 24)) = W1 at *
          have CP1 := Lib.hid (CP.out (by omega) _ hB)
          refine CP1.out.mono ?_
          rintro e V1 ⟨v7, rfl, hv7, hb⟩
          replace B0 := cell_next hb nB B0
          replace B1 := cell_next hb nB B1
          replace B2 := cell_next hb nB B2
          replace B3 := cell_next hb nB B3
          replace nB := Nat.lt_of_lt_of_le nB hb.size
          replace D0 := cell_next hb nD D0
          replace D1 := cell_next hb nD D1
          replace nD := Nat.lt_of_lt_of_le nD hb.size
          replace hB := hB.trans (hb.mono hB.size)
          clear hb
          obtain ⟨A7, c7, rfl, hc7, hx7⟩ := hv7
          have hnn := Hn.out
          rw [hnn] at hc7 hx7 ⊢
          clear hnn
          have H7 := Lib.hid hx7
          clear hx7 CP CP1
          go_wp2_with fail
          have CO1 := Lib.hid (fun W h => CO.out (by omega) W h)
          have CQ1 := Lib.hid (fun v v2 W h1 h2 => CQ.out (by omega) (by omega) v v2 W h1 h2)
          clear CO CQ
          have hBW : V1.heap.size ≤ V1.heap.size := Nat.le_refl _
          refine wp_region_held_drew (S := fun w' => w'.cell? ⟨w.heap.size, 0, none⟩ = some (.slice A n c) ∧ w'.cell? ⟨w.heap.size, 1, none⟩ = some (.int .i64 lim) ∧ w'.cell? ⟨w.heap.size, 2, none⟩ = some (.int .i64 fl) ∧ w'.cell? ⟨w.heap.size, 3, none⟩ = some (.int .i64 fh) ∧ w'.cell? ⟨w.heap.size + 1, 0, none⟩ = some (.int .i64 lo) ∧ w'.cell? ⟨w.heap.size + 1, 1, none⟩ = some (.int .i64 hi) ∧ True) (by kernel_rfl) ?_ (fun hHeld => ?_)
          focus (exact ⟨B0, B1, B2, B3, D0, D1, trivial⟩)
          have hL : Below V1.heap.size V1 V1.drew := Below.drew (Below.refl _ _)
          replace B0 : V1.drew.cell? ⟨w.heap.size, 0, none⟩ = some (.slice A n c) := B0
          replace B1 : V1.drew.cell? ⟨w.heap.size, 1, none⟩ = some (.int .i64 lim) := B1
          replace B2 : V1.drew.cell? ⟨w.heap.size, 2, none⟩ = some (.int .i64 fl) := B2
          replace B3 : V1.drew.cell? ⟨w.heap.size, 3, none⟩ = some (.int .i64 fh) := B3
          replace D0 : V1.drew.cell? ⟨w.heap.size + 1, 0, none⟩ = some (.int .i64 lo) := D0
          replace D1 : V1.drew.cell? ⟨w.heap.size + 1, 1, none⟩ = some (.int .i64 hi) := D1
          replace nB : w.heap.size < V1.drew.heap.size := nB
          replace nD : w.heap.size + 1 < V1.drew.heap.size := nD
          generalize hWd : V1.drew = wd4 at hHeld hL B0 B1 B2 B3 D0 D1 nB nD  ⊢
          clear hWd
          refine take_slot (i := 0) (d := 38) (v := ?_) rfl rfl (by kernel_rfl) (by kernel_rfl) (by kernel_rfl) (fun _ _ _ h => h) (Or.inl ⟨by rfl, ?_⟩) (by assumption) ?_
          rotate_left 1
          focus (intro wS hSw; (try dsimp only at hSw); go_simp; try with_reducible rfl)
          try simp only [List.setIfInBounds_toArray, List.set_cons_zero, List.set_cons_succ]
          refine take_slot (i := 2) (d := 40) (v := ?_) rfl rfl (by kernel_rfl) (by kernel_rfl) (by kernel_rfl) (fun _ _ _ h => h) (Or.inl ⟨by rfl, ?_⟩) (by assumption) ?_
          rotate_left 1
          focus (intro wS hSw; (try dsimp only at hSw); go_simp; try with_reducible rfl)
          try simp only [List.setIfInBounds_toArray, List.set_cons_zero, List.set_cons_succ]
          refine take_slot (i := 3) (d := 41) (v := ?_) rfl rfl (by kernel_rfl) (by kernel_rfl) (by kernel_rfl) (fun _ _ _ h => h) (Or.inl ⟨by rfl, ?_⟩) (by assumption) ?_
          rotate_left 1
          focus (intro wS hSw; (try dsimp only at hSw); go_simp; try with_reducible rfl)
          try simp only [List.setIfInBounds_toArray, List.set_cons_zero, List.set_cons_succ]
          refine wpAnyH_ready (rs := [1]) (by kernel_rfl) (by simp) ?_
          refine AllReadyH.cons rfl (fun K hK => ?_) AllReadyH.nil
          go_simp
          refine (CO1.out _ (hB.trans (hL.mono hB.size))).mono ?_
          rintro e Z1 ⟨v3, rfl, hv3, hb⟩
          replace B0 := cell_next hb nB B0
          replace B1 := cell_next hb nB B1
          replace B2 := cell_next hb nB B2
          replace B3 := cell_next hb nB B3
          replace D0 := cell_next hb nD D0
          replace D1 := cell_next hb nD D1
          replace nB := Nat.lt_of_lt_of_le nB hb.size
          replace nD := Nat.lt_of_lt_of_le nD hb.size
          replace hL := hL.trans (hb.mono (Nat.le_trans hBW hL.size))
          refine hK.out _ _ ⟨B0, B1, B2, B3, D0, D1, trivial⟩ (fun hHeld => ?_)
          clear hK K hb
          try simp only [Act.put, List.setIfInBounds_toArray, List.set_cons_zero, List.set_cons_succ]
          refine wpAnyH_ready (rs := [4]) (by kernel_rfl) (by simp) ?_
          refine AllReadyH.cons rfl (fun K hK => ?_) AllReadyH.nil
          go_simp
          refine (CQ1.out v3 (.slice A7 n2 c7) _ hv3.set (set_of7 H7.out hL Hn.out)).mono ?_
          rintro e Z2 ⟨rfl, hb⟩
          replace B0 := cell_next hb nB B0
          replace B1 := cell_next hb nB B1
          replace B2 := cell_next hb nB B2
          replace B3 := cell_next hb nB B3
          replace D0 := cell_next hb nD D0
          replace D1 := cell_next hb nD D1
          replace nB := Nat.lt_of_lt_of_le nB hb.size
          replace nD := Nat.lt_of_lt_of_le nD hb.size
          replace hL := hL.trans (hb.mono (Nat.le_trans hBW hL.size))
          refine hK.out _ _ ⟨B0, B1, B2, B3, D0, D1, trivial⟩ (fun hHeld => ?_)
          clear hK K hb
          try simp only [Act.put, List.setIfInBounds_toArray, List.set_cons_zero, List.set_cons_succ]
          refine take_slot (i := 5) (d := 37) (v := ?_) rfl rfl (by kernel_rfl) (by kernel_rfl) (by kernel_rfl) (fun _ _ _ h => h) (Or.inl ⟨by rfl, ?_⟩) (by assumption) ?_
          rotate_left 1
          focus (intro wS hSw; (try dsimp only at hSw); go_simp; try with_reducible rfl)
          try simp only [List.setIfInBounds_toArray, List.set_cons_zero, List.set_cons_succ]
          refine take_slot (i := 6) (d := 43) (v := ?_) rfl rfl (by kernel_rfl) (by kernel_rfl) (by kernel_rfl) (fun _ _ _ h => h) (Or.inl ⟨by rfl, ?_⟩) (by assumption) ?_
          rotate_left 1
          focus (intro wS hSw; (try dsimp only at hSw); go_simp; try with_reducible rfl)
          try simp only [List.setIfInBounds_toArray, List.set_cons_zero, List.set_cons_succ]
          refine take_slot (i := 7) (d := 44) (v := ?_) rfl rfl (by kernel_rfl) (by kernel_rfl) (by kernel_rfl) (fun _ _ _ h => h) (Or.inl ⟨by rfl, ?_⟩) (by assumption) ?_
          rotate_left 1
          focus (intro wS hSw; (try dsimp only at hSw); go_simp; try with_reducible rfl)
          try simp only [List.setIfInBounds_toArray, List.set_cons_zero, List.set_cons_succ]
          refine take_slot (i := 8) (d := 45) (v := ?_) rfl rfl (by kernel_rfl) (by kernel_rfl) (by kernel_rfl) (fun _ _ _ h => h) (Or.inl ⟨by rfl, ?_⟩) (by assumption) ?_
          rotate_left 1
          focus (intro wS hSw; (try dsimp only at hSw); go_simp; try with_reducible rfl)
          try simp only [List.setIfInBounds_toArray, List.set_cons_zero, List.set_cons_succ]
          refine take_slot (i := 9) (d := 8) (v := ?_) rfl rfl (by kernel_rfl) (by kernel_rfl) (by kernel_rfl) (fun _ _ _ h => h) (Or.inl ⟨by rfl, ?_⟩) (by assumption) ?_
          rotate_left 1
          focus (intro wS hSw; (try dsimp only at hSw); go_simp; try with_reducible rfl)
          try simp only [List.setIfInBounds_toArray, List.set_cons_zero, List.set_cons_succ]
          refine take_slot (i := 10) (d := 9) (v := ?_) rfl rfl (by kernel_rfl) (by kernel_rfl) (by kernel_rfl) (fun _ _ _ h => h) (Or.inl ⟨by rfl, ?_⟩) (by assumption) ?_
          rotate_left 1
          focus (intro wS hSw; (try dsimp only at hSw); go_simp; try with_reducible rfl)
          try simp only [List.setIfInBounds_toArray, List.set_cons_zero, List.set_cons_succ]
          refine take_slot (i := 11) (d := 10) (v := ?_) rfl rfl (by kernel_rfl) (by kernel_rfl) (by kernel_rfl) (fun _ _ _ h => h) (Or.inl ⟨by rfl, ?_⟩) (by assumption) ?_
          rotate_left 1
          focus (intro wS hSw; (try dsimp only at hSw); go_simp; try with_reducible rfl)
          try simp only [List.setIfInBounds_toArray, List.set_cons_zero, List.set_cons_succ]
          refine wpAnyH_done (by kernel_rfl) ?_ _
          replace hB := hB.trans (hL.mono hB.size)
          replace H7 := Lib.hid (fun h => r7_next (H7.out h) hL)
          clear hHeld hL hBW hv3
          clear CO1 CQ1
          go_wp2_with fail
          go_loopw [11] (fun i wr => ∃ k : Nat, k ≤ n2 ∧ i = .int .i64 (k : Int) ∧ wr.cell? ⟨w.heap.size, 0, none⟩ = some (.slice A n c) ∧ wr.cell? ⟨w.heap.size, 1, none⟩ = some (.int .i64 lim) ∧ wr.cell? ⟨w.heap.size, 2, none⟩ = some (.int .i64 fl) ∧ wr.cell? ⟨w.heap.size, 3, none⟩ = some (.int .i64 fh) ∧ w.heap.size < wr.heap.size ∧ wr.cell? ⟨w.heap.size + 1, 0, none⟩ = some (.int .i64 lo) ∧ wr.cell? ⟨w.heap.size + 1, 1, none⟩ = some (.int .i64 hi) ∧ w.heap.size + 1 < wr.heap.size ∧ Hid (0 < n2 → ∃ g o, A7 = some ⟨g, o, none⟩ ∧ g < wr.heap.size ∧ RRd wr g o l) ∧ Below w.heap.size w wr) (fun i _ => n2 - (RowKit.intOf i).toNat)
          case atStart => exact ⟨0, Nat.zero_le _, rfl, B0, B1, B2, B3, nB, D0, D1, nD, H7, hB⟩
          case round =>
            clear hB H7 B0 B1 B2 B3 nB D0 D1 nD
            obtain ⟨k, hk, rfl, B0, B1, B2, B3, nB, D0, D1, nD, H7, hB⟩ := hrel
            by_cases hlt : k < n2
            · obtain ⟨⟨x, y⟩, hp⟩ : ∃ p, l[k]? = some p := ⟨_, List.getElem?_eq_getElem (by rw [Hn.out]; exact hlt)⟩
              obtain ⟨g7, o7, rfl, hg7, hr7⟩ := H7.out (by omega)
              obtain ⟨g2, o2, rfl, hg2, hr2⟩ := HR.out (by omega)
              obtain ⟨p0, p1⟩ := hr7 k _ hp
              obtain ⟨q0, q1⟩ := hr2.below hB hg2 k _ hp
              dsimp only at p0 p1 q0 q1
              have hgw : g2 < wr.heap.size := by have := hB.size; omega
              have wk : IntKind.i64.wrap ((k : Int) + 1) = ((k + 1 : Nat) : Int) := IntWalk.i64_in _ (by omega)
              clear hp hr7 hr2
              go_wp2_with fail
              have hBW : wr.heap.size ≤ wr.heap.size := Nat.le_refl _
              refine wp_region_held_drew (S := fun w' => w'.cell? ⟨g7, o7 + k * 2, none⟩ = some (.int .i64 x) ∧ w'.cell? ⟨g7, o7 + k * 2 + 1, none⟩ = some (.int .i64 y) ∧ w'.cell? ⟨g2, o2 + k * 2, none⟩ = some (.int .i64 x) ∧ w'.cell? ⟨g2, o2 + k * 2 + 1, none⟩ = some (.int .i64 y) ∧ True) (by kernel_rfl) ?_ (fun hHeld => ?_)
              focus (exact ⟨p0, p1, q0, q1, trivial⟩)
              have hL : Below wr.heap.size wr wr.drew := Below.drew (Below.refl _ _)
              replace B0 : wr.drew.cell? ⟨w.heap.size, 0, none⟩ = some (.slice A n c) := B0
              replace B1 : wr.drew.cell? ⟨w.heap.size, 1, none⟩ = some (.int .i64 lim) := B1
              replace B2 : wr.drew.cell? ⟨w.heap.size, 2, none⟩ = some (.int .i64 fl) := B2
              replace B3 : wr.drew.cell? ⟨w.heap.size, 3, none⟩ = some (.int .i64 fh) := B3
              replace D0 : wr.drew.cell? ⟨w.heap.size + 1, 0, none⟩ = some (.int .i64 lo) := D0
              replace D1 : wr.drew.cell? ⟨w.heap.size + 1, 1, none⟩ = some (.int .i64 hi) := D1
              replace p0 : wr.drew.cell? ⟨g7, o7 + k * 2, none⟩ = some (.int .i64 x) := p0
              replace p1 : wr.drew.cell? ⟨g7, o7 + k * 2 + 1, none⟩ = some (.int .i64 y) := p1
              replace q0 : wr.drew.cell? ⟨g2, o2 + k * 2, none⟩ = some (.int .i64 x) := q0
              replace q1 : wr.drew.cell? ⟨g2, o2 + k * 2 + 1, none⟩ = some (.int .i64 y) := q1
              replace nB : w.heap.size < wr.drew.heap.size := nB
              replace nD : w.heap.size + 1 < wr.drew.heap.size := nD
              replace hg7 : g7 < wr.drew.heap.size := hg7
              replace hgw : g2 < wr.drew.heap.size := hgw
              generalize hWd : wr.drew = wd8 at hHeld hL B0 B1 B2 B3 D0 D1 p0 p1 q0 q1 nB nD hg7 hgw  ⊢
              clear hWd
              refine take_slot (i := 0) (d := 52) (v := ?_) rfl rfl (by kernel_rfl) (by kernel_rfl) (by kernel_rfl) (fun _ _ _ h => h) (Or.inl ⟨by rfl, ?_⟩) (by assumption) ?_
              rotate_left 1
              focus (intro wS hSw; (try dsimp only at hSw); go_simp; try with_reducible rfl)
              try simp only [List.setIfInBounds_toArray, List.set_cons_zero, List.set_cons_succ]
              refine take_slot (i := 1) (d := 53) (v := ?_) rfl rfl (by kernel_rfl) (by kernel_rfl) (by kernel_rfl) (fun _ _ _ h => h) (Or.inl ⟨by rfl, ?_⟩) (by assumption) ?_
              rotate_left 1
              focus (intro wS hSw; (try dsimp only at hSw); go_simp; try with_reducible rfl)
              try simp only [List.setIfInBounds_toArray, List.set_cons_zero, List.set_cons_succ]
              refine take_slot (i := 2) (d := 54) (v := ?_) rfl rfl (by kernel_rfl) (by kernel_rfl) (by kernel_rfl) (fun _ _ _ h => h) (Or.inl ⟨by rfl, ?_⟩) (by assumption) ?_
              rotate_left 1
              focus (intro wS hSw; (try dsimp only at hSw); go_simp; try with_reducible rfl)
              try simp only [List.setIfInBounds_toArray, List.set_cons_zero, List.set_cons_succ]
              refine take_slot (i := 3) (d := 55) (v := ?_) rfl rfl (by kernel_rfl) (by kernel_rfl) (by kernel_rfl) (fun _ _ _ h => h) (Or.inl ⟨by rfl, ?_⟩) (by assumption) ?_
              rotate_left 1
              focus (intro wS hSw; (try dsimp only at hSw); go_simp; try with_reducible rfl)
              try simp only [List.setIfInBounds_toArray, List.set_cons_zero, List.set_cons_succ]
              refine take_slot (i := 4) (d := 56) (v := ?_) rfl rfl (by kernel_rfl) (by kernel_rfl) (by kernel_rfl) (fun _ _ _ h => h) (Or.inl ⟨by rfl, ?_⟩) (by assumption) ?_
              rotate_left 1
              focus (intro wS hSw; (try dsimp only at hSw); go_simp; try with_reducible rfl)
              try simp only [List.setIfInBounds_toArray, List.set_cons_zero, List.set_cons_succ]
              refine take_slot (i := 5) (d := 57) (v := ?_) rfl rfl (by kernel_rfl) (by kernel_rfl) (by kernel_rfl) (fun _ _ _ h => h) (Or.inl ⟨by rfl, ?_⟩) (by assumption) ?_
              rotate_left 1
              focus (intro wS hSw; (try dsimp only at hSw); go_simp; try with_reducible rfl)
              try simp only [List.setIfInBounds_toArray, List.set_cons_zero, List.set_cons_succ]
              refine take_slot (i := 6) (d := 58) (v := ?_) rfl rfl (by kernel_rfl) (by kernel_rfl) (by kernel_rfl) (fun _ _ _ h => h) (Or.inl ⟨by rfl, ?_⟩) (by assumption) ?_
              rotate_left 1
              focus (intro wS hSw; (try dsimp only at hSw); go_simp; try with_reducible rfl)
              try simp only [List.setIfInBounds_toArray, List.set_cons_zero, List.set_cons_succ]
              refine take_slot (i := 7) (d := 59) (v := ?_) rfl rfl (by kernel_rfl) (by kernel_rfl) (by kernel_rfl) (fun _ _ _ h => h) (Or.inl ⟨by rfl, ?_⟩) (by assumption) ?_
              rotate_left 1
              focus (intro wS hSw; (try dsimp only at hSw); go_simp; try with_reducible rfl)
              try simp only [List.setIfInBounds_toArray, List.set_cons_zero, List.set_cons_succ]
              refine take_slot (i := 8) (d := 60) (v := ?_) rfl rfl (by kernel_rfl) (by kernel_rfl) (by kernel_rfl) (fun _ _ _ h => h) (Or.inl ⟨by rfl, ?_⟩) (by assumption) ?_
              rotate_left 1
              focus (intro wS hSw; (try dsimp only at hSw); go_simp; try with_reducible rfl)
              try simp only [List.setIfInBounds_toArray, List.set_cons_zero, List.set_cons_succ]
              refine wpAnyH_done (by kernel_rfl) ?_ _
              replace hB := hB.trans (hL.mono hB.size)
              replace H7 := Lib.hid (fun h => r7_next (H7.out h) hL)
              clear hHeld hL hBW p0 p1 q0 q1
              go_wp2_with fail
              go_roundw
              case rel => exact ⟨k + 1, by omega, by go_num, B0, B1, B2, B3, nB, D0, D1, nD, H7, hB⟩
              case measure => simp [RowKit.intOf]; omega
            · obtain rfl : k = n2 := by omega
              have t1 : decide ((k : Int) < (k : Int)) = false := by simp
              have CR1 := Lib.hid (CR.out (by omega) (by omega) wr hB)
              clear CR H7 HR
              go_wp2_with fail
              refine (CR1.out).mono ?_
              rintro e W2 ⟨rfl, hb⟩
              replace B0 := cell_next hb nB B0
              replace B1 := cell_next hb nB B1
              replace B2 := cell_next hb nB B2
              replace B3 := cell_next hb nB B3
              replace nB := Nat.lt_of_lt_of_le nB hb.size
              replace D0 := cell_next hb nD D0
              replace D1 := cell_next hb nD D1
              replace nD := Nat.lt_of_lt_of_le nD hb.size
              replace hB := hB.trans (hb.mono hB.size)
              clear hb
              clear CR1
              go_wp2_with fail
              refine (CK.out _).mono ?_
              rintro e W3 ⟨rfl, hb⟩
              replace B0 := cell_next hb nB B0
              replace B1 := cell_next hb nB B1
              replace B2 := cell_next hb nB B2
              replace B3 := cell_next hb nB B3
              replace nB := Nat.lt_of_lt_of_le nB hb.size
              replace D0 := cell_next hb nD D0
              replace D1 := cell_next hb nD D1
              replace nD := Nat.lt_of_lt_of_le nD hb.size
              replace hB := hB.trans (hb.mono hB.size)
              clear hb
              go_wp2_with fail
              go_ret
              exact ⟨by simp, hB⟩
        · go_enter Try.func3, Try.ntmps3
          go_wp2_with fail
          refine (CK.out _).mono ?_
          rintro e W1 ⟨rfl, hb⟩
          have B0 := cell_next hb (b := w.heap.size) (o := 0) (by simp <;> omega) (v := some (.slice A n c)) (by simp [go_sem])
          have B1 := cell_next hb (b := w.heap.size) (o := 1) (by simp <;> omega) (v := some (.int .i64 lim)) (by simp [go_sem])
          have B2 := cell_next hb (b := w.heap.size) (o := 2) (by simp <;> omega) (v := some (.int .i64 fl)) (by simp [go_sem])
          have B3 := cell_next hb (b := w.heap.size) (o := 3) (by simp <;> omega) (v := some (.int .i64 fh)) (by simp [go_sem])
          have nB : w.heap.size < W1.heap.size := by have := hb.size; simp at this; omega
          have D0 := cell_next hb (b := w.heap.size + 1) (o := 0) (by simp <;> omega) (v := some (.int .i64 lo)) (by simp [go_sem])
          have D1 := cell_next hb (b := w.heap.size + 1) (o := 1) (by simp <;> omega) (v := some (.int .i64 hi)) (by simp [go_sem])
          have nD : w.heap.size + 1 < W1.heap.size := by have := hb.size; simp at this; omega
          have hB := (below2 hb)
          clear hb
          go_wp2_with fail
          go_ret
          exact ⟨rfl, hB⟩
      · go_enter Try.func3, Try.ntmps3
        go_wp2_with fail
        refine (CK.out _).mono ?_
        rintro e W1 ⟨rfl, hb⟩
        have B0 := cell_next hb (b := w.heap.size) (o := 0) (by simp <;> omega) (v := some (.slice A n c)) (by simp [go_sem])
        have B1 := cell_next hb (b := w.heap.size) (o := 1) (by simp <;> omega) (v := some (.int .i64 lim)) (by simp [go_sem])
        have B2 := cell_next hb (b := w.heap.size) (o := 2) (by simp <;> omega) (v := some (.int .i64 fl)) (by simp [go_sem])
        have B3 := cell_next hb (b := w.heap.size) (o := 3) (by simp <;> omega) (v := some (.int .i64 fh)) (by simp [go_sem])
        have nB : w.heap.size < W1.heap.size := by have := hb.size; simp at this; omega
        have D0 := cell_next hb (b := w.heap.size + 1) (o := 0) (by simp <;> omega) (v := some (.int .i64 lo)) (by simp [go_sem])
        have D1 := cell_next hb (b := w.heap.size + 1) (o := 1) (by simp <;> omega) (v := some (.int .i64 hi)) (by simp [go_sem])
        have nD : w.heap.size + 1 < W1.heap.size := by have := hb.size; simp at this; omega
        have hB := (below2 hb)
        clear hb
        go_wp2_with fail
        go_ret
        exact ⟨rfl, hB⟩
  · go_enter Try.func3, Try.ntmps3
    go_wp2_with fail
    refine (CK.out _).mono ?_
    rintro e W1 ⟨rfl, hb⟩
    have B0 := cell_next hb (b := w.heap.size) (o := 0) (by simp <;> omega) (v := some (.slice A n c)) (by simp [go_sem])
    have B1 := cell_next hb (b := w.heap.size) (o := 1) (by simp <;> omega) (v := some (.int .i64 lim)) (by simp [go_sem])
    have B2 := cell_next hb (b := w.heap.size) (o := 2) (by simp <;> omega) (v := some (.int .i64 fl)) (by simp [go_sem])
    have B3 := cell_next hb (b := w.heap.size) (o := 3) (by simp <;> omega) (v := some (.int .i64 fh)) (by simp [go_sem])
    have nB : w.heap.size < W1.heap.size := by have := hb.size; simp at this; omega
    have D0 := cell_next hb (b := w.heap.size + 1) (o := 0) (by simp <;> omega) (v := some (.int .i64 lo)) (by simp [go_sem])
    have D1 := cell_next hb (b := w.heap.size + 1) (o := 1) (by simp <;> omega) (v := some (.int .i64 hi)) (by simp [go_sem])
    have nD : w.heap.size + 1 < W1.heap.size := by have := hb.size; simp at this; omega
    have hB := (below2 hb)
    clear hb
    go_wp2_with fail
    go_ret
    exact ⟨rfl, hB⟩
end Go.Proofs.Ytdlmkjllcejoaaa
