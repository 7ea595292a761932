/- Contracts: U2, J1, joined. -/
import Derived.Test.YtgklpbgdimkhaaaGreatKA2
import Derived.Test.YtgklpbgdimkhaaaGreatT1
import Derived.Test.YtgklpbgdimkhaaaGreatT3
namespace Go.Proofs.YtgklpbgdimkhaaaGreat
open Go.RowKit Go.Lib Go.Shelf
set_option linter.unusedVariables false
set_option linter.unusedSimpArgs false
attribute [local go_sem ↓] Go.wp_at_zero Go.wp_at_succ

def inB (lo hi n : Int) : Bool := decide (lo ≤ n) && decide (n ≤ hi)
def insB (lo hi : Int) (xs : List Int) : Bool := xs.all (inB lo hi)
theorem insB_snoc (lo hi : Int) (xs : List Int) (p : Int) : insB lo hi (xs ++ [p]) = (insB lo hi xs && inB lo hi p) := by simp [insB, List.all_append]
theorem insB_no {lo hi : Int} {xs : List Int} {k : Nat} {p : Int} (h : xs[k]? = some p) (hp : inB lo hi p = false) : insB lo hi xs = false := by
  rw [Bool.eq_false_iff]
  intro ha
  have := List.all_eq_true.1 ha p (List.mem_of_getElem? h)
  rw [hp] at this
  cases this
/-- the slice v reads as the numbers xs; it lies below block B -/
def NsAt (B : Nat) (w : World) (v : Value) (xs : List Int) : Prop :=
  ∃ A c, v = .slice A xs.length c ∧ (0 < xs.length → ∃ g off, A = some ⟨g, off, none⟩ ∧ g < B ∧ ∀ k z, xs[k]? = some z → w.cell? ⟨g, off + k, none⟩ = some (.int .i64 z))
theorem NsAt.below {B B' : Nat} {w w' : World} {v : Value} {xs : List Int} (h : NsAt B w v xs) (hb : Below B' w w') (hB : B ≤ B') : NsAt B w' v xs := by
  obtain ⟨A, c, rfl, h⟩ := h
  refine ⟨A, c, rfl, fun hn => ?_⟩
  obtain ⟨g, off, rfl, hg, hr⟩ := h hn
  exact ⟨g, off, rfl, hg, fun k z hz => cell_next hb (by omega) (hr k z hz)⟩
theorem NsAt.mono {B B' : Nat} {w : World} {v : Value} {xs : List Int} (h : NsAt B w v xs) (hB : B ≤ B') : NsAt B' w v xs := by
  obtain ⟨A, c, rfl, h⟩ := h
  refine ⟨A, c, rfl, fun hn => ?_⟩
  obtain ⟨g, off, rfl, hg, hr⟩ := h hn
  exact ⟨g, off, rfl, by omega, hr⟩
theorem ns_one {w : World} {g c : Nat} {x : Int} (h : w.cell? ⟨g, 0, none⟩ = some (.int .i64 x)) : NsAt (g + 1) w (.slice (some ⟨g, 0, none⟩) 1 c) [x] :=
  ⟨_, _, rfl, fun _ => ⟨g, 0, rfl, by omega, fun k z hz => by
    rcases k with _ | k
    · simp at hz; subst hz; simpa using h
    · simp at hz⟩⟩
theorem ns_two {w : World} {g c : Nat} {x y : Int} (h : w.cell? ⟨g, 0, none⟩ = some (.int .i64 x)) (h' : w.cell? ⟨g, 1, none⟩ = some (.int .i64 y)) : NsAt (g + 1) w (.slice (some ⟨g, 0, none⟩) 2 c) [x, y] :=
  ⟨_, _, rfl, fun _ => ⟨g, 0, rfl, by omega, fun k z hz => by
    rcases k with _ | _ | k
    · simp at hz; subst hz; simpa using h
    · simp at hz; subst hz; simpa using h'
    · simp at hz⟩⟩
theorem take_snocN (xs : List Int) (k : Nat) (p : Int) (h : xs[k]? = some p) : xs.take (k + 1) = xs.take k ++ [p] := by rw [List.take_add_one, h]; rfl

/-- the number of the first element that is meant, or -1 -/
def IxPost (b : Bool) (w : World) (e : Ending) (w' : World) : Prop := ∃ i : Int, e = .returned (.int .i64 i) ∧ (if b then i = -1 else 0 ≤ i ∧ i ≤ 9000000000000000000) ∧ Below w.heap.size w w'

theorem below_al2 (w : World) (o p : Obj) : Below w.heap.size w ((w.alloc o).alloc p) := ((Below.refl _ _).alloc (Nat.le_refl _) _).alloc (by simp) _

open Go.RowKit Go.Lib Go.Shelf
set_option linter.unusedVariables false
set_option linter.unusedSimpArgs false
attribute [local go_sem ↓] Go.wp_at_zero Go.wp_at_succ


/-- a range lies between two numbers, its ends in order -/
def rgB (lo hi a b : Int) : Bool := decide (a ≤ b) && inB lo hi a && inB lo hi b
theorem rgB_of {lo hi a b : Int} (h : rgB lo hi a b = true) : a ≤ b ∧ lo ≤ a ∧ b ≤ hi := by
 simp [rgB, inB] at h; omega
/-- the slice v reads as the things xs, each of N cells c x; it lies below block B -/
def RsAt {α : Type} (N : Nat) (c : α → List Value) (B : Nat) (w : World) (v : Value) (xs : List α) : Prop :=
 ∃ A cp, v = .slice A xs.length cp ∧ (0 < xs.length → ∃ g off, A = some ⟨g, off, none⟩ ∧ g < B ∧ ∀ k x, xs[k]? = some x → ∀ j u, (c x)[j]? = some u → w.cell? ⟨g, off + k * N + j, none⟩ = some u)
theorem RsAt.below {α : Type} {N : Nat} {c : α → List Value} {B B' : Nat} {w w' : World} {v : Value} {xs : List α} (h : RsAt N c B w v xs) (hb : Below B' w w') (hB : B ≤ B') : RsAt N c B w' v xs := by
 obtain ⟨A, cp, rfl, h⟩ := h
 refine ⟨A, cp, rfl, fun hn => ?_⟩
 obtain ⟨g, off, rfl, hg, hr⟩ := h hn
 exact ⟨g, off, rfl, hg, fun k x hx j u hj => cell_next hb (by omega) (hr k x hx j u hj)⟩
theorem RsAt.mono {α : Type} {N : Nat} {c : α → List Value} {B B' : Nat} {w : World} {v : Value} {xs : List α} (h : RsAt N c B w v xs) (hB : B ≤ B') : RsAt N c B' w v xs := by
 obtain ⟨A, cp, rfl, h⟩ := h
 refine ⟨A, cp, rfl, fun hn => ?_⟩
 obtain ⟨g, off, rfl, hg, hr⟩ := h hn
 exact ⟨g, off, rfl, by omega, hr⟩
theorem RsAt.next {α : Type} {N : Nat} {c : α → List Value} {w w' : World} {v : Value} {xs : List α} (h : RsAt N c w.heap.size w v xs) (hb : Below w.heap.size w w') : RsAt N c w'.heap.size w' v xs := (h.below hb (Nat.le_refl _)).mono hb.size
/-- the number of the first thing that a test takes, or -1 -/
def ixF {α : Type} (p : α → Bool) (xs : List α) : Int := if xs.any p then (xs.findIdx p : Nat) else -1
theorem ixF_at {α : Type} (p : α → Bool) (xs : List α) (k : Nat) (x : α) (h : xs[k]? = some x) (ha : (xs.take k).any p = false) (hb : p x = true) : ixF p xs = k := by
 have h1 : xs.any p = true := List.any_eq_true.2 ⟨x, List.mem_of_getElem? h, hb⟩
 have hk := (List.getElem?_eq_some_iff.1 h).1
 have hx := (List.getElem?_eq_some_iff.1 h).2
 unfold ixF
 rw [if_pos h1, (List.findIdx_eq hk).2 ⟨by rw [hx]; exact hb, fun j hj => ?_⟩]
 rw [List.any_eq_false] at ha
 have := ha (xs[j]'(by omega)) (List.mem_of_getElem? (by rw [List.getElem?_take, if_pos hj]; exact List.getElem?_eq_getElem _))
 simpa using this
theorem ixF_no {α : Type} (p : α → Bool) (xs : List α) (h : xs.any p = false) : ixF p xs = -1 := by
 unfold ixF; rw [h]; simp
theorem ixF_any {α : Type} (p : α → Bool) (xs : List α) : if xs.any p then 0 ≤ ixF p xs else ixF p xs = -1 := by
 unfold ixF; split <;> omega
theorem any_next {α : Type} (p : α → Bool) (xs : List α) (k : Nat) (x : α) (h : xs[k]? = some x) (ha : (xs.take k).any p = false) (hb : p x = false) : (xs.take (k + 1)).any p = false := by
 rw [List.take_add_one, h, List.any_append, ha]; simp [hb]
set_option maxHeartbeats 400000 in
theorem jin1_any (lo hi n : Int) (b b2 : Nat) (w : World) (h0 : w.cell? ⟨b, 0, none⟩ = some (.int .i64 lo)) (h1 : w.cell? ⟨b2, 0, none⟩ = some (.int .i64 hi)) :
  Calls Tryz.prog 86 #[.int .i64 n, .pointer (some ⟨b, 0, none⟩), .pointer (some ⟨b2, 0, none⟩)] w fun e w' => e = .returned (.bool (!inB lo hi n)) ∧ Below w.heap.size w w' := by
 by_cases c1 : n < lo <;> by_cases c2 : hi < n
 all_goals
  go_enter Tryz.func86, Tryz.ntmps86
  go_wp2
  go_ret
  exact ⟨by simp [inB]; omega, Below.refl _ _⟩
theorem jenters_in1 : ∀ args w, (callFunc 86 args).run Tryz.prog w = .ok (.enter 86 args) w := enters_of Tryz.func86 (by kernel_rfl) rfl

set_option maxRecDepth 20000 in
set_option maxHeartbeats 1000000 in
theorem jindexIn_any (lo hi : Int) (b b2 : Nat) (v : Value) (xs : List Int) (w : World) (hl : xs.length ≤ 1000000000000) (hv : NsAt w.heap.size w v xs) (hb : b < w.heap.size) (hb2 : b2 < w.heap.size) (h0 : w.cell? ⟨b, 0, none⟩ = some (.int .i64 lo)) (h1 : w.cell? ⟨b2, 0, none⟩ = some (.int .i64 hi)) :
  Calls Tryz.prog 112 #[v, .func (Fn.func 86) #[] #[.pointer (some ⟨b, 0, none⟩), .pointer (some ⟨b2, 0, none⟩)]] w (IxPost (insB lo hi xs) w) := by
 have HE := jenters_in1
 obtain ⟨A, c, rfl, hr⟩ := hv
 have HN := Lib.hid (fun (k : Nat) (p : Int) (h : xs[k]? = some p) hp => insB_no (lo := lo) (hi := hi) h hp)
 have HC := Lib.hid (fun (n : Int) (W : World) (h : Below w.heap.size w W) => jin1_any lo hi n b b2 W (cell_next h hb h0) (cell_next h hb2 h1))
 obtain ⟨r, hrr⟩ : ∃ r, insB lo hi xs = r := ⟨_, rfl⟩
 rw [hrr] at HN ⊢
 have HB := Lib.hid hrr
 clear hrr h0 h1
 obtain ⟨n, hn⟩ : ∃ n, xs.length = n := ⟨_, rfl⟩
 rw [hn] at hr hl ⊢
 have Hn := Lib.hid hn
 have HR := Lib.hid hr
 clear hr hn
 go_enter Tryz.func112, Tryz.ntmps112
 go_wp2_with fail
 go_loopw [8] (fun i wr => ∃ k : Nat, k ≤ n ∧ i = .int .i64 k ∧ Hid (insB lo hi (xs.take k) = true) ∧ Below w.heap.size w wr) (fun i _ => n - (RowKit.intOf i).toNat)
 case atStart => exact ⟨0, Nat.zero_le _, rfl, Lib.hid rfl, Below.refl _ _⟩
 case round =>
  obtain ⟨k, hk, rfl, ho, hbr⟩ := hrel
  by_cases hlt : (k : Int) < (n : Int)
  ·obtain ⟨p, hp⟩ : ∃ p, xs[k]? = some p := ⟨_, List.getElem?_eq_getElem (by rw [Hn.out]; omega)⟩
   obtain ⟨g, off, rfl, hg, hc⟩ := HR.out (by omega)
   have q0 := cell_next hbr hg (hc k p hp)
   have HNk := Lib.hid (HN.out k p hp)
   have hok : Hid (insB lo hi (xs.take (k + 1)) = inB lo hi p) := Lib.hid (by rw [take_snocN xs k p hp, insB_snoc, ho.out]; rfl)
   have c1 := Lib.hid (HC.out p wr hbr)
   clear hc hp
   generalize inB lo hi p = b' at *
   cases b'
   ·have E := Lib.hid (HNk.out rfl)
    go_wp2_with fail
    refine c1.out.mono ?_
    rintro e w1 ⟨rfl, hb⟩
    have hB := hbr.trans (hb.mono hbr.size)
    clear hb
    go_wp2_with fail
    go_ret
    exact ⟨_, rfl, by rw [E.out, if_neg (by simp)]; omega, hB⟩
   ·go_wp2_with fail
    refine c1.out.mono ?_
    rintro e w1 ⟨rfl, hb⟩
    have hB := hbr.trans (hb.mono hbr.size)
    clear hb q0 c1
    go_wp2_with fail
    go_roundw
    case rel => exact ⟨k + 1, by omega, by go_num, hok, hB⟩
    case measure => simp [RowKit.intOf]; omega
  ·obtain rfl : k = n := by omega
   have E : Hid (r = true) := Lib.hid (HB.out.symm.trans (by have h := ho.out; rwa [List.take_of_length_le (by rw [Hn.out]; exact Nat.le_refl _)] at h))
   go_wp2_with fail
   go_ret
   exact ⟨_, rfl, by rw [E.out, if_pos rfl], hbr⟩

set_option maxHeartbeats 400000 in
theorem panyIn_any (lo hi : Int) (b b2 : Nat) (v : Value) (xs : List Int) (w : World) (hl : xs.length ≤ 1000000000000) (hv : NsAt w.heap.size w v xs) (hb : b < w.heap.size) (hb2 : b2 < w.heap.size) (h0 : w.cell? ⟨b, 0, none⟩ = some (.int .i64 lo)) (h1 : w.cell? ⟨b2, 0, none⟩ = some (.int .i64 hi)) :
  Calls Tryz.prog 85 #[v, .func (Fn.func 86) #[] #[.pointer (some ⟨b, 0, none⟩), .pointer (some ⟨b2, 0, none⟩)]] w fun e w' => e = .returned (.bool (!insB lo hi xs)) ∧ Below w.heap.size w w' := by
 have c1 := Lib.hid (jindexIn_any lo hi b b2 v xs w hl hv hb hb2 h0 h1)
 clear hv h0 h1 hb hb2
 generalize insB lo hi xs = r at *
 go_enter Tryz.func85, Tryz.ntmps85
 go_wp2_with fail
 refine c1.out.mono ?_
 rintro e w1 ⟨i, rfl, hi, hb⟩
 cases r
 ·obtain ⟨h1, h2⟩ : 0 ≤ i ∧ i ≤ 9000000000000000000 := by simpa using hi
  clear hi
  go_wp2_with fail
  go_ret
  exact ⟨by simp [*], hb⟩
 ·obtain rfl : i = -1 := by simpa using hi
  go_wp2_with fail
  go_ret
  exact ⟨by simp, hb⟩

set_option maxHeartbeats 400000 in
theorem jin_any (lo hi : Int) (v : Value) (xs : List Int) (w : World) (hl : xs.length ≤ 1000000000000) (hv : NsAt w.heap.size w v xs) :
  Calls Tryz.prog 45 #[.int .i64 lo, .int .i64 hi, v] w fun e w' => e = .returned (.bool (insB lo hi xs)) ∧ Below w.heap.size w w' := by
 have c1 := Lib.hid (fun (W : World) (h : Below w.heap.size w W) => panyIn_any lo hi w.heap.size (w.heap.size + 1) v xs W hl ((hv.below h (Nat.le_refl _)).mono h.size))
 clear hv
 generalize insB lo hi xs = r at *
 go_enter Tryz.func45, Tryz.ntmps45
 go_wp2_with fail
 refine (c1.out _ (below_al2 w _ _) (by simp only [World.size_alloc]; omega) (by simp only [World.size_alloc]; omega) (by simp [go_sem]) (by simp [go_sem])).mono ?_
 rintro e w1 ⟨rfl, hb⟩
 have hB := below2 hb
 clear hb
 go_wp2_with fail
 go_ret
 exact ⟨by simp, hB⟩

theorem jin2_any (lo hi x y : Int) (g c : Nat) (w : World) (hg : g < w.heap.size) (h : w.cell? ⟨g, 0, none⟩ = some (.int .i64 x)) (h' : w.cell? ⟨g, 1, none⟩ = some (.int .i64 y)) :
  Calls Tryz.prog 45 #[.int .i64 lo, .int .i64 hi, .slice (some ⟨g, 0, none⟩) 2 c] w fun e w' => e = .returned (.bool (inB lo hi x && inB lo hi y)) ∧ Below w.heap.size w w' := by
 have c1 := jin_any lo hi (.slice (some ⟨g, 0, none⟩) 2 c) [x, y] w (by simp) ((ns_two h h').mono (by omega))
 have e : insB lo hi [x, y] = (inB lo hi x && inB lo hi y) := by simp [insB]
 rw [e] at c1
 exact c1
theorem jin1v_any (lo hi x : Int) (g c : Nat) (w : World) (hg : g < w.heap.size) (h : w.cell? ⟨g, 0, none⟩ = some (.int .i64 x)) :
  Calls Tryz.prog 45 #[.int .i64 lo, .int .i64 hi, .slice (some ⟨g, 0, none⟩) 1 c] w fun e w' => e = .returned (.bool (inB lo hi x)) ∧ Below w.heap.size w w' := by
 have c1 := jin_any lo hi (.slice (some ⟨g, 0, none⟩) 1 c) [x] w (by simp) ((ns_one h).mono (by omega))
 have e : insB lo hi [x] = inB lo hi x := by simp [insB]
 rw [e] at c1
 exact c1


/-- a range that is not valid, or not within bounds -/
def rgW (lo hi : Int) (p : Int × Int) : Bool := !rgB lo hi p.1 p.2
def cR (p : Int × Int) : List Value := [.int .i64 p.1, .int .i64 p.2]
set_option maxHeartbeats 1000000 in
theorem lie1_any (lo hi : Int) (p : Int × Int) (b b2 : Nat) (w : World) (hb1 : b < w.heap.size) (hb2 : b2 < w.heap.size) (h0 : w.cell? ⟨b, 0, none⟩ = some (.int .i64 lo)) (h1 : w.cell? ⟨b2, 0, none⟩ = some (.int .i64 hi)) :
  Calls Tryz.prog 84 #[.agg #[.int .i64 p.1, .int .i64 p.2], .pointer (some ⟨b, 0, none⟩), .pointer (some ⟨b2, 0, none⟩)] w fun e w' => e = .returned (.bool (rgW lo hi p)) ∧ Below w.heap.size w w' := by
 obtain ⟨x, y⟩ := p
 have C := Lib.hid (fun (W : World) (g c : Nat) => jin2_any lo hi x y g c W)
 have hr : Hid (rgW lo hi (x, y) = !(decide (x ≤ y) && (inB lo hi x && inB lo hi y))) := Lib.hid (by simp [rgW, rgB, Bool.and_assoc])
 generalize rgW lo hi (x, y) = r at *
 generalize (inB lo hi x && inB lo hi y) = z at *
 dsimp only
 by_cases h : x ≤ y
 ·have e0 : decide (y < x) = false := decide_eq_false (by omega)
  obtain rfl : r = !z := hr.out.trans (by simp [h])
  go_enter Tryz.func84, Tryz.ntmps84
  go_wp2_with fail
  refine (C.out _ _ _ (by simp) (by simp [go_sem]) (by simp [go_sem])).mono ?_
  rintro e w1 ⟨rfl, hb⟩
  have hB := below2 hb
  clear hb
  go_wp2_with fail
  go_ret
  exact ⟨rfl, hB⟩
 ·have e0 : decide (y < x) = true := decide_eq_true (by omega)
  obtain rfl : r = true := hr.out.trans (by simp [h])
  go_enter Tryz.func84, Tryz.ntmps84
  go_wp2_with fail
  go_ret
  exact ⟨rfl, (Below.refl _ _).alloc (Nat.le_refl _) _⟩
theorem lieenters : ∀ args w, (callFunc 84 args).run Tryz.prog w = .ok (.enter 84 args) w := enters_of Tryz.func84 (by kernel_rfl) rfl

set_option maxRecDepth 20000 in
set_option maxHeartbeats 1000000 in
theorem lieindex_any (lo hi : Int) (b b2 : Nat) (v : Value) (xs : List (Int × Int)) (w : World) (hl : xs.length ≤ 1000000000000) (hv : RsAt 2 cR w.heap.size w v xs)
  (HC : ∀ (x : Int × Int) (W : World), Below w.heap.size w W → Calls Tryz.prog 84 #[.agg (cR x).toArray, .pointer (some ⟨b, 0, none⟩), .pointer (some ⟨b2, 0, none⟩)] W fun e w' => e = .returned (.bool ((rgW lo hi) x)) ∧ Below W.heap.size W w') :
  Calls Tryz.prog 111 #[v, .func (Fn.func 84) #[] #[.pointer (some ⟨b, 0, none⟩), .pointer (some ⟨b2, 0, none⟩)]] w fun e w' => e = .returned (.int .i64 (ixF ((rgW lo hi)) xs)) ∧ Below w.heap.size w w' := by
 have HE := lieenters
 obtain ⟨A, c, rfl, hr⟩ := hv
 obtain ⟨p, hpp⟩ : ∃ p : Int × Int → Bool, ((rgW lo hi)) = p := ⟨_, rfl⟩
 rw [hpp]
 replace HC := Lib.hid (fun x W h => by have := HC x W h; rw [show ((rgW lo hi)) x = p x from congrFun hpp x] at this; exact this)
 clear hpp
 have HF := Lib.hid (fun (k : Nat) (x : Int × Int) (h : xs[k]? = some x) (ha : (xs.take k).any p = false) (hb : p x = true) => ixF_at p xs k x h ha hb)
 have HZ := Lib.hid (fun (h : xs.any p = false) => ixF_no p xs h)
 have HS := Lib.hid (fun (k : Nat) (x : Int × Int) (h : xs[k]? = some x) (ha : (xs.take k).any p = false) (hb : p x = false) => any_next p xs k x h ha hb)
 obtain ⟨r, hrr⟩ : ∃ r, ixF p xs = r := ⟨_, rfl⟩
 rw [hrr] at HF HZ ⊢
 clear hrr
 obtain ⟨n, hn⟩ : ∃ n, xs.length = n := ⟨_, rfl⟩
 rw [hn] at hr hl ⊢
 have Hn := Lib.hid hn
 have HR := Lib.hid hr
 clear hr hn
 go_enter Tryz.func111, Tryz.ntmps111
 go_wp2_with fail
 go_loopw [8] (fun i wr => ∃ k : Nat, k ≤ n ∧ i = .int .i64 k ∧ Hid ((xs.take k).any p = false) ∧ Below w.heap.size w wr) (fun i _ => n - (RowKit.intOf i).toNat)
 case atStart => exact ⟨0, Nat.zero_le _, rfl, Lib.hid rfl, Below.refl _ _⟩
 case round =>
  obtain ⟨k, hk, rfl, ho, hbr⟩ := hrel
  by_cases hlt : (k : Int) < (n : Int)
  ·obtain ⟨x, hp⟩ : ∃ x, xs[k]? = some x := ⟨_, List.getElem?_eq_getElem (by rw [Hn.out]; omega)⟩
   obtain ⟨g, off, rfl, hg, hc0⟩ := HR.out (by omega)
   have hc := fun (k : Nat) (x : Int × Int) (h : xs[k]? = some x) (j : Nat) (u : Value) (hj : (cR x)[j]? = some u) => cell_next hbr hg (hc0 k x h j u hj)
   have HFk := Lib.hid (HF.out k x hp ho.out)
   have HSk := Lib.hid (HS.out k x hp ho.out)
   have c1 := HC.out x wr hbr
   obtain ⟨x0, x1⟩ := x
   dsimp only [cR] at c1
   replace c1 := Lib.hid c1
   have q0 : wr.cell? ⟨g, off + k * 2, none⟩ = some (.int .i64 x0) := hc k ⟨x0, x1⟩ hp 0 _ rfl
   have q1 : wr.cell? ⟨g, off + k * 2 + 1, none⟩ = some (.int .i64 x1) := hc k ⟨x0, x1⟩ hp 1 _ rfl
   clear hc hc0 hp
   generalize p ⟨x0, x1⟩ = b' at *
   cases b'
   ·have E := Lib.hid (HSk.out rfl)
    clear HFk HSk
    go_wp2_with fail
    refine c1.out.mono ?_
    rintro e w1 ⟨rfl, hb⟩
    have hB := hbr.trans (hb.mono hbr.size)
    clear hb q0 q1 c1
    go_wp2_with fail
    go_roundw
    case rel => exact ⟨k + 1, by omega, by go_num, E, hB⟩
    case measure => simp [RowKit.intOf]; omega
   ·have E := Lib.hid (HFk.out rfl)
    clear HFk HSk
    go_wp2_with fail
    refine c1.out.mono ?_
    rintro e w1 ⟨rfl, hb⟩
    have hB := hbr.trans (hb.mono hbr.size)
    clear hb
    go_wp2_with fail
    go_ret
    exact ⟨by first | (rw [E.out]; rfl) | rw [E.out], hB⟩
  ·obtain rfl : k = n := by omega
   have E := Lib.hid (HZ.out (by have h := ho.out; rwa [List.take_of_length_le (by rw [Hn.out]; exact Nat.le_refl _)] at h))
   go_wp2_with fail
   go_ret
   exact ⟨by first | (rw [E.out]; rfl) | rw [E.out], hbr⟩

set_option maxRecDepth 20000 in
set_option maxHeartbeats 1000000 in
theorem lieany_any (lo hi : Int) (b b2 : Nat) (v : Value) (xs : List (Int × Int)) (w : World) (hl : xs.length ≤ 1000000000000) (hv : RsAt 2 cR w.heap.size w v xs)
  (HC : ∀ (x : Int × Int) (W : World), Below w.heap.size w W → Calls Tryz.prog 84 #[.agg (cR x).toArray, .pointer (some ⟨b, 0, none⟩), .pointer (some ⟨b2, 0, none⟩)] W fun e w' => e = .returned (.bool ((rgW lo hi) x)) ∧ Below W.heap.size W w') :
  Calls Tryz.prog 83 #[v, .func (Fn.func 84) #[] #[.pointer (some ⟨b, 0, none⟩), .pointer (some ⟨b2, 0, none⟩)]] w fun e w' => e = .returned (.bool (xs.any ((rgW lo hi)))) ∧ Below w.heap.size w w' := by
 have c1 := Lib.hid (lieindex_any lo hi b b2 v xs w hl hv HC)
 have hix := ixF_any ((rgW lo hi)) xs
 clear hv HC
 generalize ixF ((rgW lo hi)) xs = i at *
 generalize xs.any ((rgW lo hi)) = r at *
 go_enter Tryz.func83, Tryz.ntmps83
 go_wp2_with fail
 refine c1.out.mono ?_
 rintro e w1 ⟨rfl, hb⟩
 cases r
 ·have hi' : i = -1 := by simpa using hix
  subst hi'
  go_wp2_with fail
  go_ret
  exact ⟨by simp, hb⟩
 ·have hi' : 0 ≤ i := by simpa using hix
  clear hix
  go_wp2_with fail
  go_ret
  exact ⟨by simp [*], hb⟩

set_option maxRecDepth 20000 in
set_option maxHeartbeats 1000000 in
theorem lie_any (lo hi : Int) (v : Value) (xs : List (Int × Int)) (w : World) (hl : xs.length ≤ 1000000000000) (hv : RsAt 2 cR w.heap.size w v xs) :
  Calls Tryz.prog 44 #[.int .i64 lo, .int .i64 hi, v] w fun e w' => e = .returned (.bool (!xs.any (rgW lo hi))) ∧ Below w.heap.size w w' := by
 have c1 := Lib.hid (fun (W : World) (h : Below w.heap.size w W) (k1 : w.heap.size < W.heap.size) (k2 : w.heap.size + 1 < W.heap.size) (h0 : W.cell? ⟨w.heap.size, 0, none⟩ = some (.int .i64 lo)) (h1 : W.cell? ⟨w.heap.size + 1, 0, none⟩ = some (.int .i64 hi)) =>
  lieany_any lo hi w.heap.size (w.heap.size + 1) v xs W hl ((hv.below h (Nat.le_refl _)).mono h.size) (fun x W' h' => lie1_any lo hi x _ _ W' (Nat.lt_of_lt_of_le k1 h'.size) (Nat.lt_of_lt_of_le k2 h'.size) (cell_next h' k1 h0) (cell_next h' k2 h1)))
 clear hv
 generalize xs.any (rgW lo hi) = r at *
 go_enter Tryz.func44, Tryz.ntmps44
 go_wp2_with fail
 refine (c1.out _ (below_al2 w _ _) (by simp only [World.size_alloc]; omega) (by simp only [World.size_alloc]; omega) (by simp [go_sem]) (by simp [go_sem])).mono ?_
 rintro e w1 ⟨rfl, hb⟩
 have hB := below2 hb
 clear hb
 go_wp2_with fail
 go_ret
 exact ⟨rfl, hB⟩
theorem rs_one {w : World} {g c : Nat} {x y : Int} (h : w.cell? ⟨g, 0, none⟩ = some (.int .i64 x)) (h' : w.cell? ⟨g, 1, none⟩ = some (.int .i64 y)) : RsAt 2 cR (g + 1) w (.slice (some ⟨g, 0, none⟩) 1 c) [(x, y)] :=
 ⟨_, _, rfl, fun _ => ⟨g, 0, rfl, Nat.lt_succ_self _, fun k p hp j u hj => by
  rcases k with _ | k
  ·simp at hp; subst hp
   rcases j with _ | _ | j
   ·simp [cR] at hj; subst hj; simpa using h
   ·simp [cR] at hj; subst hj; simpa using h'
   ·simp [cR] at hj
  ·simp at hp⟩⟩
/-- lie of one range -/
theorem lie1v_any (lo hi x y : Int) (g c : Nat) (w : World) (hg : g < w.heap.size) (h : w.cell? ⟨g, 0, none⟩ = some (.int .i64 x)) (h' : w.cell? ⟨g, 1, none⟩ = some (.int .i64 y)) :
  Calls Tryz.prog 44 #[.int .i64 lo, .int .i64 hi, .slice (some ⟨g, 0, none⟩) 1 c] w fun e w' => e = .returned (.bool (rgB lo hi x y)) ∧ Below w.heap.size w w' := by
 have c1 := lie_any lo hi (.slice (some ⟨g, 0, none⟩) 1 c) [(x, y)] w (by simp) ((rs_one h h').mono (by omega))
 have e : (!([(x, y)] : List (Int × Int)).any (rgW lo hi)) = rgB lo hi x y := by simp [rgW]
 rw [e] at c1
 exact c1
theorem jvSap_any (a s : Int) (w : World) :
  Calls Tryz.prog 48 #[.agg #[.int .i64 a, .int .i64 s]] w fun e w' => e = .returned (.bool (spB a s)) ∧ Below w.heap.size w w' := by
 have C := Lib.hid (fun (W : World) (g c : Nat) => jin2_any 0 1000000000000 a s g c W)
 have hr : Hid (spB a s = (inB 0 1000000000000 a && inB 0 1000000000000 s)) := Lib.hid (by simp [spB, inB, Bool.and_assoc])
 rw [hr.out]
 clear hr
 generalize (inB 0 1000000000000 a && inB 0 1000000000000 s) = z at *
 go_enter Tryz.func48, Tryz.ntmps48
 go_wp2_with fail
 refine (C.out _ _ _ (by simp) (by simp [go_sem]) (by simp [go_sem])).mono ?_
 rintro e w1 ⟨rfl, hb⟩
 have hB := below2 hb
 clear hb
 go_wp2_with fail
 go_ret
 exact ⟨rfl, hB⟩
end Go.Proofs.YtgklpbgdimkhaaaGreat
