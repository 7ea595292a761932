/- Contracts: numbers within a range, as package vat asks for them; valid sap. -/
import Derived.Test.YtloddjjmoaljhaaC9
namespace Go.Proofs.Ytloddjjmoaljhaa
open Go.RowKit Go.Lib Go.Shelf
set_option linter.unusedVariables false
set_option linter.unusedSimpArgs false
attribute [local go_sem ↓] Go.wp_at_zero Go.wp_at_succ

def inB (lo hi n : Int) : Bool := decide (lo ≤ n) && decide (n ≤ hi)
def insB (lo hi : Int) (xs : List Int) : Bool := xs.all (inB lo hi)
theorem insB_snoc (lo hi : Int) (xs : List Int) (p : Int) : insB lo hi (xs ++ [p]) = (insB lo hi xs && inB lo hi p) := by simp [insB, List.all_append]
theorem insB_no {lo hi : Int} {xs : List Int} {k : Nat} {p : Int} (h : xs[k]? = some p) (hp : inB lo hi p = false) : insB lo hi xs = false := by
  rw [Bool.eq_false_iff]
  intro ha
  have := List.all_eq_true.1 ha p (List.mem_of_getElem? h)
  rw [hp] at this
  cases this
/-- the slice v reads as the numbers xs; it lies below block B -/
def NsAt (B : Nat) (w : World) (v : Value) (xs : List Int) : Prop :=
  ∃ A c, v = .slice A xs.length c ∧ (0 < xs.length → ∃ g off, A = some ⟨g, off, none⟩ ∧ g < B ∧ ∀ k z, xs[k]? = some z → w.cell? ⟨g, off + k, none⟩ = some (.int .i64 z))
theorem NsAt.below {B B' : Nat} {w w' : World} {v : Value} {xs : List Int} (h : NsAt B w v xs) (hb : Below B' w w') (hB : B ≤ B') : NsAt B w' v xs := by
  obtain ⟨A, c, rfl, h⟩ := h
  refine ⟨A, c, rfl, fun hn => ?_⟩
  obtain ⟨g, off, rfl, hg, hr⟩ := h hn
  exact ⟨g, off, rfl, hg, fun k z hz => cell_next hb (by omega) (hr k z hz)⟩
theorem NsAt.mono {B B' : Nat} {w : World} {v : Value} {xs : List Int} (h : NsAt B w v xs) (hB : B ≤ B') : NsAt B' w v xs := by
  obtain ⟨A, c, rfl, h⟩ := h
  refine ⟨A, c, rfl, fun hn => ?_⟩
  obtain ⟨g, off, rfl, hg, hr⟩ := h hn
  exact ⟨g, off, rfl, by omega, hr⟩
theorem ns_one {w : World} {g c : Nat} {x : Int} (h : w.cell? ⟨g, 0, none⟩ = some (.int .i64 x)) : NsAt (g + 1) w (.slice (some ⟨g, 0, none⟩) 1 c) [x] :=
  ⟨_, _, rfl, fun _ => ⟨g, 0, rfl, by omega, fun k z hz => by
    rcases k with _ | k
    · simp at hz; subst hz; simpa using h
    · simp at hz⟩⟩
theorem ns_two {w : World} {g c : Nat} {x y : Int} (h : w.cell? ⟨g, 0, none⟩ = some (.int .i64 x)) (h' : w.cell? ⟨g, 1, none⟩ = some (.int .i64 y)) : NsAt (g + 1) w (.slice (some ⟨g, 0, none⟩) 2 c) [x, y] :=
  ⟨_, _, rfl, fun _ => ⟨g, 0, rfl, by omega, fun k z hz => by
    rcases k with _ | _ | k
    · simp at hz; subst hz; simpa using h
    · simp at hz; subst hz; simpa using h'
    · simp at hz⟩⟩
theorem take_snocN (xs : List Int) (k : Nat) (p : Int) (h : xs[k]? = some p) : xs.take (k + 1) = xs.take k ++ [p] := by rw [List.take_add_one, h]; rfl

set_option maxHeartbeats 400000 in
theorem in1_any (lo hi n : Int) (b b2 : Nat) (w : World) (h0 : w.cell? ⟨b, 0, none⟩ = some (.int .i64 lo)) (h1 : w.cell? ⟨b2, 0, none⟩ = some (.int .i64 hi)) :
    Calls Try.prog 58 #[.int .i64 n, .pointer (some ⟨b, 0, none⟩), .pointer (some ⟨b2, 0, none⟩)] w fun e w' => e = .returned (.bool (!inB lo hi n)) ∧ Below w.heap.size w w' := by
  by_cases c1 : n < lo <;> by_cases c2 : hi < n
  all_goals
    go_enter Try.func58, Try.ntmps58
    go_wp2
    go_ret
    exact ⟨by simp [inB]; omega, Below.refl _ _⟩
theorem enters_in1 : ∀ args w, (callFunc 58 args).run Try.prog w = .ok (.enter 58 args) w := enters_of Try.func58 (by kernel_rfl) rfl

/-- the number of the first element that is meant, or -1 -/
def IxPost (b : Bool) (w : World) (e : Ending) (w' : World) : Prop := ∃ i : Int, e = .returned (.int .i64 i) ∧ (if b then i = -1 else 0 ≤ i ∧ i ≤ 9000000000000000000) ∧ Below w.heap.size w w'

set_option maxRecDepth 20000 in
set_option maxHeartbeats 1000000 in
theorem indexIn_any (lo hi : Int) (b b2 : Nat) (v : Value) (xs : List Int) (w : World) (hl : xs.length ≤ 1000000000000) (hv : NsAt w.heap.size w v xs) (hb : b < w.heap.size) (hb2 : b2 < w.heap.size) (h0 : w.cell? ⟨b, 0, none⟩ = some (.int .i64 lo)) (h1 : w.cell? ⟨b2, 0, none⟩ = some (.int .i64 hi)) :
    Calls Try.prog 69 #[v, .func (Fn.func 58) #[] #[.pointer (some ⟨b, 0, none⟩), .pointer (some ⟨b2, 0, none⟩)]] w (IxPost (insB lo hi xs) w) := by
  have HE := enters_in1
  obtain ⟨A, c, rfl, hr⟩ := hv
  have HN := Lib.hid (fun (k : Nat) (p : Int) (h : xs[k]? = some p) hp => insB_no (lo := lo) (hi := hi) h hp)
  have HC := Lib.hid (fun (n : Int) (W : World) (h : Below w.heap.size w W) => in1_any lo hi n b b2 W (cell_next h hb h0) (cell_next h hb2 h1))
  obtain ⟨r, hrr⟩ : ∃ r, insB lo hi xs = r := ⟨_, rfl⟩
  rw [hrr] at HN ⊢
  have HB := Lib.hid hrr
  clear hrr h0 h1
  obtain ⟨n, hn⟩ : ∃ n, xs.length = n := ⟨_, rfl⟩
  rw [hn] at hr hl ⊢
  have Hn := Lib.hid hn
  have HR := Lib.hid hr
  clear hr hn
  go_enter Try.func69, Try.ntmps69
  go_wp2_with fail
  go_loopw [8] (fun i wr => ∃ k : Nat, k ≤ n ∧ i = .int .i64 k ∧ Hid (insB lo hi (xs.take k) = true) ∧ Below w.heap.size w wr) (fun i _ => n - (RowKit.intOf i).toNat)
  case atStart => exact ⟨0, Nat.zero_le _, rfl, Lib.hid rfl, Below.refl _ _⟩
  case round =>
    obtain ⟨k, hk, rfl, ho, hbr⟩ := hrel
    by_cases hlt : (k : Int) < (n : Int)
    · obtain ⟨p, hp⟩ : ∃ p, xs[k]? = some p := ⟨_, List.getElem?_eq_getElem (by rw [Hn.out]; omega)⟩
      obtain ⟨g, off, rfl, hg, hc⟩ := HR.out (by omega)
      have q0 := cell_next hbr hg (hc k p hp)
      have HNk := Lib.hid (HN.out k p hp)
      have hok : Hid (insB lo hi (xs.take (k + 1)) = inB lo hi p) := Lib.hid (by rw [take_snocN xs k p hp, insB_snoc, ho.out]; rfl)
      have c1 := Lib.hid (HC.out p wr hbr)
      clear hc hp
      generalize inB lo hi p = b' at *
      cases b'
      · have E := Lib.hid (HNk.out rfl)
        go_wp2_with fail
        refine c1.out.mono ?_
        rintro e w1 ⟨rfl, hb⟩
        have hB := hbr.trans (hb.mono hbr.size)
        clear hb
        go_wp2_with fail
        go_ret
        exact ⟨_, rfl, by rw [E.out, if_neg (by simp)]; omega, hB⟩
      · go_wp2_with fail
        refine c1.out.mono ?_
        rintro e w1 ⟨rfl, hb⟩
        have hB := hbr.trans (hb.mono hbr.size)
        clear hb q0 c1
        go_wp2_with fail
        go_roundw
        case rel => exact ⟨k + 1, by omega, by go_num, hok, hB⟩
        case measure => simp [RowKit.intOf]; omega
    · obtain rfl : k = n := by omega
      have E : Hid (r = true) := Lib.hid (HB.out.symm.trans (by have h := ho.out; rwa [List.take_of_length_le (by rw [Hn.out]; exact Nat.le_refl _)] at h))
      go_wp2_with fail
      go_ret
      exact ⟨_, rfl, by rw [E.out, if_pos rfl], hbr⟩

set_option maxHeartbeats 400000 in
theorem anyIn_any (lo hi : Int) (b b2 : Nat) (v : Value) (xs : List Int) (w : World) (hl : xs.length ≤ 1000000000000) (hv : NsAt w.heap.size w v xs) (hb : b < w.heap.size) (hb2 : b2 < w.heap.size) (h0 : w.cell? ⟨b, 0, none⟩ = some (.int .i64 lo)) (h1 : w.cell? ⟨b2, 0, none⟩ = some (.int .i64 hi)) :
    Calls Try.prog 57 #[v, .func (Fn.func 58) #[] #[.pointer (some ⟨b, 0, none⟩), .pointer (some ⟨b2, 0, none⟩)]] w fun e w' => e = .returned (.bool (!insB lo hi xs)) ∧ Below w.heap.size w w' := by
  have c1 := Lib.hid (indexIn_any lo hi b b2 v xs w hl hv hb hb2 h0 h1)
  clear hv h0 h1 hb hb2
  generalize insB lo hi xs = r at *
  go_enter Try.func57, Try.ntmps57
  go_wp2_with fail
  refine c1.out.mono ?_
  rintro e w1 ⟨i, rfl, hi, hb⟩
  cases r
  · obtain ⟨h1, h2⟩ : 0 ≤ i ∧ i ≤ 9000000000000000000 := by simpa using hi
    clear hi
    go_wp2_with fail
    go_ret
    exact ⟨by simp [*], hb⟩
  · obtain rfl : i = -1 := by simpa using hi
    go_wp2_with fail
    go_ret
    exact ⟨by simp, hb⟩

theorem below_al2 (w : World) (o p : Obj) : Below w.heap.size w ((w.alloc o).alloc p) := ((Below.refl _ _).alloc (Nat.le_refl _) _).alloc (by simp) _
set_option maxHeartbeats 400000 in
theorem in_any (lo hi : Int) (v : Value) (xs : List Int) (w : World) (hl : xs.length ≤ 1000000000000) (hv : NsAt w.heap.size w v xs) :
    Calls Try.prog 30 #[.int .i64 lo, .int .i64 hi, v] w fun e w' => e = .returned (.bool (insB lo hi xs)) ∧ Below w.heap.size w w' := by
  have c1 := Lib.hid (fun (W : World) (h : Below w.heap.size w W) => anyIn_any lo hi w.heap.size (w.heap.size + 1) v xs W hl ((hv.below h (Nat.le_refl _)).mono h.size))
  clear hv
  generalize insB lo hi xs = r at *
  go_enter Try.func30, Try.ntmps30
  go_wp2_with fail
  refine (c1.out _ (below_al2 w _ _) (by simp only [World.size_alloc]; omega) (by simp only [World.size_alloc]; omega) (by simp [go_sem]) (by simp [go_sem])).mono ?_
  rintro e w1 ⟨rfl, hb⟩
  have hB := below2 hb
  clear hb
  go_wp2_with fail
  go_ret
  exact ⟨by simp, hB⟩

theorem in2_any (lo hi x y : Int) (g c : Nat) (w : World) (hg : g < w.heap.size) (h : w.cell? ⟨g, 0, none⟩ = some (.int .i64 x)) (h' : w.cell? ⟨g, 1, none⟩ = some (.int .i64 y)) :
    Calls Try.prog 30 #[.int .i64 lo, .int .i64 hi, .slice (some ⟨g, 0, none⟩) 2 c] w fun e w' => e = .returned (.bool (inB lo hi x && inB lo hi y)) ∧ Below w.heap.size w w' := by
  have c1 := in_any lo hi (.slice (some ⟨g, 0, none⟩) 2 c) [x, y] w (by simp) ((ns_two h h').mono (by omega))
  have e : insB lo hi [x, y] = (inB lo hi x && inB lo hi y) := by simp [insB]
  rw [e] at c1
  exact c1
theorem in1v_any (lo hi x : Int) (g c : Nat) (w : World) (hg : g < w.heap.size) (h : w.cell? ⟨g, 0, none⟩ = some (.int .i64 x)) :
    Calls Try.prog 30 #[.int .i64 lo, .int .i64 hi, .slice (some ⟨g, 0, none⟩) 1 c] w fun e w' => e = .returned (.bool (inB lo hi x)) ∧ Below w.heap.size w w' := by
  have c1 := in_any lo hi (.slice (some ⟨g, 0, none⟩) 1 c) [x] w (by simp) ((ns_one h).mono (by omega))
  have e : insB lo hi [x] = inB lo hi x := by simp [insB]
  rw [e] at c1
  exact c1

set_option maxHeartbeats 400000 in
theorem vSap_any (a s : Int) (w : World) :
    Calls Try.prog 29 #[.agg #[.int .i64 a, .int .i64 s]] w fun e w' => e = .returned (.bool (spB a s)) ∧ Below w.heap.size w w' := by
  have hr : Hid ((inB 0 1000000000000 a && inB 0 1000000000000 s) = spB a s) := Lib.hid (by simp [inB, spB, Bool.and_assoc])
  generalize spB a s = r at *
  have c1 := Lib.hid (fun (W : World) (g c : Nat) => in2_any 0 1000000000000 a s g c W)
  rw [hr.out] at c1
  go_enter Try.func29, Try.ntmps29
  go_wp2_with fail
  refine (c1.out _ _ _ (by simp) (by simp [go_sem]) (by simp [go_sem])).mono ?_
  rintro e w1 ⟨rfl, hb⟩
  have hB := below2 hb
  clear hb
  go_wp2_with fail
  go_ret
  exact ⟨rfl, hB⟩
end Go.Proofs.Ytloddjjmoaljhaa

