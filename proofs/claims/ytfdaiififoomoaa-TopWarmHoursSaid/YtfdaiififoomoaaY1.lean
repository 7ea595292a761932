/- Contracts of package thaw: numbers within bounds; whether rules, a state and weather are valid, where they are. -/
import Derived.Test.YtfdaiififoomoaaJB10
import Derived.Test.YtfdaiififoomoaaJB5
namespace Go.Proofs.Ytfdaiififoomoaa
open Go.RowKit Go.Lib Go.Shelf
set_option linter.unusedVariables false
set_option linter.unusedSimpArgs false
attribute [local go_sem ↓] Go.wp_at_zero Go.wp_at_succ

set_option maxHeartbeats 400000 in
theorem tin1_any (lo hi n : Int) (b b2 : Nat) (w : World) (h0 : w.cell? ⟨b, 0, none⟩ = some (.int .i64 lo)) (h1 : w.cell? ⟨b2, 0, none⟩ = some (.int .i64 hi)) :
    Calls Try.prog 88 #[.int .i64 n, .pointer (some ⟨b, 0, none⟩), .pointer (some ⟨b2, 0, none⟩)] w fun e w' => e = .returned (.bool (!inB lo hi n)) ∧ Below w.heap.size w w' := by
  by_cases c1 : n < lo <;> by_cases c2 : hi < n
  all_goals
    go_enter Try.func88, Try.ntmps88
    go_wp2
    go_ret
    exact ⟨by simp [inB]; omega, Below.refl _ _⟩
theorem tenters_in1 : ∀ args w, (callFunc 88 args).run Try.prog w = .ok (.enter 88 args) w := enters_of Try.func88 (by kernel_rfl) rfl

set_option maxRecDepth 20000 in
set_option maxHeartbeats 1000000 in
theorem tindexIn_any (lo hi : Int) (b b2 : Nat) (v : Value) (xs : List Int) (w : World) (hl : xs.length ≤ 1000000000000) (hv : NsAt w.heap.size w v xs) (hb : b < w.heap.size) (hb2 : b2 < w.heap.size) (h0 : w.cell? ⟨b, 0, none⟩ = some (.int .i64 lo)) (h1 : w.cell? ⟨b2, 0, none⟩ = some (.int .i64 hi)) :
    Calls Try.prog 80 #[v, .func (Fn.func 88) #[] #[.pointer (some ⟨b, 0, none⟩), .pointer (some ⟨b2, 0, none⟩)]] w (IxPost (insB lo hi xs) w) := by
  have HE := tenters_in1
  obtain ⟨A, c, rfl, hr⟩ := hv
  have HN := Lib.hid (fun (k : Nat) (p : Int) (h : xs[k]? = some p) hp => insB_no (lo := lo) (hi := hi) h hp)
  have HC := Lib.hid (fun (n : Int) (W : World) (h : Below w.heap.size w W) => tin1_any lo hi n b b2 W (cell_next h hb h0) (cell_next h hb2 h1))
  obtain ⟨r, hrr⟩ : ∃ r, insB lo hi xs = r := ⟨_, rfl⟩
  rw [hrr] at HN ⊢
  have HB := Lib.hid hrr
  clear hrr h0 h1
  obtain ⟨n, hn⟩ : ∃ n, xs.length = n := ⟨_, rfl⟩
  rw [hn] at hr hl ⊢
  have Hn := Lib.hid hn
  have HR := Lib.hid hr
  clear hr hn
  go_enter Try.func80, Try.ntmps80
  go_wp2_with fail
  go_loopw [8] (fun i wr => ∃ k : Nat, k ≤ n ∧ i = .int .i64 k ∧ Hid (insB lo hi (xs.take k) = true) ∧ Below w.heap.size w wr) (fun i _ => n - (RowKit.intOf i).toNat)
  case atStart => exact ⟨0, Nat.zero_le _, rfl, Lib.hid rfl, Below.refl _ _⟩
  case round =>
    obtain ⟨k, hk, rfl, ho, hbr⟩ := hrel
    by_cases hlt : (k : Int) < (n : Int)
    · obtain ⟨p, hp⟩ : ∃ p, xs[k]? = some p := ⟨_, List.getElem?_eq_getElem (by rw [Hn.out]; omega)⟩
      obtain ⟨g, off, rfl, hg, hc⟩ := HR.out (by omega)
      have q0 := cell_next hbr hg (hc k p hp)
      have HNk := Lib.hid (HN.out k p hp)
      have hok : Hid (insB lo hi (xs.take (k + 1)) = inB lo hi p) := Lib.hid (by rw [take_snocN xs k p hp, insB_snoc, ho.out]; rfl)
      have c1 := Lib.hid (HC.out p wr hbr)
      clear hc hp
      generalize inB lo hi p = b' at *
      cases b'
      · have E := Lib.hid (HNk.out rfl)
        go_wp2_with fail
        refine c1.out.mono ?_
        rintro e w1 ⟨rfl, hb⟩
        have hB := hbr.trans (hb.mono hbr.size)
        clear hb
        go_wp2_with fail
        go_ret
        exact ⟨_, rfl, by rw [E.out, if_neg (by simp)]; omega, hB⟩
      · go_wp2_with fail
        refine c1.out.mono ?_
        rintro e w1 ⟨rfl, hb⟩
        have hB := hbr.trans (hb.mono hbr.size)
        clear hb q0 c1
        go_wp2_with fail
        go_roundw
        case rel => exact ⟨k + 1, by omega, by go_num, hok, hB⟩
        case measure => simp [RowKit.intOf]; omega
    · obtain rfl : k = n := by omega
      have E : Hid (r = true) := Lib.hid (HB.out.symm.trans (by have h := ho.out; rwa [List.take_of_length_le (by rw [Hn.out]; exact Nat.le_refl _)] at h))
      go_wp2_with fail
      go_ret
      exact ⟨_, rfl, by rw [E.out, if_pos rfl], hbr⟩

set_option maxHeartbeats 400000 in
theorem tanyIn_any (lo hi : Int) (b b2 : Nat) (v : Value) (xs : List Int) (w : World) (hl : xs.length ≤ 1000000000000) (hv : NsAt w.heap.size w v xs) (hb : b < w.heap.size) (hb2 : b2 < w.heap.size) (h0 : w.cell? ⟨b, 0, none⟩ = some (.int .i64 lo)) (h1 : w.cell? ⟨b2, 0, none⟩ = some (.int .i64 hi)) :
    Calls Try.prog 56 #[v, .func (Fn.func 88) #[] #[.pointer (some ⟨b, 0, none⟩), .pointer (some ⟨b2, 0, none⟩)]] w fun e w' => e = .returned (.bool (!insB lo hi xs)) ∧ Below w.heap.size w w' := by
  have c1 := Lib.hid (tindexIn_any lo hi b b2 v xs w hl hv hb hb2 h0 h1)
  clear hv h0 h1 hb hb2
  generalize insB lo hi xs = r at *
  go_enter Try.func56, Try.ntmps56
  go_wp2_with fail
  refine c1.out.mono ?_
  rintro e w1 ⟨i, rfl, hi, hb⟩
  cases r
  · obtain ⟨h1, h2⟩ : 0 ≤ i ∧ i ≤ 9000000000000000000 := by simpa using hi
    clear hi
    go_wp2_with fail
    go_ret
    exact ⟨by simp [*], hb⟩
  · obtain rfl : i = -1 := by simpa using hi
    go_wp2_with fail
    go_ret
    exact ⟨by simp, hb⟩

set_option maxHeartbeats 400000 in
theorem tin_any (lo hi : Int) (v : Value) (xs : List Int) (w : World) (hl : xs.length ≤ 1000000000000) (hv : NsAt w.heap.size w v xs) :
    Calls Try.prog 74 #[.int .i64 lo, .int .i64 hi, v] w fun e w' => e = .returned (.bool (insB lo hi xs)) ∧ Below w.heap.size w w' := by
  have c1 := Lib.hid (fun (W : World) (h : Below w.heap.size w W) => tanyIn_any lo hi w.heap.size (w.heap.size + 1) v xs W hl ((hv.below h (Nat.le_refl _)).mono h.size))
  clear hv
  generalize insB lo hi xs = r at *
  go_enter Try.func74, Try.ntmps74
  go_wp2_with fail
  refine (c1.out _ (below_al2 w _ _) (by simp only [World.size_alloc]; omega) (by simp only [World.size_alloc]; omega) (by simp [go_sem]) (by simp [go_sem])).mono ?_
  rintro e w1 ⟨rfl, hb⟩
  have hB := below2 hb
  clear hb
  go_wp2_with fail
  go_ret
  exact ⟨by simp, hB⟩

theorem tin2_any (lo hi x y : Int) (g c : Nat) (w : World) (hg : g < w.heap.size) (h : w.cell? ⟨g, 0, none⟩ = some (.int .i64 x)) (h' : w.cell? ⟨g, 1, none⟩ = some (.int .i64 y)) :
    Calls Try.prog 74 #[.int .i64 lo, .int .i64 hi, .slice (some ⟨g, 0, none⟩) 2 c] w fun e w' => e = .returned (.bool (inB lo hi x && inB lo hi y)) ∧ Below w.heap.size w w' := by
  have c1 := tin_any lo hi (.slice (some ⟨g, 0, none⟩) 2 c) [x, y] w (by simp) ((ns_two h h').mono (by omega))
  have e : insB lo hi [x, y] = (inB lo hi x && inB lo hi y) := by simp [insB]
  rw [e] at c1
  exact c1
theorem tin1v_any (lo hi x : Int) (g c : Nat) (w : World) (hg : g < w.heap.size) (h : w.cell? ⟨g, 0, none⟩ = some (.int .i64 x)) :
    Calls Try.prog 74 #[.int .i64 lo, .int .i64 hi, .slice (some ⟨g, 0, none⟩) 1 c] w fun e w' => e = .returned (.bool (inB lo hi x)) ∧ Below w.heap.size w w' := by
  have c1 := tin_any lo hi (.slice (some ⟨g, 0, none⟩) 1 c) [x] w (by simp) ((ns_one h).mono (by omega))
  have e : insB lo hi [x] = inB lo hi x := by simp [insB]
  rw [e] at c1
  exact c1

set_option maxHeartbeats 1000000 in
theorem trangeIn_any (lo hi x y : Int) (w : World) :
    Calls Try.prog 46 #[.agg #[.int .i64 x, .int .i64 y], .int .i64 lo, .int .i64 hi] w fun e w' => e = .returned (.bool (rgB lo hi x y)) ∧ Below w.heap.size w w' := by
  have c1 := Lib.hid (fun (W : World) (g c : Nat) => tin2_any lo hi x y g c W)
  have hr : Hid (rgB lo hi x y = ((inB lo hi x && inB lo hi y) && decide (x ≤ y))) := Lib.hid rfl
  generalize rgB lo hi x y = r at *
  generalize (inB lo hi x && inB lo hi y) = b at *
  cases b
  · go_enter Try.func46, Try.ntmps46
    go_wp2_with fail
    refine (c1.out _ _ _ (by simp) (by simp [go_sem]) (by simp [go_sem])).mono ?_
    rintro e w1 ⟨rfl, hb⟩
    have hB := below2 hb
    clear hb
    go_wp2_with fail
    go_ret
    exact ⟨by rw [hr.out]; simp, hB⟩
  · obtain ⟨q, hq⟩ : ∃ q, decide (x ≤ y) = q := ⟨_, rfl⟩
    rw [hq] at hr
    go_enter Try.func46, Try.ntmps46
    go_wp2_with fail
    refine (c1.out _ _ _ (by simp) (by simp [go_sem]) (by simp [go_sem])).mono ?_
    rintro e w1 ⟨rfl, hb⟩
    have x0 := cell_next hb (b := w.heap.size) (o := 0) (by simp <;> omega) (v := some (.int .i64 x)) (by simp [go_sem])
    have x1 := cell_next hb (b := w.heap.size) (o := 1) (by simp <;> omega) (v := some (.int .i64 y)) (by simp [go_sem])
    have hB := below2 hb
    clear hb
    go_wp2_with fail
    go_ret
    exact ⟨by rw [hr.out]; simp, hB⟩


theorem ns_three {w : World} {g c : Nat} {x y z : Int} (h : w.cell? ⟨g, 0, none⟩ = some (.int .i64 x)) (h' : w.cell? ⟨g, 1, none⟩ = some (.int .i64 y)) (h'' : w.cell? ⟨g, 2, none⟩ = some (.int .i64 z)) : NsAt (g + 1) w (.slice (some ⟨g, 0, none⟩) 3 c) [x, y, z] :=
  ⟨_, _, rfl, fun _ => ⟨g, 0, rfl, by omega, fun k u hz => by
    rcases k with _ | _ | _ | k
    · simp at hz; subst hz; simpa using h
    · simp at hz; subst hz; simpa using h'
    · simp at hz; subst hz; simpa using h''
    · simp at hz⟩⟩
theorem tin3_any (lo hi x y z : Int) (g c : Nat) (w : World) (hg : g < w.heap.size) (h : w.cell? ⟨g, 0, none⟩ = some (.int .i64 x)) (h' : w.cell? ⟨g, 1, none⟩ = some (.int .i64 y)) (h'' : w.cell? ⟨g, 2, none⟩ = some (.int .i64 z)) :
    Calls Try.prog 74 #[.int .i64 lo, .int .i64 hi, .slice (some ⟨g, 0, none⟩) 3 c] w fun e w' => e = .returned (.bool (insB lo hi [x, y, z])) ∧ Below w.heap.size w w' :=
  tin_any lo hi (.slice (some ⟨g, 0, none⟩) 3 c) [x, y, z] w (by simp) ((ns_three h h' h'').mono (by omega))
/-- rules of the weather -/
structure Ru4 where
  fr : Int
  th : Int
  ga : Int
  fu : Int
  ic : Int
  mo : Int
  me : Int
  rl : Int
  rh : Int
  pu : Int
def cRu (r : Ru4) : Array Value := #[.int .i64 r.fr, .int .i64 r.th, .int .i64 r.ga, .int .i64 r.fu, .int .i64 r.ic, .int .i64 r.mo, .int .i64 r.me, .int .i64 r.rl, .int .i64 r.rh, .int .i64 r.pu]
structure RuOk (r : Ru4) : Prop where
  h1 : (inB (-600) 600 r.fr && inB (-600) 600 r.th) = true
  h2 : decide (r.fr ≤ r.th) = true
  h3 : (inB 0 60 r.ga && inB 0 60 r.fu) = true
  h4 : insB 0 30 [r.ic, r.mo, r.me] = true
  h5 : rgB 0 100000 r.rl r.rh = true
  h6 : inB 0 100 r.pu = true

set_option maxRecDepth 20000 in
set_option maxHeartbeats 2000000 in
theorem valid_ok (r : Ru4) (b : Nat) (w : World) (hr : RuOk r) (nC : b < w.heap.size) (C0 : w.cell? ⟨b, 0, none⟩ = some (.int .i64 r.fr)) (C1 : w.cell? ⟨b, 1, none⟩ = some (.int .i64 r.th)) (C2 : w.cell? ⟨b, 2, none⟩ = some (.int .i64 r.ga)) (C3 : w.cell? ⟨b, 3, none⟩ = some (.int .i64 r.fu)) (C4 : w.cell? ⟨b, 4, none⟩ = some (.int .i64 r.ic)) (C5 : w.cell? ⟨b, 5, none⟩ = some (.int .i64 r.mo)) (C6 : w.cell? ⟨b, 6, none⟩ = some (.int .i64 r.me)) (C7 : w.cell? ⟨b, 7, none⟩ = some (.int .i64 r.rl)) (C8 : w.cell? ⟨b, 8, none⟩ = some (.int .i64 r.rh)) (C9 : w.cell? ⟨b, 9, none⟩ = some (.int .i64 r.pu)) :
    Calls Try.prog 45 #[.pointer (some ⟨b, 0, none⟩)] w fun e w' => e = .returned (.bool true) ∧ Below w.heap.size w w' := by
  have D1 := Lib.hid (fun (W : World) (g c : Nat) => tin2_any (-600) 600 r.fr r.th g c W)
  rw [hr.h1] at D1
  have D2 := Lib.hid (fun (W : World) (g c : Nat) => tin2_any 0 60 r.ga r.fu g c W)
  rw [hr.h3] at D2
  have D3 := Lib.hid (fun (W : World) (g c : Nat) => tin3_any 0 30 r.ic r.mo r.me g c W)
  rw [hr.h4] at D3
  have D4 := Lib.hid (fun (W : World) => trangeIn_any 0 100000 r.rl r.rh W)
  rw [hr.h5] at D4
  have D5 := Lib.hid (fun (W : World) (g c : Nat) => tin1v_any 0 100 r.pu g c W)
  rw [hr.h6] at D5
  have t2 := hr.h2
  obtain ⟨fr, th, ga, fu, ic, mo, me, rl, rh, pu⟩ := r
  dsimp only at *
  clear hr
  go_enter Try.func45, Try.ntmps45
  go_wp2_with fail
  have hBW : w.heap.size ≤ w.heap.size := Nat.le_refl _
  refine wp_region_held_drew (S := fun w' => w'.cell? ⟨b, 0, none⟩ = some (.int .i64 fr) ∧ w'.cell? ⟨b, 1, none⟩ = some (.int .i64 th) ∧ w'.cell? ⟨b, 2, none⟩ = some (.int .i64 ga) ∧ w'.cell? ⟨b, 3, none⟩ = some (.int .i64 fu) ∧ w'.cell? ⟨b, 4, none⟩ = some (.int .i64 ic) ∧ w'.cell? ⟨b, 5, none⟩ = some (.int .i64 mo) ∧ w'.cell? ⟨b, 6, none⟩ = some (.int .i64 me) ∧ w'.cell? ⟨b, 7, none⟩ = some (.int .i64 rl) ∧ w'.cell? ⟨b, 8, none⟩ = some (.int .i64 rh) ∧ w'.cell? ⟨b, 9, none⟩ = some (.int .i64 pu) ∧ True) (by kernel_rfl) ?_ (fun hHeld => ?_)
  focus (exact ⟨C0, C1, C2, C3, C4, C5, C6, C7, C8, C9, trivial⟩)
  have hL : Below w.heap.size w w.drew := Below.drew (Below.refl _ _)
  replace C0 : w.drew.cell? ⟨b, 0, none⟩ = some (.int .i64 fr) := C0
  replace C1 : w.drew.cell? ⟨b, 1, none⟩ = some (.int .i64 th) := C1
  replace C2 : w.drew.cell? ⟨b, 2, none⟩ = some (.int .i64 ga) := C2
  replace C3 : w.drew.cell? ⟨b, 3, none⟩ = some (.int .i64 fu) := C3
  replace C4 : w.drew.cell? ⟨b, 4, none⟩ = some (.int .i64 ic) := C4
  replace C5 : w.drew.cell? ⟨b, 5, none⟩ = some (.int .i64 mo) := C5
  replace C6 : w.drew.cell? ⟨b, 6, none⟩ = some (.int .i64 me) := C6
  replace C7 : w.drew.cell? ⟨b, 7, none⟩ = some (.int .i64 rl) := C7
  replace C8 : w.drew.cell? ⟨b, 8, none⟩ = some (.int .i64 rh) := C8
  replace C9 : w.drew.cell? ⟨b, 9, none⟩ = some (.int .i64 pu) := C9
  replace nC : b < w.drew.heap.size := nC
  generalize hWd : w.drew = wd1 at hHeld hL C0 C1 C2 C3 C4 C5 C6 C7 C8 C9 nC  ⊢
  clear hWd
  refine take_slot (i := 0) (d := 3) (v := ?_) rfl rfl (by kernel_rfl) (by kernel_rfl) (by kernel_rfl) (fun _ _ _ h => h) (Or.inl ⟨by rfl, ?_⟩) (by assumption) ?_
  rotate_left 1
  focus (intro wS hSw; (try dsimp only at hSw); go_simp; try with_reducible rfl)
  try simp only [List.setIfInBounds_toArray, List.set_cons_zero, List.set_cons_succ]
  refine take_slot (i := 1) (d := 4) (v := ?_) rfl rfl (by kernel_rfl) (by kernel_rfl) (by kernel_rfl) (fun _ _ _ h => h) (Or.inl ⟨by rfl, ?_⟩) (by assumption) ?_
  rotate_left 1
  focus (intro wS hSw; (try dsimp only at hSw); go_simp; try with_reducible rfl)
  try simp only [List.setIfInBounds_toArray, List.set_cons_zero, List.set_cons_succ]
  refine take_slot (i := 2) (d := 5) (v := ?_) rfl rfl (by kernel_rfl) (by kernel_rfl) (by kernel_rfl) (fun _ _ _ h => h) (Or.inl ⟨by rfl, ?_⟩) (by assumption) ?_
  rotate_left 1
  focus (intro wS hSw; (try dsimp only at hSw); go_simp; try with_reducible rfl)
  try simp only [List.setIfInBounds_toArray, List.set_cons_zero, List.set_cons_succ]
  refine take_slot (i := 3) (d := 6) (v := ?_) rfl rfl (by kernel_rfl) (by kernel_rfl) (by kernel_rfl) (fun _ _ _ h => h) (Or.inl ⟨by rfl, ?_⟩) (by assumption) ?_
  rotate_left 1
  focus (intro wS hSw; (try dsimp only at hSw); go_simp; try with_reducible rfl)
  try simp only [List.setIfInBounds_toArray, List.set_cons_zero, List.set_cons_succ]
  refine take_slot (i := 4) (d := 7) (v := ?_) rfl rfl (by kernel_rfl) (by kernel_rfl) (by kernel_rfl) (fun _ _ _ h => h) (Or.inl ⟨by rfl, ?_⟩) (by assumption) ?_
  rotate_left 1
  focus (intro wS hSw; (try dsimp only at hSw); go_simp; try with_reducible rfl)
  try simp only [List.setIfInBounds_toArray, List.set_cons_zero, List.set_cons_succ]
  refine take_slot (i := 5) (d := 8) (v := ?_) rfl rfl (by kernel_rfl) (by kernel_rfl) (by kernel_rfl) (fun _ _ _ h => h) (Or.inl ⟨by rfl, ?_⟩) (by assumption) ?_
  rotate_left 1
  focus (intro wS hSw; (try dsimp only at hSw); go_simp; try with_reducible rfl)
  try simp only [List.setIfInBounds_toArray, List.set_cons_zero, List.set_cons_succ]
  refine take_slot (i := 6) (d := 9) (v := ?_) rfl rfl (by kernel_rfl) (by kernel_rfl) (by kernel_rfl) (fun _ _ _ h => h) (Or.inl ⟨by rfl, ?_⟩) (by assumption) ?_
  rotate_left 1
  focus (intro wS hSw; (try dsimp only at hSw); go_simp; try with_reducible rfl)
  try simp only [List.setIfInBounds_toArray, List.set_cons_zero, List.set_cons_succ]
  refine take_slot (i := 7) (d := 10) (v := ?_) rfl rfl (by kernel_rfl) (by kernel_rfl) (by kernel_rfl) (fun _ _ _ h => h) (Or.inl ⟨by rfl, ?_⟩) (by assumption) ?_
  rotate_left 1
  focus (intro wS hSw; (try dsimp only at hSw); go_simp; try with_reducible rfl)
  try simp only [List.setIfInBounds_toArray, List.set_cons_zero, List.set_cons_succ]
  refine take_slot (i := 8) (d := 11) (v := ?_) rfl rfl (by kernel_rfl) (by kernel_rfl) (by kernel_rfl) (fun _ _ _ h => h) (Or.inl ⟨by rfl, ?_⟩) (by assumption) ?_
  rotate_left 1
  focus (intro wS hSw; (try dsimp only at hSw); go_simp; try with_reducible rfl)
  try simp only [List.setIfInBounds_toArray, List.set_cons_zero, List.set_cons_succ]
  refine take_slot (i := 9) (d := 12) (v := ?_) rfl rfl (by kernel_rfl) (by kernel_rfl) (by kernel_rfl) (fun _ _ _ h => h) (Or.inl ⟨by rfl, ?_⟩) (by assumption) ?_
  rotate_left 1
  focus (intro wS hSw; (try dsimp only at hSw); go_simp; try with_reducible rfl)
  try simp only [List.setIfInBounds_toArray, List.set_cons_zero, List.set_cons_succ]
  refine wpAnyH_ready (rs := [10]) (by kernel_rfl) (by simp) ?_
  refine AllReadyH.cons rfl (fun K hK => ?_) AllReadyH.nil
  go_simp
  have hb := (Below.refl wd1.heap.size wd1).alloc (Nat.le_refl _) (Obj.cells #[.int .i64 fr, .int .i64 th] 3)
  have szZ1 := hL.size
  have ord1nC := nC
  replace C0 := cell_next hb nC C0
  replace C1 := cell_next hb nC C1
  replace C2 := cell_next hb nC C2
  replace C3 := cell_next hb nC C3
  replace C4 := cell_next hb nC C4
  replace C5 := cell_next hb nC C5
  replace C6 := cell_next hb nC C6
  replace C7 := cell_next hb nC C7
  replace C8 := cell_next hb nC C8
  replace C9 := cell_next hb nC C9
  replace nC := Nat.lt_of_lt_of_le nC hb.size
  replace hL := hL.trans (hb.mono (Nat.le_trans hBW hL.size))
  have P0 : (wd1.alloc (Obj.cells #[.int .i64 fr, .int .i64 th] 3)).cell? ⟨wd1.heap.size, 0, none⟩ = some (.int .i64 fr) := cell_new _ _ _ 0
  have P1 : (wd1.alloc (Obj.cells #[.int .i64 fr, .int .i64 th] 3)).cell? ⟨wd1.heap.size, 1, none⟩ = some (.int .i64 th) := cell_new _ _ _ 1
  have nP : wd1.heap.size < (wd1.alloc (Obj.cells #[.int .i64 fr, .int .i64 th] 3)).heap.size := by simp
  refine hK.out _ _ ⟨C0, C1, C2, C3, C4, C5, C6, C7, C8, C9, trivial⟩ (fun hHeld => ?_)
  clear hK K hb
  generalize wd1.alloc (Obj.cells #[.int .i64 fr, .int .i64 th] 3) = Z1 at *
  try simp only [Act.put, List.setIfInBounds_toArray, List.set_cons_zero, List.set_cons_succ]
  refine wpAnyH_ready (rs := [11]) (by kernel_rfl) (by simp) ?_
  refine AllReadyH.cons rfl (fun K hK => ?_) AllReadyH.nil
  go_simp
  refine (D1.out _ _ 2 nP P0 P1).mono ?_
  rintro e Z2 ⟨rfl, hb⟩
  replace C0 := cell_next hb nC C0
  replace C1 := cell_next hb nC C1
  replace C2 := cell_next hb nC C2
  replace C3 := cell_next hb nC C3
  replace C4 := cell_next hb nC C4
  replace C5 := cell_next hb nC C5
  replace C6 := cell_next hb nC C6
  replace C7 := cell_next hb nC C7
  replace C8 := cell_next hb nC C8
  replace C9 := cell_next hb nC C9
  replace P0 := cell_next hb nP P0
  replace P1 := cell_next hb nP P1
  replace nC := Nat.lt_of_lt_of_le nC hb.size
  replace nP := Nat.lt_of_lt_of_le nP hb.size
  replace hL := hL.trans (hb.mono (Nat.le_trans hBW hL.size))
  refine hK.out _ _ ⟨C0, C1, C2, C3, C4, C5, C6, C7, C8, C9, trivial⟩ (fun hHeld => ?_)
  clear hK K hb
  try simp only [Act.put, List.setIfInBounds_toArray, List.set_cons_zero, List.set_cons_succ]
  refine take_slot (i := 12) (d := 15) (v := ?_) rfl rfl (by kernel_rfl) (by kernel_rfl) (by kernel_rfl) (fun _ _ _ h => h) (Or.inl ⟨by rfl, ?_⟩) (by assumption) ?_
  rotate_left 1
  focus (intro wS hSw; (try dsimp only at hSw); go_simp; try with_reducible rfl)
  try simp only [List.setIfInBounds_toArray, List.set_cons_zero, List.set_cons_succ]
  refine take_slot (i := 13) (d := 16) (v := ?_) rfl rfl (by kernel_rfl) (by kernel_rfl) (by kernel_rfl) (fun _ _ _ h => h) (Or.inl ⟨by rfl, ?_⟩) (by assumption) ?_
  rotate_left 1
  focus (intro wS hSw; (try dsimp only at hSw); go_simp; try with_reducible rfl)
  try simp only [List.setIfInBounds_toArray, List.set_cons_zero, List.set_cons_succ]
  refine take_slot (i := 14) (d := 17) (v := ?_) rfl rfl (by kernel_rfl) (by kernel_rfl) (by kernel_rfl) (fun _ _ _ h => h) (Or.inl ⟨by rfl, ?_⟩) (by assumption) ?_
  rotate_left 1
  focus (intro wS hSw; (try dsimp only at hSw); go_simp; try with_reducible rfl)
  try simp only [List.setIfInBounds_toArray, List.set_cons_zero, List.set_cons_succ]
  refine take_slot (i := 15) (d := 18) (v := ?_) rfl rfl (by kernel_rfl) (by kernel_rfl) (by kernel_rfl) (fun _ _ _ h => h) (Or.inl ⟨by rfl, ?_⟩) (by assumption) ?_
  rotate_left 1
  focus (intro wS hSw; (try dsimp only at hSw); go_simp; try with_reducible rfl)
  try simp only [List.setIfInBounds_toArray, List.set_cons_zero, List.set_cons_succ]
  refine take_slot (i := 16) (d := 19) (v := ?_) rfl rfl (by kernel_rfl) (by kernel_rfl) (by kernel_rfl) (fun _ _ _ h => h) (Or.inl ⟨by rfl, ?_⟩) (by assumption) ?_
  rotate_left 1
  focus (intro wS hSw; (try dsimp only at hSw); go_simp; try with_reducible rfl)
  try simp only [List.setIfInBounds_toArray, List.set_cons_zero, List.set_cons_succ]
  refine take_slot (i := 17) (d := 20) (v := ?_) rfl rfl (by kernel_rfl) (by kernel_rfl) (by kernel_rfl) (fun _ _ _ h => h) (Or.inl ⟨by rfl, ?_⟩) (by assumption) ?_
  rotate_left 1
  focus (intro wS hSw; (try dsimp only at hSw); go_simp; try with_reducible rfl)
  try simp only [List.setIfInBounds_toArray, List.set_cons_zero, List.set_cons_succ]
  refine take_slot (i := 18) (d := 21) (v := ?_) rfl rfl (by kernel_rfl) (by kernel_rfl) (by kernel_rfl) (fun _ _ _ h => h) (Or.inl ⟨by rfl, ?_⟩) (by assumption) ?_
  rotate_left 1
  focus (intro wS hSw; (try dsimp only at hSw); go_simp; try with_reducible rfl)
  try simp only [List.setIfInBounds_toArray, List.set_cons_zero, List.set_cons_succ]
  refine take_slot (i := 19) (d := 22) (v := ?_) rfl rfl (by kernel_rfl) (by kernel_rfl) (by kernel_rfl) (fun _ _ _ h => h) (Or.inl ⟨by rfl, ?_⟩) (by assumption) ?_
  rotate_left 1
  focus (intro wS hSw; (try dsimp only at hSw); go_simp; try with_reducible rfl)
  try simp only [List.setIfInBounds_toArray, List.set_cons_zero, List.set_cons_succ]
  refine take_slot (i := 20) (d := 23) (v := ?_) rfl rfl (by kernel_rfl) (by kernel_rfl) (by kernel_rfl) (fun _ _ _ h => h) (Or.inl ⟨by rfl, ?_⟩) (by assumption) ?_
  rotate_left 1
  focus (intro wS hSw; (try dsimp only at hSw); go_simp; try with_reducible rfl)
  try simp only [List.setIfInBounds_toArray, List.set_cons_zero, List.set_cons_succ]
  refine take_slot (i := 21) (d := 24) (v := ?_) rfl rfl (by kernel_rfl) (by kernel_rfl) (by kernel_rfl) (fun _ _ _ h => h) (Or.inl ⟨by rfl, ?_⟩) (by assumption) ?_
  rotate_left 1
  focus (intro wS hSw; (try dsimp only at hSw); go_simp; try with_reducible rfl)
  try simp only [List.setIfInBounds_toArray, List.set_cons_zero, List.set_cons_succ]
  refine take_slot (i := 22) (d := 25) (v := ?_) rfl rfl (by kernel_rfl) (by kernel_rfl) (by kernel_rfl) (fun _ _ _ h => h) (Or.inl ⟨by rfl, ?_⟩) (by assumption) ?_
  rotate_left 1
  focus (intro wS hSw; (try dsimp only at hSw); go_simp; try with_reducible rfl)
  try simp only [List.setIfInBounds_toArray, List.set_cons_zero, List.set_cons_succ]
  refine take_slot (i := 23) (d := 26) (v := ?_) rfl rfl (by kernel_rfl) (by kernel_rfl) (by kernel_rfl) (fun _ _ _ h => h) (Or.inl ⟨by rfl, ?_⟩) (by assumption) ?_
  rotate_left 1
  focus (intro wS hSw; (try dsimp only at hSw); go_simp; try with_reducible rfl)
  try simp only [List.setIfInBounds_toArray, List.set_cons_zero, List.set_cons_succ]
  refine take_slot (i := 24) (d := 27) (v := ?_) rfl rfl (by kernel_rfl) (by kernel_rfl) (by kernel_rfl) (fun _ _ _ h => h) (Or.inl ⟨by rfl, ?_⟩) (by assumption) ?_
  rotate_left 1
  focus (intro wS hSw; (try dsimp only at hSw); go_simp; try with_reducible rfl)
  try simp only [List.setIfInBounds_toArray, List.set_cons_zero, List.set_cons_succ]
  refine take_slot (i := 25) (d := 28) (v := ?_) rfl rfl (by kernel_rfl) (by kernel_rfl) (by kernel_rfl) (fun _ _ _ h => h) (Or.inl ⟨by rfl, ?_⟩) (by assumption) ?_
  rotate_left 1
  focus (intro wS hSw; (try dsimp only at hSw); go_simp; try with_reducible rfl)
  try simp only [List.setIfInBounds_toArray, List.set_cons_zero, List.set_cons_succ]
  refine take_slot (i := 26) (d := 29) (v := ?_) rfl rfl (by kernel_rfl) (by kernel_rfl) (by kernel_rfl) (fun _ _ _ h => h) (Or.inl ⟨by rfl, ?_⟩) (by assumption) ?_
  rotate_left 1
  focus (intro wS hSw; (try dsimp only at hSw); go_simp; try with_reducible rfl)
  try simp only [List.setIfInBounds_toArray, List.set_cons_zero, List.set_cons_succ]
  refine take_slot (i := 27) (d := 30) (v := ?_) rfl rfl (by kernel_rfl) (by kernel_rfl) (by kernel_rfl) (fun _ _ _ h => h) (Or.inl ⟨by rfl, ?_⟩) (by assumption) ?_
  rotate_left 1
  focus (intro wS hSw; (try dsimp only at hSw); go_simp; try with_reducible rfl)
  try simp only [List.setIfInBounds_toArray, List.set_cons_zero, List.set_cons_succ]
  refine take_slot (i := 28) (d := 31) (v := ?_) rfl rfl (by kernel_rfl) (by kernel_rfl) (by kernel_rfl) (fun _ _ _ h => h) (Or.inl ⟨by rfl, ?_⟩) (by assumption) ?_
  rotate_left 1
  focus (intro wS hSw; (try dsimp only at hSw); go_simp; try with_reducible rfl)
  try simp only [List.setIfInBounds_toArray, List.set_cons_zero, List.set_cons_succ]
  refine take_slot (i := 29) (d := 32) (v := ?_) rfl rfl (by kernel_rfl) (by kernel_rfl) (by kernel_rfl) (fun _ _ _ h => h) (Or.inl ⟨by rfl, ?_⟩) (by assumption) ?_
  rotate_left 1
  focus (intro wS hSw; (try dsimp only at hSw); go_simp; try with_reducible rfl)
  try simp only [List.setIfInBounds_toArray, List.set_cons_zero, List.set_cons_succ]
  refine take_slot (i := 30) (d := 33) (v := ?_) rfl rfl (by kernel_rfl) (by kernel_rfl) (by kernel_rfl) (fun _ _ _ h => h) (Or.inl ⟨by rfl, ?_⟩) (by assumption) ?_
  rotate_left 1
  focus (intro wS hSw; (try dsimp only at hSw); go_simp; try with_reducible rfl)
  try simp only [List.setIfInBounds_toArray, List.set_cons_zero, List.set_cons_succ]
  refine take_slot (i := 31) (d := 34) (v := ?_) rfl rfl (by kernel_rfl) (by kernel_rfl) (by kernel_rfl) (fun _ _ _ h => h) (Or.inl ⟨by rfl, ?_⟩) (by assumption) ?_
  rotate_left 1
  focus (intro wS hSw; (try dsimp only at hSw); go_simp; try with_reducible rfl)
  try simp only [List.setIfInBounds_toArray, List.set_cons_zero, List.set_cons_succ]
  refine take_slot (i := 32) (d := 35) (v := ?_) rfl rfl (by kernel_rfl) (by kernel_rfl) (by kernel_rfl) (fun _ _ _ h => h) (Or.inl ⟨by rfl, ?_⟩) (by assumption) ?_
  rotate_left 1
  focus (intro wS hSw; (try dsimp only at hSw); go_simp; try with_reducible rfl)
  try simp only [List.setIfInBounds_toArray, List.set_cons_zero, List.set_cons_succ]
  refine take_slot (i := 33) (d := 36) (v := ?_) rfl rfl (by kernel_rfl) (by kernel_rfl) (by kernel_rfl) (fun _ _ _ h => h) (Or.inl ⟨by rfl, ?_⟩) (by assumption) ?_
  rotate_left 1
  focus (intro wS hSw; (try dsimp only at hSw); go_simp; try with_reducible rfl)
  try simp only [List.setIfInBounds_toArray, List.set_cons_zero, List.set_cons_succ]
  refine take_slot (i := 34) (d := 37) (v := ?_) rfl rfl (by kernel_rfl) (by kernel_rfl) (by kernel_rfl) (fun _ _ _ h => h) (Or.inl ⟨by rfl, ?_⟩) (by assumption) ?_
  rotate_left 1
  focus (intro wS hSw; (try dsimp only at hSw); go_simp; try with_reducible rfl)
  try simp only [List.setIfInBounds_toArray, List.set_cons_zero, List.set_cons_succ]
  refine take_slot (i := 35) (d := 38) (v := ?_) rfl rfl (by kernel_rfl) (by kernel_rfl) (by kernel_rfl) (fun _ _ _ h => h) (Or.inl ⟨by rfl, ?_⟩) (by assumption) ?_
  rotate_left 1
  focus (intro wS hSw; (try dsimp only at hSw); go_simp; try with_reducible rfl)
  try simp only [List.setIfInBounds_toArray, List.set_cons_zero, List.set_cons_succ]
  refine wpAnyH_ready (rs := [36]) (by kernel_rfl) (by simp) ?_
  refine AllReadyH.cons rfl (fun K hK => ?_) AllReadyH.nil
  go_simp
  have hb := (Below.refl Z2.heap.size Z2).alloc (Nat.le_refl _) (Obj.cells #[.int .i64 ga, .int .i64 fu] 3)
  have szZ3 := hL.size
  have ord3nC := nC
  have ord3nP := nP
  replace C0 := cell_next hb nC C0
  replace C1 := cell_next hb nC C1
  replace C2 := cell_next hb nC C2
  replace C3 := cell_next hb nC C3
  replace C4 := cell_next hb nC C4
  replace C5 := cell_next hb nC C5
  replace C6 := cell_next hb nC C6
  replace C7 := cell_next hb nC C7
  replace C8 := cell_next hb nC C8
  replace C9 := cell_next hb nC C9
  replace P0 := cell_next hb nP P0
  replace P1 := cell_next hb nP P1
  replace nC := Nat.lt_of_lt_of_le nC hb.size
  replace nP := Nat.lt_of_lt_of_le nP hb.size
  replace hL := hL.trans (hb.mono (Nat.le_trans hBW hL.size))
  have Q0 : (Z2.alloc (Obj.cells #[.int .i64 ga, .int .i64 fu] 3)).cell? ⟨Z2.heap.size, 0, none⟩ = some (.int .i64 ga) := cell_new _ _ _ 0
  have Q1 : (Z2.alloc (Obj.cells #[.int .i64 ga, .int .i64 fu] 3)).cell? ⟨Z2.heap.size, 1, none⟩ = some (.int .i64 fu) := cell_new _ _ _ 1
  have nQ : Z2.heap.size < (Z2.alloc (Obj.cells #[.int .i64 ga, .int .i64 fu] 3)).heap.size := by simp
  refine hK.out _ _ ⟨C0, C1, C2, C3, C4, C5, C6, C7, C8, C9, trivial⟩ (fun hHeld => ?_)
  clear hK K hb
  generalize Z2.alloc (Obj.cells #[.int .i64 ga, .int .i64 fu] 3) = Z3 at *
  try simp only [Act.put, List.setIfInBounds_toArray, List.set_cons_zero, List.set_cons_succ]
  refine wpAnyH_ready (rs := [37]) (by kernel_rfl) (by simp) ?_
  refine AllReadyH.cons rfl (fun K hK => ?_) AllReadyH.nil
  go_simp
  refine (D2.out _ _ 2 nQ Q0 Q1).mono ?_
  rintro e Z4 ⟨rfl, hb⟩
  replace C0 := cell_next hb nC C0
  replace C1 := cell_next hb nC C1
  replace C2 := cell_next hb nC C2
  replace C3 := cell_next hb nC C3
  replace C4 := cell_next hb nC C4
  replace C5 := cell_next hb nC C5
  replace C6 := cell_next hb nC C6
  replace C7 := cell_next hb nC C7
  replace C8 := cell_next hb nC C8
  replace C9 := cell_next hb nC C9
  replace P0 := cell_next hb nP P0
  replace P1 := cell_next hb nP P1
  replace Q0 := cell_next hb nQ Q0
  replace Q1 := cell_next hb nQ Q1
  replace nC := Nat.lt_of_lt_of_le nC hb.size
  replace nP := Nat.lt_of_lt_of_le nP hb.size
  replace nQ := Nat.lt_of_lt_of_le nQ hb.size
  replace hL := hL.trans (hb.mono (Nat.le_trans hBW hL.size))
  refine hK.out _ _ ⟨C0, C1, C2, C3, C4, C5, C6, C7, C8, C9, trivial⟩ (fun hHeld => ?_)
  clear hK K hb
  try simp only [Act.put, List.setIfInBounds_toArray, List.set_cons_zero, List.set_cons_succ]
  refine take_slot (i := 38) (d := 41) (v := ?_) rfl rfl (by kernel_rfl) (by kernel_rfl) (by kernel_rfl) (fun _ _ _ h => h) (Or.inl ⟨by rfl, ?_⟩) (by assumption) ?_
  rotate_left 1
  focus (intro wS hSw; (try dsimp only at hSw); go_simp; try with_reducible rfl)
  try simp only [List.setIfInBounds_toArray, List.set_cons_zero, List.set_cons_succ]
  refine take_slot (i := 39) (d := 42) (v := ?_) rfl rfl (by kernel_rfl) (by kernel_rfl) (by kernel_rfl) (fun _ _ _ h => h) (Or.inl ⟨by rfl, ?_⟩) (by assumption) ?_
  rotate_left 1
  focus (intro wS hSw; (try dsimp only at hSw); go_simp; try with_reducible rfl)
  try simp only [List.setIfInBounds_toArray, List.set_cons_zero, List.set_cons_succ]
  refine take_slot (i := 40) (d := 43) (v := ?_) rfl rfl (by kernel_rfl) (by kernel_rfl) (by kernel_rfl) (fun _ _ _ h => h) (Or.inl ⟨by rfl, ?_⟩) (by assumption) ?_
  rotate_left 1
  focus (intro wS hSw; (try dsimp only at hSw); go_simp; try with_reducible rfl)
  try simp only [List.setIfInBounds_toArray, List.set_cons_zero, List.set_cons_succ]
  refine take_slot (i := 41) (d := 44) (v := ?_) rfl rfl (by kernel_rfl) (by kernel_rfl) (by kernel_rfl) (fun _ _ _ h => h) (Or.inl ⟨by rfl, ?_⟩) (by assumption) ?_
  rotate_left 1
  focus (intro wS hSw; (try dsimp only at hSw); go_simp; try with_reducible rfl)
  try simp only [List.setIfInBounds_toArray, List.set_cons_zero, List.set_cons_succ]
  refine take_slot (i := 42) (d := 45) (v := ?_) rfl rfl (by kernel_rfl) (by kernel_rfl) (by kernel_rfl) (fun _ _ _ h => h) (Or.inl ⟨by rfl, ?_⟩) (by assumption) ?_
  rotate_left 1
  focus (intro wS hSw; (try dsimp only at hSw); go_simp; try with_reducible rfl)
  try simp only [List.setIfInBounds_toArray, List.set_cons_zero, List.set_cons_succ]
  refine take_slot (i := 43) (d := 46) (v := ?_) rfl rfl (by kernel_rfl) (by kernel_rfl) (by kernel_rfl) (fun _ _ _ h => h) (Or.inl ⟨by rfl, ?_⟩) (by assumption) ?_
  rotate_left 1
  focus (intro wS hSw; (try dsimp only at hSw); go_simp; try with_reducible rfl)
  try simp only [List.setIfInBounds_toArray, List.set_cons_zero, List.set_cons_succ]
  refine take_slot (i := 44) (d := 47) (v := ?_) rfl rfl (by kernel_rfl) (by kernel_rfl) (by kernel_rfl) (fun _ _ _ h => h) (Or.inl ⟨by rfl, ?_⟩) (by assumption) ?_
  rotate_left 1
  focus (intro wS hSw; (try dsimp only at hSw); go_simp; try with_reducible rfl)
  try simp only [List.setIfInBounds_toArray, List.set_cons_zero, List.set_cons_succ]
  refine take_slot (i := 45) (d := 48) (v := ?_) rfl rfl (by kernel_rfl) (by kernel_rfl) (by kernel_rfl) (fun _ _ _ h => h) (Or.inl ⟨by rfl, ?_⟩) (by assumption) ?_
  rotate_left 1
  focus (intro wS hSw; (try dsimp only at hSw); go_simp; try with_reducible rfl)
  try simp only [List.setIfInBounds_toArray, List.set_cons_zero, List.set_cons_succ]
  refine take_slot (i := 46) (d := 49) (v := ?_) rfl rfl (by kernel_rfl) (by kernel_rfl) (by kernel_rfl) (fun _ _ _ h => h) (Or.inl ⟨by rfl, ?_⟩) (by assumption) ?_
  rotate_left 1
  focus (intro wS hSw; (try dsimp only at hSw); go_simp; try with_reducible rfl)
  try simp only [List.setIfInBounds_toArray, List.set_cons_zero, List.set_cons_succ]
  refine take_slot (i := 47) (d := 50) (v := ?_) rfl rfl (by kernel_rfl) (by kernel_rfl) (by kernel_rfl) (fun _ _ _ h => h) (Or.inl ⟨by rfl, ?_⟩) (by assumption) ?_
  rotate_left 1
  focus (intro wS hSw; (try dsimp only at hSw); go_simp; try with_reducible rfl)
  try simp only [List.setIfInBounds_toArray, List.set_cons_zero, List.set_cons_succ]
  refine take_slot (i := 48) (d := 51) (v := ?_) rfl rfl (by kernel_rfl) (by kernel_rfl) (by kernel_rfl) (fun _ _ _ h => h) (Or.inl ⟨by rfl, ?_⟩) (by assumption) ?_
  rotate_left 1
  focus (intro wS hSw; (try dsimp only at hSw); go_simp; try with_reducible rfl)
  try simp only [List.setIfInBounds_toArray, List.set_cons_zero, List.set_cons_succ]
  refine take_slot (i := 49) (d := 52) (v := ?_) rfl rfl (by kernel_rfl) (by kernel_rfl) (by kernel_rfl) (fun _ _ _ h => h) (Or.inl ⟨by rfl, ?_⟩) (by assumption) ?_
  rotate_left 1
  focus (intro wS hSw; (try dsimp only at hSw); go_simp; try with_reducible rfl)
  try simp only [List.setIfInBounds_toArray, List.set_cons_zero, List.set_cons_succ]
  refine take_slot (i := 50) (d := 53) (v := ?_) rfl rfl (by kernel_rfl) (by kernel_rfl) (by kernel_rfl) (fun _ _ _ h => h) (Or.inl ⟨by rfl, ?_⟩) (by assumption) ?_
  rotate_left 1
  focus (intro wS hSw; (try dsimp only at hSw); go_simp; try with_reducible rfl)
  try simp only [List.setIfInBounds_toArray, List.set_cons_zero, List.set_cons_succ]
  refine take_slot (i := 51) (d := 54) (v := ?_) rfl rfl (by kernel_rfl) (by kernel_rfl) (by kernel_rfl) (fun _ _ _ h => h) (Or.inl ⟨by rfl, ?_⟩) (by assumption) ?_
  rotate_left 1
  focus (intro wS hSw; (try dsimp only at hSw); go_simp; try with_reducible rfl)
  try simp only [List.setIfInBounds_toArray, List.set_cons_zero, List.set_cons_succ]
  refine take_slot (i := 52) (d := 55) (v := ?_) rfl rfl (by kernel_rfl) (by kernel_rfl) (by kernel_rfl) (fun _ _ _ h => h) (Or.inl ⟨by rfl, ?_⟩) (by assumption) ?_
  rotate_left 1
  focus (intro wS hSw; (try dsimp only at hSw); go_simp; try with_reducible rfl)
  try simp only [List.setIfInBounds_toArray, List.set_cons_zero, List.set_cons_succ]
  refine take_slot (i := 53) (d := 56) (v := ?_) rfl rfl (by kernel_rfl) (by kernel_rfl) (by kernel_rfl) (fun _ _ _ h => h) (Or.inl ⟨by rfl, ?_⟩) (by assumption) ?_
  rotate_left 1
  focus (intro wS hSw; (try dsimp only at hSw); go_simp; try with_reducible rfl)
  try simp only [List.setIfInBounds_toArray, List.set_cons_zero, List.set_cons_succ]
  refine take_slot (i := 54) (d := 57) (v := ?_) rfl rfl (by kernel_rfl) (by kernel_rfl) (by kernel_rfl) (fun _ _ _ h => h) (Or.inl ⟨by rfl, ?_⟩) (by assumption) ?_
  rotate_left 1
  focus (intro wS hSw; (try dsimp only at hSw); go_simp; try with_reducible rfl)
  try simp only [List.setIfInBounds_toArray, List.set_cons_zero, List.set_cons_succ]
  refine wpAnyH_ready (rs := [55]) (by kernel_rfl) (by simp) ?_
  refine AllReadyH.cons rfl (fun K hK => ?_) AllReadyH.nil
  go_simp
  have hb := (Below.refl Z4.heap.size Z4).alloc (Nat.le_refl _) (Obj.cells #[.int .i64 ic, .int .i64 mo, .int .i64 me] 3)
  have szZ5 := hL.size
  have ord5nC := nC
  have ord5nP := nP
  have ord5nQ := nQ
  replace C0 := cell_next hb nC C0
  replace C1 := cell_next hb nC C1
  replace C2 := cell_next hb nC C2
  replace C3 := cell_next hb nC C3
  replace C4 := cell_next hb nC C4
  replace C5 := cell_next hb nC C5
  replace C6 := cell_next hb nC C6
  replace C7 := cell_next hb nC C7
  replace C8 := cell_next hb nC C8
  replace C9 := cell_next hb nC C9
  replace P0 := cell_next hb nP P0
  replace P1 := cell_next hb nP P1
  replace Q0 := cell_next hb nQ Q0
  replace Q1 := cell_next hb nQ Q1
  replace nC := Nat.lt_of_lt_of_le nC hb.size
  replace nP := Nat.lt_of_lt_of_le nP hb.size
  replace nQ := Nat.lt_of_lt_of_le nQ hb.size
  replace hL := hL.trans (hb.mono (Nat.le_trans hBW hL.size))
  have R0 : (Z4.alloc (Obj.cells #[.int .i64 ic, .int .i64 mo, .int .i64 me] 3)).cell? ⟨Z4.heap.size, 0, none⟩ = some (.int .i64 ic) := cell_new _ _ _ 0
  have R1 : (Z4.alloc (Obj.cells #[.int .i64 ic, .int .i64 mo, .int .i64 me] 3)).cell? ⟨Z4.heap.size, 1, none⟩ = some (.int .i64 mo) := cell_new _ _ _ 1
  have R2 : (Z4.alloc (Obj.cells #[.int .i64 ic, .int .i64 mo, .int .i64 me] 3)).cell? ⟨Z4.heap.size, 2, none⟩ = some (.int .i64 me) := cell_new _ _ _ 2
  have nR : Z4.heap.size < (Z4.alloc (Obj.cells #[.int .i64 ic, .int .i64 mo, .int .i64 me] 3)).heap.size := by simp
  refine hK.out _ _ ⟨C0, C1, C2, C3, C4, C5, C6, C7, C8, C9, trivial⟩ (fun hHeld => ?_)
  clear hK K hb
  generalize Z4.alloc (Obj.cells #[.int .i64 ic, .int .i64 mo, .int .i64 me] 3) = Z5 at *
  try simp only [Act.put, List.setIfInBounds_toArray, List.set_cons_zero, List.set_cons_succ]
  refine wpAnyH_ready (rs := [56]) (by kernel_rfl) (by simp) ?_
  refine AllReadyH.cons rfl (fun K hK => ?_) AllReadyH.nil
  go_simp
  refine (D3.out _ _ 3 nR R0 R1 R2).mono ?_
  rintro e Z6 ⟨rfl, hb⟩
  replace C0 := cell_next hb nC C0
  replace C1 := cell_next hb nC C1
  replace C2 := cell_next hb nC C2
  replace C3 := cell_next hb nC C3
  replace C4 := cell_next hb nC C4
  replace C5 := cell_next hb nC C5
  replace C6 := cell_next hb nC C6
  replace C7 := cell_next hb nC C7
  replace C8 := cell_next hb nC C8
  replace C9 := cell_next hb nC C9
  replace P0 := cell_next hb nP P0
  replace P1 := cell_next hb nP P1
  replace Q0 := cell_next hb nQ Q0
  replace Q1 := cell_next hb nQ Q1
  replace R0 := cell_next hb nR R0
  replace R1 := cell_next hb nR R1
  replace R2 := cell_next hb nR R2
  replace nC := Nat.lt_of_lt_of_le nC hb.size
  replace nP := Nat.lt_of_lt_of_le nP hb.size
  replace nQ := Nat.lt_of_lt_of_le nQ hb.size
  replace nR := Nat.lt_of_lt_of_le nR hb.size
  replace hL := hL.trans (hb.mono (Nat.le_trans hBW hL.size))
  refine hK.out _ _ ⟨C0, C1, C2, C3, C4, C5, C6, C7, C8, C9, trivial⟩ (fun hHeld => ?_)
  clear hK K hb
  try simp only [Act.put, List.setIfInBounds_toArray, List.set_cons_zero, List.set_cons_succ]
  refine take_slot (i := 57) (d := 60) (v := ?_) rfl rfl (by kernel_rfl) (by kernel_rfl) (by kernel_rfl) (fun _ _ _ h => h) (Or.inl ⟨by rfl, ?_⟩) (by assumption) ?_
  rotate_left 1
  focus (intro wS hSw; (try dsimp only at hSw); go_simp; try with_reducible rfl)
  try simp only [List.setIfInBounds_toArray, List.set_cons_zero, List.set_cons_succ]
  refine take_slot (i := 58) (d := 61) (v := ?_) rfl rfl (by kernel_rfl) (by kernel_rfl) (by kernel_rfl) (fun _ _ _ h => h) (Or.inl ⟨by rfl, ?_⟩) (by assumption) ?_
  rotate_left 1
  focus (intro wS hSw; (try dsimp only at hSw); go_simp; try with_reducible rfl)
  try simp only [List.setIfInBounds_toArray, List.set_cons_zero, List.set_cons_succ]
  refine take_slot (i := 59) (d := 62) (v := ?_) rfl rfl (by kernel_rfl) (by kernel_rfl) (by kernel_rfl) (fun _ _ _ h => h) (Or.inl ⟨by rfl, ?_⟩) (by assumption) ?_
  rotate_left 1
  focus (intro wS hSw; (try dsimp only at hSw); go_simp; try with_reducible rfl)
  try simp only [List.setIfInBounds_toArray, List.set_cons_zero, List.set_cons_succ]
  refine take_slot (i := 60) (d := 63) (v := ?_) rfl rfl (by kernel_rfl) (by kernel_rfl) (by kernel_rfl) (fun _ _ _ h => h) (Or.inl ⟨by rfl, ?_⟩) (by assumption) ?_
  rotate_left 1
  focus (intro wS hSw; (try dsimp only at hSw); go_simp; try with_reducible rfl)
  try simp only [List.setIfInBounds_toArray, List.set_cons_zero, List.set_cons_succ]
  refine take_slot (i := 61) (d := 64) (v := ?_) rfl rfl (by kernel_rfl) (by kernel_rfl) (by kernel_rfl) (fun _ _ _ h => h) (Or.inl ⟨by rfl, ?_⟩) (by assumption) ?_
  rotate_left 1
  focus (intro wS hSw; (try dsimp only at hSw); go_simp; try with_reducible rfl)
  try simp only [List.setIfInBounds_toArray, List.set_cons_zero, List.set_cons_succ]
  refine take_slot (i := 62) (d := 65) (v := ?_) rfl rfl (by kernel_rfl) (by kernel_rfl) (by kernel_rfl) (fun _ _ _ h => h) (Or.inl ⟨by rfl, ?_⟩) (by assumption) ?_
  rotate_left 1
  focus (intro wS hSw; (try dsimp only at hSw); go_simp; try with_reducible rfl)
  try simp only [List.setIfInBounds_toArray, List.set_cons_zero, List.set_cons_succ]
  refine take_slot (i := 63) (d := 66) (v := ?_) rfl rfl (by kernel_rfl) (by kernel_rfl) (by kernel_rfl) (fun _ _ _ h => h) (Or.inl ⟨by rfl, ?_⟩) (by assumption) ?_
  rotate_left 1
  focus (intro wS hSw; (try dsimp only at hSw); go_simp; try with_reducible rfl)
  try simp only [List.setIfInBounds_toArray, List.set_cons_zero, List.set_cons_succ]
  refine wpAnyH_ready (rs := [64]) (by kernel_rfl) (by simp) ?_
  refine AllReadyH.cons rfl (fun K hK => ?_) AllReadyH.nil
  go_simp
  refine (D4.out _).mono ?_
  rintro e Z7 ⟨rfl, hb⟩
  replace C0 := cell_next hb nC C0
  replace C1 := cell_next hb nC C1
  replace C2 := cell_next hb nC C2
  replace C3 := cell_next hb nC C3
  replace C4 := cell_next hb nC C4
  replace C5 := cell_next hb nC C5
  replace C6 := cell_next hb nC C6
  replace C7 := cell_next hb nC C7
  replace C8 := cell_next hb nC C8
  replace C9 := cell_next hb nC C9
  replace P0 := cell_next hb nP P0
  replace P1 := cell_next hb nP P1
  replace Q0 := cell_next hb nQ Q0
  replace Q1 := cell_next hb nQ Q1
  replace R0 := cell_next hb nR R0
  replace R1 := cell_next hb nR R1
  replace R2 := cell_next hb nR R2
  replace nC := Nat.lt_of_lt_of_le nC hb.size
  replace nP := Nat.lt_of_lt_of_le nP hb.size
  replace nQ := Nat.lt_of_lt_of_le nQ hb.size
  replace nR := Nat.lt_of_lt_of_le nR hb.size
  replace hL := hL.trans (hb.mono (Nat.le_trans hBW hL.size))
  refine hK.out _ _ ⟨C0, C1, C2, C3, C4, C5, C6, C7, C8, C9, trivial⟩ (fun hHeld => ?_)
  clear hK K hb
  try simp only [Act.put, List.setIfInBounds_toArray, List.set_cons_zero, List.set_cons_succ]
  refine take_slot (i := 65) (d := 68) (v := ?_) rfl rfl (by kernel_rfl) (by kernel_rfl) (by kernel_rfl) (fun _ _ _ h => h) (Or.inl ⟨by rfl, ?_⟩) (by assumption) ?_
  rotate_left 1
  focus (intro wS hSw; (try dsimp only at hSw); go_simp; try with_reducible rfl)
  try simp only [List.setIfInBounds_toArray, List.set_cons_zero, List.set_cons_succ]
  refine take_slot (i := 66) (d := 69) (v := ?_) rfl rfl (by kernel_rfl) (by kernel_rfl) (by kernel_rfl) (fun _ _ _ h => h) (Or.inl ⟨by rfl, ?_⟩) (by assumption) ?_
  rotate_left 1
  focus (intro wS hSw; (try dsimp only at hSw); go_simp; try with_reducible rfl)
  try simp only [List.setIfInBounds_toArray, List.set_cons_zero, List.set_cons_succ]
  refine take_slot (i := 67) (d := 70) (v := ?_) rfl rfl (by kernel_rfl) (by kernel_rfl) (by kernel_rfl) (fun _ _ _ h => h) (Or.inl ⟨by rfl, ?_⟩) (by assumption) ?_
  rotate_left 1
  focus (intro wS hSw; (try dsimp only at hSw); go_simp; try with_reducible rfl)
  try simp only [List.setIfInBounds_toArray, List.set_cons_zero, List.set_cons_succ]
  refine take_slot (i := 68) (d := 71) (v := ?_) rfl rfl (by kernel_rfl) (by kernel_rfl) (by kernel_rfl) (fun _ _ _ h => h) (Or.inl ⟨by rfl, ?_⟩) (by assumption) ?_
  rotate_left 1
  focus (intro wS hSw; (try dsimp only at hSw); go_simp; try with_reducible rfl)
  try simp only [List.setIfInBounds_toArray, List.set_cons_zero, List.set_cons_succ]
  refine take_slot (i := 69) (d := 72) (v := ?_) rfl rfl (by kernel_rfl) (by kernel_rfl) (by kernel_rfl) (fun _ _ _ h => h) (Or.inl ⟨by rfl, ?_⟩) (by assumption) ?_
  rotate_left 1
  focus (intro wS hSw; (try dsimp only at hSw); go_simp; try with_reducible rfl)
  try simp only [List.setIfInBounds_toArray, List.set_cons_zero, List.set_cons_succ]
  refine take_slot (i := 70) (d := 73) (v := ?_) rfl rfl (by kernel_rfl) (by kernel_rfl) (by kernel_rfl) (fun _ _ _ h => h) (Or.inl ⟨by rfl, ?_⟩) (by assumption) ?_
  rotate_left 1
  focus (intro wS hSw; (try dsimp only at hSw); go_simp; try with_reducible rfl)
  try simp only [List.setIfInBounds_toArray, List.set_cons_zero, List.set_cons_succ]
  refine take_slot (i := 71) (d := 74) (v := ?_) rfl rfl (by kernel_rfl) (by kernel_rfl) (by kernel_rfl) (fun _ _ _ h => h) (Or.inl ⟨by rfl, ?_⟩) (by assumption) ?_
  rotate_left 1
  focus (intro wS hSw; (try dsimp only at hSw); go_simp; try with_reducible rfl)
  try simp only [List.setIfInBounds_toArray, List.set_cons_zero, List.set_cons_succ]
  refine wpAnyH_ready (rs := [72]) (by kernel_rfl) (by simp) ?_
  refine AllReadyH.cons rfl (fun K hK => ?_) AllReadyH.nil
  go_simp
  have hb := (Below.refl Z7.heap.size Z7).alloc (Nat.le_refl _) (Obj.cells #[.int .i64 pu] 3)
  have szZ8 := hL.size
  have ord8nC := nC
  have ord8nP := nP
  have ord8nQ := nQ
  have ord8nR := nR
  replace C0 := cell_next hb nC C0
  replace C1 := cell_next hb nC C1
  replace C2 := cell_next hb nC C2
  replace C3 := cell_next hb nC C3
  replace C4 := cell_next hb nC C4
  replace C5 := cell_next hb nC C5
  replace C6 := cell_next hb nC C6
  replace C7 := cell_next hb nC C7
  replace C8 := cell_next hb nC C8
  replace C9 := cell_next hb nC C9
  replace P0 := cell_next hb nP P0
  replace P1 := cell_next hb nP P1
  replace Q0 := cell_next hb nQ Q0
  replace Q1 := cell_next hb nQ Q1
  replace R0 := cell_next hb nR R0
  replace R1 := cell_next hb nR R1
  replace R2 := cell_next hb nR R2
  replace nC := Nat.lt_of_lt_of_le nC hb.size
  replace nP := Nat.lt_of_lt_of_le nP hb.size
  replace nQ := Nat.lt_of_lt_of_le nQ hb.size
  replace nR := Nat.lt_of_lt_of_le nR hb.size
  replace hL := hL.trans (hb.mono (Nat.le_trans hBW hL.size))
  have T0 : (Z7.alloc (Obj.cells #[.int .i64 pu] 3)).cell? ⟨Z7.heap.size, 0, none⟩ = some (.int .i64 pu) := cell_new _ _ _ 0
  have nT : Z7.heap.size < (Z7.alloc (Obj.cells #[.int .i64 pu] 3)).heap.size := by simp
  refine hK.out _ _ ⟨C0, C1, C2, C3, C4, C5, C6, C7, C8, C9, trivial⟩ (fun hHeld => ?_)
  clear hK K hb
  generalize Z7.alloc (Obj.cells #[.int .i64 pu] 3) = Z8 at *
  try simp only [Act.put, List.setIfInBounds_toArray, List.set_cons_zero, List.set_cons_succ]
  refine wpAnyH_ready (rs := [73]) (by kernel_rfl) (by simp) ?_
  refine AllReadyH.cons rfl (fun K hK => ?_) AllReadyH.nil
  go_simp
  refine (D5.out _ _ 1 nT T0).mono ?_
  rintro e Z9 ⟨rfl, hb⟩
  replace C0 := cell_next hb nC C0
  replace C1 := cell_next hb nC C1
  replace C2 := cell_next hb nC C2
  replace C3 := cell_next hb nC C3
  replace C4 := cell_next hb nC C4
  replace C5 := cell_next hb nC C5
  replace C6 := cell_next hb nC C6
  replace C7 := cell_next hb nC C7
  replace C8 := cell_next hb nC C8
  replace C9 := cell_next hb nC C9
  replace P0 := cell_next hb nP P0
  replace P1 := cell_next hb nP P1
  replace Q0 := cell_next hb nQ Q0
  replace Q1 := cell_next hb nQ Q1
  replace R0 := cell_next hb nR R0
  replace R1 := cell_next hb nR R1
  replace R2 := cell_next hb nR R2
  replace T0 := cell_next hb nT T0
  replace nC := Nat.lt_of_lt_of_le nC hb.size
  replace nP := Nat.lt_of_lt_of_le nP hb.size
  replace nQ := Nat.lt_of_lt_of_le nQ hb.size
  replace nR := Nat.lt_of_lt_of_le nR hb.size
  replace nT := Nat.lt_of_lt_of_le nT hb.size
  replace hL := hL.trans (hb.mono (Nat.le_trans hBW hL.size))
  refine hK.out _ _ ⟨C0, C1, C2, C3, C4, C5, C6, C7, C8, C9, trivial⟩ (fun hHeld => ?_)
  clear hK K hb
  try simp only [Act.put, List.setIfInBounds_toArray, List.set_cons_zero, List.set_cons_succ]
  refine take_slot (i := 74) (d := 77) (v := ?_) rfl rfl (by kernel_rfl) (by kernel_rfl) (by kernel_rfl) (fun _ _ _ h => h) (Or.inl ⟨by rfl, ?_⟩) (by assumption) ?_
  rotate_left 1
  focus (intro wS hSw; (try dsimp only at hSw); go_simp; try with_reducible rfl)
  try simp only [List.setIfInBounds_toArray, List.set_cons_zero, List.set_cons_succ]
  refine take_slot (i := 75) (d := 2) (v := ?_) rfl rfl (by kernel_rfl) (by kernel_rfl) (by kernel_rfl) (fun _ _ _ h => h) (Or.inl ⟨by rfl, ?_⟩) (by assumption) ?_
  rotate_left 1
  focus (intro wS hSw; (try dsimp only at hSw); go_simp; try with_reducible rfl)
  try simp only [List.setIfInBounds_toArray, List.set_cons_zero, List.set_cons_succ]
  refine wpAnyH_done (by kernel_rfl) ?_ _
  go_wp2_with fail
  go_ret
  exact ⟨rfl, hL⟩

set_option maxRecDepth 20000 in
set_option maxHeartbeats 2000000 in
theorem has_ok (fu mo : Int) (b : Nat) (w : World) (h1 : inB 0 fu 0 = true) (h2 : inB 0 mo 0 = true) (nC : b < w.heap.size) (C3 : w.cell? ⟨b, 3, none⟩ = some (.int .i64 fu)) (C5 : w.cell? ⟨b, 5, none⟩ = some (.int .i64 mo)) :
    Calls Try.prog 75 #[.pointer (some ⟨b, 0, none⟩), .agg #[.int .i64 0, .int .i64 0]] w fun e w' => e = .returned (.bool true) ∧ Below w.heap.size w w' := by
  have D1 := Lib.hid (fun (W : World) (g c : Nat) => tin1v_any 0 fu 0 g c W)
  rw [h1] at D1
  have D2 := Lib.hid (fun (W : World) (g c : Nat) => tin1v_any 0 mo 0 g c W)
  rw [h2] at D2
  clear h1 h2
  go_enter Try.func75, Try.ntmps75
  go_wp2_with fail
  have s0 : (w.alloc (Obj.cells #[.int .i64 0, .int .i64 0] 69)).cell? ⟨w.heap.size, 0, none⟩ = some (.int .i64 0) := cell_new _ _ _ 0
  have s1 : (w.alloc (Obj.cells #[.int .i64 0, .int .i64 0] 69)).cell? ⟨w.heap.size, 1, none⟩ = some (.int .i64 0) := cell_new _ _ _ 1
  have ns : w.heap.size < (w.alloc (Obj.cells #[.int .i64 0, .int .i64 0] 69)).heap.size := by simp
  have hB : Below w.heap.size w (w.alloc (Obj.cells #[.int .i64 0, .int .i64 0] 69)) := (Below.refl _ _).alloc (Nat.le_refl _) _
  replace C3 := cell_next hB nC C3
  replace C5 := cell_next hB nC C5
  replace nC := Nat.lt_of_lt_of_le nC hB.size
  generalize w.alloc (Obj.cells #[.int .i64 0, .int .i64 0] 69) = w1 at *
  have hBW : w1.heap.size ≤ w1.heap.size := Nat.le_refl _
  refine wp_region_held_drew (S := fun w' => w'.cell? ⟨w.heap.size, 0, none⟩ = some (.int .i64 0) ∧ w'.cell? ⟨w.heap.size, 1, none⟩ = some (.int .i64 0) ∧ w'.cell? ⟨b, 3, none⟩ = some (.int .i64 fu) ∧ w'.cell? ⟨b, 5, none⟩ = some (.int .i64 mo) ∧ True) (by kernel_rfl) ?_ (fun hHeld => ?_)
  focus (exact ⟨s0, s1, C3, C5, trivial⟩)
  have hL : Below w1.heap.size w1 w1.drew := Below.drew (Below.refl _ _)
  replace s0 : w1.drew.cell? ⟨w.heap.size, 0, none⟩ = some (.int .i64 0) := s0
  replace s1 : w1.drew.cell? ⟨w.heap.size, 1, none⟩ = some (.int .i64 0) := s1
  replace C3 : w1.drew.cell? ⟨b, 3, none⟩ = some (.int .i64 fu) := C3
  replace C5 : w1.drew.cell? ⟨b, 5, none⟩ = some (.int .i64 mo) := C5
  replace ns : w.heap.size < w1.drew.heap.size := ns
  replace nC : b < w1.drew.heap.size := nC
  generalize hWd : w1.drew = wd1 at hHeld hL s0 s1 C3 C5 ns nC  ⊢
  clear hWd
  refine take_slot (i := 0) (d := 5) (v := ?_) rfl rfl (by kernel_rfl) (by kernel_rfl) (by kernel_rfl) (fun _ _ _ h => h) (Or.inl ⟨by rfl, ?_⟩) (by assumption) ?_
  rotate_left 1
  focus (intro wS hSw; (try dsimp only at hSw); go_simp; try with_reducible rfl)
  try simp only [List.setIfInBounds_toArray, List.set_cons_zero, List.set_cons_succ]
  refine take_slot (i := 1) (d := 6) (v := ?_) rfl rfl (by kernel_rfl) (by kernel_rfl) (by kernel_rfl) (fun _ _ _ h => h) (Or.inl ⟨by rfl, ?_⟩) (by assumption) ?_
  rotate_left 1
  focus (intro wS hSw; (try dsimp only at hSw); go_simp; try with_reducible rfl)
  try simp only [List.setIfInBounds_toArray, List.set_cons_zero, List.set_cons_succ]
  refine take_slot (i := 2) (d := 7) (v := ?_) rfl rfl (by kernel_rfl) (by kernel_rfl) (by kernel_rfl) (fun _ _ _ h => h) (Or.inl ⟨by rfl, ?_⟩) (by assumption) ?_
  rotate_left 1
  focus (intro wS hSw; (try dsimp only at hSw); go_simp; try with_reducible rfl)
  try simp only [List.setIfInBounds_toArray, List.set_cons_zero, List.set_cons_succ]
  refine take_slot (i := 3) (d := 8) (v := ?_) rfl rfl (by kernel_rfl) (by kernel_rfl) (by kernel_rfl) (fun _ _ _ h => h) (Or.inl ⟨by rfl, ?_⟩) (by assumption) ?_
  rotate_left 1
  focus (intro wS hSw; (try dsimp only at hSw); go_simp; try with_reducible rfl)
  try simp only [List.setIfInBounds_toArray, List.set_cons_zero, List.set_cons_succ]
  refine take_slot (i := 4) (d := 9) (v := ?_) rfl rfl (by kernel_rfl) (by kernel_rfl) (by kernel_rfl) (fun _ _ _ h => h) (Or.inl ⟨by rfl, ?_⟩) (by assumption) ?_
  rotate_left 1
  focus (intro wS hSw; (try dsimp only at hSw); go_simp; try with_reducible rfl)
  try simp only [List.setIfInBounds_toArray, List.set_cons_zero, List.set_cons_succ]
  refine take_slot (i := 5) (d := 10) (v := ?_) rfl rfl (by kernel_rfl) (by kernel_rfl) (by kernel_rfl) (fun _ _ _ h => h) (Or.inl ⟨by rfl, ?_⟩) (by assumption) ?_
  rotate_left 1
  focus (intro wS hSw; (try dsimp only at hSw); go_simp; try with_reducible rfl)
  try simp only [List.setIfInBounds_toArray, List.set_cons_zero, List.set_cons_succ]
  refine take_slot (i := 6) (d := 11) (v := ?_) rfl rfl (by kernel_rfl) (by kernel_rfl) (by kernel_rfl) (fun _ _ _ h => h) (Or.inl ⟨by rfl, ?_⟩) (by assumption) ?_
  rotate_left 1
  focus (intro wS hSw; (try dsimp only at hSw); go_simp; try with_reducible rfl)
  try simp only [List.setIfInBounds_toArray, List.set_cons_zero, List.set_cons_succ]
  refine wpAnyH_ready (rs := [7]) (by kernel_rfl) (by simp) ?_
  refine AllReadyH.cons rfl (fun K hK => ?_) AllReadyH.nil
  go_simp
  have hb := (Below.refl wd1.heap.size wd1).alloc (Nat.le_refl _) (Obj.cells #[.int .i64 0] 3)
  have szZ1 := hL.size
  have ord1ns := ns
  have ord1nC := nC
  replace s0 := cell_next hb ns s0
  replace s1 := cell_next hb ns s1
  replace C3 := cell_next hb nC C3
  replace C5 := cell_next hb nC C5
  replace ns := Nat.lt_of_lt_of_le ns hb.size
  replace nC := Nat.lt_of_lt_of_le nC hb.size
  replace hL := hL.trans (hb.mono (Nat.le_trans hBW hL.size))
  have P0 : (wd1.alloc (Obj.cells #[.int .i64 0] 3)).cell? ⟨wd1.heap.size, 0, none⟩ = some (.int .i64 0) := cell_new _ _ _ 0
  have nP : wd1.heap.size < (wd1.alloc (Obj.cells #[.int .i64 0] 3)).heap.size := by simp
  refine hK.out _ _ ⟨s0, s1, C3, C5, trivial⟩ (fun hHeld => ?_)
  clear hK K hb
  generalize wd1.alloc (Obj.cells #[.int .i64 0] 3) = Z1 at *
  try simp only [Act.put, List.setIfInBounds_toArray, List.set_cons_zero, List.set_cons_succ]
  refine wpAnyH_ready (rs := [8]) (by kernel_rfl) (by simp) ?_
  refine AllReadyH.cons rfl (fun K hK => ?_) AllReadyH.nil
  go_simp
  refine (D1.out _ _ 1 nP P0).mono ?_
  rintro e Z2 ⟨rfl, hb⟩
  replace s0 := cell_next hb ns s0
  replace s1 := cell_next hb ns s1
  replace C3 := cell_next hb nC C3
  replace C5 := cell_next hb nC C5
  replace P0 := cell_next hb nP P0
  replace ns := Nat.lt_of_lt_of_le ns hb.size
  replace nC := Nat.lt_of_lt_of_le nC hb.size
  replace nP := Nat.lt_of_lt_of_le nP hb.size
  replace hL := hL.trans (hb.mono (Nat.le_trans hBW hL.size))
  refine hK.out _ _ ⟨s0, s1, C3, C5, trivial⟩ (fun hHeld => ?_)
  clear hK K hb
  try simp only [Act.put, List.setIfInBounds_toArray, List.set_cons_zero, List.set_cons_succ]
  refine take_slot (i := 9) (d := 14) (v := ?_) rfl rfl (by kernel_rfl) (by kernel_rfl) (by kernel_rfl) (fun _ _ _ h => h) (Or.inl ⟨by rfl, ?_⟩) (by assumption) ?_
  rotate_left 1
  focus (intro wS hSw; (try dsimp only at hSw); go_simp; try with_reducible rfl)
  try simp only [List.setIfInBounds_toArray, List.set_cons_zero, List.set_cons_succ]
  refine take_slot (i := 10) (d := 15) (v := ?_) rfl rfl (by kernel_rfl) (by kernel_rfl) (by kernel_rfl) (fun _ _ _ h => h) (Or.inl ⟨by rfl, ?_⟩) (by assumption) ?_
  rotate_left 1
  focus (intro wS hSw; (try dsimp only at hSw); go_simp; try with_reducible rfl)
  try simp only [List.setIfInBounds_toArray, List.set_cons_zero, List.set_cons_succ]
  refine take_slot (i := 11) (d := 16) (v := ?_) rfl rfl (by kernel_rfl) (by kernel_rfl) (by kernel_rfl) (fun _ _ _ h => h) (Or.inl ⟨by rfl, ?_⟩) (by assumption) ?_
  rotate_left 1
  focus (intro wS hSw; (try dsimp only at hSw); go_simp; try with_reducible rfl)
  try simp only [List.setIfInBounds_toArray, List.set_cons_zero, List.set_cons_succ]
  refine take_slot (i := 12) (d := 17) (v := ?_) rfl rfl (by kernel_rfl) (by kernel_rfl) (by kernel_rfl) (fun _ _ _ h => h) (Or.inl ⟨by rfl, ?_⟩) (by assumption) ?_
  rotate_left 1
  focus (intro wS hSw; (try dsimp only at hSw); go_simp; try with_reducible rfl)
  try simp only [List.setIfInBounds_toArray, List.set_cons_zero, List.set_cons_succ]
  refine take_slot (i := 13) (d := 18) (v := ?_) rfl rfl (by kernel_rfl) (by kernel_rfl) (by kernel_rfl) (fun _ _ _ h => h) (Or.inl ⟨by rfl, ?_⟩) (by assumption) ?_
  rotate_left 1
  focus (intro wS hSw; (try dsimp only at hSw); go_simp; try with_reducible rfl)
  try simp only [List.setIfInBounds_toArray, List.set_cons_zero, List.set_cons_succ]
  refine take_slot (i := 14) (d := 19) (v := ?_) rfl rfl (by kernel_rfl) (by kernel_rfl) (by kernel_rfl) (fun _ _ _ h => h) (Or.inl ⟨by rfl, ?_⟩) (by assumption) ?_
  rotate_left 1
  focus (intro wS hSw; (try dsimp only at hSw); go_simp; try with_reducible rfl)
  try simp only [List.setIfInBounds_toArray, List.set_cons_zero, List.set_cons_succ]
  refine take_slot (i := 15) (d := 20) (v := ?_) rfl rfl (by kernel_rfl) (by kernel_rfl) (by kernel_rfl) (fun _ _ _ h => h) (Or.inl ⟨by rfl, ?_⟩) (by assumption) ?_
  rotate_left 1
  focus (intro wS hSw; (try dsimp only at hSw); go_simp; try with_reducible rfl)
  try simp only [List.setIfInBounds_toArray, List.set_cons_zero, List.set_cons_succ]
  refine take_slot (i := 16) (d := 21) (v := ?_) rfl rfl (by kernel_rfl) (by kernel_rfl) (by kernel_rfl) (fun _ _ _ h => h) (Or.inl ⟨by rfl, ?_⟩) (by assumption) ?_
  rotate_left 1
  focus (intro wS hSw; (try dsimp only at hSw); go_simp; try with_reducible rfl)
  try simp only [List.setIfInBounds_toArray, List.set_cons_zero, List.set_cons_succ]
  refine wpAnyH_ready (rs := [17]) (by kernel_rfl) (by simp) ?_
  refine AllReadyH.cons rfl (fun K hK => ?_) AllReadyH.nil
  go_simp
  have hb := (Below.refl Z2.heap.size Z2).alloc (Nat.le_refl _) (Obj.cells #[.int .i64 0] 3)
  have szZ3 := hL.size
  have ord3ns := ns
  have ord3nC := nC
  have ord3nP := nP
  replace s0 := cell_next hb ns s0
  replace s1 := cell_next hb ns s1
  replace C3 := cell_next hb nC C3
  replace C5 := cell_next hb nC C5
  replace P0 := cell_next hb nP P0
  replace ns := Nat.lt_of_lt_of_le ns hb.size
  replace nC := Nat.lt_of_lt_of_le nC hb.size
  replace nP := Nat.lt_of_lt_of_le nP hb.size
  replace hL := hL.trans (hb.mono (Nat.le_trans hBW hL.size))
  have Q0 : (Z2.alloc (Obj.cells #[.int .i64 0] 3)).cell? ⟨Z2.heap.size, 0, none⟩ = some (.int .i64 0) := cell_new _ _ _ 0
  have nQ : Z2.heap.size < (Z2.alloc (Obj.cells #[.int .i64 0] 3)).heap.size := by simp
  refine hK.out _ _ ⟨s0, s1, C3, C5, trivial⟩ (fun hHeld => ?_)
  clear hK K hb
  generalize Z2.alloc (Obj.cells #[.int .i64 0] 3) = Z3 at *
  try simp only [Act.put, List.setIfInBounds_toArray, List.set_cons_zero, List.set_cons_succ]
  refine wpAnyH_ready (rs := [18]) (by kernel_rfl) (by simp) ?_
  refine AllReadyH.cons rfl (fun K hK => ?_) AllReadyH.nil
  go_simp
  refine (D2.out _ _ 1 nQ Q0).mono ?_
  rintro e Z4 ⟨rfl, hb⟩
  replace s0 := cell_next hb ns s0
  replace s1 := cell_next hb ns s1
  replace C3 := cell_next hb nC C3
  replace C5 := cell_next hb nC C5
  replace P0 := cell_next hb nP P0
  replace Q0 := cell_next hb nQ Q0
  replace ns := Nat.lt_of_lt_of_le ns hb.size
  replace nC := Nat.lt_of_lt_of_le nC hb.size
  replace nP := Nat.lt_of_lt_of_le nP hb.size
  replace nQ := Nat.lt_of_lt_of_le nQ hb.size
  replace hL := hL.trans (hb.mono (Nat.le_trans hBW hL.size))
  refine hK.out _ _ ⟨s0, s1, C3, C5, trivial⟩ (fun hHeld => ?_)
  clear hK K hb
  try simp only [Act.put, List.setIfInBounds_toArray, List.set_cons_zero, List.set_cons_succ]
  refine take_slot (i := 19) (d := 24) (v := ?_) rfl rfl (by kernel_rfl) (by kernel_rfl) (by kernel_rfl) (fun _ _ _ h => h) (Or.inl ⟨by rfl, ?_⟩) (by assumption) ?_
  rotate_left 1
  focus (intro wS hSw; (try dsimp only at hSw); go_simp; try with_reducible rfl)
  try simp only [List.setIfInBounds_toArray, List.set_cons_zero, List.set_cons_succ]
  refine take_slot (i := 20) (d := 4) (v := ?_) rfl rfl (by kernel_rfl) (by kernel_rfl) (by kernel_rfl) (fun _ _ _ h => h) (Or.inl ⟨by rfl, ?_⟩) (by assumption) ?_
  rotate_left 1
  focus (intro wS hSw; (try dsimp only at hSw); go_simp; try with_reducible rfl)
  try simp only [List.setIfInBounds_toArray, List.set_cons_zero, List.set_cons_succ]
  refine wpAnyH_done (by kernel_rfl) ?_ _
  replace hB := hB.trans (hL.mono hB.size)
  go_wp2_with fail
  go_ret
  exact ⟨rfl, hB⟩

set_option maxRecDepth 20000 in
set_option maxHeartbeats 2000000 in
theorem checkStart_ok (r : Ru4) (n : Int) (w : World) (hr : RuOk r) (h7 : inB 0 r.fu 0 = true) (h8 : inB 0 r.mo 0 = true) (hn : n ≤ 1000) :
    Calls Try.prog 48 #[.agg (cRu r), .agg #[.int .i64 0, .int .i64 0], .int .i64 n] w fun e w' => e = .returned (.int .i64 0) ∧ Below w.heap.size w w' := by
  have CV := Lib.hid (fun (b : Nat) (W : World) => valid_ok r b W hr)
  have CH := Lib.hid (fun (b : Nat) (W : World) => has_ok r.fu r.mo b W h7 h8)
  obtain ⟨fr, th, ga, fu, ic, mo, me, rl, rh, pu⟩ := r
  have t1 : decide ((1000 : Int) < n) = false := by simp; omega
  clear hr h7 h8
  simp only [cRu] at *
  go_enter Try.func48, Try.ntmps48
  go_wp2_with fail
  refine (CV.out _ _ (by simp) (by simp [go_sem]) (by simp [go_sem]) (by simp [go_sem]) (by simp [go_sem]) (by simp [go_sem]) (by simp [go_sem]) (by simp [go_sem]) (by simp [go_sem]) (by simp [go_sem]) (by simp [go_sem])).mono ?_
  rintro e W1 ⟨rfl, hb⟩
  have nA : w.heap.size < W1.heap.size := by have := hb.size; simp at this; omega
  have S0 := cell_next hb (b := w.heap.size + 1) (o := 0) (by simp <;> omega) (v := some (.int .i64 0)) (by simp [go_sem])
  have S1 := cell_next hb (b := w.heap.size + 1) (o := 1) (by simp <;> omega) (v := some (.int .i64 0)) (by simp [go_sem])
  have nS : w.heap.size + 1 < W1.heap.size := by have := hb.size; simp at this; omega
  have C0 := cell_next hb (b := w.heap.size + 1 + 1) (o := 0) (by simp <;> omega) (v := some (.int .i64 fr)) (by simp [go_sem])
  have C1 := cell_next hb (b := w.heap.size + 1 + 1) (o := 1) (by simp <;> omega) (v := some (.int .i64 th)) (by simp [go_sem])
  have C2 := cell_next hb (b := w.heap.size + 1 + 1) (o := 2) (by simp <;> omega) (v := some (.int .i64 ga)) (by simp [go_sem])
  have C3 := cell_next hb (b := w.heap.size + 1 + 1) (o := 3) (by simp <;> omega) (v := some (.int .i64 fu)) (by simp [go_sem])
  have C4 := cell_next hb (b := w.heap.size + 1 + 1) (o := 4) (by simp <;> omega) (v := some (.int .i64 ic)) (by simp [go_sem])
  have C5 := cell_next hb (b := w.heap.size + 1 + 1) (o := 5) (by simp <;> omega) (v := some (.int .i64 mo)) (by simp [go_sem])
  have C6 := cell_next hb (b := w.heap.size + 1 + 1) (o := 6) (by simp <;> omega) (v := some (.int .i64 me)) (by simp [go_sem])
  have C7 := cell_next hb (b := w.heap.size + 1 + 1) (o := 7) (by simp <;> omega) (v := some (.int .i64 rl)) (by simp [go_sem])
  have C8 := cell_next hb (b := w.heap.size + 1 + 1) (o := 8) (by simp <;> omega) (v := some (.int .i64 rh)) (by simp [go_sem])
  have C9 := cell_next hb (b := w.heap.size + 1 + 1) (o := 9) (by simp <;> omega) (v := some (.int .i64 pu)) (by simp [go_sem])
  have nC : w.heap.size + 1 + 1 < W1.heap.size := by have := hb.size; simp at this; omega
  have hB := (below3 hb)
  clear hb
  go_wp2_with fail
  refine (CH.out _ _ nC C3 C5).mono ?_
  rintro e W2 ⟨rfl, hb⟩
  replace nA := Nat.lt_of_lt_of_le nA hb.size
  replace S0 := cell_next hb nS S0
  replace S1 := cell_next hb nS S1
  replace nS := Nat.lt_of_lt_of_le nS hb.size
  replace C0 := cell_next hb nC C0
  replace C1 := cell_next hb nC C1
  replace C2 := cell_next hb nC C2
  replace C3 := cell_next hb nC C3
  replace C4 := cell_next hb nC C4
  replace C5 := cell_next hb nC C5
  replace C6 := cell_next hb nC C6
  replace C7 := cell_next hb nC C7
  replace C8 := cell_next hb nC C8
  replace C9 := cell_next hb nC C9
  replace nC := Nat.lt_of_lt_of_le nC hb.size
  replace hB := hB.trans (hb.mono hB.size)
  clear hb
  go_wp2_with fail
  go_ret
  exact ⟨rfl, hB⟩

set_option maxHeartbeats 400000 in
theorem tWrong_any (x y : Int) (w : World) :
    Calls Try.prog 50 #[.agg #[.int .i64 x, .int .i64 y]] w fun e w' => e = .returned (.bool (!rgB (-600) 600 x y)) ∧ Below w.heap.size w w' := by
  have c1 := Lib.hid (fun (W : World) => trangeIn_any (-600) 600 x y W)
  generalize rgB (-600) 600 x y = r at *
  go_enter Try.func50, Try.ntmps50
  go_wp2_with fail
  refine (c1.out _).mono ?_
  rintro e w1 ⟨rfl, hb⟩
  have hB := below1 hb
  clear hb
  go_wp2_with fail
  go_ret
  exact ⟨by cases r <;> rfl, hB⟩
theorem enters_tWrong : ∀ args w, (callFunc 50 args).run Try.prog w = .ok (.enter 50 args) w := enters_of Try.func50 (by kernel_rfl) rfl

set_option maxRecDepth 20000 in
set_option maxHeartbeats 1000000 in
theorem tNone (v : Value) (xs : List (Int × Int)) (w : World) (hl : xs.length ≤ 1000) (hv : SetAt w.heap.size w v xs) (hT : ∀ p ∈ xs, rgB (-600) 600 p.1 p.2 = true) :
    Calls Try.prog 76 #[v, .func (Fn.func 50) #[] #[]] w fun e w' => e = .returned (.int .i64 (-1)) ∧ Below w.heap.size w w' := by
  have HE := enters_tWrong
  obtain ⟨A, c, rfl, hr⟩ := hv
  have HC := Lib.hid (fun (x y : Int) (W : World) => tWrong_any x y W)
  have HT := Lib.hid hT
  clear hT
  obtain ⟨n, hn⟩ : ∃ n, xs.length = n := ⟨_, rfl⟩
  rw [hn] at hr hl ⊢
  have Hn := Lib.hid hn
  have HR := Lib.hid hr
  clear hr hn
  go_enter Try.func76, Try.ntmps76
  go_wp2_with fail
  go_loopw [8] (fun i wr => ∃ k : Nat, k ≤ n ∧ i = .int .i64 k ∧ Below w.heap.size w wr) (fun i _ => n - (RowKit.intOf i).toNat)
  case atStart => exact ⟨0, Nat.zero_le _, rfl, Below.refl _ _⟩
  case round =>
    obtain ⟨k, hk, rfl, hbr⟩ := hrel
    by_cases hlt : (k : Int) < (n : Int)
    · obtain ⟨⟨x, y⟩, hp⟩ : ∃ p, xs[k]? = some p := ⟨_, List.getElem?_eq_getElem (by rw [Hn.out]; omega)⟩
      obtain ⟨g, off, rfl, hg, hc⟩ := HR.out (by omega)
      obtain ⟨q0, q1⟩ := hc k _ hp
      replace q0 := cell_next hbr hg q0
      replace q1 := cell_next hbr hg q1
      have hgw : g < wr.heap.size := by have := hbr.size; omega
      have ht := HT.out _ (List.mem_of_getElem? hp)
      have c1 := HC.out x y wr
      dsimp only at q0 q1 ht
      rw [ht] at c1
      have C1 := Lib.hid c1
      clear hc hp c1 ht
      go_wp2_with fail
      refine C1.out.mono ?_
      rintro e w1 ⟨rfl, hb1⟩
      have hB := hbr.trans (hb1.mono hbr.size)
      clear hb1 q0 q1 C1
      go_wp2_with fail
      go_roundw
      case rel => exact ⟨k + 1, by omega, by go_num, hB⟩
      case measure => simp [RowKit.intOf]; omega
    · obtain rfl : k = n := by omega
      go_wp2_with fail
      go_ret
      exact ⟨rfl, hbr⟩

set_option maxHeartbeats 400000 in
theorem tFine (v : Value) (xs : List (Int × Int)) (w : World) (hl : xs.length ≤ 1000) (hv : SetAt w.heap.size w v xs) (hT : ∀ p ∈ xs, rgB (-600) 600 p.1 p.2 = true) :
    Calls Try.prog 49 #[v, .func (Fn.func 50) #[] #[]] w fun e w' => e = .returned (.bool false) ∧ Below w.heap.size w w' := by
  have c1 := Lib.hid (tNone v xs w hl hv hT)
  clear hv hT
  go_enter Try.func49, Try.ntmps49
  go_wp2_with fail
  refine c1.out.mono ?_
  rintro e w1 ⟨rfl, hb⟩
  go_wp2_with fail
  go_ret
  exact ⟨by simp, hb⟩


set_option maxRecDepth 20000 in
set_option maxHeartbeats 2000000 in
theorem check_weather (r : Ru4) (v : Value) (xs : List (Int × Int)) (w : World) (hr : RuOk r) (h7 : inB 0 r.fu 0 = true) (h8 : inB 0 r.mo 0 = true) (hl : xs.length ≤ 1000) (hv : SetAt w.heap.size w v xs) (hT : ∀ p ∈ xs, rgB (-600) 600 p.1 p.2 = true) :
    Calls Try.prog 18 #[.agg (cRu r), .agg #[.int .i64 0, .int .i64 0], v] w fun e w' => e = .returned (.int .i64 0) ∧ Below w.heap.size w w' := by
  have CS := Lib.hid (fun (W : World) => checkStart_ok r (xs.length : Int) W hr h7 h8 (by omega))
  have CF := Lib.hid (fun (W : World) (h : Below w.heap.size w W) => tFine v xs W hl ((hv.below h (Nat.le_refl _)).mono h.size) hT)
  obtain ⟨A, c, rfl, hA⟩ := hv
  obtain ⟨fr, th, ga, fu, ic, mo, me, rl, rh, pu⟩ := r
  simp only [cRu] at *
  clear hr h7 h8 hT hA
  generalize xs.length = n at *
  go_enter Try.func18, Try.ntmps18
  go_wp2_with fail
  refine (CS.out _).mono ?_
  rintro e W1 ⟨rfl, hb⟩
  have nA : w.heap.size < W1.heap.size := by have := hb.size; simp at this; omega
  have nS : w.heap.size + 1 < W1.heap.size := by have := hb.size; simp at this; omega
  have hB := (below2 hb)
  clear hb
  go_wp2_with fail
  refine (CF.out _ hB).mono ?_
  rintro e W2 ⟨rfl, hb⟩
  replace nA := Nat.lt_of_lt_of_le nA hb.size
  replace nS := Nat.lt_of_lt_of_le nS hb.size
  replace hB := hB.trans (hb.mono hB.size)
  clear hb
  go_wp2_with fail
  go_ret
  exact ⟨rfl, hB⟩
end Go.Proofs.Ytfdaiififoomoaa
