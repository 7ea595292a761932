/- Contracts: whether flows are valid (checkFlows, with no frozen pipes). -/
import Derived.Test.YtpphchbokphkdaaDoorN3
namespace Go.Proofs.YtpphchbokphkdaaDoor
open Go.RowKit Go.Lib Go.Shelf
set_option linter.unusedVariables false
set_option linter.unusedSimpArgs false
attribute [local go_sem ↓] Go.wp_at_zero Go.wp_at_succ

set_option maxHeartbeats 400000 in
theorem flow1_any (lo hi : Int) (w : World) :
    Calls Tryd.prog 29 #[.agg #[.int .i64 lo, .int .i64 hi]] w fun e w' => e = .returned (.bool (!flB (lo, hi))) ∧ Below w.heap.size w w' := by
  by_cases h1 : lo < 0 <;> by_cases h2 : hi < lo <;> by_cases h3 : 1000000000 < hi
  all_goals try (exfalso; omega)
  all_goals
    go_enter Tryd.func29, Tryd.ntmps29
    go_wp2
    go_ret
    exact ⟨by simp [flB]; omega, (Below.refl _ _).alloc (Nat.le_refl _) _⟩
theorem enters_flow1 : ∀ args w, (callFunc 29 args).run Tryd.prog w = .ok (.enter 29 args) w := enters_of Tryd.func29 (by kernel_rfl) rfl

def flsB (xs : List (Int × Int)) : Bool := xs.all flB
theorem flsB_snoc (xs : List (Int × Int)) (p : Int × Int) : flsB (xs ++ [p]) = (flsB xs && flB p) := by simp [flsB, List.all_append]
theorem flsB_no {xs : List (Int × Int)} {k : Nat} {p : Int × Int} (h : xs[k]? = some p) (hp : flB p = false) : flsB xs = false := by
  rw [Bool.eq_false_iff]
  intro ha
  have := List.all_eq_true.1 ha p (List.mem_of_getElem? h)
  rw [hp] at this
  cases this
theorem flsB_at {xs : List (Int × Int)} (h : flsB xs = true) {i : Nat} (hi : i < xs.length) : flB (xs.getD i (0, 0)) = true :=
  List.all_eq_true.1 h _ (List.mem_of_getElem? (getElem?_getD (0, 0) hi))

/-- the number of the first wrong flow, or -1 -/
def IdxPost (b : Bool) (w : World) (e : Ending) (w' : World) : Prop := ∃ i : Int, e = .returned (.int .i64 i) ∧ (if b then i = -1 else 0 ≤ i ∧ i ≤ 9000000000000000000) ∧ Below w.heap.size w w'

set_option maxRecDepth 20000 in
set_option maxHeartbeats 1000000 in
theorem indexFlow_any (v : Value) (xs : List (Int × Int)) (w : World) (hl : xs.length ≤ 1000000000000) (hv : SetAt w.heap.size w v xs) :
    Calls Tryd.prog 32 #[v, .func (Fn.func 29) #[] #[]] w (IdxPost (flsB xs) w) := by
  have HE := enters_flow1
  obtain ⟨A, c, rfl, hr⟩ := hv
  have HN := Lib.hid (fun (k : Nat) (p : Int × Int) (h : xs[k]? = some p) hp => flsB_no h hp)
  obtain ⟨b, hb⟩ : ∃ b, flsB xs = b := ⟨_, rfl⟩
  rw [hb] at HN ⊢
  have HB := Lib.hid hb
  clear hb
  obtain ⟨n, hn⟩ : ∃ n, xs.length = n := ⟨_, rfl⟩
  rw [hn] at hr hl ⊢
  have Hn := Lib.hid hn
  have HR := Lib.hid hr
  clear hr hn
  go_enter Tryd.func32, Tryd.ntmps32
  go_wp2_with fail
  go_loopw [8] (fun i wr => ∃ k : Nat, k ≤ n ∧ i = .int .i64 k ∧ Hid (flsB (xs.take k) = true) ∧ Below w.heap.size w wr) (fun i _ => n - (intOf i).toNat)
  case atStart => exact ⟨0, Nat.zero_le _, rfl, Lib.hid rfl, Below.refl _ _⟩
  case round =>
    obtain ⟨k, hk, rfl, ho, hbr⟩ := hrel
    by_cases hlt : (k : Int) < (n : Int)
    · obtain ⟨p, hp⟩ : ∃ p, xs[k]? = some p := ⟨_, List.getElem?_eq_getElem (by rw [Hn.out]; omega)⟩
      obtain ⟨g, off, rfl, hg, hc⟩ := HR.out (by omega)
      obtain ⟨q0, q1⟩ := (hc.below hbr hg) k p hp
      have HNk := Lib.hid (HN.out k p hp)
      have hok : Hid (flsB (xs.take (k + 1)) = flB p) := Lib.hid (by rw [take_snoc' xs k p hp, flsB_snoc, ho.out]; rfl)
      have c1 := Lib.hid (flow1_any p.1 p.2)
      clear hc hp
      change Hid (∀ w : World, Calls Tryd.prog 29 #[.agg #[.int .i64 p.1, .int .i64 p.2]] w fun e w' => e = .returned (.bool (!flB p)) ∧ Below w.heap.size w w') at c1
      generalize flB p = b' at *
      cases b'
      · have E := Lib.hid (HNk.out rfl)
        go_wp2_with fail
        refine (c1.out _).mono ?_
        rintro e w1 ⟨rfl, hb⟩
        have hB := hbr.trans (hb.mono hbr.size)
        clear hb
        go_wp2_with fail
        go_ret
        exact ⟨_, rfl, by rw [E.out, if_neg (by simp)]; omega, hB⟩
      · go_wp2_with fail
        refine (c1.out _).mono ?_
        rintro e w1 ⟨rfl, hb⟩
        have hB := hbr.trans (hb.mono hbr.size)
        clear hb q0 q1
        go_wp2_with fail
        go_roundw
        case rel => exact ⟨k + 1, by omega, by go_num, hok, hB⟩
        case measure => simp [intOf]; omega
    · obtain rfl : k = n := by omega
      have E : Hid (b = true) := Lib.hid (HB.out.symm.trans (by have h := ho.out; rwa [List.take_of_length_le (by rw [Hn.out]; exact Nat.le_refl _)] at h))
      go_wp2_with fail
      go_ret
      exact ⟨_, rfl, by rw [E.out, if_pos rfl], hbr⟩

set_option maxHeartbeats 400000 in
theorem anyFlow_any (v : Value) (xs : List (Int × Int)) (w : World) (hl : xs.length ≤ 1000000000000) (hv : SetAt w.heap.size w v xs) :
    Calls Tryd.prog 28 #[v, .func (Fn.func 29) #[] #[]] w fun e w' => e = .returned (.bool (!flsB xs)) ∧ Below w.heap.size w w' := by
  have c1 := Lib.hid (indexFlow_any v xs w hl hv)
  clear hv
  generalize flsB xs = b at *
  go_enter Tryd.func28, Tryd.ntmps28
  go_wp2_with fail
  refine c1.out.mono ?_
  rintro e w1 ⟨i, rfl, hi, hb⟩
  cases b
  · obtain ⟨h1, h2⟩ : 0 ≤ i ∧ i ≤ 9000000000000000000 := by simpa using hi
    clear hi
    go_wp2_with fail
    go_ret
    exact ⟨by simp [*], hb⟩
  · obtain rfl : i = -1 := by simpa using hi
    go_wp2_with fail
    go_ret
    exact ⟨by simp, hb⟩

/-- the error of flows with no frozen pipes -/
def flE (pump : Int) (ps : List Pp) (fl : List (Int × Int)) : Int := if netE pump ps ≠ 0 then netE pump ps else if fl.length ≠ ps.length then 4 else if flsB fl then 0 else 2
theorem flE_ok {pump : Int} {ps : List Pp} {fl : List (Int × Int)} (h : flE pump ps fl = 0) : netOk pump ps ∧ fl.length = ps.length ∧ ∀ i, i < fl.length → flB (fl.getD i (0, 0)) = true := by
  unfold flE at h
  by_cases h1 : netE pump ps = 0
  · rw [if_neg (by simpa using h1)] at h
    by_cases h2 : fl.length = ps.length
    · rw [if_neg (by simpa using h2)] at h
      cases h3 : flsB fl with
      | false => rw [h3] at h; simp at h
      | true =>
        refine ⟨?_, h2, fun i hi => flsB_at h3 hi⟩
        cases h4 : netB pump ps with
        | false => rw [netE_no h4] at h1; cases h1
        | true => exact netB_of h4
    · rw [if_pos (by simpa using h2)] at h; cases h
  · rw [if_pos (by simpa using h1)] at h; exact absurd h h1

set_option maxRecDepth 20000 in
set_option maxHeartbeats 1000000 in
theorem checkFlows_any (pump : Int) (v fv : Value) (ps : List Pp) (fl : List (Int × Int)) (w : World) (hl : fl.length ≤ 1000000000000) (hv : PipesAt w.heap.size w v ps) (hG : Gp w) (hf : SetAt w.heap.size w fv fl) :
    Calls Tryd.prog 16 #[.agg #[.int .i64 pump, v], fv, .slice none 0 0] w fun e w' => e = .returned (.int .i64 (flE pump ps fl)) ∧ Below w.heap.size w w' := by
  have c1 : Hid (∀ W, Below w.heap.size w W → Calls Tryd.prog 14 #[.agg #[.int .i64 pump, v]] W fun e w' => e = .returned (.int .i64 (netE pump ps)) ∧ Below W.heap.size W w') :=
    Lib.hid fun W hb => check_any pump v ps W ((hv.below hb (Nat.le_refl _)).mono hb.size) (hG.below hb (Nat.le_refl _))
  have c2 : Hid (∀ W, Below w.heap.size w W → Calls Tryd.prog 28 #[fv, .func (Fn.func 29) #[] #[]] W fun e w' => e = .returned (.bool (!flsB fl)) ∧ Below W.heap.size W w') :=
    Lib.hid fun W hb => anyFlow_any fv fl W hl ((hf.below hb (Nat.le_refl _)).mono hb.size)
  obtain ⟨A, c, rfl, hc, _⟩ := hv
  obtain ⟨A', c', rfl, _⟩ := hf
  have E : Hid (flE pump ps fl = if netE pump ps ≠ 0 then netE pump ps else if fl.length ≠ ps.length then 4 else if flsB fl then 0 else 2) := Lib.hid rfl
  generalize flE pump ps fl = re at *
  generalize netE pump ps = ne at *
  generalize flsB fl = fb at *
  generalize fl.length = n at *
  generalize ps.length = m at *
  clear hG hl
  by_cases h0 : ne = 0
  · subst h0
    by_cases hnm : n = m
    · subst hnm
      cases fb
      · go_enter Tryd.func16, Tryd.ntmps16
        go_wp2_with fail
        refine (c1.out _ ((Below.refl _ _).alloc (Nat.le_refl _) _)).mono ?_
        rintro e w1 ⟨rfl, hb⟩
        have r0 := cell_next hb (b := w.heap.size) (o := 0) (by simp) (v := some (.int .i64 pump)) (by simp [go_sem])
        have r1 := cell_next hb (b := w.heap.size) (o := 1) (by simp) (v := some (.slice A n c)) (by simp [go_sem])
        have hB := below1 hb
        clear hb
        go_wp2_with fail
        refine (c2.out _ hB).mono ?_
        rintro e w2 ⟨rfl, hb⟩
        replace hB := hB.trans (hb.mono hB.size)
        clear hb r0 r1
        go_wp2_with fail
        go_ret
        exact ⟨ret_int (by rw [E.out]; simp), hB⟩
      · go_enter Tryd.func16, Tryd.ntmps16
        go_wp2_with fail
        refine (c1.out _ ((Below.refl _ _).alloc (Nat.le_refl _) _)).mono ?_
        rintro e w1 ⟨rfl, hb⟩
        have r0 := cell_next hb (b := w.heap.size) (o := 0) (by simp) (v := some (.int .i64 pump)) (by simp [go_sem])
        have r1 := cell_next hb (b := w.heap.size) (o := 1) (by simp) (v := some (.slice A n c)) (by simp [go_sem])
        have hB := below1 hb
        clear hb
        go_wp2_with fail
        refine (c2.out _ hB).mono ?_
        rintro e w2 ⟨rfl, hb⟩
        replace hB := hB.trans (hb.mono hB.size)
        clear hb r0 r1
        go_wp2_with fail
        go_loopw [25] (fun i wr => i = .int .i64 0 ∧ Below w.heap.size w wr) (fun _ _ => 0)
        case atStart => exact ⟨rfl, hB⟩
        case round =>
          obtain ⟨rfl, hB⟩ := hrel
          go_wp2_with fail
          go_ret
          exact ⟨ret_int (by rw [E.out]; simp), hB⟩
    · have hne : ((n : Int) != (m : Int)) = true := by simp; omega
      have HN := Lib.hid hnm
      clear hnm
      go_enter Tryd.func16, Tryd.ntmps16
      go_wp2_with fail
      refine (c1.out _ ((Below.refl _ _).alloc (Nat.le_refl _) _)).mono ?_
      rintro e w1 ⟨rfl, hb⟩
      have r0 := cell_next hb (b := w.heap.size) (o := 0) (by simp) (v := some (.int .i64 pump)) (by simp [go_sem])
      have r1 := cell_next hb (b := w.heap.size) (o := 1) (by simp) (v := some (.slice A m c)) (by simp [go_sem])
      have hB := below1 hb
      clear hb
      go_wp2_with fail
      go_ret
      exact ⟨ret_int (by rw [E.out, if_neg (by simp), if_pos HN.out]), hB⟩
  · have hre : (ne != 0) = true := by simpa using h0
    have H0 := Lib.hid h0
    clear h0
    go_enter Tryd.func16, Tryd.ntmps16
    go_wp2_with fail
    refine (c1.out _ ((Below.refl _ _).alloc (Nat.le_refl _) _)).mono ?_
    rintro e w1 ⟨rfl, hb⟩
    have hB := below1 hb
    clear hb
    go_wp2_with fail
    go_ret
    exact ⟨ret_int (by rw [E.out, if_pos H0.out]), hB⟩
end Go.Proofs.YtpphchbokphkdaaDoor
