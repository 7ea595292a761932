/- Contracts: U24, U25, U41, U42, L0, L1, joined. -/
import Derived.Test.YtfdaiififoomoaaJB21
import Derived.Test.YtfdaiififoomoaaJB9
import Derived.Test.YtfdaiififoomoaaJB6
import Derived.Test.YtfdaiififoomoaaRows
import Derived.WalkKit
import Derived.ProofKit
import Derived.OpenShut
import Derived.Below
import Derived.ChangeSame
import Derived.Lib.SmallJoins
namespace Go.Proofs.Ytfdaiififoomoaa
open Go.RowKit Go.Lib Go.Shelf
set_option linter.unusedVariables false
set_option linter.unusedSimpArgs false
attribute [local go_sem ↓] Go.wp_at_zero Go.wp_at_succ

def kRows : List (Int × Int) := [(0, 10), (100, 50), (200, 300)]
structure Fx (c tk : Nat) (vb : Nat → Nat) (base : Nat) : Prop where
  cb : c < base
  tb : tk < base
  c0 : c < vb 0
  v0 : vb 0 < base
  c1 : c < vb 1
  v1 : vb 1 < base
  ct : c < tk
  t0 : vb 0 ≠ tk
  t1 : vb 1 ≠ tk
  ne : vb 0 ≠ vb 1
def St (c tk cap : Nat) (vb : Nat → Nat) (base : Nat) (T p1 p2 d1 d2 fl fh : Int) (xs ys : List Lo) (W : World) : Prop :=
  ∃ gv v0 v1, CelAt W c tk vb ⟨gv, 1000, 1, 2, T, p1, p2, d1, d2, 0, 0, 2, cap⟩ ∧ TankAt base W (vb 0) 1000 fl fh v0 xs ∧ TankAt base W (vb 1) 500 fl fh v1 ys ∧ SetAt c W gv kRows ∧ (∀ g, v0.ownBlock = some g → v1.ownBlock ≠ some g) ∧ base ≤ W.heap.size
theorem St.below {c tk cap base : Nat} {vb : Nat → Nat} {T p1 p2 d1 d2 fl fh : Int} {xs ys : List Lo} {W W' : World} (h : St c tk cap vb base T p1 p2 d1 d2 fl fh xs ys W) (hb : Below W.heap.size W W') : St c tk cap vb base T p1 p2 d1 d2 fl fh xs ys W' := by
  obtain ⟨gv, v0, v1, h1, h2, h3, h4, h5, h6⟩ := h
  have := h1.nc
  exact ⟨gv, v0, v1, h1.below hb, h2.below hb, h3.below hb, h4.below hb (by omega), h5, Nat.le_trans h6 hb.size⟩

theorem pour_st {c tk cap base : Nat} {vb : Nat → Nat} {T p1 p2 d1 d2 fl fh : Int} {xs ys : List Lo} {W : World} (F : Fx c tk vb base) (h : St c tk cap vb base T p1 p2 d1 d2 fl fh xs ys W) (l : Lo) (hT : l.t = T) (hx : ∀ x ∈ xs, loB x ∧ x.t ≤ l.t) (hl : xs.length + 1 ≤ 40) (hlot : lotB l = true) (hm : (lotSum xs).1 + (lotSum xs).2 + (l.a + l.s) ≤ 1000)
    (hp0 : spB p1 p2 = true) (hp1 : spB (p1 + l.a) (p2 + l.s) = true) :
    Calls Try.prog 8 #[.pointer (some ⟨c, 0, none⟩), .int .i64 0, .agg #[.int .i64 l.a, .int .i64 l.s], .agg #[.int .i64 l.lo, .int .i64 l.hi]] W fun e W' => e = .returned (.int .i64 0) ∧ St c tk cap vb base T (p1 + l.a) (p2 + l.s) d1 d2 fl fh (xs ++ [raise fl fh l]) ys W' ∧ Below c W W' := by
  obtain ⟨gv, v0, v1, h1, h2, h3, h4, h5, h6⟩ := h
  obtain ⟨f1, f2, f3, f4, f5, f6, f7, f8, f9, f10⟩ := F
  refine (pour_ok c base c tk 0 vb _ 1000 fl fh v0 xs l W hT (show (0:Nat) < 2 by decide) (show (2:Nat) ≤ 1000 by decide) (by omega) (by omega) (by omega) f1 f2 f4 h6 (by omega) (by omega) (fun e => f8 e.symm) h1 h2.1 h2.2 hx hl hlot hm hp0 hp1).mono ?_
  rintro e W' ⟨rfl, v', hC, hV, hO, hob, hb, hk⟩
  have ho1 : ∀ g, v1.ownBlock = some g → base ≤ g ∧ g < W.heap.size := World.ownsRow.lt h3.2
  have ho0 : ∀ g, v0.ownBlock = some g → base ≤ g ∧ g < W.heap.size := World.ownsRow.lt h2.2
  refine ⟨rfl, ⟨gv, v', v1, hC, ⟨hV, hO⟩, h3.kept hk ?_ ?_, h4.below hb (Nat.le_refl _), ?_, Nat.le_trans h6 hb.size⟩, hb⟩
  · rintro (h | h | h)
    · omega
    · omega
    · have := (ho0 _ h).1; omega
  · rintro g hg (h | h | h)
    · have := (ho1 _ hg).1; omega
    · have := (ho1 _ hg).1; omega
    · exact h5 g h hg
  · intro g hg hg1
    rcases hob with h | ⟨g', h, hge⟩
    · exact h5 g (h ▸ hg) hg1
    · rw [hg] at h
      injection h with h
      have := (ho1 _ hg1).2
      omega

theorem stay_st {c tk cap base : Nat} {vb : Nat → Nat} {T p1 p2 d1 d2 fl fh : Int} {xs ys : List Lo} {W : World} (F : Fx c tk vb base) (h : St c tk cap vb base T p1 p2 d1 d2 fl fh xs ys W) (n a b gl gh : Int) (hx : xs.length ≤ 40 ∧ ∀ x ∈ xs, ldB x) (hy : ys.length ≤ 40 ∧ ∀ x ∈ ys, ldB x)
    (hf : (0 ≤ fl ∧ fl ≤ 1000000) ∧ 0 ≤ fh ∧ fh ≤ 1000000) (hT : 0 ≤ T ∧ T ≤ 1000000) (hn : 0 ≤ n ∧ n ≤ 1000000 - T) (hg : (0 ≤ gl ∧ gl ≤ 1000000000) ∧ 0 ≤ gh ∧ gh ≤ 1000000000) (hE : vlE kRows a b = 0) (hR : vlR kRows a b = (gl, gh)) :
    Calls Try.prog 12 #[.pointer (some ⟨c, 0, none⟩), .int .i64 n, .agg #[.int .i64 a, .int .i64 b]] W fun e W' => e = .returned (.int .i64 0) ∧ St c tk cap vb base (T + n) p1 p2 d1 d2 (min 1000000 (fl + n * 1)) (min 1000000 (fh + n * 2)) (xs.map (growL n gl gh)) (ys.map (growL n gl gh)) W' ∧ Below c W W' := by
  obtain ⟨gv, v0, v1, h1, h2, h3, h4, h5, h6⟩ := h
  obtain ⟨f1, f2, f3, f4, f5, f6, f7, f8, f9, f10⟩ := F
  have ho1 : ∀ g, v1.ownBlock = some g → base ≤ g ∧ g < W.heap.size := World.ownsRow.lt h3.2
  have ho0 : ∀ g, v0.ownBlock = some g → base ≤ g ∧ g < W.heap.size := World.ownsRow.lt h2.2
  have two : ∀ (P : Nat → Prop), P 0 → P 1 → ∀ i, i < 2 → P i := fun P p0 p1 i hi => by
    rcases i with _ | _ | i
    · exact p0
    · exact p1
    · omega
  refine (stay_ok c base c tk vb ⟨gv, 1000, 1, 2, T, p1, p2, d1, d2, 0, 0, 2, cap⟩ (fun i => if i = 0 then v0 else v1) (fun i => if i = 0 then 1000 else 500) (fun _ => fl) (fun _ => fh) (fun i => if i = 0 then xs else ys) n a b gl gh W (show (2:Nat) ≤ 1000 by decide) (Nat.le_refl _) (by omega) (two _ (by omega) (by omega)) f1 f2 h6 (by omega)
    ⟨two _ f4 f6, ?_, two _ (by omega) (by omega), two _ f8 f9, ?_⟩ h1 (two _ h2 h3) (two _ hx hy) (two _ hf hf) (show ((0:Int) ≤ 1 ∧ (1:Int) ≤ 1000000) ∧ (0:Int) ≤ 2 ∧ (2:Int) ≤ 1000000 by decide) hT hn hg ?_).mono ?_
  · intro i j hi hj e
    rcases i with _ | _ | i <;> rcases j with _ | _ | j <;> first | rfl | (exfalso; exact f10 e) | (exfalso; exact f10 e.symm) | (exfalso; dsimp only at hi hj; omega)
  · intro i j hi hj hij g hg
    rcases i with _ | _ | i <;> rcases j with _ | _ | j <;> first | (exfalso; exact hij rfl) | exact h5 g hg | exact (fun h => h5 g h hg) | (exfalso; dsimp only at hi hj; omega)
  · intro W1 hb1
    have hc := h1.nc
    refine (values_any gv kRows a b W1 ((h4.below hb1 (by omega)).mono (Nat.le_trans (by omega) hb1.size))).mono ?_
    rintro e W2 ⟨rfl, hb⟩
    rw [hE, hR]
    exact ⟨rfl, hb⟩
  · rintro e W' ⟨rfl, hC, hV, hb, hk⟩
    have t0 := hV 0 (show (0:Nat) < 2 by decide)
    have t1 := hV 1 (show (1:Nat) < 2 by decide)
    exact ⟨rfl, ⟨gv, v0, v1, hC, t0, t1, h4.below hb (Nat.le_refl _), h5, Nat.le_trans h6 hb.size⟩, hb⟩

theorem draw_st {c tk cap base : Nat} {vb : Nat → Nat} {T p1 p2 d1 d2 fl fh : Int} {xs ys : List Lo} {W : World} (F : Fx c tk vb base) (h : St c tk cap vb base T p1 p2 d1 d2 fl fh xs ys W) (M : Int) (hx : ∀ x ∈ xs, loB x ∧ 0 ≤ x.t ∧ x.t ≤ 1000000) (hl : xs.length ≤ 40) (hT : 0 ≤ T ∧ T ≤ 1000000) (hM1 : 1 ≤ M) (hM2 : M ≤ (lotSum xs).1 + (lotSum xs).2) (hd0 : smB (d1, d2)) :
    Calls Try.prog 20 #[.pointer (some ⟨c, 0, none⟩), .int .i64 0, .int .i64 M] W fun e W' =>
      e = .returned (.tuple #[.agg #[.int .i64 (lotSum (drawL xs M).2.1).1, .int .i64 (lotSum (drawL xs M).2.1).2, .int .i64 (huL ((drawL xs M).2.1.map gm)), .int .i64 (huH ((drawL xs M).2.1.map gm)), .int .i64 (huL ((drawL xs M).2.1.map (ag T))), .int .i64 (huH ((drawL xs M).2.1.map (ag T)))], .int .i64 0]) ∧
      St c tk cap vb base T p1 p2 (d1 + (lotSum (drawL xs M).2.1).1) (d2 + (lotSum (drawL xs M).2.1).2) fl fh (drawL xs M).2.2 ys W' ∧ Below c W W' := by
  obtain ⟨gv, v0, v1, h1, h2, h3, h4, h5, h6⟩ := h
  obtain ⟨f1, f2, f3, f4, f5, f6, f7, f8, f9, f10⟩ := F
  refine (cdraw_ok c base c tk 0 vb _ 1000 fl fh M v0 xs W (show (0:Nat) < 2 by decide) (show (2:Nat) ≤ 1000 by decide) (by omega) (by omega) (by omega) f1 f2 f4 h6 (by omega) (by omega) (fun e => f8 e.symm) h1 h2.1 h2.2 hx hl hT hM1 hM2 hd0).mono ?_
  rintro e W' ⟨rfl, v', hC, hV, hO, hob, hb, hk⟩
  have ho1 : ∀ g, v1.ownBlock = some g → base ≤ g ∧ g < W.heap.size := World.ownsRow.lt h3.2
  refine ⟨rfl, ⟨gv, v', v1, hC, ⟨hV, hO⟩, h3.kept hk ?_ ?_, h4.below hb (Nat.le_refl _), ?_, Nat.le_trans h6 hb.size⟩, hb⟩
  · rintro (h | h)
    · omega
    · omega
  · rintro g hg (h | h)
    · have := (ho1 _ hg).1; omega
    · have := (ho1 _ hg).1; omega
  · intro g hg hg1
    have := hob g hg
    have := (ho1 _ hg1).2
    omega

theorem move_st {c tk cap base : Nat} {vb : Nat → Nat} {T p1 p2 d1 d2 fl fh : Int} {xs ys : List Lo} {W W2 : World} (F : Fx c tk vb base) (h : St c tk cap vb base T p1 p2 d1 d2 fl fh xs ys W) (hb2 : Below W.heap.size W W2) (M : Int) (hx : ∀ x ∈ xs, loB x) (hy : ∀ x ∈ ys, loB x) (hl : xs.length ≤ 40)
    (hM1 : 1 ≤ M) (hM2 : M ≤ (lotSum xs).1 + (lotSum xs).2) (hr1 : ys.length + (drawL xs M).2.1.length ≤ 40) (hr2 : (lotSum ys).1 + (lotSum ys).2 + ((lotSum (drawL xs M).2.1).1 + (lotSum (drawL xs M).2.1).2) ≤ 500)
    (ht1 : ∀ x ∈ ys, ∀ y ∈ (drawL xs M).2.1, x.t ≤ y.t) (ht2 : (drawL xs M).2.1.Pairwise fun x y => x.t ≤ y.t) :
    Calls Try.prog 21 #[.pointer (some ⟨c, 0, none⟩), .int .i64 0, .int .i64 1, .int .i64 M] W2 fun e W' => e = .returned (.int .i64 0) ∧ St c tk cap vb base T p1 p2 d1 d2 fl fh (drawL xs M).2.2 (ys ++ (drawL xs M).2.1.map (raise fl fh)) W' ∧ Below c W2 W' ∧ Kept (fun i => i < W.heap.size) W2 W' := by
  obtain ⟨gv, v0, v1, h1, h2, h3, h4, h5, h6⟩ := h
  have ho1 : ∀ g, v1.ownBlock = some g → base ≤ g ∧ g < W.heap.size := World.ownsRow.lt h3.2
  have hc := h1.nc
  replace h1 := h1.below hb2
  replace h2 := h2.below hb2
  replace h3 := h3.below hb2
  replace h4 := h4.below hb2 (by omega)
  have h6' := Nat.le_trans h6 hb2.size
  obtain ⟨f1, f2, f3, f4, f5, f6, f7, f8, f9, f10⟩ := F
  refine (move_ok c base c tk 0 1 vb _ 1000 fl fh 500 fl fh M v0 v1 xs ys W2 (show (0:Nat) < 2 by decide) (show (1:Nat) < 2 by decide) (by decide) (show (2:Nat) ≤ 1000 by decide) (by omega) (by omega) (by omega) f1 f2 f4 f6 h6' (by omega) (by omega) (fun e => f8 e.symm) (fun e => f9 e.symm) f10 h1 h2.1 h3.1 h2.2 h3.2 hx hy hl hM1 hM2 hr1 hr2 ht1 ht2).mono ?_
  rintro e W' ⟨rfl, v2, v', hC, hV, hO, hV', hO', hob, hob', hap, hb, hk⟩
  exact ⟨rfl, ⟨gv, v2, v', hC, ⟨hV, hO⟩, ⟨hV', hO'⟩, h4.below hb (Nat.le_refl _), hap, Nat.le_trans h6' hb.size⟩, hb, hk.mono fun i hi => by
    rcases hi with h | h | h
    · omega
    · omega
    · exact (ho1 _ h).2⟩

theorem tell_st {c tk cap base : Nat} {vb : Nat → Nat} {T p1 p2 d1 d2 fl fh : Int} {xs ys : List Lo} {W : World} (h : St c tk cap vb base T p1 p2 d1 d2 fl fh xs ys W) (hx : ∀ x ∈ ys, loB x ∧ 0 ≤ x.t ∧ x.t ≤ 1000000) (hl : ys.length ≤ 40) (hT : 0 ≤ T ∧ T ≤ 1000000) :
    Calls Try.prog 13 #[.pointer (some ⟨c, 0, none⟩), .int .i64 1] W fun e w' =>
      e = .returned (.tuple #[.agg #[.int .i64 (lotSum ys).1, .int .i64 (lotSum ys).2, .int .i64 (ys.length : Int), .int .i64 (huL (ys.map gm)), .int .i64 (huH (ys.map gm)), .int .i64 (huL (ys.map (ag T))), .int .i64 (huH (ys.map (ag T))), .int .i64 fl, .int .i64 fh, .int .i64 (cntL (fun l => decide (1000 ≤ l.hi)) ys), .int .i64 (cntL (fun l => decide (1000 ≤ l.lo)) ys)], .int .i64 0]) ∧ Below W.heap.size W w' := by
  obtain ⟨gv, v0, v1, h1, h2, h3, h4, h5, h6⟩ := h
  exact tell_ok base c tk 1 vb _ 500 fl fh v1 ys W (show (1:Nat) < 2 by decide) (show (2:Nat) ≤ 1000 by decide) h1 h3.1 h3.2 hx hl hT

theorem new_st (v : Value) (v2 : Value) (w : World) (hv : SetAt w.heap.size w v kRows) (hv2 : NsAt w.heap.size w v2 [1000, 500]) :
    Calls Try.prog 6 #[.agg #[v, .int .i64 1000, .int .i64 1, .int .i64 2], v2] w fun e w' => ∃ c tk cap vb base, e = .returned (.tuple #[.pointer (some ⟨c, 0, none⟩), .int .i64 0]) ∧ Fx c tk vb base ∧ w.heap.size ≤ c ∧ St c tk cap vb base 0 0 0 0 0 0 0 [] [] w' ∧ Below w.heap.size w w' := by
  refine (new_ok v kRows 1000 1 2 v2 [1000, 500] w (by decide) hv (by decide) (by decide) (by decide) (by decide) hv2 (by decide) (by decide) (by decide)).mono ?_
  rintro e w' ⟨c, tk, cap, vb, gv, rfl, hwc, hct, htk, hC, hS, hV, hb, hi, hB⟩
  have b0 := hb 0 (by decide)
  have b1 := hb 1 (by decide)
  have hne : vb 0 ≠ vb 1 := fun e => by have := hi 0 1 (by decide) (by decide) e; omega
  have hc := hC.nc
  refine ⟨c, tk, cap, vb, w'.heap.size, rfl, ⟨hc, htk, b0.1, b0.2.1, b1.1, b1.2.1, hct, b0.2.2, b1.2.2, hne⟩, hwc, ⟨gv, _, _, hC, ⟨hV 0 1000 rfl, OwnL.nil _ _⟩, ⟨hV 1 500 rfl, OwnL.nil _ _⟩, hS, (fun g h => by cases h), Nat.le_refl _⟩, hB⟩

open Go.RowKit Go.Lib Go.Shelf
set_option linter.unusedVariables false
set_option linter.unusedSimpArgs false
attribute [local go_sem ↓] Go.wp_at_zero Go.wp_at_succ

set_option maxHeartbeats 1000000 in
theorem rules_any (w : World) : Calls Try.prog 7 #[] w fun e w' => ∃ v, e = .returned (.agg #[v, .int .i64 1000, .int .i64 1, .int .i64 2]) ∧ SetAt w'.heap.size w' v kRows ∧ Below w.heap.size w w' := by
  go_enter Try.func7, Try.ntmps7
  go_wp2_with fail
  refine bodyPost_ret (v := .agg #[.slice (some ⟨w.heap.size + 1, 0, none⟩) 3 3, .int .i64 1000, .int .i64 1, .int .i64 2]) (by simp [results, Try.results7, go_sem]) rfl ⟨_, rfl, ⟨_, 3, rfl, fun _ => ⟨w.heap.size + 1, 0, rfl, by simp, ?_⟩⟩, below_al2 w _ _⟩
  intro k p hp
  rcases k with _ | _ | _ | k
  all_goals simp [kRows] at hp
  all_goals (subst hp; simp [go_sem])

def l1 : Lo := ⟨490, 10, 100, 200, 0⟩
def l2 : Lo := ⟨490, 10, 360, 540, 0⟩
def l3 : Lo := ⟨294, 6, 0, 15, 10⟩
def l4 : Lo := ⟨294, 6, 10, 20, 10⟩
def l5 : Lo := ⟨196, 4, 10, 20, 10⟩
def l6 : Lo := ⟨98, 2, 10, 20, 10⟩
theorem k_raise1 : raise 0 0 l1 = l1 := by kernel_rfl
theorem k_grow : [l1].map (growL 10 26 34) = [l2] := by kernel_rfl
theorem k_raise3 : raise 10 20 l3 = l4 := by kernel_rfl
theorem k_draw : drawL [l2, l4] 600 = (0, [l2, l6], [l5]) := by kernel_rfl
theorem k_draw2 : drawL [l5] 100 = (0, [l6], [l6]) := by kernel_rfl
theorem k_raise6 : [l6].map (raise 10 20) = [l6] := by kernel_rfl
theorem k_vE : vlE kRows 40 60 = 0 := by kernel_rfl
theorem k_vR : vlR kRows 40 60 = (26, 34) := by
  have ht := tabOk_of (show tabE kRows = 0 by decide)
  have h1 : valV kRows 40 = (26, 26) := valV_is ht ⟨0, (0, 10), (100, 50), rfl, rfl, by decide, by decide, by kernel_rfl⟩
  have h2 : valV kRows 60 = (34, 34) := valV_is ht ⟨0, (0, 10), (100, 50), rfl, rfl, by decide, by decide, by kernel_rfl⟩
  unfold vlR valsV vs0
  rw [k_vE, if_pos rfl, h1, h2]
  simp [kRows, vsJ]
  omega
theorem k_hu1 : huL ([l2, l6].map gm) = 10 ∧ huH ([l2, l6].map gm) = 540 ∧ huL ([l2, l6].map (ag 10)) = 0 ∧ huH ([l2, l6].map (ag 10)) = 10 := ⟨by kernel_rfl, by kernel_rfl, by kernel_rfl, by kernel_rfl⟩
theorem k_sum : lotSum [l2, l6] = (588, 12) := by kernel_rfl
theorem k_sum6 : lotSum [l6] = (98, 2) := by kernel_rfl
theorem k_rk : rk 5000 200 (900, 100) 1 = (450, 99) := by kernel_rfl

theorem k_sq (w : World) : Calls Try.prog 22 #[.agg #[.int .i64 900, .int .i64 100], .int .i64 5000, .int .i64 200] w fun e w' => e = .returned (.tuple #[.agg #[.int .i64 450, .int .i64 99], .agg #[.int .i64 450, .int .i64 1], .int .i64 0]) ∧ Below w.heap.size w w' := by
  have h := squeeze_ok 900 100 5000 200 (by decide) (by decide) (by decide) (by decide) w
  rw [k_rk] at h
  exact h
theorem k_t6 : ([l6].length : Int) = 1 ∧ huL ([l6].map gm) = 10 ∧ huH ([l6].map gm) = 20 ∧ huL ([l6].map (ag 10)) = 0 ∧ huH ([l6].map (ag 10)) = 0 ∧ cntL (fun l => decide (1000 ≤ l.hi)) [l6] = 0 ∧ cntL (fun l => decide (1000 ≤ l.lo)) [l6] = 0 := ⟨by kernel_rfl, by kernel_rfl, by kernel_rfl, by kernel_rfl, by kernel_rfl, by kernel_rfl, by kernel_rfl⟩

set_option maxRecDepth 20000 in
set_option maxHeartbeats 4000000 in
theorem known_any (w : World) : Calls Try.prog 5 #[] w fun e w' => e = .returned (.bool true) ∧ Below w.heap.size w w' := by
  go_enter Try.func5, Try.ntmps5
  go_wp2_with fail
  refine (rules_any _).mono ?_
  rintro e w1 ⟨v, rfl, hv, hB⟩
  have HV := Lib.hid hv
  clear hv
  go_wp2_with fail
  refine (new_st v _ _ ((HV.out.below ((Below.refl _ _).alloc (Nat.le_refl _) _) (Nat.le_refl _)).mono (by simp)) ((ns_two (by simp [go_sem]) (by simp [go_sem])).mono (by simp))).mono ?_
  rintro e w2 ⟨c, tk, cap, vb, base, rfl, F, hwc, hS, hb⟩
  have hwc' : w.heap.size ≤ c := by have := hB.size; simp at hwc; omega
  replace hB := hB.trans ((below1 hb).mono hB.size)
  have HS := Lib.hid hS
  have HF := Lib.hid F
  clear hb hS F HV hwc
  go_wp2_with fail
  refine (pour_st HF.out HS.out l1 rfl (by simp) (by decide) (by decide) (by decide) (by decide) (by decide)).mono ?_
  rintro e w3 ⟨rfl, hS, hb⟩
  rw [k_raise1] at hS
  replace HS : Hid (St c tk cap vb base 0 490 10 0 0 0 0 [l1] [] w3) := Lib.hid hS
  replace hB := hB.trans (hb.mono hwc')
  clear hS hb
  go_wp2_with fail
  refine (stay_st HF.out HS.out 10 40 60 26 34 (by simp [l1, ldB]) (by simp [ldB]) (by decide) (by decide) (by decide) (by decide) k_vE k_vR).mono ?_
  rintro e w4 ⟨rfl, hS, hb⟩
  rw [k_grow] at hS
  replace HS : Hid (St c tk cap vb base 10 490 10 0 0 10 20 [l2] [] w4) := Lib.hid hS
  replace hB := hB.trans (hb.mono hwc')
  clear hS hb
  go_wp2_with fail
  refine (pour_st HF.out HS.out l3 rfl (by simp [l2, l3, loB]) (by decide) (by decide) (by decide) (by decide) (by decide)).mono ?_
  rintro e w5 ⟨rfl, hS, hb⟩
  rw [k_raise3] at hS
  replace HS : Hid (St c tk cap vb base 10 784 16 0 0 10 20 [l2, l4] [] w5) := Lib.hid hS
  replace hB := hB.trans (hb.mono hwc')
  clear hS hb
  have hD := draw_st HF.out HS.out 600 (by simp [l2, l4, loB]) (by decide) (by decide) (by decide) (by decide) (by simp [smB])
  rw [k_draw] at hD
  dsimp only at hD
  rw [k_sum, k_hu1.1, k_hu1.2.1, k_hu1.2.2.1, k_hu1.2.2.2] at hD
  have HD := Lib.hid hD
  clear hD HS
  go_wp2_with fail
  refine HD.out.mono ?_
  rintro e w6 ⟨rfl, hS, hb⟩
  replace hB := hB.trans (hb.mono hwc')
  have HS : Hid (St c tk cap vb base 10 784 16 588 12 10 20 [l5] [] w6) := Lib.hid hS
  clear hS hb HD
  go_wp2_with fail
  have hM : ∀ W2, Below w6.heap.size w6 W2 → _ := fun W2 hb2 => move_st (W2 := W2) HF.out HS.out hb2 100 (by simp [l5, loB]) (by simp) (by decide) (by decide) (by decide) (by decide) (by decide) (by simp) (by rw [k_draw2]; simp)
  rw [k_draw2] at hM
  dsimp only at hM
  rw [k_raise6] at hM
  have HM := Lib.hid hM
  clear hM
  refine (HM.out _ ((Below.refl _ _).alloc (Nat.le_refl _) _)).mono ?_
  rintro e w7 ⟨rfl, hS, hb, hk⟩
  have d0 := (hk.cell (p := ⟨w6.heap.size, 0, none⟩) (by simp) (by simp)).trans (cell_new _ _ _ 0)
  have d1 := (hk.cell (p := ⟨w6.heap.size, 1, none⟩) (by simp) (by simp)).trans (cell_new _ _ _ 1)
  have d2 := (hk.cell (p := ⟨w6.heap.size, 2, none⟩) (by simp) (by simp)).trans (cell_new _ _ _ 2)
  have d3 := (hk.cell (p := ⟨w6.heap.size, 3, none⟩) (by simp) (by simp)).trans (cell_new _ _ _ 3)
  have d4 := (hk.cell (p := ⟨w6.heap.size, 4, none⟩) (by simp) (by simp)).trans (cell_new _ _ _ 4)
  have d5 := (hk.cell (p := ⟨w6.heap.size, 5, none⟩) (by simp) (by simp)).trans (cell_new _ _ _ 5)
  have nd : w6.heap.size < w7.heap.size := Nat.lt_of_lt_of_le (by simp) hk.1
  replace hB := (hB.trans (((Below.refl _ _).alloc (Nat.le_refl _) _).mono hB.size)).trans (hb.mono hwc')
  replace HS : Hid (St c tk cap vb base 10 784 16 588 12 10 20 [l6] [l6] w7) := Lib.hid hS
  clear hS hb hk HM
  generalize w6.heap.size = q at *
  have hT := tell_st HS.out (by simp [l6, loB]) (by decide) (by decide)
  rw [k_sum6, k_t6.1, k_t6.2.1, k_t6.2.2.1, k_t6.2.2.2.1, k_t6.2.2.2.2.1, k_t6.2.2.2.2.2.1, k_t6.2.2.2.2.2.2] at hT
  have HT := Lib.hid hT
  clear hT
  go_wp2_with fail
  refine HT.out.mono ?_
  rintro e w8 ⟨rfl, hb⟩
  replace d0 := cell_next hb nd d0
  replace d1 := cell_next hb nd d1
  replace d2 := cell_next hb nd d2
  replace d3 := cell_next hb nd d3
  replace d4 := cell_next hb nd d4
  replace d5 := cell_next hb nd d5
  replace nd := Nat.lt_of_lt_of_le nd hb.size
  replace hB := hB.trans (hb.mono hB.size)
  clear hb HT HS HF
  go_wp2_with fail
  have HQ := Lib.hid k_sq
  refine (HQ.out _).mono ?_
  rintro e w9 ⟨rfl, hb⟩
  have nd1 : q < (w8.heap.size + 1) := by omega
  replace d0 := cell_next (below1 hb) nd d0
  replace d1 := cell_next (below1 hb) nd d1
  replace d2 := cell_next (below1 hb) nd d2
  replace d3 := cell_next (below1 hb) nd d3
  replace d4 := cell_next (below1 hb) nd d4
  replace d5 := cell_next (below1 hb) nd d5
  have t0 := cell_next hb (b := w8.heap.size) (o := 0) (by simp) (cell_new _ _ _ 0)
  have t1 := cell_next hb (b := w8.heap.size) (o := 1) (by simp) (cell_new _ _ _ 1)
  have t7 := cell_next hb (b := w8.heap.size) (o := 7) (by simp) (cell_new _ _ _ 7)
  have t8 := cell_next hb (b := w8.heap.size) (o := 8) (by simp) (cell_new _ _ _ 8)
  have nt : w8.heap.size < w9.heap.size := by have := hb.size; simp at this; omega
  replace nd : q < w9.heap.size := by omega
  replace hB := hB.trans ((below1 hb).mono hB.size)
  clear hb HQ nd1
  generalize w8.heap.size = r at *
  have n1 : q ≠ w9.heap.size := by omega
  have n2 : q ≠ w9.heap.size + 1 := by omega
  have n3 : r ≠ w9.heap.size := by omega
  have n4 : r ≠ w9.heap.size + 1 := by omega
  have n5 : q < w9.heap.size + 1 := by omega
  have n6 : r < w9.heap.size + 1 := by omega
  go_wp2_with fail
  go_ret
  exact ⟨rfl, hB.trans ((below_al2 w9 _ _).mono hB.size)⟩

set_option linter.unusedVariables false
set_option linter.unusedSimpArgs false

theorem kT : TabOk kRows := tabOk_of (by kernel_rfl)
theorem kv_low {x : Int} (h0 : 0 ≤ x) (h1 : x ≤ 100) : valV kRows x = (10 + 40 * x / 100, 10 + -(-(40 * x) / 100)) := by
  rw [valV_is kT ⟨0, (0, 10), (100, 50), rfl, rfl, h0, h1, rfl⟩]
  simp [segV]
theorem kv_high {x : Int} (h0 : 100 ≤ x) (h1 : x ≤ 200) : valV kRows x = (50 + 250 * (x - 100) / 100, 50 + -(-(250 * (x - 100)) / 100)) := by
  rw [valV_is kT ⟨1, (100, 50), (200, 300), rfl, rfl, h0, h1, rfl⟩]
  simp [segV]
theorem kv_bd {x : Int} (h0 : 0 ≤ x) (h1 : x ≤ 200) : 10 ≤ (valV kRows x).1 ∧ (valV kRows x).1 ≤ (valV kRows x).2 ∧ (valV kRows x).2 ≤ 300 := by
  rcases Int.le_total x 100 with h | h
  · rw [kv_low h0 h]; dsimp only; omega
  · rw [kv_high h h1]; dsimp only; omega
theorem kv_mono {x y : Int} (h0 : 0 ≤ x) (h : x ≤ y) (h1 : y ≤ 200) : (valV kRows x).1 ≤ (valV kRows y).1 ∧ (valV kRows x).2 ≤ (valV kRows y).2 := by
  rcases Int.le_total x 100 with hx | hx
  · rw [kv_low h0 hx]
    rcases Int.le_total y 100 with hy | hy
    · rw [kv_low (by omega) hy]; dsimp only; omega
    · rw [kv_high hy h1]; dsimp only; omega
  · rw [kv_high hx (by omega), kv_high (by omega) h1]; dsimp only; omega
theorem k_cov {x : Int} (h0 : 0 ≤ x) (h1 : x ≤ 200) : covB kRows x = true := by
  simp [covB, kRows, h0, h1]
theorem kE_ok {a b : Int} (h0 : 0 ≤ a) (h : a ≤ b) (h1 : b ≤ 200) : vlE kRows a b = 0 := by
  have e1 : tabE kRows = 0 := by kernel_rfl
  have e2 : vrB a b = true := by simp [vrB]; omega
  unfold vlE
  rw [if_pos e1, if_pos e2, if_pos ⟨k_cov h0 (by omega), k_cov (by omega) h1⟩]
theorem kR_is {a b : Int} (h0 : 0 ≤ a) (h : a ≤ b) (h1 : b ≤ 200) : ((vlR kRows a b).1 ≤ (valV kRows a).1 ∧ (valV kRows b).2 ≤ (vlR kRows a b).2) ∧ 0 ≤ (vlR kRows a b).1 ∧ (vlR kRows a b).1 ≤ (vlR kRows a b).2 ∧ (vlR kRows a b).2 ≤ 300 ∧ (b < 100 → (vlR kRows a b).2 ≤ 50) ∧ (100 < a → 50 ≤ (vlR kRows a b).1) := by
  have ha := kv_bd h0 (show a ≤ 200 by omega)
  have hb := kv_bd (show 0 ≤ b by omega) h1
  have hm := kv_mono h0 h h1
  have c1 : b < 100 → (valV kRows b).2 ≤ 50 ∧ (valV kRows a).2 ≤ 50 := fun hc => by
    rw [kv_low (show 0 ≤ b by omega) (by omega), kv_low h0 (by omega)]; dsimp only; omega
  have c2 : 100 < a → 50 ≤ (valV kRows a).1 ∧ 50 ≤ (valV kRows b).1 := fun hc => by
    rw [kv_high (show 100 ≤ a by omega) (by omega), kv_high (by omega) h1]; dsimp only; omega
  unfold vlR
  rw [if_pos (kE_ok h0 h h1)]
  unfold valsV vs0
  generalize (valV kRows a) = A at *
  generalize (valV kRows b) = B at *
  simp only [kRows, List.foldl_cons, List.foldl_nil, vsJ]
  obtain ⟨A1, A2⟩ := A
  obtain ⟨B1, B2⟩ := B
  dsimp only at *
  split <;> split <;> split <;> dsimp only <;> omega
theorem kR_in {a x b : Int} (h0 : 0 ≤ a) (h : a ≤ x) (h2 : x ≤ b) (h1 : b ≤ 200) : (vlR kRows a b).1 ≤ (valV kRows x).1 ∧ (valV kRows x).2 ≤ (vlR kRows a b).2 := by
  have h3 := (kR_is h0 (show a ≤ b by omega) h1).1
  have h4 := kv_mono h0 h (show x ≤ 200 by omega)
  have h5 := kv_mono (show 0 ≤ x by omega) h2 h1
  omega

/-- the temperatures of hours lie in the table -/
def HrB (hs : List (Int × Int)) : Prop := ∀ p ∈ hs, 0 ≤ p.1 ∧ p.1 ≤ p.2 ∧ p.2 ≤ 200
theorem kL_app (hs : List (Int × Int)) (p s : Int × Int) : ∀ k, k ≤ hs.length → kL kRows (hs ++ [p]) s k = kL kRows hs s k
  | 0, _ => rfl
  | k + 1, h => by
    have ih := kL_app hs p s k (by omega)
    unfold kL
    rw [ih]
    simp only [List.getD, List.getElem?_append_left (show k < hs.length by omega)]
theorem kL_snoc (hs : List (Int × Int)) (p s : Int × Int) : kL kRows (hs ++ [p]) s (hs.length + 1) = (min 1000000 ((kL kRows hs s hs.length).1 + 1 * (vlR kRows p.1 p.2).1), min 1000000 ((kL kRows hs s hs.length).2 + 1 * (vlR kRows p.1 p.2).2)) := by
  show (let q := (hs ++ [p]).getD hs.length (0, 0); (min 1000000 ((kL kRows (hs ++ [p]) s hs.length).1 + 1 * (vlR kRows q.1 q.2).1), min 1000000 ((kL kRows (hs ++ [p]) s hs.length).2 + 1 * (vlR kRows q.1 q.2).2))) = _
  rw [kL_app hs p s _ (Nat.le_refl _)]
  simp [List.getD]
theorem fstI_congr {f g : Nat → Bool} : ∀ n, (∀ k, k < n → f k = g k) → fstI f n = fstI g n
  | 0, _ => rfl
  | n + 1, h => by
    rw [fstI_succ, fstI_succ, fstI_congr n fun k hk => h k (by omega), h n (by omega)]
theorem fstI_le' {f g : Nat → Bool} {N : Nat} (h : ∀ k, k < N → f k = true → g k = true) (hf : 0 ≤ fstI f N) : 0 ≤ fstI g N ∧ fstI g N ≤ fstI f N := by
  have e : fstI (fun k => f k && decide (k < N)) N = fstI f N := fstI_congr N fun k hk => by simp [hk]
  have := fstI_le (f := fun k => f k && decide (k < N)) (g := g) (N := N) (fun k hk => by
    simp at hk
    exact h k hk.2 hk.1) (by omega)
  omega

/-- what is true of sap alone -/
def HoursOk (hs : List (Int × Int)) (alone spoils : Int) : Prop :=
  HrB hs ∧ ∃ A : Nat → Int, A hs.length = alone ∧ (∀ k, k ≤ hs.length → (kL kRows hs (0, 0) k).1 ≤ A k ∧ A k ≤ (kL kRows hs (0, 0) k).2 ∧ 0 ≤ A k ∧ A k ≤ 300 * k) ∧ spoils = fstI (fun k => decide (1000 ≤ A (k + 1))) hs.length
theorem hours_start : HoursOk [] 0 (-1) := by
  refine ⟨(fun p h => nomatch h), fun _ => 0, rfl, fun k hk => ?_, rfl⟩
  obtain rfl : k = 0 := by simpa using hk
  simp [kL]
theorem hours_bd {hs : List (Int × Int)} {alone spoils : Int} (h : HoursOk hs alone spoils) : 0 ≤ alone ∧ alone ≤ 300 * hs.length ∧ -1 ≤ spoils ∧ spoils < hs.length := by
  obtain ⟨_, A, rfl, h2, rfl⟩ := h
  have := h2 _ (Nat.le_refl _)
  have := fstI_rng (fun k => decide (1000 ≤ A (k + 1))) hs.length
  omega
theorem hours_step {hs : List (Int × Int)} {alone spoils : Int} (h : HoursOk hs alone spoils) (hl : hs.length < 3000) {p : Int × Int} {g : Int} (hp : 0 ≤ p.1 ∧ p.1 ≤ p.2 ∧ p.2 ≤ 200) (hg : (vlR kRows p.1 p.2).1 ≤ g ∧ g ≤ (vlR kRows p.1 p.2).2) :
    HoursOk (hs ++ [p]) (alone + g) (if 1000 ≤ alone + g ∧ spoils < 0 then (hs.length : Int) else spoils) := by
  obtain ⟨h0, A, h1, h2, h3⟩ := h
  have hR := (kR_is hp.1 hp.2.1 hp.2.2).2
  refine ⟨fun q hq => ?_, fun k => if k ≤ hs.length then A k else alone + g, ?_, ?_, ?_⟩
  · rcases List.mem_append.1 hq with hq | hq
    · exact h0 q hq
    · simp at hq; subst hq; exact hp
  · dsimp only
    rw [if_neg (by simp)]
  · intro k hk
    rcases Nat.lt_or_ge hs.length k with hlt | hge
    · obtain rfl : k = hs.length + 1 := by simp at hk; omega
      rw [kL_snoc]
      have := h2 _ (Nat.le_refl _)
      rw [h1] at this
      dsimp only
      rw [if_neg (by omega)]
      omega
    · rw [kL_app _ _ _ _ hge]
      dsimp only
      rw [if_pos hge]
      exact h2 k hge
  · rw [List.length_append, List.length_cons, List.length_nil, fstI_succ]
    have e : fstI (fun k => decide (1000 ≤ if k + 1 ≤ hs.length then A (k + 1) else alone + g)) hs.length = spoils := by
      rw [h3]
      exact fstI_congr _ fun k hk => by rw [if_pos (by omega)]
    rw [e]
    have hr := fstI_rng (fun k => decide (1000 ≤ A (k + 1))) hs.length
    rw [← h3] at hr
    have e2 : (if hs.length + 1 ≤ hs.length then A (hs.length + 1) else alone + g) = alone + g := if_neg (by omega)
    dsimp only
    simp only [e2]
    by_cases hs0 : 0 ≤ spoils
    · rw [if_pos hs0, if_neg (by omega)]
    · rw [if_neg hs0]
      by_cases h4 : 1000 ≤ alone + g
      · rw [if_pos (by omega), if_pos (by simpa using h4)]
      · rw [if_neg (by omega), if_neg (by simpa using h4)]
        omega
theorem kp_k {hs : List (Int × Int)} {lo hi : Int} (h : HrB hs) (hl : hs.length ≤ 1000) (hb : 0 ≤ lo ∧ lo ≤ hi ∧ hi ≤ 1000000) :
    kpV kRows 1000 1 2 lo hi hs = (fstI (fun k => decide (1000 ≤ (kL kRows hs (lo, hi) (k + 1)).2)) hs.length, fstI (fun k => decide (1000 ≤ (kL kRows hs (lo, hi) (k + 1)).1)) hs.length, 0) := by
  refine kp_ok (by
    have e : ruB kRows 1000 1 2 = true := by kernel_rfl
    rw [e]
    simp [rgB, inB]
    omega) hl fun j hj => ?_
  unfold kE
  have := h (hs.getD j (0, 0)) (by
    rw [List.getD, List.getElem?_eq_getElem hj]
    exact List.getElem_mem _)
  exact kE_ok this.1 this.2.1 this.2.2
theorem hours_end {hs : List (Int × Int)} {alone spoils : Int} (h : HoursOk hs alone spoils) (hl : hs.length ≤ 1000) :
    ∃ po su, kpV kRows 1000 1 2 0 0 hs = (po, su, 0) ∧ (spoils < 0 ∨ (0 ≤ po ∧ po ≤ spoils)) ∧ (su < 0 ∨ (0 ≤ spoils ∧ spoils ≤ su)) := by
  obtain ⟨h0, A, h1, h2, h3⟩ := h
  refine ⟨_, _, kp_k h0 hl (by omega), ?_, ?_⟩
  · by_cases hs0 : 0 ≤ spoils
    · right
      rw [h3] at hs0 ⊢
      refine fstI_le' (fun k hk hf => ?_) hs0
      have := h2 (k + 1) (by omega)
      simp at hf ⊢
      omega
    · left; omega
  · by_cases hs0 : 0 ≤ fstI (fun k => decide (1000 ≤ (kL kRows hs (0, 0) (k + 1)).1)) hs.length
    · right
      rw [h3]
      refine fstI_le' (fun k hk hf => ?_) hs0
      have := h2 (k + 1) (by omega)
      simp at hf ⊢
      omega
    · left; omega

/-- what is true of each lot lies within what is told of it -/
def LotsOk (ls : List Int) (xs : List Lo) (N : Int) : Prop := xs.length = ls.length ∧ ∀ (j : Nat) (x : Lo) (l : Int), xs[j]? = some x → ls[j]? = some l → x.lo ≤ l ∧ l ≤ x.hi ∧ 0 ≤ x.lo ∧ x.hi ≤ N
theorem lots_mem {ls : List Int} {xs : List Lo} {N : Int} (h : LotsOk ls xs N) {x : Lo} (hx : x ∈ xs) : 0 ≤ x.lo ∧ x.lo ≤ x.hi ∧ x.hi ≤ N := by
  obtain ⟨j, hj, rfl⟩ := List.mem_iff_getElem.1 hx
  have hj' : j < ls.length := by rw [← h.1]; exact hj
  have := h.2 j _ ls[j] (List.getElem?_eq_getElem hj) (List.getElem?_eq_getElem hj')
  omega
theorem lots_pour {ls : List Int} {xs : List Lo} {N : Int} (h : LotsOk ls xs N) {l : Lo} {v film fl fh : Int} (h1 : 0 ≤ l.lo ∧ l.lo ≤ v ∧ v ≤ l.hi ∧ l.hi ≤ N) (h2 : 0 ≤ fl ∧ fl ≤ film ∧ film ≤ fh ∧ fh ≤ N) : LotsOk (ls ++ [max film v]) (xs ++ [raise fl fh l]) N := by
  refine ⟨by simp [h.1], fun j x y hx hy => ?_⟩
  rcases Nat.lt_trichotomy j xs.length with c | c | c
  · rw [List.getElem?_append_left c] at hx
    rw [List.getElem?_append_left (by rw [← h.1]; exact c)] at hy
    exact h.2 j x y hx hy
  · subst c
    rw [List.getElem?_append_right (Nat.le_refl _)] at hx
    rw [List.getElem?_append_right (by rw [h.1]; exact Nat.le_refl _)] at hy
    simp [h.1] at hx hy
    subst hx hy
    simp only [raise]
    omega
  · rw [List.getElem?_eq_none (by simp; omega)] at hx
    cases hx
theorem lots_stay {ls : List Int} {xs : List Lo} {N n g gl gh : Int} (h : LotsOk ls xs N) (h0 : 0 ≤ n ∧ 0 ≤ gl ∧ gl ≤ g ∧ g ≤ gh ∧ gh ≤ 300) (hN : N + n * 300 ≤ 1000000) : LotsOk (ls.map fun l => l + n * g) (xs.map (growL n gl gh)) (N + n * 300) := by
  refine ⟨by simp [h.1], fun j x y hx hy => ?_⟩
  rw [List.getElem?_map] at hx hy
  obtain ⟨x0, hx0, rfl⟩ := Option.map_eq_some_iff.1 hx
  obtain ⟨y0, hy0, rfl⟩ := Option.map_eq_some_iff.1 hy
  have := h.2 j x0 y0 hx0 hy0
  have m1 : n * gl ≤ n * g := Int.mul_le_mul_of_nonneg_left (by omega) (by omega)
  have m2 : n * g ≤ n * gh := Int.mul_le_mul_of_nonneg_left (by omega) (by omega)
  have m3 : n * gh ≤ n * 300 := Int.mul_le_mul_of_nonneg_left (by omega) (by omega)
  have m4 : 0 ≤ n * gl := Int.mul_nonneg (by omega) (by omega)
  simp only [growL]
  generalize n * gl = a at *
  generalize n * g = b at *
  generalize n * gh = c at *
  omega
theorem lots_more {ls : List Int} {xs : List Lo} {N M : Int} (h : LotsOk ls xs N) (hm : N ≤ M) : LotsOk ls xs M := ⟨h.1, fun j x y hx hy => by have := h.2 j x y hx hy; omega⟩
/-- how many numbers are at least 1000 -/
def cntI (ls : List Int) : Int := ((ls.filter fun l => decide (1000 ≤ l)).length : Nat)
theorem cntI_snoc (ls : List Int) (l : Int) : cntI (ls ++ [l]) = cntI ls + (if 1000 ≤ l then 1 else 0) := by
  unfold cntI
  rw [List.filter_append, List.length_append]
  by_cases h : 1000 ≤ l <;> simp [h]
theorem cntI_bd (ls : List Int) : 0 ≤ cntI ls ∧ cntI ls ≤ ls.length := ⟨by unfold cntI; omega, by unfold cntI; have := List.length_filter_le (fun l => decide (1000 ≤ l)) ls; omega⟩
theorem lots_count : ∀ (xs : List Lo) (ls : List Int) (N : Int), LotsOk ls xs N → cntL (fun l => decide (1000 ≤ l.lo)) xs ≤ cntI ls ∧ cntI ls ≤ cntL (fun l => decide (1000 ≤ l.hi)) xs
  | [], ls, N, h => by
    obtain rfl : ls = [] := List.eq_nil_of_length_eq_zero (by rw [← h.1]; rfl)
    simp [cntI, cntL]
  | x :: xs, ls, N, h => by
    obtain ⟨l, ls', rfl⟩ : ∃ l ls', ls = l :: ls' := by
      match ls, h.1 with
      | l :: ls', _ => exact ⟨l, ls', rfl⟩
    have h0 := h.2 0 x l rfl rfl
    have ih := lots_count xs ls' N ⟨by have := h.1; simp at this; exact this, fun j y z hy hz => h.2 (j + 1) y z (by simpa using hy) (by simpa using hz)⟩
    unfold cntI cntL at ih ⊢
    simp only [List.filter_cons]
    by_cases c1 : 1000 ≤ x.lo
    · have c2 : 1000 ≤ l := by omega
      have c3 : 1000 ≤ x.hi := by omega
      simp [c1, c2, c3]
      omega
    · by_cases c2 : 1000 ≤ l
      · have c3 : 1000 ≤ x.hi := by omega
        simp [c1, c2, c3]
        omega
      · by_cases c3 : 1000 ≤ x.hi <;> simp [c1, c2, c3] <;> omega
theorem hull_mem : ∀ (ys : List (Int × Int)) (s p : Int × Int), ((ys.foldl hullJ s).1 ≤ s.1 ∧ s.2 ≤ (ys.foldl hullJ s).2) ∧ (p ∈ ys → (ys.foldl hullJ s).1 ≤ p.1 ∧ p.2 ≤ (ys.foldl hullJ s).2)
  | [], s, p => ⟨⟨Int.le_refl _, Int.le_refl _⟩, fun h => by cases h⟩
  | q :: ys, s, p => by
    have h := hull_mem ys (hullJ s q) p
    have e : (hullJ s q).1 ≤ s.1 ∧ s.2 ≤ (hullJ s q).2 ∧ (hullJ s q).1 ≤ q.1 ∧ q.2 ≤ (hullJ s q).2 := by unfold hullJ; dsimp only; omega
    rw [List.foldl_cons]
    refine ⟨by omega, fun hp => ?_⟩
    rcases List.mem_cons.1 hp with rfl | hp
    · omega
    · exact h.2 hp
theorem hull_has {xs : List (Int × Int)} (hc : chkS xs = 0) {p : Int × Int} (hp : p ∈ xs) : huL xs ≤ p.1 ∧ p.2 ≤ huH xs := by
  unfold huL huH
  rw [if_pos hc, if_pos hc]
  match xs, hp with
  | q :: ys, hp =>
    have h := hull_mem ys (q.1, q.2) p
    simp only [hullP]
    rcases List.mem_cons.1 hp with rfl | hp
    · exact h.1
    · exact h.2 hp

open Go.RowKit Go.Lib Go.Shelf
set_option linter.unusedVariables false
set_option linter.unusedSimpArgs false
attribute [local go_sem ↓] Go.wp_at_zero Go.wp_at_succ

structure Fx1 (c tk : Nat) (vb : Nat → Nat) (base : Nat) : Prop where
  cb : c < base
  tb : tk < base
  c0 : c < vb 0
  v0 : vb 0 < base
  ct : c < tk
  t0 : vb 0 ≠ tk
def St1 (sz : Int) (c tk cap : Nat) (vb : Nat → Nat) (base : Nat) (T p1 p2 fl fh : Int) (gv V0 : Value) (xs : List Lo) (W : World) : Prop :=
  CelAt W c tk vb ⟨gv, 1000, 1, 2, T, p1, p2, 0, 0, 0, 0, 1, cap⟩ ∧ TankAt base W (vb 0) sz fl fh V0 xs ∧ SetAt c W gv kRows ∧ base ≤ W.heap.size
theorem St1.kept {sz : Int} {c tk cap base : Nat} {vb : Nat → Nat} {T p1 p2 fl fh : Int} {gv V0 : Value} {xs : List Lo} {U : Nat → Prop} {W W' : World} (h : St1 sz c tk cap vb base T p1 p2 fl fh gv V0 xs W) (hk : Kept U W W') (hc : ¬ U c) (ht : ¬ U tk) (hv : ¬ U (vb 0)) (hg : ∀ g, V0.ownBlock = some g → ¬ U g) (hl : ∀ i, i < c → ¬ U i) : St1 sz c tk cap vb base T p1 p2 fl fh gv V0 xs W' := by
  obtain ⟨h1, h2, h3, h4⟩ := h
  have hcn := h1.nc
  refine ⟨h1.kept hk hc ht, h2.kept hk hv hg, ?_, Nat.le_trans h4 hk.1⟩
  obtain ⟨A, cc, rfl, h5⟩ := h3
  refine ⟨A, cc, rfl, fun hn => ?_⟩
  obtain ⟨g, off, rfl, hg', hr⟩ := h5 hn
  refine ⟨g, off, rfl, hg', hr.keep fun o => hk.cell (p := ⟨g, o, none⟩) (show g < W.heap.size by omega) (hl g hg')⟩
theorem St1.below {sz : Int} {c tk cap base : Nat} {vb : Nat → Nat} {T p1 p2 fl fh : Int} {gv V0 : Value} {xs : List Lo} {W W' : World} (h : St1 sz c tk cap vb base T p1 p2 fl fh gv V0 xs W) (hb : Below W.heap.size W W') : St1 sz c tk cap vb base T p1 p2 fl fh gv V0 xs W' :=
  h.kept (Kept.of_below' hb fun _ => False) (fun h => h) (fun h => h) (fun h => h) (fun _ _ h => h) (fun _ _ h => h)
/-- the blocks of the cellar that a call may change -/
def Cu (c : Nat) (vb : Nat → Nat) (V0 : Value) (i : Nat) : Prop := i = c ∨ i = vb 0 ∨ V0.ownBlock = some i

theorem pour_st1 {sz : Int} {c tk cap base : Nat} {vb : Nat → Nat} {T p1 p2 fl fh : Int} {gv V0 : Value} {xs : List Lo} {W : World} (F : Fx1 c tk vb base) (h : St1 sz c tk cap vb base T p1 p2 fl fh gv V0 xs W) (l : Lo) (hT : l.t = T) (hx : ∀ x ∈ xs, loB x ∧ x.t ≤ l.t) (hl : xs.length + 1 ≤ 40) (hlot : lotB l = true) (hm : (lotSum xs).1 + (lotSum xs).2 + (l.a + l.s) ≤ sz)
    (hp0 : spB p1 p2 = true) (hp1 : spB (p1 + l.a) (p2 + l.s) = true) :
    Calls Try.prog 8 #[.pointer (some ⟨c, 0, none⟩), .int .i64 0, .agg #[.int .i64 l.a, .int .i64 l.s], .agg #[.int .i64 l.lo, .int .i64 l.hi]] W fun e W' => e = .returned (.int .i64 0) ∧ ∃ V', St1 sz c tk cap vb base T (p1 + l.a) (p2 + l.s) fl fh gv V' (xs ++ [raise fl fh l]) W' ∧ (V'.ownBlock = V0.ownBlock ∨ ∃ g, V'.ownBlock = some g ∧ W.heap.size ≤ g) ∧ Kept (Cu c vb V0) W W' ∧ Below c W W' := by
  obtain ⟨h1, h2, h4, h6⟩ := h
  obtain ⟨f1, f2, f3, f4, f7, f8⟩ := F
  refine (pour_ok c base c tk 0 vb _ sz fl fh V0 xs l W hT (show (0:Nat) < 1 by decide) (show (1:Nat) ≤ 1000 by decide) (by omega) (by omega) (by omega) f1 f2 f4 h6 (by omega) (by omega) (fun e => f8 e.symm) h1 h2.1 h2.2 hx hl hlot hm hp0 hp1).mono ?_
  rintro e W' ⟨rfl, v', hC, hV, hO, hob, hb, hk⟩
  exact ⟨rfl, v', ⟨hC, ⟨hV, hO⟩, h4.below hb (Nat.le_refl _), Nat.le_trans h6 hb.size⟩, hob, hk, hb⟩

theorem stay_st1 {sz : Int} {c tk cap base : Nat} {vb : Nat → Nat} {T p1 p2 fl fh : Int} {gv V0 : Value} {xs : List Lo} {W : World} (F : Fx1 c tk vb base) (h : St1 sz c tk cap vb base T p1 p2 fl fh gv V0 xs W) (n a b gl gh : Int) (hx : xs.length ≤ 40 ∧ ∀ x ∈ xs, ldB x)
    (hf : (0 ≤ fl ∧ fl ≤ 1000000) ∧ 0 ≤ fh ∧ fh ≤ 1000000) (hT : 0 ≤ T ∧ T ≤ 1000000) (hn : 0 ≤ n ∧ n ≤ 1000000 - T) (hg : (0 ≤ gl ∧ gl ≤ 1000000000) ∧ 0 ≤ gh ∧ gh ≤ 1000000000) (hE : vlE kRows a b = 0) (hR : vlR kRows a b = (gl, gh)) :
    Calls Try.prog 12 #[.pointer (some ⟨c, 0, none⟩), .int .i64 n, .agg #[.int .i64 a, .int .i64 b]] W fun e W' => e = .returned (.int .i64 0) ∧ St1 sz c tk cap vb base (T + n) p1 p2 (min 1000000 (fl + n * 1)) (min 1000000 (fh + n * 2)) gv V0 (xs.map (growL n gl gh)) W' ∧ Kept (Cu c vb V0) W W' ∧ Below c W W' := by
  obtain ⟨h1, h2, h4, h6⟩ := h
  obtain ⟨f1, f2, f3, f4, f7, f8⟩ := F
  have one : ∀ (P : Nat → Prop), P 0 → ∀ i, i < 1 → P i := fun P p0 i hi => by
    obtain rfl : i = 0 := by omega
    exact p0
  refine (stay_ok c base c tk vb ⟨gv, 1000, 1, 2, T, p1, p2, 0, 0, 0, 0, 1, cap⟩ (fun _ => V0) (fun _ => sz) (fun _ => fl) (fun _ => fh) (fun _ => xs) n a b gl gh W (show (1:Nat) ≤ 1000 by decide) (Nat.le_refl _) (by omega) (one _ (by omega)) f1 f2 h6 (by omega)
    ⟨one _ f4, ?_, one _ (by omega), one _ f8, ?_⟩ h1 (one _ h2) (one _ hx) (one _ hf) (show ((0:Int) ≤ 1 ∧ (1:Int) ≤ 1000000) ∧ (0:Int) ≤ 2 ∧ (2:Int) ≤ 1000000 by decide) hT hn hg ?_).mono ?_
  · intro i j hi hj e
    dsimp only at hi hj
    omega
  · intro i j hi hj hij g hg
    exfalso
    dsimp only at hi hj
    omega
  · intro W1 hb1
    have hc := h1.nc
    refine (values_any gv kRows a b W1 ((h4.below hb1 (by omega)).mono (Nat.le_trans (by omega) hb1.size))).mono ?_
    rintro e W2 ⟨rfl, hb⟩
    rw [hE, hR]
    exact ⟨rfl, hb⟩
  · rintro e W' ⟨rfl, hC, hV, hb, hk⟩
    have t0 := hV 0 (show (0:Nat) < 1 by decide)
    refine ⟨rfl, ⟨hC, t0, h4.below hb (Nat.le_refl _), Nat.le_trans h6 hb.size⟩, hk.mono fun i hi => ?_, hb⟩
    rcases hi with h | ⟨k, hk', h⟩
    · exact .inl h
    · dsimp only at hk'
      obtain rfl : k = 0 := by omega
      rcases h with h | h
      · exact .inr (.inl h)
      · exact .inr (.inr h)

theorem tell_st1 {sz : Int} {c tk cap base : Nat} {vb : Nat → Nat} {T p1 p2 fl fh : Int} {gv V0 : Value} {xs : List Lo} {W : World} (h : St1 sz c tk cap vb base T p1 p2 fl fh gv V0 xs W) (hx : ∀ x ∈ xs, loB x ∧ 0 ≤ x.t ∧ x.t ≤ 1000000) (hl : xs.length ≤ 40) (hT : 0 ≤ T ∧ T ≤ 1000000) :
    Calls Try.prog 13 #[.pointer (some ⟨c, 0, none⟩), .int .i64 0] W fun e w' =>
      e = .returned (.tuple #[.agg #[.int .i64 (lotSum xs).1, .int .i64 (lotSum xs).2, .int .i64 (xs.length : Int), .int .i64 (huL (xs.map gm)), .int .i64 (huH (xs.map gm)), .int .i64 (huL (xs.map (ag T))), .int .i64 (huH (xs.map (ag T))), .int .i64 fl, .int .i64 fh, .int .i64 (cntL (fun l => decide (1000 ≤ l.hi)) xs), .int .i64 (cntL (fun l => decide (1000 ≤ l.lo)) xs)], .int .i64 0]) ∧ Below W.heap.size W w' := by
  obtain ⟨h1, h2, h4, h6⟩ := h
  exact tell_ok base c tk 0 vb _ sz fl fh V0 xs W (show (0:Nat) < 1 by decide) (show (1:Nat) ≤ 1000 by decide) h1 h2.1 h2.2 hx hl hT

theorem new_st1 (sz : Int) (hz : insB 1 1000000000 [sz] = true) (v : Value) (v2 : Value) (w : World) (hv : SetAt w.heap.size w v kRows) (hv2 : NsAt w.heap.size w v2 [sz]) :
    Calls Try.prog 6 #[.agg #[v, .int .i64 1000, .int .i64 1, .int .i64 2], v2] w fun e w' => ∃ c tk cap vb gv, e = .returned (.tuple #[.pointer (some ⟨c, 0, none⟩), .int .i64 0]) ∧ Fx1 c tk vb w'.heap.size ∧ w.heap.size ≤ c ∧ St1 sz c tk cap vb w'.heap.size 0 0 0 0 0 gv (.slice none 0 0) [] w' ∧ Below w.heap.size w w' := by
  refine (new_ok v kRows 1000 1 2 v2 [sz] w (by decide) hv (by decide) (by decide) (by decide) (by decide) hv2 (by simp) (by simp) hz).mono ?_
  rintro e w' ⟨c, tk, cap, vb, gv, rfl, hwc, hct, htk, hC, hS, hV, hb, hi, hB⟩
  have b0 := hb 0 (by simp)
  have hc := hC.nc
  exact ⟨c, tk, cap, vb, gv, rfl, ⟨hc, htk, b0.1, b0.2.1, hct, b0.2.2⟩, hwc, ⟨hC, ⟨hV 0 sz rfl, OwnL.nil _ _⟩, hS, Nat.le_refl _⟩, hB⟩

open Go.ChangeShapes Go.WideShapes Go.ChangeAt Go.RowKit
set_option linter.unusedVariables false
set_option linter.unusedSimpArgs false

theorem ownKnobs : ownKnob Try.prog.godebug = none := by kernel_rfl

theorem wf_u8 {a : Int} (h : (Lit.int .u8 a).wf = true) : 0 ≤ a ∧ a ≤ 255 := by
  simp [Lit.wf] at h
  have e1 : IntKind.u8.min = 0 := by decide +kernel
  have e2 : IntKind.u8.max = 255 := by decide +kernel
  omega
theorem wf_u16 {a : Int} (h : (Lit.int .u16 a).wf = true) : 0 ≤ a ∧ a ≤ 65535 := by
  simp [Lit.wf] at h
  have e1 : IntKind.u16.min = 0 := by decide +kernel
  have e2 : IntKind.u16.max = 65535 := by decide +kernel
  omega
theorem wf_u32 {a : Int} (h : (Lit.int .u32 a).wf = true) : 0 ≤ a ∧ a ≤ 4294967295 := by
  simp [Lit.wf] at h
  have e1 : IntKind.u32.min = 0 := by decide +kernel
  have e2 : IntKind.u32.max = 4294967295 := by decide +kernel
  omega
theorem wf_i16 {a : Int} (h : (Lit.int .i16 a).wf = true) : -32768 ≤ a ∧ a ≤ 32767 := by
  simp [Lit.wf] at h
  have e1 : IntKind.i16.min = -32768 := by decide +kernel
  have e2 : IntKind.i16.max = 32767 := by decide +kernel
  omega
theorem wf_i32 {a : Int} (h : (Lit.int .i32 a).wf = true) : -2147483648 ≤ a ∧ a ≤ 2147483647 := by
  simp [Lit.wf] at h
  have e1 : IntKind.i32.min = -2147483648 := by decide +kernel
  have e2 : IntKind.i32.max = 2147483647 := by decide +kernel
  omega
theorem wf_i64 {a : Int} (h : (Lit.int .i64 a).wf = true) : -9223372036854775808 ≤ a ∧ a ≤ 9223372036854775807 := by
  simp [Lit.wf] at h
  have e1 : IntKind.i64.min = -9223372036854775808 := by decide +kernel
  have e2 : IntKind.i64.max = 9223372036854775807 := by decide +kernel
  omega

section
variable {H : Type} {enc : TypeId × Value → H} {P : Program}
theorem post_law {f : Func} {s : ChangeSpec} {W W' : World} {args : Array Value} {v : Value} {ds gs : List (DataW H)} {before : List MemPlace}
    (hW : DataW.Whole enc P f.params.toList s.vars false W args.toList ds gs before) (hb : Below W.heap.size W W')
    (hres : DataW.TrodAll enc P W' W.heap.size (fun _ => false) false f.resultTypes.toList (v.resultList f.resultTypes.size) (s.fn H (ds ++ gs)).results [])
    (hargs : DataW.TrodAll enc P W' 0 (fun b => decide (b < W.heap.size)) true f.params.toList args.toList (s.fn H (ds ++ gs)).args before)
    (hvars : DataW.TrodVars enc P W' (fun b => decide (b < W.heap.size)) s.vars (s.fn H (ds ++ gs)).vars []) :
    s.post enc P f false true false false W args v W' :=
  ⟨ds, gs, before, [], before, [], hW, hres, hargs, hvars, World.keptBut_mono (fun _ hp => ⟨hp, .inr (.inl hp)⟩) (hb.frame (· ∈ before)), fun h => by cases h⟩
end

open Go.ChangeShapes Go.WideShapes Go.ChangeAt Go.RowKit Go.Joins Go.Deep
set_option linter.unusedVariables false
set_option linter.unusedSimpArgs false

section
variable {H : Type} {enc : TypeId × Value → H} {P : Program} {w : World} {base : Nat} {spare : Nat → Bool} {held : Bool}
theorem open_ii {r : Reach} {b0 : Nat} {t : TypeId} {f0 f1 : Field} {v : Value} {d : DataW H} {p : List MemPlace} (hs : P.underlying t = some (.struct #[f0, f1])) (hone : oneCellFields P #[f0, f1] = true) (hC : P.cellsOf t = 2)
    (u0 : P.underlying f0.type = some (.int .i64)) (u1 : P.underlying f1.type = some (.int .i64)) (hv : Value.okWide P w r b0 t v) (h : DataW.Trod enc P w base spare held t v d p) :
    ∃ a b : Int, v = .agg #[.int .i64 a, .int .i64 b] ∧ d = .agg [.lit (.int .i64 a), .lit (.int .i64 b)] ∧ p = [] ∧ (Lit.int .i64 a).wf = true ∧ (Lit.int .i64 b).wf = true := by
  obtain ⟨c0, c1, y0, y1, m, rfl, rfl, rfl, hy0, hy1⟩ := open_agg2 hs hone hC hv h
  obtain ⟨a, e0, rfl, wa⟩ := DataW.trod_int u0 hy0
  obtain ⟨b, e1, rfl, wb⟩ := DataW.trod_int u1 hy1
  simp at e0 e1
  subst e0 e1
  exact ⟨a, b, rfl, rfl, rfl, wa, wb⟩
theorem shut_ii {t : TypeId} {f0 f1 : Field} {a b : Int} (hs : P.underlying t = some (.struct #[f0, f1])) (hone : oneCellFields P #[f0, f1] = true) (hC : P.cellsOf t = 2)
    (u0 : P.underlying f0.type = some (.int .i64)) (u1 : P.underlying f1.type = some (.int .i64)) (wa : (Lit.int .i64 a).wf = true) (wb : (Lit.int .i64 b).wf = true) :
    DataW.Trod enc P w base spare held t (.agg #[.int .i64 a, .int .i64 b]) (.agg [.lit (.int .i64 a), .lit (.int .i64 b)]) [] :=
  shut_agg2 (y0 := (.lit (.int .i64 a), [])) (y1 := (.lit (.int .i64 b), [])) hs hone hC ⟨1, by simp [DataW.trod, u0, wa]⟩ ⟨1, by simp [DataW.trod, u1, wb]⟩
end
theorem sapCells : Try.prog.cellsOf 45 = 2 := by kernel_rfl
theorem rangeCells : Try.prog.cellsOf 31 = 2 := by kernel_rfl
end Go.Proofs.Ytfdaiififoomoaa
