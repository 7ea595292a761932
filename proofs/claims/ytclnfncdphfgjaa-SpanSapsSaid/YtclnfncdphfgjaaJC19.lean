/- Contracts: V2, V3, joined. -/
import Derived.Test.YtclnfncdphfgjaaJC14
import Derived.Test.YtclnfncdphfgjaaJC18
namespace Go.Proofs.Ytclnfncdphfgjaa
open Go.RowKit Go.Lib Go.Shelf
set_option linter.unusedVariables false
set_option linter.unusedSimpArgs false
attribute [local go_sem ↓] Go.wp_at_zero Go.wp_at_succ

theorem sum_acc (zs : List Int) (a : Int) : zs.foldl (· + ·) a = a + zs.foldl (· + ·) 0 := by
  induction zs generalizing a with
  | nil => simp
  | cons z zs ih => rw [List.foldl_cons, List.foldl_cons, ih (a + z), ih (0 + z)]; omega
/-- what is left over is not below 0, and less than there are weights -/
theorem left_bd (n all : Int) (ha : 0 < all) : ∀ ws : List Int, (∀ z ∈ ws, qLo n z all = n * z / all) →
    n * wtSum ws = all * (flS n all ws).foldl (· + ·) 0 + (ws.map fun z => n * z % all).foldl (· + ·) 0 ∧ 0 ≤ (ws.map fun z => n * z % all).foldl (· + ·) 0 ∧ (ws.map fun z => n * z % all).foldl (· + ·) 0 ≤ (all - 1) * ws.length
  | [], _ => by simp [wtSum, flS]
  | z :: ws, h => by
    obtain ⟨h1, h2, h3⟩ := left_bd n all ha ws (fun y hy => h y (List.mem_cons_of_mem _ hy))
    have e1 : wtSum (z :: ws) = z + wtSum ws := by unfold wtSum; rw [List.foldl_cons, sum_acc]; omega
    have e2 : (flS n all (z :: ws)).foldl (· + ·) 0 = qLo n z all + (flS n all ws).foldl (· + ·) 0 := by
      rw [show flS n all (z :: ws) = qLo n z all :: flS n all ws from rfl, List.foldl_cons, sum_acc]; omega
    have e3 : ((z :: ws).map fun z => n * z % all).foldl (· + ·) 0 = n * z % all + (ws.map fun z => n * z % all).foldl (· + ·) 0 := by
      rw [List.map_cons, List.foldl_cons, sum_acc]; omega
    rw [e1, e2, e3, h z (List.mem_cons_self ..)]
    have q := Int.mul_ediv_add_emod (n * z) all
    have r1 := Int.emod_nonneg (n * z) (by omega : all ≠ 0)
    have r2 := Int.emod_lt_of_pos (n * z) ha
    refine ⟨?_, by omega, ?_⟩
    · rw [Int.mul_add, Int.mul_add]
      omega
    · rw [List.length_cons, Int.natCast_succ, Int.mul_add]
      omega
theorem left_ok (n all : Int) (ha : 0 < all) (ws : List Int) (hq : ∀ z ∈ ws, qLo n z all = n * z / all) (hs : wtSum ws = all) (hl : 0 < ws.length) :
    0 ≤ n - (flS n all ws).foldl (· + ·) 0 ∧ n - (flS n all ws).foldl (· + ·) 0 < ws.length := by
  obtain ⟨h1, h2, h3⟩ := left_bd n all ha ws hq
  rw [hs] at h1
  generalize (flS n all ws).foldl (· + ·) 0 = S at *
  generalize (ws.map fun z => n * z % all).foldl (· + ·) 0 = R at *
  have e : all * (n - S) = R := by rw [Int.mul_sub, Int.mul_comm all n]; omega
  constructor
  · by_cases h : 0 ≤ n - S
    · exact h
    · exfalso
      have := Int.mul_le_mul_of_nonneg_left (show n - S ≤ -1 by omega) (Int.le_of_lt ha)
      omega
  · by_cases h : n - S < ws.length
    · exact h
    · exfalso
      have h4 := Int.mul_le_mul_of_nonneg_left (show (ws.length : Int) ≤ n - S by omega) (Int.le_of_lt ha)
      rw [e] at h4
      rw [Int.sub_mul] at h3
      omega

theorem share_quo (n z all : Int) (h1 : 0 ≤ n) (h2 : n ≤ 2000000000000) (z1 : 0 ≤ z) (z3 : z ≤ all) (a1 : 0 < all) : qLo n z all = n * z / all := by
  obtain ⟨N, rfl⟩ := Int.eq_ofNat_of_zero_le h1
  obtain ⟨Z, rfl⟩ := Int.eq_ofNat_of_zero_le z1
  obtain ⟨M, rfl⟩ := Int.eq_ofNat_of_zero_le (Int.le_of_lt a1)
  have hd : N * Z / M ≤ N := by
    have : N * Z ≤ N * M := Nat.mul_le_mul_left _ (by omega)
    calc N * Z / M ≤ N * M / M := Nat.div_le_div_right this
      _ = N := Nat.mul_div_cancel _ (by omega)
  exact (q_pos (a := (N : Int)) (b := (Z : Int)) (c := (M : Int)) a1 (by simp only [Int.natAbs_natCast]; omega)).1

/-- the error, and the shares -/
def shE (n : Int) (ws : List Int) : Int := if 100 < ws.length then 5 else if n < 0 ∨ 2000000000000 < n then 3 else awE ws
def shL (n : Int) (ws : List Int) : Nat := (n - (flS n (wtSum ws) ws).foldl (· + ·) 0).toNat
def shV (n : Int) (ws : List Int) : List Int := if shE n ws = 0 then bump (flS n (wtSum ws) ws) ((odZ (rsS n (wtSum ws) ws)).take (shL n ws)) else []
def ShPost (w : World) (zs : List Int) (r : Int) (e : Ending) (w' : World) : Prop :=
  ∃ v, e = .returned (.tuple #[v, .int .i64 r]) ∧ w'.ownsRow w.heap.size 3 1 v zs.length (ints zs) ∧ Below w.heap.size w w'
theorem shE_ok {n : Int} {ws : List Int} (h : shE n ws = 0) : ws.length ≤ 100 ∧ 0 ≤ n ∧ n ≤ 2000000000000 ∧ wtsOk ws = true ∧ wtSum ws ≠ 0 := by
  unfold shE awE at h
  split at h
  · cases h
  · split at h
    · cases h
    · split at h
      · rename_i h3; exact ⟨by omega, by omega, by omega, h3.1, h3.2⟩
      · cases h
theorem shV_len (n : Int) (ws : List Int) (h : shE n ws = 0) : (shV n ws).length = ws.length := by unfold shV; rw [if_pos h, bump_length, flS_length]

set_option maxRecDepth 20000 in
set_option maxHeartbeats 1000000 in
theorem share_any (n : Int) (ws : List Int) (v : Value) (w : World) (hl : ws.length ≤ 1000) (hv : NumsAt w.heap.size w v ws) :
    Calls Try.prog 23 #[.int .i64 n, v] w (ShPost w (shV n ws) (shE n ws)) := by
  by_cases h0 : shE n ws = 0
  · obtain ⟨l2, n1, n2, hw, hs⟩ := shE_ok h0
    have l1 : 0 < ws.length := by
      rcases ws with _ | ⟨z, ws⟩
      · simp [wtSum] at hs
      · simp
    have ha : 0 < wtSum ws := by have := (wtSum_bd ws hw).1; omega
    have a2 : wtSum ws ≤ 100000000 := by have := (wtSum_bd ws hw).2; omega
    have hQ : ∀ z ∈ ws, ShareQ n z (wtSum ws) := fun z hz => by
      obtain ⟨z1, z2, z3⟩ := wt_le_sum ws hw z hz
      exact shareQ_of n z _ n1 n2 z1 z2 z3 ha a2
    have hq : ∀ z ∈ ws, qLo n z (wtSum ws) = n * z / wtSum ws := fun z hz => by
      obtain ⟨z1, z2, z3⟩ := wt_le_sum ws hw z hz
      exact share_quo n z _ n1 n2 z1 z3 ha
    have hlf := left_ok n (wtSum ws) ha ws hq rfl l1
    have hb : ∀ z ∈ rsS n (wtSum ws) ws, -1000000000000000000 ≤ z ∧ z ≤ 1000000000000000000 := fun z hz => by
      obtain ⟨y, hy, rfl⟩ := List.mem_map.1 hz
      have := hQ y hy
      have h1 := this.rlo
      have h2 := this.rhi
      omega
    have h := share_of n (wtSum ws) ws (odZ (rsS n (wtSum ws) ws)) (shL n ws) v w n1 n2 l1 l2 hw rfl ha (by unfold shL; omega) (by unfold shL; omega) (by rw [odZ_length, rsS_length]) (fun o ho => by have := odZ_mem _ o ho; rw [rsS_length] at this; exact this)
      (fun g c W hg hr => greatestFirst_any g 0 c _ (by rw [rsS_length]; exact l1) (by rw [rsS_length]; omega) hb W hg hr) hv
    refine h.mono ?_
    rintro e w' ⟨r, rfl, h2, h3⟩
    refine ⟨r, by rw [h0], ?_, h3⟩
    unfold shV
    rw [if_pos h0]
    exact h2
  · have hz : shV n ws = [] := by unfold shV; rw [if_neg h0]
    rw [hz]
    have haw := fun h : ws.length ≤ 100 => allWeights_any v ws h w.heap.size w hv
    obtain ⟨A, c, rfl, hr⟩ := hv
    clear hr hz
    have hE : (100 < ws.length ∧ shE n ws = 5) ∨ (ws.length ≤ 100 ∧ (n < 0 ∨ 2000000000000 < n) ∧ shE n ws = 3) ∨ (ws.length ≤ 100 ∧ 0 ≤ n ∧ n ≤ 2000000000000 ∧ awE ws = 2 ∧ shE n ws = 2) := by
      unfold shE at h0 ⊢
      by_cases a : 100 < ws.length
      · exact .inl ⟨a, by rw [if_pos a]⟩
      · rw [if_neg a] at h0 ⊢
        by_cases b : n < 0 ∨ 2000000000000 < n
        · exact .inr (.inl ⟨by omega, b, by rw [if_pos b]⟩)
        · rw [if_neg b] at h0 ⊢
          refine .inr (.inr ⟨by omega, by omega, by omega, ?_, ?_⟩) <;> · unfold awE at h0 ⊢; split at h0 <;> simp_all
    clear h0
    generalize shE n ws = r at *
    obtain ⟨m, hm⟩ : ∃ m, ws.length = m := ⟨_, rfl⟩
    rw [hm] at hl hE haw ⊢
    clear hm
    rcases hE with ⟨a, rfl⟩ | ⟨a, b, rfl⟩ | ⟨a, b1, b2, b3, rfl⟩
    · clear haw
      have t0 : (100 : Int) < (m : Int) := by omega
      go_enter Try.func23, Try.ntmps23
      go_wp2_with fail
      go_ret2
      exact ⟨_, rfl, World.ownsRow_nil _ _ _ _, Below.refl _ _⟩
    · clear haw
      have t0 : ¬ (100 : Int) < (m : Int) := by omega
      rcases Int.lt_or_le n 0 with b1 | b1
      · have t1 : decide (n < 0) = true := by simpa using b1
        clear b
        go_enter Try.func23, Try.ntmps23
        go_wp2_with fail
        go_ret2
        exact ⟨_, rfl, World.ownsRow_nil _ _ _ _, Below.refl _ _⟩
      · have t1 : decide (n < 0) = false := by simp; omega
        have t2 : 2000000000000 < n := by omega
        clear b b1
        go_enter Try.func23, Try.ntmps23
        go_wp2_with fail
        go_ret2
        exact ⟨_, rfl, World.ownsRow_nil _ _ _ _, Below.refl _ _⟩
    · have HAW := Lib.hid (haw a)
      rw [b3] at HAW
      generalize awV ws = av at *
      clear haw
      have t0 : ¬ (100 : Int) < (m : Int) := by omega
      have t1 : decide (n < 0) = false := by simp; omega
      have t2 : ¬ 2000000000000 < n := by omega
      go_enter Try.func23, Try.ntmps23
      go_wp2_with fail
      refine HAW.out.mono ?_
      rintro e w1 ⟨rfl, rfl⟩
      go_wp2_with fail
      go_ret2
      exact ⟨_, rfl, World.ownsRow_nil _ _ _ _, Below.refl _ _⟩

open Go.RowKit Go.Lib Go.Shelf
set_option linter.unusedVariables false
set_option linter.unusedSimpArgs false
attribute [local go_sem ↓] Go.wp_at_zero Go.wp_at_succ

theorem own_set1 {w : World} {base : Nat} {e : TypeId} {size : Nat} {v : Value} {n : Nat} {xs : List Value} (h : w.ownsRow base e size v n xs) {b : Nat} (hne : v.ownBlock ≠ some b) (o : Nat) (x : Value) : (w.setCell ⟨b, o, none⟩ x).ownsRow base e size v n xs := by
  have g1 : w.grownBy (w.setCell ⟨b, o, none⟩ x) (some b) := ⟨rfl, rfl, rfl, by simp [World.setCell], fun i hi hn => Below.heap_setCell w ⟨b, o, none⟩ x i (by rintro rfl; exact hn rfl)⟩
  exact h.kept g1 (.inr hne)
theorem grown_keep {W w' : World} {row : Option Nat} (h : W.grownBy w' row) {b o : Nat} {v : Option Value} (hb : b < W.heap.size) (hne : row ≠ some b) (hc : W.cell? ⟨b, o, none⟩ = v) : w'.cell? ⟨b, o, none⟩ = v :=
  (World.cell?_of_block (h.block b hb (by first | exact hne | exact fun e => hne e.symm))).trans hc
theorem grown_keepf {W w' : World} {row : Option Nat} (h : W.grownBy w' row) {b o : Nat} {v : Bool} (hb : b < W.heap.size) (hne : row ≠ some b) (hc : W.frozen? ⟨b, o, none⟩ = v) : w'.frozen? ⟨b, o, none⟩ = v :=
  (World.frozen?_of_block (h.block b hb (by first | exact hne | exact fun e => hne e.symm))).trans hc
theorem step_append_d {P : Program} (w : World) {ops : Array Oper} {o : Oper} {a : Act} {K : Act → World → Prop} {Q : Exit → Act → World → Prop} {E : Prop} (d : Nat) (hd : o.dst = some d) (hgd : o.guard = none) (s x : Operand) (t : TypeId)
    (ho : o.op = .call { callee := .builtin .append, args := #[s, x], argTypes := #[t, t] })
    (base : Nat) (e : TypeId) (i : TypeInfo) (z : Value) (size bytes : Nat) (ht : P.underlying t = some (.slice e)) (hi : P.info? e = some i) (hz : i.zero = some z)
    (hsize : i.size = size) (hby : i.bytes = bytes) (hzs : z.cells.size = size) (hsz : 0 < size)
    (v : Value) (n : Nat) (xs : List Value) (hs : a.eval s = v) (hown : w.ownsRow base e size v n xs)
    (ad : Addr) (m c : Nat) (news : List Value) (hx : a.eval x = .slice (some ad) m c) (hl : news.length = m * size) (hnews : ∀ j u, news[j]? = some u → w.cell? (ad.add j) = some u) (h1 : ∀ u ∈ news, u.oneCell' = true)
    (hm : 0 < m) (h63 : n + m ≤ maxLen) (hbytes : (n + m) * bytes ≤ 140737488355328) (hbase : base ≤ w.heap.size) (H : Nat) (hH : w.heap.size = H)
    (h : ∀ g cap w', w'.ownsRow base e size (.slice (some ⟨g, 0, none⟩) (n + m) cap) (n + m) (xs ++ news) → w.grownBy w' v.ownBlock → (v.ownBlock = some g ∨ g = H) → g < w'.heap.size → K (a.put (some d) (.slice (some ⟨g, 0, none⟩) (n + m) cap)) w') :
    if Region.wanted o (yielded ops a.tmps) = true then Oper.wp P o a w K Q else E :=
  step_append_lies w hgd s x t ho base e i z size bytes ht hi hz hsize hby hzs hsz v n xs hs hown ad m c news hx hl hnews h1 hm h63 hbytes hbase H hH (fun g cap w' h1 h2 h3 h4 => by rw [hd]; exact h g cap w' h1 h2 h3 h4)

/-- two rows of the call's own, that lie in two blocks -/
def NE (u v : Value) : Prop := ∀ g, u.ownBlock = some g → v.ownBlock ≠ some g
theorem NE.symm {u v : Value} (h : NE u v) : NE v u := fun g h1 h2 => h g h2 h1
def R2 (base : Nat) (W : World) (V5 V6 : Value) (n5 n6 : Nat) (L5 L6 : List Value) : Prop :=
  W.ownsRow base 3 1 V5 n5 L5 ∧ W.ownsRow base 3 1 V6 n6 L6 ∧ NE V5 V6
theorem R2.below {base : Nat} {W W' : World} {V5 V6 : Value} {n5 n6 : Nat} {L5 L6 : List Value} (h : R2 base W V5 V6 n5 n6 L5 L6) (hb : Below W.heap.size W W') : R2 base W' V5 V6 n5 n6 L5 L6 := ⟨own_below h.1 hb, own_below h.2.1 hb, h.2.2⟩
theorem R2.drew {base : Nat} {W : World} {V5 V6 : Value} {n5 n6 : Nat} {L5 L6 : List Value} (h : R2 base W V5 V6 n5 n6 L5 L6) : R2 base W.drew V5 V6 n5 n6 L5 L6 := h
theorem R2.drewN {base : Nat} {W : World} {V5 V6 : Value} {n5 n6 : Nat} {L5 L6 : List Value} (h : R2 base W V5 V6 n5 n6 L5 L6) (q : Nat) : R2 base (W.drewN q) V5 V6 n5 n6 L5 L6 := h
theorem kept_ne {base : Nat} {e : TypeId} {size : Nat} {W W' : World} {u v : Value} {n : Nat} {L : List Value} (h : W.ownsRow base e size v n L) (hne : NE u v) (hg : W.grownBy W' u.ownBlock) : W'.ownsRow base e size v n L :=
  h.kept hg (by
    cases hv : v.ownBlock with
    | none => exact .inl rfl
    | some g => exact .inr fun e => hne g e.symm hv)
theorem ne_new {base : Nat} {e : TypeId} {size : Nat} {W : World} {u u' v : Value} {n : Nat} {L : List Value} (h : W.ownsRow base e size v n L) (hne : NE u v) {g : Nat} (hu' : u'.ownBlock = some g) (hat : u.ownBlock = some g ∨ g = W.heap.size) : NE u' v := fun i hi hv => by
  rw [hu'] at hi
  injection hi with hi
  subst hi
  rcases hat with h1 | h1
  · exact hne _ h1 hv
  · have := (World.ownsRow.lt h _ hv).2
    omega
theorem R2.app5 {base : Nat} {W W' : World} {V5 V6 v' : Value} {n5 n6 n' g : Nat} {L5 L6 L' : List Value} (h : R2 base W V5 V6 n5 n6 L5 L6) (hv : v'.ownBlock = some g) (ho : W'.ownsRow base 3 1 v' n' L') (hg : W.grownBy W' V5.ownBlock) (hat : V5.ownBlock = some g ∨ g = W.heap.size) : R2 base W' v' V6 n' n6 L' L6 :=
  ⟨ho, kept_ne h.2.1 h.2.2 hg, ne_new h.2.1 h.2.2 hv hat⟩
theorem R2.app6 {base : Nat} {W W' : World} {V5 V6 v' : Value} {n5 n6 n' g : Nat} {L5 L6 L' : List Value} (h : R2 base W V5 V6 n5 n6 L5 L6) (hv : v'.ownBlock = some g) (ho : W'.ownsRow base 3 1 v' n' L') (hg : W.grownBy W' V6.ownBlock) (hat : V6.ownBlock = some g ∨ g = W.heap.size) : R2 base W' V5 v' n5 n' L5 L' :=
  ⟨kept_ne h.1 h.2.2.symm hg, ho, (ne_new h.1 h.2.2.symm hv hat).symm⟩
theorem own_empty0 (W : World) (T size : Nat) : (W.alloc (.cells #[] T)).ownsRow W.heap.size T size (.slice (some ⟨W.heap.size, 0, none⟩) 0 0) 0 [] :=
  ⟨by simp, .inr ⟨W.heap.size, 0, #[], rfl, Nat.le_refl _, heap_alloc_new W _, Nat.le_refl _, Nat.zero_le _, by simp, by simp⟩⟩
theorem R2.start (w : World) : R2 w.heap.size ((w.alloc (.cells #[] 3)).alloc (.cells #[] 3)) (.slice (some ⟨w.heap.size, 0, none⟩) 0 0) (.slice (some ⟨w.heap.size + 1, 0, none⟩) 0 0) 0 0 [] [] := by
  have h1 := own_empty0 w 3 1
  have h2 := own_empty0 (w.alloc (.cells #[] 3)) 3 1
  simp only [World.size_alloc] at h2
  refine ⟨World.ownsRow.alloc h1 _, own_base h2 (by omega), ?_⟩
  intro g e1 e2
  simp [Value.ownBlock] at e1 e2
  omega
/-- a row that is not empty lies in a block of the call's own -/
theorem own_open {w : World} {base n : Nat} {v : Value} {L : List Value} (h : w.ownsRow base 3 1 v n L) (hn : 0 < n) : ∃ g c, v = .slice (some ⟨g, 0, none⟩) n c ∧ base ≤ g ∧ g < w.heap.size := by
  rcases h.2 with ⟨_, h0⟩ | ⟨g, cap, cur, rfl, hb, hg, _⟩
  · omega
  · exact ⟨g, cap, rfl, hb, (Array.getElem?_eq_some_iff.1 hg).1⟩
theorem R2.set {base : Nat} {W : World} {g5 g6 c5 c6 n : Nat} {L5 L6 : List Int} (h : R2 base W (.slice (some ⟨g5, 0, none⟩) n c5) (.slice (some ⟨g6, 0, none⟩) n c6) n n (ints L5) (ints L6)) (p : Nat) (x y : Int) :
    R2 base ((W.setCell ⟨g5, p, none⟩ (.int .i64 x)).setCell ⟨g6, p, none⟩ (.int .i64 y)) (.slice (some ⟨g5, 0, none⟩) n c5) (.slice (some ⟨g6, 0, none⟩) n c6) n n (ints (L5.set p x)) (ints (L6.set p y)) := by
  have hne : g5 ≠ g6 := fun e => h.2.2 g5 rfl (by rw [e]; rfl)
  refine ⟨?_, ?_, h.2.2⟩
  · have := (h.1.stored p (.int .i64 x)).1
    rw [ints_set] at this
    exact own_set1 this (by intro e; injection e with e; exact hne e) p _
  · have := ((own_set1 h.2.1 (b := g5) (by intro e; injection e with e; exact hne e.symm) p (.int .i64 x)).stored p (.int .i64 y)).1
    rw [ints_set] at this
    exact this

/-! ### which number is picked next -/
def markL (zs os : List Int) : List Int := os.foldl (fun l o => l.set o.toNat (-1)) zs
theorem markL_snoc (zs os : List Int) (o : Int) : markL zs (os ++ [o]) = (markL zs os).set o.toNat (-1) := by simp [markL, List.foldl_append]
theorem markL_length (zs os : List Int) : (markL zs os).length = zs.length := by
  suffices H : ∀ (os zs : List Int), (os.foldl (fun l o => l.set o.toNat (-1)) zs).length = zs.length from H os zs
  intro os
  induction os with
  | nil => intro zs; rfl
  | cons o os ih => intro zs; rw [List.foldl_cons, ih, List.length_set]
theorem markL_get (os : List Nat) : ∀ (zs : List Int) (p : Nat), p < zs.length → (markL zs (os.map fun k : Nat => (k : Int))).getD p 0 = if p ∈ os then -1 else zs.getD p 0 := by
  induction os with
  | nil => intro zs p _; simp [markL]
  | cons o os ih =>
    intro zs p hp
    have e : markL zs ((o :: os).map fun k : Nat => (k : Int)) = markL (zs.set o (-1)) (os.map fun k : Nat => (k : Int)) := by
      simp [markL]
    rw [e, ih _ _ (by rw [List.length_set]; exact hp)]
    by_cases h1 : p ∈ os
    · simp [h1]
    · by_cases h2 : p = o
      · subst h2
        simp [h1, List.getD_eq_getElem?_getD, hp]
      · simp [h1, h2, List.getD_eq_getElem?_getD, List.getElem?_set, Ne.symm h2]
theorem odZ_take (vs : List Int) (t : Nat) : (odZ vs).take t = ((odN vs).take t).map fun k : Nat => (k : Int) := by unfold odZ; rw [List.map_take]
/-- the greatest rest, and of several ones the first, is that of the next number -/
theorem pick_next (vs : List Int) (hv : ∀ z ∈ vs, 0 ≤ z) (t b : Nat) (ht : t < vs.length) (hb : b < vs.length)
    (h : ∀ j, j < vs.length → (markL vs ((odZ vs).take t)).getD j 0 < (markL vs ((odZ vs).take t)).getD b 0 ∨ ((markL vs ((odZ vs).take t)).getD j 0 = (markL vs ((odZ vs).take t)).getD b 0 ∧ b ≤ j)) : (odZ vs).take (t + 1) = (odZ vs).take t ++ [(b : Int)] := by
  have hl := odN_length vs
  rw [odZ_take] at h
  obtain ⟨p, hp⟩ : ∃ p, (odN vs)[t]? = some p := ⟨_, List.getElem?_eq_getElem (by omega)⟩
  have hpm : p ∈ odN vs := List.mem_of_getElem? hp
  have hpl := odN_lt hpm
  have hnd := odN_nodup vs
  have hpn : p ∉ (odN vs).take t := by
    intro hm
    obtain ⟨i, hi, e⟩ := List.getElem_of_mem hm
    rw [List.getElem_take] at e
    have hit : i < t := by rw [List.length_take] at hi; omega
    have := (List.getElem?_inj (i := i) (j := t) (by omega) hnd).1 (by rw [hp, List.getElem?_eq_getElem (by omega), e])
    omega
  have val : ∀ j, j < vs.length → 0 ≤ vs.getD j 0 := fun j hj => by
    rw [List.getD_eq_getElem?_getD, List.getElem?_eq_getElem hj]
    exact hv _ (List.getElem_mem hj)
  have e : p = b := by
    have h1 := h p hpl
    rw [markL_get _ _ _ hpl, if_neg hpn, markL_get _ _ _ hb] at h1
    have hbn : b ∉ (odN vs).take t := by
      intro hm
      rw [if_pos hm] at h1
      have := val p hpl
      omega
    rw [if_neg hbn] at h1
    obtain ⟨s, hs, es⟩ := List.getElem_of_mem (odN_mem hb)
    have hst : t ≤ s := by
      rcases Nat.lt_or_ge s t with h2 | h2
      · exact absurd (List.mem_iff_getElem.2 ⟨s, by rw [List.length_take]; omega, by rw [List.getElem_take]; exact es⟩) hbn
      · exact h2
    rcases Nat.lt_or_ge t s with h2 | h2
    · have h3 := odN_first (vs := vs) h2 (by omega)
      rw [List.getD_eq_getElem?_getD, List.getD_eq_getElem?_getD, hp, List.getElem?_eq_getElem hs, es] at h3
      simp only [Option.getD_some] at h3
      rw [leV_iff] at h3
      omega
    · obtain rfl : s = t := by omega
      rw [List.getElem?_eq_getElem hs, es] at hp
      exact (Option.some.inj hp).symm
  subst e
  rw [odZ_take, odZ_take, List.take_add_one, hp]
  simp
end Go.Proofs.Ytclnfncdphfgjaa
