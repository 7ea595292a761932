/- Contract of package barrel: kegs that are poured together. -/
import Derived.Test.YtloddjjmoaljhaaE0
import Derived.Test.YtloddjjmoaljhaaE2
namespace Go.Proofs.Ytloddjjmoaljhaa
open Go.RowKit Go.Lib Go.Shelf
set_option linter.unusedVariables false
set_option linter.unusedSimpArgs false
attribute [local go_sem ↓] Go.wp_at_zero Go.wp_at_succ

theorem own_drew {w : World} {base : Nat} {e : TypeId} {size : Nat} {v : Value} {n : Nat} {xs : List Value} (h : w.ownsRow base e size v n xs) : w.drew.ownsRow base e size v n xs := h
theorem grown_keep {W w' : World} {row : Option Nat} (h : W.grownBy w' row) {b o : Nat} {v : Option Value} (hb : b < W.heap.size) (hne : row ≠ some b) (hc : W.cell? ⟨b, o, none⟩ = v) : w'.cell? ⟨b, o, none⟩ = v :=
  (World.cell?_of_block (h.block b hb (by first | exact hne | exact fun e => hne e.symm))).trans hc
theorem grown_keepf {W w' : World} {row : Option Nat} (h : W.grownBy w' row) {b o : Nat} {v : Bool} (hb : b < W.heap.size) (hne : row ≠ some b) (hc : W.frozen? ⟨b, o, none⟩ = v) : w'.frozen? ⟨b, o, none⟩ = v :=
  (World.frozen?_of_block (h.block b hb (by first | exact hne | exact fun e => hne e.symm))).trans hc
theorem infoSap : (Try.prog.info? 30).map (fun i => (i.zero, i.size, i.bytes)) = some (some (.agg #[.int .i64 0, .int .i64 0]), 2, 16) := by kernel_rfl

def sps (xs : List Kg) : List (Int × Int) := xs.map fun p => (p.a, p.s)
/-- the sum of light times mass, and the greatest flavour -/
def kgL (xs : List Kg) : Int := xs.foldl (fun m p => m + p.l * (p.a + p.s)) 0
def kgF (xs : List Kg) : Int := xs.foldl (fun m p => max m p.f) 0
/-- kegs that are poured together -/
def kgM (xs : List Kg) : Kg := ⟨(suU (sps xs)).1, (suU (sps xs)).2, (kgL xs).tdiv ((suU (sps xs)).1 + (suU (sps xs)).2), kgF xs⟩
theorem sps_take {xs : List Kg} {k : Nat} {p : Kg} (h : xs[k]? = some p) : sps (xs.take (k + 1)) = sps (xs.take k) ++ [(p.a, p.s)] := by rw [List.take_add_one, h]; simp [sps]
theorem kgL_take {xs : List Kg} {k : Nat} {p : Kg} (h : xs[k]? = some p) : kgL (xs.take (k + 1)) = kgL (xs.take k) + p.l * (p.a + p.s) := by rw [List.take_add_one, h]; simp [kgL, List.foldl_append]
theorem kgF_take {xs : List Kg} {k : Nat} {p : Kg} (h : xs[k]? = some p) : kgF (xs.take (k + 1)) = max (kgF (xs.take k)) p.f := by rw [List.take_add_one, h]; simp [kgF, List.foldl_append]
theorem kgB_of {p : Kg} (h : kgB p = true) : 0 ≤ p.a ∧ 0 ≤ p.s ∧ 1 ≤ p.a + p.s ∧ p.a + p.s ≤ 1000000000 ∧ 0 ≤ p.l ∧ p.l ≤ 1000 ∧ 1 ≤ p.f ∧ p.f ≤ 9 := by
  simp [kgB, spB, inB] at h
  omega
theorem su_bd : ∀ (xs : List Kg) (acc : Int × Int), xs.all kgB = true →
    acc.1 ≤ ((sps xs).foldl addP acc).1 ∧ ((sps xs).foldl addP acc).1 ≤ acc.1 + 1000000000 * xs.length ∧ acc.2 ≤ ((sps xs).foldl addP acc).2 ∧ ((sps xs).foldl addP acc).2 ≤ acc.2 + 1000000000 * xs.length ∧
    acc.1 + acc.2 + xs.length ≤ ((sps xs).foldl addP acc).1 + ((sps xs).foldl addP acc).2 ∧ ((sps xs).foldl addP acc).1 + ((sps xs).foldl addP acc).2 ≤ acc.1 + acc.2 + 1000000000 * xs.length := by
  intro xs
  induction xs with
  | nil => intro acc _; simp [sps]
  | cons p xs ih =>
    intro acc h
    simp only [List.all_cons, Bool.and_eq_true] at h
    obtain ⟨h1, h2⟩ := h
    obtain ⟨b1, b2, b3, b4, _⟩ := kgB_of h1
    have := ih (addP acc (p.a, p.s)) h2
    have e : (sps (p :: xs)).foldl addP acc = (sps xs).foldl addP (addP acc (p.a, p.s)) := rfl
    rw [e]
    have e1 : (addP acc (p.a, p.s)).1 = acc.1 + p.a := rfl
    have e2 : (addP acc (p.a, p.s)).2 = acc.2 + p.s := rfl
    rw [e1, e2] at this
    simp only [List.length_cons]
    omega
theorem su_all {xs : List Kg} (h : xs.all kgB = true) : 0 ≤ (suU (sps xs)).1 ∧ (suU (sps xs)).1 ≤ 1000000000 * xs.length ∧ 0 ≤ (suU (sps xs)).2 ∧ (suU (sps xs)).2 ≤ 1000000000 * xs.length ∧ xs.length ≤ (suU (sps xs)).1 + (suU (sps xs)).2 ∧ (suU (sps xs)).1 + (suU (sps xs)).2 ≤ 1000000000 * xs.length := by
  have := su_bd xs (0, 0) h
  unfold suU
  omega
theorem sps_sp {xs : List Kg} (h : xs.all kgB = true) : ∀ p ∈ sps xs, spB p.1 p.2 = true := by
  intro p hp
  simp only [sps, List.mem_map] at hp
  obtain ⟨q, hq, rfl⟩ := hp
  have := List.all_eq_true.1 h q hq
  simp [kgB] at this
  exact this.1.1.1

theorem own_saps (xs : List (Int × Int)) (n : Nat) (hn : xs.length = n) (v : Value) (w : World) {base : Nat} (h : w.ownsRow base 30 2 v n (flat xs)) : RowAt w.heap.size w v xs := by
  subst hn
  have hc := h
  obtain ⟨_, ⟨rfl, h0⟩ | ⟨g, cap, cur, rfl, _, hh, hnc, _, _, _⟩⟩ := h
  · have : xs = [] := List.eq_nil_of_length_eq_zero h0
    subst this
    exact ⟨none, 0, rfl, Nat.le_refl _, fun h => by simp at h⟩
  · refine ⟨_, cap, rfl, hnc, fun _ => ⟨g, 0, rfl, ?_, flat_rrd xs 0 fun j u hj => ?_⟩⟩
    · rcases Nat.lt_or_ge g w.heap.size with h | h
      · exact h
      · rw [Array.getElem?_eq_none h] at hh; cases hh
    · have := hc.cells (g := g) rfl j u hj
      simpa [Addr.add_lit] using this
/-- the sap of kegs, off a row that a call made itself -/
theorem mix_row (xs : List (Int × Int)) (n : Nat) (hn : xs.length = n) (hx : ∀ p ∈ xs, spB p.1 p.2 = true) (h0 : 0 < n) (hl : n ≤ 100) (hS : spB (suU xs).1 (suU xs).2 = true) (v : Value) (w : World) (hv : RowAt w.heap.size w v xs) :
    Calls Try.prog 8 #[v] w fun e w' => e = .returned (.tuple #[.agg #[.int .i64 (suU xs).1, .int .i64 (suU xs).2], .int .i64 0]) ∧ Below w.heap.size w w' := by
  obtain ⟨A, c, rfl, _, hr⟩ := hv
  obtain ⟨g, off, rfl, hg, hR⟩ := hr (by omega)
  exact mix_ok g off xs c w hx hg hR (by omega) hS

set_option maxRecDepth 40000 in
set_option maxHeartbeats 4000000 in
theorem poured_ok (vv : Value) (xs : List Kg) (w : World) (hx : xs.all kgB = true) (h0 : 0 < xs.length) (hl : xs.length ≤ 12) (hv : KsAt w.heap.size w vv xs) :
    Calls Try.prog 25 #[vv] w fun e w' => e = .returned (.agg (cKg (kgM xs))) ∧ Below w.heap.size w w' := by
  obtain ⟨i0, hi0, hz0, hz1, hz2⟩ := info_parts infoSap
  obtain ⟨A, c, rfl, hlc, hr⟩ := hv
  obtain ⟨s1, s2, s3, s4, s5, s6⟩ := su_all hx
  have HX : Hid (∀ k p, xs[k]? = some p → kgB p = true) := Lib.hid (fun k p h => List.all_eq_true.1 hx p (List.mem_of_getElem? h))
  have HT : Hid (∀ k p, xs[k]? = some p → sps (xs.take (k + 1)) = sps (xs.take k) ++ [(p.a, p.s)] ∧ kgL (xs.take (k + 1)) = kgL (xs.take k) + p.l * (p.a + p.s) ∧ kgF (xs.take (k + 1)) = max (kgF (xs.take k)) p.f) := Lib.hid (fun k p h => ⟨sps_take h, kgL_take h, kgF_take h⟩)
  obtain ⟨n, hn⟩ : ∃ n, xs.length = n := ⟨_, rfl⟩
  rw [hn] at hl hr h0 hlc s2 s4 s5 s6 ⊢
  have hlen : (sps xs).length = n := by rw [← hn]; simp [sps]
  have HMIX : Hid (∀ W v', W.ownsRow (w.heap.size + 2) 30 2 v' n (flat (sps xs)) → Calls Try.prog 8 #[v'] W fun e w' => e = .returned (.tuple #[.agg #[.int .i64 (suU (sps xs)).1, .int .i64 (suU (sps xs)).2], .int .i64 0]) ∧ Below W.heap.size W w') :=
    Lib.hid (fun W v' h => mix_row (sps xs) n hlen (sps_sp hx) h0 (by omega) (by simp [spB]; omega) v' W (own_saps (sps xs) n hlen v' W h))
  have HRES : Hid (kgM xs = ⟨(suU (sps xs)).1, (suU (sps xs)).2, (kgL xs).tdiv ((suU (sps xs)).1 + (suU (sps xs)).2), kgF xs⟩) := Lib.hid rfl
  generalize kgM xs = RES at *
  obtain ⟨S1, hS1⟩ : ∃ S1, (suU (sps xs)).1 = S1 := ⟨_, rfl⟩
  obtain ⟨S2, hS2⟩ : ∃ S2, (suU (sps xs)).2 = S2 := ⟨_, rfl⟩
  rw [hS1, hS2] at HMIX HRES
  rw [hS1] at s1 s2 s5 s6
  rw [hS2] at s3 s4 s5 s6
  have hfull : Hid (xs.take n = xs) := Lib.hid (List.take_of_length_le (by rw [hn]; exact Nat.le_refl _))
  have Hn := Lib.hid hn
  have HR := Lib.hid hr
  clear hn hr hx hS1 hS2 hlen
  go_enter Try.func25, Try.ntmps25
  go_wp2_with fail
  go_loopw [9, 3] (fun i V wr => ∃ (k : Nat) (L F : Int), k ≤ n ∧ i = .int .i64 k ∧ Hid (L = kgL (xs.take k)) ∧ Hid (F = kgF (xs.take k)) ∧ Hid (0 ≤ L ∧ L ≤ 1000000000000 * (k : Int)) ∧ Hid (wr.ownsRow (w.heap.size + 2) 30 2 V k (flat (sps (xs.take k)))) ∧ wr.cell? ⟨w.heap.size, 0, none⟩ = some (.int .i64 0) ∧ wr.cell? ⟨w.heap.size, 1, none⟩ = some (.int .i64 0) ∧ wr.cell? ⟨w.heap.size, 2, none⟩ = some (.int .i64 0) ∧ wr.cell? ⟨w.heap.size, 3, none⟩ = some (.int .i64 0) ∧ wr.frozen? ⟨w.heap.size, 0, none⟩ = false ∧ wr.frozen? ⟨w.heap.size, 1, none⟩ = false ∧ wr.frozen? ⟨w.heap.size, 2, none⟩ = false ∧ wr.frozen? ⟨w.heap.size, 3, none⟩ = false ∧ wr.cell? ⟨w.heap.size + 1, 0, none⟩ = some (.int .i64 0) ∧ wr.cell? ⟨w.heap.size + 1, 1, none⟩ = some (.int .i64 0) ∧ wr.cell? ⟨w.heap.size + 1, 2, none⟩ = some (.int .i64 L) ∧ wr.cell? ⟨w.heap.size + 1, 3, none⟩ = some (.int .i64 F) ∧ wr.frozen? ⟨w.heap.size + 1, 0, none⟩ = false ∧ wr.frozen? ⟨w.heap.size + 1, 1, none⟩ = false ∧ wr.frozen? ⟨w.heap.size + 1, 2, none⟩ = false ∧ wr.frozen? ⟨w.heap.size + 1, 3, none⟩ = false ∧ w.heap.size + 1 < wr.heap.size ∧ Below w.heap.size w wr) (fun i _ _ => n - (RowKit.intOf i).toNat)
  case atStart =>
    refine ⟨0, 0, 0, Nat.zero_le _, rfl, Lib.hid rfl, Lib.hid rfl, Lib.hid (by omega), Lib.hid (World.ownsRow_nil _ _ _ _), ?_, ?_, ?_, ?_, ?_, ?_, ?_, ?_, ?_, ?_, ?_, ?_, ?_, ?_, ?_, ?_, ?_, ?_⟩
    all_goals first | (simp [go_sem]; done) | exact below_al2 w _ _
  case round =>
    obtain ⟨k, L, F, hk, rfl, HL, HF, HB, HO, c0, c1, c2, c3, e0, e1, e2, e3, d0, d1, d2, d3, g0, g1, g2, g3, nA, hbr⟩ := hrel
    have nR : w.heap.size < wr.heap.size := by omega
    by_cases hlt : k < n
    · obtain ⟨⟨a, s, l, f⟩, hp⟩ : ∃ p, xs[k]? = some p := ⟨_, List.getElem?_eq_getElem (by rw [Hn.out]; exact hlt)⟩
      obtain ⟨g, off, rfl, hg, hR⟩ := HR.out (by omega)
      have hgw : g < wr.heap.size := by omega
      have q : ∀ j, j < 4 → wr.cell? ⟨g, off + k * 4 + j, none⟩ = (cKg ⟨a, s, l, f⟩)[j]? := fun j hj => (hbr.cell (p := ⟨g, off + k * 4 + j, none⟩) hg).trans (hR k _ hp j hj)
      have q0 : wr.cell? ⟨g, off + k * 4, none⟩ = some (.int .i64 a) := q 0 (by omega)
      have q1 : wr.cell? ⟨g, off + k * 4 + 1, none⟩ = some (.int .i64 s) := q 1 (by omega)
      have q2 : wr.cell? ⟨g, off + k * 4 + 2, none⟩ = some (.int .i64 l) := q 2 (by omega)
      have q3 : wr.cell? ⟨g, off + k * 4 + 3, none⟩ = some (.int .i64 f) := q 3 (by omega)
      have hkb := HX.out k _ hp
      obtain ⟨b1, b2, b3, b4, b5, b6, b7, b8⟩ := kgB_of hkb
      obtain ⟨t1, t2, t3⟩ := HT.out k _ hp
      dsimp only at b1 b2 b3 b4 b5 b6 b7 b8 t1 t2 t3
      rw [← HL.out] at t2
      rw [← HF.out] at t3
      have HS' := Lib.hid t1
      have CM := Lib.hid (bmass_any a s (by simp [spB]; omega))
      have lm0 : 0 ≤ l * (a + s) := Int.mul_nonneg b5 (by omega)
      have lm1 : l * (a + s) ≤ 1000 * 1000000000 := Int.mul_le_mul b6 b4 (by omega) (by omega)
      obtain ⟨hL0, hL1⟩ := HB.out
      have y1 : IntKind.i64.wrap (l * (a + s)) = l * (a + s) := IntWalk.i64_in _ (by omega)
      have y2 : IntKind.i64.wrap (L + l * (a + s)) = L + l * (a + s) := IntWalk.i64_in _ (by omega)
      have m1 : ∀ tys ty w, (Builtin.max_ tys ty #[.int .i64 F, .int .i64 f]).run Try.prog w = .ok (.int .i64 (max F f)) w := fun _ _ _ => qmax2 _ _ _ _ _ _
      have HB' : Hid (0 ≤ L + l * (a + s) ∧ L + l * (a + s) ≤ 1000000000000 * ((k + 1 : Nat) : Int)) := Lib.hid ⟨by omega, by omega⟩
      have HL' := Lib.hid t2.symm
      have HF' := Lib.hid t3.symm
      generalize max F f = F' at *
      generalize a + s = m at *
      have hOb := World.ownsRow.lt HO.out
      clear t1 t2 t3 hR hp q HL HF HB hkb lm0 lm1 hL0 hL1 b1 b2 b3 b4 b5 b6 b7 b8
      go_wp2_with (at_builtin; refine wpList_append_own_at _ rfl (.tmp 13) (.tmp 16) 26 rfl (w.heap.size + 2) 30 i0 (.agg #[.int .i64 0, .int .i64 0]) 2 16 Try.underlying26 hi0 hz0 hz1 hz2 rfl (by decide) u3 k (flat (sps (xs.take k))) rfl (World.ownsRow.alloc (World.ownsRow.alloc HO.out _) _) ⟨wr.heap.size + 1, 0, none⟩ 1 1 [.int .i64 a, .int .i64 s] rfl rfl ?_ ?_ ?_ ?_ ?_ ?_)
      case refine_1 =>
        intro j u hj
        rcases j with _ | _ | j
        · simp at hj; subst hj; exact (cell_at _ _ _ _ _ (by simp))
        · simp at hj; subst hj; exact (cell_at _ _ _ _ _ (by simp))
        · simp at hj
      case refine_2 => simp [Value.oneCell']
      case refine_3 => unfold maxLen; omega
      case refine_4 => omega
      case refine_5 => simp; omega
      case refine_6 =>
        intro v' w2 hown' hgrow _ hat
        have hg2 := grown_after (w := wr) (below_al2 wr _ _) hgrow
        have nAB : w.heap.size + 1 < wr.heap.size := nA
        have nK : wr.heap.size < w2.heap.size := by have := hgrow.size; simp at this; omega
        have neK : u3.ownBlock ≠ some wr.heap.size := fun h => by have := (hOb _ h).2; omega
        have neR : u3.ownBlock ≠ some w.heap.size := fun h => by have := (hOb _ h).1; omega
        have neA : u3.ownBlock ≠ some (w.heap.size + 1) := fun h => by have := (hOb _ h).1; omega
        have x0 : w2.cell? ⟨wr.heap.size, 0, none⟩ = some (.int .i64 a) := grown_keep hgrow (by simp; omega) neK (by simp [go_sem])
        have x1 : w2.cell? ⟨wr.heap.size, 1, none⟩ = some (.int .i64 s) := grown_keep hgrow (by simp; omega) neK (by simp [go_sem])
        have x2 : w2.cell? ⟨wr.heap.size, 2, none⟩ = some (.int .i64 l) := grown_keep hgrow (by simp; omega) neK (by simp [go_sem])
        have x3 : w2.cell? ⟨wr.heap.size, 3, none⟩ = some (.int .i64 f) := grown_keep hgrow (by simp; omega) neK (by simp [go_sem])
        replace c0 := grown_keep hg2 nR neR c0
        replace d0 := grown_keep hg2 nA neA d0
        replace e0 := grown_keepf hg2 nR neR e0
        replace g0 := grown_keepf hg2 nA neA g0
        replace c1 := grown_keep hg2 nR neR c1
        replace d1 := grown_keep hg2 nA neA d1
        replace e1 := grown_keepf hg2 nR neR e1
        replace g1 := grown_keepf hg2 nA neA g1
        replace c2 := grown_keep hg2 nR neR c2
        replace d2 := grown_keep hg2 nA neA d2
        replace e2 := grown_keepf hg2 nR neR e2
        replace g2 := grown_keepf hg2 nA neA g2
        replace c3 := grown_keep hg2 nR neR c3
        replace d3 := grown_keep hg2 nA neA d3
        replace e3 := grown_keepf hg2 nR neR e3
        replace g3 := grown_keepf hg2 nA neA g3
        have hsz := hg2.size
        replace nR : w.heap.size < w2.heap.size := by omega
        replace nA : w.heap.size + 1 < w2.heap.size := by omega
        clear hsz
        replace hbr := hbr.grown hg2 hbr.size (fun g h => by have := (hOb g h).1; omega)
        replace HO : Hid (w2.ownsRow (w.heap.size + 2) 30 2 v' (k + 1) (flat (sps (xs.take (k + 1))))) := Lib.hid (by rw [HS'.out, flat_append, flat_one]; exact hown')
        have hneA : v'.ownBlock ≠ some (w.heap.size + 1) := fun h => by have := (World.ownsRow.lt HO.out _ h).1; omega
        clear hown' hgrow hat hg2 hOb neK neR neA HS' q0 q1 q2 q3 hgw hg
        generalize wr.heap.size = B at *
        go_wp2_with fail
        have hBW : w.heap.size ≤ w2.heap.size := Nat.le_of_lt nR
        refine wp_region_held_drew (S := fun w' => w'.cell? ⟨B, 0, none⟩ = some (.int .i64 a) ∧ w'.cell? ⟨B, 1, none⟩ = some (.int .i64 s) ∧ w'.cell? ⟨B, 2, none⟩ = some (.int .i64 l) ∧ True) (by kernel_rfl) ?_ (fun hHeld => ?_)
        focus (exact ⟨x0, x1, x2, trivial⟩)
        have hL : Below w.heap.size w2 w2.drew := Below.drew (Below.refl _ _)
        replace c0 : w2.drew.cell? ⟨w.heap.size, 0, none⟩ = some (.int .i64 0) := c0
        replace e0 : w2.drew.frozen? ⟨w.heap.size, 0, none⟩ = false := e0
        replace g0 : w2.drew.frozen? ⟨w.heap.size + 1, 0, none⟩ = false := g0
        replace c1 : w2.drew.cell? ⟨w.heap.size, 1, none⟩ = some (.int .i64 0) := c1
        replace e1 : w2.drew.frozen? ⟨w.heap.size, 1, none⟩ = false := e1
        replace g1 : w2.drew.frozen? ⟨w.heap.size + 1, 1, none⟩ = false := g1
        replace c2 : w2.drew.cell? ⟨w.heap.size, 2, none⟩ = some (.int .i64 0) := c2
        replace e2 : w2.drew.frozen? ⟨w.heap.size, 2, none⟩ = false := e2
        replace g2 : w2.drew.frozen? ⟨w.heap.size + 1, 2, none⟩ = false := g2
        replace c3 : w2.drew.cell? ⟨w.heap.size, 3, none⟩ = some (.int .i64 0) := c3
        replace e3 : w2.drew.frozen? ⟨w.heap.size, 3, none⟩ = false := e3
        replace g3 : w2.drew.frozen? ⟨w.heap.size + 1, 3, none⟩ = false := g3
        replace d0 : w2.drew.cell? ⟨w.heap.size + 1, 0, none⟩ = some (.int .i64 0) := d0
        replace d1 : w2.drew.cell? ⟨w.heap.size + 1, 1, none⟩ = some (.int .i64 0) := d1
        replace d2 : w2.drew.cell? ⟨w.heap.size + 1, 2, none⟩ = some (.int .i64 L) := d2
        replace d3 : w2.drew.cell? ⟨w.heap.size + 1, 3, none⟩ = some (.int .i64 F) := d3
        replace x0 : w2.drew.cell? ⟨B, 0, none⟩ = some (.int .i64 a) := x0
        replace x1 : w2.drew.cell? ⟨B, 1, none⟩ = some (.int .i64 s) := x1
        replace x2 : w2.drew.cell? ⟨B, 2, none⟩ = some (.int .i64 l) := x2
        replace x3 : w2.drew.cell? ⟨B, 3, none⟩ = some (.int .i64 f) := x3
        replace nR : w.heap.size < w2.drew.heap.size := nR
        replace nA : w.heap.size + 1 < w2.drew.heap.size := nA
        replace nK : B < w2.drew.heap.size := nK
        replace HO := Lib.hid (own_drew HO.out)
        generalize hWd : w2.drew = wd7 at hHeld hL c0 e0 g0 c1 e1 g1 c2 e2 g2 c3 e3 g3 d0 d1 d2 d3 x0 x1 x2 x3 nR nA nK HO ⊢
        clear hWd
        refine take_slot (i := 0) (d := 18) (v := ?_) rfl rfl (by kernel_rfl) (by kernel_rfl) (by kernel_rfl) (fun _ _ _ h => h) (Or.inl ⟨by rfl, ?_⟩) (by assumption) ?_
        rotate_left 1
        focus (intro wS hSw; (try dsimp only at hSw); go_simp; try with_reducible rfl)
        try simp only [List.setIfInBounds_toArray, List.set_cons_zero, List.set_cons_succ]
        refine take_slot (i := 2) (d := 20) (v := ?_) rfl rfl (by kernel_rfl) (by kernel_rfl) (by kernel_rfl) (fun _ _ _ h => h) (Or.inl ⟨by rfl, ?_⟩) (by assumption) ?_
        rotate_left 1
        focus (intro wS hSw; (try dsimp only at hSw); go_simp; try with_reducible rfl)
        try simp only [List.setIfInBounds_toArray, List.set_cons_zero, List.set_cons_succ]
        refine take_slot (i := 3) (d := 21) (v := ?_) rfl rfl (by kernel_rfl) (by kernel_rfl) (by kernel_rfl) (fun _ _ _ h => h) (Or.inl ⟨by rfl, ?_⟩) (by assumption) ?_
        rotate_left 1
        focus (intro wS hSw; (try dsimp only at hSw); go_simp; try with_reducible rfl)
        try simp only [List.setIfInBounds_toArray, List.set_cons_zero, List.set_cons_succ]
        refine take_slot (i := 4) (d := 22) (v := ?_) rfl rfl (by kernel_rfl) (by kernel_rfl) (by kernel_rfl) (fun _ _ _ h => h) (Or.inl ⟨by rfl, ?_⟩) (by assumption) ?_
        rotate_left 1
        focus (intro wS hSw; (try dsimp only at hSw); go_simp; try with_reducible rfl)
        try simp only [List.setIfInBounds_toArray, List.set_cons_zero, List.set_cons_succ]
        refine take_slot (i := 5) (d := 23) (v := ?_) rfl rfl (by kernel_rfl) (by kernel_rfl) (by kernel_rfl) (fun _ _ _ h => h) (Or.inl ⟨by rfl, ?_⟩) (by assumption) ?_
        rotate_left 1
        focus (intro wS hSw; (try dsimp only at hSw); go_simp; try with_reducible rfl)
        try simp only [List.setIfInBounds_toArray, List.set_cons_zero, List.set_cons_succ]
        refine wpAnyH_ready (rs := [1, 6]) (by kernel_rfl) (by simp) ?_
        refine AllReadyH.cons rfl (fun K hK => ?_) (AllReadyH.cons rfl (fun K hK => ?_) AllReadyH.nil)
        · go_simp
          refine hK.out _ _ ⟨x0, x1, x2, trivial⟩ (fun hHeld => ?_)
          clear hK K
          try simp only [Act.put, List.setIfInBounds_toArray, List.set_cons_zero, List.set_cons_succ]
          refine wpAnyH_ready (rs := [6]) (by kernel_rfl) (by simp) ?_
          refine AllReadyH.cons rfl (fun K hK => ?_) AllReadyH.nil
          go_simp
          refine (CM.out _).mono ?_
          rintro e Z7x2 ⟨rfl, hb⟩
          replace c0 := cell_next hb nR c0
          replace e0 := frozen_next hb nR e0
          replace g0 := frozen_next hb nA g0
          replace c1 := cell_next hb nR c1
          replace e1 := frozen_next hb nR e1
          replace g1 := frozen_next hb nA g1
          replace c2 := cell_next hb nR c2
          replace e2 := frozen_next hb nR e2
          replace g2 := frozen_next hb nA g2
          replace c3 := cell_next hb nR c3
          replace e3 := frozen_next hb nR e3
          replace g3 := frozen_next hb nA g3
          replace d0 := cell_next hb nA d0
          replace d1 := cell_next hb nA d1
          replace d2 := cell_next hb nA d2
          replace d3 := cell_next hb nA d3
          replace x0 := cell_next hb nK x0
          replace x1 := cell_next hb nK x1
          replace x2 := cell_next hb nK x2
          replace x3 := cell_next hb nK x3
          replace nR := Nat.lt_of_lt_of_le nR hb.size
          replace nA := Nat.lt_of_lt_of_le nA hb.size
          replace nK := Nat.lt_of_lt_of_le nK hb.size
          replace hL := hL.trans (hb.mono (Nat.le_trans hBW hL.size))
          replace HO := Lib.hid (own_below HO.out hb)
          refine hK.out _ _ ⟨x0, x1, x2, trivial⟩ (fun hHeld => ?_)
          clear hK K hb
          try simp only [Act.put, List.setIfInBounds_toArray, List.set_cons_zero, List.set_cons_succ]
          refine take_slot (i := 7) (d := 25) (v := ?_) rfl rfl (by kernel_rfl) (by kernel_rfl) (by kernel_rfl) (fun _ _ _ h => h) (Or.inl ⟨by rfl, ?_⟩) (by assumption) ?_
          rotate_left 1
          focus (intro wS hSw; (try dsimp only at hSw); go_simp; try with_reducible rfl)
          try simp only [List.setIfInBounds_toArray, List.set_cons_zero, List.set_cons_succ]
          refine take_slot (i := 8) (d := 26) (v := ?_) rfl rfl (by kernel_rfl) (by kernel_rfl) (by kernel_rfl) (fun _ _ _ h => h) (Or.inl ⟨by rfl, ?_⟩) (by assumption) ?_
          rotate_left 1
          focus (intro wS hSw; (try dsimp only at hSw); go_simp; try with_reducible rfl)
          try simp only [List.setIfInBounds_toArray, List.set_cons_zero, List.set_cons_succ]
          refine take_slot (i := 9) (d := 27) (v := ?_) rfl rfl (by kernel_rfl) (by kernel_rfl) (by kernel_rfl) (fun _ _ _ h => h) (Or.inl ⟨by rfl, ?_⟩) (by assumption) ?_
          rotate_left 1
          focus (intro wS hSw; (try dsimp only at hSw); go_simp; try with_reducible rfl)
          try simp only [List.setIfInBounds_toArray, List.set_cons_zero, List.set_cons_succ]
          refine wpAnyH_ready (rs := [10]) (by kernel_rfl) (by simp) ?_
          refine AllReadyH.cons rfl (fun K hK => ?_) AllReadyH.nil
          go_simp
          replace HO := Lib.hid (own_set1 HO.out hneA 2 (.int .i64 (L + l * m)))
          replace c0 : (Z7x2.setCell ⟨w.heap.size + 1, 2, none⟩ (.int .i64 (L + l * m))).cell? ⟨w.heap.size, 0, none⟩ = some (.int .i64 0) := ((World.cell?_setCell_other _ _ _ _ (by intro e; injection e with e1 e2; omega)).trans c0)
          replace e0 : (Z7x2.setCell ⟨w.heap.size + 1, 2, none⟩ (.int .i64 (L + l * m))).frozen? ⟨w.heap.size, 0, none⟩ = false := by simp [go_sem, e0]
          replace g0 : (Z7x2.setCell ⟨w.heap.size + 1, 2, none⟩ (.int .i64 (L + l * m))).frozen? ⟨w.heap.size + 1, 0, none⟩ = false := by simp [go_sem, g0]
          replace c1 : (Z7x2.setCell ⟨w.heap.size + 1, 2, none⟩ (.int .i64 (L + l * m))).cell? ⟨w.heap.size, 1, none⟩ = some (.int .i64 0) := ((World.cell?_setCell_other _ _ _ _ (by intro e; injection e with e1 e2; omega)).trans c1)
          replace e1 : (Z7x2.setCell ⟨w.heap.size + 1, 2, none⟩ (.int .i64 (L + l * m))).frozen? ⟨w.heap.size, 1, none⟩ = false := by simp [go_sem, e1]
          replace g1 : (Z7x2.setCell ⟨w.heap.size + 1, 2, none⟩ (.int .i64 (L + l * m))).frozen? ⟨w.heap.size + 1, 1, none⟩ = false := by simp [go_sem, g1]
          replace c2 : (Z7x2.setCell ⟨w.heap.size + 1, 2, none⟩ (.int .i64 (L + l * m))).cell? ⟨w.heap.size, 2, none⟩ = some (.int .i64 0) := ((World.cell?_setCell_other _ _ _ _ (by intro e; injection e with e1 e2; omega)).trans c2)
          replace e2 : (Z7x2.setCell ⟨w.heap.size + 1, 2, none⟩ (.int .i64 (L + l * m))).frozen? ⟨w.heap.size, 2, none⟩ = false := by simp [go_sem, e2]
          replace g2 : (Z7x2.setCell ⟨w.heap.size + 1, 2, none⟩ (.int .i64 (L + l * m))).frozen? ⟨w.heap.size + 1, 2, none⟩ = false := by simp [go_sem, g2]
          replace c3 : (Z7x2.setCell ⟨w.heap.size + 1, 2, none⟩ (.int .i64 (L + l * m))).cell? ⟨w.heap.size, 3, none⟩ = some (.int .i64 0) := ((World.cell?_setCell_other _ _ _ _ (by intro e; injection e with e1 e2; omega)).trans c3)
          replace e3 : (Z7x2.setCell ⟨w.heap.size + 1, 2, none⟩ (.int .i64 (L + l * m))).frozen? ⟨w.heap.size, 3, none⟩ = false := by simp [go_sem, e3]
          replace g3 : (Z7x2.setCell ⟨w.heap.size + 1, 2, none⟩ (.int .i64 (L + l * m))).frozen? ⟨w.heap.size + 1, 3, none⟩ = false := by simp [go_sem, g3]
          replace d0 : (Z7x2.setCell ⟨w.heap.size + 1, 2, none⟩ (.int .i64 (L + l * m))).cell? ⟨w.heap.size + 1, 0, none⟩ = some (.int .i64 0) := ((World.cell?_setCell_other _ _ _ _ (by intro e; injection e with e1 e2; omega)).trans d0)
          replace d1 : (Z7x2.setCell ⟨w.heap.size + 1, 2, none⟩ (.int .i64 (L + l * m))).cell? ⟨w.heap.size + 1, 1, none⟩ = some (.int .i64 0) := ((World.cell?_setCell_other _ _ _ _ (by intro e; injection e with e1 e2; omega)).trans d1)
          replace d2 : (Z7x2.setCell ⟨w.heap.size + 1, 2, none⟩ (.int .i64 (L + l * m))).cell? ⟨w.heap.size + 1, 2, none⟩ = some (.int .i64 (L + l * m)) := by simp [go_sem, d2]
          replace d3 : (Z7x2.setCell ⟨w.heap.size + 1, 2, none⟩ (.int .i64 (L + l * m))).cell? ⟨w.heap.size + 1, 3, none⟩ = some (.int .i64 F) := ((World.cell?_setCell_other _ _ _ _ (by intro e; injection e with e1 e2; omega)).trans d3)
          replace x0 : (Z7x2.setCell ⟨w.heap.size + 1, 2, none⟩ (.int .i64 (L + l * m))).cell? ⟨B, 0, none⟩ = some (.int .i64 a) := ((World.cell?_setCell_other _ _ _ _ (by intro e; injection e with e1 e2; omega)).trans x0)
          replace x1 : (Z7x2.setCell ⟨w.heap.size + 1, 2, none⟩ (.int .i64 (L + l * m))).cell? ⟨B, 1, none⟩ = some (.int .i64 s) := ((World.cell?_setCell_other _ _ _ _ (by intro e; injection e with e1 e2; omega)).trans x1)
          replace x2 : (Z7x2.setCell ⟨w.heap.size + 1, 2, none⟩ (.int .i64 (L + l * m))).cell? ⟨B, 2, none⟩ = some (.int .i64 l) := ((World.cell?_setCell_other _ _ _ _ (by intro e; injection e with e1 e2; omega)).trans x2)
          replace x3 : (Z7x2.setCell ⟨w.heap.size + 1, 2, none⟩ (.int .i64 (L + l * m))).cell? ⟨B, 3, none⟩ = some (.int .i64 f) := ((World.cell?_setCell_other _ _ _ _ (by intro e; injection e with e1 e2; omega)).trans x3)
          replace nR : w.heap.size < (Z7x2.setCell ⟨w.heap.size + 1, 2, none⟩ (.int .i64 (L + l * m))).heap.size := by simpa [World.setCell] using nR
          replace nA : w.heap.size + 1 < (Z7x2.setCell ⟨w.heap.size + 1, 2, none⟩ (.int .i64 (L + l * m))).heap.size := by simpa [World.setCell] using nA
          replace nK : B < (Z7x2.setCell ⟨w.heap.size + 1, 2, none⟩ (.int .i64 (L + l * m))).heap.size := by simpa [World.setCell] using nK
          replace hL := hL.setCell (p := ⟨w.heap.size + 1, 2, none⟩) (by show w.heap.size ≤ w.heap.size + 1; omega) (.int .i64 (L + l * m))
          refine hK.out _ _ ⟨x0, x1, x2, trivial⟩ (fun hHeld => ?_)
          clear hK K
          generalize (Z7x2.setCell ⟨w.heap.size + 1, 2, none⟩ (.int .i64 (L + l * m))) = Z7x3 at *
          try simp only [Act.put, List.setIfInBounds_toArray, List.set_cons_zero, List.set_cons_succ]
          refine wpAnyH_done (by kernel_rfl) ?_ _
          replace hbr := hbr.trans hL
          clear hHeld hL hBW
          go_wp2_with fail
          go_roundw
          case rel =>
            refine ⟨k + 1, L + l * m, F', by omega, by go_num, HL', HF', HB', Lib.hid ?_, ?_, ?_, ?_, ?_, ?_, ?_, ?_, ?_, ?_, ?_, ?_, ?_, ?_, ?_, ?_, ?_, ?_, ?_⟩
            · exact own_set1 HO.out hneA 3 (.int .i64 F')
            all_goals first | (simp [go_sem, *]; done) | exact hbr.setCell (p := ⟨w.heap.size + 1, 3, none⟩) (Nat.le_succ _) _
          case measure => simp [RowKit.intOf]; omega
        · go_simp
          refine (CM.out _).mono ?_
          rintro e Z7x4 ⟨rfl, hb⟩
          replace c0 := cell_next hb nR c0
          replace e0 := frozen_next hb nR e0
          replace g0 := frozen_next hb nA g0
          replace c1 := cell_next hb nR c1
          replace e1 := frozen_next hb nR e1
          replace g1 := frozen_next hb nA g1
          replace c2 := cell_next hb nR c2
          replace e2 := frozen_next hb nR e2
          replace g2 := frozen_next hb nA g2
          replace c3 := cell_next hb nR c3
          replace e3 := frozen_next hb nR e3
          replace g3 := frozen_next hb nA g3
          replace d0 := cell_next hb nA d0
          replace d1 := cell_next hb nA d1
          replace d2 := cell_next hb nA d2
          replace d3 := cell_next hb nA d3
          replace x0 := cell_next hb nK x0
          replace x1 := cell_next hb nK x1
          replace x2 := cell_next hb nK x2
          replace x3 := cell_next hb nK x3
          replace nR := Nat.lt_of_lt_of_le nR hb.size
          replace nA := Nat.lt_of_lt_of_le nA hb.size
          replace nK := Nat.lt_of_lt_of_le nK hb.size
          replace hL := hL.trans (hb.mono (Nat.le_trans hBW hL.size))
          replace HO := Lib.hid (own_below HO.out hb)
          refine hK.out _ _ ⟨x0, x1, x2, trivial⟩ (fun hHeld => ?_)
          clear hK K hb
          try simp only [Act.put, List.setIfInBounds_toArray, List.set_cons_zero, List.set_cons_succ]
          refine take_slot (i := 7) (d := 25) (v := ?_) rfl rfl (by kernel_rfl) (by kernel_rfl) (by kernel_rfl) (fun _ _ _ h => h) (Or.inl ⟨by rfl, ?_⟩) (by assumption) ?_
          rotate_left 1
          focus (intro wS hSw; (try dsimp only at hSw); go_simp; try with_reducible rfl)
          try simp only [List.setIfInBounds_toArray, List.set_cons_zero, List.set_cons_succ]
          refine wpAnyH_ready (rs := [1]) (by kernel_rfl) (by simp) ?_
          refine AllReadyH.cons rfl (fun K hK => ?_) AllReadyH.nil
          go_simp
          refine hK.out _ _ ⟨x0, x1, x2, trivial⟩ (fun hHeld => ?_)
          clear hK K
          try simp only [Act.put, List.setIfInBounds_toArray, List.set_cons_zero, List.set_cons_succ]
          refine take_slot (i := 8) (d := 26) (v := ?_) rfl rfl (by kernel_rfl) (by kernel_rfl) (by kernel_rfl) (fun _ _ _ h => h) (Or.inl ⟨by rfl, ?_⟩) (by assumption) ?_
          rotate_left 1
          focus (intro wS hSw; (try dsimp only at hSw); go_simp; try with_reducible rfl)
          try simp only [List.setIfInBounds_toArray, List.set_cons_zero, List.set_cons_succ]
          refine take_slot (i := 9) (d := 27) (v := ?_) rfl rfl (by kernel_rfl) (by kernel_rfl) (by kernel_rfl) (fun _ _ _ h => h) (Or.inl ⟨by rfl, ?_⟩) (by assumption) ?_
          rotate_left 1
          focus (intro wS hSw; (try dsimp only at hSw); go_simp; try with_reducible rfl)
          try simp only [List.setIfInBounds_toArray, List.set_cons_zero, List.set_cons_succ]
          refine wpAnyH_ready (rs := [10]) (by kernel_rfl) (by simp) ?_
          refine AllReadyH.cons rfl (fun K hK => ?_) AllReadyH.nil
          go_simp
          replace HO := Lib.hid (own_set1 HO.out hneA 2 (.int .i64 (L + l * m)))
          replace c0 : (Z7x4.setCell ⟨w.heap.size + 1, 2, none⟩ (.int .i64 (L + l * m))).cell? ⟨w.heap.size, 0, none⟩ = some (.int .i64 0) := ((World.cell?_setCell_other _ _ _ _ (by intro e; injection e with e1 e2; omega)).trans c0)
          replace e0 : (Z7x4.setCell ⟨w.heap.size + 1, 2, none⟩ (.int .i64 (L + l * m))).frozen? ⟨w.heap.size, 0, none⟩ = false := by simp [go_sem, e0]
          replace g0 : (Z7x4.setCell ⟨w.heap.size + 1, 2, none⟩ (.int .i64 (L + l * m))).frozen? ⟨w.heap.size + 1, 0, none⟩ = false := by simp [go_sem, g0]
          replace c1 : (Z7x4.setCell ⟨w.heap.size + 1, 2, none⟩ (.int .i64 (L + l * m))).cell? ⟨w.heap.size, 1, none⟩ = some (.int .i64 0) := ((World.cell?_setCell_other _ _ _ _ (by intro e; injection e with e1 e2; omega)).trans c1)
          replace e1 : (Z7x4.setCell ⟨w.heap.size + 1, 2, none⟩ (.int .i64 (L + l * m))).frozen? ⟨w.heap.size, 1, none⟩ = false := by simp [go_sem, e1]
          replace g1 : (Z7x4.setCell ⟨w.heap.size + 1, 2, none⟩ (.int .i64 (L + l * m))).frozen? ⟨w.heap.size + 1, 1, none⟩ = false := by simp [go_sem, g1]
          replace c2 : (Z7x4.setCell ⟨w.heap.size + 1, 2, none⟩ (.int .i64 (L + l * m))).cell? ⟨w.heap.size, 2, none⟩ = some (.int .i64 0) := ((World.cell?_setCell_other _ _ _ _ (by intro e; injection e with e1 e2; omega)).trans c2)
          replace e2 : (Z7x4.setCell ⟨w.heap.size + 1, 2, none⟩ (.int .i64 (L + l * m))).frozen? ⟨w.heap.size, 2, none⟩ = false := by simp [go_sem, e2]
          replace g2 : (Z7x4.setCell ⟨w.heap.size + 1, 2, none⟩ (.int .i64 (L + l * m))).frozen? ⟨w.heap.size + 1, 2, none⟩ = false := by simp [go_sem, g2]
          replace c3 : (Z7x4.setCell ⟨w.heap.size + 1, 2, none⟩ (.int .i64 (L + l * m))).cell? ⟨w.heap.size, 3, none⟩ = some (.int .i64 0) := ((World.cell?_setCell_other _ _ _ _ (by intro e; injection e with e1 e2; omega)).trans c3)
          replace e3 : (Z7x4.setCell ⟨w.heap.size + 1, 2, none⟩ (.int .i64 (L + l * m))).frozen? ⟨w.heap.size, 3, none⟩ = false := by simp [go_sem, e3]
          replace g3 : (Z7x4.setCell ⟨w.heap.size + 1, 2, none⟩ (.int .i64 (L + l * m))).frozen? ⟨w.heap.size + 1, 3, none⟩ = false := by simp [go_sem, g3]
          replace d0 : (Z7x4.setCell ⟨w.heap.size + 1, 2, none⟩ (.int .i64 (L + l * m))).cell? ⟨w.heap.size + 1, 0, none⟩ = some (.int .i64 0) := ((World.cell?_setCell_other _ _ _ _ (by intro e; injection e with e1 e2; omega)).trans d0)
          replace d1 : (Z7x4.setCell ⟨w.heap.size + 1, 2, none⟩ (.int .i64 (L + l * m))).cell? ⟨w.heap.size + 1, 1, none⟩ = some (.int .i64 0) := ((World.cell?_setCell_other _ _ _ _ (by intro e; injection e with e1 e2; omega)).trans d1)
          replace d2 : (Z7x4.setCell ⟨w.heap.size + 1, 2, none⟩ (.int .i64 (L + l * m))).cell? ⟨w.heap.size + 1, 2, none⟩ = some (.int .i64 (L + l * m)) := by simp [go_sem, d2]
          replace d3 : (Z7x4.setCell ⟨w.heap.size + 1, 2, none⟩ (.int .i64 (L + l * m))).cell? ⟨w.heap.size + 1, 3, none⟩ = some (.int .i64 F) := ((World.cell?_setCell_other _ _ _ _ (by intro e; injection e with e1 e2; omega)).trans d3)
          replace x0 : (Z7x4.setCell ⟨w.heap.size + 1, 2, none⟩ (.int .i64 (L + l * m))).cell? ⟨B, 0, none⟩ = some (.int .i64 a) := ((World.cell?_setCell_other _ _ _ _ (by intro e; injection e with e1 e2; omega)).trans x0)
          replace x1 : (Z7x4.setCell ⟨w.heap.size + 1, 2, none⟩ (.int .i64 (L + l * m))).cell? ⟨B, 1, none⟩ = some (.int .i64 s) := ((World.cell?_setCell_other _ _ _ _ (by intro e; injection e with e1 e2; omega)).trans x1)
          replace x2 : (Z7x4.setCell ⟨w.heap.size + 1, 2, none⟩ (.int .i64 (L + l * m))).cell? ⟨B, 2, none⟩ = some (.int .i64 l) := ((World.cell?_setCell_other _ _ _ _ (by intro e; injection e with e1 e2; omega)).trans x2)
          replace x3 : (Z7x4.setCell ⟨w.heap.size + 1, 2, none⟩ (.int .i64 (L + l * m))).cell? ⟨B, 3, none⟩ = some (.int .i64 f) := ((World.cell?_setCell_other _ _ _ _ (by intro e; injection e with e1 e2; omega)).trans x3)
          replace nR : w.heap.size < (Z7x4.setCell ⟨w.heap.size + 1, 2, none⟩ (.int .i64 (L + l * m))).heap.size := by simpa [World.setCell] using nR
          replace nA : w.heap.size + 1 < (Z7x4.setCell ⟨w.heap.size + 1, 2, none⟩ (.int .i64 (L + l * m))).heap.size := by simpa [World.setCell] using nA
          replace nK : B < (Z7x4.setCell ⟨w.heap.size + 1, 2, none⟩ (.int .i64 (L + l * m))).heap.size := by simpa [World.setCell] using nK
          replace hL := hL.setCell (p := ⟨w.heap.size + 1, 2, none⟩) (by show w.heap.size ≤ w.heap.size + 1; omega) (.int .i64 (L + l * m))
          refine hK.out _ _ ⟨x0, x1, x2, trivial⟩ (fun hHeld => ?_)
          clear hK K
          generalize (Z7x4.setCell ⟨w.heap.size + 1, 2, none⟩ (.int .i64 (L + l * m))) = Z7x6 at *
          try simp only [Act.put, List.setIfInBounds_toArray, List.set_cons_zero, List.set_cons_succ]
          refine wpAnyH_done (by kernel_rfl) ?_ _
          replace hbr := hbr.trans hL
          clear hHeld hL hBW
          go_wp2_with fail
          go_roundw
          case rel =>
            refine ⟨k + 1, L + l * m, F', by omega, by go_num, HL', HF', HB', Lib.hid ?_, ?_, ?_, ?_, ?_, ?_, ?_, ?_, ?_, ?_, ?_, ?_, ?_, ?_, ?_, ?_, ?_, ?_, ?_⟩
            · exact own_set1 HO.out hneA 3 (.int .i64 F')
            all_goals first | (simp [go_sem, *]; done) | exact hbr.setCell (p := ⟨w.heap.size + 1, 3, none⟩) (Nat.le_succ _) _
          case measure => simp [RowKit.intOf]; omega
    · obtain rfl : k = n := by omega
      rw [hfull.out] at HO HL HF
      have C9 := Lib.hid (HMIX.out _ _ HO.out)
      have M0 : S1 + S2 ≠ 0 := by omega
      have CM := Lib.hid (bmass_any S1 S2 (by simp [spB]; omega))
      have hw1 : IntKind.i64.wrap (L.tdiv (S1 + S2)) = L.tdiv (S1 + S2) := IntWalk.i64_in _ (by obtain ⟨h1, h2⟩ := HB.out; rw [Int.tdiv_eq_ediv_of_nonneg h1]; have := Int.ediv_le_self (S1 + S2) h1; have := Int.ediv_nonneg h1 (show 0 ≤ S1 + S2 by omega); omega)
      have M1 : (S1 + S2 == 0) = false := by simpa using M0
      have E : Hid (RES = ⟨S1, S2, L.tdiv (S1 + S2), F⟩) := Lib.hid (by rw [HRES.out, HL.out, HF.out])
      clear HMIX HRES HL HF HB HX HT HR s1 s2 s3 s4 s5 s6 hfull HO
      generalize S1 + S2 = M at *
      go_wp2_with fail
      refine C9.out.mono ?_
      rintro e w3 ⟨rfl, hb⟩
      replace c0 := cell_next hb nR c0
      replace d0 := cell_next hb nA d0
      replace e0 := frozen_next hb nR e0
      replace g0 := frozen_next hb nA g0
      replace c1 := cell_next hb nR c1
      replace d1 := cell_next hb nA d1
      replace e1 := frozen_next hb nR e1
      replace g1 := frozen_next hb nA g1
      replace c2 := cell_next hb nR c2
      replace d2 := cell_next hb nA d2
      replace e2 := frozen_next hb nR e2
      replace g2 := frozen_next hb nA g2
      replace c3 := cell_next hb nR c3
      replace d3 := cell_next hb nA d3
      replace e3 := frozen_next hb nR e3
      replace g3 := frozen_next hb nA g3
      replace hbr := hbr.trans (hb.mono (Nat.le_of_lt nR))
      replace nR := Nat.lt_of_lt_of_le nR hb.size
      replace nA := Nat.lt_of_lt_of_le nA hb.size
      clear hb C9
      go_wp2_with fail
      replace c0 : ((w3.setCell ⟨w.heap.size + 1, 0, none⟩ (.int .i64 S1)).setCell ⟨w.heap.size + 1, 1, none⟩ (.int .i64 S2)).cell? ⟨w.heap.size, 0, none⟩ = some (.int .i64 0) := set2_far _ _ (by omega) c0
      replace c1 : ((w3.setCell ⟨w.heap.size + 1, 0, none⟩ (.int .i64 S1)).setCell ⟨w.heap.size + 1, 1, none⟩ (.int .i64 S2)).cell? ⟨w.heap.size, 1, none⟩ = some (.int .i64 0) := set2_far _ _ (by omega) c1
      replace c2 : ((w3.setCell ⟨w.heap.size + 1, 0, none⟩ (.int .i64 S1)).setCell ⟨w.heap.size + 1, 1, none⟩ (.int .i64 S2)).cell? ⟨w.heap.size, 2, none⟩ = some (.int .i64 0) := set2_far _ _ (by omega) c2
      replace c3 : ((w3.setCell ⟨w.heap.size + 1, 0, none⟩ (.int .i64 S1)).setCell ⟨w.heap.size + 1, 1, none⟩ (.int .i64 S2)).cell? ⟨w.heap.size, 3, none⟩ = some (.int .i64 0) := set2_far _ _ (by omega) c3
      obtain ⟨d0', d1'⟩ := set2 (.int .i64 S1) (.int .i64 S2) d0 d1
      replace d2 : ((w3.setCell ⟨w.heap.size + 1, 0, none⟩ (.int .i64 S1)).setCell ⟨w.heap.size + 1, 1, none⟩ (.int .i64 S2)).cell? ⟨w.heap.size + 1, 2, none⟩ = some (.int .i64 L) := by simp [go_sem, d2]
      replace d3 : ((w3.setCell ⟨w.heap.size + 1, 0, none⟩ (.int .i64 S1)).setCell ⟨w.heap.size + 1, 1, none⟩ (.int .i64 S2)).cell? ⟨w.heap.size + 1, 3, none⟩ = some (.int .i64 F) := by simp [go_sem, d3]
      replace e0 : ((w3.setCell ⟨w.heap.size + 1, 0, none⟩ (.int .i64 S1)).setCell ⟨w.heap.size + 1, 1, none⟩ (.int .i64 S2)).frozen? ⟨w.heap.size, 0, none⟩ = false := by simp [go_sem, e0]
      replace g0 : ((w3.setCell ⟨w.heap.size + 1, 0, none⟩ (.int .i64 S1)).setCell ⟨w.heap.size + 1, 1, none⟩ (.int .i64 S2)).frozen? ⟨w.heap.size + 1, 0, none⟩ = false := by simp [go_sem, g0]
      replace e1 : ((w3.setCell ⟨w.heap.size + 1, 0, none⟩ (.int .i64 S1)).setCell ⟨w.heap.size + 1, 1, none⟩ (.int .i64 S2)).frozen? ⟨w.heap.size, 1, none⟩ = false := by simp [go_sem, e1]
      replace g1 : ((w3.setCell ⟨w.heap.size + 1, 0, none⟩ (.int .i64 S1)).setCell ⟨w.heap.size + 1, 1, none⟩ (.int .i64 S2)).frozen? ⟨w.heap.size + 1, 1, none⟩ = false := by simp [go_sem, g1]
      replace e2 : ((w3.setCell ⟨w.heap.size + 1, 0, none⟩ (.int .i64 S1)).setCell ⟨w.heap.size + 1, 1, none⟩ (.int .i64 S2)).frozen? ⟨w.heap.size, 2, none⟩ = false := by simp [go_sem, e2]
      replace g2 : ((w3.setCell ⟨w.heap.size + 1, 0, none⟩ (.int .i64 S1)).setCell ⟨w.heap.size + 1, 1, none⟩ (.int .i64 S2)).frozen? ⟨w.heap.size + 1, 2, none⟩ = false := by simp [go_sem, g2]
      replace e3 : ((w3.setCell ⟨w.heap.size + 1, 0, none⟩ (.int .i64 S1)).setCell ⟨w.heap.size + 1, 1, none⟩ (.int .i64 S2)).frozen? ⟨w.heap.size, 3, none⟩ = false := by simp [go_sem, e3]
      replace g3 : ((w3.setCell ⟨w.heap.size + 1, 0, none⟩ (.int .i64 S1)).setCell ⟨w.heap.size + 1, 1, none⟩ (.int .i64 S2)).frozen? ⟨w.heap.size + 1, 3, none⟩ = false := by simp [go_sem, g3]
      replace nR : w.heap.size < ((w3.setCell ⟨w.heap.size + 1, 0, none⟩ (.int .i64 S1)).setCell ⟨w.heap.size + 1, 1, none⟩ (.int .i64 S2)).heap.size := by simpa [World.setCell] using nR
      replace nA : w.heap.size + 1 < ((w3.setCell ⟨w.heap.size + 1, 0, none⟩ (.int .i64 S1)).setCell ⟨w.heap.size + 1, 1, none⟩ (.int .i64 S2)).heap.size := by simpa [World.setCell] using nA
      replace hbr := (hbr.setCell (p := ⟨w.heap.size + 1, 0, none⟩) (Nat.le_succ _) (.int .i64 S1)).setCell (p := ⟨w.heap.size + 1, 1, none⟩) (Nat.le_succ _) (.int .i64 S2)
      clear d0 d1
      have d0 := d0'
      have d1 := d1'
      clear d0' d1'
      generalize ((w3.setCell ⟨w.heap.size + 1, 0, none⟩ (.int .i64 S1)).setCell ⟨w.heap.size + 1, 1, none⟩ (.int .i64 S2)) = w4 at *
      have hBW : w.heap.size ≤ w4.heap.size := Nat.le_of_lt nR
      refine wp_region_held_drew (S := fun w' => w'.cell? ⟨w.heap.size + 1, 0, none⟩ = some (.int .i64 S1) ∧ w'.cell? ⟨w.heap.size + 1, 1, none⟩ = some (.int .i64 S2) ∧ True) (by kernel_rfl) ?_ (fun hHeld => ?_)
      focus (exact ⟨d0, d1, trivial⟩)
      have hL : Below w.heap.size w4 w4.drew := Below.drew (Below.refl _ _)
      replace c0 : w4.drew.cell? ⟨w.heap.size, 0, none⟩ = some (.int .i64 0) := c0
      replace e0 : w4.drew.frozen? ⟨w.heap.size, 0, none⟩ = false := e0
      replace g0 : w4.drew.frozen? ⟨w.heap.size + 1, 0, none⟩ = false := g0
      replace c1 : w4.drew.cell? ⟨w.heap.size, 1, none⟩ = some (.int .i64 0) := c1
      replace e1 : w4.drew.frozen? ⟨w.heap.size, 1, none⟩ = false := e1
      replace g1 : w4.drew.frozen? ⟨w.heap.size + 1, 1, none⟩ = false := g1
      replace c2 : w4.drew.cell? ⟨w.heap.size, 2, none⟩ = some (.int .i64 0) := c2
      replace e2 : w4.drew.frozen? ⟨w.heap.size, 2, none⟩ = false := e2
      replace g2 : w4.drew.frozen? ⟨w.heap.size + 1, 2, none⟩ = false := g2
      replace c3 : w4.drew.cell? ⟨w.heap.size, 3, none⟩ = some (.int .i64 0) := c3
      replace e3 : w4.drew.frozen? ⟨w.heap.size, 3, none⟩ = false := e3
      replace g3 : w4.drew.frozen? ⟨w.heap.size + 1, 3, none⟩ = false := g3
      replace d0 : w4.drew.cell? ⟨w.heap.size + 1, 0, none⟩ = some (.int .i64 S1) := d0
      replace d1 : w4.drew.cell? ⟨w.heap.size + 1, 1, none⟩ = some (.int .i64 S2) := d1
      replace d2 : w4.drew.cell? ⟨w.heap.size + 1, 2, none⟩ = some (.int .i64 L) := d2
      replace d3 : w4.drew.cell? ⟨w.heap.size + 1, 3, none⟩ = some (.int .i64 F) := d3
      replace nR : w.heap.size < w4.drew.heap.size := nR
      replace nA : w.heap.size + 1 < w4.drew.heap.size := nA
      generalize hWd : w4.drew = wd11 at hHeld hL c0 e0 g0 c1 e1 g1 c2 e2 g2 c3 e3 g3 d0 d1 d2 d3 nR nA  ⊢
      clear hWd
      refine take_slot (i := 0) (d := 41) (v := ?_) rfl rfl (by kernel_rfl) (by kernel_rfl) (by kernel_rfl) (fun _ _ _ h => h) (Or.inl ⟨by rfl, ?_⟩) (by assumption) ?_
      rotate_left 1
      focus (intro wS hSw; (try dsimp only at hSw); go_simp; try with_reducible rfl)
      try simp only [List.setIfInBounds_toArray, List.set_cons_zero, List.set_cons_succ]
      refine take_slot (i := 2) (d := 43) (v := ?_) rfl rfl (by kernel_rfl) (by kernel_rfl) (by kernel_rfl) (fun _ _ _ h => h) (Or.inl ⟨by rfl, ?_⟩) (by assumption) ?_
      rotate_left 1
      focus (intro wS hSw; (try dsimp only at hSw); go_simp; try with_reducible rfl)
      try simp only [List.setIfInBounds_toArray, List.set_cons_zero, List.set_cons_succ]
      refine take_slot (i := 3) (d := 44) (v := ?_) rfl rfl (by kernel_rfl) (by kernel_rfl) (by kernel_rfl) (fun _ _ _ h => h) (Or.inl ⟨by rfl, ?_⟩) (by assumption) ?_
      rotate_left 1
      focus (intro wS hSw; (try dsimp only at hSw); go_simp; try with_reducible rfl)
      try simp only [List.setIfInBounds_toArray, List.set_cons_zero, List.set_cons_succ]
      refine wpAnyH_ready (rs := [1, 4]) (by kernel_rfl) (by simp) ?_
      refine AllReadyH.cons rfl (fun K hK => ?_) (AllReadyH.cons rfl (fun K hK => ?_) AllReadyH.nil)
      · go_simp
        refine hK.out _ _ ⟨d0, d1, trivial⟩ (fun hHeld => ?_)
        clear hK K
        try simp only [Act.put, List.setIfInBounds_toArray, List.set_cons_zero, List.set_cons_succ]
        refine wpAnyH_ready (rs := [4]) (by kernel_rfl) (by simp) ?_
        refine AllReadyH.cons rfl (fun K hK => ?_) AllReadyH.nil
        go_simp
        refine (CM.out _).mono ?_
        rintro e Z11x2 ⟨rfl, hb⟩
        replace c0 := cell_next hb nR c0
        replace e0 := frozen_next hb nR e0
        replace g0 := frozen_next hb nA g0
        replace c1 := cell_next hb nR c1
        replace e1 := frozen_next hb nR e1
        replace g1 := frozen_next hb nA g1
        replace c2 := cell_next hb nR c2
        replace e2 := frozen_next hb nR e2
        replace g2 := frozen_next hb nA g2
        replace c3 := cell_next hb nR c3
        replace e3 := frozen_next hb nR e3
        replace g3 := frozen_next hb nA g3
        replace d0 := cell_next hb nA d0
        replace d1 := cell_next hb nA d1
        replace d2 := cell_next hb nA d2
        replace d3 := cell_next hb nA d3
        replace nR := Nat.lt_of_lt_of_le nR hb.size
        replace nA := Nat.lt_of_lt_of_le nA hb.size
        replace hL := hL.trans (hb.mono (Nat.le_trans hBW hL.size))
        refine hK.out _ _ ⟨d0, d1, trivial⟩ (fun hHeld => ?_)
        clear hK K hb
        try simp only [Act.put, List.setIfInBounds_toArray, List.set_cons_zero, List.set_cons_succ]
        refine take_slot (i := 5) (d := 46) (v := ?_) rfl rfl (by kernel_rfl) (by kernel_rfl) (by kernel_rfl) (fun _ _ _ h => h) (Or.inl ⟨by rfl, ?_⟩) (by assumption) ?_
        rotate_left 1
        focus (intro wS hSw; (try dsimp only at hSw); go_simp; try with_reducible rfl)
        try simp only [List.setIfInBounds_toArray, List.set_cons_zero, List.set_cons_succ]
        refine take_slot (i := 6) (d := 47) (v := ?_) rfl rfl (by kernel_rfl) (by kernel_rfl) (by kernel_rfl) (fun _ _ _ h => h) (Or.inl ⟨by rfl, ?_⟩) (by assumption) ?_
        rotate_left 1
        focus (intro wS hSw; (try dsimp only at hSw); go_simp; try with_reducible rfl)
        try simp only [List.setIfInBounds_toArray, List.set_cons_zero, List.set_cons_succ]
        refine wpAnyH_ready (rs := [7]) (by kernel_rfl) (by simp) ?_
        refine AllReadyH.cons rfl (fun K hK => ?_) AllReadyH.nil
        go_simp
        replace c0 : (Z11x2.setCell ⟨w.heap.size + 1, 2, none⟩ (.int .i64 (L.tdiv M))).cell? ⟨w.heap.size, 0, none⟩ = some (.int .i64 0) := ((World.cell?_setCell_other _ _ _ _ (by intro e; injection e with e1 e2; omega)).trans c0)
        replace e0 : (Z11x2.setCell ⟨w.heap.size + 1, 2, none⟩ (.int .i64 (L.tdiv M))).frozen? ⟨w.heap.size, 0, none⟩ = false := by simp [go_sem, e0]
        replace g0 : (Z11x2.setCell ⟨w.heap.size + 1, 2, none⟩ (.int .i64 (L.tdiv M))).frozen? ⟨w.heap.size + 1, 0, none⟩ = false := by simp [go_sem, g0]
        replace c1 : (Z11x2.setCell ⟨w.heap.size + 1, 2, none⟩ (.int .i64 (L.tdiv M))).cell? ⟨w.heap.size, 1, none⟩ = some (.int .i64 0) := ((World.cell?_setCell_other _ _ _ _ (by intro e; injection e with e1 e2; omega)).trans c1)
        replace e1 : (Z11x2.setCell ⟨w.heap.size + 1, 2, none⟩ (.int .i64 (L.tdiv M))).frozen? ⟨w.heap.size, 1, none⟩ = false := by simp [go_sem, e1]
        replace g1 : (Z11x2.setCell ⟨w.heap.size + 1, 2, none⟩ (.int .i64 (L.tdiv M))).frozen? ⟨w.heap.size + 1, 1, none⟩ = false := by simp [go_sem, g1]
        replace c2 : (Z11x2.setCell ⟨w.heap.size + 1, 2, none⟩ (.int .i64 (L.tdiv M))).cell? ⟨w.heap.size, 2, none⟩ = some (.int .i64 0) := ((World.cell?_setCell_other _ _ _ _ (by intro e; injection e with e1 e2; omega)).trans c2)
        replace e2 : (Z11x2.setCell ⟨w.heap.size + 1, 2, none⟩ (.int .i64 (L.tdiv M))).frozen? ⟨w.heap.size, 2, none⟩ = false := by simp [go_sem, e2]
        replace g2 : (Z11x2.setCell ⟨w.heap.size + 1, 2, none⟩ (.int .i64 (L.tdiv M))).frozen? ⟨w.heap.size + 1, 2, none⟩ = false := by simp [go_sem, g2]
        replace c3 : (Z11x2.setCell ⟨w.heap.size + 1, 2, none⟩ (.int .i64 (L.tdiv M))).cell? ⟨w.heap.size, 3, none⟩ = some (.int .i64 0) := ((World.cell?_setCell_other _ _ _ _ (by intro e; injection e with e1 e2; omega)).trans c3)
        replace e3 : (Z11x2.setCell ⟨w.heap.size + 1, 2, none⟩ (.int .i64 (L.tdiv M))).frozen? ⟨w.heap.size, 3, none⟩ = false := by simp [go_sem, e3]
        replace g3 : (Z11x2.setCell ⟨w.heap.size + 1, 2, none⟩ (.int .i64 (L.tdiv M))).frozen? ⟨w.heap.size + 1, 3, none⟩ = false := by simp [go_sem, g3]
        replace d0 : (Z11x2.setCell ⟨w.heap.size + 1, 2, none⟩ (.int .i64 (L.tdiv M))).cell? ⟨w.heap.size + 1, 0, none⟩ = some (.int .i64 S1) := ((World.cell?_setCell_other _ _ _ _ (by intro e; injection e with e1 e2; omega)).trans d0)
        replace d1 : (Z11x2.setCell ⟨w.heap.size + 1, 2, none⟩ (.int .i64 (L.tdiv M))).cell? ⟨w.heap.size + 1, 1, none⟩ = some (.int .i64 S2) := ((World.cell?_setCell_other _ _ _ _ (by intro e; injection e with e1 e2; omega)).trans d1)
        replace d2 : (Z11x2.setCell ⟨w.heap.size + 1, 2, none⟩ (.int .i64 (L.tdiv M))).cell? ⟨w.heap.size + 1, 2, none⟩ = some (.int .i64 (L.tdiv M)) := by simp [go_sem, d2]
        replace d3 : (Z11x2.setCell ⟨w.heap.size + 1, 2, none⟩ (.int .i64 (L.tdiv M))).cell? ⟨w.heap.size + 1, 3, none⟩ = some (.int .i64 F) := ((World.cell?_setCell_other _ _ _ _ (by intro e; injection e with e1 e2; omega)).trans d3)
        replace nR : w.heap.size < (Z11x2.setCell ⟨w.heap.size + 1, 2, none⟩ (.int .i64 (L.tdiv M))).heap.size := by simpa [World.setCell] using nR
        replace nA : w.heap.size + 1 < (Z11x2.setCell ⟨w.heap.size + 1, 2, none⟩ (.int .i64 (L.tdiv M))).heap.size := by simpa [World.setCell] using nA
        replace hL := hL.setCell (p := ⟨w.heap.size + 1, 2, none⟩) (by show w.heap.size ≤ w.heap.size + 1; omega) (.int .i64 (L.tdiv M))
        refine hK.out _ _ ⟨d0, d1, trivial⟩ (fun hHeld => ?_)
        clear hK K
        try simp only [Act.put, List.setIfInBounds_toArray, List.set_cons_zero, List.set_cons_succ]
        refine wpAnyH_done (by kernel_rfl) ?_ _
        replace hbr := hbr.trans hL
        clear hHeld hL hBW
        go_wp2_with fail
        refine bodyPost_ret (v := .agg #[.int .i64 S1, .int .i64 S2, .int .i64 (L.tdiv M), .int .i64 F]) (by simp [results, Try.results25, go_sem, *]) rfl ⟨by rw [E.out]; rfl, ?_⟩
        exact ((((hbr.setCell (p := ⟨w.heap.size, 0, none⟩) (Nat.le_refl _) _).setCell (p := ⟨w.heap.size, 1, none⟩) (Nat.le_refl _) _).setCell (p := ⟨w.heap.size, 2, none⟩) (Nat.le_refl _) _).setCell (p := ⟨w.heap.size, 3, none⟩) (Nat.le_refl _) _)
      · go_simp
        refine (CM.out _).mono ?_
        rintro e Z11x4 ⟨rfl, hb⟩
        replace c0 := cell_next hb nR c0
        replace e0 := frozen_next hb nR e0
        replace g0 := frozen_next hb nA g0
        replace c1 := cell_next hb nR c1
        replace e1 := frozen_next hb nR e1
        replace g1 := frozen_next hb nA g1
        replace c2 := cell_next hb nR c2
        replace e2 := frozen_next hb nR e2
        replace g2 := frozen_next hb nA g2
        replace c3 := cell_next hb nR c3
        replace e3 := frozen_next hb nR e3
        replace g3 := frozen_next hb nA g3
        replace d0 := cell_next hb nA d0
        replace d1 := cell_next hb nA d1
        replace d2 := cell_next hb nA d2
        replace d3 := cell_next hb nA d3
        replace nR := Nat.lt_of_lt_of_le nR hb.size
        replace nA := Nat.lt_of_lt_of_le nA hb.size
        replace hL := hL.trans (hb.mono (Nat.le_trans hBW hL.size))
        refine hK.out _ _ ⟨d0, d1, trivial⟩ (fun hHeld => ?_)
        clear hK K hb
        try simp only [Act.put, List.setIfInBounds_toArray, List.set_cons_zero, List.set_cons_succ]
        refine wpAnyH_ready (rs := [1]) (by kernel_rfl) (by simp) ?_
        refine AllReadyH.cons rfl (fun K hK => ?_) AllReadyH.nil
        go_simp
        refine hK.out _ _ ⟨d0, d1, trivial⟩ (fun hHeld => ?_)
        clear hK K
        try simp only [Act.put, List.setIfInBounds_toArray, List.set_cons_zero, List.set_cons_succ]
        refine take_slot (i := 5) (d := 46) (v := ?_) rfl rfl (by kernel_rfl) (by kernel_rfl) (by kernel_rfl) (fun _ _ _ h => h) (Or.inl ⟨by rfl, ?_⟩) (by assumption) ?_
        rotate_left 1
        focus (intro wS hSw; (try dsimp only at hSw); go_simp; try with_reducible rfl)
        try simp only [List.setIfInBounds_toArray, List.set_cons_zero, List.set_cons_succ]
        refine take_slot (i := 6) (d := 47) (v := ?_) rfl rfl (by kernel_rfl) (by kernel_rfl) (by kernel_rfl) (fun _ _ _ h => h) (Or.inl ⟨by rfl, ?_⟩) (by assumption) ?_
        rotate_left 1
        focus (intro wS hSw; (try dsimp only at hSw); go_simp; try with_reducible rfl)
        try simp only [List.setIfInBounds_toArray, List.set_cons_zero, List.set_cons_succ]
        refine wpAnyH_ready (rs := [7]) (by kernel_rfl) (by simp) ?_
        refine AllReadyH.cons rfl (fun K hK => ?_) AllReadyH.nil
        go_simp
        replace c0 : (Z11x4.setCell ⟨w.heap.size + 1, 2, none⟩ (.int .i64 (L.tdiv M))).cell? ⟨w.heap.size, 0, none⟩ = some (.int .i64 0) := ((World.cell?_setCell_other _ _ _ _ (by intro e; injection e with e1 e2; omega)).trans c0)
        replace e0 : (Z11x4.setCell ⟨w.heap.size + 1, 2, none⟩ (.int .i64 (L.tdiv M))).frozen? ⟨w.heap.size, 0, none⟩ = false := by simp [go_sem, e0]
        replace g0 : (Z11x4.setCell ⟨w.heap.size + 1, 2, none⟩ (.int .i64 (L.tdiv M))).frozen? ⟨w.heap.size + 1, 0, none⟩ = false := by simp [go_sem, g0]
        replace c1 : (Z11x4.setCell ⟨w.heap.size + 1, 2, none⟩ (.int .i64 (L.tdiv M))).cell? ⟨w.heap.size, 1, none⟩ = some (.int .i64 0) := ((World.cell?_setCell_other _ _ _ _ (by intro e; injection e with e1 e2; omega)).trans c1)
        replace e1 : (Z11x4.setCell ⟨w.heap.size + 1, 2, none⟩ (.int .i64 (L.tdiv M))).frozen? ⟨w.heap.size, 1, none⟩ = false := by simp [go_sem, e1]
        replace g1 : (Z11x4.setCell ⟨w.heap.size + 1, 2, none⟩ (.int .i64 (L.tdiv M))).frozen? ⟨w.heap.size + 1, 1, none⟩ = false := by simp [go_sem, g1]
        replace c2 : (Z11x4.setCell ⟨w.heap.size + 1, 2, none⟩ (.int .i64 (L.tdiv M))).cell? ⟨w.heap.size, 2, none⟩ = some (.int .i64 0) := ((World.cell?_setCell_other _ _ _ _ (by intro e; injection e with e1 e2; omega)).trans c2)
        replace e2 : (Z11x4.setCell ⟨w.heap.size + 1, 2, none⟩ (.int .i64 (L.tdiv M))).frozen? ⟨w.heap.size, 2, none⟩ = false := by simp [go_sem, e2]
        replace g2 : (Z11x4.setCell ⟨w.heap.size + 1, 2, none⟩ (.int .i64 (L.tdiv M))).frozen? ⟨w.heap.size + 1, 2, none⟩ = false := by simp [go_sem, g2]
        replace c3 : (Z11x4.setCell ⟨w.heap.size + 1, 2, none⟩ (.int .i64 (L.tdiv M))).cell? ⟨w.heap.size, 3, none⟩ = some (.int .i64 0) := ((World.cell?_setCell_other _ _ _ _ (by intro e; injection e with e1 e2; omega)).trans c3)
        replace e3 : (Z11x4.setCell ⟨w.heap.size + 1, 2, none⟩ (.int .i64 (L.tdiv M))).frozen? ⟨w.heap.size, 3, none⟩ = false := by simp [go_sem, e3]
        replace g3 : (Z11x4.setCell ⟨w.heap.size + 1, 2, none⟩ (.int .i64 (L.tdiv M))).frozen? ⟨w.heap.size + 1, 3, none⟩ = false := by simp [go_sem, g3]
        replace d0 : (Z11x4.setCell ⟨w.heap.size + 1, 2, none⟩ (.int .i64 (L.tdiv M))).cell? ⟨w.heap.size + 1, 0, none⟩ = some (.int .i64 S1) := ((World.cell?_setCell_other _ _ _ _ (by intro e; injection e with e1 e2; omega)).trans d0)
        replace d1 : (Z11x4.setCell ⟨w.heap.size + 1, 2, none⟩ (.int .i64 (L.tdiv M))).cell? ⟨w.heap.size + 1, 1, none⟩ = some (.int .i64 S2) := ((World.cell?_setCell_other _ _ _ _ (by intro e; injection e with e1 e2; omega)).trans d1)
        replace d2 : (Z11x4.setCell ⟨w.heap.size + 1, 2, none⟩ (.int .i64 (L.tdiv M))).cell? ⟨w.heap.size + 1, 2, none⟩ = some (.int .i64 (L.tdiv M)) := by simp [go_sem, d2]
        replace d3 : (Z11x4.setCell ⟨w.heap.size + 1, 2, none⟩ (.int .i64 (L.tdiv M))).cell? ⟨w.heap.size + 1, 3, none⟩ = some (.int .i64 F) := ((World.cell?_setCell_other _ _ _ _ (by intro e; injection e with e1 e2; omega)).trans d3)
        replace nR : w.heap.size < (Z11x4.setCell ⟨w.heap.size + 1, 2, none⟩ (.int .i64 (L.tdiv M))).heap.size := by simpa [World.setCell] using nR
        replace nA : w.heap.size + 1 < (Z11x4.setCell ⟨w.heap.size + 1, 2, none⟩ (.int .i64 (L.tdiv M))).heap.size := by simpa [World.setCell] using nA
        replace hL := hL.setCell (p := ⟨w.heap.size + 1, 2, none⟩) (by show w.heap.size ≤ w.heap.size + 1; omega) (.int .i64 (L.tdiv M))
        refine hK.out _ _ ⟨d0, d1, trivial⟩ (fun hHeld => ?_)
        clear hK K
        try simp only [Act.put, List.setIfInBounds_toArray, List.set_cons_zero, List.set_cons_succ]
        refine wpAnyH_done (by kernel_rfl) ?_ _
        replace hbr := hbr.trans hL
        clear hHeld hL hBW
        go_wp2_with fail
        refine bodyPost_ret (v := .agg #[.int .i64 S1, .int .i64 S2, .int .i64 (L.tdiv M), .int .i64 F]) (by simp [results, Try.results25, go_sem, *]) rfl ⟨by rw [E.out]; rfl, ?_⟩
        exact ((((hbr.setCell (p := ⟨w.heap.size, 0, none⟩) (Nat.le_refl _) _).setCell (p := ⟨w.heap.size, 1, none⟩) (Nat.le_refl _) _).setCell (p := ⟨w.heap.size, 2, none⟩) (Nat.le_refl _) _).setCell (p := ⟨w.heap.size, 3, none⟩) (Nat.le_refl _) _)
end Go.Proofs.Ytloddjjmoaljhaa
