/- Contracts of the law of chapter 11: the rules of the examples, known. -/
import Derived.Test.YtgklpbgdimkhaaaGreatJ13
import Derived.OwnWalk
namespace Go.Proofs.YtgklpbgdimkhaaaGreat
open Go.RowKit Go.Lib Go.Shelf
set_option linter.unusedVariables false
set_option linter.unusedSimpArgs false
attribute [local go_sem ↓] Go.wp_at_zero Go.wp_at_succ


theorem set_of_cells {w : World} {g c n : Nat} (xs : List (Int × Int)) (hn : n = xs.length) (hg : g < w.heap.size) (h : ∀ k p, xs[k]? = some p → w.cell? ⟨g, 0 + k * 2, none⟩ = some (.int .i64 p.1) ∧ w.cell? ⟨g, 0 + k * 2 + 1, none⟩ = some (.int .i64 p.2)) : SetAt w.heap.size w (.slice (some ⟨g, 0, none⟩) n c) xs := by
 subst hn
 exact ⟨_, c, rfl, fun _ => ⟨g, 0, rfl, hg, h⟩⟩

set_option maxRecDepth 40000 in
set_option maxHeartbeats 4000000 in
theorem rules_any (w : World) : Calls Tryz.prog 39 #[] w fun e w' => ∃ v1 v2 v3, e = .returned (.agg #[v1, v2, .int .i64 995, .int .i64 1005, v3]) ∧ CrAt w'.heap.size w' v1 v2 v3 RU ∧ Below w.heap.size w w' := by
 go_enter Tryz.func39, Tryz.ntmps39
 go_wp2_with fail
 obtain ⟨W, hW⟩ : ∃ W, ((((w.alloc (Obj.cells #[.slice (some ⟨w.heap.size + 1, 0, none⟩) 4 4, .slice (some ⟨w.heap.size + 1 + 1, 0, none⟩) 2 2, .int .i64 995, .int .i64 1005, .slice (some ⟨w.heap.size + 1 + 1 + 1, 0, none⟩) 3 3] 27)).alloc (Obj.cells #[.int .i64 0, .int .i64 0, .int .i64 6600, .int .i64 40, .int .i64 8600, .int .i64 180, .int .i64 9500, .int .i64 300] 39)).alloc (Obj.cells #[.int .i64 0, .int .i64 6400, .int .i64 1000, .int .i64 8300] 39)).alloc (Obj.cells #[.int .i64 8400, .int .i64 8700, .int .i64 0, .int .i64 300, .int .i64 15, .int .i64 60, .int .i64 0, .int .i64 90, .int .i64 8500, .int .i64 9000, .int .i64 600, .int .i64 1000, .int .i64 2, .int .i64 6, .int .i64 0, .int .i64 60, .int .i64 9000, .int .i64 9600, .int .i64 900, .int .i64 1300, .int .i64 5, .int .i64 20, .int .i64 0, .int .i64 40] 41)) = W := ⟨_, rfl⟩
 have a0 : W.cell? ⟨w.heap.size + 1, 0, none⟩ = some (.int .i64 0) := by rw [← hW]; simp [go_sem]
 have a1 : W.cell? ⟨w.heap.size + 1, 1, none⟩ = some (.int .i64 0) := by rw [← hW]; simp [go_sem]
 have a2 : W.cell? ⟨w.heap.size + 1, 2, none⟩ = some (.int .i64 6600) := by rw [← hW]; simp [go_sem]
 have a3 : W.cell? ⟨w.heap.size + 1, 3, none⟩ = some (.int .i64 40) := by rw [← hW]; simp [go_sem]
 have a4 : W.cell? ⟨w.heap.size + 1, 4, none⟩ = some (.int .i64 8600) := by rw [← hW]; simp [go_sem]
 have a5 : W.cell? ⟨w.heap.size + 1, 5, none⟩ = some (.int .i64 180) := by rw [← hW]; simp [go_sem]
 have a6 : W.cell? ⟨w.heap.size + 1, 6, none⟩ = some (.int .i64 9500) := by rw [← hW]; simp [go_sem]
 have a7 : W.cell? ⟨w.heap.size + 1, 7, none⟩ = some (.int .i64 300) := by rw [← hW]; simp [go_sem]
 have b0 : W.cell? ⟨w.heap.size + 1 + 1, 0, none⟩ = some (.int .i64 0) := by rw [← hW]; simp [go_sem]
 have b1 : W.cell? ⟨w.heap.size + 1 + 1, 1, none⟩ = some (.int .i64 6400) := by rw [← hW]; simp [go_sem]
 have b2 : W.cell? ⟨w.heap.size + 1 + 1, 2, none⟩ = some (.int .i64 1000) := by rw [← hW]; simp [go_sem]
 have b3 : W.cell? ⟨w.heap.size + 1 + 1, 3, none⟩ = some (.int .i64 8300) := by rw [← hW]; simp [go_sem]
 have c0 : W.cell? ⟨w.heap.size + 1 + 1 + 1, 0, none⟩ = some (.int .i64 8400) := by rw [← hW]; simp [go_sem]
 have c1 : W.cell? ⟨w.heap.size + 1 + 1 + 1, 1, none⟩ = some (.int .i64 8700) := by rw [← hW]; simp [go_sem]
 have c2 : W.cell? ⟨w.heap.size + 1 + 1 + 1, 2, none⟩ = some (.int .i64 0) := by rw [← hW]; simp [go_sem]
 have c3 : W.cell? ⟨w.heap.size + 1 + 1 + 1, 3, none⟩ = some (.int .i64 300) := by rw [← hW]; simp [go_sem]
 have c4 : W.cell? ⟨w.heap.size + 1 + 1 + 1, 4, none⟩ = some (.int .i64 15) := by rw [← hW]; simp [go_sem]
 have c5 : W.cell? ⟨w.heap.size + 1 + 1 + 1, 5, none⟩ = some (.int .i64 60) := by rw [← hW]; simp [go_sem]
 have c6 : W.cell? ⟨w.heap.size + 1 + 1 + 1, 6, none⟩ = some (.int .i64 0) := by rw [← hW]; simp [go_sem]
 have c7 : W.cell? ⟨w.heap.size + 1 + 1 + 1, 7, none⟩ = some (.int .i64 90) := by rw [← hW]; simp [go_sem]
 have c8 : W.cell? ⟨w.heap.size + 1 + 1 + 1, 8, none⟩ = some (.int .i64 8500) := by rw [← hW]; simp [go_sem]
 have c9 : W.cell? ⟨w.heap.size + 1 + 1 + 1, 9, none⟩ = some (.int .i64 9000) := by rw [← hW]; simp [go_sem]
 have c10 : W.cell? ⟨w.heap.size + 1 + 1 + 1, 10, none⟩ = some (.int .i64 600) := by rw [← hW]; simp [go_sem]
 have c11 : W.cell? ⟨w.heap.size + 1 + 1 + 1, 11, none⟩ = some (.int .i64 1000) := by rw [← hW]; simp [go_sem]
 have c12 : W.cell? ⟨w.heap.size + 1 + 1 + 1, 12, none⟩ = some (.int .i64 2) := by rw [← hW]; simp [go_sem]
 have c13 : W.cell? ⟨w.heap.size + 1 + 1 + 1, 13, none⟩ = some (.int .i64 6) := by rw [← hW]; simp [go_sem]
 have c14 : W.cell? ⟨w.heap.size + 1 + 1 + 1, 14, none⟩ = some (.int .i64 0) := by rw [← hW]; simp [go_sem]
 have c15 : W.cell? ⟨w.heap.size + 1 + 1 + 1, 15, none⟩ = some (.int .i64 60) := by rw [← hW]; simp [go_sem]
 have c16 : W.cell? ⟨w.heap.size + 1 + 1 + 1, 16, none⟩ = some (.int .i64 9000) := by rw [← hW]; simp [go_sem]
 have c17 : W.cell? ⟨w.heap.size + 1 + 1 + 1, 17, none⟩ = some (.int .i64 9600) := by rw [← hW]; simp [go_sem]
 have c18 : W.cell? ⟨w.heap.size + 1 + 1 + 1, 18, none⟩ = some (.int .i64 900) := by rw [← hW]; simp [go_sem]
 have c19 : W.cell? ⟨w.heap.size + 1 + 1 + 1, 19, none⟩ = some (.int .i64 1300) := by rw [← hW]; simp [go_sem]
 have c20 : W.cell? ⟨w.heap.size + 1 + 1 + 1, 20, none⟩ = some (.int .i64 5) := by rw [← hW]; simp [go_sem]
 have c21 : W.cell? ⟨w.heap.size + 1 + 1 + 1, 21, none⟩ = some (.int .i64 20) := by rw [← hW]; simp [go_sem]
 have c22 : W.cell? ⟨w.heap.size + 1 + 1 + 1, 22, none⟩ = some (.int .i64 0) := by rw [← hW]; simp [go_sem]
 have c23 : W.cell? ⟨w.heap.size + 1 + 1 + 1, 23, none⟩ = some (.int .i64 40) := by rw [← hW]; simp [go_sem]
 have hs : w.heap.size + 4 = W.heap.size := by rw [← hW]; simp
 have hB : Below w.heap.size w W := by rw [← hW]; exact ((((Below.refl _ _).alloc (Nat.le_refl _) _).alloc (by simp) _).alloc (by simp <;> omega) _).alloc (by simp <;> omega) _
 refine bodyPost_ret (v := .agg #[.slice (some ⟨w.heap.size + 1, 0, none⟩) 4 4, .slice (some ⟨w.heap.size + 1 + 1, 0, none⟩) 2 2, .int .i64 995, .int .i64 1005, .slice (some ⟨w.heap.size + 1 + 1 + 1, 0, none⟩) 3 3]) (by simp [results, Tryz.results39, go_sem]) rfl ⟨_, _, _, rfl, ?_, ?_⟩
 ·rw [hW]
  refine ⟨set_of_cells xsU rfl (by omega) ?_, set_of_cells ysU rfl (by omega) ?_, ⟨_, 3, rfl, fun _ => ⟨w.heap.size + 1 + 1 + 1, 0, rfl, by omega, ?_⟩⟩⟩
  ·intro k p hp
   rcases k with _ | k
   ·simp [RU, xsU] at hp; subst hp; exact ⟨by simpa using a0, by simpa using a1⟩
   rcases k with _ | k
   ·simp [RU, xsU] at hp; subst hp; exact ⟨by simpa using a2, by simpa using a3⟩
   rcases k with _ | k
   ·simp [RU, xsU] at hp; subst hp; exact ⟨by simpa using a4, by simpa using a5⟩
   rcases k with _ | k
   ·simp [RU, xsU] at hp; subst hp; exact ⟨by simpa using a6, by simpa using a7⟩
   ·simp [RU, xsU] at hp
  ·intro k p hp
   rcases k with _ | k
   ·simp [RU, ysU] at hp; subst hp; exact ⟨by simpa using b0, by simpa using b1⟩
   rcases k with _ | k
   ·simp [RU, ysU] at hp; subst hp; exact ⟨by simpa using b2, by simpa using b3⟩
   ·simp [RU, ysU] at hp
  ·intro k p hp j u hj
   rcases k with _ | k
   ·simp [RU, psU] at hp; subst hp
    rcases j with _ | j
    ·simp [cPd] at hj; subst hj; simpa using c0
    rcases j with _ | j
    ·simp [cPd] at hj; subst hj; simpa using c1
    rcases j with _ | j
    ·simp [cPd] at hj; subst hj; simpa using c2
    rcases j with _ | j
    ·simp [cPd] at hj; subst hj; simpa using c3
    rcases j with _ | j
    ·simp [cPd] at hj; subst hj; simpa using c4
    rcases j with _ | j
    ·simp [cPd] at hj; subst hj; simpa using c5
    rcases j with _ | j
    ·simp [cPd] at hj; subst hj; simpa using c6
    rcases j with _ | j
    ·simp [cPd] at hj; subst hj; simpa using c7
    ·simp [cPd] at hj
   rcases k with _ | k
   ·simp [RU, psU] at hp; subst hp
    rcases j with _ | j
    ·simp [cPd] at hj; subst hj; simpa using c8
    rcases j with _ | j
    ·simp [cPd] at hj; subst hj; simpa using c9
    rcases j with _ | j
    ·simp [cPd] at hj; subst hj; simpa using c10
    rcases j with _ | j
    ·simp [cPd] at hj; subst hj; simpa using c11
    rcases j with _ | j
    ·simp [cPd] at hj; subst hj; simpa using c12
    rcases j with _ | j
    ·simp [cPd] at hj; subst hj; simpa using c13
    rcases j with _ | j
    ·simp [cPd] at hj; subst hj; simpa using c14
    rcases j with _ | j
    ·simp [cPd] at hj; subst hj; simpa using c15
    ·simp [cPd] at hj
   rcases k with _ | k
   ·simp [RU, psU] at hp; subst hp
    rcases j with _ | j
    ·simp [cPd] at hj; subst hj; simpa using c16
    rcases j with _ | j
    ·simp [cPd] at hj; subst hj; simpa using c17
    rcases j with _ | j
    ·simp [cPd] at hj; subst hj; simpa using c18
    rcases j with _ | j
    ·simp [cPd] at hj; subst hj; simpa using c19
    rcases j with _ | j
    ·simp [cPd] at hj; subst hj; simpa using c20
    rcases j with _ | j
    ·simp [cPd] at hj; subst hj; simpa using c21
    rcases j with _ | j
    ·simp [cPd] at hj; subst hj; simpa using c22
    rcases j with _ | j
    ·simp [cPd] at hj; subst hj; simpa using c23
    ·simp [cPd] at hj
   ·simp [RU, psU] at hp
 ·rw [hW]; exact hB

theorem flatS_at : ∀ (L : List St) (k : Nat) (x : St), L[k]? = some x → ∀ j u, (cSt x)[j]? = some u → (flatS L)[k * 10 + j]? = some u := by
 intro L
 induction L with
 | nil => intro k x h; simp at h
 | cons a L ih =>
  intro k x h j u hj
  have hjl : j < 10 := (List.getElem?_eq_some_iff.1 hj).1
  have hal : (cSt a).length = 10 := rfl
  have e : flatS (a :: L) = cSt a ++ flatS L := by simp [flatS]
  rw [e]
  rcases k with _ | k
  ·simp at h; subst h
   rw [List.getElem?_append_left (by rw [hal]; omega), Nat.zero_mul, Nat.zero_add]; exact hj
  ·rw [List.getElem?_append_right (by rw [hal]; omega), hal, show (k + 1) * 10 + j - 10 = k * 10 + j from by omega]
   exact ih k x (by simpa using h) j u hj
theorem own_states {w : World} {base n : Nat} {v : Value} {Z : List St} (h : w.ownsRow base 52 10 v n (flatS Z)) (hn : 0 < n) : ∃ g c, v = .slice (some ⟨g, 0, none⟩) n c ∧ base ≤ g ∧ g < w.heap.size ∧ ∀ k x, Z[k]? = some x → ∀ j u, (cSt x)[j]? = some u → w.cell? ⟨g, k * 10 + j, none⟩ = some u := by
 have hc := h
 obtain ⟨_, ⟨rfl, h0⟩ | ⟨g, cap, cur, rfl, hbg, hh, hnc, _, _, _⟩⟩ := h
 ·omega
 ·refine ⟨g, cap, rfl, hbg, (Array.getElem?_eq_some_iff.1 hh).1, fun k x hk j u hj => ?_⟩
  have := hc.cells (g := g) rfl (k * 10 + j) u (flatS_at Z k x hk j u hj)
  rw [Addr.add_lit] at this
  simpa using this
theorem kDense (v1 v2 v3 : Value) (W : World) (h : CrAt W.heap.size W v1 v2 v3 RU) : Calls Tryz.prog 14 #[.agg #[v1, v2, .int .i64 995, .int .i64 1005, v3], .agg #[.int .i64 1130, .int .i64 1135]] W fun e w' => e = .returned (.tuple #[.agg #[.int .i64 7815, .int .i64 8029], .int .i64 0]) ∧ Below W.heap.size W w' := by
 have := dense_any v1 v2 v3 RU 1130 1135 W h
 rw [rdU.1, rdU.2] at this
 exact this
theorem kCrys (v1 v2 v3 : Value) (W : World) (h : CrAt W.heap.size W v1 v2 v3 RU) : Calls Tryz.prog 15 #[.agg #[v1, v2, .int .i64 995, .int .i64 1005, v3], .agg #[.int .i64 340, .int .i64 660], .agg #[.int .i64 0, .int .i64 0]] W fun e w' => e = .returned (.tuple #[.agg #[.int .i64 56, .int .i64 56], .int .i64 0]) ∧ Below W.heap.size W w' := by
 have := jCrystals_any v1 v2 v3 RU 340 660 0 0 W h
 rw [ccU.1, ccU.2] at this
 exact this
theorem kMake (v1 v2 v3 : Value) (g c : Nat) (W : World) (h : CrAt W.heap.size W v1 v2 v3 RU) (hg : g < W.heap.size) (hc : ∀ k x, actsU[k]? = some x → ∀ j u, (cAc x)[j]? = some u → W.cell? ⟨g, 0 + k * 4 + j, none⟩ = some u) : Calls Tryz.prog 20 #[.agg #[v1, v2, .int .i64 995, .int .i64 1005, v3], .agg #[.int .i64 2000, .int .i64 4000], .slice (some ⟨g, 0, none⟩) 3 c] W fun e w' => ∃ gs cs, e = .returned (.tuple #[.slice (some ⟨gs, 0, none⟩) 3 cs, .int .i64 0, .int .i64 0]) ∧ gs < w'.heap.size ∧ W.heap.size ≤ gs ∧ w'.cell? ⟨gs, 20, none⟩ = some (.int .i64 8529) ∧ w'.cell? ⟨gs, 21, none⟩ = some (.int .i64 8638) ∧ w'.cell? ⟨gs, 22, none⟩ = some (.int .i64 200) ∧ w'.cell? ⟨gs, 23, none⟩ = some (.int .i64 250) ∧ w'.cell? ⟨gs, 24, none⟩ = some (.int .i64 200) ∧ w'.cell? ⟨gs, 25, none⟩ = some (.int .i64 250) ∧ w'.cell? ⟨gs, 26, none⟩ = some (.int .i64 20) ∧ w'.cell? ⟨gs, 27, none⟩ = some (.int .i64 20) ∧ w'.cell? ⟨gs, 28, none⟩ = some (.bool true) ∧ w'.cell? ⟨gs, 29, none⟩ = some (.int .i64 0) ∧ Below W.heap.size W w' := by
 refine (make_any v1 v2 v3 (.slice (some ⟨g, 0, none⟩) 3 c) RU 2000 4000 actsU W h ⟨_, c, rfl, fun _ => ⟨g, 0, rfl, hg, hc⟩⟩ (by decide) (by intro x hx; simp [actsU] at hx; rcases hx with rfl | rfl | rfl <;> simp)).mono ?_
 rintro e w' ⟨sv, at', er, rfl, hB, hm, ho, _⟩
 obtain ⟨rfl, rfl⟩ := mkRes_one hm mkU
 have hO := ho rfl
 rw [show actsU.length = 3 from rfl, stU] at hO
 obtain ⟨gs, cs, rfl, h1, h2, h3⟩ := own_states hO (by omega)
 exact ⟨gs, cs, rfl, h2, h1, h3 2 s3U rfl 0 _ rfl, h3 2 s3U rfl 1 _ rfl, h3 2 s3U rfl 2 _ rfl, h3 2 s3U rfl 3 _ rfl, h3 2 s3U rfl 4 _ rfl, h3 2 s3U rfl 5 _ rfl, h3 2 s3U rfl 6 _ rfl, h3 2 s3U rfl 7 _ rfl, h3 2 s3U rfl 8 _ rfl, h3 2 s3U rfl 9 _ rfl, hB⟩
theorem kProd (v1 v2 v3 : Value) (W : World) (h : CrAt W.heap.size W v1 v2 v3 RU) : Calls Tryz.prog 22 #[.agg #[v1, v2, .int .i64 995, .int .i64 1005, v3], .agg #[.int .i64 8529, .int .i64 8638, .int .i64 200, .int .i64 250, .int .i64 200, .int .i64 250, .int .i64 20, .int .i64 20, .bool true, .int .i64 0]] W fun e w' => ∃ g c, e = .returned (.tuple #[.slice (some ⟨g, 0, none⟩) 1 c, .int .i64 0]) ∧ g < w'.heap.size ∧ W.heap.size ≤ g ∧ w'.cell? ⟨g, 0, none⟩ = some (.int .i64 0) ∧ Below W.heap.size W w' := by
 refine (products_any v1 v2 v3 RU s3U W h).mono ?_
 rintro e w' ⟨sv, rfl, hB, ho, _⟩
 have hO := ho pcU
 rw [cbU] at hO
 obtain ⟨g, c, rfl, h1, h2, h3⟩ := own_intsJ hO (by simp)
 exact ⟨g, c, by rw [pcU]; rfl, h2, h1, h3 0 0 rfl, hB⟩
theorem kYield (W : World) : Calls Tryz.prog 23 #[.agg #[.int .i64 2000, .int .i64 4000], .agg #[.int .i64 8529, .int .i64 8638, .int .i64 200, .int .i64 250, .int .i64 200, .int .i64 250, .int .i64 20, .int .i64 20, .bool true, .int .i64 0]] W fun e w' => e = .returned (.tuple #[.agg #[.int .i64 4630, .int .i64 4689], .int .i64 0]) ∧ Below W.heap.size W w' := by
 have := yield_any 2000 4000 s3U W
 rw [yiU.1, yiU.2] at this
 exact this
theorem kNeeds (v1 v2 v3 : Value) (W : World) (h : CrAt W.heap.size W v1 v2 v3 RU) : Calls Tryz.prog 27 #[.agg #[v1, v2, .int .i64 995, .int .i64 1005, v3], .agg #[.int .i64 0, .int .i64 1000, .int .i64 0]] W fun e w' => e = .returned (.tuple #[.int .i64 870, .int .i64 90, .int .i64 0]) ∧ Below W.heap.size W w' := by
 have := needs_any v1 v2 v3 RU ⟨0, 1000, 0⟩ W h
 rw [ndU.1, ndU.2.1, ndU.2.2] at this
 exact this

set_option maxRecDepth 40000 in
set_option maxHeartbeats 4000000 in
theorem known_any (w : World) : Calls Tryz.prog 11 #[] w fun e w' => e = .returned (.bool true) ∧ Below w.heap.size w w' := by
 have R0 := Lib.hid (fun (W : World) => rules_any W)
 go_enter Tryz.func11, Tryz.ntmps11
 go_wp2_with fail
 refine (R0.out _).mono ?_
 rintro e W1 ⟨v1, v2, v3, rfl, hcr, hb⟩
 have hB := hb
 clear hb
 go_wp2_with fail
 refine (kDense v1 v2 v3 _ hcr).mono ?_
 rintro e W2 ⟨rfl, hb⟩
 replace hB := hB.trans (hb.mono hB.size)
 clear hb
 clear hcr
 go_wp2_with fail
 refine (R0.out _).mono ?_
 rintro e W3 ⟨v1, v2, v3, rfl, hcr, hb⟩
 have d0 := cell_next hb (b := W2.heap.size) (o := 0) (by simp <;> omega) (v := some (.int .i64 7815)) (by simp [go_sem])
 have d1 := cell_next hb (b := W2.heap.size) (o := 1) (by simp <;> omega) (v := some (.int .i64 8029)) (by simp [go_sem])
 have nd : W2.heap.size < W3.heap.size := by have := hb.size; simp at this; omega
 replace hB := hB.trans ((below1 hb).mono hB.size)
 clear hb
 generalize W2.heap.size = q3 at *
 go_wp2_with fail
 refine (kCrys v1 v2 v3 _ hcr).mono ?_
 rintro e W4 ⟨rfl, hb⟩
 replace d0 := cell_next hb nd d0
 replace d1 := cell_next hb nd d1
 replace nd := Nat.lt_of_lt_of_le nd hb.size
 replace hB := hB.trans (hb.mono hB.size)
 clear hb
 clear hcr
 go_wp2_with fail
 refine (R0.out _).mono ?_
 rintro e W5 ⟨v1, v2, v3, rfl, hcr, hb⟩
 replace d0 := cell_next (below1 hb) nd d0
 replace d1 := cell_next (below1 hb) nd d1
 replace nd := Nat.lt_of_lt_of_le nd (below1 hb).size
 have c0 := cell_next hb (b := W4.heap.size) (o := 0) (by simp <;> omega) (v := some (.int .i64 56)) (by simp [go_sem])
 have c1 := cell_next hb (b := W4.heap.size) (o := 1) (by simp <;> omega) (v := some (.int .i64 56)) (by simp [go_sem])
 have nc : W4.heap.size < W5.heap.size := by have := hb.size; simp at this; omega
 replace hB := hB.trans ((below1 hb).mono hB.size)
 clear hb
 generalize W4.heap.size = q5 at *
 go_wp2_with fail
 refine (kMake v1 v2 v3 _ _ _ (hcr.next ((Below.refl _ _).alloc (Nat.le_refl _) _)) (by simp) (by intro k x hk j u hj; rcases k with _ | _ | _ | k <;> simp [actsU] at hk <;> subst hk <;> (rcases j with _ | _ | _ | _ | j <;> simp [cAc] at hj <;> subst hj <;> simp [go_sem]))).mono ?_
 rintro e W6 ⟨gs, cs, rfl, ns, gsl, s20, s21, s22, s23, s24, s25, s26, s27, s28, s29, hb⟩
 replace d0 := cell_next (below1 hb) nd d0
 replace d1 := cell_next (below1 hb) nd d1
 replace nd := Nat.lt_of_lt_of_le nd (below1 hb).size
 replace c0 := cell_next (below1 hb) nc c0
 replace c1 := cell_next (below1 hb) nc c1
 replace nc := Nat.lt_of_lt_of_le nc (below1 hb).size
 replace hB := hB.trans ((below1 hb).mono hB.size)
 clear hb
 generalize W5.heap.size = q6 at *
 clear hcr gsl
 go_wp2_with fail
 have hBW : W6.heap.size ≤ W6.heap.size := Nat.le_refl _
 refine wp_region_held_drew (S := fun w' => w'.cell? ⟨gs, 20, none⟩ = some (.int .i64 8529) ∧ w'.cell? ⟨gs, 21, none⟩ = some (.int .i64 8638) ∧ w'.cell? ⟨gs, 22, none⟩ = some (.int .i64 200) ∧ w'.cell? ⟨gs, 23, none⟩ = some (.int .i64 250) ∧ w'.cell? ⟨gs, 24, none⟩ = some (.int .i64 200) ∧ w'.cell? ⟨gs, 25, none⟩ = some (.int .i64 250) ∧ w'.cell? ⟨gs, 26, none⟩ = some (.int .i64 20) ∧ w'.cell? ⟨gs, 27, none⟩ = some (.int .i64 20) ∧ w'.cell? ⟨gs, 28, none⟩ = some (.bool true) ∧ w'.cell? ⟨gs, 29, none⟩ = some (.int .i64 0) ∧ True) (by kernel_rfl) ?_ (fun hHeld => ?_)
 focus (exact ⟨s20, s21, s22, s23, s24, s25, s26, s27, s28, s29, trivial⟩)
 have hL : Below W6.heap.size W6 W6.drew := Below.drew (Below.refl _ _)
 replace d0 : W6.drew.cell? ⟨q3, 0, none⟩ = some (.int .i64 7815) := d0
 replace d1 : W6.drew.cell? ⟨q3, 1, none⟩ = some (.int .i64 8029) := d1
 replace c0 : W6.drew.cell? ⟨q5, 0, none⟩ = some (.int .i64 56) := c0
 replace c1 : W6.drew.cell? ⟨q5, 1, none⟩ = some (.int .i64 56) := c1
 replace s20 : W6.drew.cell? ⟨gs, 20, none⟩ = some (.int .i64 8529) := s20
 replace s21 : W6.drew.cell? ⟨gs, 21, none⟩ = some (.int .i64 8638) := s21
 replace s22 : W6.drew.cell? ⟨gs, 22, none⟩ = some (.int .i64 200) := s22
 replace s23 : W6.drew.cell? ⟨gs, 23, none⟩ = some (.int .i64 250) := s23
 replace s24 : W6.drew.cell? ⟨gs, 24, none⟩ = some (.int .i64 200) := s24
 replace s25 : W6.drew.cell? ⟨gs, 25, none⟩ = some (.int .i64 250) := s25
 replace s26 : W6.drew.cell? ⟨gs, 26, none⟩ = some (.int .i64 20) := s26
 replace s27 : W6.drew.cell? ⟨gs, 27, none⟩ = some (.int .i64 20) := s27
 replace s28 : W6.drew.cell? ⟨gs, 28, none⟩ = some (.bool true) := s28
 replace s29 : W6.drew.cell? ⟨gs, 29, none⟩ = some (.int .i64 0) := s29
 replace nd : q3 < W6.drew.heap.size := nd
 replace nc : q5 < W6.drew.heap.size := nc
 replace ns : gs < W6.drew.heap.size := ns
 generalize hWd : W6.drew = wd7 at hHeld hL d0 d1 c0 c1 s20 s21 s22 s23 s24 s25 s26 s27 s28 s29 nd nc ns  ⊢
 clear hWd
 refine tq 1 63 ?_ ?_ ?_; rotate_left; (focus intro w h; (try dsimp only at h); go_simp; try with_reducible rfl); try simp only [sA, sB, sC]
 refine tq 2 64 ?_ ?_ ?_; rotate_left; (focus intro w h; (try dsimp only at h); go_simp; try with_reducible rfl); try simp only [sA, sB, sC]
 refine tq 3 65 ?_ ?_ ?_; rotate_left; (focus intro w h; (try dsimp only at h); go_simp; try with_reducible rfl); try simp only [sA, sB, sC]
 refine rd1 0 (fun K hK => ?_)
 go_simp
 refine (R0.out _).mono ?_
 rintro e Z7x1 ⟨v1, v2, v3, rfl, hcr, hb⟩
 replace d0 := cell_next hb nd d0
 replace d1 := cell_next hb nd d1
 replace c0 := cell_next hb nc c0
 replace c1 := cell_next hb nc c1
 replace s20 := cell_next hb ns s20
 replace s21 := cell_next hb ns s21
 replace s22 := cell_next hb ns s22
 replace s23 := cell_next hb ns s23
 replace s24 := cell_next hb ns s24
 replace s25 := cell_next hb ns s25
 replace s26 := cell_next hb ns s26
 replace s27 := cell_next hb ns s27
 replace s28 := cell_next hb ns s28
 replace s29 := cell_next hb ns s29
 replace nd := Nat.lt_of_lt_of_le nd hb.size
 replace nc := Nat.lt_of_lt_of_le nc hb.size
 replace ns := Nat.lt_of_lt_of_le ns hb.size
 replace hL := hL.trans (hb.mono (Nat.le_trans hBW hL.size))
 refine hK.out _ _ ⟨s20, s21, s22, s23, s24, s25, s26, s27, s28, s29, trivial⟩ (fun hHeld => ?_)
 clear hK K hb
 try simp only [Act.put, sA, sB, sC]
 refine rd1 4 (fun K hK => ?_)
 go_simp
 refine (kProd v1 v2 v3 _ hcr).mono ?_
 rintro e Z7x2 ⟨gp, cp, rfl, np, gpl, p0, hb⟩
 replace d0 := cell_next hb nd d0
 replace d1 := cell_next hb nd d1
 replace c0 := cell_next hb nc c0
 replace c1 := cell_next hb nc c1
 replace s20 := cell_next hb ns s20
 replace s21 := cell_next hb ns s21
 replace s22 := cell_next hb ns s22
 replace s23 := cell_next hb ns s23
 replace s24 := cell_next hb ns s24
 replace s25 := cell_next hb ns s25
 replace s26 := cell_next hb ns s26
 replace s27 := cell_next hb ns s27
 replace s28 := cell_next hb ns s28
 replace s29 := cell_next hb ns s29
 replace nd := Nat.lt_of_lt_of_le nd hb.size
 replace nc := Nat.lt_of_lt_of_le nc hb.size
 replace ns := Nat.lt_of_lt_of_le ns hb.size
 replace hL := hL.trans (hb.mono (Nat.le_trans hBW hL.size))
 refine hK.out _ _ ⟨s20, s21, s22, s23, s24, s25, s26, s27, s28, s29, trivial⟩ (fun hHeld => ?_)
 clear hK K hb
 try simp only [Act.put, sA, sB, sC]
 refine tq 5 61 ?_ ?_ ?_; rotate_left; (focus intro w h; (try dsimp only at h); go_simp; try with_reducible rfl); try simp only [sA, sB, sC]
 refine tq 6 67 ?_ ?_ ?_; rotate_left; (focus intro w h; (try dsimp only at h); go_simp; try with_reducible rfl); try simp only [sA, sB, sC]
 refine tq 7 68 ?_ ?_ ?_; rotate_left; (focus intro w h; (try dsimp only at h); go_simp; try with_reducible rfl); try simp only [sA, sB, sC]
 refine tq 8 8 ?_ ?_ ?_; rotate_left; (focus intro w h; (try dsimp only at h); go_simp; try with_reducible rfl); try simp only [sA, sB, sC]
 refine tq 9 9 ?_ ?_ ?_; rotate_left; (focus intro w h; (try dsimp only at h); go_simp; try with_reducible rfl); try simp only [sA, sB, sC]
 refine wpAnyH_done (by kernel_rfl) ?_ _
 replace hB := hB.trans (hL.mono hB.size)
 clear hHeld hL hBW
 clear gpl
 go_wp2_with fail
 refine (kYield _).mono ?_
 rintro e W8 ⟨rfl, hb⟩
 replace d0 := cell_next hb nd d0
 replace d1 := cell_next hb nd d1
 replace nd := Nat.lt_of_lt_of_le nd hb.size
 replace c0 := cell_next hb nc c0
 replace c1 := cell_next hb nc c1
 replace nc := Nat.lt_of_lt_of_le nc hb.size
 replace s20 := cell_next hb ns s20
 replace s21 := cell_next hb ns s21
 replace s22 := cell_next hb ns s22
 replace s23 := cell_next hb ns s23
 replace s24 := cell_next hb ns s24
 replace s25 := cell_next hb ns s25
 replace s26 := cell_next hb ns s26
 replace s27 := cell_next hb ns s27
 replace s28 := cell_next hb ns s28
 replace s29 := cell_next hb ns s29
 replace ns := Nat.lt_of_lt_of_le ns hb.size
 replace p0 := cell_next hb np p0
 replace np := Nat.lt_of_lt_of_le np hb.size
 replace hB := hB.trans (hb.mono hB.size)
 clear hb
 go_wp2_with fail
 refine (R0.out _).mono ?_
 rintro e W9 ⟨v1, v2, v3, rfl, hcr, hb⟩
 replace d0 := cell_next (below1 hb) nd d0
 replace d1 := cell_next (below1 hb) nd d1
 replace nd := Nat.lt_of_lt_of_le nd (below1 hb).size
 replace c0 := cell_next (below1 hb) nc c0
 replace c1 := cell_next (below1 hb) nc c1
 replace nc := Nat.lt_of_lt_of_le nc (below1 hb).size
 replace s20 := cell_next (below1 hb) ns s20
 replace s21 := cell_next (below1 hb) ns s21
 replace s22 := cell_next (below1 hb) ns s22
 replace s23 := cell_next (below1 hb) ns s23
 replace s24 := cell_next (below1 hb) ns s24
 replace s25 := cell_next (below1 hb) ns s25
 replace s26 := cell_next (below1 hb) ns s26
 replace s27 := cell_next (below1 hb) ns s27
 replace s28 := cell_next (below1 hb) ns s28
 replace s29 := cell_next (below1 hb) ns s29
 replace ns := Nat.lt_of_lt_of_le ns (below1 hb).size
 replace p0 := cell_next (below1 hb) np p0
 replace np := Nat.lt_of_lt_of_le np (below1 hb).size
 have y0 := cell_next hb (b := W8.heap.size) (o := 0) (by simp <;> omega) (v := some (.int .i64 4630)) (by simp [go_sem])
 have y1 := cell_next hb (b := W8.heap.size) (o := 1) (by simp <;> omega) (v := some (.int .i64 4689)) (by simp [go_sem])
 have ny : W8.heap.size < W9.heap.size := by have := hb.size; simp at this; omega
 replace hB := hB.trans ((below1 hb).mono hB.size)
 clear hb
 generalize W8.heap.size = q9 at *
 go_wp2_with fail
 refine (kNeeds v1 v2 v3 _ hcr).mono ?_
 rintro e W10 ⟨rfl, hb⟩
 replace d0 := cell_next hb nd d0
 replace d1 := cell_next hb nd d1
 replace nd := Nat.lt_of_lt_of_le nd hb.size
 replace c0 := cell_next hb nc c0
 replace c1 := cell_next hb nc c1
 replace nc := Nat.lt_of_lt_of_le nc hb.size
 replace s20 := cell_next hb ns s20
 replace s21 := cell_next hb ns s21
 replace s22 := cell_next hb ns s22
 replace s23 := cell_next hb ns s23
 replace s24 := cell_next hb ns s24
 replace s25 := cell_next hb ns s25
 replace s26 := cell_next hb ns s26
 replace s27 := cell_next hb ns s27
 replace s28 := cell_next hb ns s28
 replace s29 := cell_next hb ns s29
 replace ns := Nat.lt_of_lt_of_le ns hb.size
 replace p0 := cell_next hb np p0
 replace np := Nat.lt_of_lt_of_le np hb.size
 replace y0 := cell_next hb ny y0
 replace y1 := cell_next hb ny y1
 replace ny := Nat.lt_of_lt_of_le ny hb.size
 replace hB := hB.trans (hb.mono hB.size)
 clear hb
 clear hcr
 go_wp2_with fail
 go_ret
 exact ⟨by simp, hB⟩
end Go.Proofs.YtgklpbgdimkhaaaGreat
