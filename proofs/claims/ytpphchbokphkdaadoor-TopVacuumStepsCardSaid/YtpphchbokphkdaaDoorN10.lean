/- Contracts: the law's copies of tubing and flows, and whether both are good. -/
import Derived.Test.YtpphchbokphkdaaDoorN9
namespace Go.Proofs.YtpphchbokphkdaaDoor
open Go.RowKit Go.Lib Go.Shelf
set_option linter.unusedVariables false
set_option linter.unusedSimpArgs false
attribute [local go_sem ↓] Go.wp_at_zero Go.wp_at_succ

/-- the cells of pipes, one after another -/
def flat5 (ps : List Pp) : List Value := ps.flatMap fun p => [.int .i64 p.pa, .int .i64 p.ln, .int .i64 p.bo, .int .i64 p.dr, .int .i64 p.ta]
theorem flat5_cons (p : Pp) (ps : List Pp) : flat5 (p :: ps) = .int .i64 p.pa :: .int .i64 p.ln :: .int .i64 p.bo :: .int .i64 p.dr :: .int .i64 p.ta :: flat5 ps := rfl
theorem flat5_length (ps : List Pp) : (flat5 ps).length = ps.length * 5 := by
  induction ps with
  | nil => rfl
  | cons p ps ih => rw [flat5_cons]; simp [ih]; omega
theorem PRd.tail {w : World} {g off : Nat} {p : Pp} {ps : List Pp} (h : PRd w g off (p :: ps)) : PRd w g (off + 5) ps := fun k q hq => by
  have := h (k + 1) q (by simpa using hq)
  rw [show off + 5 + k * 5 = off + (k + 1) * 5 from by omega]
  exact this
theorem prd_flat {w : World} {g : Nat} : ∀ (ps : List Pp) (off : Nat), PRd w g off ps → ∀ j u, (flat5 ps)[j]? = some u → w.cell? ⟨g, off + j, none⟩ = some u := by
  intro ps
  induction ps with
  | nil => intro off _ j u h; simp [flat5] at h
  | cons p ps ih =>
    intro off hr j u h
    rw [flat5_cons] at h
    obtain ⟨h0, h1, h2, h3, h4⟩ := hr 0 p rfl
    rcases j with _ | _ | _ | _ | _ | j
    · simp at h; subst h; simpa using h0
    · simp at h; subst h; simpa using h1
    · simp at h; subst h; simpa using h2
    · simp at h; subst h; simpa using h3
    · simp at h; subst h; simpa using h4
    · have := ih (off + 5) hr.tail j u (by simpa using h)
      rw [show off + (j + 1 + 1 + 1 + 1 + 1) = off + 5 + j from by omega]
      exact this
theorem flat5_at : ∀ (ps : List Pp) (k : Nat) (p : Pp), ps[k]? = some p → (flat5 ps)[k * 5]? = some (.int .i64 p.pa) ∧ (flat5 ps)[k * 5 + 1]? = some (.int .i64 p.ln) ∧ (flat5 ps)[k * 5 + 2]? = some (.int .i64 p.bo) ∧ (flat5 ps)[k * 5 + 3]? = some (.int .i64 p.dr) ∧ (flat5 ps)[k * 5 + 4]? = some (.int .i64 p.ta) := by
  intro ps
  induction ps with
  | nil => intro k p h; simp at h
  | cons q ps ih =>
    intro k p h
    rw [flat5_cons]
    rcases k with _ | k
    · simp at h; subst h; exact ⟨rfl, rfl, rfl, rfl, rfl⟩
    · obtain ⟨h0, h1, h2, h3, h4⟩ := ih k p (by simpa using h)
      rw [show (k + 1) * 5 = k * 5 + 1 + 1 + 1 + 1 + 1 from by omega]
      exact ⟨by simpa using h0, by simpa using h1, by simpa using h2, by simpa using h3, by simpa using h4⟩
theorem flat_prd {w : World} {g off : Nat} {ps : List Pp} (h : ∀ j u, (flat5 ps)[j]? = some u → w.cell? ⟨g, off + j, none⟩ = some u) : PRd w g off ps := fun k p hp => by
  obtain ⟨h0, h1, h2, h3, h4⟩ := flat5_at ps k p hp
  exact ⟨h _ _ h0, h _ _ h1, h _ _ h2, h _ _ h3, h _ _ h4⟩
theorem infoPipe : (Tryd.prog.info? 36).map (fun i => (i.zero, i.size, i.bytes)) = some (some (.agg #[.int .i64 0, .int .i64 0, .int .i64 0, .int .i64 0, .int .i64 0]), 5, 40) := by kernel_rfl
theorem own_pipes (ps : List Pp) (n : Nat) (hn : ps.length = n) (v : Value) (w : World) {base : Nat} (h : w.ownsRow base 36 5 v n (flat5 ps)) : PipesAt w.heap.size w v ps := by
  subst hn
  have hc := h
  obtain ⟨_, ⟨rfl, h0⟩ | ⟨g, cap, cur, rfl, _, hh, hnc, _, _, _⟩⟩ := h
  · have : ps = [] := List.eq_nil_of_length_eq_zero h0
    subst this
    exact ⟨none, 0, rfl, Nat.le_refl _, fun h => by simp at h⟩
  · refine ⟨_, cap, rfl, hnc, fun _ => ⟨g, 0, rfl, ?_, flat_prd fun j u hj => ?_⟩⟩
    · rcases Nat.lt_or_ge g w.heap.size with h | h
      · exact h
      · rw [Array.getElem?_eq_none h] at hh; cases hh
    · have := hc.cells (g := g) rfl j u hj
      simpa [Addr.add_lit] using this

theorem own_empty (W : World) (T size : Nat) (B : Nat) (h : W.heap.size = B) : (W.alloc (.cells #[] T)).ownsRow B T size (.slice (some ⟨B, 0, none⟩) 0 0) 0 [] := by
  subst h
  exact ⟨by simp, .inr ⟨W.heap.size, 0, #[], rfl, Nat.le_refl _, heap_alloc_new W _, Nat.le_refl _, Nat.zero_le _, by simp, by simp⟩⟩

theorem own_set1 {w : World} {base : Nat} {e : TypeId} {size : Nat} {v : Value} {n : Nat} {xs : List Value} (h : w.ownsRow base e size v n xs) {b : Nat} (hne : v.ownBlock ≠ some b) (o : Nat) (x : Value) : (w.setCell ⟨b, o, none⟩ x).ownsRow base e size v n xs := by
  have g1 : w.grownBy (w.setCell ⟨b, o, none⟩ x) (some b) := ⟨rfl, rfl, rfl, by simp [World.setCell], fun i hi hn => Below.heap_setCell w ⟨b, o, none⟩ x i (by rintro rfl; exact hn rfl)⟩
  exact h.kept g1 (.inr hne)

set_option maxRecDepth 20000 in
set_option maxHeartbeats 1000000 in
theorem meetNet_ok (pump : Int) (v : Value) (ps : List Pp) (w : World) (h0 : 0 < ps.length) (hl : ps.length ≤ 1000) (hv : PipesAt w.heap.size w v ps) :
    Calls Tryd.prog 7 #[.agg #[.int .i64 pump, v]] w fun e w' => ∃ v', e = .returned (.agg #[.int .i64 pump, v']) ∧ PipesAt w'.heap.size w' v' ps ∧ Below w.heap.size w w' := by
  obtain ⟨A, c, rfl, hc, hps⟩ := hv
  obtain ⟨g, off, rfl, hg, hR⟩ := hps h0
  obtain ⟨i0, hi0, hz0, hz1, hz2⟩ := info_parts infoPipe
  obtain ⟨n, hn⟩ : ∃ n, ps.length = n := ⟨_, rfl⟩
  have HP : Hid (∀ (B : Nat) (w : World) v, w.ownsRow B 36 5 v n (flat5 ps) → PipesAt w.heap.size w v ps) := Lib.hid fun B w v h => own_pipes ps n hn v w h
  rw [hn] at h0 hl hc ⊢
  have Hn := Lib.hid hn
  have HR := Lib.hid hR
  clear hn hR hps
  have HO := Lib.hid (own_empty ((w.alloc (.cells #[.int .i64 pump, .slice (some ⟨g, off, none⟩) n c] 24)).alloc (.cells #[.int .i64 0, .slice none 0 0] 24)) 36 5 (w.heap.size + 1 + 1) (by simp))
  go_enter Tryd.func7, Tryd.ntmps7
  go_wp2_with (at_builtin; refine wpList_append_own _ rfl (.tmp 3) (.tmp 5) 22 rfl (w.heap.size + 1 + 1) 36 i0 (.agg #[.int .i64 0, .int .i64 0, .int .i64 0, .int .i64 0, .int .i64 0]) 5 40 Tryd.underlying22 hi0 hz0 hz1 hz2 rfl (by decide) (.slice (some ⟨w.heap.size + 1 + 1, 0, none⟩) 0 0) 0 [] rfl HO.out ⟨g, off, none⟩ n c (flat5 ps) rfl ?_ ?_ ?_ ?_ ?_ ?_ ?_)
  case refine_1 => rw [flat5_length, Hn.out]
  case refine_2 =>
    intro j u hj
    rw [Addr.add_lit]
    exact ((((Below.refl w.heap.size w).alloc (Nat.le_refl _) _).alloc (by simp) _).alloc (by simp <;> omega) _).cell (p := ⟨g, off + j, none⟩) hg |>.trans (prd_flat ps off HR.out j u hj)
  case refine_3 =>
    intro u hu
    simp only [flat5, List.mem_flatMap] at hu
    obtain ⟨p, _, hp⟩ := hu
    simp at hp
    rcases hp with rfl | rfl | rfl | rfl | rfl <;> rfl
  case refine_4 => unfold maxLen; omega
  case refine_5 => omega
  case refine_6 => simp
  case refine_7 =>
    intro v' w1 hown' hgrow _
    have hB : Below w.heap.size w w1 := ((((Below.refl w.heap.size w).alloc (Nat.le_refl _) _).alloc (by simp) _).alloc (by simp <;> omega) _).grown hgrow (by simp <;> omega) (fun k hk => by simp [Value.ownBlock] at hk; omega)
    have hown2 : w1.ownsRow (w.heap.size + 1 + 1) 36 5 v' n (flat5 ps) := by simpa using hown'
    obtain ⟨G, cap, rfl⟩ := own_slice hown2 h0
    have hGlt := hown2.lt G rfl
    have HO1 := Lib.hid hown2
    have kp : ∀ (b o : Nat) (x : Option Value), b < w.heap.size + 1 + 1 → (((w.alloc (.cells #[.int .i64 pump, .slice (some ⟨g, off, none⟩) n c] 24)).alloc (.cells #[.int .i64 0, .slice none 0 0] 24)).alloc (.cells #[] 36)).cell? ⟨b, o, none⟩ = x → w1.cell? ⟨b, o, none⟩ = x := fun b o x hb h => by
      rw [← h]
      exact World.cell?_of_block (hgrow.block b (by simp; omega) (by simp [Value.ownBlock]; omega))
    have kf : ∀ (b o : Nat) (x : Bool), b < w.heap.size + 1 + 1 → (((w.alloc (.cells #[.int .i64 pump, .slice (some ⟨g, off, none⟩) n c] 24)).alloc (.cells #[.int .i64 0, .slice none 0 0] 24)).alloc (.cells #[] 36)).frozen? ⟨b, o, none⟩ = x → w1.frozen? ⟨b, o, none⟩ = x := fun b o x hb h => by
      rw [← h]
      exact World.frozen?_of_block (hgrow.block b (by simp; omega) (by simp [Value.ownBlock]; omega))
    have b0 := kp w.heap.size 0 (some (.int .i64 pump)) (by omega) (by simp [go_sem])
    have b1 := kp w.heap.size 1 _ (by omega) (by simp [go_sem]; rfl)
    have fb1 := kf w.heap.size 1 false (by omega) (by simp [go_sem])
    have s0 := kp (w.heap.size + 1) 0 (some (.int .i64 0)) (by omega) (by simp [go_sem])
    have s1 := kp (w.heap.size + 1) 1 (some (.slice none 0 0)) (by omega) (by simp [go_sem])
    have fs0 := kf (w.heap.size + 1) 0 false (by omega) (by simp [go_sem])
    have fs1 := kf (w.heap.size + 1) 1 false (by omega) (by simp [go_sem])
    clear hown' hown2 hgrow kp kf
    go_wp2_with fail
    refine bodyPost_ret (v := .agg #[.int .i64 pump, .slice (some ⟨G, 0, none⟩) n cap]) (by simp [results, Tryd.results7, go_sem, b0, b1, s0, s1, fs0, fs1]) rfl ⟨.slice (some ⟨G, 0, none⟩) n cap, rfl, ?_, ?_⟩
    · exact HP.out _ _ _ (own_set1 (own_set1 (own_set1 HO1.out (b := w.heap.size) (by simp [Value.ownBlock]; omega) _ _) (b := w.heap.size + 1) (by simp [Value.ownBlock]; omega) _ _) (b := w.heap.size + 1) (by simp [Value.ownBlock]; omega) _ _)
    · exact ((hB.setCell (p := ⟨w.heap.size, 1, none⟩) (Nat.le_refl _) _).setCell (p := ⟨w.heap.size + 1, 0, none⟩) (Nat.le_succ _) _).setCell (p := ⟨w.heap.size + 1, 1, none⟩) (Nat.le_succ _) _

set_option maxRecDepth 20000 in
set_option maxHeartbeats 1000000 in
theorem meetFlows_ok (v : Value) (xs : List (Int × Int)) (w : World) (h0 : 0 < xs.length) (hl : xs.length ≤ 1000) (hv : SetAt w.heap.size w v xs) :
    Calls Tryd.prog 8 #[v] w fun e w' => ∃ v', e = .returned v' ∧ RowAt w'.heap.size w' v' xs ∧ Below w.heap.size w w' := by
  obtain ⟨A, c, rfl, hr⟩ := hv
  obtain ⟨g, off, rfl, hg, hr⟩ := hr h0
  obtain ⟨i0, hi0, hz0, hz1, hz2⟩ := info_parts infoRange
  obtain ⟨n, hn⟩ : ∃ n, xs.length = n := ⟨_, rfl⟩
  rw [hn] at hl h0 ⊢
  have Hn := Lib.hid hn
  have HR := Lib.hid hr
  clear hn hr
  have HO := Lib.hid (own_empty w 34 2 w.heap.size rfl)
  go_enter Tryd.func8, Tryd.ntmps8
  go_wp2_with (at_builtin; refine wpList_append_own _ rfl (.tmp 3) (.tmp 4) 25 rfl w.heap.size 34 i0 (.agg #[.int .i64 0, .int .i64 0]) 2 16 Tryd.underlying25 hi0 hz0 hz1 hz2 rfl (by decide) (.slice (some ⟨w.heap.size, 0, none⟩) 0 0) 0 [] rfl HO.out ⟨g, off, none⟩ n c (flat xs) rfl ?_ ?_ ?_ ?_ ?_ ?_ ?_)
  case refine_1 => rw [flat_length, Hn.out]
  case refine_2 =>
    intro j u hj
    rw [Addr.add_lit]
    exact (((Below.refl _ _).alloc (Nat.le_refl _) _).cell (p := ⟨g, off + j, none⟩) hg).trans (rrd_flat xs off HR.out j u hj)
  case refine_3 =>
    intro u hu
    simp only [flat, List.mem_flatMap] at hu
    obtain ⟨p, _, hp⟩ := hu
    simp at hp
    rcases hp with rfl | rfl <;> rfl
  case refine_4 => unfold maxLen; omega
  case refine_5 => omega
  case refine_6 => simp
  case refine_7 =>
    intro v' w1 hown' hgrow _
    have hB : Below w.heap.size w w1 := ((Below.refl _ _).alloc (Nat.le_refl _) _).grown hgrow (by simp) (fun k hk => by simp [Value.ownBlock] at hk; omega)
    have hR : RowAt w1.heap.size w1 v' xs := own_row xs n Hn.out v' w1 (by simpa using hown')
    have HR1 := Lib.hid hR
    clear hown' hgrow hR
    go_wp2_with fail
    go_ret
    exact ⟨v', rfl, HR1.out, hB⟩
end Go.Proofs.YtpphchbokphkdaaDoor
