/- Contracts of package barrel: sets of numbers as maps; takes that are cloned, and checked. -/
import Derived.Test.YtloddjjmoaljhaaG2
import Derived.Maps.Own
import Derived.Maps.OwnOps
import Derived.Maps.Views
namespace Go.Proofs.Ytloddjjmoaljhaa
open Go.RowKit Go.Lib Go.Shelf Go.Maps
set_option linter.unusedVariables false
set_option linter.unusedSimpArgs false
attribute [local go_sem ↓] Go.wp_at_zero Go.wp_at_succ

theorem intKey : Keyed Try.prog 3 := int_keyed Try.underlying3
theorem zeroBool (w : World) : (zeroValue 4).run Try.prog w = .ok (.bool false) w := by kernel_rfl
/-- what a set of numbers reads as -/
def Sd (ks : List Int) : DataW Unit := ks.foldl (fun D x => D.put (.int .i64 x) (.lit (.bool true))) (.map [])
/-- the map at block b holds the numbers ks -/
def SetM (w : World) (b : Nat) (ks : List Int) : Prop := w.ownsMap Try.prog 3 (plainElem Try.prog 4) b ks.length (Sd ks)
theorem SetM.below {w w' : World} {b : Nat} {ks : List Int} (h : SetM w b ks) (hb : Below w.heap.size w w') : SetM w' b ks :=
  World.ownsMap.kept (row := none) h ⟨hb.os, hb.tape, hb.output, hb.size, fun i hi _ => hb.block i hi⟩ (by simp)
theorem SetM.kept {U : Nat → Prop} {w w' : World} {b : Nat} {ks : List Int} (h : SetM w b ks) (hk : Kept U w w') (hb : ¬ U b) : SetM w' b ks := by
  obtain ⟨es, clock, h1, F, hs, hD⟩ := h
  exact ⟨es, clock, hk.2 _ _ h1 hb, F, hs, hD⟩
theorem SetM.drew {w : World} {b : Nat} {ks : List Int} (h : SetM w b ks) : SetM w.drew b ks := World.ownsMap.drew h
theorem SetM.made (w : World) : SetM (w.alloc (.map #[] 0)) w.heap.size [] := World.ownsMap_made w _ _ _
theorem sd_at (x : Int) : ∀ (ks : List Int) (D : DataW Unit), IsMap D → (ks.foldl (fun D x => D.put (.int .i64 x) (.lit (.bool true))) D).atKey (.int .i64 x) (.lit (.bool false)) = if x ∈ ks then .lit (.bool true) else D.atKey (.int .i64 x) (.lit (.bool false)) := by
  intro ks
  induction ks with
  | nil => intro D _; simp
  | cons y ks ih =>
    intro D hD
    rw [List.foldl_cons, ih _ (hD.put _ _)]
    by_cases h : x ∈ ks
    · rw [if_pos h, if_pos (List.mem_cons_of_mem _ h)]
    · rw [if_neg h]
      by_cases hxy : x = y
      · subst hxy
        rw [if_pos (List.mem_cons_self ..)]
        exact atKey_put_same (k := .int .i64 x) hD (show WideAt.IsKeyLit (.int .i64 x) from trivial) _ _
      · rw [if_neg (by simp [hxy, h])]
        exact atKey_put_other (by simpa using hxy) _ _
theorem Sd_at (x : Int) (ks : List Int) : (Sd ks).atKey (.int .i64 x) (.lit (.bool false)) = .lit (.bool (decide (x ∈ ks))) := by
  unfold Sd
  rw [sd_at x ks _ isMap_empty]
  by_cases h : x ∈ ks
  · rw [if_pos h, decide_eq_true h]
  · rw [if_neg h, decide_eq_false h]
    rfl
set_option maxRecDepth 40000 in
theorem bool_inv {v : Value} {z : DataW Unit × List MemPlace} (h : plainElem Try.prog 4 v = some z) : ∃ x, v = .bool x ∧ z.1 = .lit (.bool x) := by
  unfold plainElem at h
  rw [Try.underlying4] at h
  cases v <;> simp at h
  subst h
  exact ⟨_, rfl, rfl⟩
theorem look_set {w : World} {b : Nat} {ks : List Int} (h : SetM w b ks) (n : Int) (hn : (Lit.int .i64 n).wf = true) : (Instr.lookup 93 (.map (some b)) (.int .i64 n) false).run Try.prog w = .ok (.bool (decide (n ∈ ks))) w := by
  obtain ⟨v, ps, hrun, hv⟩ := World.ownsMap.lookup h intKey Try.underlying93 (zeroBool w) (plainElem_bool Try.underlying4 false) (keyOf_int_mk Try.underlying3 hn)
  obtain ⟨x, rfl, hx⟩ := bool_inv hv
  dsimp only at hx
  rw [Sd_at] at hx
  have hx2 := Lit.bool.inj (DataW.lit.inj hx)
  rw [hrun, hx2]
theorem put_set {w : World} {b : Nat} {ks : List Int} (h : SetM w b ks) (n : Int) (hn : (Lit.int .i64 n).wf = true) (hl : ks.length < maxLen) : ∃ w', (Instr.mapUpdate 93 (.map (some b)) (.int .i64 n) (.bool true)).run Try.prog w = .ok () w' ∧ SetM w' b (ks ++ [n]) ∧ w.grownBy w' (some b) := by
  obtain ⟨w', hrun, h1, h2⟩ := World.ownsMap.update h intKey Try.underlying93 hl (keyOf_int_mk Try.underlying3 hn) (plainElem_bool Try.underlying4 true)
  refine ⟨w', hrun, ?_, h2⟩
  unfold SetM
  rw [show Sd (ks ++ [n]) = (Sd ks).put (.int .i64 n) (.lit (.bool true)) from by simp [Sd, List.foldl_append], List.length_append]
  exact h1
theorem wpList_look_set (w : World) {ops : Array Oper} {rest : List Oper} {o : Oper} {a : Act} {Q : Exit → Act → World → Prop} (hg : o.guard = none) (m x : Operand) (hop : o.op = Op.lookup 93 m x false)
    (b : Nat) (ks : List Int) (hm : a.eval m = .map (some b)) (hs : SetM w b ks) (n : Int) (hx : a.eval x = .int .i64 n) (hn : (Lit.int .i64 n).wf = true)
    (hK : wpList Try.prog ops Q rest (a.put o.dst (.bool (decide (n ∈ ks)))) w) : wpList Try.prog ops Q (o :: rest) a w := by
  refine wpList_plain hg fun K' hK' => ?_
  have hrun := look_set hs n hn
  unfold Oper.wp
  simp [execOp, hop, hm, hx, hrun, Result.andThen]
  exact hK' _ _ hK
theorem wpList_put_set (w : World) {ops : Array Oper} {rest : List Oper} {o : Oper} {a : Act} {Q : Exit → Act → World → Prop} (hg : o.guard = none) (m x : Operand) (hop : o.op = Op.mapUpdate 93 m x (.const (.bool true)))
    (b : Nat) (ks : List Int) (hm : a.eval m = .map (some b)) (hs : SetM w b ks) (n : Int) (hx : a.eval x = .int .i64 n) (hn : (Lit.int .i64 n).wf = true) (hl : ks.length < maxLen)
    (hK : ∀ w', SetM w' b (ks ++ [n]) → w.grownBy w' (some b) → wpList Try.prog ops Q rest (a.put o.dst undef) w') : wpList Try.prog ops Q (o :: rest) a w := by
  refine wpList_plain hg fun K' hK' => ?_
  obtain ⟨w', hrun, h1, h2⟩ := put_set hs n hn hl
  have hv : a.eval (.const (.bool true)) = .bool true := rfl
  unfold Oper.wp
  simp [execOp, hop, hm, hx, hv, hrun, Result.andThen]
  exact hK' _ _ (hK w' h1 h2)
theorem wpList_ins_set (w : World) {ops : Array Oper} {rest : List Oper} {o : Oper} {a : Act} {Q : Exit → Act → World → Prop} (hg : o.guard = none) (m x : Operand) (hop : o.op = Op.insert 93 m x (.const (.bool true)))
    (b : Nat) (ks : List Int) (hm : a.eval m = .map (some b)) (hs : SetM w b ks) (n : Int) (hx : a.eval x = .int .i64 n) (hn : (Lit.int .i64 n).wf = true) (hl : ks.length < maxLen)
    (hK : ∀ w', SetM w' b (ks ++ [n]) → w.grownBy w' (some b) → wpList Try.prog ops Q rest (a.put o.dst undef) w') : wpList Try.prog ops Q (o :: rest) a w := by
  refine wpList_plain hg fun K' hK' => ?_
  obtain ⟨w', hrun, h1, h2⟩ := put_set hs n hn hl
  have hv : a.eval (.const (.bool true)) = .bool true := rfl
  unfold Oper.wp
  simp [execOp, hop, hm, hx, hv, hrun, Result.andThen]
  exact hK' _ _ (hK w' h1 h2)
theorem wf_small {n : Int} (h : -9223372036854775808 ≤ n ∧ n ≤ 9223372036854775807) : (Lit.int .i64 n).wf = true := by
  have e1 : IntKind.i64.min = -9223372036854775808 := by decide +kernel
  have e2 : IntKind.i64.max = 9223372036854775807 := by decide +kernel
  simp [Lit.wf]
  omega

theorem own_takes (xs : List (Int × Int)) (n : Nat) (hn : xs.length = n) (v : Value) (w : World) {base : Nat} (h : w.ownsRow base 55 2 v n (flat xs)) : TkAt w v xs (fun g => g < base) := by
  subst hn
  have hc := h
  obtain ⟨_, ⟨rfl, h0⟩ | ⟨g, cap, cur, rfl, hbg, hh, hnc, _, _, _⟩⟩ := h
  · have : xs = [] := List.eq_nil_of_length_eq_zero h0
    subst this
    exact ⟨none, 0, rfl, Nat.le_refl _, fun h => by simp at h⟩
  · refine ⟨_, cap, rfl, hnc, fun _ => ⟨g, 0, rfl, ?_, Nat.not_lt.2 hbg, flat_rrd xs 0 fun j u hj => ?_⟩⟩
    · rcases Nat.lt_or_ge g w.heap.size with h | h
      · exact h
      · rw [Array.getElem?_eq_none h] at hh; cases hh
    · have := hc.cells (g := g) rfl j u hj
      simpa [Addr.add_lit] using this
set_option maxRecDepth 40000 in
set_option maxHeartbeats 1000000 in
theorem clone_ok (vv : Value) (tk : List (Int × Int)) (w : World) (h0 : 0 < tk.length) (hl : tk.length ≤ 1000) (hv : RowAt w.heap.size w vv tk) :
    Calls Try.prog 38 #[vv] w fun e w' => ∃ v', e = .returned v' ∧ TkAt w' v' tk (fun g => g < w.heap.size) ∧ Below w.heap.size w w' := by
  obtain ⟨i0, hi0, hz0, hz1, hz2⟩ := info_parts infoTake
  obtain ⟨A, c, rfl, hlc, hr⟩ := hv
  obtain ⟨g, off, rfl, hg, hR⟩ := hr h0
  obtain ⟨n, hn⟩ : ∃ n, tk.length = n := ⟨_, rfl⟩
  have hfl : (flat tk).length = n * 2 := by rw [flat_length, hn]
  have HC : Hid (∀ j u, (flat tk)[j]? = some u → (w.alloc (.cells #[] 55)).cell? ⟨g, off + j, none⟩ = some u) := Lib.hid (fun j u h => cell_next ((Below.refl w.heap.size w).alloc (Nat.le_refl _) _) hg (rrd_flat tk off hR j u h))
  have Hn := Lib.hid hn
  rw [hn] at h0 hl hlc ⊢
  clear hr hR hn
  have hnil : ∀ W : World, (binOp .eql 56 (.slice (some ⟨g, off, none⟩) n c) (.slice none 0 0)).run Try.prog W = .ok (.bool false) W := fun W => by
    have := Lib.run_eql_slice_nil W 56 55 (some ⟨g, off, none⟩) n c 0 0 Try.underlying56
    simpa using this
  go_enter Try.func38, Try.ntmps38
  go_wp2_with (at_builtin; refine wpList_append_own_at _ rfl (.tmp 5) (.tmp 6) 56 rfl w.heap.size 55 i0 (.agg #[.int .i64 0, .int .i64 0]) 2 16 Try.underlying56 hi0 hz0 hz1 hz2 rfl (by decide) (.slice (some ⟨w.heap.size, 0, none⟩) 0 0) 0 [] rfl (own_empty0 w 55 2) ⟨g, off, none⟩ n c (flat tk) rfl ?_ ?_ ?_ ?_ ?_ ?_ ?_)
  case refine_7 =>
    intro v' w1 hown' hgrow _ hat
    have hB : Below w.heap.size w w1 := ((Below.refl _ _).alloc (Nat.le_refl _) _).grown hgrow (by simp) (fun j hj => by simp [Value.ownBlock] at hj; omega)
    have hT := Lib.hid (own_takes tk n Hn.out v' w1 (by simpa using hown'))
    clear hown' hgrow hat
    go_wp2_with fail
    go_ret
    exact ⟨_, rfl, hT.out, hB⟩
  all_goals first
    | exact hfl
    | (intro j u hj; rw [Addr.add_lit]; exact HC.out j u hj)
    | (intro u hu; simp only [flat, List.mem_flatMap] at hu; obtain ⟨p, _, hp⟩ := hu; simp at hp; rcases hp with rfl | rfl <;> rfl)
    | (unfold maxLen; omega)
    | omega
    | (simp; done)

/-- takes that a ledger can give -/
def tkOk (tk : List (Int × Int)) (hs : List (Value × Th)) : Prop :=
  ∀ k p, tk[k]? = some p → ∃ (j : Nat) (q : Value × Th), p.1 = (j : Int) ∧ hs[j]? = some q ∧ 1 ≤ p.2 ∧ p.2 ≤ q.2.l ∧ q.2.l ≤ 1000000000 ∧ p.1 ∉ (tk.take k).map Prod.fst
set_option maxRecDepth 40000 in
set_option maxHeartbeats 4000000 in
theorem checkTakes_ok (B b : Nat) (V vv : Value) (hs : List (Value × Th)) (tk : List (Int × Int)) (w : World) (h0 : 0 < tk.length) (hl : tk.length ≤ 20) (hn : hs.length ≤ 200) (hL : Lg B b w V hs) (hv : RowAt w.heap.size w vv tk) (hok : tkOk tk hs) :
    Calls Try.prog 37 #[.pointer (some ⟨b, 0, none⟩), vv] w fun e w' => e = .returned (.int .i64 0) ∧ Below w.heap.size w w' := by
  obtain ⟨A, c, rfl, hlc, hr⟩ := hv
  obtain ⟨n, hnn⟩ : ∃ n, tk.length = n := ⟨_, rfl⟩
  rw [hnn] at h0 hl hlc hr ⊢
  obtain ⟨g, off, rfl, hg, hR⟩ := hr h0
  have Hn := Lib.hid hnn
  have HR := Lib.hid hR
  have HK := Lib.hid hok
  have HLg := Lib.hid hL
  have hbl := hL.lt
  obtain ⟨n2, hn2⟩ : ∃ n2, hs.length = n2 := ⟨_, rfl⟩
  rw [hn2] at hn
  have Hn2 := Lib.hid hn2
  have z1 : ((n : Int) == 0) = false := by simp; omega
  have y1 : IntKind.i64.wrap ((n2 : Int) - 1) = (n2 : Int) - 1 := IntWalk.i64_in _ (by omega)
  clear hr hR hok hnn hL hn2
  go_enter Try.func37, Try.ntmps37
  have hmm := @run_makeMap Try.prog
  go_wp2_with fail
  go_loopw [17] (fun i wr => ∃ k : Nat, k ≤ n ∧ i = .int .i64 k ∧ Hid (SetM wr w.heap.size ((tk.take k).map Prod.fst)) ∧ Below w.heap.size w wr) (fun i _ => n - (RowKit.intOf i).toNat)
  case atStart => exact ⟨0, Nat.zero_le _, rfl, Lib.hid (SetM.made w), (Below.refl _ _).alloc (Nat.le_refl _) _⟩
  case round =>
    clear hmm
    obtain ⟨k, hk, rfl, HM, hbr⟩ := hrel
    by_cases hlt : (k : Int) < (n : Int)
    · obtain ⟨⟨x, y⟩, hp⟩ : ∃ p, tk[k]? = some p := ⟨_, List.getElem?_eq_getElem (by rw [Hn.out]; omega)⟩
      obtain ⟨p0, p1⟩ := (HR.out.below hbr hg) k _ hp
      obtain ⟨j, ⟨tv, th⟩, hj, hq, k1, k2, k3, k4⟩ := HK.out k _ hp
      dsimp only at p0 p1 hj k1 k2 k3 k4
      subst hj
      have hjn := (List.getElem?_eq_some_iff.1 hq).1
      rw [Hn2.out] at hjn
      obtain ⟨g2, c2, hV, e1, _, n2g, _, _, _, q2, _⟩ := HLg.out.at hq
      have cb := HLg.out.cell
      rw [hV, Hn2.out] at cb
      dsimp only at q2
      replace q2 := cell_next hbr n2g q2
      replace cb := cell_next hbr hbl cb
      replace n2g := Nat.lt_of_lt_of_le n2g hbr.size
      have nb := Nat.lt_of_lt_of_le hbl hbr.size
      have hlk : ((tk.take k).map Prod.fst).length = k := by rw [List.length_map, List.length_take, Hn.out]; omega
      have hmem : decide ((j : Int) ∈ (tk.take k).map Prod.fst) = false := decide_eq_false k4
      have hsn : (tk.take (k + 1)).map Prod.fst = (tk.take k).map Prod.fst ++ [(j : Int)] := by rw [List.take_add_one, hp]; simp
      obtain ⟨KS, hKS⟩ : ∃ KS, (tk.take k).map Prod.fst = KS := ⟨_, rfl⟩
      rw [hKS] at hlk hmem hsn HM
      have HS := Lib.hid hsn
      have C9 := Lib.hid (fun (W : World) (g c : Nat) => bin1v_any 0 ((n2 : Int) - 1) (j : Int) g c W)
      rw [show inB 0 ((n2 : Int) - 1) (j : Int) = true from by simp [inB]; omega] at C9
      obtain ⟨tkk, mm, lf⟩ := th
      dsimp only at k2 k3 q2
      have C13 := Lib.hid (fun (W : World) (g c : Nat) => bin1v_any 1 lf y g c W)
      rw [show inB 1 lf y = true from by simp [inB]; omega] at C13
      have hwj : (Lit.int .i64 (j : Int)).wf = true := wf_small (by omega)
      have hjl : (j : Int) < (n2 : Int) := by omega
      have HMs := Lib.hid hmem
      have hbs := hbr.size
      have hgk : k < maxLen := by unfold maxLen; omega
      clear hp hq k1 k2 k3 k4 hV hsn hmem e1 hKS
      go_wp2_with fail
      have hb : Below wr.heap.size wr (wr.alloc (.cells #[.int .i64 (j : Int), .int .i64 y] 55)) := (Below.refl _ _).alloc (Nat.le_refl _) _
      have P0 : (wr.alloc (.cells #[.int .i64 (j : Int), .int .i64 y] 55)).cell? ⟨wr.heap.size, 0, none⟩ = some (.int .i64 (j : Int)) := cell_new _ _ _ 0
      have P1 : (wr.alloc (.cells #[.int .i64 (j : Int), .int .i64 y] 55)).cell? ⟨wr.heap.size, 1, none⟩ = some (.int .i64 y) := cell_new _ _ _ 1
      have nP : wr.heap.size < (wr.alloc (.cells #[.int .i64 (j : Int), .int .i64 y] 55)).heap.size := by simp
      replace q2 := cell_next hb n2g q2
      replace cb := cell_next hb nb cb
      replace HM := Lib.hid (HM.out.below hb)
      replace n2g := Nat.lt_of_lt_of_le n2g hb.size
      replace nb := Nat.lt_of_lt_of_le nb hb.size
      replace hbr := hbr.trans (hb.mono hbs)
      clear hb
      generalize wr.alloc (.cells #[.int .i64 (j : Int), .int .i64 y] 55) = w1 at *
      generalize wr.heap.size = bt at *
      have hBW := hbr.size
      refine wp_region_held_drew (S := fun w' => w'.cell? ⟨bt, 0, none⟩ = some (.int .i64 (j : Int)) ∧ w'.cell? ⟨b, 0, none⟩ = some (.slice (some ⟨g2, 0, none⟩) n2 c2) ∧ True) (by kernel_rfl) ?_ (fun hHeld => ?_)
      focus (exact ⟨P0, cb, trivial⟩)
      have hL : Below w.heap.size w1 w1.drew := Below.drew (Below.refl _ _)
      replace P0 : w1.drew.cell? ⟨bt, 0, none⟩ = some (.int .i64 (j : Int)) := P0
      replace P1 : w1.drew.cell? ⟨bt, 1, none⟩ = some (.int .i64 y) := P1
      replace cb : w1.drew.cell? ⟨b, 0, none⟩ = some (.slice (some ⟨g2, 0, none⟩) n2 c2) := cb
      replace q2 : w1.drew.cell? ⟨g2, j * 3 + 2, none⟩ = some (.int .i64 lf) := q2
      replace nP : bt < w1.drew.heap.size := nP
      replace nb : b < w1.drew.heap.size := nb
      replace n2g : g2 < w1.drew.heap.size := n2g
      replace HM := Lib.hid HM.out.drew
      generalize hWd : w1.drew = wd9 at hHeld hL P0 P1 cb q2 nP nb n2g HM ⊢
      clear hWd
      refine take_slot (i := 0) (d := 22) (v := ?_) rfl rfl (by kernel_rfl) (by kernel_rfl) (by kernel_rfl) (fun _ _ _ h => h) (Or.inl ⟨by rfl, ?_⟩) (by assumption) ?_
      rotate_left 1
      focus (intro wS hSw; (try dsimp only at hSw); go_simp; try with_reducible rfl)
      try simp only [List.setIfInBounds_toArray, List.set_cons_zero, List.set_cons_succ]
      refine take_slot (i := 1) (d := 23) (v := ?_) rfl rfl (by kernel_rfl) (by kernel_rfl) (by kernel_rfl) (fun _ _ _ h => h) (Or.inl ⟨by rfl, ?_⟩) (by assumption) ?_
      rotate_left 1
      focus (intro wS hSw; (try dsimp only at hSw); go_simp; try with_reducible rfl)
      try simp only [List.setIfInBounds_toArray, List.set_cons_zero, List.set_cons_succ]
      refine take_slot (i := 2) (d := 24) (v := ?_) rfl rfl (by kernel_rfl) (by kernel_rfl) (by kernel_rfl) (fun _ _ _ h => h) (Or.inl ⟨by rfl, ?_⟩) (by assumption) ?_
      rotate_left 1
      focus (intro wS hSw; (try dsimp only at hSw); go_simp; try with_reducible rfl)
      try simp only [List.setIfInBounds_toArray, List.set_cons_zero, List.set_cons_succ]
      refine take_slot (i := 3) (d := 25) (v := ?_) rfl rfl (by kernel_rfl) (by kernel_rfl) (by kernel_rfl) (fun _ _ _ h => h) (Or.inl ⟨by rfl, ?_⟩) (by assumption) ?_
      rotate_left 1
      focus (intro wS hSw; (try dsimp only at hSw); go_simp; try with_reducible rfl)
      try simp only [List.setIfInBounds_toArray, List.set_cons_zero, List.set_cons_succ]
      refine take_slot (i := 4) (d := 26) (v := ?_) rfl rfl (by kernel_rfl) (by kernel_rfl) (by kernel_rfl) (fun _ _ _ h => h) (Or.inl ⟨by rfl, ?_⟩) (by assumption) ?_
      rotate_left 1
      focus (intro wS hSw; (try dsimp only at hSw); go_simp; try with_reducible rfl)
      try simp only [List.setIfInBounds_toArray, List.set_cons_zero, List.set_cons_succ]
      refine take_slot (i := 5) (d := 27) (v := ?_) rfl rfl (by kernel_rfl) (by kernel_rfl) (by kernel_rfl) (fun _ _ _ h => h) (Or.inl ⟨by rfl, ?_⟩) (by assumption) ?_
      rotate_left 1
      focus (intro wS hSw; (try dsimp only at hSw); go_simp; try with_reducible rfl)
      try simp only [List.setIfInBounds_toArray, List.set_cons_zero, List.set_cons_succ]
      refine take_slot (i := 6) (d := 28) (v := ?_) rfl rfl (by kernel_rfl) (by kernel_rfl) (by kernel_rfl) (fun _ _ _ h => h) (Or.inl ⟨by rfl, ?_⟩) (by assumption) ?_
      rotate_left 1
      focus (intro wS hSw; (try dsimp only at hSw); go_simp; try with_reducible rfl)
      try simp only [List.setIfInBounds_toArray, List.set_cons_zero, List.set_cons_succ]
      refine take_slot (i := 7) (d := 29) (v := ?_) rfl rfl (by kernel_rfl) (by kernel_rfl) (by kernel_rfl) (fun _ _ _ h => h) (Or.inl ⟨by rfl, ?_⟩) (by assumption) ?_
      rotate_left 1
      focus (intro wS hSw; (try dsimp only at hSw); go_simp; try with_reducible rfl)
      try simp only [List.setIfInBounds_toArray, List.set_cons_zero, List.set_cons_succ]
      refine wpAnyH_ready (rs := [8]) (by kernel_rfl) (by simp) ?_
      refine AllReadyH.cons rfl (fun K hK => ?_) AllReadyH.nil
      go_simp
      have hb := (Below.refl wd9.heap.size wd9).alloc (Nat.le_refl _) (Obj.cells #[.int .i64 (j : Int)] 3)
      have szZ9x1 := hL.size
      have ord1nP := nP
      have ord1nb := nb
      have ord1n2g := n2g
      replace P0 := cell_next hb nP P0
      replace P1 := cell_next hb nP P1
      replace cb := cell_next hb nb cb
      replace q2 := cell_next hb n2g q2
      replace nP := Nat.lt_of_lt_of_le nP hb.size
      replace nb := Nat.lt_of_lt_of_le nb hb.size
      replace n2g := Nat.lt_of_lt_of_le n2g hb.size
      replace hL := hL.trans (hb.mono (Nat.le_trans hBW hL.size))
      replace HM := Lib.hid (HM.out.below hb)
      have X0 : (wd9.alloc (Obj.cells #[.int .i64 (j : Int)] 3)).cell? ⟨wd9.heap.size, 0, none⟩ = some (.int .i64 (j : Int)) := cell_new _ _ _ 0
      have nX : wd9.heap.size < (wd9.alloc (Obj.cells #[.int .i64 (j : Int)] 3)).heap.size := by simp
      refine hK.out _ _ ⟨P0, cb, trivial⟩ (fun hHeld => ?_)
      clear hK K hb
      generalize wd9.alloc (Obj.cells #[.int .i64 (j : Int)] 3) = Z9x1 at *
      try simp only [Act.put, List.setIfInBounds_toArray, List.set_cons_zero, List.set_cons_succ]
      refine wpAnyH_ready (rs := [9]) (by kernel_rfl) (by simp) ?_
      refine AllReadyH.cons rfl (fun K hK => ?_) AllReadyH.nil
      go_simp
      refine (C9.out _ _ _ nX X0).mono ?_
      rintro e Z9x2 ⟨rfl, hb⟩
      replace P0 := cell_next hb nP P0
      replace P1 := cell_next hb nP P1
      replace cb := cell_next hb nb cb
      replace q2 := cell_next hb n2g q2
      replace X0 := cell_next hb nX X0
      replace nP := Nat.lt_of_lt_of_le nP hb.size
      replace nb := Nat.lt_of_lt_of_le nb hb.size
      replace n2g := Nat.lt_of_lt_of_le n2g hb.size
      replace nX := Nat.lt_of_lt_of_le nX hb.size
      replace hL := hL.trans (hb.mono (Nat.le_trans hBW hL.size))
      replace HM := Lib.hid (HM.out.below hb)
      refine hK.out _ _ ⟨P0, cb, trivial⟩ (fun hHeld => ?_)
      clear hK K hb
      try simp only [Act.put, List.setIfInBounds_toArray, List.set_cons_zero, List.set_cons_succ]
      refine take_slot (i := 10) (d := 32) (v := ?_) rfl rfl (by kernel_rfl) (by kernel_rfl) (by kernel_rfl) (fun _ _ _ h => h) (Or.inl ⟨by rfl, ?_⟩) (by assumption) ?_
      rotate_left 1
      focus (intro wS hSw; (try dsimp only at hSw); go_simp; try with_reducible rfl)
      try simp only [List.setIfInBounds_toArray, List.set_cons_zero, List.set_cons_succ]
      refine take_slot (i := 11) (d := 21) (v := ?_) rfl rfl (by kernel_rfl) (by kernel_rfl) (by kernel_rfl) (fun _ _ _ h => h) (Or.inl ⟨by rfl, ?_⟩) (by assumption) ?_
      rotate_left 1
      focus (intro wS hSw; (try dsimp only at hSw); go_simp; try with_reducible rfl)
      try simp only [List.setIfInBounds_toArray, List.set_cons_zero, List.set_cons_succ]
      refine wpAnyH_done (by kernel_rfl) ?_ _
      replace hbr := hbr.trans hL
      clear hHeld hL hBW
      clear X0 nX
      go_wp2_with (at_lookup; refine wpList_look_set _ rfl (.tmp 34) (.tmp 36) rfl w.heap.size KS rfl HM.out (j : Int) rfl hwj ?_; rw [HMs.out])
      have hBW := hbr.size
      refine wp_region_held_drew (S := fun w' => w'.cell? ⟨bt, 0, none⟩ = some (.int .i64 (j : Int)) ∧ w'.cell? ⟨bt, 1, none⟩ = some (.int .i64 y) ∧ w'.cell? ⟨b, 0, none⟩ = some (.slice (some ⟨g2, 0, none⟩) n2 c2) ∧ w'.cell? ⟨g2, j * 3 + 2, none⟩ = some (.int .i64 lf) ∧ True) (by kernel_rfl) ?_ (fun hHeld => ?_)
      focus (exact ⟨P0, P1, cb, q2, trivial⟩)
      have hL : Below w.heap.size Z9x2 Z9x2.drew := Below.drew (Below.refl _ _)
      replace P0 : Z9x2.drew.cell? ⟨bt, 0, none⟩ = some (.int .i64 (j : Int)) := P0
      replace P1 : Z9x2.drew.cell? ⟨bt, 1, none⟩ = some (.int .i64 y) := P1
      replace cb : Z9x2.drew.cell? ⟨b, 0, none⟩ = some (.slice (some ⟨g2, 0, none⟩) n2 c2) := cb
      replace q2 : Z9x2.drew.cell? ⟨g2, j * 3 + 2, none⟩ = some (.int .i64 lf) := q2
      replace nP : bt < Z9x2.drew.heap.size := nP
      replace nb : b < Z9x2.drew.heap.size := nb
      replace n2g : g2 < Z9x2.drew.heap.size := n2g
      replace HM := Lib.hid HM.out.drew
      generalize hWd : Z9x2.drew = wd13 at hHeld hL P0 P1 cb q2 nP nb n2g HM ⊢
      clear hWd
      refine take_slot (i := 0) (d := 39) (v := ?_) rfl rfl (by kernel_rfl) (by kernel_rfl) (by kernel_rfl) (fun _ _ _ h => h) (Or.inl ⟨by rfl, ?_⟩) (by assumption) ?_
      rotate_left 1
      focus (intro wS hSw; (try dsimp only at hSw); go_simp; try with_reducible rfl)
      try simp only [List.setIfInBounds_toArray, List.set_cons_zero, List.set_cons_succ]
      refine take_slot (i := 1) (d := 40) (v := ?_) rfl rfl (by kernel_rfl) (by kernel_rfl) (by kernel_rfl) (fun _ _ _ h => h) (Or.inl ⟨by rfl, ?_⟩) (by assumption) ?_
      rotate_left 1
      focus (intro wS hSw; (try dsimp only at hSw); go_simp; try with_reducible rfl)
      try simp only [List.setIfInBounds_toArray, List.set_cons_zero, List.set_cons_succ]
      refine take_slot (i := 2) (d := 41) (v := ?_) rfl rfl (by kernel_rfl) (by kernel_rfl) (by kernel_rfl) (fun _ _ _ h => h) (Or.inl ⟨by rfl, ?_⟩) (by assumption) ?_
      rotate_left 1
      focus (intro wS hSw; (try dsimp only at hSw); go_simp; try with_reducible rfl)
      try simp only [List.setIfInBounds_toArray, List.set_cons_zero, List.set_cons_succ]
      refine take_slot (i := 3) (d := 42) (v := ?_) rfl rfl (by kernel_rfl) (by kernel_rfl) (by kernel_rfl) (fun _ _ _ h => h) (Or.inl ⟨by rfl, ?_⟩) (by assumption) ?_
      rotate_left 1
      focus (intro wS hSw; (try dsimp only at hSw); go_simp; try with_reducible rfl)
      try simp only [List.setIfInBounds_toArray, List.set_cons_zero, List.set_cons_succ]
      refine take_slot (i := 4) (d := 43) (v := ?_) rfl rfl (by kernel_rfl) (by kernel_rfl) (by kernel_rfl) (fun _ _ _ h => h) (Or.inl ⟨by rfl, ?_⟩) (by assumption) ?_
      rotate_left 1
      focus (intro wS hSw; (try dsimp only at hSw); go_simp; try with_reducible rfl)
      try simp only [List.setIfInBounds_toArray, List.set_cons_zero, List.set_cons_succ]
      refine take_slot (i := 5) (d := 44) (v := ?_) rfl rfl (by kernel_rfl) (by kernel_rfl) (by kernel_rfl) (fun _ _ _ h => h) (Or.inl ⟨by rfl, ?_⟩) (by assumption) ?_
      rotate_left 1
      focus (intro wS hSw; (try dsimp only at hSw); go_simp; try with_reducible rfl)
      try simp only [List.setIfInBounds_toArray, List.set_cons_zero, List.set_cons_succ]
      refine take_slot (i := 6) (d := 45) (v := ?_) rfl rfl (by kernel_rfl) (by kernel_rfl) (by kernel_rfl) (fun _ _ _ h => h) (Or.inl ⟨by rfl, ?_⟩) (by assumption) ?_
      rotate_left 1
      focus (intro wS hSw; (try dsimp only at hSw); go_simp; try with_reducible rfl)
      try simp only [List.setIfInBounds_toArray, List.set_cons_zero, List.set_cons_succ]
      refine take_slot (i := 7) (d := 46) (v := ?_) rfl rfl (by kernel_rfl) (by kernel_rfl) (by kernel_rfl) (fun _ _ _ h => h) (Or.inl ⟨by rfl, ?_⟩) (by assumption) ?_
      rotate_left 1
      focus (intro wS hSw; (try dsimp only at hSw); go_simp; try with_reducible rfl)
      try simp only [List.setIfInBounds_toArray, List.set_cons_zero, List.set_cons_succ]
      refine take_slot (i := 8) (d := 47) (v := ?_) rfl rfl (by kernel_rfl) (by kernel_rfl) (by kernel_rfl) (fun _ _ _ h => h) (Or.inl ⟨by rfl, ?_⟩) (by assumption) ?_
      rotate_left 1
      focus (intro wS hSw; (try dsimp only at hSw); go_simp; try with_reducible rfl)
      try simp only [List.setIfInBounds_toArray, List.set_cons_zero, List.set_cons_succ]
      refine take_slot (i := 9) (d := 48) (v := ?_) rfl rfl (by kernel_rfl) (by kernel_rfl) (by kernel_rfl) (fun _ _ _ h => h) (Or.inl ⟨by rfl, ?_⟩) (by assumption) ?_
      rotate_left 1
      focus (intro wS hSw; (try dsimp only at hSw); go_simp; try with_reducible rfl)
      try simp only [List.setIfInBounds_toArray, List.set_cons_zero, List.set_cons_succ]
      refine take_slot (i := 10) (d := 49) (v := ?_) rfl rfl (by kernel_rfl) (by kernel_rfl) (by kernel_rfl) (fun _ _ _ h => h) (Or.inl ⟨by rfl, ?_⟩) (by assumption) ?_
      rotate_left 1
      focus (intro wS hSw; (try dsimp only at hSw); go_simp; try with_reducible rfl)
      try simp only [List.setIfInBounds_toArray, List.set_cons_zero, List.set_cons_succ]
      refine wpAnyH_ready (rs := [11]) (by kernel_rfl) (by simp) ?_
      refine AllReadyH.cons rfl (fun K hK => ?_) AllReadyH.nil
      go_simp
      have hb := (Below.refl wd13.heap.size wd13).alloc (Nat.le_refl _) (Obj.cells #[.int .i64 y] 3)
      have szZ13x1 := hL.size
      have ord1nP := nP
      have ord1nb := nb
      have ord1n2g := n2g
      replace P0 := cell_next hb nP P0
      replace P1 := cell_next hb nP P1
      replace cb := cell_next hb nb cb
      replace q2 := cell_next hb n2g q2
      replace nP := Nat.lt_of_lt_of_le nP hb.size
      replace nb := Nat.lt_of_lt_of_le nb hb.size
      replace n2g := Nat.lt_of_lt_of_le n2g hb.size
      replace hL := hL.trans (hb.mono (Nat.le_trans hBW hL.size))
      replace HM := Lib.hid (HM.out.below hb)
      have Y0 : (wd13.alloc (Obj.cells #[.int .i64 y] 3)).cell? ⟨wd13.heap.size, 0, none⟩ = some (.int .i64 y) := cell_new _ _ _ 0
      have nY : wd13.heap.size < (wd13.alloc (Obj.cells #[.int .i64 y] 3)).heap.size := by simp
      refine hK.out _ _ ⟨P0, P1, cb, q2, trivial⟩ (fun hHeld => ?_)
      clear hK K hb
      generalize wd13.alloc (Obj.cells #[.int .i64 y] 3) = Z13x1 at *
      try simp only [Act.put, List.setIfInBounds_toArray, List.set_cons_zero, List.set_cons_succ]
      refine wpAnyH_ready (rs := [12]) (by kernel_rfl) (by simp) ?_
      refine AllReadyH.cons rfl (fun K hK => ?_) AllReadyH.nil
      go_simp
      refine (C13.out _ _ _ nY Y0).mono ?_
      rintro e Z13x2 ⟨rfl, hb⟩
      replace P0 := cell_next hb nP P0
      replace P1 := cell_next hb nP P1
      replace cb := cell_next hb nb cb
      replace q2 := cell_next hb n2g q2
      replace Y0 := cell_next hb nY Y0
      replace nP := Nat.lt_of_lt_of_le nP hb.size
      replace nb := Nat.lt_of_lt_of_le nb hb.size
      replace n2g := Nat.lt_of_lt_of_le n2g hb.size
      replace nY := Nat.lt_of_lt_of_le nY hb.size
      replace hL := hL.trans (hb.mono (Nat.le_trans hBW hL.size))
      replace HM := Lib.hid (HM.out.below hb)
      refine hK.out _ _ ⟨P0, P1, cb, q2, trivial⟩ (fun hHeld => ?_)
      clear hK K hb
      try simp only [Act.put, List.setIfInBounds_toArray, List.set_cons_zero, List.set_cons_succ]
      refine take_slot (i := 13) (d := 52) (v := ?_) rfl rfl (by kernel_rfl) (by kernel_rfl) (by kernel_rfl) (fun _ _ _ h => h) (Or.inl ⟨by rfl, ?_⟩) (by assumption) ?_
      rotate_left 1
      focus (intro wS hSw; (try dsimp only at hSw); go_simp; try with_reducible rfl)
      try simp only [List.setIfInBounds_toArray, List.set_cons_zero, List.set_cons_succ]
      refine take_slot (i := 14) (d := 38) (v := ?_) rfl rfl (by kernel_rfl) (by kernel_rfl) (by kernel_rfl) (fun _ _ _ h => h) (Or.inl ⟨by rfl, ?_⟩) (by assumption) ?_
      rotate_left 1
      focus (intro wS hSw; (try dsimp only at hSw); go_simp; try with_reducible rfl)
      try simp only [List.setIfInBounds_toArray, List.set_cons_zero, List.set_cons_succ]
      refine wpAnyH_done (by kernel_rfl) ?_ _
      replace hbr := hbr.trans hL
      clear hHeld hL hBW
      clear Y0 nY
      go_wp2_with (at_mapUpdate; refine wpList_put_set _ rfl (.tmp 53) (.tmp 55) rfl w.heap.size KS rfl HM.out (j : Int) rfl hwj (by rw [hlk]; exact hgk) ?_)
      intro w9 hM9 hg9
      have HM9 : Hid (SetM w9 w.heap.size ((tk.take (k + 1)).map Prod.fst)) := Lib.hid (by rw [HS.out]; exact hM9)
      have hbr9 := hbr.grown hg9 hbr.size (fun g h => by injection h with h; omega)
      clear hM9 hg9
      go_wp2_with fail
      go_roundw
      case rel => exact ⟨k + 1, by omega, by go_num, HM9, hbr9⟩
      case measure => simp [RowKit.intOf]; omega
    · obtain rfl : k = n := by omega
      go_wp2_with fail
      go_ret
      exact ⟨rfl, hbr⟩

end Go.Proofs.Ytloddjjmoaljhaa
