/- Contract of package barrel: Trace. -/
import Derived.Test.YtloddjjmoaljhaaG7
import Derived.Laws.IdiomCopy
import Derived.Deep.Upon
namespace Go.Proofs.Ytloddjjmoaljhaa
open Go.RowKit Go.Lib Go.Shelf Go.Maps
set_option linter.unusedVariables false
set_option linter.unusedSimpArgs false
attribute [local go_sem ↓] Go.wp_at_zero Go.wp_at_succ
attribute [local go_sem] Oper.semAt_some

theorem wpListIn_look_set {F : Fence} {nF : Nat} (w : World) {ops : Array Oper} {rest : List Oper} {o : Oper} {a : Act} {Q : Exit → Act → World → Prop} (hg : o.guard = none) (m x : Operand) (hop : o.op = Op.lookup 93 m x false)
    (b : Nat) (ks : List Int) (hm : a.eval m = .map (some b)) (hs : SetM w b ks) (n : Int) (hx : a.eval x = .int .i64 n) (hn : (Lit.int .i64 n).wf = true)
    (hK : wpListIn F nF Try.prog ops Q rest (a.put o.dst (.bool (decide (n ∈ ks)))) w) : wpListIn F nF Try.prog ops Q (o :: rest) a w := by
  refine wpListIn_plain hg fun K' hK' => ?_
  have hrun := look_set hs n hn
  unfold Oper.wpIn
  refine ⟨by simp [Oper.about, hop], ?_⟩
  rw [Oper.semAt_plain F _ _ (by rw [hop]; intro c hc'; cases hc')]
  simp [execOp, hop, hm, hx, hrun, Result.andThen]
  exact hK' _ _ hK
theorem wpListIn_put_set {F : Fence} {nF : Nat} (w : World) {ops : Array Oper} {rest : List Oper} {o : Oper} {a : Act} {Q : Exit → Act → World → Prop} (hg : o.guard = none) (m x : Operand) (hop : o.op = Op.mapUpdate 93 m x (.const (.bool true)))
    (b : Nat) (ks : List Int) (hm : a.eval m = .map (some b)) (hs : SetM w b ks) (n : Int) (hx : a.eval x = .int .i64 n) (hn : (Lit.int .i64 n).wf = true) (hl : ks.length < maxLen)
    (hK : ∀ w', SetM w' b (ks ++ [n]) → w.grownBy w' (some b) → wpListIn F nF Try.prog ops Q rest (a.put o.dst undef) w') : wpListIn F nF Try.prog ops Q (o :: rest) a w := by
  refine wpListIn_plain hg fun K' hK' => ?_
  obtain ⟨w', hrun, h1, h2⟩ := put_set hs n hn hl
  have hv : a.eval (.const (.bool true)) = .bool true := rfl
  unfold Oper.wpIn
  refine ⟨by simp [Oper.about, hop], ?_⟩
  rw [Oper.semAt_plain F _ _ (by rw [hop]; intro c hc'; cases hc')]
  simp [execOp, hop, hm, hx, hv, hrun, Result.andThen]
  exact hK' _ _ (hK w' h1 h2)
set_option maxHeartbeats 400000 in
theorem backward_any (A : Option Addr) (n c : Nat) (w : World) :
    Calls Try.prog 42 #[.slice A n c] w fun e w' => e = .returned (.func (Fn.func 63) #[] #[.pointer (some ⟨w.heap.size, 0, none⟩)]) ∧ w'.cell? ⟨w.heap.size, 0, none⟩ = some (.slice A n c) ∧ w.heap.size < w'.heap.size ∧ Below w.heap.size w w' := by
  go_enter Try.func42, Try.ntmps42
  go_wp2
  go_ret
  exact ⟨rfl, by simp [go_sem], by simp, (Below.refl _ _).alloc (Nat.le_refl _) _⟩

/-- one thing more is looked at: what is seen, and the bushes -/
def trS (ths : List Th) (st : List Int × List Int) (j : Nat) : List Int × List Int :=
  if (j : Int) ∈ st.1 then (st.1 ++ (ths.getD j noTh).tk.map Prod.fst, if (ths.getD j noTh).tk.length = 0 then st.2 ++ [(j : Int)] else st.2) else st
def trK (ths : List Th) (N : Nat) : Nat → List Int × List Int
  | 0 => ([((N - 1 : Nat) : Int)], [])
  | k + 1 => trS ths (trK ths N k) (N - 1 - k)
def intsV (xs : List Int) : List Value := xs.map (Value.int .i64)
theorem below_setC {B g : Nat} {a : World} (hg : B ≤ g) : ∀ (vs : List Value) (o : Nat) (w : World), Below B a w → Below B a (w.setCells g o vs) := by
  intro vs
  induction vs with
  | nil => intro o w h; exact h
  | cons v vs ih => intro o w h; exact ih _ _ (h.setCell (p := ⟨g, o, none⟩) hg v)
theorem size_setC (g : Nat) : ∀ (vs : List Value) (o : Nat) (w : World), (w.setCells g o vs).heap.size = w.heap.size := by
  intro vs
  induction vs with
  | nil => intro o w; rfl
  | cons v vs ih => intro o w; exact (ih _ _).trans (by simp [World.setCell])
/-- between two rounds -/
def TrI (b7 b8 mb B5 : Nat) (w : World) (st : List Int × List Int) (W : World) : Prop :=
  Below w.heap.size w W ∧ B5 ≤ W.heap.size ∧ (∃ V7, W.cell? ⟨b7, 0, none⟩ = some V7 ∧ W.frozen? ⟨b7, 0, none⟩ = false ∧ W.ownsRow B5 3 1 V7 st.2.length (intsV st.2)) ∧ W.cell? ⟨b8, 0, none⟩ = some (.map (some mb)) ∧ SetM W mb st.1
theorem TrI.below {b7 b8 mb B5 : Nat} {w W W' : World} {st : List Int × List Int} (h : TrI b7 b8 mb B5 w st W) (h7 : b7 < B5) (h8 : b8 < B5) (hb : Below W.heap.size W W') : TrI b7 b8 mb B5 w st W' := by
  obtain ⟨h1, h2, ⟨V7, c7, f7, o7⟩, c8, hs⟩ := h
  exact ⟨h1.trans (hb.mono h1.size), Nat.le_trans h2 hb.size, ⟨V7, cell_next hb (by omega) c7, frozen_next hb (by omega) f7, own_below o7 hb⟩, cell_next hb (by omega) c8, hs.below hb⟩
theorem TrI.put {b7 b8 mb B5 : Nat} {w W : World} {st : List Int × List Int} (h : TrI b7 b8 mb B5 w st W) (h7 : b7 < B5) (h8 : b8 < B5) (hm : mb < B5) (hw : w.heap.size ≤ B5) {i : Nat} {o o' : Obj} (hi : B5 ≤ i) (ho : W.heap[i]? = some o) (hc : o.isCells = false) : TrI b7 b8 mb B5 w st (W.putObj i o') := by
  obtain ⟨h1, h2, ⟨V7, c7, f7, o7⟩, c8, hs⟩ := h
  have hK : Kept (fun k => k = i) W (W.putObj i o') := Kept.put W o' rfl
  refine ⟨h1.trans ((below_putU W o' hi).mono hw), by simpa using h2, ⟨V7, (hK.cell (p := ⟨b7, 0, none⟩) (by show b7 < _; omega) (by show ¬ b7 = i; omega)).trans c7, (hK.frozen (p := ⟨b7, 0, none⟩) (by show b7 < _; omega) (by show ¬ b7 = i; omega)).trans f7, ownsRow_kept o7 hK (fun g hg e => ?_)⟩, (hK.cell (p := ⟨b8, 0, none⟩) (by show b8 < _; omega) (by show ¬ b8 = i; omega)).trans c8, hs.kept hK (by omega)⟩
  subst e
  rcases o7.2 with ⟨rfl, _⟩ | ⟨g', cap, cur, rfl, _, hh, _⟩
  · simp [Value.ownBlock] at hg
  · simp [Value.ownBlock] at hg
    subst hg
    rw [hh] at ho
    injection ho with ho
    subst ho
    simp [Obj.isCells] at hc

set_option maxRecDepth 40000 in
set_option maxHeartbeats 4000000 in
theorem trace_ok (B b : Nat) (ths : List Th) (item : Nat) (w : World) (hL0 : LgE B b w ths) (hn : ths.length ≤ 200) (hi : item < ths.length) (hok : ∀ th ∈ ths, tkB th.tk) (hne : 0 < (trK ths (item + 1) (item + 1)).2.length) (hshort : ∀ k, k ≤ item + 1 → (trK ths (item + 1) k).1.length ≤ 1000000 ∧ (trK ths (item + 1) k).2.length ≤ 1000000) :
    Calls Try.prog 17 #[.pointer (some ⟨b, 0, none⟩), .int .i64 (item : Int)] w fun e w' => ∃ g c, e = .returned (.tuple #[.slice (some ⟨g, 0, none⟩) (trK ths (item + 1) (item + 1)).2.length c, .int .i64 0]) ∧
      (∀ j z, (trK ths (item + 1) (item + 1)).2.reverse[j]? = some z → w'.cell? ⟨g, j, none⟩ = some (.int .i64 z)) ∧ g < w'.heap.size ∧ Below w.heap.size w w' := by
  obtain ⟨i0, hi0, hz0, hz1, hz2⟩ := info_parts infoInt
  obtain ⟨V, hs, hh, hL⟩ := hL0
  have hlen : hs.length = ths.length := by rw [← hh]; simp
  have CK : Hid (∀ (W : World) (g c : Nat), Below w.heap.size w W → g < W.heap.size → W.cell? ⟨g, 0, none⟩ = some (.int .i64 (item : Int)) → Calls Try.prog 40 #[.pointer (some ⟨b, 0, none⟩), .slice (some ⟨g, 0, none⟩) 1 c] W fun e w' => e = .returned (.int .i64 0) ∧ Below W.heap.size W w') := Lib.hid (fun W g c h hg hc => lcheck_ok B b V _ hs [(item : Int)] W (by omega) (by simp) (hL.below h) ((ns_one hc).mono (by omega)) (by simp [insB, inB]; omega))
  obtain ⟨⟨tvi, thi⟩, hpi⟩ : ∃ p, hs[item]? = some p := ⟨_, List.getElem?_eq_getElem (by omega)⟩
  obtain ⟨g, c, rfl, hc1, hc2, hc3, hc4, _, _, _, _⟩ := hL.at hpi
  have cb := hL.cell
  have nb := hL.lt
  have HC : Hid (∀ k p, hs[k]? = some p → w.cell? ⟨g, k * 3, none⟩ = some p.1 ∧ w.cell? ⟨g, k * 3 + 1, none⟩ = some (.int .i64 p.2.m) ∧ w.cell? ⟨g, k * 3 + 2, none⟩ = some (.int .i64 p.2.l)) := Lib.hid (fun k p hp => by
    obtain ⟨gx, cx, hVx, _, _, _, _, q0, q1, q2, _⟩ := hL.at hp
    simp only [Value.slice.injEq, Option.some.injEq, Addr.mk.injEq] at hVx
    obtain ⟨⟨rfl, _⟩, _, rfl⟩ := hVx
    exact ⟨q0, q1, q2⟩)
  have HTK : Hid (∀ k tv th, hs[k]? = some (tv, th) → RowAt w.heap.size w tv th.tk ∧ tkB th.tk ∧ ths.getD k noTh = th) := Lib.hid (fun k tv th hp => by
    have hth : ths[k]? = some th := by rw [← hh, List.getElem?_map, hp]; rfl
    exact ⟨(hL.tk _ (List.mem_of_getElem? hp)).row, hok th (List.mem_of_getElem? hth), by rw [List.getD_eq_getElem?_getD, hth]; rfl⟩)
  have HGE : Hid (∀ k, k ≤ item → ∃ tv th, hs[k]? = some (tv, th)) := Lib.hid (fun k hk => by
    obtain ⟨q, hq⟩ : ∃ q, hs[k]? = some q := ⟨_, List.getElem?_eq_getElem (by omega)⟩
    exact ⟨q.1, q.2, hq⟩)
  have HSH := Lib.hid hshort
  have hicap : item + 1 ≤ c := by omega
  have hN1 : item + 1 ≤ hs.length := by omega
  have hN2 : hs.length ≤ 1000 := by omega
  have y1 : IntKind.i64.wrap ((item : Int) + 1) = (item : Int) + 1 := IntWalk.i64_in _ (by omega)
  have hwi : (Lit.int .i64 (item : Int)).wf = true := wf_small (by omega)
  rw [hlen] at cb hc1
  obtain ⟨n2, hn2⟩ : ∃ n2, ths.length = n2 := ⟨_, rfl⟩
  rw [hn2] at cb hc1 hi hn
  clear hL hpi hok hshort hc2 hc4
  refine (callsIn_wide (n := 10)).1 (callsIn_of_wp_marks Try.func17 rfl trivial ?_ rfl)
  refine wpIn_mono (wpIn_wide.2 ?_) qm_post
  simp only [Try.ntmps17, List.size_toArray, List.length_cons, List.length_nil, Nat.reduceAdd, Nat.reduceSub, Array.replicate_succ, Array.replicate_zero, List.push_toArray, List.append_toArray, List.nil_append, List.cons_append]
  go_wp2_with fail
  refine (CK.out _ _ _ ((Below.refl _ _).alloc (Nat.le_refl _) _) (by simp) (by simp [go_sem])).mono ?_
  rintro e w1 ⟨rfl, hb⟩
  have hB := below1 hb
  clear hb CK
  have hmm := @run_makeMap Try.prog
  go_wp2_with (refine wpList_ins_set _ rfl (.tmp 20) (.tmp 21) rfl (w1.heap.size + 1) [] rfl ?_ (item : Int) rfl hwi (by decide) ?_)
  case refine_1 =>
    have hmd := SetM.made (w1.alloc (.cells #[.slice none 0 0] 59))
    simpa using hmd
  case refine_2 =>
    intro w2 hM hg2
    have c7 : w2.cell? ⟨w1.heap.size, 0, none⟩ = some (.slice none 0 0) := grown_keep hg2 (by simp; omega) (fun e => by injection e with e; omega) (by simp [go_sem])
    have f7 : w2.frozen? ⟨w1.heap.size, 0, none⟩ = false := grown_keepf hg2 (by simp; omega) (fun e => by injection e with e; omega) (by simp [go_sem])
    have hB2 : Below w.heap.size w w2 := ((hB.alloc hB.size _).alloc (by simp; have := hB.size; omega) _).grown hg2 (by simp; have := hB.size; omega) (fun i h => by injection h with h; have := hB.size; omega)
    have hsz2 : w1.heap.size + 1 < w2.heap.size := by have := hg2.size; simp at this; omega
    have cb2 := cell_next hB2 nb cb
    have HM := Lib.hid hM
    have hw1 := hB.size
    have CBk := Lib.hid (backward_any (some ⟨g, 0, none⟩) (item + 1) c)
    have cb2a : ∀ O, (w2.alloc O).cell? ⟨b, 0, none⟩ = some (.slice (some ⟨g, 0, none⟩) n2 c) := fun O => cell_next ((Below.refl w2.heap.size w2).alloc (Nat.le_refl _) O) (Nat.lt_of_lt_of_le nb hB2.size) cb2
    have hil : (item : Int) + 1 ≤ (c : Int) := by omega
    clear hM hg2 hmm hB
    generalize hb7 : w1.heap.size = b7 at *
    go_wp2_with fail
    have hb : Below w2.heap.size w2 (w2.alloc (.cells #[.map (some (b7 + 1))] 93)) := (Below.refl _ _).alloc (Nat.le_refl _) _
    refine (CBk.out _).mono ?_
    rintro e w4 ⟨rfl, hsb, hsbz, hb4⟩
    have c8 := cell_next hb4 (b := w2.heap.size) (o := 0) (by simp <;> omega) (v := some (.map (some (b7 + 1)))) (by simp [go_sem])
    have hb24 : Below w2.heap.size w2 w4 := below1 hb4
    replace c7 := cell_next hb24 (by omega) c7
    replace f7 := frozen_next hb24 (by omega) f7
    replace HM := Lib.hid (HM.out.below hb24)
    have hB4 : Below w.heap.size w w4 := hB2.trans (hb24.mono hB2.size)
    have hsz4 : w2.heap.size < w4.heap.size := by have := hb4.size; simp at this; omega
    simp only [World.size_alloc] at hsb hsbz
    have hbz : w.heap.size ≤ b7 := hw1
    clear hb hb4 hb24 CBk cb2 cb2a hB2
    generalize hb8 : w2.heap.size = b8 at *
    go_wp2_with fail
    have h0 : TrI b7 b8 (b7 + 1) w4.heap.size w (trK ths (item + 1) 0) w4 := ⟨hB4, Nat.le_refl _, ⟨_, c7, f7, World.ownsRow_nil _ _ _ _⟩, c8, HM.out⟩
    have hg4 : g < w4.heap.size := Nat.lt_of_lt_of_le hc3 hB4.size
    have HC4 : Hid (∀ k p, hs[k]? = some p → w4.cell? ⟨g, k * 3, none⟩ = some p.1 ∧ w4.cell? ⟨g, k * 3 + 1, none⟩ = some (.int .i64 p.2.m) ∧ w4.cell? ⟨g, k * 3 + 2, none⟩ = some (.int .i64 p.2.l)) := Lib.hid (fun k p hp => ⟨cell_next hB4 hc3 (HC.out k p hp).1, cell_next hB4 hc3 (HC.out k p hp).2.1, cell_next hB4 hc3 (HC.out k p hp).2.2⟩)
    have hB5w : w.heap.size ≤ w4.heap.size := hB4.size
    clear c7 f7 HM c8
    refine (wpIn_wide (n := 10)).1 (range_stay (w := w4) (item + 1) (fun i => i = b8 + 1 ∨ i = g) (encB hs (item + 1)) (gf := 63) (lb := #[.pointer (some ⟨b8 + 1, 0, none⟩)]) rfl (enters_of Try.func63 (by kernel_rfl) rfl) (fun k hk => by rcases hk with hk | hk <;> omega)
      (fun l J W hW hY h0 => back1_in 10 (by omega) hs (item + 1) (b8 + 1) g c hN1 hN2 w4 hsbz hg4 hsb HC4.out l J W hW hY h0)
      (encB_size hs (item + 1)) (fun k W => TrI b7 b8 (b7 + 1) w4.heap.size w (trK ths (item + 1) k) W) h0 (fun k W o h => h.below (by omega) (by omega) ((Below.refl _ _).alloc (Nat.le_refl _) _))
      (fun k W i o o' h h1 h2 h3 => h.put (by omega) (by omega) (by omega) hB5w h1 h2 h3) (fun k a' W => ∃ (bt j : Nat) (tA : Option Addr) (tn tc : Nat) (th : Th), item - k = j ∧ hs[j]? = some (.slice tA tn tc, th) ∧ w4.heap.size ≤ bt ∧ a' = ({ tmps := #[.pointer (some ⟨b, 0, none⟩), .int .i64 (item : Int), undef, undef, .slice none 0 0, .int .i64 0, .int .i64 0, .pointer (some ⟨b7, 0, none⟩), .pointer (some ⟨b8, 0, none⟩), .int .i64 (j : Int), .pointer (some ⟨bt, 0, none⟩), undef, undef, .pointer (some ⟨b, 0, none⟩), .int .i64 (item : Int), .slice (some ⟨w.heap.size, 0, none⟩) 1 1, .int .i64 0, .int .i64 0, .bool false, undef, .map (some (b7 + 1)), .int .i64 (item : Int), .map (some (b7 + 1)), .pointer (some ⟨b, 0, none⟩), .pointer (some ⟨b, 0, none⟩), .pointer (some ⟨b, 0, none⟩), .slice (some ⟨g, 0, none⟩) n2 c, .int .i64 (item : Int), .int .i64 ((item : Int) + 1), .slice (some ⟨g, 0, none⟩) (item + 1) c, .func (Fn.func 63) #[] #[.pointer (some ⟨b8 + 1, 0, none⟩)], .int .i64 (j : Int), .agg #[.slice tA tn tc, .int .i64 th.m, .int .i64 th.l], undef, undef, undef, undef, undef, undef, undef, undef, undef, undef, undef, undef, undef, undef, undef, undef, undef, undef, undef, undef, undef, undef, undef, undef], defers := [] } : Act) ∧ W.heap[bt]? = some (.cells #[.slice tA tn tc, .int .i64 th.m, .int .i64 th.l] 89) ∧ TrI b7 b8 (b7 + 1) w4.heap.size w (trK ths (item + 1) k) W) (fun k a' W i o o' h h1 h2 h3 => by obtain ⟨bt, j, tA, tn, tc, th, e1, e2, e3, e4, e5, e6⟩ := h; exact ⟨bt, j, tA, tn, tc, th, e1, e2, e3, e4, (World.putObj_heap_other (fun e => by subst e; rw [e5] at h2; injection h2 with h2; subst h2; simp [Obj.isCells] at h3)).trans e5, e6.put (by omega) (by omega) (by omega) hB5w h1 h2 h3⟩) ?assign ?body ?done)
    case assign =>
      intro l k W K hk hi hK
      obtain ⟨tv, th, hp⟩ := HGE.out (item - k) (by omega)
      have hidx : item + 1 - 1 - k = item - k := by omega
      obtain ⟨j, hj⟩ : ∃ j, item - k = j := ⟨_, rfl⟩
      rw [hj] at hidx hp
      obtain ⟨⟨tA, tc, rfl, _, _⟩, _, _⟩ := HTK.out j _ _ hp
      simp only [encB, hidx, hp, vTh]
      have hbA : ∀ O, Below W.heap.size W (W.alloc O) := fun O => (Below.refl _ _).alloc (Nat.le_refl _) O
      gi_wp2
      exact hK _ _ (StayB.of_below (hbA _)) (KpT.of_below (hbA _)) ⟨W.heap.size, j, tA, _, tc, th, hj, hp, hi.2.1, rfl, heap_alloc_new W _, hi.below (by omega) (by omega) (hbA _)⟩
    case body =>
      rintro l k a' W hk ⟨bt, j, tA, tn, tc, th, hj, hp, hbt, rfl, hobj, hI⟩
      dsimp only
      obtain ⟨⟨tA', tc', htv, htl, hRk⟩, ⟨hl20, hTB0⟩, hgd⟩ := HTK.out j _ _ hp
      simp only [Value.slice.injEq] at htv
      obtain ⟨rfl, htn, rfl⟩ := htv
      replace htn := htn.symm
      have HRk := Lib.hid hRk
      have HTB : Hid (∀ (m : Nat) (p : Int × Int), th.tk[m]? = some p → 0 ≤ p.1 ∧ p.1 ≤ 1000 ∧ 0 ≤ p.2 ∧ p.2 ≤ 1000000000) := Lib.hid (fun m p h => hTB0 p (List.mem_of_getElem? h))
      have hNX : trK ths (item + 1) (k + 1) = trS ths (trK ths (item + 1) k) j := by show trS ths _ (item + 1 - 1 - k) = _; rw [Nat.add_sub_cancel, hj]
      obtain ⟨hsh1, hsh2⟩ := HSH.out k (by omega)
      obtain ⟨⟨ss, bs⟩, hst⟩ : ∃ st, trK ths (item + 1) k = st := ⟨_, rfl⟩
      rw [hst] at hI hNX hsh1 hsh2
      dsimp only at hsh1 hsh2
      obtain ⟨h1, h2, ⟨V7, c7, f7, o7⟩, c8, hSM⟩ := hI
      dsimp only at o7 hSM
      have hbtl : bt < W.heap.size := (Array.getElem?_eq_some_iff.1 hobj).1
      have T0 : W.cell? ⟨bt, 0, none⟩ = some (.slice tA tn tc) := cell_of_row _ _ 0 _ _ (0, 0) hobj
      have T1 : W.cell? ⟨bt, 1, none⟩ = some (.int .i64 th.m) := cell_of_row _ _ 1 _ _ (0, 0) hobj
      have T2 : W.cell? ⟨bt, 2, none⟩ = some (.int .i64 th.l) := cell_of_row _ _ 2 _ _ (0, 0) hobj
      have hneb : V7.ownBlock ≠ some bt := fun e => by
        rcases o7.2 with ⟨rfl, _⟩ | ⟨gg, cap, cur, rfl, _, hh, _⟩
        · simp [Value.ownBlock] at e
        · simp [Value.ownBlock] at e
          subst e
          rw [hobj] at hh
          injection hh with hh
          simp at hh
      have hwj : (Lit.int .i64 (j : Int)).wf = true := wf_small (by omega)
      have HSM := Lib.hid hSM
      have HO7 := Lib.hid o7
      have CB := Lib.hid (fun W => bush_any tA tn tc th.m th.l W)
      generalize hB5 : w4.heap.size = B5 at *
      have hW5 : B5 ≤ W.heap.size := h2
      unfold trS at hNX
      rw [hgd] at hNX
      dsimp only at hNX
      by_cases hjs : (j : Int) ∈ ss
      · rw [if_pos hjs] at hNX
        have HNX := Lib.hid hNX
        have hd : decide ((j : Int) ∈ ss) = true := decide_eq_true hjs
        have HDec := Lib.hid hd
        clear hNX hd hjs hst hobj hRk hSM o7 hp
        gi_wp2_with (gi_at_lookup; refine wpListIn_look_set _ rfl (.tmp 33) (.tmp 34) rfl (b7 + 1) ss rfl HSM.out (j : Int) rfl hwj ?_; rw [HDec.out])
        refine ⟨trivial, (CallsIn.inRound l (callsIn_wide.2 (CB.out _))).mono ?_⟩
        rintro e W2 ⟨rfl, hb2⟩
        have hS2 : Hid (StayB B5 W W2) := Lib.hid (StayB.of_below hb2)
        have hK2 : Hid (KpT (fun i => i = b8 + 1 ∨ i = g) W W2) := Lib.hid (KpT.of_below hb2)
        have k1 : Below w.heap.size w W2 := h1.trans (hb2.mono h1.size)
        have k2 : B5 ≤ W2.heap.size := Nat.le_trans hW5 hb2.size
        replace c7 := cell_next hb2 (by omega) c7
        replace f7 := frozen_next hb2 (by omega) f7
        replace c8 := cell_next hb2 (by omega) c8
        replace T0 := cell_next hb2 hbtl T0
        have hbt2 := Nat.lt_of_lt_of_le hbtl hb2.size
        replace HSM := Lib.hid (HSM.out.below hb2)
        replace HO7 := Lib.hid (own_below HO7.out hb2)
        clear hb2 CB T1 T2 h1 h2
        by_cases h0 : tn = 0
        · rw [show (tn == 0) = true from by simpa using h0]
          have hIF : Hid (th.tk.length = 0) := Lib.hid (htn.trans h0)
          gi_wp2_with (gi_at_builtin; refine wpListIn_append_own_at _ rfl (.tmp 39) (.tmp 41) 59 rfl B5 3 i0 (.int .i64 0) 1 8 Try.underlying59 hi0 hz0 hz1 hz2 rfl (by decide) V7 bs.length (intsV bs) rfl (World.ownsRow.alloc HO7.out _) ⟨W2.heap.size, 0, none⟩ 1 1 [.int .i64 (j : Int)] rfl rfl ?_ ?_ ?_ ?_ ?_ ?_)
          case refine_6 =>
            intro v' w9 hown' hgrow _ hat
            obtain ⟨g7, cap7, rfl, hg7a, hg7b⟩ := hown'.form (by omega)
            have hbA : Below W2.heap.size W2 (W2.alloc (.cells #[.int .i64 (j : Int)] 3)) := (Below.refl _ _).alloc (Nat.le_refl _) _
            have hob : ∀ i, V7.ownBlock = some i → B5 ≤ i := fun i h => (World.ownsRow.lt HO7.out i h).1
            have d7 := grown_keep hgrow (by simp; omega) (fun e => by have := hob _ e; omega) (cell_next hbA (by omega) c7)
            have e7 := grown_keepf hgrow (by simp; omega) (fun e => by have := hob _ e; omega) (frozen_next hbA (by omega) f7)
            have d8 := grown_keep hgrow (by simp; omega) (fun e => by have := hob _ e; omega) (cell_next hbA (by omega) c8)
            have hgs := hgrow.size
            simp at hgs
            have hM9 : SetM w9 (b7 + 1) ss := (HSM.out.below hbA).kept (Kept.of_grown hgrow) (fun e => by have := hob _ e; omega)
            have z9 : Below w.heap.size w w9 := (k1.trans (hbA.mono k1.size)).grown hgrow (by simp; have := k1.size; omega) (fun i h => by have := hob i h; omega)
            have S9 : StayB B5 W w9 := (hS2.out.trans (StayB.of_below hbA)).trans (fun i o hi ho hc => by
              by_cases hx : V7.ownBlock = some i
              · exfalso
                rcases HO7.out.2 with ⟨rfl, _⟩ | ⟨gg, cap, cur, rfl, _, hh, _⟩
                · simp [Value.ownBlock] at hx
                · simp [Value.ownBlock] at hx
                  subst hx
                  rw [hbA.block _ (Array.getElem?_eq_some_iff.1 hh).1, hh] at ho
                  injection ho with ho
                  subst ho
                  simp [Obj.isCells] at hc
              · exact (hgrow.block i (Array.getElem?_eq_some_iff.1 ho).1 (fun e => hx e.symm)).trans ho)
            have K9 : KpT (fun i => i = b8 + 1 ∨ i = g) W w9 := (hK2.out.trans (KpT.of_below hbA)).trans (fun i o hi ho => (hgrow.block i (Array.getElem?_eq_some_iff.1 ho).1 (fun e => by have := hob _ e.symm; rcases hi with hi | hi <;> omega)).trans ho)
            have t0 : w9.cell? ⟨bt, 0, none⟩ = some (.slice tA tn tc) := grown_keep hgrow (by simp; omega) hneb (cell_next hbA hbt2 T0)
            have ne7 : (Value.slice (some ⟨g7, 0, none⟩) (bs.length + 1) cap7).ownBlock ≠ some b7 := fun e => by simp [Value.ownBlock] at e; omega
            have HTa : Hid (TrI b7 b8 (b7 + 1) B5 w (ss ++ (th.tk.take 0).map Prod.fst, bs ++ [(j : Int)]) (w9.setCell ⟨b7, 0, none⟩ (.slice (some ⟨g7, 0, none⟩) (bs.length + 1) cap7))) := Lib.hid (by
              rw [List.take_zero, List.map_nil, List.append_nil]
              refine ⟨z9.setCell (p := ⟨b7, 0, none⟩) hbz _, by simp [World.setCell]; omega, ⟨.slice (some ⟨g7, 0, none⟩) (bs.length + 1) cap7, by simp [go_sem, d7], by simp [go_sem, e7], ?_⟩, by simp [go_sem, d8], hM9.kept (Kept.set (U := fun i => i = b7) _ (p := ⟨b7, 0, none⟩) rfl _) (by omega)⟩
              rw [List.length_append, show intsV (bs ++ [(j : Int)]) = intsV bs ++ [.int .i64 (j : Int)] from by simp [intsV]]
              exact own_set1 hown' ne7 0 _)
            have HSa : Hid (StayB B5 W (w9.setCell ⟨b7, 0, none⟩ (.slice (some ⟨g7, 0, none⟩) (bs.length + 1) cap7))) := Lib.hid (S9.trans (fun i o hi ho _ => (Below.heap_setCell _ _ _ _ (fun e => by have : i = b7 := e; omega)).trans ho))
            have HKa : Hid (KpT (fun i => i = b8 + 1 ∨ i = g) W (w9.setCell ⟨b7, 0, none⟩ (.slice (some ⟨g7, 0, none⟩) (bs.length + 1) cap7))) := Lib.hid (K9.trans (fun i o hi ho => (Below.heap_setCell _ _ _ _ (fun e => by have : i = b7 := e; rcases hi with hi | hi <;> omega)).trans ho))
            have hne9 : bt ≠ b7 := by omega
            clear hown' hgrow hat hbA hob hgs hM9 z9 S9 K9 ne7 c7 f7 c8 HSM HO7 hS2 hK2 k1 k2 T0 hbt2
            gi_wp2
            gi_loopw [46] (fun i wr => ∃ m : Nat, m ≤ tn ∧ i = .int .i64 m ∧ Hid (TrI b7 b8 (b7 + 1) B5 w (ss ++ (th.tk.take m).map Prod.fst, bs ++ [(j : Int)]) wr) ∧ Hid (StayB B5 W wr) ∧ Hid (KpT (fun i => i = b8 + 1 ∨ i = g) W wr)) (fun i _ => tn - (RowKit.intOf i).toNat)
            case atStart => exact ⟨0, Nat.zero_le _, rfl, HTa, HSa, HKa⟩
            case round =>
              obtain ⟨m, hm, rfl, HT, HS, HKp⟩ := hrel
              by_cases hlt : (m : Int) < (tn : Int)
              · exact absurd hlt (by omega)
              · obtain rfl : m = tn := by omega
                have hfull : th.tk.take m = th.tk := List.take_of_length_le (by omega)
                rw [hfull] at HT
                gi_wp2
                refine ⟨HS.out, HKp.out, ?_⟩
                rw [HNX.out, if_pos hIF.out]
                exact HT.out
          all_goals first
            | (intro i u hi; rcases i with _ | i <;> simp at hi <;> subst hi <;> exact (cell_at _ _ _ _ _ (by simp)))
            | (simp [Value.oneCell']; done)
            | (unfold maxLen; omega)
            | omega
            | (simp; omega)
        · rw [show (tn == 0) = false from by simpa using h0]
          have hIF : Hid (¬ th.tk.length = 0) := Lib.hid (fun h => h0 (htn.symm.trans h))
          have HTa : Hid (TrI b7 b8 (b7 + 1) B5 w (ss ++ (th.tk.take 0).map Prod.fst, bs) W2) := Lib.hid (by
            rw [List.take_zero, List.map_nil, List.append_nil]
            exact ⟨k1, k2, ⟨V7, c7, f7, HO7.out⟩, c8, HSM.out⟩)
          clear c7 f7 HSM HO7 k1 k2
          gi_wp2
          gi_loopw [46] (fun i wr => ∃ m : Nat, m ≤ tn ∧ i = .int .i64 m ∧ Hid (TrI b7 b8 (b7 + 1) B5 w (ss ++ (th.tk.take m).map Prod.fst, bs) wr) ∧ Hid (StayB B5 W wr) ∧ Hid (KpT (fun i => i = b8 + 1 ∨ i = g) W wr)) (fun i _ => tn - (RowKit.intOf i).toNat)
          case atStart => exact ⟨0, Nat.zero_le _, rfl, HTa, hS2, hK2⟩
          case round =>
            obtain ⟨m, hm, rfl, HT, HS, HKp⟩ := hrel
            by_cases hlt : (m : Int) < (tn : Int)
            · obtain ⟨⟨x, y⟩, hpx⟩ : ∃ p, th.tk[m]? = some p := ⟨_, List.getElem?_eq_getElem (by omega)⟩
              obtain ⟨gk, ok, rfl, hgk, hRk⟩ := HRk.out (by omega)
              obtain ⟨z1, z2, ⟨V8, d7, d8, d9⟩, d10, d11⟩ := HT.out
              obtain ⟨p0, p1⟩ := (hRk.below z1 hgk) m _ hpx
              obtain ⟨x1, x2, _, _⟩ := HTB.out m _ hpx
              dsimp only at p0 p1 x1 x2
              have hwx : (Lit.int .i64 x).wf = true := wf_small (by omega)
              have hsn : (th.tk.take (m + 1)).map Prod.fst = (th.tk.take m).map Prod.fst ++ [x] := by rw [List.take_add_one, hpx]; simp
              have hlk : (ss ++ (th.tk.take m).map Prod.fst).length < maxLen := by rw [List.length_append, List.length_map, List.length_take]; unfold maxLen; omega
              obtain ⟨KS, hKS⟩ : ∃ KS, ss ++ (th.tk.take m).map Prod.fst = KS := ⟨_, rfl⟩
              have HS1 : Hid (ss ++ (th.tk.take (m + 1)).map Prod.fst = KS ++ [x]) := Lib.hid (by rw [hsn, ← List.append_assoc, hKS])
              dsimp only at d11 d9
              rw [hKS] at d11 hlk
              have HD11 := Lib.hid d11
              have HD9 := Lib.hid d9
              have hb8w : b8 < wr.heap.size := by omega
              have d10a : ∀ O, (wr.alloc O).cell? ⟨b8, 0, none⟩ = some (.map (some (b7 + 1))) := fun O => cell_next ((Below.refl wr.heap.size wr).alloc (Nat.le_refl _) O) hb8w d10
              clear hsn hpx hKS d11 d9 hRk
              gi_wp2_with (gi_at_mapUpdate; refine wpListIn_put_set _ rfl (.tmp 50) (.tmp 52) rfl (b7 + 1) KS rfl (HD11.out.below ((Below.refl _ _).alloc (Nat.le_refl _) _)) x rfl hwx hlk ?_)
              intro w9 hM9 hg9
              have hbA : Below wr.heap.size wr (wr.alloc (.cells #[.int .i64 x, .int .i64 y] 55)) := (Below.refl _ _).alloc (Nat.le_refl _) _
              have HT9 : Hid (TrI b7 b8 (b7 + 1) B5 w (ss ++ (th.tk.take (m + 1)).map Prod.fst, bs) w9) := Lib.hid ⟨(z1.trans (hbA.mono z1.size)).grown hg9 (by simp; omega) (fun i h => by injection h with h; omega), by have := hg9.size; simp at this; omega, ⟨V8, grown_keep hg9 (by simp; omega) (fun e => by injection e with e; omega) (cell_next hbA (by omega) d7), grown_keepf hg9 (by simp; omega) (fun e => by injection e with e; omega) (frozen_next hbA (by omega) d8), (own_below HD9.out hbA).kept hg9 (by
                cases hv : V8.ownBlock with
                | none => exact .inl rfl
                | some gg => exact .inr (fun e => by injection e with e; have := (World.ownsRow.lt HD9.out _ hv).1; omega))⟩, grown_keep hg9 (by simp; omega) (fun e => by injection e with e; omega) (cell_next hbA (by omega) d10), by rw [HS1.out]; exact hM9⟩
              have HS9 : Hid (StayB B5 W w9) := Lib.hid ((HS.out.trans (StayB.of_below hbA)).trans (fun i o hi ho _ => (hg9.block i (Array.getElem?_eq_some_iff.1 ho).1 (fun e => by injection e with e; omega)).trans ho))
              have HK9 : Hid (KpT (fun i => i = b8 + 1 ∨ i = g) W w9) := Lib.hid ((HKp.out.trans (KpT.of_below hbA)).trans (fun i o hi ho => (hg9.block i (Array.getElem?_eq_some_iff.1 ho).1 (fun e => by injection e with e; rcases hi with hi | hi <;> omega)).trans ho))
              clear hM9 hg9 hbA z1 z2 d7 d8 d10 d10a HT HS HKp HD9 HD11 hlk
              gi_wp2
              exact ⟨⟨m + 1, by omega, by go_num, HT9, HS9, HK9⟩, by simp [RowKit.intOf]; omega⟩
            · obtain rfl : m = tn := by omega
              have hfull : th.tk.take m = th.tk := List.take_of_length_le (by omega)
              rw [hfull] at HT
              gi_wp2
              refine ⟨HS.out, HKp.out, ?_⟩
              rw [HNX.out, if_neg hIF.out]
              exact HT.out
      · rw [if_neg hjs] at hNX
        have HNX := Lib.hid hNX
        have hd : decide ((j : Int) ∈ ss) = false := decide_eq_false hjs
        have HDec := Lib.hid hd
        clear hNX hd hjs hst hobj hRk hSM o7 hp
        gi_wp2_with (gi_at_lookup; refine wpListIn_look_set _ rfl (.tmp 33) (.tmp 34) rfl (b7 + 1) ss rfl HSM.out (j : Int) rfl hwj ?_; rw [HDec.out])
        refine ⟨StayB.refl _ _, KpT.refl _ _, ?_⟩
        rw [HNX.out]
        exact ⟨h1, h2, ⟨V7, c7, f7, HO7.out⟩, c8, HSM.out⟩
    case done =>
      intro D W hD hI hKD
      obtain ⟨h1, h2, ⟨V7, c7, f7, o7⟩, c8, hSM⟩ := hI
      obtain ⟨YS, hYS⟩ : ∃ YS, (trK ths (item + 1) (item + 1)).2 = YS := ⟨_, rfl⟩
      rw [hYS] at hne o7
      obtain ⟨g7, cap7, rfl, hg7a, hg7b⟩ := o7.form hne
      have CR := Lib.hid (Try.slices_Reverse_int_cells g7 0 YS.length cap7 YS W (Nat.le_refl _) (by have := (HSH.out (item + 1) (Nat.le_refl _)).2; rw [hYS] at this; omega) (fun j hj => by
        have := o7.cells (g := g7) rfl j (.int .i64 (YS.getD j 0)) (by simp [intsV, List.getD_eq_getElem?_getD, List.getElem?_eq_getElem hj])
        rwa [Addr.add_lit] at this) (fun j hj => by rw [Nat.zero_add]; exact o7.frozenAt j))
      have HO := Lib.hid o7
      have hIN := Lib.hid hYS
      clear hSM c8 o7
      rw [List.take_length] at CR
      have hDl := (Array.getElem?_eq_some_iff.1 hKD).1
      have hDg : D ≠ g7 := fun e => by
        subst e
        rcases HO.out.2 with ⟨h, _⟩ | ⟨gg, cap, cur, h, _, hh, _⟩
        · cases h
        · simp only [Value.slice.injEq, Option.some.injEq, Addr.mk.injEq] at h
          obtain ⟨⟨rfl, _⟩, _, _⟩ := h
          rw [hh] at hKD
          cases hKD
      go_wp2_with fail
      refine CR.out.mono ?_
      rintro e w9 ⟨rfl, q, hw9⟩
      have hsz9 : w9.heap.size = W.heap.size := by rw [hw9]; exact size_setC g7 _ 0 _
      have x7 : w9.cell? ⟨b7, 0, none⟩ = some (.slice (some ⟨g7, 0, none⟩) YS.length cap7) := by
        rw [hw9, World.cell?_setCells_out g7 _ _ _ _ (fun h _ => by have h : b7 = g7 := h; omega)]
        exact c7
      have xc : ∀ (j : Nat) (z : Int), YS.reverse[j]? = some z → w9.cell? ⟨g7, j, none⟩ = some (.int .i64 z) := fun j z hz => by
        have hjl := (List.getElem?_eq_some_iff.1 hz).1
        have hj2 : j < (YS.reverse.map (Value.int .i64)).length := by rw [List.length_map]; exact hjl
        have := World.cell?_setCells_in g7 (YS.reverse.map (Value.int .i64)) 0 (W.drewN q) (fun i hi => by
          have hi2 : i < YS.length := by simpa using hi
          have := HO.out.cells (g := g7) rfl i (.int .i64 YS[i]) (by simp [intsV, List.getElem?_eq_getElem hi2])
          rw [Addr.add_lit] at this
          show (W.cell? ⟨g7, 0 + i, none⟩).isSome = true
          rw [this]; rfl) j hj2
        rw [Nat.zero_add, ← hw9] at this
        rw [this, List.getElem_map]
        rw [List.getElem?_eq_getElem hjl] at hz
        injection hz with hz
        rw [hz]
      have xD : w9.heap[D]? = some (.deferred (some [])) := by
        rw [hw9]
        exact (World.heap_setCells_other _ g7 0 _ (by show D < W.heap.size; exact hDl) hDg).trans hKD
      have xB : Below w.heap.size w w9 := by
        rw [hw9]
        exact below_setC (by omega) _ 0 _ (below_drewN h1 q)
      have HXC := Lib.hid xc
      clear hw9 c7 f7 CR HO xc hKD h1
      go_wp2_with fail
      show LeavesInM Fence.wide 10 _ _ _ _ _ .returning _
      refine ⟨by simp, .inl ⟨D, _, rfl, run_takeDeferred xD, ?_⟩⟩
      have hBp := below_putU (B := D) w9 (.deferred none) (Nat.le_refl D)
      have hK : Kept (fun k => k = D) w9 (w9.putObj D (.deferred none)) := Kept.put w9 (.deferred none) rfl
      have HR : ∃ g c, Ending.returned (.tuple #[.slice (some ⟨g7, 0, none⟩) YS.length cap7, .int .i64 0]) = Ending.returned (.tuple #[.slice (some ⟨g, 0, none⟩) (trK ths (item + 1) (item + 1)).2.length c, .int .i64 0]) ∧ (∀ j z, (trK ths (item + 1) (item + 1)).2.reverse[j]? = some z → (w9.putObj D (.deferred none)).cell? ⟨g, j, none⟩ = some (.int .i64 z)) ∧ g < (w9.putObj D (.deferred none)).heap.size ∧ Below w.heap.size w (w9.putObj D (.deferred none)) := by
        rw [hIN.out]
        exact ⟨g7, cap7, rfl, fun j z hz => (hK.cell (p := ⟨g7, j, none⟩) (by show g7 < _; omega) (fun h => hDg h.symm)).trans (HXC.out j z hz), by simp; omega, xB.trans (hBp.mono (by omega))⟩
      first
        | exact ⟨_, by simp [results, Try.results17, go_sem, x7], HR⟩
        | exact ⟨_, by simp [results, Try.results17, go_sem], rfl, HR⟩
end Go.Proofs.Ytloddjjmoaljhaa
