/- Contract of package barrel: Amount. -/
import Derived.Test.YtloddjjmoaljhaaG5
namespace Go.Proofs.Ytloddjjmoaljhaa
open Go.RowKit Go.Lib Go.Shelf Go.Maps
set_option linter.unusedVariables false
set_option linter.unusedSimpArgs false
attribute [local go_sem ↓] Go.wp_at_zero Go.wp_at_succ

def noTh : Th := ⟨[], 0, 0⟩
/-- how many grams of thing k come from the bush, if that is known of those before it -/
def amS (ths : List Th) (bush : Nat) (am : List (Int × Int)) (k : Nat) : Int × Int := if k = bush then ((ths.getD k noTh).m, (ths.getD k noTh).m) else mdV ths am (ths.getD k noTh)
def amL (ths : List Th) (bush : Nat) : Nat → List (Int × Int)
  | 0 => []
  | k + 1 => amL ths bush k ++ [amS ths bush (amL ths bush k) k]
theorem amL_length (ths : List Th) (bush : Nat) (k : Nat) : (amL ths bush k).length = k := by
  induction k with
  | zero => rfl
  | succ k ih => simp [amL, ih]
theorem own_far' {w : World} {base : Nat} {e : TypeId} {size : Nat} {v : Value} {n : Nat} {xs : List Value} (h : w.ownsRow base e size v n xs) {b : Nat} (hne : v.ownBlock ≠ some b) (x y : Value) : ((w.setCell ⟨b, 0, none⟩ x).setCell ⟨b, 1, none⟩ y).ownsRow base e size v n xs :=
  own_set1 (own_set1 h hne 0 x) hne 1 y

set_option maxRecDepth 40000 in
set_option maxHeartbeats 4000000 in
theorem amount_ok (B b : Nat) (ths : List Th) (item bush : Nat) (pb : Th) (w : World) (hL0 : LgE B b w ths) (hn : ths.length ≤ 200) (hi : item < ths.length) (hbu : ths[bush]? = some pb) (hbt : pb.tk = [])
    (hok : ∀ k th, k ≤ item → ths[k]? = some th → tkB th.tk ∧ (0 ≤ th.m ∧ th.m ≤ 1000000000) ∧ ∀ p ∈ th.tk, ∃ j : Nat, p.1 = (j : Int) ∧ j < k) (hbd : ∀ k, k ≤ item → ∀ a ∈ amL ths bush k, amB a) :
    Calls Try.prog 18 #[.pointer (some ⟨b, 0, none⟩), .int .i64 (item : Int), .int .i64 (bush : Int)] w fun e w' => e = .returned (.tuple #[.agg #[.int .i64 (amS ths bush (amL ths bush item) item).1, .int .i64 (amS ths bush (amL ths bush item) item).2], .int .i64 0]) ∧ Below w.heap.size w w' := by
  obtain ⟨i0, hi0, hz0, hz1, hz2⟩ := info_parts infoRng
  obtain ⟨V, hs, hh, hL⟩ := hL0
  have hlen : hs.length = ths.length := by rw [← hh]; simp
  have hget : ∀ (k : Nat) (th : Th), ths[k]? = some th → ∃ tv, hs[k]? = some (tv, th) := fun k th h => by
    rw [← hh, List.getElem?_map] at h
    cases hk : hs[k]? with
    | none => rw [hk] at h; simp at h
    | some q => rw [hk] at h; simp at h; exact ⟨q.1, by rw [← h]⟩
  have hbl : bush < ths.length := (List.getElem?_eq_some_iff.1 hbu).1
  obtain ⟨tvb, hpb⟩ := hget bush pb hbu
  have CK : Hid (∀ (W : World) (g c : Nat), Below w.heap.size w W → g < W.heap.size → W.cell? ⟨g, 0, none⟩ = some (.int .i64 (item : Int)) → W.cell? ⟨g, 1, none⟩ = some (.int .i64 (bush : Int)) → Calls Try.prog 40 #[.pointer (some ⟨b, 0, none⟩), .slice (some ⟨g, 0, none⟩) 2 c] W fun e w' => e = .returned (.int .i64 0) ∧ Below W.heap.size W w') := Lib.hid (fun W g c h hg hc hc1 => lcheck_ok B b V _ hs [(item : Int), (bush : Int)] W (by omega) (by simp) (hL.below h) ((ns_two hc hc1).mono (by omega)) (by simp [insB, inB]; omega))
  have CBu : Hid (∀ W, Below w.heap.size w W → Calls Try.prog 45 #[.pointer (some ⟨b, 0, none⟩), .int .i64 (bush : Int)] W fun e w' => e = .returned (.int .i64 0) ∧ Below W.heap.size W w') := Lib.hid (fun W h => checkBush_ok B b V hs bush _ W (by omega) (hL.below h) hpb hbt)
  have CM : Hid (∀ (k : Nat) (tv : Value) (th : Th) (W : World) (va : Value), k ≤ item → hs[k]? = some (tv, th) → Below w.heap.size w W → RowAt W.heap.size W va (amL ths bush k) → Calls Try.prog 46 #[.pointer (some ⟨b, 0, none⟩), .agg #[tv, .int .i64 th.m, .int .i64 th.l], va] W fun e w' => e = .returned (.agg #[.int .i64 (mdV ths (amL ths bush k) th).1, .int .i64 (mdV ths (amL ths bush k) th).2]) ∧ Below W.heap.size W w') := Lib.hid (fun k tv th W va hk hp hW hva => by
    have hth : ths[k]? = some th := by rw [← hh, List.getElem?_map, hp]; rfl
    obtain ⟨o1, o2, o3⟩ := hok k th hk hth
    refine made_ok B b V va tv hs ths th (amL ths bush k) W hh (hL.below hW) (by omega) (((hL.tk _ (List.mem_of_getElem? hp)).below hW).row) o1 o2 hva (fun p hpm => ?_)
    obtain ⟨j, hj, hjk⟩ := o3 p hpm
    have hjl : j < hs.length := by have := (List.getElem?_eq_some_iff.1 hp).1; omega
    obtain ⟨q, hq⟩ : ∃ q, hs[j]? = some q := ⟨_, List.getElem?_eq_getElem hjl⟩
    obtain ⟨a, ha⟩ : ∃ a, (amL ths bush k)[j]? = some a := ⟨_, List.getElem?_eq_getElem (by rw [amL_length]; exact hjk)⟩
    have hthj : ths[j]? = some q.2 := by rw [← hh, List.getElem?_map, hq]; rfl
    obtain ⟨_, o5, _⟩ := hok j _ (by omega) hthj
    exact ⟨j, _, _, hj, hq, ha, o5.1, o5.2, hbd k hk _ (List.mem_of_getElem? ha)⟩)
  have HG : Hid (∀ k, k ≤ item → ∃ tv th, hs[k]? = some (tv, th) ∧ ths.getD k noTh = th) := Lib.hid (fun k hk => by
    obtain ⟨q, hq⟩ : ∃ q, hs[k]? = some q := ⟨_, List.getElem?_eq_getElem (by omega)⟩
    exact ⟨q.1, q.2, hq, by rw [List.getD_eq_getElem?_getD, ← hh, List.getElem?_map, hq]; rfl⟩)
  have HLg := Lib.hid hL
  have HF : Hid (∀ (W : World) (v' : Value), W.ownsRow (w.heap.size + 1) 32 2 v' (item + 1) (flat (amL ths bush (item + 1))) → ∃ g c, v' = .slice (some ⟨g, 0, none⟩) (item + 1) c ∧ g < W.heap.size ∧ W.cell? ⟨g, item * 2, none⟩ = some (.int .i64 (amS ths bush (amL ths bush item) item).1) ∧ W.cell? ⟨g, item * 2 + 1, none⟩ = some (.int .i64 (amS ths bush (amL ths bush item) item).2)) := Lib.hid (fun W v' h => by
    obtain ⟨g, c, rfl, _, hg⟩ := h.form (by omega)
    obtain ⟨A, c2, e, _, hr⟩ := own_row (amL ths bush (item + 1)) (item + 1) (amL_length _ _ _) _ W h
    obtain ⟨g2, off, e2, hg2, hR⟩ := hr (by rw [amL_length]; omega)
    simp only [Value.slice.injEq] at e
    obtain ⟨e, _, _⟩ := e
    rw [e2] at e
    simp only [Option.some.injEq, Addr.mk.injEq] at e
    obtain ⟨rfl, rfl, _⟩ := e
    have := hR item _ (show (amL ths bush (item + 1))[item]? = some (amS ths bush (amL ths bush item) item) from by
      rw [show amL ths bush (item + 1) = amL ths bush item ++ [amS ths bush (amL ths bush item) item] from rfl, List.getElem?_append_right (by rw [amL_length]; exact Nat.le_refl _), amL_length, Nat.sub_self]; rfl)
    rw [Nat.zero_add] at this
    exact ⟨g, c, rfl, hg, this.1, this.2⟩)
  obtain ⟨⟨tvi, thi⟩, hpi⟩ : ∃ p, hs[item]? = some p := ⟨_, List.getElem?_eq_getElem (by omega)⟩
  obtain ⟨g, c, rfl, hc1, hc2, hc3, hc4, _, _, _, _⟩ := hL.at hpi
  have cb := hL.cell
  have nb := hL.lt
  obtain ⟨⟨RL, RH⟩, hRES⟩ : ∃ r, amS ths bush (amL ths bush item) item = r := ⟨_, rfl⟩
  rw [hRES] at HF ⊢
  have hicap : item + 1 ≤ c := by omega
  have y1 : IntKind.i64.wrap ((item : Int) + 1) = (item : Int) + 1 := IntWalk.i64_in _ (by omega)
  rw [hlen] at cb hc1
  obtain ⟨n2, hn2⟩ : ∃ n2, ths.length = n2 := ⟨_, rfl⟩
  rw [hn2] at cb hc1 hi hn
  dsimp only at HF ⊢
  clear hL hpi hpb hget hbu hbt hok hbd hRES hc2 hc4
  go_enter Try.func18, Try.ntmps18
  go_wp2_with fail
  refine (CK.out _ _ _ (below_al2 w _ _) (by simp) (by simp [go_sem]) (by simp [go_sem])).mono ?_
  rintro e w1 ⟨rfl, hb⟩
  have R0 := cell_next hb (b := w.heap.size) (o := 0) (by simp <;> omega) (v := some (.int .i64 0)) (by simp [go_sem])
  have R1 := cell_next hb (b := w.heap.size) (o := 1) (by simp <;> omega) (v := some (.int .i64 0)) (by simp [go_sem])
  have fR0 := frozen_next hb (b := w.heap.size) (o := 0) (by simp <;> omega) (v := false) (by simp [go_sem])
  have fR1 := frozen_next hb (b := w.heap.size) (o := 1) (by simp <;> omega) (v := false) (by simp [go_sem])
  have nR : w.heap.size < w1.heap.size := by have := hb.size; simp at this; omega
  have hB := below2 hb
  clear hb CK
  go_wp2_with fail
  refine (CBu.out _ hB).mono ?_
  rintro e w2 ⟨rfl, hb⟩
  replace R0 := cell_next hb nR R0
  replace R1 := cell_next hb nR R1
  replace fR0 := frozen_next hb nR fR0
  replace fR1 := frozen_next hb nR fR1
  replace nR := Nat.lt_of_lt_of_le nR hb.size
  replace hB := hB.trans (hb.mono hB.size)
  clear hb CBu
  have cb2 := cell_next hB nb cb
  go_wp2_with fail
  go_loopw [38, 10] (fun i V wr => ∃ k : Nat, k ≤ item + 1 ∧ i = .int .i64 k ∧ Hid (wr.ownsRow (w.heap.size + 1) 32 2 V k (flat (amL ths bush k))) ∧ wr.cell? ⟨w.heap.size, 0, none⟩ = some (.int .i64 0) ∧ wr.cell? ⟨w.heap.size, 1, none⟩ = some (.int .i64 0) ∧ wr.frozen? ⟨w.heap.size, 0, none⟩ = false ∧ wr.frozen? ⟨w.heap.size, 1, none⟩ = false ∧ w.heap.size < wr.heap.size ∧ Below w.heap.size w wr) (fun i _ _ => item + 1 - (RowKit.intOf i).toNat)
  case atStart => exact ⟨0, Nat.zero_le _, rfl, Lib.hid (World.ownsRow_nil _ _ _ _), R0, R1, fR0, fR1, nR, hB⟩
  case round =>
    clear R0 R1 fR0 fR1 nR hB cb2
    obtain ⟨k, hk, rfl, HO, R0, R1, fR0, fR1, nR, hbr⟩ := hrel
    by_cases hlt : k < item + 1
    · have hki : k ≤ item := by omega
      obtain ⟨tv, th, hp, hgd⟩ := HG.out k hki
      obtain ⟨tA, tn, tc, rfl⟩ : ∃ A n c, tv = .slice A n c := by obtain ⟨A, c, h, _⟩ := HLg.out.tk _ (List.mem_of_getElem? hp); exact ⟨A, _, c, h⟩
      obtain ⟨gx, cx, hVx, _, _, n2g, _, q0, q1, q2, _⟩ := HLg.out.at hp
      simp only [Value.slice.injEq, Option.some.injEq, Addr.mk.injEq] at hVx
      obtain ⟨⟨rfl, _⟩, _, rfl⟩ := hVx
      dsimp only at q0 q1 q2
      have hbs := hbr.size
      replace q0 := cell_next hbr n2g q0
      replace q1 := cell_next hbr n2g q1
      replace q2 := cell_next hbr n2g q2
      have CMk : Hid (∀ W, Below w.heap.size w W → W.ownsRow (w.heap.size + 1) 32 2 u10 k (flat (amL ths bush k)) → Calls Try.prog 46 #[.pointer (some ⟨b, 0, none⟩), .agg #[.slice tA tn tc, .int .i64 th.m, .int .i64 th.l], u10] W fun e w' => e = .returned (.agg #[.int .i64 (mdV ths (amL ths bush k) th).1, .int .i64 (mdV ths (amL ths bush k) th).2]) ∧ Below W.heap.size W w') := Lib.hid (fun W hW ho => CM.out k _ th W u10 hki hp hW (own_row _ k (amL_length _ _ _) _ _ ho))
      have HNX : Hid (amL ths bush (k + 1) = amL ths bush k ++ [amS ths bush (amL ths bush k) k]) := Lib.hid rfl
      have HAS : Hid (amS ths bush (amL ths bush k) k = if k = bush then (th.m, th.m) else mdV ths (amL ths bush k) th) := Lib.hid (by unfold amS; rw [hgd])
      obtain ⟨tk, m, l⟩ := th
      dsimp only at q0 q1 q2 CMk HAS
      obtain ⟨⟨ml, mh⟩, hmd⟩ : ∃ r, mdV ths (amL ths bush k) ⟨tk, m, l⟩ = r := ⟨_, rfl⟩
      rw [hmd] at CMk HAS
      dsimp only at CMk
      have hki2 : (k : Int) < (item : Int) + 1 := by omega
      have hlt2 : w.heap.size + 1 ≤ wr.heap.size := nR
      have hob := World.ownsRow.lt HO.out
      clear hp hgd hmd
      obtain ⟨amS0, hamS⟩ : ∃ r, amS ths bush (amL ths bush k) k = r := ⟨_, rfl⟩
      rw [hamS] at HNX HAS
      clear hamS
      by_cases hkb : k = bush
      · have e1 : ((k : Int) == (bush : Int)) = true := by simp [hkb]
        have e2 : decide ((k : Int) = (bush : Int)) = true := by simp [hkb]
        obtain rfl : amS0 = (m, m) := HAS.out.trans (if_pos hkb)
        clear HAS hkb
        go_wp2_with fail
        have hb : Below wr.heap.size wr (wr.alloc (.cells #[.slice tA tn tc, .int .i64 m, .int .i64 l] 89)) := (Below.refl _ _).alloc (Nat.le_refl _) _
        refine (CMk.out _ (hbr.trans (hb.mono hbs)) (own_below HO.out hb)).mono ?_
        rintro e w3 ⟨rfl, hb3⟩
        have T0 := cell_next hb3 (b := wr.heap.size) (o := 0) (by simp <;> omega) (v := some (.slice tA tn tc)) (by simp [go_sem])
        have T1 := cell_next hb3 (b := wr.heap.size) (o := 1) (by simp <;> omega) (v := some (.int .i64 m)) (by simp [go_sem])
        have hb4 := below1 hb3
        replace HO := Lib.hid (own_below HO.out hb4)
        replace R0 := cell_next hb4 nR R0
        replace R1 := cell_next hb4 nR R1
        replace fR0 := frozen_next hb4 nR fR0
        replace fR1 := frozen_next hb4 nR fR1
        have nR3 := Nat.lt_of_lt_of_le nR hb4.size
        have hB3 := hbr.trans (hb4.mono hbs)
        have hsz3 := hb4.size
        have nT3 : wr.heap.size < w3.heap.size := by have := hb3.size; simp at this; omega
        have U1 : ∀ O, (w3.alloc O).cell? ⟨wr.heap.size, 1, none⟩ = some (.int .i64 m) := fun O => cell_next ((Below.refl w3.heap.size w3).alloc (Nat.le_refl _) O) nT3 T1
        have hneR : u10.ownBlock ≠ some w.heap.size := fun e => by have := (hob _ e).1; omega
        have hneD : u10.ownBlock ≠ some w3.heap.size := fun e => by have := (hob _ e).2; omega
        clear hb hb3 hb4 CMk CM HG HLg HF
        go_wp2_with (at_builtin; refine wpList_append_own_at _ rfl (.tmp 55) (.tmp 57) 27 rfl (w.heap.size + 1) 32 i0 (.agg #[.int .i64 0, .int .i64 0]) 2 16 Try.underlying27 hi0 hz0 hz1 hz2 rfl (by decide) u10 k (flat (amL ths bush k)) rfl (World.ownsRow.alloc (World.ownsRow.alloc HO.out _) _) ⟨w3.heap.size + 1, 0, none⟩ 1 1 [.int .i64 m, .int .i64 m] rfl rfl ?_ ?_ ?_ ?_ ?_ ?_)
        case refine_6 =>
          intro v' w9 hown' hgrow _ hat
          have hbX : Below w.heap.size w ((w3.alloc (.cells #[.int .i64 m, .int .i64 m] 32)).alloc (.cells #[.int .i64 m, .int .i64 m] 32)) := (hB3.alloc hB3.size _).alloc (by simp; omega) _
          have nRX : w.heap.size < ((w3.alloc (.cells #[.int .i64 m, .int .i64 m] 32)).alloc (.cells #[.int .i64 m, .int .i64 m] 32)).heap.size := by have := hB3.size; have := nR3; simp; omega
          have r0 : w9.cell? ⟨w.heap.size, 0, none⟩ = some (.int .i64 0) := grown_keep hgrow nRX hneR (cell_next (below_al2 w3 _ _) nR3 R0)
          have r1 : w9.cell? ⟨w.heap.size, 1, none⟩ = some (.int .i64 0) := grown_keep hgrow nRX hneR (cell_next (below_al2 w3 _ _) nR3 R1)
          have g0 : w9.frozen? ⟨w.heap.size, 0, none⟩ = false := grown_keepf hgrow nRX hneR (frozen_next (below_al2 w3 _ _) nR3 fR0)
          have g1 : w9.frozen? ⟨w.heap.size, 1, none⟩ = false := grown_keepf hgrow nRX hneR (frozen_next (below_al2 w3 _ _) nR3 fR1)
          have hn9 := Nat.lt_of_lt_of_le nRX hgrow.size
          have hb9 := hbX.grown hgrow hbX.size (fun g h => by have := (hob g h).1; omega)
          have HO9 : Hid (w9.ownsRow (w.heap.size + 1) 32 2 v' (k + 1) (flat (amL ths bush (k + 1)))) := Lib.hid (by rw [HNX.out, flat_append, flat_one]; exact hown')
          clear hown' hgrow hat
          go_wp2_with fail
          go_roundw
          case rel => exact ⟨k + 1, by omega, by go_num, HO9, r0, r1, g0, g1, hn9, hb9⟩
          case measure => simp [RowKit.intOf]; omega
        all_goals first
          | (intro j u hj; rcases j with _ | _ | j <;> simp at hj <;> subst hj <;> exact (cell_at _ _ _ _ _ (by simp)))
          | (simp [Value.oneCell']; done)
          | (unfold maxLen; omega)
          | omega
          | (simp; omega)
      · have e1 : ((k : Int) == (bush : Int)) = false := by simp; omega
        have e2 : ¬ (k : Int) = (bush : Int) := by omega
        obtain rfl : amS0 = (ml, mh) := HAS.out.trans (if_neg hkb)
        clear HAS hkb
        go_wp2_with fail
        have hb : Below wr.heap.size wr (wr.alloc (.cells #[.slice tA tn tc, .int .i64 m, .int .i64 l] 89)) := (Below.refl _ _).alloc (Nat.le_refl _) _
        refine (CMk.out _ (hbr.trans (hb.mono hbs)) (own_below HO.out hb)).mono ?_
        rintro e w3 ⟨rfl, hb3⟩
        have T0 := cell_next hb3 (b := wr.heap.size) (o := 0) (by simp <;> omega) (v := some (.slice tA tn tc)) (by simp [go_sem])
        have T1 := cell_next hb3 (b := wr.heap.size) (o := 1) (by simp <;> omega) (v := some (.int .i64 m)) (by simp [go_sem])
        have hb4 := below1 hb3
        replace HO := Lib.hid (own_below HO.out hb4)
        replace R0 := cell_next hb4 nR R0
        replace R1 := cell_next hb4 nR R1
        replace fR0 := frozen_next hb4 nR fR0
        replace fR1 := frozen_next hb4 nR fR1
        have nR3 := Nat.lt_of_lt_of_le nR hb4.size
        have hB3 := hbr.trans (hb4.mono hbs)
        have hsz3 := hb4.size
        have nT3 : wr.heap.size < w3.heap.size := by have := hb3.size; simp at this; omega
        have U1 : ∀ O, (w3.alloc O).cell? ⟨wr.heap.size, 1, none⟩ = some (.int .i64 m) := fun O => cell_next ((Below.refl w3.heap.size w3).alloc (Nat.le_refl _) O) nT3 T1
        have hneR : u10.ownBlock ≠ some w.heap.size := fun e => by have := (hob _ e).1; omega
        have hneD : u10.ownBlock ≠ some w3.heap.size := fun e => by have := (hob _ e).2; omega
        clear hb hb3 hb4 CMk CM HG HLg HF
        go_wp2_with (at_builtin; refine wpList_append_own_at _ rfl (.tmp 55) (.tmp 57) 27 rfl (w.heap.size + 1) 32 i0 (.agg #[.int .i64 0, .int .i64 0]) 2 16 Try.underlying27 hi0 hz0 hz1 hz2 rfl (by decide) u10 k (flat (amL ths bush k)) rfl (World.ownsRow.alloc (World.ownsRow.alloc HO.out _) _) ⟨w3.heap.size + 1, 0, none⟩ 1 1 [.int .i64 ml, .int .i64 mh] rfl rfl ?_ ?_ ?_ ?_ ?_ ?_)
        case refine_6 =>
          intro v' w9 hown' hgrow _ hat
          have hbX : Below w.heap.size w ((w3.alloc (.cells #[.int .i64 ml, .int .i64 mh] 32)).alloc (.cells #[.int .i64 ml, .int .i64 mh] 32)) := (hB3.alloc hB3.size _).alloc (by simp; omega) _
          have nRX : w.heap.size < ((w3.alloc (.cells #[.int .i64 ml, .int .i64 mh] 32)).alloc (.cells #[.int .i64 ml, .int .i64 mh] 32)).heap.size := by have := hB3.size; have := nR3; simp; omega
          have r0 : w9.cell? ⟨w.heap.size, 0, none⟩ = some (.int .i64 0) := grown_keep hgrow nRX hneR (cell_next (below_al2 w3 _ _) nR3 R0)
          have r1 : w9.cell? ⟨w.heap.size, 1, none⟩ = some (.int .i64 0) := grown_keep hgrow nRX hneR (cell_next (below_al2 w3 _ _) nR3 R1)
          have g0 : w9.frozen? ⟨w.heap.size, 0, none⟩ = false := grown_keepf hgrow nRX hneR (frozen_next (below_al2 w3 _ _) nR3 fR0)
          have g1 : w9.frozen? ⟨w.heap.size, 1, none⟩ = false := grown_keepf hgrow nRX hneR (frozen_next (below_al2 w3 _ _) nR3 fR1)
          have hn9 := Nat.lt_of_lt_of_le nRX hgrow.size
          have hb9 := hbX.grown hgrow hbX.size (fun g h => by have := (hob g h).1; omega)
          have HO9 : Hid (w9.ownsRow (w.heap.size + 1) 32 2 v' (k + 1) (flat (amL ths bush (k + 1)))) := Lib.hid (by rw [HNX.out, flat_append, flat_one]; exact hown')
          clear hown' hgrow hat
          go_wp2_with fail
          go_roundw
          case rel => exact ⟨k + 1, by omega, by go_num, HO9, r0, r1, g0, g1, hn9, hb9⟩
          case measure => simp [RowKit.intOf]; omega
        all_goals first
          | (intro j u hj; rcases j with _ | _ | j <;> simp at hj <;> subst hj <;> exact (cell_at _ _ _ _ _ (by simp)))
          | (simp [Value.oneCell']; done)
          | (unfold maxLen; omega)
          | omega
          | (simp; omega)
    · obtain rfl : k = item + 1 := by omega
      obtain ⟨g9, c9, rfl, n9, x0, x1⟩ := HF.out wr _ HO.out
      clear HO HF CM HG HLg
      go_wp2_with fail
      refine bodyPost_ret (v := .tuple #[.agg #[.int .i64 RL, .int .i64 RH], .int .i64 0]) (by simp [results, Try.results18, go_sem, *]) rfl ⟨rfl, ?_⟩
      exact (hbr.setCell (p := ⟨w.heap.size, 0, none⟩) (Nat.le_refl _) _).setCell (p := ⟨w.heap.size, 1, none⟩) (Nat.le_refl _) _
end Go.Proofs.Ytloddjjmoaljhaa
