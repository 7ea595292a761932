/- The walk of TopWarmHours. -/
import Derived.Test.YtfdaiififoomoaaY3
import Derived.Deep.AppendLies
namespace Go.Proofs.Ytfdaiififoomoaa
open Go.RowKit Go.Lib Go.Shelf
set_option linter.unusedVariables false
set_option linter.unusedSimpArgs false
attribute [local go_sem ↓] Go.wp_at_zero Go.wp_at_succ

theorem step_append_d {P : Program} (w : World) {ops : Array Oper} {o : Oper} {a : Act} {K : Act → World → Prop} {Q : Exit → Act → World → Prop} {E : Prop} (d : Nat) (hd : o.dst = some d) (hgd : o.guard = none) (s x : Operand) (t : TypeId)
    (ho : o.op = .call { callee := .builtin .append, args := #[s, x], argTypes := #[t, t] })
    (base : Nat) (e : TypeId) (i : TypeInfo) (z : Value) (size bytes : Nat) (ht : P.underlying t = some (.slice e)) (hi : P.info? e = some i) (hz : i.zero = some z)
    (hsize : i.size = size) (hby : i.bytes = bytes) (hzs : z.cells.size = size) (hsz : 0 < size)
    (v : Value) (n : Nat) (xs : List Value) (hs : a.eval s = v) (hown : w.ownsRow base e size v n xs)
    (ad : Addr) (m c : Nat) (news : List Value) (hx : a.eval x = .slice (some ad) m c) (hl : news.length = m * size) (hnews : ∀ j u, news[j]? = some u → w.cell? (ad.add j) = some u) (h1 : ∀ u ∈ news, u.oneCell' = true)
    (hm : 0 < m) (h63 : n + m ≤ maxLen) (hbytes : (n + m) * bytes ≤ 140737488355328) (hbase : base ≤ w.heap.size) (H : Nat) (hH : w.heap.size = H)
    (h : ∀ g cap w', w'.ownsRow base e size (.slice (some ⟨g, 0, none⟩) (n + m) cap) (n + m) (xs ++ news) → w.grownBy w' v.ownBlock → (v.ownBlock = some g ∨ g = H) → g < w'.heap.size → K (a.put (some d) (.slice (some ⟨g, 0, none⟩) (n + m) cap)) w') :
    if Region.wanted o (yielded ops a.tmps) = true then Oper.wp P o a w K Q else E :=
  step_append_lies w hgd s x t ho base e i z size bytes ht hi hz hsize hby hzs hsz v n xs hs hown ad m c news hx hl hnews h1 hm h63 hbytes hbase H hH (fun g cap w' h1 h2 h3 h4 => by rw [hd]; exact h g cap w' h1 h2 h3 h4)

theorem ownsRow_empty (w : World) (e : TypeId) (size : Nat) : (w.alloc (.cells #[] e)).ownsRow w.heap.size e size (.slice (some ⟨w.heap.size, 0, none⟩) 0 0) 0 [] :=
  ⟨by simp, .inr ⟨w.heap.size, 0, #[], rfl, Nat.le_refl _, heap_alloc_new w _, Nat.le_refl _, Nat.zero_le _, by simp, by simp⟩⟩
theorem setcell_read {w : World} {p q : Addr} {x : Value} {r : Option Value} (hne : p ≠ q) (h : w.cell? q = r) : (w.setCell p x).cell? q = r := (World.cell?_setCell_other _ _ _ _ hne).trans h
set_option maxRecDepth 40000 in
set_option maxHeartbeats 16000000 in
theorem warm_walk (v0 : Value) (ps : List (Int × Int)) (x y : Int) (w : World) (hv : SlAt 2 c8 B8 w v0 ps) (hx : 0 ≤ x ∧ x ≤ 65535) (hy : 0 ≤ y ∧ y ≤ 65535) :
    Calls Try.prog 4 #[v0, .agg #[.int .u16 x, .int .u16 y]] w fun e w' => e = .returned (.bool true) ∧ Below w.heap.size w w' := by
  have CN := Lib.hid linkVat_any
  obtain ⟨Aw, cw, rfl, hr⟩ := hv
  have Hs : Hid (∀ (k : Nat) (p : Int × Int), ps[k]? = some p → (ps.map tP)[k]? = some (tL p, tH p)) := Lib.hid (fun k p h => by rw [List.getElem?_map, h]; rfl)
  have HB : Hid (∀ (k : Nat) (p : Int × Int), ps[k]? = some p → B8 p) := Lib.hid (fun k p h => by
    have h0 : 0 < ps.length := Nat.lt_of_le_of_lt (Nat.zero_le _) (List.getElem?_eq_some_iff.1 h).1
    obtain ⟨g, off, _, _, h1⟩ := hr h0
    exact (h1 k p h).2)
  have HR : Hid (0 < ps.length → ∃ g off, Aw = some ⟨g, off, none⟩ ∧ g < w.heap.size ∧ ∀ (k : Nat) (p : Int × Int), ps[k]? = some p → w.cell? ⟨g, off + k * 2, none⟩ = some (.int .u8 p.1) ∧ w.cell? ⟨g, off + k * 2 + 1, none⟩ = some (.int .u8 p.2)) := Lib.hid (fun h0 => by
    obtain ⟨g, off, e, hg, h1⟩ := hr h0
    exact ⟨g, off, e, hg, fun k p h => ⟨(h1 k p h).1 0 _ rfl, (h1 k p h).1 1 _ rfl⟩⟩)
  have HH : Hid (HrB (ps.map tP)) := Lib.hid (fun q hq => by
    obtain ⟨p, hp, rfl⟩ := List.mem_map.1 hq
    obtain ⟨k, hk, e⟩ := List.mem_iff_getElem.1 hp
    have := tP_in (HB.out k p (by rw [List.getElem?_eq_getElem hk, e]))
    exact ⟨this.1, this.2.2.2.1, this.2.2.2.2⟩)
  have hsl : (ps.map tP).length = ps.length := by simp
  obtain ⟨n, hn⟩ : ∃ n, ps.length = n := ⟨_, rfl⟩
  rw [hn] at HR hsl ⊢
  obtain ⟨hs, hhs⟩ : ∃ hs, ps.map tP = hs := ⟨_, rfl⟩
  rw [hhs] at Hs HH hsl
  have Hn := Lib.hid hn
  have HL := Lib.hid hsl
  clear hr hn hhs hsl
  have wx : IntKind.i64.wrap x = x := IntWalk.i64_in _ (by omega)
  have wy : IntKind.i64.wrap y = y := IntWalk.i64_in _ (by omega)
  have m1 := Int.emod_nonneg x (show (1100 : Int) ≠ 0 by omega)
  have m2 := Int.emod_lt_of_pos x (show (0 : Int) < 1100 by omega)
  have m3 := Int.emod_nonneg y (show (300 : Int) ≠ 0 by omega)
  have m4 := Int.emod_lt_of_pos y (show (0 : Int) < 300 by omega)
  have w1 : IntKind.i64.wrap (x % 1100) = x % 1100 := IntWalk.i64_in _ (by omega)
  have w2 : IntKind.i64.wrap (y % 300) = y % 300 := IntWalk.i64_in _ (by omega)
  have w3 : IntKind.i64.wrap (x % 1100 + y % 300) = x % 1100 + y % 300 := IntWalk.i64_in _ (by omega)
  by_cases hn100 : 100 < n
  · have t1 : decide ((100 : Int) < (n : Int)) = true := by simp; omega
    go_enter Try.func4, Try.ntmps4
    go_wp2_with fail
    refine (CN.out _).mono ?_
    rintro e w1 ⟨rfl, hb⟩
    replace hb := below1 hb
    go_wp2_with fail
    go_ret
    exact ⟨rfl, hb⟩
  have t1 : decide ((100 : Int) < (n : Int)) = false := by simp; omega
  go_enter Try.func4, Try.ntmps4
  go_wp2_with fail
  refine ((meetVat_any _)).mono ?_
  rintro e W1 ⟨vr, rfl, hvr, hb⟩
  have A0 := cell_next hb (b := w.heap.size) (o := 0) (by simp <;> omega) (v := some (.int .u16 x)) (by simp [go_sem])
  have A1 := cell_next hb (b := w.heap.size) (o := 1) (by simp <;> omega) (v := some (.int .u16 y)) (by simp [go_sem])
  have nA : w.heap.size < W1.heap.size := by have := hb.size; simp at this; omega
  have hB := (below1 hb)
  clear hb
  obtain ⟨AR, cR, hvre, hAR⟩ := hvr
  obtain rfl : vr = .slice AR 3 cR := hvre
  have hT1 : SetAt W1.heap.size W1 (.slice AR 3 cR) kRows := ⟨AR, cR, rfl, hAR⟩
  have HT := Lib.hid hT1
  clear hT1
  clear hAR
  go_wp2_with fail
  have HNew := new_st1 1000 (by decide)
  refine (HNew _ _ _ ((HT.out.below ((below_al2 W1 _ _).alloc (by simp <;> omega) _) (Nat.le_refl _)).mono (by simp <;> omega)) ((ns_one (by simp [go_sem])).mono (by simp))).mono ?_
  rintro e W2 ⟨c, tk, cap, vb, gv, rfl, hFx, hwc, hS, hb⟩
  have R0 := cell_next hb (b := W1.heap.size) (o := 0) (by simp <;> omega) (v := some (.slice AR 3 cR)) (by simp [go_sem])
  have R1 := cell_next hb (b := W1.heap.size) (o := 1) (by simp <;> omega) (v := some (.int .i64 1000)) (by simp [go_sem])
  have R2 := cell_next hb (b := W1.heap.size) (o := 2) (by simp <;> omega) (v := some (.int .i64 1)) (by simp [go_sem])
  have R3 := cell_next hb (b := W1.heap.size) (o := 3) (by simp <;> omega) (v := some (.int .i64 2)) (by simp [go_sem])
  have S0 := cell_next hb (b := W1.heap.size + 1) (o := 0) (by simp <;> omega) (v := some (.int .i64 (x % 1100))) (by simp [go_sem])
  have S1 := cell_next hb (b := W1.heap.size + 1) (o := 1) (by simp <;> omega) (v := some (.int .i64 (x % 1100 + y % 300))) (by simp [go_sem])
  have hWw := hB.size
  simp at hwc
  have nR : W1.heap.size < c := by omega
  have nS : W1.heap.size + 1 < c := by omega
  have nW : w.heap.size ≤ c := by omega
  have hBt : Below W1.heap.size W1 W2 := below3 hb
  replace hB := hB.trans (hBt.mono hB.size)
  replace HT : Hid (SetAt c W2 (.slice AR 3 cR) kRows) := Lib.hid ((HT.out.below hBt (Nat.le_refl _)).mono (by omega))
  clear hBt hWw hwc
  clear hb HNew
  obtain ⟨gR, hgR⟩ : ∃ q, W1.heap.size = q := ⟨_, rfl⟩
  rw [hgR] at R0 R1 R2 R3 S0 S1 nR nS ⊢
  clear hgR
  generalize hs0 : x % 1100 = s0 at *
  generalize hs1 : s0 + y % 300 = s1 at *
  have hst : 0 ≤ s0 ∧ s0 ≤ s1 ∧ s1 ≤ 1000000 := by omega
  go_wp2_with fail
  refine (pour_one hFx hS (by omega) s0 s1 hst).mono ?_
  rintro e W3 ⟨rfl, VP, hS3, hVP, hb⟩
  replace R0 := cell_next hb nR R0
  replace R1 := cell_next hb nR R1
  replace R2 := cell_next hb nR R2
  replace R3 := cell_next hb nR R3
  replace S0 := cell_next hb nS S0
  replace S1 := cell_next hb nS S1
  have hVl := World.ownsRow.lt hS3.2.1.2
  have hW3 := hb.size
  replace hB := hB.trans (hb.mono nW)
  replace HT := Lib.hid (HT.out.below hb (Nat.le_refl _))
  have F1 := Lib.hid hFx
  obtain ⟨f1, f2, f3, f4, f5, f6⟩ := hFx
  have HS := Lib.hid hS3
  clear hb hS hS3
  obtain ⟨ka, hka⟩ : ∃ f : Nat → Int, ∀ k, f k = (kL kRows hs (s0, s1) k).1 := ⟨_, fun _ => rfl⟩
  obtain ⟨kb, hkb⟩ : ∃ f : Nat → Int, ∀ k, f k = (kL kRows hs (s0, s1) k).2 := ⟨_, fun _ => rfl⟩
  obtain ⟨po, hpo⟩ : ∃ f : Nat → Int, ∀ k, f k = fstI (fun j => decide (1000 ≤ kb (j + 1))) k := ⟨_, fun _ => rfl⟩
  obtain ⟨su, hsu⟩ : ∃ f : Nat → Int, ∀ k, f k = fstI (fun j => decide (1000 ≤ ka (j + 1))) k := ⟨_, fun _ => rfl⟩
  have HKA := Lib.hid hka
  have HKB := Lib.hid hkb
  have HPO := Lib.hid hpo
  have HSU := Lib.hid hsu
  have HST : Hid (∀ k a b gl gh, hs[k]? = some (a, b) → vlR kRows a b = (gl, gh) → min 1000000 (ka k + 1 * gl) = ka (k + 1) ∧ min 1000000 (kb k + 1 * gh) = kb (k + 1)) := Lib.hid (fun k a b gl gh h hR => by
    have := kL_step hs (s0, s1) k h
    rw [hR] at this
    rw [hka, hkb, hka, hkb, this]
    exact ⟨rfl, rfl⟩)
  have HP : Hid (∀ k, (decide (1000 ≤ kb (k + 1)) = false → po (k + 1) = po k) ∧ (po k < 0 → decide (1000 ≤ kb (k + 1)) = true → po (k + 1) = k) ∧ (0 ≤ po k → po (k + 1) = po k)) := Lib.hid (fun k => by
    rw [hpo, hpo]
    exact ⟨fun h => fst_no h, fun h h2 => fstI_hit h h2, fun h => fstI_keep h⟩)
  have HU : Hid (∀ k, (decide (1000 ≤ ka (k + 1)) = false → su (k + 1) = su k) ∧ (su k < 0 → decide (1000 ≤ ka (k + 1)) = true → su (k + 1) = k) ∧ (0 ≤ su k → su (k + 1) = su k)) := Lib.hid (fun k => by
    rw [hsu, hsu]
    exact ⟨fun h => fst_no h, fun h h2 => fstI_hit h h2, fun h => fstI_keep h⟩)
  have HKL : Hid (∀ k, k ≤ n → 0 ≤ ka k ∧ ka k ≤ kb k ∧ kb k ≤ 1000000) := Lib.hid (fun k hk => by
    have := kL_ord hs HH.out (s := (s0, s1)) (u := (s0, s1)) (by dsimp only; omega) k (by rw [HL.out]; exact hk)
    rw [hka, hkb]
    exact ⟨this.1, this.2.2.1, this.2.2.2⟩)
  have ka0 : ka 0 = s0 := hka 0
  have kb0 : kb 0 = s1 := hkb 0
  have po0 : po 0 = -1 := hpo 0
  have su0 : su 0 = -1 := hsu 0
  clear hka hkb hpo hsu
  obtain ⟨i0, hi0, hz0, hz1, hz2⟩ := info_parts infoRg
  clear A0 A1 nA m1 m2 m3 m4 w1 w2 w3 wx wy hs0 hs1 hx hy
  have hc3 : c < W3.heap.size := HS.out.1.nc
  go_wp2_with fail
  have own0 := ownsRow_empty W3 31 2
  have hbe : Below W3.heap.size W3 (W3.alloc (Obj.cells #[] 31)) := (Below.refl _ _).alloc (Nat.le_refl _) _
  replace R0 := cell_next hbe (by omega) R0
  replace R1 := cell_next hbe (by omega) R1
  replace R2 := cell_next hbe (by omega) R2
  replace R3 := cell_next hbe (by omega) R3
  replace S0 := cell_next hbe (by omega) S0
  replace S1 := cell_next hbe (by omega) S1
  replace HS := Lib.hid (HS.out.below hbe)
  replace HT := Lib.hid (HT.out.below hbe (by omega))
  replace hB := hB.trans (hbe.mono hB.size)
  have hbw : W3.heap.size < (W3.alloc (Obj.cells #[] 31)).heap.size := by simp
  clear hbe
  generalize W3.alloc (Obj.cells #[] 31) = W4 at *
  have HO : Hid (W4.ownsRow W3.heap.size 31 2 (.slice (some ⟨W3.heap.size, 0, none⟩) 0 0) 0 (flat (hs.take 0))) := Lib.hid own0
  have hVP2 : ∀ g, VP.ownBlock = some g → g < W3.heap.size := fun g h => (hVl g h).2
  have hbase : W2.heap.size ≤ W3.heap.size := hW3
  clear own0 hVl hW3
  generalize W3.heap.size = bw at *
  generalize W2.heap.size = base at *
  have HR4 := Lib.hid (And.intro R0 (And.intro R1 (And.intro R2 R3)))
  have HS4 := Lib.hid (And.intro S0 S1)
  clear R0 R1 R2 R3 S0 S1
  have HE : Hid (∃ fl fh, ((0 ≤ fl ∧ fl ≤ 1000000) ∧ 0 ≤ fh ∧ fh ≤ 1000000) ∧ St1 1000 c tk cap vb base ((0 : Nat) : Int) 970 30 fl fh gv VP [⟨970, 30, ka 0, kb 0, 0⟩] W4) := Lib.hid ⟨0, 0, by omega, by rw [ka0, kb0]; exact HS.out⟩
  clear HS
  go_loopw [12, 9, 10, 11] (fun i V9 p10 p11 wr => ∃ k : Nat, k ≤ n ∧ i = .int .i64 (k : Int) ∧ p10 = .int .i64 (po k) ∧ p11 = .int .i64 (su k) ∧ Hid (wr.ownsRow bw 31 2 V9 k (flat (hs.take k))) ∧ Hid (∃ fl fh, ((0 ≤ fl ∧ fl ≤ 1000000) ∧ 0 ≤ fh ∧ fh ≤ 1000000) ∧ St1 1000 c tk cap vb base (k : Int) 970 30 fl fh gv VP [⟨970, 30, ka k, kb k, 0⟩] wr) ∧ bw < wr.heap.size ∧ Below c W4 wr) (fun i _ _ _ _ => n - (RowKit.intOf i).toNat)
  case atStart => exact ⟨0, Nat.zero_le _, rfl, by rw [po0], by rw [su0], HO, HE, hbw, Below.refl _ _⟩
  case round =>
    clear HO HE
    obtain ⟨k, hk, rfl, rfl, rfl, HO, HE, hbr, hBc⟩ := hrel
    by_cases hlt : k < n
    · obtain ⟨⟨p1, p2⟩, hp⟩ : ∃ p, ps[k]? = some p := ⟨_, List.getElem?_eq_getElem (by rw [Hn.out]; exact hlt)⟩
      obtain ⟨gA, oA, rfl, hgA, hcA⟩ := HR.out (by omega)
      obtain ⟨q0, q1⟩ := hcA k _ hp
      clear hcA
      have hbb := HB.out k _ hp
      have hsk : hs[k]? = some (min p1 p2 % 200, min p1 p2 % 200 + max p1 p2 % (201 - min p1 p2 % 200)) := Hs.out k _ hp
      have htin : 0 ≤ min p1 p2 % 200 ∧ min p1 p2 % 200 ≤ 199 ∧ 0 ≤ max p1 p2 % (201 - min p1 p2 % 200) ∧ min p1 p2 % 200 ≤ min p1 p2 % 200 + max p1 p2 % (201 - min p1 p2 % 200) ∧ min p1 p2 % 200 + max p1 p2 % (201 - min p1 p2 % 200) ≤ 200 := tP_in hbb
      clear hp
      have hBw := hB.trans (hBc.mono nW)
      dsimp only at q0 q1
      replace q0 := cell_next hBw hgA q0
      replace q1 := cell_next hBw hgA q1
      have ng : gA < wr.heap.size := Nat.lt_of_lt_of_le hgA hBw.size
      have hmin : ∀ tys ty w, (Builtin.min_ tys ty #[.int .u8 p1, .int .u8 p2]).run Try.prog w = .ok (.int .u8 (min p1 p2)) w := fun _ _ _ => umin2 _ _ _ _ _ _
      have hmax : ∀ tys ty w, (Builtin.max_ tys ty #[.int .u8 p1, .int .u8 p2]).run Try.prog w = .ok (.int .u8 (max p1 p2)) w := fun _ _ _ => umax2 _ _ _ _ _ _
      obtain ⟨⟨hb1, hb2⟩, hb3, hb4⟩ := hbb
      dsimp only at hb1 hb2 hb3 hb4
      have v1 : IntKind.i64.wrap (min p1 p2) = min p1 p2 := IntWalk.i64_in _ (by omega)
      have v2 : IntKind.i64.wrap (max p1 p2) = max p1 p2 := IntWalk.i64_in _ (by omega)
      have tm1 : (min p1 p2).tmod 200 = min p1 p2 % 200 := Int.tmod_eq_emod_of_nonneg (by omega)
      have tm2 : (max p1 p2).tmod (201 - min p1 p2 % 200) = max p1 p2 % (201 - min p1 p2 % 200) := Int.tmod_eq_emod_of_nonneg (by omega)
      have v3 : IntKind.i64.wrap (min p1 p2 % 200) = min p1 p2 % 200 := IntWalk.i64_in _ (by omega)
      have v4 : IntKind.i64.wrap (201 - min p1 p2 % 200) = 201 - min p1 p2 % 200 := IntWalk.i64_in _ (by omega)
      have v5 : IntKind.i64.wrap (max p1 p2 % (201 - min p1 p2 % 200)) = max p1 p2 % (201 - min p1 p2 % 200) := IntWalk.i64_in _ (by omega)
      have v6 : IntKind.i64.wrap (min p1 p2 % 200 + max p1 p2 % (201 - min p1 p2 % 200)) = min p1 p2 % 200 + max p1 p2 % (201 - min p1 p2 % 200) := IntWalk.i64_in _ (by omega)
      have hz : ((201 : Int) - min p1 p2 % 200 = 0) = False := by simp; omega
      have hzz : decide ((k : Int) < (n : Int)) = true := by simp; omega
      go_wp2_with fail
      have hBW : wr.heap.size ≤ wr.heap.size := Nat.le_refl _
      refine wp_region_held_drew (S := fun w' => w'.cell? ⟨gA, oA + k * 2, none⟩ = some (.int .u8 p1) ∧ w'.cell? ⟨gA, oA + k * 2 + 1, none⟩ = some (.int .u8 p2) ∧ True) (by kernel_rfl) ?_ (fun hHeld => ?_)
      focus (exact ⟨q0, q1, trivial⟩)
      have hL : Below wr.heap.size wr wr.drew := Below.drew (Below.refl _ _)
      replace q0 : wr.drew.cell? ⟨gA, oA + k * 2, none⟩ = some (.int .u8 p1) := q0
      replace q1 : wr.drew.cell? ⟨gA, oA + k * 2 + 1, none⟩ = some (.int .u8 p2) := q1
      replace ng : gA < wr.drew.heap.size := ng
      generalize hWd : wr.drew = wd13 at hHeld hL q0 q1 ng  ⊢
      clear hWd
      refine take_slot (i := 0) (d := 69) (v := ?_) rfl rfl (by kernel_rfl) (by kernel_rfl) (by kernel_rfl) (fun _ _ _ h => h) (Or.inl ⟨by rfl, ?_⟩) (by assumption) ?_
      rotate_left 1
      focus (intro wS hSw; (try dsimp only at hSw); go_simp; try with_reducible rfl)
      try simp only [List.setIfInBounds_toArray, List.set_cons_zero, List.set_cons_succ]
      refine take_slot (i := 1) (d := 70) (v := ?_) rfl rfl (by kernel_rfl) (by kernel_rfl) (by kernel_rfl) (fun _ _ _ h => h) (Or.inl ⟨by rfl, ?_⟩) (by assumption) ?_
      rotate_left 1
      focus (intro wS hSw; (try dsimp only at hSw); go_simp; try with_reducible rfl)
      try simp only [List.setIfInBounds_toArray, List.set_cons_zero, List.set_cons_succ]
      refine take_slot (i := 2) (d := 71) (v := ?_) rfl rfl (by kernel_rfl) (by kernel_rfl) (by kernel_rfl) (fun _ _ _ h => h) (Or.inl ⟨by rfl, ?_⟩) (by assumption) ?_
      rotate_left 1
      focus (intro wS hSw; (try dsimp only at hSw); go_simp; try with_reducible rfl)
      try simp only [List.setIfInBounds_toArray, List.set_cons_zero, List.set_cons_succ]
      refine take_slot (i := 3) (d := 72) (v := ?_) rfl rfl (by kernel_rfl) (by kernel_rfl) (by kernel_rfl) (fun _ _ _ h => h) (Or.inl ⟨by rfl, ?_⟩) (by assumption) ?_
      rotate_left 1
      focus (intro wS hSw; (try dsimp only at hSw); go_simp; try with_reducible rfl)
      try simp only [List.setIfInBounds_toArray, List.set_cons_zero, List.set_cons_succ]
      refine take_slot (i := 4) (d := 73) (v := ?_) rfl rfl (by kernel_rfl) (by kernel_rfl) (by kernel_rfl) (fun _ _ _ h => h) (Or.inl ⟨by rfl, ?_⟩) (by assumption) ?_
      rotate_left 1
      focus (intro wS hSw; (try dsimp only at hSw); go_simp; try with_reducible rfl)
      try simp only [List.setIfInBounds_toArray, List.set_cons_zero, List.set_cons_succ]
      refine take_slot (i := 5) (d := 74) (v := ?_) rfl rfl (by kernel_rfl) (by kernel_rfl) (by kernel_rfl) (fun _ _ _ h => h) (Or.inl ⟨by rfl, ?_⟩) (by assumption) ?_
      rotate_left 1
      focus (intro wS hSw; (try dsimp only at hSw); go_simp; try with_reducible rfl)
      try simp only [List.setIfInBounds_toArray, List.set_cons_zero, List.set_cons_succ]
      refine take_slot (i := 6) (d := 75) (v := ?_) rfl rfl (by kernel_rfl) (by kernel_rfl) (by kernel_rfl) (fun _ _ _ h => h) (Or.inl ⟨by rfl, ?_⟩) (by assumption) ?_
      rotate_left 1
      focus (intro wS hSw; (try dsimp only at hSw); go_simp; try with_reducible rfl)
      try simp only [List.setIfInBounds_toArray, List.set_cons_zero, List.set_cons_succ]
      refine take_slot (i := 7) (d := 76) (v := ?_) rfl rfl (by kernel_rfl) (by kernel_rfl) (by kernel_rfl) (fun _ _ _ h => h) (Or.inl ⟨by rfl, ?_⟩) (by assumption) ?_
      rotate_left 1
      focus (intro wS hSw; (try dsimp only at hSw); go_simp; try with_reducible rfl)
      try simp only [List.setIfInBounds_toArray, List.set_cons_zero, List.set_cons_succ]
      refine take_slot (i := 8) (d := 77) (v := ?_) rfl rfl (by kernel_rfl) (by kernel_rfl) (by kernel_rfl) (fun _ _ _ h => h) (Or.inl ⟨by rfl, ?_⟩) (by assumption) ?_
      rotate_left 1
      focus (intro wS hSw; (try dsimp only at hSw); go_simp; try with_reducible rfl)
      try simp only [List.setIfInBounds_toArray, List.set_cons_zero, List.set_cons_succ]
      refine take_slot (i := 9) (d := 78) (v := ?_) rfl rfl (by kernel_rfl) (by kernel_rfl) (by kernel_rfl) (fun _ _ _ h => h) (Or.inl ⟨by rfl, ?_⟩) (by assumption) ?_
      rotate_left 1
      focus (intro wS hSw; (try dsimp only at hSw); go_simp; try with_reducible rfl)
      try simp only [List.setIfInBounds_toArray, List.set_cons_zero, List.set_cons_succ]
      refine take_slot (i := 10) (d := 79) (v := ?_) rfl rfl (by kernel_rfl) (by kernel_rfl) (by kernel_rfl) (fun _ _ _ h => h) (Or.inl ⟨by rfl, ?_⟩) (by assumption) ?_
      rotate_left 1
      focus (intro wS hSw; (try dsimp only at hSw); go_simp; try with_reducible rfl)
      try simp only [List.setIfInBounds_toArray, List.set_cons_zero, List.set_cons_succ]
      refine take_slot (i := 11) (d := 80) (v := ?_) rfl rfl (by kernel_rfl) (by kernel_rfl) (by kernel_rfl) (fun _ _ _ h => h) (Or.inl ⟨by rfl, ?_⟩) (by assumption) ?_
      rotate_left 1
      focus (intro wS hSw; (try dsimp only at hSw); go_simp; try with_reducible rfl)
      try simp only [List.setIfInBounds_toArray, List.set_cons_zero, List.set_cons_succ]
      refine take_slot (i := 12) (d := 81) (v := ?_) rfl rfl (by kernel_rfl) (by kernel_rfl) (by kernel_rfl) (fun _ _ _ h => h) (Or.inl ⟨by rfl, ?_⟩) (by assumption) ?_
      rotate_left 1
      focus (intro wS hSw; (try dsimp only at hSw); go_simp; try with_reducible rfl)
      try simp only [List.setIfInBounds_toArray, List.set_cons_zero, List.set_cons_succ]
      refine take_slot (i := 13) (d := 82) (v := ?_) rfl rfl (by kernel_rfl) (by kernel_rfl) (by kernel_rfl) (fun _ _ _ h => h) (Or.inl ⟨by rfl, ?_⟩) (by assumption) ?_
      rotate_left 1
      focus (intro wS hSw; (try dsimp only at hSw); go_simp; try with_reducible rfl)
      try simp only [List.setIfInBounds_toArray, List.set_cons_zero, List.set_cons_succ]
      refine wpAnyH_ready (rs := [14]) (by kernel_rfl) (by simp) ?_
      refine AllReadyH.cons rfl (fun K hK => ?_) AllReadyH.nil
      go_simp
      have hb := (Below.refl wd13.heap.size wd13).alloc (Nat.le_refl _) (Obj.cells #[.int .i64 0, .int .i64 0] 31)
      have szZ13x1 := hL.size
      have ord1ng := ng
      replace q0 := cell_next hb ng q0
      replace q1 := cell_next hb ng q1
      replace ng := Nat.lt_of_lt_of_le ng hb.size
      replace hL := hL.trans (hb.mono (Nat.le_trans hBW hL.size))
      have Tf0 : (wd13.alloc (Obj.cells #[.int .i64 0, .int .i64 0] 31)).frozen? ⟨wd13.heap.size, 0, none⟩ = false := by simp [go_sem]
      have Tf1 : (wd13.alloc (Obj.cells #[.int .i64 0, .int .i64 0] 31)).frozen? ⟨wd13.heap.size, 1, none⟩ = false := by simp [go_sem]
      have T0 : (wd13.alloc (Obj.cells #[.int .i64 0, .int .i64 0] 31)).cell? ⟨wd13.heap.size, 0, none⟩ = some (.int .i64 0) := cell_new _ _ _ 0
      have T1 : (wd13.alloc (Obj.cells #[.int .i64 0, .int .i64 0] 31)).cell? ⟨wd13.heap.size, 1, none⟩ = some (.int .i64 0) := cell_new _ _ _ 1
      have nT : wd13.heap.size < (wd13.alloc (Obj.cells #[.int .i64 0, .int .i64 0] 31)).heap.size := by simp
      refine hK.out _ _ ⟨q0, q1, trivial⟩ (fun hHeld => ?_)
      clear hK K hb
      generalize wd13.alloc (Obj.cells #[.int .i64 0, .int .i64 0] 31) = Z13x1 at *
      try simp only [Act.put, List.setIfInBounds_toArray, List.set_cons_zero, List.set_cons_succ]
      refine wpAnyH_ready (rs := [15]) (by kernel_rfl) (by simp) ?_
      refine AllReadyH.cons rfl (fun K hK => ?_) AllReadyH.nil
      go_simp
      replace q0 : ((Z13x1.setCell ⟨wd13.heap.size, 0, none⟩ (.int .i64 (min p1 p2 % 200))).setCell ⟨wd13.heap.size, 1, none⟩ (.int .i64 0)).cell? ⟨gA, oA + k * 2, none⟩ = some (.int .u8 p1) := ((World.cell?_setCell_other _ _ _ _ (by intro e; injection e with e1 e2; omega)).trans ((World.cell?_setCell_other _ _ _ _ (by intro e; injection e with e1 e2; omega)).trans q0))
      replace q1 : ((Z13x1.setCell ⟨wd13.heap.size, 0, none⟩ (.int .i64 (min p1 p2 % 200))).setCell ⟨wd13.heap.size, 1, none⟩ (.int .i64 0)).cell? ⟨gA, oA + k * 2 + 1, none⟩ = some (.int .u8 p2) := ((World.cell?_setCell_other _ _ _ _ (by intro e; injection e with e1 e2; omega)).trans ((World.cell?_setCell_other _ _ _ _ (by intro e; injection e with e1 e2; omega)).trans q1))
      replace Tf0 : ((Z13x1.setCell ⟨wd13.heap.size, 0, none⟩ (.int .i64 (min p1 p2 % 200))).setCell ⟨wd13.heap.size, 1, none⟩ (.int .i64 0)).frozen? ⟨wd13.heap.size, 0, none⟩ = false := by simp [go_sem, Tf0]
      replace Tf1 : ((Z13x1.setCell ⟨wd13.heap.size, 0, none⟩ (.int .i64 (min p1 p2 % 200))).setCell ⟨wd13.heap.size, 1, none⟩ (.int .i64 0)).frozen? ⟨wd13.heap.size, 1, none⟩ = false := by simp [go_sem, Tf1]
      replace T0 : ((Z13x1.setCell ⟨wd13.heap.size, 0, none⟩ (.int .i64 (min p1 p2 % 200))).setCell ⟨wd13.heap.size, 1, none⟩ (.int .i64 0)).cell? ⟨wd13.heap.size, 0, none⟩ = some (.int .i64 (min p1 p2 % 200)) := by simp [go_sem, T0]
      replace T1 : ((Z13x1.setCell ⟨wd13.heap.size, 0, none⟩ (.int .i64 (min p1 p2 % 200))).setCell ⟨wd13.heap.size, 1, none⟩ (.int .i64 0)).cell? ⟨wd13.heap.size, 1, none⟩ = some (.int .i64 0) := by simp [go_sem, T1]
      replace ng : gA < ((Z13x1.setCell ⟨wd13.heap.size, 0, none⟩ (.int .i64 (min p1 p2 % 200))).setCell ⟨wd13.heap.size, 1, none⟩ (.int .i64 0)).heap.size := by simpa [World.setCell] using ng
      replace nT : wd13.heap.size < ((Z13x1.setCell ⟨wd13.heap.size, 0, none⟩ (.int .i64 (min p1 p2 % 200))).setCell ⟨wd13.heap.size, 1, none⟩ (.int .i64 0)).heap.size := by simpa [World.setCell] using nT
      replace hL := hL.setCell (p := ⟨wd13.heap.size, 0, none⟩) (by show wr.heap.size ≤ wd13.heap.size; omega) (.int .i64 (min p1 p2 % 200))
      replace hL := hL.setCell (p := ⟨wd13.heap.size, 1, none⟩) (by show wr.heap.size ≤ wd13.heap.size; omega) (.int .i64 0)
      refine hK.out _ _ ⟨q0, q1, trivial⟩ (fun hHeld => ?_)
      clear hK K
      generalize ((Z13x1.setCell ⟨wd13.heap.size, 0, none⟩ (.int .i64 (min p1 p2 % 200))).setCell ⟨wd13.heap.size, 1, none⟩ (.int .i64 0)) = Z13x2 at *
      try simp only [Act.put, List.setIfInBounds_toArray, List.set_cons_zero, List.set_cons_succ]
      refine wpAnyH_done (by kernel_rfl) ?_ _
      have hT1 := hL
      clear hHeld hL hBW
      go_wp2_with fail
      have hBW : wr.heap.size ≤ Z13x2.heap.size := hT1.size
      refine wp_region_held_drew (S := fun w' => w'.cell? ⟨gA, oA + k * 2, none⟩ = some (.int .u8 p1) ∧ w'.cell? ⟨gA, oA + k * 2 + 1, none⟩ = some (.int .u8 p2) ∧ w'.cell? ⟨wd13.heap.size, 0, none⟩ = some (.int .i64 (min p1 p2 % 200)) ∧ True) (by kernel_rfl) ?_ (fun hHeld => ?_)
      focus (exact ⟨q0, q1, T0, trivial⟩)
      have hL : Below wr.heap.size Z13x2 Z13x2.drew := Below.drew (Below.refl _ _)
      replace q0 : Z13x2.drew.cell? ⟨gA, oA + k * 2, none⟩ = some (.int .u8 p1) := q0
      replace q1 : Z13x2.drew.cell? ⟨gA, oA + k * 2 + 1, none⟩ = some (.int .u8 p2) := q1
      replace T0 : Z13x2.drew.cell? ⟨wd13.heap.size, 0, none⟩ = some (.int .i64 (min p1 p2 % 200)) := T0
      replace T1 : Z13x2.drew.cell? ⟨wd13.heap.size, 1, none⟩ = some (.int .i64 0) := T1
      replace Tf1 : Z13x2.drew.frozen? ⟨wd13.heap.size, 1, none⟩ = false := Tf1
      replace ng : gA < Z13x2.drew.heap.size := ng
      replace nT : wd13.heap.size < Z13x2.drew.heap.size := nT
      generalize hWd : Z13x2.drew = wd14 at hHeld hL q0 q1 T0 T1 Tf1 ng nT  ⊢
      clear hWd
      refine take_slot (i := 0) (d := 83) (v := ?_) rfl rfl (by kernel_rfl) (by kernel_rfl) (by kernel_rfl) (fun _ _ _ h => h) (Or.inl ⟨by rfl, ?_⟩) (by assumption) ?_
      rotate_left 1
      focus (intro wS hSw; (try dsimp only at hSw); go_simp; try with_reducible rfl)
      try simp only [List.setIfInBounds_toArray, List.set_cons_zero, List.set_cons_succ]
      refine take_slot (i := 1) (d := 84) (v := ?_) rfl rfl (by kernel_rfl) (by kernel_rfl) (by kernel_rfl) (fun _ _ _ h => h) (Or.inl ⟨by rfl, ?_⟩) (by assumption) ?_
      rotate_left 1
      focus (intro wS hSw; (try dsimp only at hSw); go_simp; try with_reducible rfl)
      try simp only [List.setIfInBounds_toArray, List.set_cons_zero, List.set_cons_succ]
      refine take_slot (i := 2) (d := 85) (v := ?_) rfl rfl (by kernel_rfl) (by kernel_rfl) (by kernel_rfl) (fun _ _ _ h => h) (Or.inl ⟨by rfl, ?_⟩) (by assumption) ?_
      rotate_left 1
      focus (intro wS hSw; (try dsimp only at hSw); go_simp; try with_reducible rfl)
      try simp only [List.setIfInBounds_toArray, List.set_cons_zero, List.set_cons_succ]
      refine take_slot (i := 3) (d := 86) (v := ?_) rfl rfl (by kernel_rfl) (by kernel_rfl) (by kernel_rfl) (fun _ _ _ h => h) (Or.inl ⟨by rfl, ?_⟩) (by assumption) ?_
      rotate_left 1
      focus (intro wS hSw; (try dsimp only at hSw); go_simp; try with_reducible rfl)
      try simp only [List.setIfInBounds_toArray, List.set_cons_zero, List.set_cons_succ]
      refine take_slot (i := 4) (d := 87) (v := ?_) rfl rfl (by kernel_rfl) (by kernel_rfl) (by kernel_rfl) (fun _ _ _ h => h) (Or.inl ⟨by rfl, ?_⟩) (by assumption) ?_
      rotate_left 1
      focus (intro wS hSw; (try dsimp only at hSw); go_simp; try with_reducible rfl)
      try simp only [List.setIfInBounds_toArray, List.set_cons_zero, List.set_cons_succ]
      refine take_slot (i := 5) (d := 88) (v := ?_) rfl rfl (by kernel_rfl) (by kernel_rfl) (by kernel_rfl) (fun _ _ _ h => h) (Or.inl ⟨by rfl, ?_⟩) (by assumption) ?_
      rotate_left 1
      focus (intro wS hSw; (try dsimp only at hSw); go_simp; try with_reducible rfl)
      try simp only [List.setIfInBounds_toArray, List.set_cons_zero, List.set_cons_succ]
      refine take_slot (i := 6) (d := 89) (v := ?_) rfl rfl (by kernel_rfl) (by kernel_rfl) (by kernel_rfl) (fun _ _ _ h => h) (Or.inl ⟨by rfl, ?_⟩) (by assumption) ?_
      rotate_left 1
      focus (intro wS hSw; (try dsimp only at hSw); go_simp; try with_reducible rfl)
      try simp only [List.setIfInBounds_toArray, List.set_cons_zero, List.set_cons_succ]
      refine take_slot (i := 7) (d := 90) (v := ?_) rfl rfl (by kernel_rfl) (by kernel_rfl) (by kernel_rfl) (fun _ _ _ h => h) (Or.inl ⟨by rfl, ?_⟩) (by assumption) ?_
      rotate_left 1
      focus (intro wS hSw; (try dsimp only at hSw); go_simp; try with_reducible rfl)
      try simp only [List.setIfInBounds_toArray, List.set_cons_zero, List.set_cons_succ]
      refine take_slot (i := 8) (d := 91) (v := ?_) rfl rfl (by kernel_rfl) (by kernel_rfl) (by kernel_rfl) (fun _ _ _ h => h) (Or.inl ⟨by rfl, ?_⟩) (by assumption) ?_
      rotate_left 1
      focus (intro wS hSw; (try dsimp only at hSw); go_simp; try with_reducible rfl)
      try simp only [List.setIfInBounds_toArray, List.set_cons_zero, List.set_cons_succ]
      refine take_slot (i := 9) (d := 92) (v := ?_) rfl rfl (by kernel_rfl) (by kernel_rfl) (by kernel_rfl) (fun _ _ _ h => h) (Or.inl ⟨by rfl, ?_⟩) (by assumption) ?_
      rotate_left 1
      focus (intro wS hSw; (try dsimp only at hSw); go_simp; try with_reducible rfl)
      try simp only [List.setIfInBounds_toArray, List.set_cons_zero, List.set_cons_succ]
      refine take_slot (i := 10) (d := 93) (v := ?_) rfl rfl (by kernel_rfl) (by kernel_rfl) (by kernel_rfl) (fun _ _ _ h => h) (Or.inl ⟨by rfl, ?_⟩) (by assumption) ?_
      rotate_left 1
      focus (intro wS hSw; (try dsimp only at hSw); go_simp; try with_reducible rfl)
      try simp only [List.setIfInBounds_toArray, List.set_cons_zero, List.set_cons_succ]
      refine take_slot (i := 11) (d := 94) (v := ?_) rfl rfl (by kernel_rfl) (by kernel_rfl) (by kernel_rfl) (fun _ _ _ h => h) (Or.inl ⟨by rfl, ?_⟩) (by assumption) ?_
      rotate_left 1
      focus (intro wS hSw; (try dsimp only at hSw); go_simp; try with_reducible rfl)
      try simp only [List.setIfInBounds_toArray, List.set_cons_zero, List.set_cons_succ]
      refine take_slot (i := 12) (d := 95) (v := ?_) rfl rfl (by kernel_rfl) (by kernel_rfl) (by kernel_rfl) (fun _ _ _ h => h) (Or.inl ⟨by rfl, ?_⟩) (by assumption) ?_
      rotate_left 1
      focus (intro wS hSw; (try dsimp only at hSw); go_simp; try with_reducible rfl)
      try simp only [List.setIfInBounds_toArray, List.set_cons_zero, List.set_cons_succ]
      refine take_slot (i := 13) (d := 96) (v := ?_) rfl rfl (by kernel_rfl) (by kernel_rfl) (by kernel_rfl) (fun _ _ _ h => h) (Or.inl ⟨by rfl, ?_⟩) (by assumption) ?_
      rotate_left 1
      focus (intro wS hSw; (try dsimp only at hSw); go_simp; try with_reducible rfl)
      try simp only [List.setIfInBounds_toArray, List.set_cons_zero, List.set_cons_succ]
      refine take_slot (i := 14) (d := 97) (v := ?_) rfl rfl (by kernel_rfl) (by kernel_rfl) (by kernel_rfl) (fun _ _ _ h => h) (Or.inl ⟨by rfl, ?_⟩) (by assumption) ?_
      rotate_left 1
      focus (intro wS hSw; (try dsimp only at hSw); go_simp; try with_reducible rfl)
      try simp only [List.setIfInBounds_toArray, List.set_cons_zero, List.set_cons_succ]
      refine take_slot (i := 15) (d := 98) (v := ?_) rfl rfl (by kernel_rfl) (by kernel_rfl) (by kernel_rfl) (fun _ _ _ h => h) (Or.inl ⟨by rfl, ?_⟩) (by assumption) ?_
      rotate_left 1
      focus (intro wS hSw; (try dsimp only at hSw); go_simp; try with_reducible rfl)
      try simp only [List.setIfInBounds_toArray, List.set_cons_zero, List.set_cons_succ]
      refine take_slot (i := 16) (d := 99) (v := ?_) rfl rfl (by kernel_rfl) (by kernel_rfl) (by kernel_rfl) (fun _ _ _ h => h) (Or.inl ⟨by rfl, ?_⟩) (by assumption) ?_
      rotate_left 1
      focus (intro wS hSw; (try dsimp only at hSw); go_simp; try with_reducible rfl)
      try simp only [List.setIfInBounds_toArray, List.set_cons_zero, List.set_cons_succ]
      refine take_slot (i := 17) (d := 100) (v := ?_) rfl rfl (by kernel_rfl) (by kernel_rfl) (by kernel_rfl) (fun _ _ _ h => h) (Or.inl ⟨by rfl, ?_⟩) (by assumption) ?_
      rotate_left 1
      focus (intro wS hSw; (try dsimp only at hSw); go_simp; try with_reducible rfl)
      try simp only [List.setIfInBounds_toArray, List.set_cons_zero, List.set_cons_succ]
      refine take_slot (i := 18) (d := 101) (v := ?_) rfl rfl (by kernel_rfl) (by kernel_rfl) (by kernel_rfl) (fun _ _ _ h => h) (Or.inl ⟨by rfl, ?_⟩) (by assumption) ?_
      rotate_left 1
      focus (intro wS hSw; (try dsimp only at hSw); go_simp; try with_reducible rfl)
      try simp only [List.setIfInBounds_toArray, List.set_cons_zero, List.set_cons_succ]
      refine take_slot (i := 19) (d := 102) (v := ?_) rfl rfl (by kernel_rfl) (by kernel_rfl) (by kernel_rfl) (fun _ _ _ h => h) (Or.inl ⟨by rfl, ?_⟩) (by assumption) ?_
      rotate_left 1
      focus (intro wS hSw; (try dsimp only at hSw); go_simp; try with_reducible rfl)
      try simp only [List.setIfInBounds_toArray, List.set_cons_zero, List.set_cons_succ]
      refine wpAnyH_ready (rs := [20]) (by kernel_rfl) (by simp) ?_
      refine AllReadyH.cons rfl (fun K hK => ?_) AllReadyH.nil
      go_simp
      replace q0 : (wd14.setCell ⟨wd13.heap.size, 1, none⟩ (.int .i64 (min p1 p2 % 200 + max p1 p2 % (201 - min p1 p2 % 200)))).cell? ⟨gA, oA + k * 2, none⟩ = some (.int .u8 p1) := ((World.cell?_setCell_other _ _ _ _ (by intro e; injection e with e1 e2; omega)).trans q0)
      replace q1 : (wd14.setCell ⟨wd13.heap.size, 1, none⟩ (.int .i64 (min p1 p2 % 200 + max p1 p2 % (201 - min p1 p2 % 200)))).cell? ⟨gA, oA + k * 2 + 1, none⟩ = some (.int .u8 p2) := ((World.cell?_setCell_other _ _ _ _ (by intro e; injection e with e1 e2; omega)).trans q1)
      replace T0 : (wd14.setCell ⟨wd13.heap.size, 1, none⟩ (.int .i64 (min p1 p2 % 200 + max p1 p2 % (201 - min p1 p2 % 200)))).cell? ⟨wd13.heap.size, 0, none⟩ = some (.int .i64 (min p1 p2 % 200)) := ((World.cell?_setCell_other _ _ _ _ (by intro e; injection e with e1 e2; omega)).trans T0)
      replace T1 : (wd14.setCell ⟨wd13.heap.size, 1, none⟩ (.int .i64 (min p1 p2 % 200 + max p1 p2 % (201 - min p1 p2 % 200)))).cell? ⟨wd13.heap.size, 1, none⟩ = some (.int .i64 (min p1 p2 % 200 + max p1 p2 % (201 - min p1 p2 % 200))) := by simp [go_sem, T1]
      replace Tf1 : (wd14.setCell ⟨wd13.heap.size, 1, none⟩ (.int .i64 (min p1 p2 % 200 + max p1 p2 % (201 - min p1 p2 % 200)))).frozen? ⟨wd13.heap.size, 1, none⟩ = false := by simp [go_sem, Tf1]
      replace ng : gA < (wd14.setCell ⟨wd13.heap.size, 1, none⟩ (.int .i64 (min p1 p2 % 200 + max p1 p2 % (201 - min p1 p2 % 200)))).heap.size := by simpa [World.setCell] using ng
      replace nT : wd13.heap.size < (wd14.setCell ⟨wd13.heap.size, 1, none⟩ (.int .i64 (min p1 p2 % 200 + max p1 p2 % (201 - min p1 p2 % 200)))).heap.size := by simpa [World.setCell] using nT
      replace hL := hL.setCell (p := ⟨wd13.heap.size, 1, none⟩) (by show wr.heap.size ≤ wd13.heap.size; omega) (.int .i64 (min p1 p2 % 200 + max p1 p2 % (201 - min p1 p2 % 200)))
      refine hK.out _ _ ⟨q0, q1, T0, trivial⟩ (fun hHeld => ?_)
      clear hK K
      generalize (wd14.setCell ⟨wd13.heap.size, 1, none⟩ (.int .i64 (min p1 p2 % 200 + max p1 p2 % (201 - min p1 p2 % 200)))) = Z14x1 at *
      try simp only [Act.put, List.setIfInBounds_toArray, List.set_cons_zero, List.set_cons_succ]
      refine wpAnyH_done (by kernel_rfl) ?_ _
      replace hT1 := hT1.trans hL
      clear hHeld hL hBW
      clear q0 q1 ng hmin hmax Tf0 Tf1 v1 v2 v3 v4 v5 v6 tm1 tm2 hz hb1 hb2 hb3 hb4
      generalize htl : min p1 p2 % 200 = tl at *
      generalize hth : tl + max p1 p2 % (201 - tl) = th at *
      obtain ⟨ti1, ti2, ti3, ti4, ti5⟩ := htin
      clear ti2 ti3 htl hth
      have HO2 := Lib.hid (own_below HO.out hT1)
      have HE2 : Hid (∃ fl fh, ((0 ≤ fl ∧ fl ≤ 1000000) ∧ 0 ≤ fh ∧ fh ≤ 1000000) ∧ St1 1000 c tk cap vb base (k : Int) 970 30 fl fh gv VP [⟨970, 30, ka k, kb k, 0⟩] Z14x1) := Lib.hid (by obtain ⟨fl, fh, h1, h2⟩ := HE.out; exact ⟨fl, fh, h1, h2.below hT1⟩)
      have hown9 := World.ownsRow.lt HO.out
      have hTB : wr.heap.size ≤ wd13.heap.size := by omega
      replace hBc := hBc.trans (hT1.mono (by have := hBc.size; omega))
      have hwb := hT1.size
      have hbr0 := hbr
      replace hbr : bw < Z14x1.heap.size := by omega
      generalize wd13.heap.size = gT at *
      clear HO HE hT1
      go_wp2_with (at_builtin; refine wpList_append_own_at _ rfl (.tmp 103) (.tmp 105) 36 rfl bw 31 i0 (.agg #[.int .i64 0, .int .i64 0]) 2 16 Try.underlying36 hi0 hz0 hz1 hz2 rfl (by decide) u9 k (flat (hs.take k)) rfl (World.ownsRow.alloc HO2.out _) ⟨Z14x1.heap.size, 0, none⟩ 1 1 [.int .i64 tl, .int .i64 th] rfl rfl ?_ ?_ ?_ ?_ ?_ ?_)
      case refine_6 =>
        intro V9 Wc hown' hgrow _ hat
        have hKg : Kept (fun i => u9.ownBlock = some i) Z14x1 Wc := (Kept.of_below' ((Below.refl _ _).alloc (Nat.le_refl _) _) _).trans (Kept.of_grown hgrow)
        have hcg : Below c Z14x1 Wc := ((Below.refl c Z14x1).alloc (by omega) _).grown hgrow (by simp; omega) (fun j hj => by have := (hown9 j hj).1; omega)
        have HO3 : Hid (Wc.ownsRow bw 31 2 V9 (k + 1) (flat (hs.take (k + 1)))) := Lib.hid (by rw [List.take_add_one, hsk, Option.toList_some]; simpa [flat] using hown')
        have hnu : ∀ i, i < bw → ¬ u9.ownBlock = some i := fun i hi h => by have := (hown9 i h).1; omega
        have HE3 : Hid (∃ fl fh, ((0 ≤ fl ∧ fl ≤ 1000000) ∧ 0 ≤ fh ∧ fh ≤ 1000000) ∧ St1 1000 c tk cap vb base (k : Int) 970 30 fl fh gv VP [⟨970, 30, ka k, kb k, 0⟩] Wc) := Lib.hid (by obtain ⟨fl, fh, h1, h2⟩ := HE2.out; exact ⟨fl, fh, h1, h2.kept hKg (hnu _ (by omega)) (hnu _ (by omega)) (hnu _ (by omega)) (fun g hg => hnu _ (hVP2 g hg)) (fun i hi => hnu _ (by omega))⟩)
        have hnT : ¬ u9.ownBlock = some gT := fun h => by have := (hown9 gT h).2; omega
        replace T0 := (hKg.cell (p := ⟨gT, 0, none⟩) nT hnT).trans T0
        replace T1 := (hKg.cell (p := ⟨gT, 1, none⟩) nT hnT).trans T1
        replace nT : gT < Wc.heap.size := Nat.lt_of_lt_of_le nT hKg.1
        replace hBc := hBc.trans hcg
        replace hbr : bw < Wc.heap.size := Nat.lt_of_lt_of_le hbr hKg.1
        clear hKg hcg hown' hgrow hat HO2 HE2 hnu hnT hown9
        obtain ⟨⟨gl, gh⟩, hgR⟩ : ∃ q, vlR kRows tl th = q := ⟨_, rfl⟩
        have hgb := (kR_is ti1 ti4 ti5).2
        rw [hgR] at hgb
        dsimp only at hgb
        obtain ⟨hg1, hg2, hg3, hg4, hg5⟩ := hgb
        obtain ⟨fl, fh, hf, h2⟩ := HE3.out
        have hkl := HKL.out k hk
        have CS := Lib.hid (stay_one F1.out h2 tl th gl gh ⟨ti1, ti4, ti5⟩ hgR hkl hf (by omega))
        clear h2 HE3 hf hkl
        go_wp2_with fail
        refine CS.out.mono ?_
        rintro e Wd ⟨rfl, fl1, fh1, hf1, hS1, hkS, hbS⟩
        clear CS
        obtain ⟨e1, e2⟩ := HST.out k tl th gl gh hsk hgR
        rw [e1, e2] at hS1
        obtain ⟨N1, hN⟩ : ∃ N : Int, (k : Int) + 1 = N := ⟨_, rfl⟩
        have hN2 : ((k + 1 : Nat) : Int) = N1 := by omega
        rw [hN] at hS1
        have wN : IntKind.i64.wrap ((k : Int) + 1) = N1 := by rw [hN]; exact IntWalk.i64_in _ (by omega)
        have hcu : ∀ i, bw ≤ i → ¬ Cu c vb VP i := fun i hi h => by rcases h with h | h | h; omega; omega; have := hVP2 _ h; omega
        replace T0 := (hkS.cell (p := ⟨gT, 0, none⟩) nT (hcu gT (by omega))).trans T0
        replace T1 := (hkS.cell (p := ⟨gT, 1, none⟩) nT (hcu gT (by omega))).trans T1
        replace nT : gT < Wd.heap.size := Nat.lt_of_lt_of_le nT hkS.1
        have HO4 := Lib.hid (ownsRow_kept HO3.out hkS (fun g hg => hcu g (World.ownsRow.lt HO3.out g hg).1))
        replace hBc := hBc.trans hbS
        replace hbr : bw < Wd.heap.size := Nat.lt_of_lt_of_le hbr hkS.1
        clear HO3 hkS hbS hcu e1 e2
        obtain ⟨b1, hb1⟩ : ∃ q, decide (1000 ≤ kb (k + 1)) = q := ⟨_, rfl⟩
        obtain ⟨b2, hb2⟩ : ∃ q, decide (1000 ≤ ka (k + 1)) = q := ⟨_, rfl⟩
        have hkl := HKL.out (k + 1) hlt
        have CT := Lib.hid (tell_one hS1 (by omega) hkl hb1 hb2)
        have HS1 := Lib.hid hS1
        clear hS1
        go_wp2_with fail
        refine CT.out.mono ?_
        rintro e We ⟨rfl, hb⟩
        clear CT
        replace T0 := cell_next hb nT T0
        replace T1 := cell_next hb nT T1
        replace nT := Nat.lt_of_lt_of_le nT hb.size
        replace HO4 := Lib.hid (own_below HO4.out hb)
        replace HS1 := Lib.hid (HS1.out.below hb)
        replace hBc := hBc.trans (hb.mono (by omega))
        replace hbr : bw < We.heap.size := Nat.lt_of_lt_of_le hbr hb.size
        clear hb
        have hKA := HP.out k
        have hKU := HU.out k
        rw [hb1] at hKA
        rw [hb2] at hKU
        have hab : b2 = true → b1 = true := fun h => by subst h; rw [← hb1]; simp at hb2 ⊢; omega
        have CK := Lib.hid (fun W => kinds_ok ⟨100, 100, 1, 1, 0, 0, 0, 0, 0, 0⟩ tl th W ⟨by decide, by decide, by decide, by decide, by decide, by decide⟩ (by simp [rgB, inB]; omega))
        simp only [cRu] at CK
        obtain ⟨m, z0, z1, hm, hm2, hz0', hz1', hc1, hc3⟩ := ki_facts ti4
        clear hkl hb1 hb2
        generalize kiL 100 100 tl th = ks at *
        obtain ⟨r1, hr1⟩ : ∃ q, decide (po k < 0) = q := ⟨_, rfl⟩
        obtain ⟨r2, hr2⟩ : ∃ q, decide (su k < 0) = q := ⟨_, rfl⟩
        cases b1
        · cases b2
          · clear hab
            as_aux_lemma =>
              have ep : po (k + 1) = po k := hKA.1 rfl
              have es : su (k + 1) = su k := hKU.1 rfl
              clear hKA hKU
              go_wp2_with fail
              refine (CK.out _).mono ?_
              rintro e Wk ⟨vk, rfl, hvk, hb⟩
              replace hb := below1 hb
              replace T0 := cell_next hb nT T0
              replace T1 := cell_next hb nT T1
              replace nT := Nat.lt_of_lt_of_le nT hb.size
              replace HO4 := Lib.hid (own_below HO4.out hb)
              replace HS1 := Lib.hid (HS1.out.below hb)
              replace hBc := hBc.trans (hb.mono (by omega))
              replace hbr : bw < Wk.heap.size := Nat.lt_of_lt_of_le hbr hb.size
              clear hb CK
              obtain ⟨AK, cK, rfl, hK⟩ := hvk
              rw [hm] at hK ⊢
              obtain ⟨gK, oK, rfl, hgK, hKc⟩ := hK (by omega)
              have K0 := hKc 0 z0 hz0'
              have K1 := hKc m z1 hz1'
              rw [Nat.add_zero] at K0
              clear hKc hK hm hz0' hz1'
              obtain ⟨R0, R1, R2, R3⟩ := HR4.out
              replace R0 := cell_next hBc nR R0
              replace R1 := cell_next hBc nR R1
              replace R2 := cell_next hBc nR R2
              replace R3 := cell_next hBc nR R3
              have CNew := new_st1 1000 (by decide)
              go_wp2_with fail
              refine (CNew _ _ _ ((HT.out.below (hBc.trans ((Below.refl c Wk).alloc (by omega) _)) (Nat.le_refl _)).mono (by simp; omega)) ((ns_one (by simp [go_sem])).mono (by simp))).mono ?_
              rintro e Wn ⟨c2, tk2, cap2, vb2, gv2, rfl, hF2, hwc2, hS2, hbn⟩
              have hX : Below Wk.heap.size Wk Wn := below1 hbn
              simp at hwc2
              have CP := Lib.hid (pour_one hF2 hS2 (by omega) 0 0 (by omega))
              clear CNew hbn hS2 R0 R1 R2 R3
              have tt1 : decide (((m + 1 : Nat) : Int) < 1) = false := by simp; omega
              go_wp2_with fail
              refine CP.out.mono ?_
              rintro e Wp ⟨rfl, V2, hS3, _, hbp⟩
              replace hX := hX.trans (hbp.mono (by omega))
              clear hbp CP
              have U0 := cell_next hX nT T0
              have U1 := cell_next hX nT T1
              have CS := Lib.hid (stay_one hF2 hS3 tl th gl gh ⟨ti1, ti4, ti5⟩ hgR (by omega) (by omega) (by omega))
              clear hS3
              go_wp2_with fail
              refine CS.out.mono ?_
              rintro e Wq ⟨rfl, fl2, fh2, hf2, hS4, _, hbq⟩
              replace hX := hX.trans (hbq.mono (by omega))
              clear hbq CS U0 U1
              rw [show min 1000000 ((0 : Int) + 1 * gl) = gl from by omega, show min 1000000 ((0 : Int) + 1 * gh) = gh from by omega] at hS4
              have CT := Lib.hid (tell_one hS4 (by omega) (by omega) (show decide (1000 ≤ gh) = false by simp; omega) (show decide (1000 ≤ gl) = false by simp; omega))
              clear hS4
              go_wp2_with fail
              refine CT.out.mono ?_
              rintro e Wt ⟨rfl, hb⟩
              replace hX := hX.trans (hb.mono (by have := hX.size; omega))
              clear hb CT hf2
              replace K0 := cell_next hX hgK K0
              replace K1 := cell_next hX hgK K1
              replace hgK := Nat.lt_of_lt_of_le hgK hX.size
              replace HO4 := Lib.hid (own_below HO4.out hX)
              replace HS1 := Lib.hid (HS1.out.below hX)
              replace hBc := hBc.trans (hX.mono (by omega))
              replace hbr : bw < Wt.heap.size := Nat.lt_of_lt_of_le hbr hX.size
              clear hX T0 T1 nT
              have wm : IntKind.i64.wrap (((m + 1 : Nat) : Int) - 1) = (m : Int) := by rw [show ((m + 1 : Nat) : Int) - 1 = (m : Int) from by omega]; exact IntWalk.i64_in _ (by omega)
              have mm0 : (0 : Int) ≤ (m : Int) := by omega
              have mm1 : (m : Int) < ((m + 1 : Nat) : Int) := by omega
              have HS2 : Hid (∃ fl fh, ((0 ≤ fl ∧ fl ≤ 1000000) ∧ 0 ≤ fh ∧ fh ≤ 1000000) ∧ St1 1000 c tk cap vb base ((k + 1 : Nat) : Int) 970 30 fl fh gv VP [⟨970, 30, ka (k + 1), kb (k + 1), 0⟩] Wt) := Lib.hid ⟨fl1, fh1, hf1, by rw [hN2]; exact HS1.out⟩
              clear HS1 hf1
              obtain ⟨o1, ho1⟩ : ∃ q, (z1 == 1) = q := ⟨_, rfl⟩
              obtain ⟨o0, ho0⟩ : ∃ q, (z0 == 3) = q := ⟨_, rfl⟩
              have d1 : o1 = true → decide ((50 : Int) < gh) = false := fun h => by subst h; simp at ho1; have := hg4 (hc1 ho1); simp; omega
              have d0 : o0 = true → decide (gl < 50) = false := fun h => by subst h; simp at ho0; have := hg5 (hc3 ho0); simp; omega
              have ho1' : decide (z1 = 1) = o1 := by rw [← ho1]; rfl
              have ho0' : decide (z0 = 3) = o0 := by rw [← ho0]; rfl
              clear hc1 hc3
              cases o1 <;> cases o0
              all_goals
                try (have dd1 := d1 rfl)
                try (have dd0 := d0 rfl)
                clear d1 d0
                go_wp2_with fail
                go_roundw
                case rel => exact ⟨k + 1, by omega, by rw [hN2], by rw [ep], by rw [es], Lib.hid (own_below HO4.out ((Below.refl _ _).alloc (Nat.le_refl _) _)), Lib.hid (by obtain ⟨a1, a2, a3, a4⟩ := HS2.out; exact ⟨a1, a2, a3, a4.below ((Below.refl _ _).alloc (Nat.le_refl _) _)⟩), by simp; omega, hBc.trans ((Below.refl c Wt).alloc (by omega) _)⟩
                case measure => simp [RowKit.intOf]; omega
          · cases r2
            · exact absurd (hab rfl) (by decide)
            · exact absurd (hab rfl) (by decide)
        · cases r1
          · cases b2
            · clear hab
              as_aux_lemma =>
                have ep : po (k + 1) = po k := hKA.2.2 (by simp at hr1; omega)
                have es : su (k + 1) = su k := hKU.1 rfl
                clear hKA hKU
                go_wp2_with fail
                refine (CK.out _).mono ?_
                rintro e Wk ⟨vk, rfl, hvk, hb⟩
                replace hb := below1 hb
                replace T0 := cell_next hb nT T0
                replace T1 := cell_next hb nT T1
                replace nT := Nat.lt_of_lt_of_le nT hb.size
                replace HO4 := Lib.hid (own_below HO4.out hb)
                replace HS1 := Lib.hid (HS1.out.below hb)
                replace hBc := hBc.trans (hb.mono (by omega))
                replace hbr : bw < Wk.heap.size := Nat.lt_of_lt_of_le hbr hb.size
                clear hb CK
                obtain ⟨AK, cK, rfl, hK⟩ := hvk
                rw [hm] at hK ⊢
                obtain ⟨gK, oK, rfl, hgK, hKc⟩ := hK (by omega)
                have K0 := hKc 0 z0 hz0'
                have K1 := hKc m z1 hz1'
                rw [Nat.add_zero] at K0
                clear hKc hK hm hz0' hz1'
                obtain ⟨R0, R1, R2, R3⟩ := HR4.out
                replace R0 := cell_next hBc nR R0
                replace R1 := cell_next hBc nR R1
                replace R2 := cell_next hBc nR R2
                replace R3 := cell_next hBc nR R3
                have CNew := new_st1 1000 (by decide)
                go_wp2_with fail
                refine (CNew _ _ _ ((HT.out.below (hBc.trans ((Below.refl c Wk).alloc (by omega) _)) (Nat.le_refl _)).mono (by simp; omega)) ((ns_one (by simp [go_sem])).mono (by simp))).mono ?_
                rintro e Wn ⟨c2, tk2, cap2, vb2, gv2, rfl, hF2, hwc2, hS2, hbn⟩
                have hX : Below Wk.heap.size Wk Wn := below1 hbn
                simp at hwc2
                have CP := Lib.hid (pour_one hF2 hS2 (by omega) 0 0 (by omega))
                clear CNew hbn hS2 R0 R1 R2 R3
                have tt1 : decide (((m + 1 : Nat) : Int) < 1) = false := by simp; omega
                go_wp2_with fail
                refine CP.out.mono ?_
                rintro e Wp ⟨rfl, V2, hS3, _, hbp⟩
                replace hX := hX.trans (hbp.mono (by omega))
                clear hbp CP
                have U0 := cell_next hX nT T0
                have U1 := cell_next hX nT T1
                have CS := Lib.hid (stay_one hF2 hS3 tl th gl gh ⟨ti1, ti4, ti5⟩ hgR (by omega) (by omega) (by omega))
                clear hS3
                go_wp2_with fail
                refine CS.out.mono ?_
                rintro e Wq ⟨rfl, fl2, fh2, hf2, hS4, _, hbq⟩
                replace hX := hX.trans (hbq.mono (by omega))
                clear hbq CS U0 U1
                rw [show min 1000000 ((0 : Int) + 1 * gl) = gl from by omega, show min 1000000 ((0 : Int) + 1 * gh) = gh from by omega] at hS4
                have CT := Lib.hid (tell_one hS4 (by omega) (by omega) (show decide (1000 ≤ gh) = false by simp; omega) (show decide (1000 ≤ gl) = false by simp; omega))
                clear hS4
                go_wp2_with fail
                refine CT.out.mono ?_
                rintro e Wt ⟨rfl, hb⟩
                replace hX := hX.trans (hb.mono (by have := hX.size; omega))
                clear hb CT hf2
                replace K0 := cell_next hX hgK K0
                replace K1 := cell_next hX hgK K1
                replace hgK := Nat.lt_of_lt_of_le hgK hX.size
                replace HO4 := Lib.hid (own_below HO4.out hX)
                replace HS1 := Lib.hid (HS1.out.below hX)
                replace hBc := hBc.trans (hX.mono (by omega))
                replace hbr : bw < Wt.heap.size := Nat.lt_of_lt_of_le hbr hX.size
                clear hX T0 T1 nT
                have wm : IntKind.i64.wrap (((m + 1 : Nat) : Int) - 1) = (m : Int) := by rw [show ((m + 1 : Nat) : Int) - 1 = (m : Int) from by omega]; exact IntWalk.i64_in _ (by omega)
                have mm0 : (0 : Int) ≤ (m : Int) := by omega
                have mm1 : (m : Int) < ((m + 1 : Nat) : Int) := by omega
                have HS2 : Hid (∃ fl fh, ((0 ≤ fl ∧ fl ≤ 1000000) ∧ 0 ≤ fh ∧ fh ≤ 1000000) ∧ St1 1000 c tk cap vb base ((k + 1 : Nat) : Int) 970 30 fl fh gv VP [⟨970, 30, ka (k + 1), kb (k + 1), 0⟩] Wt) := Lib.hid ⟨fl1, fh1, hf1, by rw [hN2]; exact HS1.out⟩
                clear HS1 hf1
                obtain ⟨o1, ho1⟩ : ∃ q, (z1 == 1) = q := ⟨_, rfl⟩
                obtain ⟨o0, ho0⟩ : ∃ q, (z0 == 3) = q := ⟨_, rfl⟩
                have d1 : o1 = true → decide ((50 : Int) < gh) = false := fun h => by subst h; simp at ho1; have := hg4 (hc1 ho1); simp; omega
                have d0 : o0 = true → decide (gl < 50) = false := fun h => by subst h; simp at ho0; have := hg5 (hc3 ho0); simp; omega
                have ho1' : decide (z1 = 1) = o1 := by rw [← ho1]; rfl
                have ho0' : decide (z0 = 3) = o0 := by rw [← ho0]; rfl
                clear hc1 hc3
                cases o1 <;> cases o0
                all_goals
                  try (have dd1 := d1 rfl)
                  try (have dd0 := d0 rfl)
                  clear d1 d0
                  go_wp2_with fail
                  go_roundw
                  case rel => exact ⟨k + 1, by omega, by rw [hN2], by rw [ep], by rw [es], Lib.hid (own_below HO4.out ((Below.refl _ _).alloc (Nat.le_refl _) _)), Lib.hid (by obtain ⟨a1, a2, a3, a4⟩ := HS2.out; exact ⟨a1, a2, a3, a4.below ((Below.refl _ _).alloc (Nat.le_refl _) _)⟩), by simp; omega, hBc.trans ((Below.refl c Wt).alloc (by omega) _)⟩
                  case measure => simp [RowKit.intOf]; omega
            · cases r2
              · clear hab
                as_aux_lemma =>
                  have ep : po (k + 1) = po k := hKA.2.2 (by simp at hr1; omega)
                  have es : su (k + 1) = su k := hKU.2.2 (by simp at hr2; omega)
                  clear hKA hKU
                  go_wp2_with fail
                  refine (CK.out _).mono ?_
                  rintro e Wk ⟨vk, rfl, hvk, hb⟩
                  replace hb := below1 hb
                  replace T0 := cell_next hb nT T0
                  replace T1 := cell_next hb nT T1
                  replace nT := Nat.lt_of_lt_of_le nT hb.size
                  replace HO4 := Lib.hid (own_below HO4.out hb)
                  replace HS1 := Lib.hid (HS1.out.below hb)
                  replace hBc := hBc.trans (hb.mono (by omega))
                  replace hbr : bw < Wk.heap.size := Nat.lt_of_lt_of_le hbr hb.size
                  clear hb CK
                  obtain ⟨AK, cK, rfl, hK⟩ := hvk
                  rw [hm] at hK ⊢
                  obtain ⟨gK, oK, rfl, hgK, hKc⟩ := hK (by omega)
                  have K0 := hKc 0 z0 hz0'
                  have K1 := hKc m z1 hz1'
                  rw [Nat.add_zero] at K0
                  clear hKc hK hm hz0' hz1'
                  obtain ⟨R0, R1, R2, R3⟩ := HR4.out
                  replace R0 := cell_next hBc nR R0
                  replace R1 := cell_next hBc nR R1
                  replace R2 := cell_next hBc nR R2
                  replace R3 := cell_next hBc nR R3
                  have CNew := new_st1 1000 (by decide)
                  go_wp2_with fail
                  refine (CNew _ _ _ ((HT.out.below (hBc.trans ((Below.refl c Wk).alloc (by omega) _)) (Nat.le_refl _)).mono (by simp; omega)) ((ns_one (by simp [go_sem])).mono (by simp))).mono ?_
                  rintro e Wn ⟨c2, tk2, cap2, vb2, gv2, rfl, hF2, hwc2, hS2, hbn⟩
                  have hX : Below Wk.heap.size Wk Wn := below1 hbn
                  simp at hwc2
                  have CP := Lib.hid (pour_one hF2 hS2 (by omega) 0 0 (by omega))
                  clear CNew hbn hS2 R0 R1 R2 R3
                  have tt1 : decide (((m + 1 : Nat) : Int) < 1) = false := by simp; omega
                  go_wp2_with fail
                  refine CP.out.mono ?_
                  rintro e Wp ⟨rfl, V2, hS3, _, hbp⟩
                  replace hX := hX.trans (hbp.mono (by omega))
                  clear hbp CP
                  have U0 := cell_next hX nT T0
                  have U1 := cell_next hX nT T1
                  have CS := Lib.hid (stay_one hF2 hS3 tl th gl gh ⟨ti1, ti4, ti5⟩ hgR (by omega) (by omega) (by omega))
                  clear hS3
                  go_wp2_with fail
                  refine CS.out.mono ?_
                  rintro e Wq ⟨rfl, fl2, fh2, hf2, hS4, _, hbq⟩
                  replace hX := hX.trans (hbq.mono (by omega))
                  clear hbq CS U0 U1
                  rw [show min 1000000 ((0 : Int) + 1 * gl) = gl from by omega, show min 1000000 ((0 : Int) + 1 * gh) = gh from by omega] at hS4
                  have CT := Lib.hid (tell_one hS4 (by omega) (by omega) (show decide (1000 ≤ gh) = false by simp; omega) (show decide (1000 ≤ gl) = false by simp; omega))
                  clear hS4
                  go_wp2_with fail
                  refine CT.out.mono ?_
                  rintro e Wt ⟨rfl, hb⟩
                  replace hX := hX.trans (hb.mono (by have := hX.size; omega))
                  clear hb CT hf2
                  replace K0 := cell_next hX hgK K0
                  replace K1 := cell_next hX hgK K1
                  replace hgK := Nat.lt_of_lt_of_le hgK hX.size
                  replace HO4 := Lib.hid (own_below HO4.out hX)
                  replace HS1 := Lib.hid (HS1.out.below hX)
                  replace hBc := hBc.trans (hX.mono (by omega))
                  replace hbr : bw < Wt.heap.size := Nat.lt_of_lt_of_le hbr hX.size
                  clear hX T0 T1 nT
                  have wm : IntKind.i64.wrap (((m + 1 : Nat) : Int) - 1) = (m : Int) := by rw [show ((m + 1 : Nat) : Int) - 1 = (m : Int) from by omega]; exact IntWalk.i64_in _ (by omega)
                  have mm0 : (0 : Int) ≤ (m : Int) := by omega
                  have mm1 : (m : Int) < ((m + 1 : Nat) : Int) := by omega
                  have HS2 : Hid (∃ fl fh, ((0 ≤ fl ∧ fl ≤ 1000000) ∧ 0 ≤ fh ∧ fh ≤ 1000000) ∧ St1 1000 c tk cap vb base ((k + 1 : Nat) : Int) 970 30 fl fh gv VP [⟨970, 30, ka (k + 1), kb (k + 1), 0⟩] Wt) := Lib.hid ⟨fl1, fh1, hf1, by rw [hN2]; exact HS1.out⟩
                  clear HS1 hf1
                  obtain ⟨o1, ho1⟩ : ∃ q, (z1 == 1) = q := ⟨_, rfl⟩
                  obtain ⟨o0, ho0⟩ : ∃ q, (z0 == 3) = q := ⟨_, rfl⟩
                  have d1 : o1 = true → decide ((50 : Int) < gh) = false := fun h => by subst h; simp at ho1; have := hg4 (hc1 ho1); simp; omega
                  have d0 : o0 = true → decide (gl < 50) = false := fun h => by subst h; simp at ho0; have := hg5 (hc3 ho0); simp; omega
                  have ho1' : decide (z1 = 1) = o1 := by rw [← ho1]; rfl
                  have ho0' : decide (z0 = 3) = o0 := by rw [← ho0]; rfl
                  clear hc1 hc3
                  cases o1 <;> cases o0
                  all_goals
                    try (have dd1 := d1 rfl)
                    try (have dd0 := d0 rfl)
                    clear d1 d0
                    go_wp2_with fail
                    go_roundw
                    case rel => exact ⟨k + 1, by omega, by rw [hN2], by rw [ep], by rw [es], Lib.hid (own_below HO4.out ((Below.refl _ _).alloc (Nat.le_refl _) _)), Lib.hid (by obtain ⟨a1, a2, a3, a4⟩ := HS2.out; exact ⟨a1, a2, a3, a4.below ((Below.refl _ _).alloc (Nat.le_refl _) _)⟩), by simp; omega, hBc.trans ((Below.refl c Wt).alloc (by omega) _)⟩
                    case measure => simp [RowKit.intOf]; omega
              · clear hab
                as_aux_lemma =>
                  have ep : po (k + 1) = po k := hKA.2.2 (by simp at hr1; omega)
                  have es : su (k + 1) = (k : Int) := hKU.2.1 (by simpa using hr2) rfl
                  clear hKA hKU
                  go_wp2_with fail
                  refine (CK.out _).mono ?_
                  rintro e Wk ⟨vk, rfl, hvk, hb⟩
                  replace hb := below1 hb
                  replace T0 := cell_next hb nT T0
                  replace T1 := cell_next hb nT T1
                  replace nT := Nat.lt_of_lt_of_le nT hb.size
                  replace HO4 := Lib.hid (own_below HO4.out hb)
                  replace HS1 := Lib.hid (HS1.out.below hb)
                  replace hBc := hBc.trans (hb.mono (by omega))
                  replace hbr : bw < Wk.heap.size := Nat.lt_of_lt_of_le hbr hb.size
                  clear hb CK
                  obtain ⟨AK, cK, rfl, hK⟩ := hvk
                  rw [hm] at hK ⊢
                  obtain ⟨gK, oK, rfl, hgK, hKc⟩ := hK (by omega)
                  have K0 := hKc 0 z0 hz0'
                  have K1 := hKc m z1 hz1'
                  rw [Nat.add_zero] at K0
                  clear hKc hK hm hz0' hz1'
                  obtain ⟨R0, R1, R2, R3⟩ := HR4.out
                  replace R0 := cell_next hBc nR R0
                  replace R1 := cell_next hBc nR R1
                  replace R2 := cell_next hBc nR R2
                  replace R3 := cell_next hBc nR R3
                  have CNew := new_st1 1000 (by decide)
                  go_wp2_with fail
                  refine (CNew _ _ _ ((HT.out.below (hBc.trans ((Below.refl c Wk).alloc (by omega) _)) (Nat.le_refl _)).mono (by simp; omega)) ((ns_one (by simp [go_sem])).mono (by simp))).mono ?_
                  rintro e Wn ⟨c2, tk2, cap2, vb2, gv2, rfl, hF2, hwc2, hS2, hbn⟩
                  have hX : Below Wk.heap.size Wk Wn := below1 hbn
                  simp at hwc2
                  have CP := Lib.hid (pour_one hF2 hS2 (by omega) 0 0 (by omega))
                  clear CNew hbn hS2 R0 R1 R2 R3
                  have tt1 : decide (((m + 1 : Nat) : Int) < 1) = false := by simp; omega
                  go_wp2_with fail
                  refine CP.out.mono ?_
                  rintro e Wp ⟨rfl, V2, hS3, _, hbp⟩
                  replace hX := hX.trans (hbp.mono (by omega))
                  clear hbp CP
                  have U0 := cell_next hX nT T0
                  have U1 := cell_next hX nT T1
                  have CS := Lib.hid (stay_one hF2 hS3 tl th gl gh ⟨ti1, ti4, ti5⟩ hgR (by omega) (by omega) (by omega))
                  clear hS3
                  go_wp2_with fail
                  refine CS.out.mono ?_
                  rintro e Wq ⟨rfl, fl2, fh2, hf2, hS4, _, hbq⟩
                  replace hX := hX.trans (hbq.mono (by omega))
                  clear hbq CS U0 U1
                  rw [show min 1000000 ((0 : Int) + 1 * gl) = gl from by omega, show min 1000000 ((0 : Int) + 1 * gh) = gh from by omega] at hS4
                  have CT := Lib.hid (tell_one hS4 (by omega) (by omega) (show decide (1000 ≤ gh) = false by simp; omega) (show decide (1000 ≤ gl) = false by simp; omega))
                  clear hS4
                  go_wp2_with fail
                  refine CT.out.mono ?_
                  rintro e Wt ⟨rfl, hb⟩
                  replace hX := hX.trans (hb.mono (by have := hX.size; omega))
                  clear hb CT hf2
                  replace K0 := cell_next hX hgK K0
                  replace K1 := cell_next hX hgK K1
                  replace hgK := Nat.lt_of_lt_of_le hgK hX.size
                  replace HO4 := Lib.hid (own_below HO4.out hX)
                  replace HS1 := Lib.hid (HS1.out.below hX)
                  replace hBc := hBc.trans (hX.mono (by omega))
                  replace hbr : bw < Wt.heap.size := Nat.lt_of_lt_of_le hbr hX.size
                  clear hX T0 T1 nT
                  have wm : IntKind.i64.wrap (((m + 1 : Nat) : Int) - 1) = (m : Int) := by rw [show ((m + 1 : Nat) : Int) - 1 = (m : Int) from by omega]; exact IntWalk.i64_in _ (by omega)
                  have mm0 : (0 : Int) ≤ (m : Int) := by omega
                  have mm1 : (m : Int) < ((m + 1 : Nat) : Int) := by omega
                  have HS2 : Hid (∃ fl fh, ((0 ≤ fl ∧ fl ≤ 1000000) ∧ 0 ≤ fh ∧ fh ≤ 1000000) ∧ St1 1000 c tk cap vb base ((k + 1 : Nat) : Int) 970 30 fl fh gv VP [⟨970, 30, ka (k + 1), kb (k + 1), 0⟩] Wt) := Lib.hid ⟨fl1, fh1, hf1, by rw [hN2]; exact HS1.out⟩
                  clear HS1 hf1
                  obtain ⟨o1, ho1⟩ : ∃ q, (z1 == 1) = q := ⟨_, rfl⟩
                  obtain ⟨o0, ho0⟩ : ∃ q, (z0 == 3) = q := ⟨_, rfl⟩
                  have d1 : o1 = true → decide ((50 : Int) < gh) = false := fun h => by subst h; simp at ho1; have := hg4 (hc1 ho1); simp; omega
                  have d0 : o0 = true → decide (gl < 50) = false := fun h => by subst h; simp at ho0; have := hg5 (hc3 ho0); simp; omega
                  have ho1' : decide (z1 = 1) = o1 := by rw [← ho1]; rfl
                  have ho0' : decide (z0 = 3) = o0 := by rw [← ho0]; rfl
                  clear hc1 hc3
                  cases o1 <;> cases o0
                  all_goals
                    try (have dd1 := d1 rfl)
                    try (have dd0 := d0 rfl)
                    clear d1 d0
                    go_wp2_with fail
                    go_roundw
                    case rel => exact ⟨k + 1, by omega, by rw [hN2], by rw [ep], by rw [es], Lib.hid (own_below HO4.out ((Below.refl _ _).alloc (Nat.le_refl _) _)), Lib.hid (by obtain ⟨a1, a2, a3, a4⟩ := HS2.out; exact ⟨a1, a2, a3, a4.below ((Below.refl _ _).alloc (Nat.le_refl _) _)⟩), by simp; omega, hBc.trans ((Below.refl c Wt).alloc (by omega) _)⟩
                    case measure => simp [RowKit.intOf]; omega
          · cases b2
            · clear hab
              as_aux_lemma =>
                have ep : po (k + 1) = (k : Int) := hKA.2.1 (by simpa using hr1) rfl
                have es : su (k + 1) = su k := hKU.1 rfl
                clear hKA hKU
                go_wp2_with fail
                refine (CK.out _).mono ?_
                rintro e Wk ⟨vk, rfl, hvk, hb⟩
                replace hb := below1 hb
                replace T0 := cell_next hb nT T0
                replace T1 := cell_next hb nT T1
                replace nT := Nat.lt_of_lt_of_le nT hb.size
                replace HO4 := Lib.hid (own_below HO4.out hb)
                replace HS1 := Lib.hid (HS1.out.below hb)
                replace hBc := hBc.trans (hb.mono (by omega))
                replace hbr : bw < Wk.heap.size := Nat.lt_of_lt_of_le hbr hb.size
                clear hb CK
                obtain ⟨AK, cK, rfl, hK⟩ := hvk
                rw [hm] at hK ⊢
                obtain ⟨gK, oK, rfl, hgK, hKc⟩ := hK (by omega)
                have K0 := hKc 0 z0 hz0'
                have K1 := hKc m z1 hz1'
                rw [Nat.add_zero] at K0
                clear hKc hK hm hz0' hz1'
                obtain ⟨R0, R1, R2, R3⟩ := HR4.out
                replace R0 := cell_next hBc nR R0
                replace R1 := cell_next hBc nR R1
                replace R2 := cell_next hBc nR R2
                replace R3 := cell_next hBc nR R3
                have CNew := new_st1 1000 (by decide)
                go_wp2_with fail
                refine (CNew _ _ _ ((HT.out.below (hBc.trans ((Below.refl c Wk).alloc (by omega) _)) (Nat.le_refl _)).mono (by simp; omega)) ((ns_one (by simp [go_sem])).mono (by simp))).mono ?_
                rintro e Wn ⟨c2, tk2, cap2, vb2, gv2, rfl, hF2, hwc2, hS2, hbn⟩
                have hX : Below Wk.heap.size Wk Wn := below1 hbn
                simp at hwc2
                have CP := Lib.hid (pour_one hF2 hS2 (by omega) 0 0 (by omega))
                clear CNew hbn hS2 R0 R1 R2 R3
                have tt1 : decide (((m + 1 : Nat) : Int) < 1) = false := by simp; omega
                go_wp2_with fail
                refine CP.out.mono ?_
                rintro e Wp ⟨rfl, V2, hS3, _, hbp⟩
                replace hX := hX.trans (hbp.mono (by omega))
                clear hbp CP
                have U0 := cell_next hX nT T0
                have U1 := cell_next hX nT T1
                have CS := Lib.hid (stay_one hF2 hS3 tl th gl gh ⟨ti1, ti4, ti5⟩ hgR (by omega) (by omega) (by omega))
                clear hS3
                go_wp2_with fail
                refine CS.out.mono ?_
                rintro e Wq ⟨rfl, fl2, fh2, hf2, hS4, _, hbq⟩
                replace hX := hX.trans (hbq.mono (by omega))
                clear hbq CS U0 U1
                rw [show min 1000000 ((0 : Int) + 1 * gl) = gl from by omega, show min 1000000 ((0 : Int) + 1 * gh) = gh from by omega] at hS4
                have CT := Lib.hid (tell_one hS4 (by omega) (by omega) (show decide (1000 ≤ gh) = false by simp; omega) (show decide (1000 ≤ gl) = false by simp; omega))
                clear hS4
                go_wp2_with fail
                refine CT.out.mono ?_
                rintro e Wt ⟨rfl, hb⟩
                replace hX := hX.trans (hb.mono (by have := hX.size; omega))
                clear hb CT hf2
                replace K0 := cell_next hX hgK K0
                replace K1 := cell_next hX hgK K1
                replace hgK := Nat.lt_of_lt_of_le hgK hX.size
                replace HO4 := Lib.hid (own_below HO4.out hX)
                replace HS1 := Lib.hid (HS1.out.below hX)
                replace hBc := hBc.trans (hX.mono (by omega))
                replace hbr : bw < Wt.heap.size := Nat.lt_of_lt_of_le hbr hX.size
                clear hX T0 T1 nT
                have wm : IntKind.i64.wrap (((m + 1 : Nat) : Int) - 1) = (m : Int) := by rw [show ((m + 1 : Nat) : Int) - 1 = (m : Int) from by omega]; exact IntWalk.i64_in _ (by omega)
                have mm0 : (0 : Int) ≤ (m : Int) := by omega
                have mm1 : (m : Int) < ((m + 1 : Nat) : Int) := by omega
                have HS2 : Hid (∃ fl fh, ((0 ≤ fl ∧ fl ≤ 1000000) ∧ 0 ≤ fh ∧ fh ≤ 1000000) ∧ St1 1000 c tk cap vb base ((k + 1 : Nat) : Int) 970 30 fl fh gv VP [⟨970, 30, ka (k + 1), kb (k + 1), 0⟩] Wt) := Lib.hid ⟨fl1, fh1, hf1, by rw [hN2]; exact HS1.out⟩
                clear HS1 hf1
                obtain ⟨o1, ho1⟩ : ∃ q, (z1 == 1) = q := ⟨_, rfl⟩
                obtain ⟨o0, ho0⟩ : ∃ q, (z0 == 3) = q := ⟨_, rfl⟩
                have d1 : o1 = true → decide ((50 : Int) < gh) = false := fun h => by subst h; simp at ho1; have := hg4 (hc1 ho1); simp; omega
                have d0 : o0 = true → decide (gl < 50) = false := fun h => by subst h; simp at ho0; have := hg5 (hc3 ho0); simp; omega
                have ho1' : decide (z1 = 1) = o1 := by rw [← ho1]; rfl
                have ho0' : decide (z0 = 3) = o0 := by rw [← ho0]; rfl
                clear hc1 hc3
                cases o1 <;> cases o0
                all_goals
                  try (have dd1 := d1 rfl)
                  try (have dd0 := d0 rfl)
                  clear d1 d0
                  go_wp2_with fail
                  go_roundw
                  case rel => exact ⟨k + 1, by omega, by rw [hN2], by rw [ep], by rw [es], Lib.hid (own_below HO4.out ((Below.refl _ _).alloc (Nat.le_refl _) _)), Lib.hid (by obtain ⟨a1, a2, a3, a4⟩ := HS2.out; exact ⟨a1, a2, a3, a4.below ((Below.refl _ _).alloc (Nat.le_refl _) _)⟩), by simp; omega, hBc.trans ((Below.refl c Wt).alloc (by omega) _)⟩
                  case measure => simp [RowKit.intOf]; omega
            · cases r2
              · clear hab
                as_aux_lemma =>
                  have ep : po (k + 1) = (k : Int) := hKA.2.1 (by simpa using hr1) rfl
                  have es : su (k + 1) = su k := hKU.2.2 (by simp at hr2; omega)
                  clear hKA hKU
                  go_wp2_with fail
                  refine (CK.out _).mono ?_
                  rintro e Wk ⟨vk, rfl, hvk, hb⟩
                  replace hb := below1 hb
                  replace T0 := cell_next hb nT T0
                  replace T1 := cell_next hb nT T1
                  replace nT := Nat.lt_of_lt_of_le nT hb.size
                  replace HO4 := Lib.hid (own_below HO4.out hb)
                  replace HS1 := Lib.hid (HS1.out.below hb)
                  replace hBc := hBc.trans (hb.mono (by omega))
                  replace hbr : bw < Wk.heap.size := Nat.lt_of_lt_of_le hbr hb.size
                  clear hb CK
                  obtain ⟨AK, cK, rfl, hK⟩ := hvk
                  rw [hm] at hK ⊢
                  obtain ⟨gK, oK, rfl, hgK, hKc⟩ := hK (by omega)
                  have K0 := hKc 0 z0 hz0'
                  have K1 := hKc m z1 hz1'
                  rw [Nat.add_zero] at K0
                  clear hKc hK hm hz0' hz1'
                  obtain ⟨R0, R1, R2, R3⟩ := HR4.out
                  replace R0 := cell_next hBc nR R0
                  replace R1 := cell_next hBc nR R1
                  replace R2 := cell_next hBc nR R2
                  replace R3 := cell_next hBc nR R3
                  have CNew := new_st1 1000 (by decide)
                  go_wp2_with fail
                  refine (CNew _ _ _ ((HT.out.below (hBc.trans ((Below.refl c Wk).alloc (by omega) _)) (Nat.le_refl _)).mono (by simp; omega)) ((ns_one (by simp [go_sem])).mono (by simp))).mono ?_
                  rintro e Wn ⟨c2, tk2, cap2, vb2, gv2, rfl, hF2, hwc2, hS2, hbn⟩
                  have hX : Below Wk.heap.size Wk Wn := below1 hbn
                  simp at hwc2
                  have CP := Lib.hid (pour_one hF2 hS2 (by omega) 0 0 (by omega))
                  clear CNew hbn hS2 R0 R1 R2 R3
                  have tt1 : decide (((m + 1 : Nat) : Int) < 1) = false := by simp; omega
                  go_wp2_with fail
                  refine CP.out.mono ?_
                  rintro e Wp ⟨rfl, V2, hS3, _, hbp⟩
                  replace hX := hX.trans (hbp.mono (by omega))
                  clear hbp CP
                  have U0 := cell_next hX nT T0
                  have U1 := cell_next hX nT T1
                  have CS := Lib.hid (stay_one hF2 hS3 tl th gl gh ⟨ti1, ti4, ti5⟩ hgR (by omega) (by omega) (by omega))
                  clear hS3
                  go_wp2_with fail
                  refine CS.out.mono ?_
                  rintro e Wq ⟨rfl, fl2, fh2, hf2, hS4, _, hbq⟩
                  replace hX := hX.trans (hbq.mono (by omega))
                  clear hbq CS U0 U1
                  rw [show min 1000000 ((0 : Int) + 1 * gl) = gl from by omega, show min 1000000 ((0 : Int) + 1 * gh) = gh from by omega] at hS4
                  have CT := Lib.hid (tell_one hS4 (by omega) (by omega) (show decide (1000 ≤ gh) = false by simp; omega) (show decide (1000 ≤ gl) = false by simp; omega))
                  clear hS4
                  go_wp2_with fail
                  refine CT.out.mono ?_
                  rintro e Wt ⟨rfl, hb⟩
                  replace hX := hX.trans (hb.mono (by have := hX.size; omega))
                  clear hb CT hf2
                  replace K0 := cell_next hX hgK K0
                  replace K1 := cell_next hX hgK K1
                  replace hgK := Nat.lt_of_lt_of_le hgK hX.size
                  replace HO4 := Lib.hid (own_below HO4.out hX)
                  replace HS1 := Lib.hid (HS1.out.below hX)
                  replace hBc := hBc.trans (hX.mono (by omega))
                  replace hbr : bw < Wt.heap.size := Nat.lt_of_lt_of_le hbr hX.size
                  clear hX T0 T1 nT
                  have wm : IntKind.i64.wrap (((m + 1 : Nat) : Int) - 1) = (m : Int) := by rw [show ((m + 1 : Nat) : Int) - 1 = (m : Int) from by omega]; exact IntWalk.i64_in _ (by omega)
                  have mm0 : (0 : Int) ≤ (m : Int) := by omega
                  have mm1 : (m : Int) < ((m + 1 : Nat) : Int) := by omega
                  have HS2 : Hid (∃ fl fh, ((0 ≤ fl ∧ fl ≤ 1000000) ∧ 0 ≤ fh ∧ fh ≤ 1000000) ∧ St1 1000 c tk cap vb base ((k + 1 : Nat) : Int) 970 30 fl fh gv VP [⟨970, 30, ka (k + 1), kb (k + 1), 0⟩] Wt) := Lib.hid ⟨fl1, fh1, hf1, by rw [hN2]; exact HS1.out⟩
                  clear HS1 hf1
                  obtain ⟨o1, ho1⟩ : ∃ q, (z1 == 1) = q := ⟨_, rfl⟩
                  obtain ⟨o0, ho0⟩ : ∃ q, (z0 == 3) = q := ⟨_, rfl⟩
                  have d1 : o1 = true → decide ((50 : Int) < gh) = false := fun h => by subst h; simp at ho1; have := hg4 (hc1 ho1); simp; omega
                  have d0 : o0 = true → decide (gl < 50) = false := fun h => by subst h; simp at ho0; have := hg5 (hc3 ho0); simp; omega
                  have ho1' : decide (z1 = 1) = o1 := by rw [← ho1]; rfl
                  have ho0' : decide (z0 = 3) = o0 := by rw [← ho0]; rfl
                  clear hc1 hc3
                  cases o1 <;> cases o0
                  all_goals
                    try (have dd1 := d1 rfl)
                    try (have dd0 := d0 rfl)
                    clear d1 d0
                    go_wp2_with fail
                    go_roundw
                    case rel => exact ⟨k + 1, by omega, by rw [hN2], by rw [ep], by rw [es], Lib.hid (own_below HO4.out ((Below.refl _ _).alloc (Nat.le_refl _) _)), Lib.hid (by obtain ⟨a1, a2, a3, a4⟩ := HS2.out; exact ⟨a1, a2, a3, a4.below ((Below.refl _ _).alloc (Nat.le_refl _) _)⟩), by simp; omega, hBc.trans ((Below.refl c Wt).alloc (by omega) _)⟩
                    case measure => simp [RowKit.intOf]; omega
              · clear hab
                as_aux_lemma =>
                  have ep : po (k + 1) = (k : Int) := hKA.2.1 (by simpa using hr1) rfl
                  have es : su (k + 1) = (k : Int) := hKU.2.1 (by simpa using hr2) rfl
                  clear hKA hKU
                  go_wp2_with fail
                  refine (CK.out _).mono ?_
                  rintro e Wk ⟨vk, rfl, hvk, hb⟩
                  replace hb := below1 hb
                  replace T0 := cell_next hb nT T0
                  replace T1 := cell_next hb nT T1
                  replace nT := Nat.lt_of_lt_of_le nT hb.size
                  replace HO4 := Lib.hid (own_below HO4.out hb)
                  replace HS1 := Lib.hid (HS1.out.below hb)
                  replace hBc := hBc.trans (hb.mono (by omega))
                  replace hbr : bw < Wk.heap.size := Nat.lt_of_lt_of_le hbr hb.size
                  clear hb CK
                  obtain ⟨AK, cK, rfl, hK⟩ := hvk
                  rw [hm] at hK ⊢
                  obtain ⟨gK, oK, rfl, hgK, hKc⟩ := hK (by omega)
                  have K0 := hKc 0 z0 hz0'
                  have K1 := hKc m z1 hz1'
                  rw [Nat.add_zero] at K0
                  clear hKc hK hm hz0' hz1'
                  obtain ⟨R0, R1, R2, R3⟩ := HR4.out
                  replace R0 := cell_next hBc nR R0
                  replace R1 := cell_next hBc nR R1
                  replace R2 := cell_next hBc nR R2
                  replace R3 := cell_next hBc nR R3
                  have CNew := new_st1 1000 (by decide)
                  go_wp2_with fail
                  refine (CNew _ _ _ ((HT.out.below (hBc.trans ((Below.refl c Wk).alloc (by omega) _)) (Nat.le_refl _)).mono (by simp; omega)) ((ns_one (by simp [go_sem])).mono (by simp))).mono ?_
                  rintro e Wn ⟨c2, tk2, cap2, vb2, gv2, rfl, hF2, hwc2, hS2, hbn⟩
                  have hX : Below Wk.heap.size Wk Wn := below1 hbn
                  simp at hwc2
                  have CP := Lib.hid (pour_one hF2 hS2 (by omega) 0 0 (by omega))
                  clear CNew hbn hS2 R0 R1 R2 R3
                  have tt1 : decide (((m + 1 : Nat) : Int) < 1) = false := by simp; omega
                  go_wp2_with fail
                  refine CP.out.mono ?_
                  rintro e Wp ⟨rfl, V2, hS3, _, hbp⟩
                  replace hX := hX.trans (hbp.mono (by omega))
                  clear hbp CP
                  have U0 := cell_next hX nT T0
                  have U1 := cell_next hX nT T1
                  have CS := Lib.hid (stay_one hF2 hS3 tl th gl gh ⟨ti1, ti4, ti5⟩ hgR (by omega) (by omega) (by omega))
                  clear hS3
                  go_wp2_with fail
                  refine CS.out.mono ?_
                  rintro e Wq ⟨rfl, fl2, fh2, hf2, hS4, _, hbq⟩
                  replace hX := hX.trans (hbq.mono (by omega))
                  clear hbq CS U0 U1
                  rw [show min 1000000 ((0 : Int) + 1 * gl) = gl from by omega, show min 1000000 ((0 : Int) + 1 * gh) = gh from by omega] at hS4
                  have CT := Lib.hid (tell_one hS4 (by omega) (by omega) (show decide (1000 ≤ gh) = false by simp; omega) (show decide (1000 ≤ gl) = false by simp; omega))
                  clear hS4
                  go_wp2_with fail
                  refine CT.out.mono ?_
                  rintro e Wt ⟨rfl, hb⟩
                  replace hX := hX.trans (hb.mono (by have := hX.size; omega))
                  clear hb CT hf2
                  replace K0 := cell_next hX hgK K0
                  replace K1 := cell_next hX hgK K1
                  replace hgK := Nat.lt_of_lt_of_le hgK hX.size
                  replace HO4 := Lib.hid (own_below HO4.out hX)
                  replace HS1 := Lib.hid (HS1.out.below hX)
                  replace hBc := hBc.trans (hX.mono (by omega))
                  replace hbr : bw < Wt.heap.size := Nat.lt_of_lt_of_le hbr hX.size
                  clear hX T0 T1 nT
                  have wm : IntKind.i64.wrap (((m + 1 : Nat) : Int) - 1) = (m : Int) := by rw [show ((m + 1 : Nat) : Int) - 1 = (m : Int) from by omega]; exact IntWalk.i64_in _ (by omega)
                  have mm0 : (0 : Int) ≤ (m : Int) := by omega
                  have mm1 : (m : Int) < ((m + 1 : Nat) : Int) := by omega
                  have HS2 : Hid (∃ fl fh, ((0 ≤ fl ∧ fl ≤ 1000000) ∧ 0 ≤ fh ∧ fh ≤ 1000000) ∧ St1 1000 c tk cap vb base ((k + 1 : Nat) : Int) 970 30 fl fh gv VP [⟨970, 30, ka (k + 1), kb (k + 1), 0⟩] Wt) := Lib.hid ⟨fl1, fh1, hf1, by rw [hN2]; exact HS1.out⟩
                  clear HS1 hf1
                  obtain ⟨o1, ho1⟩ : ∃ q, (z1 == 1) = q := ⟨_, rfl⟩
                  obtain ⟨o0, ho0⟩ : ∃ q, (z0 == 3) = q := ⟨_, rfl⟩
                  have d1 : o1 = true → decide ((50 : Int) < gh) = false := fun h => by subst h; simp at ho1; have := hg4 (hc1 ho1); simp; omega
                  have d0 : o0 = true → decide (gl < 50) = false := fun h => by subst h; simp at ho0; have := hg5 (hc3 ho0); simp; omega
                  have ho1' : decide (z1 = 1) = o1 := by rw [← ho1]; rfl
                  have ho0' : decide (z0 = 3) = o0 := by rw [← ho0]; rfl
                  clear hc1 hc3
                  cases o1 <;> cases o0
                  all_goals
                    try (have dd1 := d1 rfl)
                    try (have dd0 := d0 rfl)
                    clear d1 d0
                    go_wp2_with fail
                    go_roundw
                    case rel => exact ⟨k + 1, by omega, by rw [hN2], by rw [ep], by rw [es], Lib.hid (own_below HO4.out ((Below.refl _ _).alloc (Nat.le_refl _) _)), Lib.hid (by obtain ⟨a1, a2, a3, a4⟩ := HS2.out; exact ⟨a1, a2, a3, a4.below ((Below.refl _ _).alloc (Nat.le_refl _) _)⟩), by simp; omega, hBc.trans ((Below.refl c Wt).alloc (by omega) _)⟩
                    case measure => simp [RowKit.intOf]; omega
      all_goals first
        | (intro j u hj; rcases j with _ | _ | j <;> simp at hj <;> subst hj <;> exact (cell_at _ _ _ _ _ (by simp)))
        | (simp [Value.oneCell']; done)
        | (unfold maxLen; omega)
        | omega
        | (simp; omega)
    · as_aux_lemma =>
        obtain rfl : k = n := by omega
        rw [List.take_of_length_le (by rw [HL.out]; exact Nat.le_refl _)] at HO
        clear HE hlt hk HR Hs HB
        have hcw : c < wr.heap.size := by omega
        have CH := Lib.hid (fun (W : World) (h : W.ownsRow bw 31 2 u9 k (flat hs)) => check_weather ⟨-10, 20, 2, 8, 1, 3, 2, 500, 800, 1⟩ u9 hs W ⟨by decide, by decide, by decide, by decide, by decide, by decide⟩ (by decide) (by decide) (by rw [HL.out]; omega) (own_row hs k HL.out u9 W h).set (fun p hp => by have := HH.out p hp; simp [rgB, inB]; omega))
        have hkp1 := kp_k HH.out (lo := s0) (hi := s1) (by rw [HL.out]; omega) hst
        have hkp2 := kp_k HH.out (lo := s0 / 2) (hi := s1) (by rw [HL.out]; omega) (by omega)
        rw [HL.out] at hkp1 hkp2
        have ep : fstI (fun j => decide (1000 ≤ (kL kRows hs (s0, s1) (j + 1)).2)) k = po k := by rw [HPO.out]; exact fstI_congr _ fun j _ => by rw [HKB.out]
        have es : fstI (fun j => decide (1000 ≤ (kL kRows hs (s0, s1) (j + 1)).1)) k = su k := by rw [HSU.out]; exact fstI_congr _ fun j _ => by rw [HKA.out]
        rw [ep, es] at hkp1
        have hlater : fstI (fun j => decide (1000 ≤ (kL kRows hs (s0 / 2, s1) (j + 1)).1)) k < 0 ∨ (0 ≤ su k ∧ su k ≤ fstI (fun j => decide (1000 ≤ (kL kRows hs (s0 / 2, s1) (j + 1)).1)) k) := by
          by_cases h0 : 0 ≤ fstI (fun j => decide (1000 ≤ (kL kRows hs (s0 / 2, s1) (j + 1)).1)) k
          · right
            rw [← es]
            refine fstI_le' (fun j hj hf => ?_) h0
            have := kL_ord hs HH.out (s := (s0, s1)) (u := (s0 / 2, s1)) (by dsimp only; omega) (j + 1) (by rw [HL.out]; omega)
            simp at hf ⊢
            omega
          · left; omega
        generalize fstI (fun j => decide (1000 ≤ (kL kRows hs (s0 / 2, s1) (j + 1)).2)) k = pz at *
        generalize fstI (fun j => decide (1000 ≤ (kL kRows hs (s0 / 2, s1) (j + 1)).1)) k = lt at *
        clear ep es HKA HKB HPO HSU HST HP HU HKL
        have CK1 := Lib.hid (fun (W : World) (v2 : Value) (h1 : SetAt W.heap.size W (.slice AR 3 cR) kRows) (h2 : SetAt W.heap.size W v2 hs) => keeps_any (.slice AR 3 cR) kRows 1000 1 2 s0 s1 v2 hs W (by decide) h1 (by rw [HL.out]; omega) h2)
        have CK2 := Lib.hid (fun (W : World) (v2 : Value) (h1 : SetAt W.heap.size W (.slice AR 3 cR) kRows) (h2 : SetAt W.heap.size W v2 hs) => keeps_any (.slice AR 3 cR) kRows 1000 1 2 (s0 / 2) s1 v2 hs W (by decide) h1 (by rw [HL.out]; omega) h2)
        rw [hkp1] at CK1
        rw [hkp2] at CK2
        simp only [kV] at CK1 CK2
        clear hkp1 hkp2
        generalize su k = sk at *
        generalize po k = pk at *
        obtain ⟨lb, hlb⟩ : ∃ q, decide (lt < 0) = q := ⟨_, rfl⟩
        have hl1 : lb = false → decide (0 ≤ sk) = true ∧ decide (sk ≤ lt) = true := fun h => by subst h; simp at hlb ⊢; omega
        have hs00 : 0 ≤ s0 := hst.1
        have td : s0.tdiv 2 = s0 / 2 := Int.tdiv_eq_ediv_of_nonneg hs00
        have wd2 : IntKind.i64.wrap (s0 / 2) = s0 / 2 := IntWalk.i64_in _ (by omega)
        clear hlater
        go_wp2_with fail
        refine (meetThaw_any _).mono ?_
        rintro e Wa ⟨rfl, hb⟩
        replace HO := Lib.hid (own_below HO.out hb)
        replace hBc := hBc.trans (hb.mono (by omega))
        have hca : c < Wa.heap.size := Nat.lt_of_lt_of_le hcw hb.size
        have hba : bw < Wa.heap.size := Nat.lt_of_lt_of_le hbr hb.size
        clear hb
        go_wp2_with fail
        refine (CH.out _ HO.out).mono ?_
        rintro e Wb ⟨rfl, hb⟩
        replace HO := Lib.hid (own_below HO.out hb)
        replace hBc := hBc.trans (hb.mono (by omega))
        replace hca : c < Wb.heap.size := Nat.lt_of_lt_of_le hca hb.size
        replace hba : bw < Wb.heap.size := Nat.lt_of_lt_of_le hba hb.size
        clear hb CH hcw hbr HH
        obtain ⟨R0, R1, R2, R3⟩ := HR4.out
        obtain ⟨S0, S1⟩ := HS4.out
        replace R0 := cell_next hBc nR R0
        replace R1 := cell_next hBc nR R1
        replace R2 := cell_next hBc nR R2
        replace R3 := cell_next hBc nR R3
        replace S0 := cell_next hBc nS S0
        replace S1 := cell_next hBc nS S1
        replace HT := Lib.hid (HT.out.below hBc (Nat.le_refl _))
        replace hB := hB.trans (hBc.mono nW)
        have mR : gR < Wb.heap.size := by omega
        have mS : gR + 1 < Wb.heap.size := by omega
        go_wp2_with fail
        clear hBc HR4 HS4
        by_cases hk0 : k = 0
        · as_aux_lemma =>
            subst hk0
            have hh0 : hs = [] := List.eq_nil_of_length_eq_zero HL.out
            have hform : ∃ A c, u9 = .slice A 0 c := by rcases HO.out.2 with ⟨h, _⟩ | ⟨g, cp, _, h, _⟩; exact ⟨_, _, h⟩; exact ⟨_, _, h⟩
            obtain ⟨A9, c9, rfl⟩ := hform
            have HV0 : Hid (∀ (W : World) (A : Option Addr) (c : Nat), SetAt W.heap.size W (.slice A 0 c) hs) := Lib.hid (fun W A c => by subst hh0; exact ⟨A, c, rfl, fun h => by simp at h⟩)
            clear hh0 HO
            rcases A9 with _ | ⟨gn, on, sn⟩
            all_goals
              have hBW : Wb.heap.size ≤ Wb.heap.size := Nat.le_refl _
              have hwb34 := hB.size
              refine wp_region_held_drew (S := fun w' => w'.cell? ⟨gR, 0, none⟩ = some (.slice AR 3 cR) ∧ w'.cell? ⟨gR, 1, none⟩ = some (.int .i64 1000) ∧ w'.cell? ⟨gR, 2, none⟩ = some (.int .i64 1) ∧ w'.cell? ⟨gR, 3, none⟩ = some (.int .i64 2) ∧ w'.cell? ⟨gR + 1, 0, none⟩ = some (.int .i64 s0) ∧ w'.cell? ⟨gR + 1, 1, none⟩ = some (.int .i64 s1) ∧ True) (by kernel_rfl) ?_ (fun hHeld => ?_)
              focus (exact ⟨R0, R1, R2, R3, S0, S1, trivial⟩)
              have hL : Below Wb.heap.size Wb Wb.drew := Below.drew (Below.refl _ _)
              replace R0 : Wb.drew.cell? ⟨gR, 0, none⟩ = some (.slice AR 3 cR) := R0
              replace R1 : Wb.drew.cell? ⟨gR, 1, none⟩ = some (.int .i64 1000) := R1
              replace R2 : Wb.drew.cell? ⟨gR, 2, none⟩ = some (.int .i64 1) := R2
              replace R3 : Wb.drew.cell? ⟨gR, 3, none⟩ = some (.int .i64 2) := R3
              replace S0 : Wb.drew.cell? ⟨gR + 1, 0, none⟩ = some (.int .i64 s0) := S0
              replace S1 : Wb.drew.cell? ⟨gR + 1, 1, none⟩ = some (.int .i64 s1) := S1
              replace mR : gR < Wb.drew.heap.size := mR
              replace mS : gR + 1 < Wb.drew.heap.size := mS
              generalize hWd : Wb.drew = wd34 at hHeld hL R0 R1 R2 R3 S0 S1 mR mS  ⊢
              clear hWd
              refine take_slot (i := 0) (d := 229) (v := ?_) rfl rfl (by kernel_rfl) (by kernel_rfl) (by kernel_rfl) (fun _ _ _ h => h) (Or.inl ⟨by rfl, ?_⟩) (by assumption) ?_
              rotate_left 1
              focus (intro wS hSw; (try dsimp only at hSw); go_simp; try with_reducible rfl)
              try simp only [List.setIfInBounds_toArray, List.set_cons_zero, List.set_cons_succ]
              refine take_slot (i := 1) (d := 230) (v := ?_) rfl rfl (by kernel_rfl) (by kernel_rfl) (by kernel_rfl) (fun _ _ _ h => h) (Or.inl ⟨by rfl, ?_⟩) (by assumption) ?_
              rotate_left 1
              focus (intro wS hSw; (try dsimp only at hSw); go_simp; try with_reducible rfl)
              try simp only [List.setIfInBounds_toArray, List.set_cons_zero, List.set_cons_succ]
              refine take_slot (i := 3) (d := 232) (v := ?_) rfl rfl (by kernel_rfl) (by kernel_rfl) (by kernel_rfl) (fun _ _ _ h => h) (Or.inl ⟨by rfl, ?_⟩) (by assumption) ?_
              rotate_left 1
              focus (intro wS hSw; (try dsimp only at hSw); go_simp; try with_reducible rfl)
              try simp only [List.setIfInBounds_toArray, List.set_cons_zero, List.set_cons_succ]
              refine wpAnyH_ready (rs := [2]) (by kernel_rfl) (by simp) ?_
              refine AllReadyH.cons rfl (fun K hK => ?_) AllReadyH.nil
              go_simp
              have hb := (Below.refl wd34.heap.size wd34).alloc (Nat.le_refl _) (Obj.cells #[] 31)
              have szZ34x1 := hL.size
              have ord1mR := mR
              have ord1mS := mS
              replace R0 := cell_next hb mR R0
              replace R1 := cell_next hb mR R1
              replace R2 := cell_next hb mR R2
              replace R3 := cell_next hb mR R3
              replace S0 := cell_next hb mS S0
              replace S1 := cell_next hb mS S1
              replace mR := Nat.lt_of_lt_of_le mR hb.size
              replace mS := Nat.lt_of_lt_of_le mS hb.size
              replace hL := hL.trans (hb.mono (Nat.le_trans hBW hL.size))
              have nQ : wd34.heap.size < (wd34.alloc (Obj.cells #[] 31)).heap.size := by simp
              refine hK.out _ _ ⟨R0, R1, R2, R3, S0, S1, trivial⟩ (fun hHeld => ?_)
              clear hK K hb
              generalize wd34.alloc (Obj.cells #[] 31) = Z34x1 at *
              try simp only [Act.put, List.setIfInBounds_toArray, List.set_cons_zero, List.set_cons_succ]
              refine take_slot (i := 4) (d := 233) (v := ?_) rfl rfl (by kernel_rfl) (by kernel_rfl) (by kernel_rfl) (fun _ _ _ h => h) (Or.inl ⟨by rfl, ?_⟩) (by assumption) ?_
              rotate_left 1
              focus (intro wS hSw; (try dsimp only at hSw); go_simp; try with_reducible rfl)
              try simp only [List.setIfInBounds_toArray, List.set_cons_zero, List.set_cons_succ]
              refine wpAnyH_ready (rs := [5]) (by kernel_rfl) (by simp) ?_
              refine AllReadyH.cons rfl (fun K hK => ?_) AllReadyH.nil
              go_simp
              refine (CK1.out _ _ ((HT.out.below hL (by omega)).mono (by have := hL.size; omega)) (HV0.out _ _ _)).mono ?_
              rintro e Z34x2 ⟨rfl, hb⟩
              replace R0 := cell_next hb mR R0
              replace R1 := cell_next hb mR R1
              replace R2 := cell_next hb mR R2
              replace R3 := cell_next hb mR R3
              replace S0 := cell_next hb mS S0
              replace S1 := cell_next hb mS S1
              replace mR := Nat.lt_of_lt_of_le mR hb.size
              replace mS := Nat.lt_of_lt_of_le mS hb.size
              replace hL := hL.trans (hb.mono (Nat.le_trans hBW hL.size))
              refine hK.out _ _ ⟨R0, R1, R2, R3, S0, S1, trivial⟩ (fun hHeld => ?_)
              clear hK K hb
              try simp only [Act.put, List.setIfInBounds_toArray, List.set_cons_zero, List.set_cons_succ]
              refine take_slot (i := 6) (d := 228) (v := ?_) rfl rfl (by kernel_rfl) (by kernel_rfl) (by kernel_rfl) (fun _ _ _ h => h) (Or.inl ⟨by rfl, ?_⟩) (by assumption) ?_
              rotate_left 1
              focus (intro wS hSw; (try dsimp only at hSw); go_simp; try with_reducible rfl)
              try simp only [List.setIfInBounds_toArray, List.set_cons_zero, List.set_cons_succ]
              refine take_slot (i := 7) (d := 235) (v := ?_) rfl rfl (by kernel_rfl) (by kernel_rfl) (by kernel_rfl) (fun _ _ _ h => h) (Or.inl ⟨by rfl, ?_⟩) (by assumption) ?_
              rotate_left 1
              focus (intro wS hSw; (try dsimp only at hSw); go_simp; try with_reducible rfl)
              try simp only [List.setIfInBounds_toArray, List.set_cons_zero, List.set_cons_succ]
              refine take_slot (i := 8) (d := 236) (v := ?_) rfl rfl (by kernel_rfl) (by kernel_rfl) (by kernel_rfl) (fun _ _ _ h => h) (Or.inl ⟨by rfl, ?_⟩) (by assumption) ?_
              rotate_left 1
              focus (intro wS hSw; (try dsimp only at hSw); go_simp; try with_reducible rfl)
              try simp only [List.setIfInBounds_toArray, List.set_cons_zero, List.set_cons_succ]
              refine take_slot (i := 9) (d := 237) (v := ?_) rfl rfl (by kernel_rfl) (by kernel_rfl) (by kernel_rfl) (fun _ _ _ h => h) (Or.inl ⟨by rfl, ?_⟩) (by assumption) ?_
              rotate_left 1
              focus (intro wS hSw; (try dsimp only at hSw); go_simp; try with_reducible rfl)
              try simp only [List.setIfInBounds_toArray, List.set_cons_zero, List.set_cons_succ]
              refine take_slot (i := 10) (d := 20) (v := ?_) rfl rfl (by kernel_rfl) (by kernel_rfl) (by kernel_rfl) (fun _ _ _ h => h) (Or.inl ⟨by rfl, ?_⟩) (by assumption) ?_
              rotate_left 1
              focus (intro wS hSw; (try dsimp only at hSw); go_simp; try with_reducible rfl)
              try simp only [List.setIfInBounds_toArray, List.set_cons_zero, List.set_cons_succ]
              refine take_slot (i := 11) (d := 21) (v := ?_) rfl rfl (by kernel_rfl) (by kernel_rfl) (by kernel_rfl) (fun _ _ _ h => h) (Or.inl ⟨by rfl, ?_⟩) (by assumption) ?_
              rotate_left 1
              focus (intro wS hSw; (try dsimp only at hSw); go_simp; try with_reducible rfl)
              try simp only [List.setIfInBounds_toArray, List.set_cons_zero, List.set_cons_succ]
              refine take_slot (i := 12) (d := 8) (v := ?_) rfl rfl (by kernel_rfl) (by kernel_rfl) (by kernel_rfl) (fun _ _ _ h => h) (Or.inl ⟨by rfl, ?_⟩) (by assumption) ?_
              rotate_left 1
              focus (intro wS hSw; (try dsimp only at hSw); go_simp; try with_reducible rfl)
              try simp only [List.setIfInBounds_toArray, List.set_cons_zero, List.set_cons_succ]
              refine wpAnyH_done (by kernel_rfl) ?_ _
              replace HT := Lib.hid (HT.out.below hL (by omega))
              replace hB := hB.trans (hL.mono (by omega))
              replace hca := Nat.lt_of_lt_of_le hca hL.size
              clear hHeld hL hBW
              go_wp2_with fail
              have hBW : Z34x2.heap.size ≤ Z34x2.heap.size := Nat.le_refl _
              have hwb35 := hB.size
              refine wp_region_held_drew (S := fun w' => w'.cell? ⟨gR, 0, none⟩ = some (.slice AR 3 cR) ∧ w'.cell? ⟨gR, 1, none⟩ = some (.int .i64 1000) ∧ w'.cell? ⟨gR, 2, none⟩ = some (.int .i64 1) ∧ w'.cell? ⟨gR, 3, none⟩ = some (.int .i64 2) ∧ w'.cell? ⟨gR + 1, 0, none⟩ = some (.int .i64 s0) ∧ w'.cell? ⟨gR + 1, 1, none⟩ = some (.int .i64 s1) ∧ True) (by kernel_rfl) ?_ (fun hHeld => ?_)
              focus (exact ⟨R0, R1, R2, R3, S0, S1, trivial⟩)
              have hL : Below Z34x2.heap.size Z34x2 Z34x2.drew := Below.drew (Below.refl _ _)
              replace R0 : Z34x2.drew.cell? ⟨gR, 0, none⟩ = some (.slice AR 3 cR) := R0
              replace R1 : Z34x2.drew.cell? ⟨gR, 1, none⟩ = some (.int .i64 1000) := R1
              replace R2 : Z34x2.drew.cell? ⟨gR, 2, none⟩ = some (.int .i64 1) := R2
              replace R3 : Z34x2.drew.cell? ⟨gR, 3, none⟩ = some (.int .i64 2) := R3
              replace S0 : Z34x2.drew.cell? ⟨gR + 1, 0, none⟩ = some (.int .i64 s0) := S0
              replace S1 : Z34x2.drew.cell? ⟨gR + 1, 1, none⟩ = some (.int .i64 s1) := S1
              replace mR : gR < Z34x2.drew.heap.size := mR
              replace mS : gR + 1 < Z34x2.drew.heap.size := mS
              generalize hWd : Z34x2.drew = wd35 at hHeld hL R0 R1 R2 R3 S0 S1 mR mS  ⊢
              clear hWd
              refine take_slot (i := 0) (d := 239) (v := ?_) rfl rfl (by kernel_rfl) (by kernel_rfl) (by kernel_rfl) (fun _ _ _ h => h) (Or.inl ⟨by rfl, ?_⟩) (by assumption) ?_
              rotate_left 1
              focus (intro wS hSw; (try dsimp only at hSw); go_simp; try with_reducible rfl)
              try simp only [List.setIfInBounds_toArray, List.set_cons_zero, List.set_cons_succ]
              refine take_slot (i := 1) (d := 240) (v := ?_) rfl rfl (by kernel_rfl) (by kernel_rfl) (by kernel_rfl) (fun _ _ _ h => h) (Or.inl ⟨by rfl, ?_⟩) (by assumption) ?_
              rotate_left 1
              focus (intro wS hSw; (try dsimp only at hSw); go_simp; try with_reducible rfl)
              try simp only [List.setIfInBounds_toArray, List.set_cons_zero, List.set_cons_succ]
              refine take_slot (i := 2) (d := 241) (v := ?_) rfl rfl (by kernel_rfl) (by kernel_rfl) (by kernel_rfl) (fun _ _ _ h => h) (Or.inl ⟨by rfl, ?_⟩) (by assumption) ?_
              rotate_left 1
              focus (intro wS hSw; (try dsimp only at hSw); go_simp; try with_reducible rfl)
              try simp only [List.setIfInBounds_toArray, List.set_cons_zero, List.set_cons_succ]
              refine take_slot (i := 3) (d := 242) (v := ?_) rfl rfl (by kernel_rfl) (by kernel_rfl) (by kernel_rfl) (fun _ _ _ h => h) (Or.inl ⟨by rfl, ?_⟩) (by assumption) ?_
              rotate_left 1
              focus (intro wS hSw; (try dsimp only at hSw); go_simp; try with_reducible rfl)
              try simp only [List.setIfInBounds_toArray, List.set_cons_zero, List.set_cons_succ]
              refine take_slot (i := 4) (d := 243) (v := ?_) rfl rfl (by kernel_rfl) (by kernel_rfl) (by kernel_rfl) (fun _ _ _ h => h) (Or.inl ⟨by rfl, ?_⟩) (by assumption) ?_
              rotate_left 1
              focus (intro wS hSw; (try dsimp only at hSw); go_simp; try with_reducible rfl)
              try simp only [List.setIfInBounds_toArray, List.set_cons_zero, List.set_cons_succ]
              refine take_slot (i := 5) (d := 244) (v := ?_) rfl rfl (by kernel_rfl) (by kernel_rfl) (by kernel_rfl) (fun _ _ _ h => h) (Or.inl ⟨by rfl, ?_⟩) (by assumption) ?_
              rotate_left 1
              focus (intro wS hSw; (try dsimp only at hSw); go_simp; try with_reducible rfl)
              try simp only [List.setIfInBounds_toArray, List.set_cons_zero, List.set_cons_succ]
              refine take_slot (i := 6) (d := 245) (v := ?_) rfl rfl (by kernel_rfl) (by kernel_rfl) (by kernel_rfl) (fun _ _ _ h => h) (Or.inl ⟨by rfl, ?_⟩) (by assumption) ?_
              rotate_left 1
              focus (intro wS hSw; (try dsimp only at hSw); go_simp; try with_reducible rfl)
              try simp only [List.setIfInBounds_toArray, List.set_cons_zero, List.set_cons_succ]
              refine take_slot (i := 8) (d := 247) (v := ?_) rfl rfl (by kernel_rfl) (by kernel_rfl) (by kernel_rfl) (fun _ _ _ h => h) (Or.inl ⟨by rfl, ?_⟩) (by assumption) ?_
              rotate_left 1
              focus (intro wS hSw; (try dsimp only at hSw); go_simp; try with_reducible rfl)
              try simp only [List.setIfInBounds_toArray, List.set_cons_zero, List.set_cons_succ]
              refine wpAnyH_ready (rs := [7]) (by kernel_rfl) (by simp) ?_
              refine AllReadyH.cons rfl (fun K hK => ?_) AllReadyH.nil
              go_simp
              have hb := (Below.refl wd35.heap.size wd35).alloc (Nat.le_refl _) (Obj.cells #[] 31)
              have szZ35x1 := hL.size
              have ord1mR := mR
              have ord1mS := mS
              replace R0 := cell_next hb mR R0
              replace R1 := cell_next hb mR R1
              replace R2 := cell_next hb mR R2
              replace R3 := cell_next hb mR R3
              replace S0 := cell_next hb mS S0
              replace S1 := cell_next hb mS S1
              replace mR := Nat.lt_of_lt_of_le mR hb.size
              replace mS := Nat.lt_of_lt_of_le mS hb.size
              replace hL := hL.trans (hb.mono (Nat.le_trans hBW hL.size))
              have nQ : wd35.heap.size < (wd35.alloc (Obj.cells #[] 31)).heap.size := by simp
              refine hK.out _ _ ⟨R0, R1, R2, R3, S0, S1, trivial⟩ (fun hHeld => ?_)
              clear hK K hb
              generalize wd35.alloc (Obj.cells #[] 31) = Z35x1 at *
              try simp only [Act.put, List.setIfInBounds_toArray, List.set_cons_zero, List.set_cons_succ]
              refine take_slot (i := 9) (d := 248) (v := ?_) rfl rfl (by kernel_rfl) (by kernel_rfl) (by kernel_rfl) (fun _ _ _ h => h) (Or.inl ⟨by rfl, ?_⟩) (by assumption) ?_
              rotate_left 1
              focus (intro wS hSw; (try dsimp only at hSw); go_simp; try with_reducible rfl)
              try simp only [List.setIfInBounds_toArray, List.set_cons_zero, List.set_cons_succ]
              refine wpAnyH_ready (rs := [10]) (by kernel_rfl) (by simp) ?_
              refine AllReadyH.cons rfl (fun K hK => ?_) AllReadyH.nil
              go_simp
              refine (CK2.out _ _ ((HT.out.below hL (by omega)).mono (by have := hL.size; omega)) (HV0.out _ _ _)).mono ?_
              rintro e Z35x2 ⟨rfl, hb⟩
              replace R0 := cell_next hb mR R0
              replace R1 := cell_next hb mR R1
              replace R2 := cell_next hb mR R2
              replace R3 := cell_next hb mR R3
              replace S0 := cell_next hb mS S0
              replace S1 := cell_next hb mS S1
              replace mR := Nat.lt_of_lt_of_le mR hb.size
              replace mS := Nat.lt_of_lt_of_le mS hb.size
              replace hL := hL.trans (hb.mono (Nat.le_trans hBW hL.size))
              refine hK.out _ _ ⟨R0, R1, R2, R3, S0, S1, trivial⟩ (fun hHeld => ?_)
              clear hK K hb
              try simp only [Act.put, List.setIfInBounds_toArray, List.set_cons_zero, List.set_cons_succ]
              refine take_slot (i := 11) (d := 238) (v := ?_) rfl rfl (by kernel_rfl) (by kernel_rfl) (by kernel_rfl) (fun _ _ _ h => h) (Or.inl ⟨by rfl, ?_⟩) (by assumption) ?_
              rotate_left 1
              focus (intro wS hSw; (try dsimp only at hSw); go_simp; try with_reducible rfl)
              try simp only [List.setIfInBounds_toArray, List.set_cons_zero, List.set_cons_succ]
              refine take_slot (i := 12) (d := 250) (v := ?_) rfl rfl (by kernel_rfl) (by kernel_rfl) (by kernel_rfl) (fun _ _ _ h => h) (Or.inl ⟨by rfl, ?_⟩) (by assumption) ?_
              rotate_left 1
              focus (intro wS hSw; (try dsimp only at hSw); go_simp; try with_reducible rfl)
              try simp only [List.setIfInBounds_toArray, List.set_cons_zero, List.set_cons_succ]
              refine take_slot (i := 13) (d := 251) (v := ?_) rfl rfl (by kernel_rfl) (by kernel_rfl) (by kernel_rfl) (fun _ _ _ h => h) (Or.inl ⟨by rfl, ?_⟩) (by assumption) ?_
              rotate_left 1
              focus (intro wS hSw; (try dsimp only at hSw); go_simp; try with_reducible rfl)
              try simp only [List.setIfInBounds_toArray, List.set_cons_zero, List.set_cons_succ]
              refine take_slot (i := 14) (d := 252) (v := ?_) rfl rfl (by kernel_rfl) (by kernel_rfl) (by kernel_rfl) (fun _ _ _ h => h) (Or.inl ⟨by rfl, ?_⟩) (by assumption) ?_
              rotate_left 1
              focus (intro wS hSw; (try dsimp only at hSw); go_simp; try with_reducible rfl)
              try simp only [List.setIfInBounds_toArray, List.set_cons_zero, List.set_cons_succ]
              refine take_slot (i := 15) (d := 22) (v := ?_) rfl rfl (by kernel_rfl) (by kernel_rfl) (by kernel_rfl) (fun _ _ _ h => h) (Or.inl ⟨by rfl, ?_⟩) (by assumption) ?_
              rotate_left 1
              focus (intro wS hSw; (try dsimp only at hSw); go_simp; try with_reducible rfl)
              try simp only [List.setIfInBounds_toArray, List.set_cons_zero, List.set_cons_succ]
              refine take_slot (i := 16) (d := 23) (v := ?_) rfl rfl (by kernel_rfl) (by kernel_rfl) (by kernel_rfl) (fun _ _ _ h => h) (Or.inl ⟨by rfl, ?_⟩) (by assumption) ?_
              rotate_left 1
              focus (intro wS hSw; (try dsimp only at hSw); go_simp; try with_reducible rfl)
              try simp only [List.setIfInBounds_toArray, List.set_cons_zero, List.set_cons_succ]
              refine take_slot (i := 17) (d := 24) (v := ?_) rfl rfl (by kernel_rfl) (by kernel_rfl) (by kernel_rfl) (fun _ _ _ h => h) (Or.inl ⟨by rfl, ?_⟩) (by assumption) ?_
              rotate_left 1
              focus (intro wS hSw; (try dsimp only at hSw); go_simp; try with_reducible rfl)
              try simp only [List.setIfInBounds_toArray, List.set_cons_zero, List.set_cons_succ]
              refine wpAnyH_done (by kernel_rfl) ?_ _
              replace HT := Lib.hid (HT.out.below hL (by omega))
              replace hB := hB.trans (hL.mono (by omega))
              replace hca := Nat.lt_of_lt_of_le hca hL.size
              clear hHeld hL hBW
              cases lb
              · obtain ⟨hl2, hl3⟩ := hl1 rfl
                go_wp2_with fail
                refine (CN.out _).mono ?_
                rintro e Wz ⟨rfl, hb⟩
                go_wp2_with fail
                go_ret
                exact ⟨rfl, hB.trans (hb.mono hB.size)⟩
              · go_wp2_with fail
                refine (CN.out _).mono ?_
                rintro e Wz ⟨rfl, hb⟩
                go_wp2_with fail
                go_ret
                exact ⟨rfl, hB.trans (hb.mono hB.size)⟩
        · as_aux_lemma =>
            have hform : ∃ g c, u9 = .slice (some ⟨g, 0, none⟩) k c := by obtain ⟨g, c, h, _⟩ := World.ownsRow.form HO.out (by omega); exact ⟨g, c, h⟩
            obtain ⟨g9, c9, rfl⟩ := hform
            have hBW : Wb.heap.size ≤ Wb.heap.size := Nat.le_refl _
            have hwb34 := hB.size
            refine wp_region_held_drew (S := fun w' => w'.cell? ⟨gR, 0, none⟩ = some (.slice AR 3 cR) ∧ w'.cell? ⟨gR, 1, none⟩ = some (.int .i64 1000) ∧ w'.cell? ⟨gR, 2, none⟩ = some (.int .i64 1) ∧ w'.cell? ⟨gR, 3, none⟩ = some (.int .i64 2) ∧ w'.cell? ⟨gR + 1, 0, none⟩ = some (.int .i64 s0) ∧ w'.cell? ⟨gR + 1, 1, none⟩ = some (.int .i64 s1) ∧ True) (by kernel_rfl) ?_ (fun hHeld => ?_)
            focus (exact ⟨R0, R1, R2, R3, S0, S1, trivial⟩)
            have hL : Below Wb.heap.size Wb Wb.drew := Below.drew (Below.refl _ _)
            replace R0 : Wb.drew.cell? ⟨gR, 0, none⟩ = some (.slice AR 3 cR) := R0
            replace R1 : Wb.drew.cell? ⟨gR, 1, none⟩ = some (.int .i64 1000) := R1
            replace R2 : Wb.drew.cell? ⟨gR, 2, none⟩ = some (.int .i64 1) := R2
            replace R3 : Wb.drew.cell? ⟨gR, 3, none⟩ = some (.int .i64 2) := R3
            replace S0 : Wb.drew.cell? ⟨gR + 1, 0, none⟩ = some (.int .i64 s0) := S0
            replace S1 : Wb.drew.cell? ⟨gR + 1, 1, none⟩ = some (.int .i64 s1) := S1
            replace mR : gR < Wb.drew.heap.size := mR
            replace mS : gR + 1 < Wb.drew.heap.size := mS
            generalize hWd : Wb.drew = wd34 at hHeld hL R0 R1 R2 R3 S0 S1 mR mS  ⊢
            clear hWd
            refine take_slot (i := 0) (d := 229) (v := ?_) rfl rfl (by kernel_rfl) (by kernel_rfl) (by kernel_rfl) (fun _ _ _ h => h) (Or.inl ⟨by rfl, ?_⟩) (by assumption) ?_
            rotate_left 1
            focus (intro wS hSw; (try dsimp only at hSw); go_simp; try with_reducible rfl)
            try simp only [List.setIfInBounds_toArray, List.set_cons_zero, List.set_cons_succ]
            refine take_slot (i := 1) (d := 230) (v := ?_) rfl rfl (by kernel_rfl) (by kernel_rfl) (by kernel_rfl) (fun _ _ _ h => h) (Or.inl ⟨by rfl, ?_⟩) (by assumption) ?_
            rotate_left 1
            focus (intro wS hSw; (try dsimp only at hSw); go_simp; try with_reducible rfl)
            try simp only [List.setIfInBounds_toArray, List.set_cons_zero, List.set_cons_succ]
            refine take_slot (i := 3) (d := 232) (v := ?_) rfl rfl (by kernel_rfl) (by kernel_rfl) (by kernel_rfl) (fun _ _ _ h => h) (Or.inl ⟨by rfl, ?_⟩) (by assumption) ?_
            rotate_left 1
            focus (intro wS hSw; (try dsimp only at hSw); go_simp; try with_reducible rfl)
            try simp only [List.setIfInBounds_toArray, List.set_cons_zero, List.set_cons_succ]
            refine wpAnyH_ready (rs := [2]) (by kernel_rfl) (by simp) ?_
            refine AllReadyH.cons rfl (fun K hK => ?_) AllReadyH.nil
            go_simp
            have hb := (Below.refl wd34.heap.size wd34).alloc (Nat.le_refl _) (Obj.cells #[] 31)
            have HQ := Lib.hid (ownsRow_empty wd34 31 2)
            have szq := hL.size
            replace R0 := cell_next hb mR R0
            replace R1 := cell_next hb mR R1
            replace R2 := cell_next hb mR R2
            replace R3 := cell_next hb mR R3
            replace S0 := cell_next hb mS S0
            replace S1 := cell_next hb mS S1
            replace mR := Nat.lt_of_lt_of_le mR hb.size
            replace mS := Nat.lt_of_lt_of_le mS hb.size
            replace hL := hL.trans (hb.mono (Nat.le_trans hBW hL.size))
            have nQ : wd34.heap.size < (wd34.alloc (Obj.cells #[] 31)).heap.size := by simp
            refine hK.out _ _ ⟨R0, R1, R2, R3, S0, S1, trivial⟩ (fun hHeld => ?_)
            clear hK K hb
            generalize wd34.alloc (Obj.cells #[] 31) = Z34x1 at *
            try simp only [Act.put, List.setIfInBounds_toArray, List.set_cons_zero, List.set_cons_succ]
            refine wpAnyH_ready (rs := [4]) (by kernel_rfl) (by simp) ?_
            refine AllReadyH.cons rfl (fun K hK => ?_) AllReadyH.nil
            refine step_append_d _ 233 rfl rfl (.tmp 231) (.tmp 232) 36 rfl wd34.heap.size 31 i0 (.agg #[.int .i64 0, .int .i64 0]) 2 16 Try.underlying36 hi0 hz0 hz1 hz2 rfl (by decide) (.slice (some ⟨wd34.heap.size, 0, none⟩) 0 0) 0 [] rfl HQ.out ⟨g9, 0, none⟩ k c9 (flat hs) rfl (by rw [flat_length, HL.out]) ?_ ?_ (by omega) ?_ ?_ ?_ _ rfl ?_
            · intro j u hj
              rw [Addr.add_lit, Nat.zero_add]
              exact (World.ownsRow.cellAt (own_below HO.out hL) j (by have := (List.getElem?_eq_some_iff.1 hj).1; rw [flat_length, HL.out] at this; omega)).trans hj
            · intro u hu
              simp only [flat, List.mem_flatMap] at hu
              obtain ⟨p, _, hp⟩ := hu
              simp at hp
              rcases hp with rfl | rfl <;> rfl
            · unfold maxLen; omega
            · omega
            · omega
            intro gz cz Z34x2 hown' hgrow hat hlt'
            have HV := Lib.hid (own_row hs (0 + k) (by rw [HL.out]; omega) _ Z34x2 (by simpa using hown'))
            have hKg := Kept.of_grown hgrow
            replace R0 := (hKg.cell (p := ⟨gR, 0, none⟩) mR (fun h => by simp [Value.ownBlock] at h; omega)).trans R0
            replace R1 := (hKg.cell (p := ⟨gR, 1, none⟩) mR (fun h => by simp [Value.ownBlock] at h; omega)).trans R1
            replace R2 := (hKg.cell (p := ⟨gR, 2, none⟩) mR (fun h => by simp [Value.ownBlock] at h; omega)).trans R2
            replace R3 := (hKg.cell (p := ⟨gR, 3, none⟩) mR (fun h => by simp [Value.ownBlock] at h; omega)).trans R3
            replace S0 := (hKg.cell (p := ⟨gR + 1, 0, none⟩) mS (fun h => by simp [Value.ownBlock] at h; omega)).trans S0
            replace S1 := (hKg.cell (p := ⟨gR + 1, 1, none⟩) mS (fun h => by simp [Value.ownBlock] at h; omega)).trans S1
            replace mR := Nat.lt_of_lt_of_le mR hKg.1
            replace mS := Nat.lt_of_lt_of_le mS hKg.1
            replace hL := hL.grown hgrow (by omega) (fun j hj => by simp [Value.ownBlock] at hj; omega)
            refine hK.out _ _ ⟨R0, R1, R2, R3, S0, S1, trivial⟩ (fun hHeld => ?_)
            clear hK K hown' hgrow hat hlt' hKg HQ
            try simp only [Act.put, List.setIfInBounds_toArray, List.set_cons_zero, List.set_cons_succ]
            refine wpAnyH_ready (rs := [5]) (by kernel_rfl) (by simp) ?_
            refine AllReadyH.cons rfl (fun K hK => ?_) AllReadyH.nil
            go_simp
            refine (CK1.out _ _ ((HT.out.below hL (by omega)).mono (by have := hL.size; omega)) HV.out.set).mono ?_
            rintro e Z34x3 ⟨rfl, hb⟩
            replace R0 := cell_next hb mR R0
            replace R1 := cell_next hb mR R1
            replace R2 := cell_next hb mR R2
            replace R3 := cell_next hb mR R3
            replace S0 := cell_next hb mS S0
            replace S1 := cell_next hb mS S1
            replace mR := Nat.lt_of_lt_of_le mR hb.size
            replace mS := Nat.lt_of_lt_of_le mS hb.size
            replace hL := hL.trans (hb.mono (Nat.le_trans hBW hL.size))
            refine hK.out _ _ ⟨R0, R1, R2, R3, S0, S1, trivial⟩ (fun hHeld => ?_)
            clear hK K hb
            try simp only [Act.put, List.setIfInBounds_toArray, List.set_cons_zero, List.set_cons_succ]
            refine take_slot (i := 6) (d := 228) (v := ?_) rfl rfl (by kernel_rfl) (by kernel_rfl) (by kernel_rfl) (fun _ _ _ h => h) (Or.inl ⟨by rfl, ?_⟩) (by assumption) ?_
            rotate_left 1
            focus (intro wS hSw; (try dsimp only at hSw); go_simp; try with_reducible rfl)
            try simp only [List.setIfInBounds_toArray, List.set_cons_zero, List.set_cons_succ]
            refine take_slot (i := 7) (d := 235) (v := ?_) rfl rfl (by kernel_rfl) (by kernel_rfl) (by kernel_rfl) (fun _ _ _ h => h) (Or.inl ⟨by rfl, ?_⟩) (by assumption) ?_
            rotate_left 1
            focus (intro wS hSw; (try dsimp only at hSw); go_simp; try with_reducible rfl)
            try simp only [List.setIfInBounds_toArray, List.set_cons_zero, List.set_cons_succ]
            refine take_slot (i := 8) (d := 236) (v := ?_) rfl rfl (by kernel_rfl) (by kernel_rfl) (by kernel_rfl) (fun _ _ _ h => h) (Or.inl ⟨by rfl, ?_⟩) (by assumption) ?_
            rotate_left 1
            focus (intro wS hSw; (try dsimp only at hSw); go_simp; try with_reducible rfl)
            try simp only [List.setIfInBounds_toArray, List.set_cons_zero, List.set_cons_succ]
            refine take_slot (i := 9) (d := 237) (v := ?_) rfl rfl (by kernel_rfl) (by kernel_rfl) (by kernel_rfl) (fun _ _ _ h => h) (Or.inl ⟨by rfl, ?_⟩) (by assumption) ?_
            rotate_left 1
            focus (intro wS hSw; (try dsimp only at hSw); go_simp; try with_reducible rfl)
            try simp only [List.setIfInBounds_toArray, List.set_cons_zero, List.set_cons_succ]
            refine take_slot (i := 10) (d := 20) (v := ?_) rfl rfl (by kernel_rfl) (by kernel_rfl) (by kernel_rfl) (fun _ _ _ h => h) (Or.inl ⟨by rfl, ?_⟩) (by assumption) ?_
            rotate_left 1
            focus (intro wS hSw; (try dsimp only at hSw); go_simp; try with_reducible rfl)
            try simp only [List.setIfInBounds_toArray, List.set_cons_zero, List.set_cons_succ]
            refine take_slot (i := 11) (d := 21) (v := ?_) rfl rfl (by kernel_rfl) (by kernel_rfl) (by kernel_rfl) (fun _ _ _ h => h) (Or.inl ⟨by rfl, ?_⟩) (by assumption) ?_
            rotate_left 1
            focus (intro wS hSw; (try dsimp only at hSw); go_simp; try with_reducible rfl)
            try simp only [List.setIfInBounds_toArray, List.set_cons_zero, List.set_cons_succ]
            refine take_slot (i := 12) (d := 8) (v := ?_) rfl rfl (by kernel_rfl) (by kernel_rfl) (by kernel_rfl) (fun _ _ _ h => h) (Or.inl ⟨by rfl, ?_⟩) (by assumption) ?_
            rotate_left 1
            focus (intro wS hSw; (try dsimp only at hSw); go_simp; try with_reducible rfl)
            try simp only [List.setIfInBounds_toArray, List.set_cons_zero, List.set_cons_succ]
            refine wpAnyH_done (by kernel_rfl) ?_ _
            replace HT := Lib.hid (HT.out.below hL (by omega))
            replace HO := Lib.hid (own_below HO.out hL)
            replace hB := hB.trans (hL.mono (by omega))
            replace hca := Nat.lt_of_lt_of_le hca hL.size
            clear hHeld hL hBW
            go_wp2_with fail
            have hBW : Z34x3.heap.size ≤ Z34x3.heap.size := Nat.le_refl _
            have hwb35 := hB.size
            refine wp_region_held_drew (S := fun w' => w'.cell? ⟨gR, 0, none⟩ = some (.slice AR 3 cR) ∧ w'.cell? ⟨gR, 1, none⟩ = some (.int .i64 1000) ∧ w'.cell? ⟨gR, 2, none⟩ = some (.int .i64 1) ∧ w'.cell? ⟨gR, 3, none⟩ = some (.int .i64 2) ∧ w'.cell? ⟨gR + 1, 0, none⟩ = some (.int .i64 s0) ∧ w'.cell? ⟨gR + 1, 1, none⟩ = some (.int .i64 s1) ∧ True) (by kernel_rfl) ?_ (fun hHeld => ?_)
            focus (exact ⟨R0, R1, R2, R3, S0, S1, trivial⟩)
            have hL : Below Z34x3.heap.size Z34x3 Z34x3.drew := Below.drew (Below.refl _ _)
            replace R0 : Z34x3.drew.cell? ⟨gR, 0, none⟩ = some (.slice AR 3 cR) := R0
            replace R1 : Z34x3.drew.cell? ⟨gR, 1, none⟩ = some (.int .i64 1000) := R1
            replace R2 : Z34x3.drew.cell? ⟨gR, 2, none⟩ = some (.int .i64 1) := R2
            replace R3 : Z34x3.drew.cell? ⟨gR, 3, none⟩ = some (.int .i64 2) := R3
            replace S0 : Z34x3.drew.cell? ⟨gR + 1, 0, none⟩ = some (.int .i64 s0) := S0
            replace S1 : Z34x3.drew.cell? ⟨gR + 1, 1, none⟩ = some (.int .i64 s1) := S1
            replace mR : gR < Z34x3.drew.heap.size := mR
            replace mS : gR + 1 < Z34x3.drew.heap.size := mS
            generalize hWd : Z34x3.drew = wd35 at hHeld hL R0 R1 R2 R3 S0 S1 mR mS  ⊢
            clear hWd
            refine take_slot (i := 0) (d := 239) (v := ?_) rfl rfl (by kernel_rfl) (by kernel_rfl) (by kernel_rfl) (fun _ _ _ h => h) (Or.inl ⟨by rfl, ?_⟩) (by assumption) ?_
            rotate_left 1
            focus (intro wS hSw; (try dsimp only at hSw); go_simp; try with_reducible rfl)
            try simp only [List.setIfInBounds_toArray, List.set_cons_zero, List.set_cons_succ]
            refine take_slot (i := 1) (d := 240) (v := ?_) rfl rfl (by kernel_rfl) (by kernel_rfl) (by kernel_rfl) (fun _ _ _ h => h) (Or.inl ⟨by rfl, ?_⟩) (by assumption) ?_
            rotate_left 1
            focus (intro wS hSw; (try dsimp only at hSw); go_simp; try with_reducible rfl)
            try simp only [List.setIfInBounds_toArray, List.set_cons_zero, List.set_cons_succ]
            refine take_slot (i := 2) (d := 241) (v := ?_) rfl rfl (by kernel_rfl) (by kernel_rfl) (by kernel_rfl) (fun _ _ _ h => h) (Or.inl ⟨by rfl, ?_⟩) (by assumption) ?_
            rotate_left 1
            focus (intro wS hSw; (try dsimp only at hSw); go_simp; try with_reducible rfl)
            try simp only [List.setIfInBounds_toArray, List.set_cons_zero, List.set_cons_succ]
            refine take_slot (i := 3) (d := 242) (v := ?_) rfl rfl (by kernel_rfl) (by kernel_rfl) (by kernel_rfl) (fun _ _ _ h => h) (Or.inl ⟨by rfl, ?_⟩) (by assumption) ?_
            rotate_left 1
            focus (intro wS hSw; (try dsimp only at hSw); go_simp; try with_reducible rfl)
            try simp only [List.setIfInBounds_toArray, List.set_cons_zero, List.set_cons_succ]
            refine take_slot (i := 4) (d := 243) (v := ?_) rfl rfl (by kernel_rfl) (by kernel_rfl) (by kernel_rfl) (fun _ _ _ h => h) (Or.inl ⟨by rfl, ?_⟩) (by assumption) ?_
            rotate_left 1
            focus (intro wS hSw; (try dsimp only at hSw); go_simp; try with_reducible rfl)
            try simp only [List.setIfInBounds_toArray, List.set_cons_zero, List.set_cons_succ]
            refine take_slot (i := 5) (d := 244) (v := ?_) rfl rfl (by kernel_rfl) (by kernel_rfl) (by kernel_rfl) (fun _ _ _ h => h) (Or.inl ⟨by rfl, ?_⟩) (by assumption) ?_
            rotate_left 1
            focus (intro wS hSw; (try dsimp only at hSw); go_simp; try with_reducible rfl)
            try simp only [List.setIfInBounds_toArray, List.set_cons_zero, List.set_cons_succ]
            refine take_slot (i := 6) (d := 245) (v := ?_) rfl rfl (by kernel_rfl) (by kernel_rfl) (by kernel_rfl) (fun _ _ _ h => h) (Or.inl ⟨by rfl, ?_⟩) (by assumption) ?_
            rotate_left 1
            focus (intro wS hSw; (try dsimp only at hSw); go_simp; try with_reducible rfl)
            try simp only [List.setIfInBounds_toArray, List.set_cons_zero, List.set_cons_succ]
            refine take_slot (i := 8) (d := 247) (v := ?_) rfl rfl (by kernel_rfl) (by kernel_rfl) (by kernel_rfl) (fun _ _ _ h => h) (Or.inl ⟨by rfl, ?_⟩) (by assumption) ?_
            rotate_left 1
            focus (intro wS hSw; (try dsimp only at hSw); go_simp; try with_reducible rfl)
            try simp only [List.setIfInBounds_toArray, List.set_cons_zero, List.set_cons_succ]
            refine wpAnyH_ready (rs := [7]) (by kernel_rfl) (by simp) ?_
            refine AllReadyH.cons rfl (fun K hK => ?_) AllReadyH.nil
            go_simp
            have hb := (Below.refl wd35.heap.size wd35).alloc (Nat.le_refl _) (Obj.cells #[] 31)
            have HQ := Lib.hid (ownsRow_empty wd35 31 2)
            have szq := hL.size
            replace R0 := cell_next hb mR R0
            replace R1 := cell_next hb mR R1
            replace R2 := cell_next hb mR R2
            replace R3 := cell_next hb mR R3
            replace S0 := cell_next hb mS S0
            replace S1 := cell_next hb mS S1
            replace mR := Nat.lt_of_lt_of_le mR hb.size
            replace mS := Nat.lt_of_lt_of_le mS hb.size
            replace hL := hL.trans (hb.mono (Nat.le_trans hBW hL.size))
            have nQ : wd35.heap.size < (wd35.alloc (Obj.cells #[] 31)).heap.size := by simp
            refine hK.out _ _ ⟨R0, R1, R2, R3, S0, S1, trivial⟩ (fun hHeld => ?_)
            clear hK K hb
            generalize wd35.alloc (Obj.cells #[] 31) = Z35x1 at *
            try simp only [Act.put, List.setIfInBounds_toArray, List.set_cons_zero, List.set_cons_succ]
            refine wpAnyH_ready (rs := [9]) (by kernel_rfl) (by simp) ?_
            refine AllReadyH.cons rfl (fun K hK => ?_) AllReadyH.nil
            refine step_append_d _ 248 rfl rfl (.tmp 246) (.tmp 247) 36 rfl wd35.heap.size 31 i0 (.agg #[.int .i64 0, .int .i64 0]) 2 16 Try.underlying36 hi0 hz0 hz1 hz2 rfl (by decide) (.slice (some ⟨wd35.heap.size, 0, none⟩) 0 0) 0 [] rfl HQ.out ⟨g9, 0, none⟩ k c9 (flat hs) rfl (by rw [flat_length, HL.out]) ?_ ?_ (by omega) ?_ ?_ ?_ _ rfl ?_
            · intro j u hj
              rw [Addr.add_lit, Nat.zero_add]
              exact (World.ownsRow.cellAt (own_below HO.out hL) j (by have := (List.getElem?_eq_some_iff.1 hj).1; rw [flat_length, HL.out] at this; omega)).trans hj
            · intro u hu
              simp only [flat, List.mem_flatMap] at hu
              obtain ⟨p, _, hp⟩ := hu
              simp at hp
              rcases hp with rfl | rfl <;> rfl
            · unfold maxLen; omega
            · omega
            · omega
            intro gz cz Z35x2 hown' hgrow hat hlt'
            have HV := Lib.hid (own_row hs (0 + k) (by rw [HL.out]; omega) _ Z35x2 (by simpa using hown'))
            have hKg := Kept.of_grown hgrow
            replace R0 := (hKg.cell (p := ⟨gR, 0, none⟩) mR (fun h => by simp [Value.ownBlock] at h; omega)).trans R0
            replace R1 := (hKg.cell (p := ⟨gR, 1, none⟩) mR (fun h => by simp [Value.ownBlock] at h; omega)).trans R1
            replace R2 := (hKg.cell (p := ⟨gR, 2, none⟩) mR (fun h => by simp [Value.ownBlock] at h; omega)).trans R2
            replace R3 := (hKg.cell (p := ⟨gR, 3, none⟩) mR (fun h => by simp [Value.ownBlock] at h; omega)).trans R3
            replace S0 := (hKg.cell (p := ⟨gR + 1, 0, none⟩) mS (fun h => by simp [Value.ownBlock] at h; omega)).trans S0
            replace S1 := (hKg.cell (p := ⟨gR + 1, 1, none⟩) mS (fun h => by simp [Value.ownBlock] at h; omega)).trans S1
            replace mR := Nat.lt_of_lt_of_le mR hKg.1
            replace mS := Nat.lt_of_lt_of_le mS hKg.1
            replace hL := hL.grown hgrow (by omega) (fun j hj => by simp [Value.ownBlock] at hj; omega)
            refine hK.out _ _ ⟨R0, R1, R2, R3, S0, S1, trivial⟩ (fun hHeld => ?_)
            clear hK K hown' hgrow hat hlt' hKg HQ
            try simp only [Act.put, List.setIfInBounds_toArray, List.set_cons_zero, List.set_cons_succ]
            refine wpAnyH_ready (rs := [10]) (by kernel_rfl) (by simp) ?_
            refine AllReadyH.cons rfl (fun K hK => ?_) AllReadyH.nil
            go_simp
            refine (CK2.out _ _ ((HT.out.below hL (by omega)).mono (by have := hL.size; omega)) HV.out.set).mono ?_
            rintro e Z35x3 ⟨rfl, hb⟩
            replace R0 := cell_next hb mR R0
            replace R1 := cell_next hb mR R1
            replace R2 := cell_next hb mR R2
            replace R3 := cell_next hb mR R3
            replace S0 := cell_next hb mS S0
            replace S1 := cell_next hb mS S1
            replace mR := Nat.lt_of_lt_of_le mR hb.size
            replace mS := Nat.lt_of_lt_of_le mS hb.size
            replace hL := hL.trans (hb.mono (Nat.le_trans hBW hL.size))
            refine hK.out _ _ ⟨R0, R1, R2, R3, S0, S1, trivial⟩ (fun hHeld => ?_)
            clear hK K hb
            try simp only [Act.put, List.setIfInBounds_toArray, List.set_cons_zero, List.set_cons_succ]
            refine take_slot (i := 11) (d := 238) (v := ?_) rfl rfl (by kernel_rfl) (by kernel_rfl) (by kernel_rfl) (fun _ _ _ h => h) (Or.inl ⟨by rfl, ?_⟩) (by assumption) ?_
            rotate_left 1
            focus (intro wS hSw; (try dsimp only at hSw); go_simp; try with_reducible rfl)
            try simp only [List.setIfInBounds_toArray, List.set_cons_zero, List.set_cons_succ]
            refine take_slot (i := 12) (d := 250) (v := ?_) rfl rfl (by kernel_rfl) (by kernel_rfl) (by kernel_rfl) (fun _ _ _ h => h) (Or.inl ⟨by rfl, ?_⟩) (by assumption) ?_
            rotate_left 1
            focus (intro wS hSw; (try dsimp only at hSw); go_simp; try with_reducible rfl)
            try simp only [List.setIfInBounds_toArray, List.set_cons_zero, List.set_cons_succ]
            refine take_slot (i := 13) (d := 251) (v := ?_) rfl rfl (by kernel_rfl) (by kernel_rfl) (by kernel_rfl) (fun _ _ _ h => h) (Or.inl ⟨by rfl, ?_⟩) (by assumption) ?_
            rotate_left 1
            focus (intro wS hSw; (try dsimp only at hSw); go_simp; try with_reducible rfl)
            try simp only [List.setIfInBounds_toArray, List.set_cons_zero, List.set_cons_succ]
            refine take_slot (i := 14) (d := 252) (v := ?_) rfl rfl (by kernel_rfl) (by kernel_rfl) (by kernel_rfl) (fun _ _ _ h => h) (Or.inl ⟨by rfl, ?_⟩) (by assumption) ?_
            rotate_left 1
            focus (intro wS hSw; (try dsimp only at hSw); go_simp; try with_reducible rfl)
            try simp only [List.setIfInBounds_toArray, List.set_cons_zero, List.set_cons_succ]
            refine take_slot (i := 15) (d := 22) (v := ?_) rfl rfl (by kernel_rfl) (by kernel_rfl) (by kernel_rfl) (fun _ _ _ h => h) (Or.inl ⟨by rfl, ?_⟩) (by assumption) ?_
            rotate_left 1
            focus (intro wS hSw; (try dsimp only at hSw); go_simp; try with_reducible rfl)
            try simp only [List.setIfInBounds_toArray, List.set_cons_zero, List.set_cons_succ]
            refine take_slot (i := 16) (d := 23) (v := ?_) rfl rfl (by kernel_rfl) (by kernel_rfl) (by kernel_rfl) (fun _ _ _ h => h) (Or.inl ⟨by rfl, ?_⟩) (by assumption) ?_
            rotate_left 1
            focus (intro wS hSw; (try dsimp only at hSw); go_simp; try with_reducible rfl)
            try simp only [List.setIfInBounds_toArray, List.set_cons_zero, List.set_cons_succ]
            refine take_slot (i := 17) (d := 24) (v := ?_) rfl rfl (by kernel_rfl) (by kernel_rfl) (by kernel_rfl) (fun _ _ _ h => h) (Or.inl ⟨by rfl, ?_⟩) (by assumption) ?_
            rotate_left 1
            focus (intro wS hSw; (try dsimp only at hSw); go_simp; try with_reducible rfl)
            try simp only [List.setIfInBounds_toArray, List.set_cons_zero, List.set_cons_succ]
            refine wpAnyH_done (by kernel_rfl) ?_ _
            replace HT := Lib.hid (HT.out.below hL (by omega))
            replace HO := Lib.hid (own_below HO.out hL)
            replace hB := hB.trans (hL.mono (by omega))
            replace hca := Nat.lt_of_lt_of_le hca hL.size
            clear hHeld hL hBW
            cases lb
            · obtain ⟨hl2, hl3⟩ := hl1 rfl
              go_wp2_with fail
              refine (CN.out _).mono ?_
              rintro e Wz ⟨rfl, hb⟩
              go_wp2_with fail
              go_ret
              exact ⟨rfl, hB.trans (hb.mono hB.size)⟩
            · go_wp2_with fail
              refine (CN.out _).mono ?_
              rintro e Wz ⟨rfl, hb⟩
              go_wp2_with fail
              go_ret
              exact ⟨rfl, hB.trans (hb.mono hB.size)⟩
end Go.Proofs.Ytfdaiififoomoaa
