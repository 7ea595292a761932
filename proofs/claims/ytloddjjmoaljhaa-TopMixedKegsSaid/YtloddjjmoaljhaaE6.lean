/- TopMixedKegs whole: kegs that are poured together, what is drawn from them and what is left. -/
import Derived.Test.YtloddjjmoaljhaaE5
namespace Go.Proofs.Ytloddjjmoaljhaa
open Go.RowKit Go.Lib Go.Shelf
set_option linter.unusedVariables false
set_option linter.unusedSimpArgs false
attribute [local go_sem ↓] Go.wp_at_zero Go.wp_at_succ

theorem R3.far {base : Nat} {W : World} {V5 V6 V7 : Value} {n5 n6 n7 : Nat} {L5 L6 L7 : List Value} (h : R3 base W V5 V6 V7 n5 n6 n7 L5 L6 L7) {b : Nat} (h5 : ∀ g, V5.ownBlock = some g → g < b) (h6 : ∀ g, V6.ownBlock = some g → g < b) (h7 : ∀ g, V7.ownBlock = some g → g < b) (o : Nat) (x : Value) : R3 base (W.setCell ⟨b, o, none⟩ x) V5 V6 V7 n5 n6 n7 L5 L6 L7 :=
  ⟨own_set1 h.1 (fun e => by have := h5 _ e; omega) o x, own_set1 h.2.1 (fun e => by have := h6 _ e; omega) o x, own_set1 h.2.2.1 (fun e => by have := h7 _ e; omega) o x, h.2.2.2⟩
theorem suff2' {R G : Nat → Nat → World → Prop} {P : Prop} (main : (∀ g1 g2 W, R g1 g2 W → G g1 g2 W) → P) (key : ∀ g1 g2 W, R g1 g2 W → G g1 g2 W) : P := main key
theorem step_append_d {P : Program} (w : World) {ops : Array Oper} {o : Oper} {a : Act} {K : Act → World → Prop} {Q : Exit → Act → World → Prop} {E : Prop} (d : Nat) (hd : o.dst = some d) (hgd : o.guard = none) (s x : Operand) (t : TypeId)
    (ho : o.op = .call { callee := .builtin .append, args := #[s, x], argTypes := #[t, t] })
    (base : Nat) (e : TypeId) (i : TypeInfo) (z : Value) (size bytes : Nat) (ht : P.underlying t = some (.slice e)) (hi : P.info? e = some i) (hz : i.zero = some z)
    (hsize : i.size = size) (hby : i.bytes = bytes) (hzs : z.cells.size = size) (hsz : 0 < size)
    (v : Value) (n : Nat) (xs : List Value) (hs : a.eval s = v) (hown : w.ownsRow base e size v n xs)
    (ad : Addr) (m c : Nat) (news : List Value) (hx : a.eval x = .slice (some ad) m c) (hl : news.length = m * size) (hnews : ∀ j u, news[j]? = some u → w.cell? (ad.add j) = some u) (h1 : ∀ u ∈ news, u.oneCell' = true)
    (hm : 0 < m) (h63 : n + m ≤ maxLen) (hbytes : (n + m) * bytes ≤ 140737488355328) (hbase : base ≤ w.heap.size) (H : Nat) (hH : w.heap.size = H)
    (h : ∀ g cap w', w'.ownsRow base e size (.slice (some ⟨g, 0, none⟩) (n + m) cap) (n + m) (xs ++ news) → w.grownBy w' v.ownBlock → (v.ownBlock = some g ∨ g = H) → g < w'.heap.size → K (a.put (some d) (.slice (some ⟨g, 0, none⟩) (n + m) cap)) w') :
    if Region.wanted o (yielded ops a.tmps) = true then Oper.wp P o a w K Q else E :=
  step_append_lies w hgd s x t ho base e i z size bytes ht hi hz hsize hby hzs hsz v n xs hs hown ad m c news hx hl hnews h1 hm h63 hbytes hbase H hH (fun g cap w' h1 h2 h3 h4 => by rw [hd]; exact h g cap w' h1 h2 h3 h4)

theorem su_small : ∀ (xs : List Kg) (acc : Int × Int), (∀ p ∈ xs, p.a ≤ 65536 ∧ p.s ≤ 65536) → ((sps xs).foldl addP acc).1 ≤ acc.1 + 65536 * xs.length ∧ ((sps xs).foldl addP acc).2 ≤ acc.2 + 65536 * xs.length := by
  intro xs
  induction xs with
  | nil => intro acc _; simp [sps]
  | cons p xs ih =>
    intro acc h
    obtain ⟨h1, h2⟩ := h p (List.mem_cons_self ..)
    have := ih (addP acc (p.a, p.s)) (fun q hq => h q (List.mem_cons_of_mem _ hq))
    have e : (sps (p :: xs)).foldl addP acc = (sps xs).foldl addP (addP acc (p.a, p.s)) := rfl
    rw [e]
    have e1 : (addP acc (p.a, p.s)).1 = acc.1 + p.a := rfl
    have e2 : (addP acc (p.a, p.s)).2 = acc.2 + p.s := rfl
    rw [e1, e2] at this
    simp only [List.length_cons]
    omega
theorem own_keg1 (p : Kg) (w : World) : (w.alloc (.cells #[.int .i64 p.a, .int .i64 p.s, .int .i64 p.l, .int .i64 p.f] 37)).ownsRow w.heap.size 37 4 (.slice (some ⟨w.heap.size, 0, none⟩) 1 1) 1 (flatK [p]) :=
  ⟨rfl, .inr ⟨w.heap.size, 1, #[.int .i64 p.a, .int .i64 p.s, .int .i64 p.l, .int .i64 p.f], rfl, Nat.le_refl _, heap_alloc_new w _, Nat.le_refl _, by decide, rfl, rfl⟩⟩

set_option maxRecDepth 40000 in
set_option maxHeartbeats 8000000 in
theorem mixedKegs_walk (v0 : Value) (ps : List (Int × Int × Int)) (part : Int) (w : World) (hv : T16At w v0 ps) (hp0 : 0 ≤ part) (hp1 : part ≤ 65535) :
    Calls Try.prog 3 #[v0, .int .u16 part] w fun e w' => e = .returned (.bool true) ∧ Below w.heap.size w w' := by
  have CN := Lib.hid knownKegs_true
  obtain ⟨A0, c0, rfl, hr⟩ := hv
  by_cases hn : 1 ≤ ps.length ∧ ps.length ≤ 12
  case neg =>
    clear hr
    generalize ps.length = n at *
    by_cases h1 : n < 1
    · have t1 : decide ((n : Int) < 1) = true := by simp; omega
      go_enter Try.func3, Try.ntmps3
      go_wp2_with fail
      refine (CN.out _).mono ?_
      rintro e w1 ⟨rfl, hb⟩
      go_wp2_with fail
      go_ret
      exact ⟨rfl, hb⟩
    · have t1 : decide ((n : Int) < 1) = false := by simp; omega
      have t2 : decide ((12 : Int) < (n : Int)) = true := by simp; omega
      go_enter Try.func3, Try.ntmps3
      go_wp2_with fail
      refine (CN.out _).mono ?_
      rintro e w1 ⟨rfl, hb⟩
      go_wp2_with fail
      go_ret
      exact ⟨rfl, hb⟩
  obtain ⟨hn1, hn2⟩ := hn
  obtain ⟨g, off, rfl, hg, hR⟩ := hr (by omega)
  obtain ⟨i0, hi0, hiz0, hiz1, hiz2⟩ := info_parts infoKeg
  obtain ⟨j0, hj0, hjz0, hjz1, hjz2⟩ := info_parts infoSap
  obtain ⟨r0, hr0, hrz0, hrz1, hrz2⟩ := info_parts infoRng
  have hU : ∀ p ∈ ps, U16 p := fun p hp => by
    obtain ⟨k, hk, e⟩ := List.mem_iff_getElem.1 hp
    exact (hR k p (by rw [List.getElem?_eq_getElem hk, e])).2
  have hall := kgT_all hU
  obtain ⟨ks, hks⟩ : ∃ ks, ps.map kgT = ks := ⟨_, rfl⟩
  rw [hks] at hall
  have hklen : ks.length = ps.length := by rw [← hks]; simp
  have HSM : Hid (∀ p ∈ ks, p.a ≤ 65536 ∧ p.s ≤ 65536) := Lib.hid (fun q hq => by
    rw [← hks] at hq
    obtain ⟨p, hp, rfl⟩ := List.mem_map.1 hq
    obtain ⟨h1, h2, h3, h4, _⟩ := hU p hp
    exact ⟨by show p.1 ≤ _; omega, by show 1 + p.2.1 ≤ _; omega⟩)
  have HP : Hid (∀ (k : Nat) (x y z : Int), ps[k]? = some (x, y, z) → ks[k]? = some (⟨x, 1 + y, z.tmod 1001, 1 + z.tmod 9⟩ : Kg)) := Lib.hid (fun k x y z h => by rw [← hks, List.getElem?_map, h]; rfl)
  have HR := Lib.hid hR
  have HK := Lib.hid hall
  obtain ⟨n, hnn⟩ : ∃ n, ps.length = n := ⟨_, rfl⟩
  rw [hnn] at hn1 hn2 hklen ⊢
  have Hn := Lib.hid hnn
  have HL := Lib.hid hklen
  have HNEXT : Hid (∀ (k : Nat) (x y z lo hi : Int), ps[k]? = some (x, y, z) → brL x (1 + y) = lo → brH x (1 + y) = hi → ∀ W V5 V6 V7, R3 w.heap.size W V5 V6 V7 (k + 1) (k + 1) (k + 1) (flatK (ks.take k) ++ [.int .i64 x, .int .i64 (1 + y), .int .i64 (z.tmod 1001), .int .i64 (1 + z.tmod 9)]) (flat (sps (ks.take k)) ++ [.int .i64 x, .int .i64 (1 + y)]) (flat ((ks.take k).map brK) ++ [.int .i64 lo, .int .i64 hi]) → R3 w.heap.size W V5 V6 V7 (k + 1) (k + 1) (k + 1) (flatK (ks.take (k + 1))) (flat (sps (ks.take (k + 1)))) (flat ((ks.take (k + 1)).map brK))) := Lib.hid (fun k x y z lo hi h e1 e2 W V5 V6 V7 hr => by
    have hk := HP.out k x y z h
    rw [sps_take hk]
    rw [List.take_add_one, hk, Option.toList_some, flatK_append, flatK_one, List.map_append, flat_append, flat_append, flat_one]
    have e3 : flat (List.map brK [⟨x, 1 + y, z.tmod 1001, 1 + z.tmod 9⟩]) = [.int .i64 lo, .int .i64 hi] := by rw [← e1, ← e2]; rfl
    rw [e3]
    exact hr)
  have t1 : decide ((n : Int) < 1) = false := by simp; omega
  have t2 : decide ((12 : Int) < (n : Int)) = false := by simp; omega
  clear hnn hR hU hks hall hklen hr
  go_enter Try.func3, Try.ntmps3
  go_wp2_with fail
  go_loopw [8, 5, 6, 7] (fun i V5 V6 V7 wr => ∃ k : Nat, k ≤ n ∧ i = .int .i64 k ∧ Hid (R3 w.heap.size wr V5 V6 V7 k k k (flatK (ks.take k)) (flat (sps (ks.take k))) (flat ((ks.take k).map brK))) ∧ Below w.heap.size w wr) (fun i _ _ _ _ => n - (RowKit.intOf i).toNat)
  case atStart => exact ⟨0, Nat.zero_le _, rfl, Lib.hid (R3.start w), (below_al2 w _ _).alloc (by simp; omega) _⟩
  case round =>
    obtain ⟨k, hk, rfl, HO, hbr⟩ := hrel
    have hBW := hbr.size
    have hBW0 := hbr.size
    by_cases hlt : k < n
    · obtain ⟨⟨x, y, z⟩, hp⟩ : ∃ p, ps[k]? = some p := ⟨_, List.getElem?_eq_getElem (by rw [Hn.out]; exact hlt)⟩
      obtain ⟨⟨q0, q1, q2⟩, ub1, ub2, ub3, ub4, ub5, ub6⟩ := HR.out k _ hp
      dsimp only at q0 q1 q2 ub1 ub2 ub3 ub4 ub5 ub6
      replace q0 := cell_next hbr hg q0
      replace q1 := cell_next hbr hg q1
      replace q2 := cell_next hbr hg q2
      have ng : g < wr.heap.size := Nat.lt_of_lt_of_le hg hbr.size
      have hob5 : ∀ g, u5.ownBlock = some g → g < wr.heap.size := fun g h => (World.ownsRow.lt HO.out.1 g h).2
      have hob6 : ∀ g, u6.ownBlock = some g → g < wr.heap.size := fun g h => (World.ownsRow.lt HO.out.2.1 g h).2
      have hob7 : ∀ g, u7.ownBlock = some g → g < wr.heap.size := fun g h => (World.ownsRow.lt HO.out.2.2.1 g h).2
      have hob5a : ∀ g, u5.ownBlock = some g → w.heap.size ≤ g := fun g h => (World.ownsRow.lt HO.out.1 g h).1
      have hob6a : ∀ g, u6.ownBlock = some g → w.heap.size ≤ g := fun g h => (World.ownsRow.lt HO.out.2.1 g h).1
      have hob7a : ∀ g, u7.ownBlock = some g → w.heap.size ≤ g := fun g h => (World.ownsRow.lt HO.out.2.2.1 g h).1
      have v1 : IntKind.i64.wrap x = x := IntWalk.i64_in _ (by omega)
      have v2 : IntKind.i64.wrap y = y := IntWalk.i64_in _ (by omega)
      have v3 : IntKind.i64.wrap z = z := IntWalk.i64_in _ (by omega)
      have v4 : IntKind.i64.wrap (1 + y) = 1 + y := IntWalk.i64_in _ (by omega)
      have m1 := Int.tmod_nonneg 1001 ub5
      have m2 := Int.tmod_lt_of_pos z (show (0 : Int) < 1001 by omega)
      have m3 := Int.tmod_nonneg 9 ub5
      have m4 := Int.tmod_lt_of_pos z (show (0 : Int) < 9 by omega)
      have v5 : IntKind.i64.wrap (z.tmod 1001) = z.tmod 1001 := IntWalk.i64_in _ (by omega)
      have v6 : IntKind.i64.wrap (z.tmod 9) = z.tmod 9 := IntWalk.i64_in _ (by omega)
      have v7 : IntKind.i64.wrap (1 + z.tmod 9) = 1 + z.tmod 9 := IntWalk.i64_in _ (by omega)
      obtain ⟨bE, _, _⟩ := br_is (a := x) (s := 1 + y) (by omega) (by omega) (by omega) (by omega) (by omega)
      have CB := Lib.hid (brix_any x (1 + y))
      rw [bE] at CB
      obtain ⟨lo, hlo⟩ : ∃ lo, brL x (1 + y) = lo := ⟨_, rfl⟩
      obtain ⟨hi, hhi⟩ : ∃ hi, brH x (1 + y) = hi := ⟨_, rfl⟩
      rw [hlo, hhi] at CB
      replace HNEXT := Lib.hid (fun W V5 V6 V7 hr => HNEXT.out k x y z lo hi hp hlo hhi W V5 V6 V7 hr)
      clear ub1 ub2 ub3 ub4 ub5 ub6 m1 m2 m3 m4 bE hp hlo hhi
      go_wp2_with fail
      refine wp_region_held_drew (S := fun w' => w'.cell? ⟨g, off + k * 3, none⟩ = some (.int .u16 x) ∧ w'.cell? ⟨g, off + k * 3 + 1, none⟩ = some (.int .u16 y) ∧ True) (by kernel_rfl) ?_ (fun hHeld => ?_)
      focus (exact ⟨q0, q1, trivial⟩)
      have hL : Below w.heap.size wr wr.drew := Below.drew (Below.refl _ _)
      replace q0 : wr.drew.cell? ⟨g, off + k * 3, none⟩ = some (.int .u16 x) := q0
      replace q1 : wr.drew.cell? ⟨g, off + k * 3 + 1, none⟩ = some (.int .u16 y) := q1
      replace q2 : wr.drew.cell? ⟨g, off + k * 3 + 2, none⟩ = some (.int .u16 z) := q2
      replace ng : g < wr.drew.heap.size := ng
      replace HO := Lib.hid HO.out.drew
      generalize hWd : wr.drew = wd7 at hHeld hL q0 q1 q2 ng HO ⊢
      clear hWd
      refine take_slot (i := 0) (d := 42) (v := ?_) rfl rfl (by kernel_rfl) (by kernel_rfl) (by kernel_rfl) (fun _ _ _ h => h) (Or.inl ⟨by rfl, ?_⟩) (by assumption) ?_
      rotate_left 1
      focus (intro wS hSw; (try dsimp only at hSw); go_simp; try with_reducible rfl)
      try simp only [List.setIfInBounds_toArray, List.set_cons_zero, List.set_cons_succ]
      refine take_slot (i := 1) (d := 43) (v := ?_) rfl rfl (by kernel_rfl) (by kernel_rfl) (by kernel_rfl) (fun _ _ _ h => h) (Or.inl ⟨by rfl, ?_⟩) (by assumption) ?_
      rotate_left 1
      focus (intro wS hSw; (try dsimp only at hSw); go_simp; try with_reducible rfl)
      try simp only [List.setIfInBounds_toArray, List.set_cons_zero, List.set_cons_succ]
      refine take_slot (i := 2) (d := 44) (v := ?_) rfl rfl (by kernel_rfl) (by kernel_rfl) (by kernel_rfl) (fun _ _ _ h => h) (Or.inl ⟨by rfl, ?_⟩) (by assumption) ?_
      rotate_left 1
      focus (intro wS hSw; (try dsimp only at hSw); go_simp; try with_reducible rfl)
      try simp only [List.setIfInBounds_toArray, List.set_cons_zero, List.set_cons_succ]
      refine take_slot (i := 3) (d := 45) (v := ?_) rfl rfl (by kernel_rfl) (by kernel_rfl) (by kernel_rfl) (fun _ _ _ h => h) (Or.inl ⟨by rfl, ?_⟩) (by assumption) ?_
      rotate_left 1
      focus (intro wS hSw; (try dsimp only at hSw); go_simp; try with_reducible rfl)
      try simp only [List.setIfInBounds_toArray, List.set_cons_zero, List.set_cons_succ]
      refine take_slot (i := 4) (d := 46) (v := ?_) rfl rfl (by kernel_rfl) (by kernel_rfl) (by kernel_rfl) (fun _ _ _ h => h) (Or.inl ⟨by rfl, ?_⟩) (by assumption) ?_
      rotate_left 1
      focus (intro wS hSw; (try dsimp only at hSw); go_simp; try with_reducible rfl)
      try simp only [List.setIfInBounds_toArray, List.set_cons_zero, List.set_cons_succ]
      refine take_slot (i := 5) (d := 47) (v := ?_) rfl rfl (by kernel_rfl) (by kernel_rfl) (by kernel_rfl) (fun _ _ _ h => h) (Or.inl ⟨by rfl, ?_⟩) (by assumption) ?_
      rotate_left 1
      focus (intro wS hSw; (try dsimp only at hSw); go_simp; try with_reducible rfl)
      try simp only [List.setIfInBounds_toArray, List.set_cons_zero, List.set_cons_succ]
      refine take_slot (i := 6) (d := 48) (v := ?_) rfl rfl (by kernel_rfl) (by kernel_rfl) (by kernel_rfl) (fun _ _ _ h => h) (Or.inl ⟨by rfl, ?_⟩) (by assumption) ?_
      rotate_left 1
      focus (intro wS hSw; (try dsimp only at hSw); go_simp; try with_reducible rfl)
      try simp only [List.setIfInBounds_toArray, List.set_cons_zero, List.set_cons_succ]
      refine take_slot (i := 7) (d := 49) (v := ?_) rfl rfl (by kernel_rfl) (by kernel_rfl) (by kernel_rfl) (fun _ _ _ h => h) (Or.inl ⟨by rfl, ?_⟩) (by assumption) ?_
      rotate_left 1
      focus (intro wS hSw; (try dsimp only at hSw); go_simp; try with_reducible rfl)
      try simp only [List.setIfInBounds_toArray, List.set_cons_zero, List.set_cons_succ]
      refine take_slot (i := 8) (d := 50) (v := ?_) rfl rfl (by kernel_rfl) (by kernel_rfl) (by kernel_rfl) (fun _ _ _ h => h) (Or.inl ⟨by rfl, ?_⟩) (by assumption) ?_
      rotate_left 1
      focus (intro wS hSw; (try dsimp only at hSw); go_simp; try with_reducible rfl)
      try simp only [List.setIfInBounds_toArray, List.set_cons_zero, List.set_cons_succ]
      refine take_slot (i := 9) (d := 51) (v := ?_) rfl rfl (by kernel_rfl) (by kernel_rfl) (by kernel_rfl) (fun _ _ _ h => h) (Or.inl ⟨by rfl, ?_⟩) (by assumption) ?_
      rotate_left 1
      focus (intro wS hSw; (try dsimp only at hSw); go_simp; try with_reducible rfl)
      try simp only [List.setIfInBounds_toArray, List.set_cons_zero, List.set_cons_succ]
      refine take_slot (i := 10) (d := 52) (v := ?_) rfl rfl (by kernel_rfl) (by kernel_rfl) (by kernel_rfl) (fun _ _ _ h => h) (Or.inl ⟨by rfl, ?_⟩) (by assumption) ?_
      rotate_left 1
      focus (intro wS hSw; (try dsimp only at hSw); go_simp; try with_reducible rfl)
      try simp only [List.setIfInBounds_toArray, List.set_cons_zero, List.set_cons_succ]
      refine take_slot (i := 11) (d := 53) (v := ?_) rfl rfl (by kernel_rfl) (by kernel_rfl) (by kernel_rfl) (fun _ _ _ h => h) (Or.inl ⟨by rfl, ?_⟩) (by assumption) ?_
      rotate_left 1
      focus (intro wS hSw; (try dsimp only at hSw); go_simp; try with_reducible rfl)
      try simp only [List.setIfInBounds_toArray, List.set_cons_zero, List.set_cons_succ]
      refine take_slot (i := 12) (d := 54) (v := ?_) rfl rfl (by kernel_rfl) (by kernel_rfl) (by kernel_rfl) (fun _ _ _ h => h) (Or.inl ⟨by rfl, ?_⟩) (by assumption) ?_
      rotate_left 1
      focus (intro wS hSw; (try dsimp only at hSw); go_simp; try with_reducible rfl)
      try simp only [List.setIfInBounds_toArray, List.set_cons_zero, List.set_cons_succ]
      refine take_slot (i := 13) (d := 55) (v := ?_) rfl rfl (by kernel_rfl) (by kernel_rfl) (by kernel_rfl) (fun _ _ _ h => h) (Or.inl ⟨by rfl, ?_⟩) (by assumption) ?_
      rotate_left 1
      focus (intro wS hSw; (try dsimp only at hSw); go_simp; try with_reducible rfl)
      try simp only [List.setIfInBounds_toArray, List.set_cons_zero, List.set_cons_succ]
      refine wpAnyH_ready (rs := [14]) (by kernel_rfl) (by simp) ?_
      refine AllReadyH.cons rfl (fun K hK => ?_) AllReadyH.nil
      go_simp
      have hb := (Below.refl wd7.heap.size wd7).alloc (Nat.le_refl _) (Obj.cells #[.int .i64 0, .int .i64 0] 30)
      have szZ7x1 := hL.size
      have ord1ng := ng
      replace q0 := cell_next hb ng q0
      replace q1 := cell_next hb ng q1
      replace q2 := cell_next hb ng q2
      replace ng := Nat.lt_of_lt_of_le ng hb.size
      replace hL := hL.trans (hb.mono (Nat.le_trans hBW hL.size))
      replace HO := Lib.hid (HO.out.below hb)
      have Pf0 : (wd7.alloc (Obj.cells #[.int .i64 0, .int .i64 0] 30)).frozen? ⟨wd7.heap.size, 0, none⟩ = false := by simp [go_sem]
      have Pf1 : (wd7.alloc (Obj.cells #[.int .i64 0, .int .i64 0] 30)).frozen? ⟨wd7.heap.size, 1, none⟩ = false := by simp [go_sem]
      have P0 : (wd7.alloc (Obj.cells #[.int .i64 0, .int .i64 0] 30)).cell? ⟨wd7.heap.size, 0, none⟩ = some (.int .i64 0) := cell_new _ _ _ 0
      have P1 : (wd7.alloc (Obj.cells #[.int .i64 0, .int .i64 0] 30)).cell? ⟨wd7.heap.size, 1, none⟩ = some (.int .i64 0) := cell_new _ _ _ 1
      have nP : wd7.heap.size < (wd7.alloc (Obj.cells #[.int .i64 0, .int .i64 0] 30)).heap.size := by simp
      refine hK.out _ _ ⟨q0, q1, trivial⟩ (fun hHeld => ?_)
      clear hK K hb
      generalize wd7.alloc (Obj.cells #[.int .i64 0, .int .i64 0] 30) = Z7x1 at *
      try simp only [Act.put, List.setIfInBounds_toArray, List.set_cons_zero, List.set_cons_succ]
      refine wpAnyH_ready (rs := [15]) (by kernel_rfl) (by simp) ?_
      refine AllReadyH.cons rfl (fun K hK => ?_) AllReadyH.nil
      go_simp
      have hsL := hL.size
      replace HO := Lib.hid ((HO.out.far (b := wd7.heap.size) (fun g h => by have := hob5 g h; omega) (fun g h => by have := hob6 g h; omega) (fun g h => by have := hob7 g h; omega) 0 (.int .i64 x)).far (b := wd7.heap.size) (fun g h => by have := hob5 g h; omega) (fun g h => by have := hob6 g h; omega) (fun g h => by have := hob7 g h; omega) 1 (.int .i64 (1 + y)))
      replace q0 : ((Z7x1.setCell ⟨wd7.heap.size, 0, none⟩ (.int .i64 x)).setCell ⟨wd7.heap.size, 1, none⟩ (.int .i64 (1 + y))).cell? ⟨g, off + k * 3, none⟩ = some (.int .u16 x) := ((World.cell?_setCell_other _ _ _ _ (by intro e; injection e with e1 e2; omega)).trans ((World.cell?_setCell_other _ _ _ _ (by intro e; injection e with e1 e2; omega)).trans q0))
      replace q1 : ((Z7x1.setCell ⟨wd7.heap.size, 0, none⟩ (.int .i64 x)).setCell ⟨wd7.heap.size, 1, none⟩ (.int .i64 (1 + y))).cell? ⟨g, off + k * 3 + 1, none⟩ = some (.int .u16 y) := ((World.cell?_setCell_other _ _ _ _ (by intro e; injection e with e1 e2; omega)).trans ((World.cell?_setCell_other _ _ _ _ (by intro e; injection e with e1 e2; omega)).trans q1))
      replace q2 : ((Z7x1.setCell ⟨wd7.heap.size, 0, none⟩ (.int .i64 x)).setCell ⟨wd7.heap.size, 1, none⟩ (.int .i64 (1 + y))).cell? ⟨g, off + k * 3 + 2, none⟩ = some (.int .u16 z) := ((World.cell?_setCell_other _ _ _ _ (by intro e; injection e with e1 e2; omega)).trans ((World.cell?_setCell_other _ _ _ _ (by intro e; injection e with e1 e2; omega)).trans q2))
      replace Pf0 : ((Z7x1.setCell ⟨wd7.heap.size, 0, none⟩ (.int .i64 x)).setCell ⟨wd7.heap.size, 1, none⟩ (.int .i64 (1 + y))).frozen? ⟨wd7.heap.size, 0, none⟩ = false := by simp [go_sem, Pf0]
      replace Pf1 : ((Z7x1.setCell ⟨wd7.heap.size, 0, none⟩ (.int .i64 x)).setCell ⟨wd7.heap.size, 1, none⟩ (.int .i64 (1 + y))).frozen? ⟨wd7.heap.size, 1, none⟩ = false := by simp [go_sem, Pf1]
      replace P0 : ((Z7x1.setCell ⟨wd7.heap.size, 0, none⟩ (.int .i64 x)).setCell ⟨wd7.heap.size, 1, none⟩ (.int .i64 (1 + y))).cell? ⟨wd7.heap.size, 0, none⟩ = some (.int .i64 x) := by simp [go_sem, P0]
      replace P1 : ((Z7x1.setCell ⟨wd7.heap.size, 0, none⟩ (.int .i64 x)).setCell ⟨wd7.heap.size, 1, none⟩ (.int .i64 (1 + y))).cell? ⟨wd7.heap.size, 1, none⟩ = some (.int .i64 (1 + y)) := by simp [go_sem, P1]
      replace ng : g < ((Z7x1.setCell ⟨wd7.heap.size, 0, none⟩ (.int .i64 x)).setCell ⟨wd7.heap.size, 1, none⟩ (.int .i64 (1 + y))).heap.size := by simpa [World.setCell] using ng
      replace nP : wd7.heap.size < ((Z7x1.setCell ⟨wd7.heap.size, 0, none⟩ (.int .i64 x)).setCell ⟨wd7.heap.size, 1, none⟩ (.int .i64 (1 + y))).heap.size := by simpa [World.setCell] using nP
      replace hL := hL.setCell (p := ⟨wd7.heap.size, 0, none⟩) (by show w.heap.size ≤ wd7.heap.size; omega) (.int .i64 x)
      replace hL := hL.setCell (p := ⟨wd7.heap.size, 1, none⟩) (by show w.heap.size ≤ wd7.heap.size; omega) (.int .i64 (1 + y))
      refine hK.out _ _ ⟨q0, q1, trivial⟩ (fun hHeld => ?_)
      clear hK K
      generalize ((Z7x1.setCell ⟨wd7.heap.size, 0, none⟩ (.int .i64 x)).setCell ⟨wd7.heap.size, 1, none⟩ (.int .i64 (1 + y))) = Z7x2 at *
      try simp only [Act.put, List.setIfInBounds_toArray, List.set_cons_zero, List.set_cons_succ]
      refine wpAnyH_done (by kernel_rfl) ?_ _
      replace hbr := hbr.trans hL
      clear hHeld hL hBW
      have h9 : wr.heap.size ≤ wd7.heap.size := by omega
      clear q0 q1 Pf0 Pf1
      generalize wd7.heap.size = b9 at *
      go_wp2_with fail
      refine (CB.out _).mono ?_
      rintro e w2 ⟨rfl, hb⟩
      replace P0 := cell_next hb nP P0
      replace P1 := cell_next hb nP P1
      replace q2 := cell_next hb ng q2
      replace HO := Lib.hid (HO.out.below hb)
      replace hbr := hbr.trans (hb.mono hbr.size)
      replace nP := Nat.lt_of_lt_of_le nP hb.size
      replace ng := Nat.lt_of_lt_of_le ng hb.size
      have h10 := nP
      clear hb CB
      go_wp2_with fail
      have hb : Below w2.heap.size w2 (w2.alloc (.cells #[.int .i64 lo, .int .i64 hi] 32)) := (Below.refl _ _).alloc (Nat.le_refl _) _
      have D0 : (w2.alloc (.cells #[.int .i64 lo, .int .i64 hi] 32)).cell? ⟨w2.heap.size, 0, none⟩ = some (.int .i64 lo) := cell_new _ _ _ 0
      have D1 : (w2.alloc (.cells #[.int .i64 lo, .int .i64 hi] 32)).cell? ⟨w2.heap.size, 1, none⟩ = some (.int .i64 hi) := cell_new _ _ _ 1
      have nD : w2.heap.size < (w2.alloc (.cells #[.int .i64 lo, .int .i64 hi] 32)).heap.size := by simp
      replace P0 := cell_next hb nP P0
      replace P1 := cell_next hb nP P1
      replace q2 := cell_next hb ng q2
      replace HO := Lib.hid (HO.out.below hb)
      replace hbr := hbr.trans (hb.mono hbr.size)
      replace nP := Nat.lt_of_lt_of_le nP hb.size
      replace ng := Nat.lt_of_lt_of_le ng hb.size
      clear hb
      generalize w2.alloc (.cells #[.int .i64 lo, .int .i64 hi] 32) = w3 at *
      generalize w2.heap.size = b10 at *
      have hBW := hbr.size
      refine wp_region_held_drew (S := fun w' => w'.cell? ⟨b9, 0, none⟩ = some (.int .i64 x) ∧ w'.cell? ⟨b9, 1, none⟩ = some (.int .i64 (1 + y)) ∧ w'.cell? ⟨g, off + k * 3 + 2, none⟩ = some (.int .u16 z) ∧ True) (by kernel_rfl) ?_ (fun hHeld => ?_)
      focus (exact ⟨P0, P1, q2, trivial⟩)
      have hL : Below w.heap.size w3 w3.drew := Below.drew (Below.refl _ _)
      replace P0 : w3.drew.cell? ⟨b9, 0, none⟩ = some (.int .i64 x) := P0
      replace P1 : w3.drew.cell? ⟨b9, 1, none⟩ = some (.int .i64 (1 + y)) := P1
      replace q2 : w3.drew.cell? ⟨g, off + k * 3 + 2, none⟩ = some (.int .u16 z) := q2
      replace D0 : w3.drew.cell? ⟨b10, 0, none⟩ = some (.int .i64 lo) := D0
      replace D1 : w3.drew.cell? ⟨b10, 1, none⟩ = some (.int .i64 hi) := D1
      replace nP : b9 < w3.drew.heap.size := nP
      replace ng : g < w3.drew.heap.size := ng
      replace nD : b10 < w3.drew.heap.size := nD
      replace HO := Lib.hid HO.out.drew
      generalize hWd : w3.drew = wd11 at hHeld hL P0 P1 q2 D0 D1 nP ng nD HO ⊢
      clear hWd
      refine take_slot (i := 0) (d := 63) (v := ?_) rfl rfl (by kernel_rfl) (by kernel_rfl) (by kernel_rfl) (fun _ _ _ h => h) (Or.inl ⟨by rfl, ?_⟩) (by assumption) ?_
      rotate_left 1
      focus (intro wS hSw; (try dsimp only at hSw); go_simp; try with_reducible rfl)
      try simp only [List.setIfInBounds_toArray, List.set_cons_zero, List.set_cons_succ]
      refine take_slot (i := 1) (d := 64) (v := ?_) rfl rfl (by kernel_rfl) (by kernel_rfl) (by kernel_rfl) (fun _ _ _ h => h) (Or.inl ⟨by rfl, ?_⟩) (by assumption) ?_
      rotate_left 1
      focus (intro wS hSw; (try dsimp only at hSw); go_simp; try with_reducible rfl)
      try simp only [List.setIfInBounds_toArray, List.set_cons_zero, List.set_cons_succ]
      refine take_slot (i := 2) (d := 65) (v := ?_) rfl rfl (by kernel_rfl) (by kernel_rfl) (by kernel_rfl) (fun _ _ _ h => h) (Or.inl ⟨by rfl, ?_⟩) (by assumption) ?_
      rotate_left 1
      focus (intro wS hSw; (try dsimp only at hSw); go_simp; try with_reducible rfl)
      try simp only [List.setIfInBounds_toArray, List.set_cons_zero, List.set_cons_succ]
      refine take_slot (i := 3) (d := 66) (v := ?_) rfl rfl (by kernel_rfl) (by kernel_rfl) (by kernel_rfl) (fun _ _ _ h => h) (Or.inl ⟨by rfl, ?_⟩) (by assumption) ?_
      rotate_left 1
      focus (intro wS hSw; (try dsimp only at hSw); go_simp; try with_reducible rfl)
      try simp only [List.setIfInBounds_toArray, List.set_cons_zero, List.set_cons_succ]
      refine take_slot (i := 4) (d := 67) (v := ?_) rfl rfl (by kernel_rfl) (by kernel_rfl) (by kernel_rfl) (fun _ _ _ h => h) (Or.inl ⟨by rfl, ?_⟩) (by assumption) ?_
      rotate_left 1
      focus (intro wS hSw; (try dsimp only at hSw); go_simp; try with_reducible rfl)
      try simp only [List.setIfInBounds_toArray, List.set_cons_zero, List.set_cons_succ]
      refine take_slot (i := 5) (d := 68) (v := ?_) rfl rfl (by kernel_rfl) (by kernel_rfl) (by kernel_rfl) (fun _ _ _ h => h) (Or.inl ⟨by rfl, ?_⟩) (by assumption) ?_
      rotate_left 1
      focus (intro wS hSw; (try dsimp only at hSw); go_simp; try with_reducible rfl)
      try simp only [List.setIfInBounds_toArray, List.set_cons_zero, List.set_cons_succ]
      refine take_slot (i := 6) (d := 69) (v := ?_) rfl rfl (by kernel_rfl) (by kernel_rfl) (by kernel_rfl) (fun _ _ _ h => h) (Or.inl ⟨by rfl, ?_⟩) (by assumption) ?_
      rotate_left 1
      focus (intro wS hSw; (try dsimp only at hSw); go_simp; try with_reducible rfl)
      try simp only [List.setIfInBounds_toArray, List.set_cons_zero, List.set_cons_succ]
      refine take_slot (i := 7) (d := 70) (v := ?_) rfl rfl (by kernel_rfl) (by kernel_rfl) (by kernel_rfl) (fun _ _ _ h => h) (Or.inl ⟨by rfl, ?_⟩) (by assumption) ?_
      rotate_left 1
      focus (intro wS hSw; (try dsimp only at hSw); go_simp; try with_reducible rfl)
      try simp only [List.setIfInBounds_toArray, List.set_cons_zero, List.set_cons_succ]
      refine take_slot (i := 8) (d := 71) (v := ?_) rfl rfl (by kernel_rfl) (by kernel_rfl) (by kernel_rfl) (fun _ _ _ h => h) (Or.inl ⟨by rfl, ?_⟩) (by assumption) ?_
      rotate_left 1
      focus (intro wS hSw; (try dsimp only at hSw); go_simp; try with_reducible rfl)
      try simp only [List.setIfInBounds_toArray, List.set_cons_zero, List.set_cons_succ]
      refine take_slot (i := 9) (d := 72) (v := ?_) rfl rfl (by kernel_rfl) (by kernel_rfl) (by kernel_rfl) (fun _ _ _ h => h) (Or.inl ⟨by rfl, ?_⟩) (by assumption) ?_
      rotate_left 1
      focus (intro wS hSw; (try dsimp only at hSw); go_simp; try with_reducible rfl)
      try simp only [List.setIfInBounds_toArray, List.set_cons_zero, List.set_cons_succ]
      refine take_slot (i := 10) (d := 73) (v := ?_) rfl rfl (by kernel_rfl) (by kernel_rfl) (by kernel_rfl) (fun _ _ _ h => h) (Or.inl ⟨by rfl, ?_⟩) (by assumption) ?_
      rotate_left 1
      focus (intro wS hSw; (try dsimp only at hSw); go_simp; try with_reducible rfl)
      try simp only [List.setIfInBounds_toArray, List.set_cons_zero, List.set_cons_succ]
      refine take_slot (i := 11) (d := 74) (v := ?_) rfl rfl (by kernel_rfl) (by kernel_rfl) (by kernel_rfl) (fun _ _ _ h => h) (Or.inl ⟨by rfl, ?_⟩) (by assumption) ?_
      rotate_left 1
      focus (intro wS hSw; (try dsimp only at hSw); go_simp; try with_reducible rfl)
      try simp only [List.setIfInBounds_toArray, List.set_cons_zero, List.set_cons_succ]
      refine take_slot (i := 12) (d := 75) (v := ?_) rfl rfl (by kernel_rfl) (by kernel_rfl) (by kernel_rfl) (fun _ _ _ h => h) (Or.inl ⟨by rfl, ?_⟩) (by assumption) ?_
      rotate_left 1
      focus (intro wS hSw; (try dsimp only at hSw); go_simp; try with_reducible rfl)
      try simp only [List.setIfInBounds_toArray, List.set_cons_zero, List.set_cons_succ]
      refine take_slot (i := 13) (d := 76) (v := ?_) rfl rfl (by kernel_rfl) (by kernel_rfl) (by kernel_rfl) (fun _ _ _ h => h) (Or.inl ⟨by rfl, ?_⟩) (by assumption) ?_
      rotate_left 1
      focus (intro wS hSw; (try dsimp only at hSw); go_simp; try with_reducible rfl)
      try simp only [List.setIfInBounds_toArray, List.set_cons_zero, List.set_cons_succ]
      refine take_slot (i := 14) (d := 77) (v := ?_) rfl rfl (by kernel_rfl) (by kernel_rfl) (by kernel_rfl) (fun _ _ _ h => h) (Or.inl ⟨by rfl, ?_⟩) (by assumption) ?_
      rotate_left 1
      focus (intro wS hSw; (try dsimp only at hSw); go_simp; try with_reducible rfl)
      try simp only [List.setIfInBounds_toArray, List.set_cons_zero, List.set_cons_succ]
      refine take_slot (i := 15) (d := 78) (v := ?_) rfl rfl (by kernel_rfl) (by kernel_rfl) (by kernel_rfl) (fun _ _ _ h => h) (Or.inl ⟨by rfl, ?_⟩) (by assumption) ?_
      rotate_left 1
      focus (intro wS hSw; (try dsimp only at hSw); go_simp; try with_reducible rfl)
      try simp only [List.setIfInBounds_toArray, List.set_cons_zero, List.set_cons_succ]
      refine take_slot (i := 16) (d := 79) (v := ?_) rfl rfl (by kernel_rfl) (by kernel_rfl) (by kernel_rfl) (fun _ _ _ h => h) (Or.inl ⟨by rfl, ?_⟩) (by assumption) ?_
      rotate_left 1
      focus (intro wS hSw; (try dsimp only at hSw); go_simp; try with_reducible rfl)
      try simp only [List.setIfInBounds_toArray, List.set_cons_zero, List.set_cons_succ]
      refine take_slot (i := 17) (d := 80) (v := ?_) rfl rfl (by kernel_rfl) (by kernel_rfl) (by kernel_rfl) (fun _ _ _ h => h) (Or.inl ⟨by rfl, ?_⟩) (by assumption) ?_
      rotate_left 1
      focus (intro wS hSw; (try dsimp only at hSw); go_simp; try with_reducible rfl)
      try simp only [List.setIfInBounds_toArray, List.set_cons_zero, List.set_cons_succ]
      refine wpAnyH_ready (rs := [18]) (by kernel_rfl) (by simp) ?_
      refine AllReadyH.cons rfl (fun K hK => ?_) AllReadyH.nil
      go_simp
      have hb := (Below.refl wd11.heap.size wd11).alloc (Nat.le_refl _) (Obj.cells #[.int .i64 x, .int .i64 (1 + y), .int .i64 (z.tmod 1001), .int .i64 (1 + z.tmod 9)] 37)
      have szZ11x1 := hL.size
      have ord1nP := nP
      have ord1ng := ng
      have ord1nD := nD
      replace P0 := cell_next hb nP P0
      replace P1 := cell_next hb nP P1
      replace q2 := cell_next hb ng q2
      replace D0 := cell_next hb nD D0
      replace D1 := cell_next hb nD D1
      replace nP := Nat.lt_of_lt_of_le nP hb.size
      replace ng := Nat.lt_of_lt_of_le ng hb.size
      replace nD := Nat.lt_of_lt_of_le nD hb.size
      replace hL := hL.trans (hb.mono (Nat.le_trans hBW hL.size))
      replace HO := Lib.hid (HO.out.below hb)
      have K0 : (wd11.alloc (Obj.cells #[.int .i64 x, .int .i64 (1 + y), .int .i64 (z.tmod 1001), .int .i64 (1 + z.tmod 9)] 37)).cell? ⟨wd11.heap.size, 0, none⟩ = some (.int .i64 x) := cell_new _ _ _ 0
      have K1 : (wd11.alloc (Obj.cells #[.int .i64 x, .int .i64 (1 + y), .int .i64 (z.tmod 1001), .int .i64 (1 + z.tmod 9)] 37)).cell? ⟨wd11.heap.size, 1, none⟩ = some (.int .i64 (1 + y)) := cell_new _ _ _ 1
      have K2 : (wd11.alloc (Obj.cells #[.int .i64 x, .int .i64 (1 + y), .int .i64 (z.tmod 1001), .int .i64 (1 + z.tmod 9)] 37)).cell? ⟨wd11.heap.size, 2, none⟩ = some (.int .i64 (z.tmod 1001)) := cell_new _ _ _ 2
      have K3 : (wd11.alloc (Obj.cells #[.int .i64 x, .int .i64 (1 + y), .int .i64 (z.tmod 1001), .int .i64 (1 + z.tmod 9)] 37)).cell? ⟨wd11.heap.size, 3, none⟩ = some (.int .i64 (1 + z.tmod 9)) := cell_new _ _ _ 3
      have nK : wd11.heap.size < (wd11.alloc (Obj.cells #[.int .i64 x, .int .i64 (1 + y), .int .i64 (z.tmod 1001), .int .i64 (1 + z.tmod 9)] 37)).heap.size := by simp
      refine hK.out _ _ ⟨P0, P1, q2, trivial⟩ (fun hHeld => ?_)
      clear hK K hb
      generalize wd11.alloc (Obj.cells #[.int .i64 x, .int .i64 (1 + y), .int .i64 (z.tmod 1001), .int .i64 (1 + z.tmod 9)] 37) = Z11x1 at *
      try simp only [Act.put, List.setIfInBounds_toArray, List.set_cons_zero, List.set_cons_succ]
      refine wpAnyH_ready (rs := [19]) (by kernel_rfl) (by simp) ?_
      refine AllReadyH.cons rfl (fun K hK => ?_) AllReadyH.nil
      refine step_append_d _ 82 rfl rfl (.tmp 63) (.tmp 81) 25 rfl w.heap.size 37 i0 (.agg #[.int .i64 0, .int .i64 0, .int .i64 0, .int .i64 0]) 4 32 Try.underlying25 hi0 hiz0 hiz1 hiz2 rfl (by decide) u5 k (flatK (ks.take k)) rfl HO.out.1 ⟨wd11.heap.size, 0, none⟩ 1 1 [.int .i64 x, .int .i64 (1 + y), .int .i64 (z.tmod 1001), .int .i64 (1 + z.tmod 9)] rfl rfl ?_ ?_ (by decide) ?_ ?_ ?_ _ rfl ?_
      · intro j u hj
        rcases j with _ | _ | _ | _ | j
        · simp at hj; subst hj; exact K0
        · simp at hj; subst hj; exact K1
        · simp at hj; subst hj; exact K2
        · simp at hj; subst hj; exact K3
        · simp at hj
      · simp [Value.oneCell']
      · unfold maxLen; omega
      · omega
      · have := hL.size; omega
      intro g5 c5 Z11x2 hown' hgrow hat hlt'
      replace HO := Lib.hid (HO.out.app5 rfl hown' hgrow hat)
      have hsL := hL.size
      replace P0 := grown_keep hgrow nP (fun e => by have h1 := hob5 _ e; have h2 := hob5a _ e; omega) P0
      replace P1 := grown_keep hgrow nP (fun e => by have h1 := hob5 _ e; have h2 := hob5a _ e; omega) P1
      replace q2 := grown_keep hgrow ng (fun e => by have h1 := hob5 _ e; have h2 := hob5a _ e; omega) q2
      replace D0 := grown_keep hgrow nD (fun e => by have h1 := hob5 _ e; have h2 := hob5a _ e; omega) D0
      replace D1 := grown_keep hgrow nD (fun e => by have h1 := hob5 _ e; have h2 := hob5a _ e; omega) D1
      replace K0 := grown_keep hgrow nK (fun e => by have h1 := hob5 _ e; have h2 := hob5a _ e; omega) K0
      replace K1 := grown_keep hgrow nK (fun e => by have h1 := hob5 _ e; have h2 := hob5a _ e; omega) K1
      replace K2 := grown_keep hgrow nK (fun e => by have h1 := hob5 _ e; have h2 := hob5a _ e; omega) K2
      replace K3 := grown_keep hgrow nK (fun e => by have h1 := hob5 _ e; have h2 := hob5a _ e; omega) K3
      replace nP := Nat.lt_of_lt_of_le nP hgrow.size
      replace ng := Nat.lt_of_lt_of_le ng hgrow.size
      replace nD := Nat.lt_of_lt_of_le nD hgrow.size
      replace nK := Nat.lt_of_lt_of_le nK hgrow.size
      replace hL := hL.grown hgrow (by omega) (fun g h => hob5a g h)
      refine hK.out _ _ ⟨P0, P1, q2, trivial⟩ (fun hHeld => ?_)
      clear hK K hown' hgrow hat hlt' hsL
      try simp only [Act.put, List.setIfInBounds_toArray, List.set_cons_zero, List.set_cons_succ]
      refine take_slot (i := 20) (d := 5) (v := ?_) rfl rfl (by kernel_rfl) (by kernel_rfl) (by kernel_rfl) (fun _ _ _ h => h) (Or.inl ⟨by rfl, ?_⟩) (by assumption) ?_
      rotate_left 1
      focus (intro wS hSw; (try dsimp only at hSw); go_simp; try with_reducible rfl)
      try simp only [List.setIfInBounds_toArray, List.set_cons_zero, List.set_cons_succ]
      refine wpAnyH_done (by kernel_rfl) ?_ _
      replace hbr := hbr.trans hL
      clear hHeld hL hBW
      clear K0 K1 K2 K3 nK q2 ng
      go_wp2_with fail
      generalize Z11x2 = w4 at *
      have hBW := hbr.size
      refine wp_region_held_drew (S := fun w' => w'.cell? ⟨b9, 0, none⟩ = some (.int .i64 x) ∧ w'.cell? ⟨b9, 1, none⟩ = some (.int .i64 (1 + y)) ∧ w'.cell? ⟨b10, 0, none⟩ = some (.int .i64 lo) ∧ w'.cell? ⟨b10, 1, none⟩ = some (.int .i64 hi) ∧ True) (by kernel_rfl) ?_ (fun hHeld => ?_)
      focus (exact ⟨P0, P1, D0, D1, trivial⟩)
      have hL : Below w.heap.size w4 w4.drew := Below.drew (Below.refl _ _)
      replace P0 : w4.drew.cell? ⟨b9, 0, none⟩ = some (.int .i64 x) := P0
      replace P1 : w4.drew.cell? ⟨b9, 1, none⟩ = some (.int .i64 (1 + y)) := P1
      replace D0 : w4.drew.cell? ⟨b10, 0, none⟩ = some (.int .i64 lo) := D0
      replace D1 : w4.drew.cell? ⟨b10, 1, none⟩ = some (.int .i64 hi) := D1
      replace nP : b9 < w4.drew.heap.size := nP
      replace nD : b10 < w4.drew.heap.size := nD
      replace HO := Lib.hid HO.out.drew
      generalize hWd : w4.drew = wd12 at hHeld hL P0 P1 D0 D1 nP nD HO ⊢
      clear hWd
      refine take_slot (i := 0) (d := 83) (v := ?_) rfl rfl (by kernel_rfl) (by kernel_rfl) (by kernel_rfl) (fun _ _ _ h => h) (Or.inl ⟨by rfl, ?_⟩) (by assumption) ?_
      rotate_left 1
      focus (intro wS hSw; (try dsimp only at hSw); go_simp; try with_reducible rfl)
      try simp only [List.setIfInBounds_toArray, List.set_cons_zero, List.set_cons_succ]
      refine take_slot (i := 1) (d := 84) (v := ?_) rfl rfl (by kernel_rfl) (by kernel_rfl) (by kernel_rfl) (fun _ _ _ h => h) (Or.inl ⟨by rfl, ?_⟩) (by assumption) ?_
      rotate_left 1
      focus (intro wS hSw; (try dsimp only at hSw); go_simp; try with_reducible rfl)
      try simp only [List.setIfInBounds_toArray, List.set_cons_zero, List.set_cons_succ]
      refine take_slot (i := 4) (d := 87) (v := ?_) rfl rfl (by kernel_rfl) (by kernel_rfl) (by kernel_rfl) (fun _ _ _ h => h) (Or.inl ⟨by rfl, ?_⟩) (by assumption) ?_
      rotate_left 1
      focus (intro wS hSw; (try dsimp only at hSw); go_simp; try with_reducible rfl)
      try simp only [List.setIfInBounds_toArray, List.set_cons_zero, List.set_cons_succ]
      refine take_slot (i := 5) (d := 88) (v := ?_) rfl rfl (by kernel_rfl) (by kernel_rfl) (by kernel_rfl) (fun _ _ _ h => h) (Or.inl ⟨by rfl, ?_⟩) (by assumption) ?_
      rotate_left 1
      focus (intro wS hSw; (try dsimp only at hSw); go_simp; try with_reducible rfl)
      try simp only [List.setIfInBounds_toArray, List.set_cons_zero, List.set_cons_succ]
      refine wpAnyH_ready (rs := [2, 6]) (by kernel_rfl) (by simp) ?_
      refine AllReadyH.cons rfl (fun K hK => ?_) (AllReadyH.cons rfl (fun K hK => ?_) AllReadyH.nil)
      · go_simp
        have hb := (Below.refl wd12.heap.size wd12).alloc (Nat.le_refl _) (Obj.cells #[.int .i64 x, .int .i64 (1 + y)] 30)
        have szZ12x1 := hL.size
        have ord1nP := nP
        have ord1nD := nD
        replace P0 := cell_next hb nP P0
        replace P1 := cell_next hb nP P1
        replace D0 := cell_next hb nD D0
        replace D1 := cell_next hb nD D1
        replace nP := Nat.lt_of_lt_of_le nP hb.size
        replace nD := Nat.lt_of_lt_of_le nD hb.size
        replace hL := hL.trans (hb.mono (Nat.le_trans hBW hL.size))
        replace HO := Lib.hid (HO.out.below hb)
        have A0 : (wd12.alloc (Obj.cells #[.int .i64 x, .int .i64 (1 + y)] 30)).cell? ⟨wd12.heap.size, 0, none⟩ = some (.int .i64 x) := cell_new _ _ _ 0
        have A1 : (wd12.alloc (Obj.cells #[.int .i64 x, .int .i64 (1 + y)] 30)).cell? ⟨wd12.heap.size, 1, none⟩ = some (.int .i64 (1 + y)) := cell_new _ _ _ 1
        have nA : wd12.heap.size < (wd12.alloc (Obj.cells #[.int .i64 x, .int .i64 (1 + y)] 30)).heap.size := by simp
        refine hK.out _ _ ⟨P0, P1, D0, D1, trivial⟩ (fun hHeld => ?_)
        clear hK K hb
        generalize wd12.alloc (Obj.cells #[.int .i64 x, .int .i64 (1 + y)] 30) = Z12x1 at *
        try simp only [Act.put, List.setIfInBounds_toArray, List.set_cons_zero, List.set_cons_succ]
        refine wpAnyH_ready (rs := [3, 6]) (by kernel_rfl) (by simp) ?_
        refine AllReadyH.cons rfl (fun K hK => ?_) (AllReadyH.cons rfl (fun K hK => ?_) AllReadyH.nil)
        · refine step_append_d _ 86 rfl rfl (.tmp 83) (.tmp 85) 26 rfl w.heap.size 30 j0 (.agg #[.int .i64 0, .int .i64 0]) 2 16 Try.underlying26 hj0 hjz0 hjz1 hjz2 rfl (by decide) u6 k (flat (sps (ks.take k))) rfl HO.out.2.1 ⟨wd12.heap.size, 0, none⟩ 1 1 [.int .i64 x, .int .i64 (1 + y)] rfl rfl ?_ ?_ (by decide) ?_ ?_ ?_ _ rfl ?_
          · intro j u hj
            rcases j with _ | _ | j
            · simp at hj; subst hj; exact A0
            · simp at hj; subst hj; exact A1
            · simp at hj
          · simp [Value.oneCell']
          · unfold maxLen; omega
          · omega
          · have := hL.size; omega
          intro g6 c6 Z12x2 hown' hgrow hat hlt'
          replace HO := Lib.hid (HO.out.app6 rfl hown' hgrow hat)
          have hsL := hL.size
          replace P0 := grown_keep hgrow nP (fun e => by have h1 := hob6 _ e; have h2 := hob6a _ e; omega) P0
          replace P1 := grown_keep hgrow nP (fun e => by have h1 := hob6 _ e; have h2 := hob6a _ e; omega) P1
          replace D0 := grown_keep hgrow nD (fun e => by have h1 := hob6 _ e; have h2 := hob6a _ e; omega) D0
          replace D1 := grown_keep hgrow nD (fun e => by have h1 := hob6 _ e; have h2 := hob6a _ e; omega) D1
          replace A0 := grown_keep hgrow nA (fun e => by have h1 := hob6 _ e; have h2 := hob6a _ e; omega) A0
          replace A1 := grown_keep hgrow nA (fun e => by have h1 := hob6 _ e; have h2 := hob6a _ e; omega) A1
          replace nP := Nat.lt_of_lt_of_le nP hgrow.size
          replace nD := Nat.lt_of_lt_of_le nD hgrow.size
          replace nA := Nat.lt_of_lt_of_le nA hgrow.size
          replace hL := hL.grown hgrow (by omega) (fun g h => hob6a g h)
          refine hK.out _ _ ⟨P0, P1, D0, D1, trivial⟩ (fun hHeld => ?_)
          clear hK K hown' hgrow hat hlt' hsL
          try simp only [Act.put, List.setIfInBounds_toArray, List.set_cons_zero, List.set_cons_succ]
          refine wpAnyH_ready (rs := [6]) (by kernel_rfl) (by simp) ?_
          refine AllReadyH.cons rfl (fun K hK => ?_) AllReadyH.nil
          go_simp
          have hb := (Below.refl Z12x2.heap.size Z12x2).alloc (Nat.le_refl _) (Obj.cells #[.int .i64 lo, .int .i64 hi] 32)
          have szZ12x3 := hL.size
          have ord3nP := nP
          have ord3nD := nD
          have ord3nA := nA
          replace P0 := cell_next hb nP P0
          replace P1 := cell_next hb nP P1
          replace D0 := cell_next hb nD D0
          replace D1 := cell_next hb nD D1
          replace A0 := cell_next hb nA A0
          replace A1 := cell_next hb nA A1
          replace nP := Nat.lt_of_lt_of_le nP hb.size
          replace nD := Nat.lt_of_lt_of_le nD hb.size
          replace nA := Nat.lt_of_lt_of_le nA hb.size
          replace hL := hL.trans (hb.mono (Nat.le_trans hBW hL.size))
          replace HO := Lib.hid (HO.out.below hb)
          have C0 : (Z12x2.alloc (Obj.cells #[.int .i64 lo, .int .i64 hi] 32)).cell? ⟨Z12x2.heap.size, 0, none⟩ = some (.int .i64 lo) := cell_new _ _ _ 0
          have C1 : (Z12x2.alloc (Obj.cells #[.int .i64 lo, .int .i64 hi] 32)).cell? ⟨Z12x2.heap.size, 1, none⟩ = some (.int .i64 hi) := cell_new _ _ _ 1
          have nC : Z12x2.heap.size < (Z12x2.alloc (Obj.cells #[.int .i64 lo, .int .i64 hi] 32)).heap.size := by simp
          refine hK.out _ _ ⟨P0, P1, D0, D1, trivial⟩ (fun hHeld => ?_)
          clear hK K hb
          generalize Z12x2.alloc (Obj.cells #[.int .i64 lo, .int .i64 hi] 32) = Z12x3 at *
          try simp only [Act.put, List.setIfInBounds_toArray, List.set_cons_zero, List.set_cons_succ]
          refine wpAnyH_ready (rs := [7]) (by kernel_rfl) (by simp) ?_
          refine AllReadyH.cons rfl (fun K hK => ?_) AllReadyH.nil
          refine step_append_d _ 90 rfl rfl (.tmp 87) (.tmp 89) 27 rfl w.heap.size 32 r0 (.agg #[.int .i64 0, .int .i64 0]) 2 16 Try.underlying27 hr0 hrz0 hrz1 hrz2 rfl (by decide) u7 k (flat ((ks.take k).map brK)) rfl HO.out.2.2.1 ⟨Z12x2.heap.size, 0, none⟩ 1 1 [.int .i64 lo, .int .i64 hi] rfl rfl ?_ ?_ (by decide) ?_ ?_ ?_ _ rfl ?_
          · intro j u hj
            rcases j with _ | _ | j
            · simp at hj; subst hj; exact C0
            · simp at hj; subst hj; exact C1
            · simp at hj
          · simp [Value.oneCell']
          · unfold maxLen; omega
          · omega
          · have := hL.size; omega
          intro g7 c7 Z12x4 hown' hgrow hat hlt'
          replace HO := Lib.hid (HO.out.app7 rfl hown' hgrow hat)
          have hsL := hL.size
          replace P0 := grown_keep hgrow nP (fun e => by have h1 := hob7 _ e; have h2 := hob7a _ e; omega) P0
          replace P1 := grown_keep hgrow nP (fun e => by have h1 := hob7 _ e; have h2 := hob7a _ e; omega) P1
          replace D0 := grown_keep hgrow nD (fun e => by have h1 := hob7 _ e; have h2 := hob7a _ e; omega) D0
          replace D1 := grown_keep hgrow nD (fun e => by have h1 := hob7 _ e; have h2 := hob7a _ e; omega) D1
          replace A0 := grown_keep hgrow nA (fun e => by have h1 := hob7 _ e; have h2 := hob7a _ e; omega) A0
          replace A1 := grown_keep hgrow nA (fun e => by have h1 := hob7 _ e; have h2 := hob7a _ e; omega) A1
          replace C0 := grown_keep hgrow nC (fun e => by have h1 := hob7 _ e; have h2 := hob7a _ e; omega) C0
          replace C1 := grown_keep hgrow nC (fun e => by have h1 := hob7 _ e; have h2 := hob7a _ e; omega) C1
          replace nP := Nat.lt_of_lt_of_le nP hgrow.size
          replace nD := Nat.lt_of_lt_of_le nD hgrow.size
          replace nA := Nat.lt_of_lt_of_le nA hgrow.size
          replace nC := Nat.lt_of_lt_of_le nC hgrow.size
          replace hL := hL.grown hgrow (by omega) (fun g h => hob7a g h)
          refine hK.out _ _ ⟨P0, P1, D0, D1, trivial⟩ (fun hHeld => ?_)
          clear hK K hown' hgrow hat hlt' hsL
          try simp only [Act.put, List.setIfInBounds_toArray, List.set_cons_zero, List.set_cons_succ]
          refine take_slot (i := 8) (d := 6) (v := ?_) rfl rfl (by kernel_rfl) (by kernel_rfl) (by kernel_rfl) (fun _ _ _ h => h) (Or.inl ⟨by rfl, ?_⟩) (by assumption) ?_
          rotate_left 1
          focus (intro wS hSw; (try dsimp only at hSw); go_simp; try with_reducible rfl)
          try simp only [List.setIfInBounds_toArray, List.set_cons_zero, List.set_cons_succ]
          refine take_slot (i := 9) (d := 7) (v := ?_) rfl rfl (by kernel_rfl) (by kernel_rfl) (by kernel_rfl) (fun _ _ _ h => h) (Or.inl ⟨by rfl, ?_⟩) (by assumption) ?_
          rotate_left 1
          focus (intro wS hSw; (try dsimp only at hSw); go_simp; try with_reducible rfl)
          try simp only [List.setIfInBounds_toArray, List.set_cons_zero, List.set_cons_succ]
          refine wpAnyH_done (by kernel_rfl) ?_ _
          replace hbr := hbr.trans hL
          clear hHeld hL hBW
          have HO2 := Lib.hid (HNEXT.out _ _ _ _ HO.out)
          clear HO
          go_wp2_with fail
          go_roundw
          case rel => exact ⟨k + 1, by omega, by go_num, HO2, hbr⟩
          case measure => simp [RowKit.intOf]; omega
        · go_simp
          have hb := (Below.refl Z12x1.heap.size Z12x1).alloc (Nat.le_refl _) (Obj.cells #[.int .i64 lo, .int .i64 hi] 32)
          have szZ12x5 := hL.size
          have ord5nP := nP
          have ord5nD := nD
          have ord5nA := nA
          replace P0 := cell_next hb nP P0
          replace P1 := cell_next hb nP P1
          replace D0 := cell_next hb nD D0
          replace D1 := cell_next hb nD D1
          replace A0 := cell_next hb nA A0
          replace A1 := cell_next hb nA A1
          replace nP := Nat.lt_of_lt_of_le nP hb.size
          replace nD := Nat.lt_of_lt_of_le nD hb.size
          replace nA := Nat.lt_of_lt_of_le nA hb.size
          replace hL := hL.trans (hb.mono (Nat.le_trans hBW hL.size))
          replace HO := Lib.hid (HO.out.below hb)
          have C0 : (Z12x1.alloc (Obj.cells #[.int .i64 lo, .int .i64 hi] 32)).cell? ⟨Z12x1.heap.size, 0, none⟩ = some (.int .i64 lo) := cell_new _ _ _ 0
          have C1 : (Z12x1.alloc (Obj.cells #[.int .i64 lo, .int .i64 hi] 32)).cell? ⟨Z12x1.heap.size, 1, none⟩ = some (.int .i64 hi) := cell_new _ _ _ 1
          have nC : Z12x1.heap.size < (Z12x1.alloc (Obj.cells #[.int .i64 lo, .int .i64 hi] 32)).heap.size := by simp
          refine hK.out _ _ ⟨P0, P1, D0, D1, trivial⟩ (fun hHeld => ?_)
          clear hK K hb
          generalize Z12x1.alloc (Obj.cells #[.int .i64 lo, .int .i64 hi] 32) = Z12x5 at *
          try simp only [Act.put, List.setIfInBounds_toArray, List.set_cons_zero, List.set_cons_succ]
          refine wpAnyH_ready (rs := [3]) (by kernel_rfl) (by simp) ?_
          refine AllReadyH.cons rfl (fun K hK => ?_) AllReadyH.nil
          refine step_append_d _ 86 rfl rfl (.tmp 83) (.tmp 85) 26 rfl w.heap.size 30 j0 (.agg #[.int .i64 0, .int .i64 0]) 2 16 Try.underlying26 hj0 hjz0 hjz1 hjz2 rfl (by decide) u6 k (flat (sps (ks.take k))) rfl HO.out.2.1 ⟨wd12.heap.size, 0, none⟩ 1 1 [.int .i64 x, .int .i64 (1 + y)] rfl rfl ?_ ?_ (by decide) ?_ ?_ ?_ _ rfl ?_
          · intro j u hj
            rcases j with _ | _ | j
            · simp at hj; subst hj; exact A0
            · simp at hj; subst hj; exact A1
            · simp at hj
          · simp [Value.oneCell']
          · unfold maxLen; omega
          · omega
          · have := hL.size; omega
          intro g6 c6 Z12x6 hown' hgrow hat hlt'
          replace HO := Lib.hid (HO.out.app6 rfl hown' hgrow hat)
          have hsL := hL.size
          replace P0 := grown_keep hgrow nP (fun e => by have h1 := hob6 _ e; have h2 := hob6a _ e; omega) P0
          replace P1 := grown_keep hgrow nP (fun e => by have h1 := hob6 _ e; have h2 := hob6a _ e; omega) P1
          replace D0 := grown_keep hgrow nD (fun e => by have h1 := hob6 _ e; have h2 := hob6a _ e; omega) D0
          replace D1 := grown_keep hgrow nD (fun e => by have h1 := hob6 _ e; have h2 := hob6a _ e; omega) D1
          replace A0 := grown_keep hgrow nA (fun e => by have h1 := hob6 _ e; have h2 := hob6a _ e; omega) A0
          replace A1 := grown_keep hgrow nA (fun e => by have h1 := hob6 _ e; have h2 := hob6a _ e; omega) A1
          replace C0 := grown_keep hgrow nC (fun e => by have h1 := hob6 _ e; have h2 := hob6a _ e; omega) C0
          replace C1 := grown_keep hgrow nC (fun e => by have h1 := hob6 _ e; have h2 := hob6a _ e; omega) C1
          replace nP := Nat.lt_of_lt_of_le nP hgrow.size
          replace nD := Nat.lt_of_lt_of_le nD hgrow.size
          replace nA := Nat.lt_of_lt_of_le nA hgrow.size
          replace nC := Nat.lt_of_lt_of_le nC hgrow.size
          replace hL := hL.grown hgrow (by omega) (fun g h => hob6a g h)
          refine hK.out _ _ ⟨P0, P1, D0, D1, trivial⟩ (fun hHeld => ?_)
          clear hK K hown' hgrow hat hlt' hsL
          try simp only [Act.put, List.setIfInBounds_toArray, List.set_cons_zero, List.set_cons_succ]
          refine wpAnyH_ready (rs := [7]) (by kernel_rfl) (by simp) ?_
          refine AllReadyH.cons rfl (fun K hK => ?_) AllReadyH.nil
          refine step_append_d _ 90 rfl rfl (.tmp 87) (.tmp 89) 27 rfl w.heap.size 32 r0 (.agg #[.int .i64 0, .int .i64 0]) 2 16 Try.underlying27 hr0 hrz0 hrz1 hrz2 rfl (by decide) u7 k (flat ((ks.take k).map brK)) rfl HO.out.2.2.1 ⟨Z12x1.heap.size, 0, none⟩ 1 1 [.int .i64 lo, .int .i64 hi] rfl rfl ?_ ?_ (by decide) ?_ ?_ ?_ _ rfl ?_
          · intro j u hj
            rcases j with _ | _ | j
            · simp at hj; subst hj; exact C0
            · simp at hj; subst hj; exact C1
            · simp at hj
          · simp [Value.oneCell']
          · unfold maxLen; omega
          · omega
          · have := hL.size; omega
          intro g7 c7 Z12x7 hown' hgrow hat hlt'
          replace HO := Lib.hid (HO.out.app7 rfl hown' hgrow hat)
          have hsL := hL.size
          replace P0 := grown_keep hgrow nP (fun e => by have h1 := hob7 _ e; have h2 := hob7a _ e; omega) P0
          replace P1 := grown_keep hgrow nP (fun e => by have h1 := hob7 _ e; have h2 := hob7a _ e; omega) P1
          replace D0 := grown_keep hgrow nD (fun e => by have h1 := hob7 _ e; have h2 := hob7a _ e; omega) D0
          replace D1 := grown_keep hgrow nD (fun e => by have h1 := hob7 _ e; have h2 := hob7a _ e; omega) D1
          replace A0 := grown_keep hgrow nA (fun e => by have h1 := hob7 _ e; have h2 := hob7a _ e; omega) A0
          replace A1 := grown_keep hgrow nA (fun e => by have h1 := hob7 _ e; have h2 := hob7a _ e; omega) A1
          replace C0 := grown_keep hgrow nC (fun e => by have h1 := hob7 _ e; have h2 := hob7a _ e; omega) C0
          replace C1 := grown_keep hgrow nC (fun e => by have h1 := hob7 _ e; have h2 := hob7a _ e; omega) C1
          replace nP := Nat.lt_of_lt_of_le nP hgrow.size
          replace nD := Nat.lt_of_lt_of_le nD hgrow.size
          replace nA := Nat.lt_of_lt_of_le nA hgrow.size
          replace nC := Nat.lt_of_lt_of_le nC hgrow.size
          replace hL := hL.grown hgrow (by omega) (fun g h => hob7a g h)
          refine hK.out _ _ ⟨P0, P1, D0, D1, trivial⟩ (fun hHeld => ?_)
          clear hK K hown' hgrow hat hlt' hsL
          try simp only [Act.put, List.setIfInBounds_toArray, List.set_cons_zero, List.set_cons_succ]
          refine take_slot (i := 8) (d := 6) (v := ?_) rfl rfl (by kernel_rfl) (by kernel_rfl) (by kernel_rfl) (fun _ _ _ h => h) (Or.inl ⟨by rfl, ?_⟩) (by assumption) ?_
          rotate_left 1
          focus (intro wS hSw; (try dsimp only at hSw); go_simp; try with_reducible rfl)
          try simp only [List.setIfInBounds_toArray, List.set_cons_zero, List.set_cons_succ]
          refine take_slot (i := 9) (d := 7) (v := ?_) rfl rfl (by kernel_rfl) (by kernel_rfl) (by kernel_rfl) (fun _ _ _ h => h) (Or.inl ⟨by rfl, ?_⟩) (by assumption) ?_
          rotate_left 1
          focus (intro wS hSw; (try dsimp only at hSw); go_simp; try with_reducible rfl)
          try simp only [List.setIfInBounds_toArray, List.set_cons_zero, List.set_cons_succ]
          refine wpAnyH_done (by kernel_rfl) ?_ _
          replace hbr := hbr.trans hL
          clear hHeld hL hBW
          have HO2 := Lib.hid (HNEXT.out _ _ _ _ HO.out)
          clear HO
          go_wp2_with fail
          go_roundw
          case rel => exact ⟨k + 1, by omega, by go_num, HO2, hbr⟩
          case measure => simp [RowKit.intOf]; omega
      · go_simp
        have hb := (Below.refl wd12.heap.size wd12).alloc (Nat.le_refl _) (Obj.cells #[.int .i64 lo, .int .i64 hi] 32)
        have szZ12x8 := hL.size
        have ord8nP := nP
        have ord8nD := nD
        replace P0 := cell_next hb nP P0
        replace P1 := cell_next hb nP P1
        replace D0 := cell_next hb nD D0
        replace D1 := cell_next hb nD D1
        replace nP := Nat.lt_of_lt_of_le nP hb.size
        replace nD := Nat.lt_of_lt_of_le nD hb.size
        replace hL := hL.trans (hb.mono (Nat.le_trans hBW hL.size))
        replace HO := Lib.hid (HO.out.below hb)
        have C0 : (wd12.alloc (Obj.cells #[.int .i64 lo, .int .i64 hi] 32)).cell? ⟨wd12.heap.size, 0, none⟩ = some (.int .i64 lo) := cell_new _ _ _ 0
        have C1 : (wd12.alloc (Obj.cells #[.int .i64 lo, .int .i64 hi] 32)).cell? ⟨wd12.heap.size, 1, none⟩ = some (.int .i64 hi) := cell_new _ _ _ 1
        have nC : wd12.heap.size < (wd12.alloc (Obj.cells #[.int .i64 lo, .int .i64 hi] 32)).heap.size := by simp
        refine hK.out _ _ ⟨P0, P1, D0, D1, trivial⟩ (fun hHeld => ?_)
        clear hK K hb
        generalize wd12.alloc (Obj.cells #[.int .i64 lo, .int .i64 hi] 32) = Z12x8 at *
        try simp only [Act.put, List.setIfInBounds_toArray, List.set_cons_zero, List.set_cons_succ]
        refine wpAnyH_ready (rs := [2]) (by kernel_rfl) (by simp) ?_
        refine AllReadyH.cons rfl (fun K hK => ?_) AllReadyH.nil
        go_simp
        have hb := (Below.refl Z12x8.heap.size Z12x8).alloc (Nat.le_refl _) (Obj.cells #[.int .i64 x, .int .i64 (1 + y)] 30)
        have szZ12x9 := hL.size
        have ord9nP := nP
        have ord9nD := nD
        have ord9nC := nC
        replace P0 := cell_next hb nP P0
        replace P1 := cell_next hb nP P1
        replace D0 := cell_next hb nD D0
        replace D1 := cell_next hb nD D1
        replace C0 := cell_next hb nC C0
        replace C1 := cell_next hb nC C1
        replace nP := Nat.lt_of_lt_of_le nP hb.size
        replace nD := Nat.lt_of_lt_of_le nD hb.size
        replace nC := Nat.lt_of_lt_of_le nC hb.size
        replace hL := hL.trans (hb.mono (Nat.le_trans hBW hL.size))
        replace HO := Lib.hid (HO.out.below hb)
        have A0 : (Z12x8.alloc (Obj.cells #[.int .i64 x, .int .i64 (1 + y)] 30)).cell? ⟨Z12x8.heap.size, 0, none⟩ = some (.int .i64 x) := cell_new _ _ _ 0
        have A1 : (Z12x8.alloc (Obj.cells #[.int .i64 x, .int .i64 (1 + y)] 30)).cell? ⟨Z12x8.heap.size, 1, none⟩ = some (.int .i64 (1 + y)) := cell_new _ _ _ 1
        have nA : Z12x8.heap.size < (Z12x8.alloc (Obj.cells #[.int .i64 x, .int .i64 (1 + y)] 30)).heap.size := by simp
        refine hK.out _ _ ⟨P0, P1, D0, D1, trivial⟩ (fun hHeld => ?_)
        clear hK K hb
        generalize Z12x8.alloc (Obj.cells #[.int .i64 x, .int .i64 (1 + y)] 30) = Z12x9 at *
        try simp only [Act.put, List.setIfInBounds_toArray, List.set_cons_zero, List.set_cons_succ]
        refine wpAnyH_ready (rs := [3]) (by kernel_rfl) (by simp) ?_
        refine AllReadyH.cons rfl (fun K hK => ?_) AllReadyH.nil
        refine step_append_d _ 86 rfl rfl (.tmp 83) (.tmp 85) 26 rfl w.heap.size 30 j0 (.agg #[.int .i64 0, .int .i64 0]) 2 16 Try.underlying26 hj0 hjz0 hjz1 hjz2 rfl (by decide) u6 k (flat (sps (ks.take k))) rfl HO.out.2.1 ⟨Z12x8.heap.size, 0, none⟩ 1 1 [.int .i64 x, .int .i64 (1 + y)] rfl rfl ?_ ?_ (by decide) ?_ ?_ ?_ _ rfl ?_
        · intro j u hj
          rcases j with _ | _ | j
          · simp at hj; subst hj; exact A0
          · simp at hj; subst hj; exact A1
          · simp at hj
        · simp [Value.oneCell']
        · unfold maxLen; omega
        · omega
        · have := hL.size; omega
        intro g6 c6 Z12x10 hown' hgrow hat hlt'
        replace HO := Lib.hid (HO.out.app6 rfl hown' hgrow hat)
        have hsL := hL.size
        replace P0 := grown_keep hgrow nP (fun e => by have h1 := hob6 _ e; have h2 := hob6a _ e; omega) P0
        replace P1 := grown_keep hgrow nP (fun e => by have h1 := hob6 _ e; have h2 := hob6a _ e; omega) P1
        replace D0 := grown_keep hgrow nD (fun e => by have h1 := hob6 _ e; have h2 := hob6a _ e; omega) D0
        replace D1 := grown_keep hgrow nD (fun e => by have h1 := hob6 _ e; have h2 := hob6a _ e; omega) D1
        replace C0 := grown_keep hgrow nC (fun e => by have h1 := hob6 _ e; have h2 := hob6a _ e; omega) C0
        replace C1 := grown_keep hgrow nC (fun e => by have h1 := hob6 _ e; have h2 := hob6a _ e; omega) C1
        replace A0 := grown_keep hgrow nA (fun e => by have h1 := hob6 _ e; have h2 := hob6a _ e; omega) A0
        replace A1 := grown_keep hgrow nA (fun e => by have h1 := hob6 _ e; have h2 := hob6a _ e; omega) A1
        replace nP := Nat.lt_of_lt_of_le nP hgrow.size
        replace nD := Nat.lt_of_lt_of_le nD hgrow.size
        replace nC := Nat.lt_of_lt_of_le nC hgrow.size
        replace nA := Nat.lt_of_lt_of_le nA hgrow.size
        replace hL := hL.grown hgrow (by omega) (fun g h => hob6a g h)
        refine hK.out _ _ ⟨P0, P1, D0, D1, trivial⟩ (fun hHeld => ?_)
        clear hK K hown' hgrow hat hlt' hsL
        try simp only [Act.put, List.setIfInBounds_toArray, List.set_cons_zero, List.set_cons_succ]
        refine wpAnyH_ready (rs := [7]) (by kernel_rfl) (by simp) ?_
        refine AllReadyH.cons rfl (fun K hK => ?_) AllReadyH.nil
        refine step_append_d _ 90 rfl rfl (.tmp 87) (.tmp 89) 27 rfl w.heap.size 32 r0 (.agg #[.int .i64 0, .int .i64 0]) 2 16 Try.underlying27 hr0 hrz0 hrz1 hrz2 rfl (by decide) u7 k (flat ((ks.take k).map brK)) rfl HO.out.2.2.1 ⟨wd12.heap.size, 0, none⟩ 1 1 [.int .i64 lo, .int .i64 hi] rfl rfl ?_ ?_ (by decide) ?_ ?_ ?_ _ rfl ?_
        · intro j u hj
          rcases j with _ | _ | j
          · simp at hj; subst hj; exact C0
          · simp at hj; subst hj; exact C1
          · simp at hj
        · simp [Value.oneCell']
        · unfold maxLen; omega
        · omega
        · have := hL.size; omega
        intro g7 c7 Z12x11 hown' hgrow hat hlt'
        replace HO := Lib.hid (HO.out.app7 rfl hown' hgrow hat)
        have hsL := hL.size
        replace P0 := grown_keep hgrow nP (fun e => by have h1 := hob7 _ e; have h2 := hob7a _ e; omega) P0
        replace P1 := grown_keep hgrow nP (fun e => by have h1 := hob7 _ e; have h2 := hob7a _ e; omega) P1
        replace D0 := grown_keep hgrow nD (fun e => by have h1 := hob7 _ e; have h2 := hob7a _ e; omega) D0
        replace D1 := grown_keep hgrow nD (fun e => by have h1 := hob7 _ e; have h2 := hob7a _ e; omega) D1
        replace C0 := grown_keep hgrow nC (fun e => by have h1 := hob7 _ e; have h2 := hob7a _ e; omega) C0
        replace C1 := grown_keep hgrow nC (fun e => by have h1 := hob7 _ e; have h2 := hob7a _ e; omega) C1
        replace A0 := grown_keep hgrow nA (fun e => by have h1 := hob7 _ e; have h2 := hob7a _ e; omega) A0
        replace A1 := grown_keep hgrow nA (fun e => by have h1 := hob7 _ e; have h2 := hob7a _ e; omega) A1
        replace nP := Nat.lt_of_lt_of_le nP hgrow.size
        replace nD := Nat.lt_of_lt_of_le nD hgrow.size
        replace nC := Nat.lt_of_lt_of_le nC hgrow.size
        replace nA := Nat.lt_of_lt_of_le nA hgrow.size
        replace hL := hL.grown hgrow (by omega) (fun g h => hob7a g h)
        refine hK.out _ _ ⟨P0, P1, D0, D1, trivial⟩ (fun hHeld => ?_)
        clear hK K hown' hgrow hat hlt' hsL
        try simp only [Act.put, List.setIfInBounds_toArray, List.set_cons_zero, List.set_cons_succ]
        refine take_slot (i := 8) (d := 6) (v := ?_) rfl rfl (by kernel_rfl) (by kernel_rfl) (by kernel_rfl) (fun _ _ _ h => h) (Or.inl ⟨by rfl, ?_⟩) (by assumption) ?_
        rotate_left 1
        focus (intro wS hSw; (try dsimp only at hSw); go_simp; try with_reducible rfl)
        try simp only [List.setIfInBounds_toArray, List.set_cons_zero, List.set_cons_succ]
        refine take_slot (i := 9) (d := 7) (v := ?_) rfl rfl (by kernel_rfl) (by kernel_rfl) (by kernel_rfl) (fun _ _ _ h => h) (Or.inl ⟨by rfl, ?_⟩) (by assumption) ?_
        rotate_left 1
        focus (intro wS hSw; (try dsimp only at hSw); go_simp; try with_reducible rfl)
        try simp only [List.setIfInBounds_toArray, List.set_cons_zero, List.set_cons_succ]
        refine wpAnyH_done (by kernel_rfl) ?_ _
        replace hbr := hbr.trans hL
        clear hHeld hL hBW
        have HO2 := Lib.hid (HNEXT.out _ _ _ _ HO.out)
        clear HO
        go_wp2_with fail
        go_roundw
        case rel => exact ⟨k + 1, by omega, by go_num, HO2, hbr⟩
        case measure => simp [RowKit.intOf]; omega
    · obtain rfl : k = n := by omega
      have hfull : ks.take k = ks := List.take_of_length_le (by rw [HL.out]; exact Nat.le_refl _)
      rw [hfull] at HO
      obtain ⟨g5, c5, rfl, hg5a, hg5b⟩ := HO.out.1.form (by omega)
      have hK := HK.out
      have hlen := HL.out
      have hsl : (sps ks).length = k := by rw [← hlen]; simp [sps]
      have hbl : (ks.map brK).length = k := by rw [← hlen]; simp
      obtain ⟨s1, s2, s3, s4, s5, s6⟩ := su_all hK
      obtain ⟨z1, z2, z3, z4⟩ := brix_in hK (by omega) (by omega)
      obtain ⟨l0, l1, f0, f1⟩ := kgM_bd hK (by omega)
      obtain ⟨u1, u2⟩ := su_small ks (0, 0) HSM.out
      change (suU (sps ks)).1 ≤ _ at u1
      change (suU (sps ks)).2 ≤ _ at u2
      rw [hlen] at s2 s4 s5 s6 u1 u2
      have CMX : Hid (∀ W v', KsAt W.heap.size W v' ks → Calls Try.prog 7 #[v'] W fun e w' => e = .returned (.tuple #[.agg (cKg (kgM ks)), .int .i64 0]) ∧ Below W.heap.size W w') := Lib.hid (fun W v' h => mixed_ok v' ks W hK (by omega) (by omega) h)
      have CMI : Hid (∀ W, Below wr.heap.size wr W → Calls Try.prog 8 #[u6] W fun e w' => e = .returned (.tuple #[.agg #[.int .i64 (suU (sps ks)).1, .int .i64 (suU (sps ks)).2], .int .i64 0]) ∧ Below W.heap.size W w') := Lib.hid (fun W h => mix_row (sps ks) k hsl (sps_sp hK) (by omega) (by omega) (by simp [spB]; omega) u6 W (((own_saps (sps ks) k hsl u6 wr HO.out.2.1).below h (Nat.le_refl _)).mono h.size))
      have CBR := Lib.hid (brix_any (suU (sps ks)).1 (suU (sps ks)).2)
      rw [z4] at CBR
      have CHU : Hid (∀ W, Below wr.heap.size wr W → Calls Try.prog 9 #[u7] W fun e w' => e = .returned (.tuple #[.agg #[.int .i64 (huL (ks.map brK)), .int .i64 (huH (ks.map brK))], .int .i64 0]) ∧ Below W.heap.size W w') := Lib.hid (fun W h => by
        have := hullAll_any u7 (ks.map brK) W (((own_row (ks.map brK) k hbl u7 wr HO.out.2.2.1).below h (Nat.le_refl _)).mono h.size)
        rw [z1] at this
        exact this)
      have HCE : Hid (∀ j u, (flatK ks)[j]? = some u → (wr.alloc (.cells #[] 37)).cell? ⟨g5, 0 + j, none⟩ = some u) := Lib.hid (fun j u h => by
        have := (HO.out.1).cells (g := g5) rfl j u h
        rw [Addr.add_lit] at this
        exact cell_next ((Below.refl wr.heap.size wr).alloc (Nat.le_refl _) _) hg5b this)
      have hfl : (flatK ks).length = k * 4 := by rw [flatK_length, hlen]
      obtain ⟨⟨A, S, L, Fl⟩, hM⟩ : ∃ r, kgM ks = r := ⟨_, rfl⟩
      have hA : (suU (sps ks)).1 = A := congrArg Kg.a hM
      have hS : (suU (sps ks)).2 = S := congrArg Kg.s hM
      rw [hM] at CMX l0 l1 f0 f1
      rw [hA] at CMI CBR s1 s2 s5 s6 u1 z2 z3
      rw [hS] at CMI CBR s3 s4 s5 s6 u2 z2 z3
      dsimp only at l0 l1 f0 f1
      simp only [cKg] at CMX
      have hm0 := Int.tmod_nonneg (A + S) hp0
      have hm1 := Int.tmod_lt_of_pos part (show 0 < A + S by omega)
      obtain ⟨dq1, dq2, dq3, dq4⟩ := draw_q (a := A) (s := S) (m := 1 + part.tmod (A + S)) s1 s3 (by omega) (by omega)
      have hsv : spB A S = true := by simp [spB]; omega
      have hnat : S.natAbs * (1 + part.tmod (A + S)).natAbs ≤ 786432 * 1572864 := Nat.mul_le_mul (by omega) (by omega)
      have hq : qLo S (1 + part.tmod (A + S)) (A + S) = S * (1 + part.tmod (A + S)) / (A + S) := (q_pos (by omega) (Nat.le_trans (Nat.div_le_self _ _) (by omega))).1
      have hdv : Divides S (1 + part.tmod (A + S)) (A + S) := divide_small _ _ _ ⟨by omega, by omega⟩ ⟨by omega, by omega⟩ ⟨by omega, by omega⟩ (by omega) (by omega)
      have CD := Lib.hid (draw_ok A S (1 + part.tmod (A + S)) (S * (1 + part.tmod (A + S)) / (A + S)) hsv (by omega) (by omega) (drawsAt_pos A S _ _ hsv (by omega) (by omega) hdv hq dq1 (by omega)))
      have y1 : IntKind.i64.wrap part = part := IntWalk.i64_in _ (by omega)
      have y2 : IntKind.i64.wrap (A + S) = A + S := IntWalk.i64_in _ (by omega)
      have y3 : IntKind.i64.wrap (part.tmod (A + S)) = part.tmod (A + S) := IntWalk.i64_in _ (by omega)
      have y4 : IntKind.i64.wrap (1 + part.tmod (A + S)) = 1 + part.tmod (A + S) := IntWalk.i64_in _ (by omega)
      have M0 : A + S ≠ 0 := by omega
      have M1 : (A + S == 0) = false := by simpa using M0
      have M2 : decide (A + S < 1) = false := by simp; omega
      have z2' : decide (brL A S < huL (ks.map brK)) = false := by simp; omega
      have z3' : decide (huH (ks.map brK) < brH A S) = false := by simp; omega
      have HSUM : Hid (1 ≤ A + S ∧ 1 ≤ 1 + part.tmod (A + S) ∧ 1 + part.tmod (A + S) ≤ A + S) := Lib.hid ⟨by omega, by omega, by omega⟩
      have HQ : Hid (0 ≤ S * (1 + part.tmod (A + S)) / (A + S) ∧ S * (1 + part.tmod (A + S)) / (A + S) ≤ S ∧ S * (1 + part.tmod (A + S)) / (A + S) ≤ 1 + part.tmod (A + S) ∧ 1 + part.tmod (A + S) - S * (1 + part.tmod (A + S)) / (A + S) ≤ A) := Lib.hid ⟨dq1, dq2, dq3, dq4⟩
      have HLF : Hid ((0 ≤ L ∧ L ≤ 1000) ∧ 1 ≤ Fl ∧ Fl ≤ 9) := Lib.hid ⟨⟨l0, l1⟩, f0, f1⟩
      have HAS : Hid ((0 ≤ A ∧ A ≤ 786432) ∧ 0 ≤ S ∧ S ≤ 786432) := Lib.hid ⟨⟨s1, by omega⟩, s3, by omega⟩
      clear hA hS hM z1 z2 z3 z4 s1 s2 s3 s4 s5 s6 u1 u2 l0 l1 f0 f1 dq1 dq2 dq3 dq4 hsv hnat hq hdv hm0 hm1 hsl hbl HR HNEXT HP hK HO hfull HSM hp0 hp1
      generalize brL A S = bl at *
      generalize brH A S = bh at *
      generalize huL (ks.map brK) = hl at *
      generalize huH (ks.map brK) = hh at *
      generalize S * (1 + part.tmod (A + S)) / (A + S) = q at *
      go_wp2_with (at_builtin; refine wpList_append_own_at _ rfl (.tmp 92) (.tmp 93) 25 rfl wr.heap.size 37 i0 (.agg #[.int .i64 0, .int .i64 0, .int .i64 0, .int .i64 0]) 4 32 Try.underlying25 hi0 hiz0 hiz1 hiz2 rfl (by decide) (.slice (some ⟨wr.heap.size, 0, none⟩) 0 0) 0 [] rfl (own_empty0 wr 37 4) ⟨g5, 0, none⟩ k c5 (flatK ks) rfl ?_ ?_ ?_ ?_ ?_ ?_ ?_)
      case refine_1 => exact hfl
      case refine_2 => intro j u hj; rw [Addr.add_lit]; exact HCE.out j u hj
      case refine_3 => exact flatK_small ks
      case refine_4 => unfold maxLen; omega
      case refine_5 => omega
      case refine_6 => simp
      case refine_7 =>
        intro v' w1 hown' hgrow _ hat
        have hB : Below wr.heap.size wr w1 := ((Below.refl _ _).alloc (Nat.le_refl _) _).grown hgrow (by simp) (fun j hj => by simp [Value.ownBlock] at hj; omega)
        have hKs := own_kegs ks k HL.out v' w1 (by simpa using hown')
        have C1 := Lib.hid (CMX.out _ _ hKs)
        clear hown' hgrow hat hKs CMX HCE hfl hg5a hg5b
        go_wp2_with fail
        refine (C1.out).mono ?_
        rintro e W1 ⟨rfl, hb⟩
        replace hB := hB.trans (hb.mono hB.size)
        clear hb
        go_wp2_with fail
        refine (CMI.out _ (hB.alloc hB.size _)).mono ?_
        rintro e W2 ⟨rfl, hb⟩
        have K0 := cell_next hb (b := W1.heap.size) (o := 0) (by simp <;> omega) (v := some (.int .i64 A)) (by simp [go_sem])
        have K1 := cell_next hb (b := W1.heap.size) (o := 1) (by simp <;> omega) (v := some (.int .i64 S)) (by simp [go_sem])
        have K2 := cell_next hb (b := W1.heap.size) (o := 2) (by simp <;> omega) (v := some (.int .i64 L)) (by simp [go_sem])
        have K3 := cell_next hb (b := W1.heap.size) (o := 3) (by simp <;> omega) (v := some (.int .i64 Fl)) (by simp [go_sem])
        have nK : W1.heap.size < W2.heap.size := by have := hb.size; simp at this; omega
        replace hB := hB.trans ((below1 hb).mono hB.size)
        clear hb
        generalize W1.heap.size = q2 at *
        go_wp2_with fail
        refine (CBR.out _).mono ?_
        rintro e W3 ⟨rfl, hb⟩
        replace K0 := cell_next (below1 hb) nK K0
        replace K1 := cell_next (below1 hb) nK K1
        replace K2 := cell_next (below1 hb) nK K2
        replace K3 := cell_next (below1 hb) nK K3
        replace nK := Nat.lt_of_lt_of_le nK (below1 hb).size
        have M0 := cell_next hb (b := W2.heap.size) (o := 0) (by simp <;> omega) (v := some (.int .i64 A)) (by simp [go_sem])
        have M1 := cell_next hb (b := W2.heap.size) (o := 1) (by simp <;> omega) (v := some (.int .i64 S)) (by simp [go_sem])
        have nM : W2.heap.size < W3.heap.size := by have := hb.size; simp at this; omega
        replace hB := hB.trans ((below1 hb).mono hB.size)
        clear hb
        generalize W2.heap.size = q3 at *
        go_wp2_with fail
        refine (CHU.out _ (hB.alloc hB.size _)).mono ?_
        rintro e W4 ⟨rfl, hb⟩
        replace K0 := cell_next (below1 hb) nK K0
        replace K1 := cell_next (below1 hb) nK K1
        replace K2 := cell_next (below1 hb) nK K2
        replace K3 := cell_next (below1 hb) nK K3
        replace nK := Nat.lt_of_lt_of_le nK (below1 hb).size
        replace M0 := cell_next (below1 hb) nM M0
        replace M1 := cell_next (below1 hb) nM M1
        replace nM := Nat.lt_of_lt_of_le nM (below1 hb).size
        have B0 := cell_next hb (b := W3.heap.size) (o := 0) (by simp <;> omega) (v := some (.int .i64 bl)) (by simp [go_sem])
        have B1 := cell_next hb (b := W3.heap.size) (o := 1) (by simp <;> omega) (v := some (.int .i64 bh)) (by simp [go_sem])
        have nB : W3.heap.size < W4.heap.size := by have := hb.size; simp at this; omega
        replace hB := hB.trans ((below1 hb).mono hB.size)
        clear hb
        generalize W3.heap.size = q4 at *
        go_wp2_with fail
        have hb : Below W4.heap.size W4 (W4.alloc (Obj.cells #[.int .i64 hl, .int .i64 hh] 32)) := ((Below.refl _ _).alloc (Nat.le_refl _) _)
        replace K0 := cell_next hb nK K0
        replace K1 := cell_next hb nK K1
        replace K2 := cell_next hb nK K2
        replace K3 := cell_next hb nK K3
        replace nK := Nat.lt_of_lt_of_le nK hb.size
        replace M0 := cell_next hb nM M0
        replace M1 := cell_next hb nM M1
        replace nM := Nat.lt_of_lt_of_le nM hb.size
        replace B0 := cell_next hb nB B0
        replace B1 := cell_next hb nB B1
        replace nB := Nat.lt_of_lt_of_le nB hb.size
        have H0 : (W4.alloc (Obj.cells #[.int .i64 hl, .int .i64 hh] 32)).cell? ⟨W4.heap.size, 0, none⟩ = some (.int .i64 hl) := by simp [go_sem]
        have H1 : (W4.alloc (Obj.cells #[.int .i64 hl, .int .i64 hh] 32)).cell? ⟨W4.heap.size, 1, none⟩ = some (.int .i64 hh) := by simp [go_sem]
        have nH : W4.heap.size < (W4.alloc (Obj.cells #[.int .i64 hl, .int .i64 hh] 32)).heap.size := by simp <;> omega
        replace hB := hB.trans (hb.mono hB.size)
        clear hb
        generalize (W4.alloc (Obj.cells #[.int .i64 hl, .int .i64 hh] 32)) = W5 at *
        generalize W4.heap.size = q5 at *
        clear B0 B1 nB
        clear H0 H1 nH
        have hBW := hB.size
        apply suff2' (R := fun gd ge W => gd < W.heap.size ∧ ge < W.heap.size ∧ W.cell? ⟨gd, 0, none⟩ = some (.int .i64 (1 + part.tmod (A + S) - q)) ∧ W.cell? ⟨gd, 1, none⟩ = some (.int .i64 q) ∧ W.cell? ⟨ge, 0, none⟩ = some (.int .i64 (A - (1 + part.tmod (A + S) - q))) ∧ W.cell? ⟨ge, 1, none⟩ = some (.int .i64 (S - q)) ∧ W.cell? ⟨q2, 0, none⟩ = some (.int .i64 A) ∧ W.cell? ⟨q2, 1, none⟩ = some (.int .i64 S) ∧ W.cell? ⟨q2, 2, none⟩ = some (.int .i64 L) ∧ W.cell? ⟨q2, 3, none⟩ = some (.int .i64 Fl) ∧ q2 < W.heap.size ∧ Below wr.heap.size wr W)
        case main =>
          intro key
          refine wp_region_held_drew (S := fun w' => w'.cell? ⟨q2, 0, none⟩ = some (.int .i64 A) ∧ w'.cell? ⟨q2, 1, none⟩ = some (.int .i64 S) ∧ w'.cell? ⟨q3, 0, none⟩ = some (.int .i64 A) ∧ w'.cell? ⟨q3, 1, none⟩ = some (.int .i64 S) ∧ True) (by kernel_rfl) ?_ (fun hHeld => ?_)
          focus (exact ⟨K0, K1, M0, M1, trivial⟩)
          have hL : Below wr.heap.size W5 W5.drew := Below.drew (Below.refl _ _)
          replace K0 : W5.drew.cell? ⟨q2, 0, none⟩ = some (.int .i64 A) := K0
          replace K1 : W5.drew.cell? ⟨q2, 1, none⟩ = some (.int .i64 S) := K1
          replace K2 : W5.drew.cell? ⟨q2, 2, none⟩ = some (.int .i64 L) := K2
          replace K3 : W5.drew.cell? ⟨q2, 3, none⟩ = some (.int .i64 Fl) := K3
          replace M0 : W5.drew.cell? ⟨q3, 0, none⟩ = some (.int .i64 A) := M0
          replace M1 : W5.drew.cell? ⟨q3, 1, none⟩ = some (.int .i64 S) := M1
          replace nK : q2 < W5.drew.heap.size := nK
          replace nM : q3 < W5.drew.heap.size := nM
          generalize hWd : W5.drew = wd19 at hHeld hL K0 K1 K2 K3 M0 M1 nK nM  ⊢
          clear hWd
          refine take_slot (i := 0) (d := 156) (v := ?_) rfl rfl (by kernel_rfl) (by kernel_rfl) (by kernel_rfl) (fun _ _ _ h => h) (Or.inl ⟨by rfl, ?_⟩) (by assumption) ?_
          rotate_left 1
          focus (intro wS hSw; (try dsimp only at hSw); go_simp; try with_reducible rfl)
          try simp only [List.setIfInBounds_toArray, List.set_cons_zero, List.set_cons_succ]
          refine take_slot (i := 1) (d := 157) (v := ?_) rfl rfl (by kernel_rfl) (by kernel_rfl) (by kernel_rfl) (fun _ _ _ h => h) (Or.inl ⟨by rfl, ?_⟩) (by assumption) ?_
          rotate_left 1
          focus (intro wS hSw; (try dsimp only at hSw); go_simp; try with_reducible rfl)
          try simp only [List.setIfInBounds_toArray, List.set_cons_zero, List.set_cons_succ]
          refine take_slot (i := 2) (d := 158) (v := ?_) rfl rfl (by kernel_rfl) (by kernel_rfl) (by kernel_rfl) (fun _ _ _ h => h) (Or.inl ⟨by rfl, ?_⟩) (by assumption) ?_
          rotate_left 1
          focus (intro wS hSw; (try dsimp only at hSw); go_simp; try with_reducible rfl)
          try simp only [List.setIfInBounds_toArray, List.set_cons_zero, List.set_cons_succ]
          refine take_slot (i := 3) (d := 159) (v := ?_) rfl rfl (by kernel_rfl) (by kernel_rfl) (by kernel_rfl) (fun _ _ _ h => h) (Or.inl ⟨by rfl, ?_⟩) (by assumption) ?_
          rotate_left 1
          focus (intro wS hSw; (try dsimp only at hSw); go_simp; try with_reducible rfl)
          try simp only [List.setIfInBounds_toArray, List.set_cons_zero, List.set_cons_succ]
          refine take_slot (i := 4) (d := 160) (v := ?_) rfl rfl (by kernel_rfl) (by kernel_rfl) (by kernel_rfl) (fun _ _ _ h => h) (Or.inl ⟨by rfl, ?_⟩) (by assumption) ?_
          rotate_left 1
          focus (intro wS hSw; (try dsimp only at hSw); go_simp; try with_reducible rfl)
          try simp only [List.setIfInBounds_toArray, List.set_cons_zero, List.set_cons_succ]
          refine take_slot (i := 5) (d := 161) (v := ?_) rfl rfl (by kernel_rfl) (by kernel_rfl) (by kernel_rfl) (fun _ _ _ h => h) (Or.inl ⟨by rfl, ?_⟩) (by assumption) ?_
          rotate_left 1
          focus (intro wS hSw; (try dsimp only at hSw); go_simp; try with_reducible rfl)
          try simp only [List.setIfInBounds_toArray, List.set_cons_zero, List.set_cons_succ]
          refine take_slot (i := 6) (d := 162) (v := ?_) rfl rfl (by kernel_rfl) (by kernel_rfl) (by kernel_rfl) (fun _ _ _ h => h) (Or.inl ⟨by rfl, ?_⟩) (by assumption) ?_
          rotate_left 1
          focus (intro wS hSw; (try dsimp only at hSw); go_simp; try with_reducible rfl)
          try simp only [List.setIfInBounds_toArray, List.set_cons_zero, List.set_cons_succ]
          refine take_slot (i := 7) (d := 163) (v := ?_) rfl rfl (by kernel_rfl) (by kernel_rfl) (by kernel_rfl) (fun _ _ _ h => h) (Or.inl ⟨by rfl, ?_⟩) (by assumption) ?_
          rotate_left 1
          focus (intro wS hSw; (try dsimp only at hSw); go_simp; try with_reducible rfl)
          try simp only [List.setIfInBounds_toArray, List.set_cons_zero, List.set_cons_succ]
          refine take_slot (i := 8) (d := 164) (v := ?_) rfl rfl (by kernel_rfl) (by kernel_rfl) (by kernel_rfl) (fun _ _ _ h => h) (Or.inl ⟨by rfl, ?_⟩) (by assumption) ?_
          rotate_left 1
          focus (intro wS hSw; (try dsimp only at hSw); go_simp; try with_reducible rfl)
          try simp only [List.setIfInBounds_toArray, List.set_cons_zero, List.set_cons_succ]
          refine take_slot (i := 9) (d := 165) (v := ?_) rfl rfl (by kernel_rfl) (by kernel_rfl) (by kernel_rfl) (fun _ _ _ h => h) (Or.inl ⟨by rfl, ?_⟩) (by assumption) ?_
          rotate_left 1
          focus (intro wS hSw; (try dsimp only at hSw); go_simp; try with_reducible rfl)
          try simp only [List.setIfInBounds_toArray, List.set_cons_zero, List.set_cons_succ]
          refine take_slot (i := 10) (d := 166) (v := ?_) rfl rfl (by kernel_rfl) (by kernel_rfl) (by kernel_rfl) (fun _ _ _ h => h) (Or.inl ⟨by rfl, ?_⟩) (by assumption) ?_
          rotate_left 1
          focus (intro wS hSw; (try dsimp only at hSw); go_simp; try with_reducible rfl)
          try simp only [List.setIfInBounds_toArray, List.set_cons_zero, List.set_cons_succ]
          refine wpAnyH_ready (rs := [11, 16, 17]) (by kernel_rfl) (by simp) ?_
          refine AllReadyH.cons rfl (fun K hK => ?_) (AllReadyH.cons rfl (fun K hK => ?_) (AllReadyH.cons rfl (fun K hK => ?_) AllReadyH.nil))
          · go_simp
            refine (CD.out _).mono ?_
            rintro e Z19x1 ⟨rfl, hb⟩
            replace K0 := cell_next hb nK K0
            replace K1 := cell_next hb nK K1
            replace K2 := cell_next hb nK K2
            replace K3 := cell_next hb nK K3
            replace M0 := cell_next hb nM M0
            replace M1 := cell_next hb nM M1
            replace nK := Nat.lt_of_lt_of_le nK hb.size
            replace nM := Nat.lt_of_lt_of_le nM hb.size
            replace hL := hL.trans (hb.mono (Nat.le_trans hBW hL.size))
            refine hK.out _ _ ⟨K0, K1, M0, M1, trivial⟩ (fun hHeld => ?_)
            clear hK K hb
            try simp only [Act.put, List.setIfInBounds_toArray, List.set_cons_zero, List.set_cons_succ]
            refine take_slot (i := 12) (d := 155) (v := ?_) rfl rfl (by kernel_rfl) (by kernel_rfl) (by kernel_rfl) (fun _ _ _ h => h) (Or.inl ⟨by rfl, ?_⟩) (by assumption) ?_
            rotate_left 1
            focus (intro wS hSw; (try dsimp only at hSw); go_simp; try with_reducible rfl)
            try simp only [List.setIfInBounds_toArray, List.set_cons_zero, List.set_cons_succ]
            refine take_slot (i := 13) (d := 168) (v := ?_) rfl rfl (by kernel_rfl) (by kernel_rfl) (by kernel_rfl) (fun _ _ _ h => h) (Or.inl ⟨by rfl, ?_⟩) (by assumption) ?_
            rotate_left 1
            focus (intro wS hSw; (try dsimp only at hSw); go_simp; try with_reducible rfl)
            try simp only [List.setIfInBounds_toArray, List.set_cons_zero, List.set_cons_succ]
            refine take_slot (i := 14) (d := 169) (v := ?_) rfl rfl (by kernel_rfl) (by kernel_rfl) (by kernel_rfl) (fun _ _ _ h => h) (Or.inl ⟨by rfl, ?_⟩) (by assumption) ?_
            rotate_left 1
            focus (intro wS hSw; (try dsimp only at hSw); go_simp; try with_reducible rfl)
            try simp only [List.setIfInBounds_toArray, List.set_cons_zero, List.set_cons_succ]
            refine take_slot (i := 15) (d := 170) (v := ?_) rfl rfl (by kernel_rfl) (by kernel_rfl) (by kernel_rfl) (fun _ _ _ h => h) (Or.inl ⟨by rfl, ?_⟩) (by assumption) ?_
            rotate_left 1
            focus (intro wS hSw; (try dsimp only at hSw); go_simp; try with_reducible rfl)
            try simp only [List.setIfInBounds_toArray, List.set_cons_zero, List.set_cons_succ]
            refine wpAnyH_ready (rs := [16, 17]) (by kernel_rfl) (by simp) ?_
            refine AllReadyH.cons rfl (fun K hK => ?_) (AllReadyH.cons rfl (fun K hK => ?_) AllReadyH.nil)
            · go_simp
              have hb := (Below.refl Z19x1.heap.size Z19x1).alloc (Nat.le_refl _) (Obj.cells #[.int .i64 0, .int .i64 0] 30)
              have szZ19x2 := hL.size
              have ord2nK := nK
              have ord2nM := nM
              replace K0 := cell_next hb nK K0
              replace K1 := cell_next hb nK K1
              replace K2 := cell_next hb nK K2
              replace K3 := cell_next hb nK K3
              replace M0 := cell_next hb nM M0
              replace M1 := cell_next hb nM M1
              replace nK := Nat.lt_of_lt_of_le nK hb.size
              replace nM := Nat.lt_of_lt_of_le nM hb.size
              replace hL := hL.trans (hb.mono (Nat.le_trans hBW hL.size))
              have Df0 : (Z19x1.alloc (Obj.cells #[.int .i64 0, .int .i64 0] 30)).frozen? ⟨Z19x1.heap.size, 0, none⟩ = false := by simp [go_sem]
              have Df1 : (Z19x1.alloc (Obj.cells #[.int .i64 0, .int .i64 0] 30)).frozen? ⟨Z19x1.heap.size, 1, none⟩ = false := by simp [go_sem]
              have D0 : (Z19x1.alloc (Obj.cells #[.int .i64 0, .int .i64 0] 30)).cell? ⟨Z19x1.heap.size, 0, none⟩ = some (.int .i64 0) := cell_new _ _ _ 0
              have D1 : (Z19x1.alloc (Obj.cells #[.int .i64 0, .int .i64 0] 30)).cell? ⟨Z19x1.heap.size, 1, none⟩ = some (.int .i64 0) := cell_new _ _ _ 1
              have nD : Z19x1.heap.size < (Z19x1.alloc (Obj.cells #[.int .i64 0, .int .i64 0] 30)).heap.size := by simp
              refine hK.out _ _ ⟨K0, K1, M0, M1, trivial⟩ (fun hHeld => ?_)
              clear hK K hb
              generalize Z19x1.alloc (Obj.cells #[.int .i64 0, .int .i64 0] 30) = Z19x2 at *
              try simp only [Act.put, List.setIfInBounds_toArray, List.set_cons_zero, List.set_cons_succ]
              refine wpAnyH_ready (rs := [17]) (by kernel_rfl) (by simp) ?_
              refine AllReadyH.cons rfl (fun K hK => ?_) AllReadyH.nil
              go_simp
              have hb := (Below.refl Z19x2.heap.size Z19x2).alloc (Nat.le_refl _) (Obj.cells #[.int .i64 0, .int .i64 0] 30)
              have szZ19x3 := hL.size
              have ord3nK := nK
              have ord3nM := nM
              have ord3nD := nD
              replace K0 := cell_next hb nK K0
              replace K1 := cell_next hb nK K1
              replace K2 := cell_next hb nK K2
              replace K3 := cell_next hb nK K3
              replace M0 := cell_next hb nM M0
              replace M1 := cell_next hb nM M1
              replace Df0 := frozen_next hb nD Df0
              replace Df1 := frozen_next hb nD Df1
              replace D0 := cell_next hb nD D0
              replace D1 := cell_next hb nD D1
              replace nK := Nat.lt_of_lt_of_le nK hb.size
              replace nM := Nat.lt_of_lt_of_le nM hb.size
              replace nD := Nat.lt_of_lt_of_le nD hb.size
              replace hL := hL.trans (hb.mono (Nat.le_trans hBW hL.size))
              have Ef0 : (Z19x2.alloc (Obj.cells #[.int .i64 0, .int .i64 0] 30)).frozen? ⟨Z19x2.heap.size, 0, none⟩ = false := by simp [go_sem]
              have Ef1 : (Z19x2.alloc (Obj.cells #[.int .i64 0, .int .i64 0] 30)).frozen? ⟨Z19x2.heap.size, 1, none⟩ = false := by simp [go_sem]
              have E0 : (Z19x2.alloc (Obj.cells #[.int .i64 0, .int .i64 0] 30)).cell? ⟨Z19x2.heap.size, 0, none⟩ = some (.int .i64 0) := cell_new _ _ _ 0
              have E1 : (Z19x2.alloc (Obj.cells #[.int .i64 0, .int .i64 0] 30)).cell? ⟨Z19x2.heap.size, 1, none⟩ = some (.int .i64 0) := cell_new _ _ _ 1
              have nE : Z19x2.heap.size < (Z19x2.alloc (Obj.cells #[.int .i64 0, .int .i64 0] 30)).heap.size := by simp
              refine hK.out _ _ ⟨K0, K1, M0, M1, trivial⟩ (fun hHeld => ?_)
              clear hK K hb
              generalize Z19x2.alloc (Obj.cells #[.int .i64 0, .int .i64 0] 30) = Z19x3 at *
              try simp only [Act.put, List.setIfInBounds_toArray, List.set_cons_zero, List.set_cons_succ]
              refine wpAnyH_ready (rs := [18]) (by kernel_rfl) (by simp) ?_
              refine AllReadyH.cons rfl (fun K hK => ?_) AllReadyH.nil
              go_simp
              have hsL := hL.size
              replace K0 : ((Z19x3.setCell ⟨Z19x1.heap.size, 0, none⟩ (.int .i64 (1 + part.tmod (A + S) - q))).setCell ⟨Z19x1.heap.size, 1, none⟩ (.int .i64 q)).cell? ⟨q2, 0, none⟩ = some (.int .i64 A) := ((World.cell?_setCell_other _ _ _ _ (by intro e; injection e with e1 e2; omega)).trans ((World.cell?_setCell_other _ _ _ _ (by intro e; injection e with e1 e2; omega)).trans K0))
              replace K1 : ((Z19x3.setCell ⟨Z19x1.heap.size, 0, none⟩ (.int .i64 (1 + part.tmod (A + S) - q))).setCell ⟨Z19x1.heap.size, 1, none⟩ (.int .i64 q)).cell? ⟨q2, 1, none⟩ = some (.int .i64 S) := ((World.cell?_setCell_other _ _ _ _ (by intro e; injection e with e1 e2; omega)).trans ((World.cell?_setCell_other _ _ _ _ (by intro e; injection e with e1 e2; omega)).trans K1))
              replace K2 : ((Z19x3.setCell ⟨Z19x1.heap.size, 0, none⟩ (.int .i64 (1 + part.tmod (A + S) - q))).setCell ⟨Z19x1.heap.size, 1, none⟩ (.int .i64 q)).cell? ⟨q2, 2, none⟩ = some (.int .i64 L) := ((World.cell?_setCell_other _ _ _ _ (by intro e; injection e with e1 e2; omega)).trans ((World.cell?_setCell_other _ _ _ _ (by intro e; injection e with e1 e2; omega)).trans K2))
              replace K3 : ((Z19x3.setCell ⟨Z19x1.heap.size, 0, none⟩ (.int .i64 (1 + part.tmod (A + S) - q))).setCell ⟨Z19x1.heap.size, 1, none⟩ (.int .i64 q)).cell? ⟨q2, 3, none⟩ = some (.int .i64 Fl) := ((World.cell?_setCell_other _ _ _ _ (by intro e; injection e with e1 e2; omega)).trans ((World.cell?_setCell_other _ _ _ _ (by intro e; injection e with e1 e2; omega)).trans K3))
              replace M0 : ((Z19x3.setCell ⟨Z19x1.heap.size, 0, none⟩ (.int .i64 (1 + part.tmod (A + S) - q))).setCell ⟨Z19x1.heap.size, 1, none⟩ (.int .i64 q)).cell? ⟨q3, 0, none⟩ = some (.int .i64 A) := ((World.cell?_setCell_other _ _ _ _ (by intro e; injection e with e1 e2; omega)).trans ((World.cell?_setCell_other _ _ _ _ (by intro e; injection e with e1 e2; omega)).trans M0))
              replace M1 : ((Z19x3.setCell ⟨Z19x1.heap.size, 0, none⟩ (.int .i64 (1 + part.tmod (A + S) - q))).setCell ⟨Z19x1.heap.size, 1, none⟩ (.int .i64 q)).cell? ⟨q3, 1, none⟩ = some (.int .i64 S) := ((World.cell?_setCell_other _ _ _ _ (by intro e; injection e with e1 e2; omega)).trans ((World.cell?_setCell_other _ _ _ _ (by intro e; injection e with e1 e2; omega)).trans M1))
              replace Df0 : ((Z19x3.setCell ⟨Z19x1.heap.size, 0, none⟩ (.int .i64 (1 + part.tmod (A + S) - q))).setCell ⟨Z19x1.heap.size, 1, none⟩ (.int .i64 q)).frozen? ⟨Z19x1.heap.size, 0, none⟩ = false := by simp [go_sem, Df0]
              replace Df1 : ((Z19x3.setCell ⟨Z19x1.heap.size, 0, none⟩ (.int .i64 (1 + part.tmod (A + S) - q))).setCell ⟨Z19x1.heap.size, 1, none⟩ (.int .i64 q)).frozen? ⟨Z19x1.heap.size, 1, none⟩ = false := by simp [go_sem, Df1]
              replace D0 : ((Z19x3.setCell ⟨Z19x1.heap.size, 0, none⟩ (.int .i64 (1 + part.tmod (A + S) - q))).setCell ⟨Z19x1.heap.size, 1, none⟩ (.int .i64 q)).cell? ⟨Z19x1.heap.size, 0, none⟩ = some (.int .i64 (1 + part.tmod (A + S) - q)) := by simp [go_sem, D0]
              replace D1 : ((Z19x3.setCell ⟨Z19x1.heap.size, 0, none⟩ (.int .i64 (1 + part.tmod (A + S) - q))).setCell ⟨Z19x1.heap.size, 1, none⟩ (.int .i64 q)).cell? ⟨Z19x1.heap.size, 1, none⟩ = some (.int .i64 q) := by simp [go_sem, D1]
              replace Ef0 : ((Z19x3.setCell ⟨Z19x1.heap.size, 0, none⟩ (.int .i64 (1 + part.tmod (A + S) - q))).setCell ⟨Z19x1.heap.size, 1, none⟩ (.int .i64 q)).frozen? ⟨Z19x2.heap.size, 0, none⟩ = false := by simp [go_sem, Ef0]
              replace Ef1 : ((Z19x3.setCell ⟨Z19x1.heap.size, 0, none⟩ (.int .i64 (1 + part.tmod (A + S) - q))).setCell ⟨Z19x1.heap.size, 1, none⟩ (.int .i64 q)).frozen? ⟨Z19x2.heap.size, 1, none⟩ = false := by simp [go_sem, Ef1]
              replace E0 : ((Z19x3.setCell ⟨Z19x1.heap.size, 0, none⟩ (.int .i64 (1 + part.tmod (A + S) - q))).setCell ⟨Z19x1.heap.size, 1, none⟩ (.int .i64 q)).cell? ⟨Z19x2.heap.size, 0, none⟩ = some (.int .i64 0) := ((World.cell?_setCell_other _ _ _ _ (by intro e; injection e with e1 e2; omega)).trans ((World.cell?_setCell_other _ _ _ _ (by intro e; injection e with e1 e2; omega)).trans E0))
              replace E1 : ((Z19x3.setCell ⟨Z19x1.heap.size, 0, none⟩ (.int .i64 (1 + part.tmod (A + S) - q))).setCell ⟨Z19x1.heap.size, 1, none⟩ (.int .i64 q)).cell? ⟨Z19x2.heap.size, 1, none⟩ = some (.int .i64 0) := ((World.cell?_setCell_other _ _ _ _ (by intro e; injection e with e1 e2; omega)).trans ((World.cell?_setCell_other _ _ _ _ (by intro e; injection e with e1 e2; omega)).trans E1))
              replace nK : q2 < ((Z19x3.setCell ⟨Z19x1.heap.size, 0, none⟩ (.int .i64 (1 + part.tmod (A + S) - q))).setCell ⟨Z19x1.heap.size, 1, none⟩ (.int .i64 q)).heap.size := by simpa [World.setCell] using nK
              replace nM : q3 < ((Z19x3.setCell ⟨Z19x1.heap.size, 0, none⟩ (.int .i64 (1 + part.tmod (A + S) - q))).setCell ⟨Z19x1.heap.size, 1, none⟩ (.int .i64 q)).heap.size := by simpa [World.setCell] using nM
              replace nD : Z19x1.heap.size < ((Z19x3.setCell ⟨Z19x1.heap.size, 0, none⟩ (.int .i64 (1 + part.tmod (A + S) - q))).setCell ⟨Z19x1.heap.size, 1, none⟩ (.int .i64 q)).heap.size := by simpa [World.setCell] using nD
              replace nE : Z19x2.heap.size < ((Z19x3.setCell ⟨Z19x1.heap.size, 0, none⟩ (.int .i64 (1 + part.tmod (A + S) - q))).setCell ⟨Z19x1.heap.size, 1, none⟩ (.int .i64 q)).heap.size := by simpa [World.setCell] using nE
              replace hL := hL.setCell (p := ⟨Z19x1.heap.size, 0, none⟩) (by show wr.heap.size ≤ Z19x1.heap.size; omega) (.int .i64 (1 + part.tmod (A + S) - q))
              replace hL := hL.setCell (p := ⟨Z19x1.heap.size, 1, none⟩) (by show wr.heap.size ≤ Z19x1.heap.size; omega) (.int .i64 q)
              refine hK.out _ _ ⟨K0, K1, M0, M1, trivial⟩ (fun hHeld => ?_)
              clear hK K
              generalize ((Z19x3.setCell ⟨Z19x1.heap.size, 0, none⟩ (.int .i64 (1 + part.tmod (A + S) - q))).setCell ⟨Z19x1.heap.size, 1, none⟩ (.int .i64 q)) = Z19x4 at *
              try simp only [Act.put, List.setIfInBounds_toArray, List.set_cons_zero, List.set_cons_succ]
              refine wpAnyH_ready (rs := [19]) (by kernel_rfl) (by simp) ?_
              refine AllReadyH.cons rfl (fun K hK => ?_) AllReadyH.nil
              go_simp
              have hsM := hL.size
              replace K0 : ((Z19x4.setCell ⟨Z19x2.heap.size, 0, none⟩ (.int .i64 (A - (1 + part.tmod (A + S) - q)))).setCell ⟨Z19x2.heap.size, 1, none⟩ (.int .i64 (S - q))).cell? ⟨q2, 0, none⟩ = some (.int .i64 A) := ((World.cell?_setCell_other _ _ _ _ (by intro e; injection e with e1 e2; omega)).trans ((World.cell?_setCell_other _ _ _ _ (by intro e; injection e with e1 e2; omega)).trans K0))
              replace K1 : ((Z19x4.setCell ⟨Z19x2.heap.size, 0, none⟩ (.int .i64 (A - (1 + part.tmod (A + S) - q)))).setCell ⟨Z19x2.heap.size, 1, none⟩ (.int .i64 (S - q))).cell? ⟨q2, 1, none⟩ = some (.int .i64 S) := ((World.cell?_setCell_other _ _ _ _ (by intro e; injection e with e1 e2; omega)).trans ((World.cell?_setCell_other _ _ _ _ (by intro e; injection e with e1 e2; omega)).trans K1))
              replace K2 : ((Z19x4.setCell ⟨Z19x2.heap.size, 0, none⟩ (.int .i64 (A - (1 + part.tmod (A + S) - q)))).setCell ⟨Z19x2.heap.size, 1, none⟩ (.int .i64 (S - q))).cell? ⟨q2, 2, none⟩ = some (.int .i64 L) := ((World.cell?_setCell_other _ _ _ _ (by intro e; injection e with e1 e2; omega)).trans ((World.cell?_setCell_other _ _ _ _ (by intro e; injection e with e1 e2; omega)).trans K2))
              replace K3 : ((Z19x4.setCell ⟨Z19x2.heap.size, 0, none⟩ (.int .i64 (A - (1 + part.tmod (A + S) - q)))).setCell ⟨Z19x2.heap.size, 1, none⟩ (.int .i64 (S - q))).cell? ⟨q2, 3, none⟩ = some (.int .i64 Fl) := ((World.cell?_setCell_other _ _ _ _ (by intro e; injection e with e1 e2; omega)).trans ((World.cell?_setCell_other _ _ _ _ (by intro e; injection e with e1 e2; omega)).trans K3))
              replace M0 : ((Z19x4.setCell ⟨Z19x2.heap.size, 0, none⟩ (.int .i64 (A - (1 + part.tmod (A + S) - q)))).setCell ⟨Z19x2.heap.size, 1, none⟩ (.int .i64 (S - q))).cell? ⟨q3, 0, none⟩ = some (.int .i64 A) := ((World.cell?_setCell_other _ _ _ _ (by intro e; injection e with e1 e2; omega)).trans ((World.cell?_setCell_other _ _ _ _ (by intro e; injection e with e1 e2; omega)).trans M0))
              replace M1 : ((Z19x4.setCell ⟨Z19x2.heap.size, 0, none⟩ (.int .i64 (A - (1 + part.tmod (A + S) - q)))).setCell ⟨Z19x2.heap.size, 1, none⟩ (.int .i64 (S - q))).cell? ⟨q3, 1, none⟩ = some (.int .i64 S) := ((World.cell?_setCell_other _ _ _ _ (by intro e; injection e with e1 e2; omega)).trans ((World.cell?_setCell_other _ _ _ _ (by intro e; injection e with e1 e2; omega)).trans M1))
              replace Df0 : ((Z19x4.setCell ⟨Z19x2.heap.size, 0, none⟩ (.int .i64 (A - (1 + part.tmod (A + S) - q)))).setCell ⟨Z19x2.heap.size, 1, none⟩ (.int .i64 (S - q))).frozen? ⟨Z19x1.heap.size, 0, none⟩ = false := by simp [go_sem, Df0]
              replace Df1 : ((Z19x4.setCell ⟨Z19x2.heap.size, 0, none⟩ (.int .i64 (A - (1 + part.tmod (A + S) - q)))).setCell ⟨Z19x2.heap.size, 1, none⟩ (.int .i64 (S - q))).frozen? ⟨Z19x1.heap.size, 1, none⟩ = false := by simp [go_sem, Df1]
              replace D0 : ((Z19x4.setCell ⟨Z19x2.heap.size, 0, none⟩ (.int .i64 (A - (1 + part.tmod (A + S) - q)))).setCell ⟨Z19x2.heap.size, 1, none⟩ (.int .i64 (S - q))).cell? ⟨Z19x1.heap.size, 0, none⟩ = some (.int .i64 (1 + part.tmod (A + S) - q)) := ((World.cell?_setCell_other _ _ _ _ (by intro e; injection e with e1 e2; omega)).trans ((World.cell?_setCell_other _ _ _ _ (by intro e; injection e with e1 e2; omega)).trans D0))
              replace D1 : ((Z19x4.setCell ⟨Z19x2.heap.size, 0, none⟩ (.int .i64 (A - (1 + part.tmod (A + S) - q)))).setCell ⟨Z19x2.heap.size, 1, none⟩ (.int .i64 (S - q))).cell? ⟨Z19x1.heap.size, 1, none⟩ = some (.int .i64 q) := ((World.cell?_setCell_other _ _ _ _ (by intro e; injection e with e1 e2; omega)).trans ((World.cell?_setCell_other _ _ _ _ (by intro e; injection e with e1 e2; omega)).trans D1))
              replace Ef0 : ((Z19x4.setCell ⟨Z19x2.heap.size, 0, none⟩ (.int .i64 (A - (1 + part.tmod (A + S) - q)))).setCell ⟨Z19x2.heap.size, 1, none⟩ (.int .i64 (S - q))).frozen? ⟨Z19x2.heap.size, 0, none⟩ = false := by simp [go_sem, Ef0]
              replace Ef1 : ((Z19x4.setCell ⟨Z19x2.heap.size, 0, none⟩ (.int .i64 (A - (1 + part.tmod (A + S) - q)))).setCell ⟨Z19x2.heap.size, 1, none⟩ (.int .i64 (S - q))).frozen? ⟨Z19x2.heap.size, 1, none⟩ = false := by simp [go_sem, Ef1]
              replace E0 : ((Z19x4.setCell ⟨Z19x2.heap.size, 0, none⟩ (.int .i64 (A - (1 + part.tmod (A + S) - q)))).setCell ⟨Z19x2.heap.size, 1, none⟩ (.int .i64 (S - q))).cell? ⟨Z19x2.heap.size, 0, none⟩ = some (.int .i64 (A - (1 + part.tmod (A + S) - q))) := by simp [go_sem, E0]
              replace E1 : ((Z19x4.setCell ⟨Z19x2.heap.size, 0, none⟩ (.int .i64 (A - (1 + part.tmod (A + S) - q)))).setCell ⟨Z19x2.heap.size, 1, none⟩ (.int .i64 (S - q))).cell? ⟨Z19x2.heap.size, 1, none⟩ = some (.int .i64 (S - q)) := by simp [go_sem, E1]
              replace nK : q2 < ((Z19x4.setCell ⟨Z19x2.heap.size, 0, none⟩ (.int .i64 (A - (1 + part.tmod (A + S) - q)))).setCell ⟨Z19x2.heap.size, 1, none⟩ (.int .i64 (S - q))).heap.size := by simpa [World.setCell] using nK
              replace nM : q3 < ((Z19x4.setCell ⟨Z19x2.heap.size, 0, none⟩ (.int .i64 (A - (1 + part.tmod (A + S) - q)))).setCell ⟨Z19x2.heap.size, 1, none⟩ (.int .i64 (S - q))).heap.size := by simpa [World.setCell] using nM
              replace nD : Z19x1.heap.size < ((Z19x4.setCell ⟨Z19x2.heap.size, 0, none⟩ (.int .i64 (A - (1 + part.tmod (A + S) - q)))).setCell ⟨Z19x2.heap.size, 1, none⟩ (.int .i64 (S - q))).heap.size := by simpa [World.setCell] using nD
              replace nE : Z19x2.heap.size < ((Z19x4.setCell ⟨Z19x2.heap.size, 0, none⟩ (.int .i64 (A - (1 + part.tmod (A + S) - q)))).setCell ⟨Z19x2.heap.size, 1, none⟩ (.int .i64 (S - q))).heap.size := by simpa [World.setCell] using nE
              replace hL := hL.setCell (p := ⟨Z19x2.heap.size, 0, none⟩) (by show wr.heap.size ≤ Z19x2.heap.size; omega) (.int .i64 (A - (1 + part.tmod (A + S) - q)))
              replace hL := hL.setCell (p := ⟨Z19x2.heap.size, 1, none⟩) (by show wr.heap.size ≤ Z19x2.heap.size; omega) (.int .i64 (S - q))
              refine hK.out _ _ ⟨K0, K1, M0, M1, trivial⟩ (fun hHeld => ?_)
              clear hK K
              generalize ((Z19x4.setCell ⟨Z19x2.heap.size, 0, none⟩ (.int .i64 (A - (1 + part.tmod (A + S) - q)))).setCell ⟨Z19x2.heap.size, 1, none⟩ (.int .i64 (S - q))) = Z19x5 at *
              try simp only [Act.put, List.setIfInBounds_toArray, List.set_cons_zero, List.set_cons_succ]
              refine take_slot (i := 20) (d := 13) (v := ?_) rfl rfl (by kernel_rfl) (by kernel_rfl) (by kernel_rfl) (fun _ _ _ h => h) (Or.inl ⟨by rfl, ?_⟩) (by assumption) ?_
              rotate_left 1
              focus (intro wS hSw; (try dsimp only at hSw); go_simp; try with_reducible rfl)
              try simp only [List.setIfInBounds_toArray, List.set_cons_zero, List.set_cons_succ]
              refine wpAnyH_done (by kernel_rfl) ?_ _
              have hB2 := hB.trans hL
              clear hHeld hL
              generalize Z19x1.heap.size = gd at *
              generalize Z19x2.heap.size = ge at *
              exact key gd ge Z19x5 ⟨nD, nE, D0, D1, E0, E1, K0, K1, K2, K3, nK, hB2⟩
            · go_simp
              have hb := (Below.refl Z19x1.heap.size Z19x1).alloc (Nat.le_refl _) (Obj.cells #[.int .i64 0, .int .i64 0] 30)
              have szZ19x6 := hL.size
              have ord6nK := nK
              have ord6nM := nM
              replace K0 := cell_next hb nK K0
              replace K1 := cell_next hb nK K1
              replace K2 := cell_next hb nK K2
              replace K3 := cell_next hb nK K3
              replace M0 := cell_next hb nM M0
              replace M1 := cell_next hb nM M1
              replace nK := Nat.lt_of_lt_of_le nK hb.size
              replace nM := Nat.lt_of_lt_of_le nM hb.size
              replace hL := hL.trans (hb.mono (Nat.le_trans hBW hL.size))
              have Ef0 : (Z19x1.alloc (Obj.cells #[.int .i64 0, .int .i64 0] 30)).frozen? ⟨Z19x1.heap.size, 0, none⟩ = false := by simp [go_sem]
              have Ef1 : (Z19x1.alloc (Obj.cells #[.int .i64 0, .int .i64 0] 30)).frozen? ⟨Z19x1.heap.size, 1, none⟩ = false := by simp [go_sem]
              have E0 : (Z19x1.alloc (Obj.cells #[.int .i64 0, .int .i64 0] 30)).cell? ⟨Z19x1.heap.size, 0, none⟩ = some (.int .i64 0) := cell_new _ _ _ 0
              have E1 : (Z19x1.alloc (Obj.cells #[.int .i64 0, .int .i64 0] 30)).cell? ⟨Z19x1.heap.size, 1, none⟩ = some (.int .i64 0) := cell_new _ _ _ 1
              have nE : Z19x1.heap.size < (Z19x1.alloc (Obj.cells #[.int .i64 0, .int .i64 0] 30)).heap.size := by simp
              refine hK.out _ _ ⟨K0, K1, M0, M1, trivial⟩ (fun hHeld => ?_)
              clear hK K hb
              generalize Z19x1.alloc (Obj.cells #[.int .i64 0, .int .i64 0] 30) = Z19x6 at *
              try simp only [Act.put, List.setIfInBounds_toArray, List.set_cons_zero, List.set_cons_succ]
              refine wpAnyH_ready (rs := [16]) (by kernel_rfl) (by simp) ?_
              refine AllReadyH.cons rfl (fun K hK => ?_) AllReadyH.nil
              go_simp
              have hb := (Below.refl Z19x6.heap.size Z19x6).alloc (Nat.le_refl _) (Obj.cells #[.int .i64 0, .int .i64 0] 30)
              have szZ19x7 := hL.size
              have ord7nK := nK
              have ord7nM := nM
              have ord7nE := nE
              replace K0 := cell_next hb nK K0
              replace K1 := cell_next hb nK K1
              replace K2 := cell_next hb nK K2
              replace K3 := cell_next hb nK K3
              replace M0 := cell_next hb nM M0
              replace M1 := cell_next hb nM M1
              replace Ef0 := frozen_next hb nE Ef0
              replace Ef1 := frozen_next hb nE Ef1
              replace E0 := cell_next hb nE E0
              replace E1 := cell_next hb nE E1
              replace nK := Nat.lt_of_lt_of_le nK hb.size
              replace nM := Nat.lt_of_lt_of_le nM hb.size
              replace nE := Nat.lt_of_lt_of_le nE hb.size
              replace hL := hL.trans (hb.mono (Nat.le_trans hBW hL.size))
              have Df0 : (Z19x6.alloc (Obj.cells #[.int .i64 0, .int .i64 0] 30)).frozen? ⟨Z19x6.heap.size, 0, none⟩ = false := by simp [go_sem]
              have Df1 : (Z19x6.alloc (Obj.cells #[.int .i64 0, .int .i64 0] 30)).frozen? ⟨Z19x6.heap.size, 1, none⟩ = false := by simp [go_sem]
              have D0 : (Z19x6.alloc (Obj.cells #[.int .i64 0, .int .i64 0] 30)).cell? ⟨Z19x6.heap.size, 0, none⟩ = some (.int .i64 0) := cell_new _ _ _ 0
              have D1 : (Z19x6.alloc (Obj.cells #[.int .i64 0, .int .i64 0] 30)).cell? ⟨Z19x6.heap.size, 1, none⟩ = some (.int .i64 0) := cell_new _ _ _ 1
              have nD : Z19x6.heap.size < (Z19x6.alloc (Obj.cells #[.int .i64 0, .int .i64 0] 30)).heap.size := by simp
              refine hK.out _ _ ⟨K0, K1, M0, M1, trivial⟩ (fun hHeld => ?_)
              clear hK K hb
              generalize Z19x6.alloc (Obj.cells #[.int .i64 0, .int .i64 0] 30) = Z19x7 at *
              try simp only [Act.put, List.setIfInBounds_toArray, List.set_cons_zero, List.set_cons_succ]
              refine wpAnyH_ready (rs := [18]) (by kernel_rfl) (by simp) ?_
              refine AllReadyH.cons rfl (fun K hK => ?_) AllReadyH.nil
              go_simp
              have hsL := hL.size
              replace K0 : ((Z19x7.setCell ⟨Z19x6.heap.size, 0, none⟩ (.int .i64 (1 + part.tmod (A + S) - q))).setCell ⟨Z19x6.heap.size, 1, none⟩ (.int .i64 q)).cell? ⟨q2, 0, none⟩ = some (.int .i64 A) := ((World.cell?_setCell_other _ _ _ _ (by intro e; injection e with e1 e2; omega)).trans ((World.cell?_setCell_other _ _ _ _ (by intro e; injection e with e1 e2; omega)).trans K0))
              replace K1 : ((Z19x7.setCell ⟨Z19x6.heap.size, 0, none⟩ (.int .i64 (1 + part.tmod (A + S) - q))).setCell ⟨Z19x6.heap.size, 1, none⟩ (.int .i64 q)).cell? ⟨q2, 1, none⟩ = some (.int .i64 S) := ((World.cell?_setCell_other _ _ _ _ (by intro e; injection e with e1 e2; omega)).trans ((World.cell?_setCell_other _ _ _ _ (by intro e; injection e with e1 e2; omega)).trans K1))
              replace K2 : ((Z19x7.setCell ⟨Z19x6.heap.size, 0, none⟩ (.int .i64 (1 + part.tmod (A + S) - q))).setCell ⟨Z19x6.heap.size, 1, none⟩ (.int .i64 q)).cell? ⟨q2, 2, none⟩ = some (.int .i64 L) := ((World.cell?_setCell_other _ _ _ _ (by intro e; injection e with e1 e2; omega)).trans ((World.cell?_setCell_other _ _ _ _ (by intro e; injection e with e1 e2; omega)).trans K2))
              replace K3 : ((Z19x7.setCell ⟨Z19x6.heap.size, 0, none⟩ (.int .i64 (1 + part.tmod (A + S) - q))).setCell ⟨Z19x6.heap.size, 1, none⟩ (.int .i64 q)).cell? ⟨q2, 3, none⟩ = some (.int .i64 Fl) := ((World.cell?_setCell_other _ _ _ _ (by intro e; injection e with e1 e2; omega)).trans ((World.cell?_setCell_other _ _ _ _ (by intro e; injection e with e1 e2; omega)).trans K3))
              replace M0 : ((Z19x7.setCell ⟨Z19x6.heap.size, 0, none⟩ (.int .i64 (1 + part.tmod (A + S) - q))).setCell ⟨Z19x6.heap.size, 1, none⟩ (.int .i64 q)).cell? ⟨q3, 0, none⟩ = some (.int .i64 A) := ((World.cell?_setCell_other _ _ _ _ (by intro e; injection e with e1 e2; omega)).trans ((World.cell?_setCell_other _ _ _ _ (by intro e; injection e with e1 e2; omega)).trans M0))
              replace M1 : ((Z19x7.setCell ⟨Z19x6.heap.size, 0, none⟩ (.int .i64 (1 + part.tmod (A + S) - q))).setCell ⟨Z19x6.heap.size, 1, none⟩ (.int .i64 q)).cell? ⟨q3, 1, none⟩ = some (.int .i64 S) := ((World.cell?_setCell_other _ _ _ _ (by intro e; injection e with e1 e2; omega)).trans ((World.cell?_setCell_other _ _ _ _ (by intro e; injection e with e1 e2; omega)).trans M1))
              replace Ef0 : ((Z19x7.setCell ⟨Z19x6.heap.size, 0, none⟩ (.int .i64 (1 + part.tmod (A + S) - q))).setCell ⟨Z19x6.heap.size, 1, none⟩ (.int .i64 q)).frozen? ⟨Z19x1.heap.size, 0, none⟩ = false := by simp [go_sem, Ef0]
              replace Ef1 : ((Z19x7.setCell ⟨Z19x6.heap.size, 0, none⟩ (.int .i64 (1 + part.tmod (A + S) - q))).setCell ⟨Z19x6.heap.size, 1, none⟩ (.int .i64 q)).frozen? ⟨Z19x1.heap.size, 1, none⟩ = false := by simp [go_sem, Ef1]
              replace E0 : ((Z19x7.setCell ⟨Z19x6.heap.size, 0, none⟩ (.int .i64 (1 + part.tmod (A + S) - q))).setCell ⟨Z19x6.heap.size, 1, none⟩ (.int .i64 q)).cell? ⟨Z19x1.heap.size, 0, none⟩ = some (.int .i64 0) := ((World.cell?_setCell_other _ _ _ _ (by intro e; injection e with e1 e2; omega)).trans ((World.cell?_setCell_other _ _ _ _ (by intro e; injection e with e1 e2; omega)).trans E0))
              replace E1 : ((Z19x7.setCell ⟨Z19x6.heap.size, 0, none⟩ (.int .i64 (1 + part.tmod (A + S) - q))).setCell ⟨Z19x6.heap.size, 1, none⟩ (.int .i64 q)).cell? ⟨Z19x1.heap.size, 1, none⟩ = some (.int .i64 0) := ((World.cell?_setCell_other _ _ _ _ (by intro e; injection e with e1 e2; omega)).trans ((World.cell?_setCell_other _ _ _ _ (by intro e; injection e with e1 e2; omega)).trans E1))
              replace Df0 : ((Z19x7.setCell ⟨Z19x6.heap.size, 0, none⟩ (.int .i64 (1 + part.tmod (A + S) - q))).setCell ⟨Z19x6.heap.size, 1, none⟩ (.int .i64 q)).frozen? ⟨Z19x6.heap.size, 0, none⟩ = false := by simp [go_sem, Df0]
              replace Df1 : ((Z19x7.setCell ⟨Z19x6.heap.size, 0, none⟩ (.int .i64 (1 + part.tmod (A + S) - q))).setCell ⟨Z19x6.heap.size, 1, none⟩ (.int .i64 q)).frozen? ⟨Z19x6.heap.size, 1, none⟩ = false := by simp [go_sem, Df1]
              replace D0 : ((Z19x7.setCell ⟨Z19x6.heap.size, 0, none⟩ (.int .i64 (1 + part.tmod (A + S) - q))).setCell ⟨Z19x6.heap.size, 1, none⟩ (.int .i64 q)).cell? ⟨Z19x6.heap.size, 0, none⟩ = some (.int .i64 (1 + part.tmod (A + S) - q)) := by simp [go_sem, D0]
              replace D1 : ((Z19x7.setCell ⟨Z19x6.heap.size, 0, none⟩ (.int .i64 (1 + part.tmod (A + S) - q))).setCell ⟨Z19x6.heap.size, 1, none⟩ (.int .i64 q)).cell? ⟨Z19x6.heap.size, 1, none⟩ = some (.int .i64 q) := by simp [go_sem, D1]
              replace nK : q2 < ((Z19x7.setCell ⟨Z19x6.heap.size, 0, none⟩ (.int .i64 (1 + part.tmod (A + S) - q))).setCell ⟨Z19x6.heap.size, 1, none⟩ (.int .i64 q)).heap.size := by simpa [World.setCell] using nK
              replace nM : q3 < ((Z19x7.setCell ⟨Z19x6.heap.size, 0, none⟩ (.int .i64 (1 + part.tmod (A + S) - q))).setCell ⟨Z19x6.heap.size, 1, none⟩ (.int .i64 q)).heap.size := by simpa [World.setCell] using nM
              replace nE : Z19x1.heap.size < ((Z19x7.setCell ⟨Z19x6.heap.size, 0, none⟩ (.int .i64 (1 + part.tmod (A + S) - q))).setCell ⟨Z19x6.heap.size, 1, none⟩ (.int .i64 q)).heap.size := by simpa [World.setCell] using nE
              replace nD : Z19x6.heap.size < ((Z19x7.setCell ⟨Z19x6.heap.size, 0, none⟩ (.int .i64 (1 + part.tmod (A + S) - q))).setCell ⟨Z19x6.heap.size, 1, none⟩ (.int .i64 q)).heap.size := by simpa [World.setCell] using nD
              replace hL := hL.setCell (p := ⟨Z19x6.heap.size, 0, none⟩) (by show wr.heap.size ≤ Z19x6.heap.size; omega) (.int .i64 (1 + part.tmod (A + S) - q))
              replace hL := hL.setCell (p := ⟨Z19x6.heap.size, 1, none⟩) (by show wr.heap.size ≤ Z19x6.heap.size; omega) (.int .i64 q)
              refine hK.out _ _ ⟨K0, K1, M0, M1, trivial⟩ (fun hHeld => ?_)
              clear hK K
              generalize ((Z19x7.setCell ⟨Z19x6.heap.size, 0, none⟩ (.int .i64 (1 + part.tmod (A + S) - q))).setCell ⟨Z19x6.heap.size, 1, none⟩ (.int .i64 q)) = Z19x8 at *
              try simp only [Act.put, List.setIfInBounds_toArray, List.set_cons_zero, List.set_cons_succ]
              refine wpAnyH_ready (rs := [19]) (by kernel_rfl) (by simp) ?_
              refine AllReadyH.cons rfl (fun K hK => ?_) AllReadyH.nil
              go_simp
              have hsM := hL.size
              replace K0 : ((Z19x8.setCell ⟨Z19x1.heap.size, 0, none⟩ (.int .i64 (A - (1 + part.tmod (A + S) - q)))).setCell ⟨Z19x1.heap.size, 1, none⟩ (.int .i64 (S - q))).cell? ⟨q2, 0, none⟩ = some (.int .i64 A) := ((World.cell?_setCell_other _ _ _ _ (by intro e; injection e with e1 e2; omega)).trans ((World.cell?_setCell_other _ _ _ _ (by intro e; injection e with e1 e2; omega)).trans K0))
              replace K1 : ((Z19x8.setCell ⟨Z19x1.heap.size, 0, none⟩ (.int .i64 (A - (1 + part.tmod (A + S) - q)))).setCell ⟨Z19x1.heap.size, 1, none⟩ (.int .i64 (S - q))).cell? ⟨q2, 1, none⟩ = some (.int .i64 S) := ((World.cell?_setCell_other _ _ _ _ (by intro e; injection e with e1 e2; omega)).trans ((World.cell?_setCell_other _ _ _ _ (by intro e; injection e with e1 e2; omega)).trans K1))
              replace K2 : ((Z19x8.setCell ⟨Z19x1.heap.size, 0, none⟩ (.int .i64 (A - (1 + part.tmod (A + S) - q)))).setCell ⟨Z19x1.heap.size, 1, none⟩ (.int .i64 (S - q))).cell? ⟨q2, 2, none⟩ = some (.int .i64 L) := ((World.cell?_setCell_other _ _ _ _ (by intro e; injection e with e1 e2; omega)).trans ((World.cell?_setCell_other _ _ _ _ (by intro e; injection e with e1 e2; omega)).trans K2))
              replace K3 : ((Z19x8.setCell ⟨Z19x1.heap.size, 0, none⟩ (.int .i64 (A - (1 + part.tmod (A + S) - q)))).setCell ⟨Z19x1.heap.size, 1, none⟩ (.int .i64 (S - q))).cell? ⟨q2, 3, none⟩ = some (.int .i64 Fl) := ((World.cell?_setCell_other _ _ _ _ (by intro e; injection e with e1 e2; omega)).trans ((World.cell?_setCell_other _ _ _ _ (by intro e; injection e with e1 e2; omega)).trans K3))
              replace M0 : ((Z19x8.setCell ⟨Z19x1.heap.size, 0, none⟩ (.int .i64 (A - (1 + part.tmod (A + S) - q)))).setCell ⟨Z19x1.heap.size, 1, none⟩ (.int .i64 (S - q))).cell? ⟨q3, 0, none⟩ = some (.int .i64 A) := ((World.cell?_setCell_other _ _ _ _ (by intro e; injection e with e1 e2; omega)).trans ((World.cell?_setCell_other _ _ _ _ (by intro e; injection e with e1 e2; omega)).trans M0))
              replace M1 : ((Z19x8.setCell ⟨Z19x1.heap.size, 0, none⟩ (.int .i64 (A - (1 + part.tmod (A + S) - q)))).setCell ⟨Z19x1.heap.size, 1, none⟩ (.int .i64 (S - q))).cell? ⟨q3, 1, none⟩ = some (.int .i64 S) := ((World.cell?_setCell_other _ _ _ _ (by intro e; injection e with e1 e2; omega)).trans ((World.cell?_setCell_other _ _ _ _ (by intro e; injection e with e1 e2; omega)).trans M1))
              replace Ef0 : ((Z19x8.setCell ⟨Z19x1.heap.size, 0, none⟩ (.int .i64 (A - (1 + part.tmod (A + S) - q)))).setCell ⟨Z19x1.heap.size, 1, none⟩ (.int .i64 (S - q))).frozen? ⟨Z19x1.heap.size, 0, none⟩ = false := by simp [go_sem, Ef0]
              replace Ef1 : ((Z19x8.setCell ⟨Z19x1.heap.size, 0, none⟩ (.int .i64 (A - (1 + part.tmod (A + S) - q)))).setCell ⟨Z19x1.heap.size, 1, none⟩ (.int .i64 (S - q))).frozen? ⟨Z19x1.heap.size, 1, none⟩ = false := by simp [go_sem, Ef1]
              replace E0 : ((Z19x8.setCell ⟨Z19x1.heap.size, 0, none⟩ (.int .i64 (A - (1 + part.tmod (A + S) - q)))).setCell ⟨Z19x1.heap.size, 1, none⟩ (.int .i64 (S - q))).cell? ⟨Z19x1.heap.size, 0, none⟩ = some (.int .i64 (A - (1 + part.tmod (A + S) - q))) := by simp [go_sem, E0]
              replace E1 : ((Z19x8.setCell ⟨Z19x1.heap.size, 0, none⟩ (.int .i64 (A - (1 + part.tmod (A + S) - q)))).setCell ⟨Z19x1.heap.size, 1, none⟩ (.int .i64 (S - q))).cell? ⟨Z19x1.heap.size, 1, none⟩ = some (.int .i64 (S - q)) := by simp [go_sem, E1]
              replace Df0 : ((Z19x8.setCell ⟨Z19x1.heap.size, 0, none⟩ (.int .i64 (A - (1 + part.tmod (A + S) - q)))).setCell ⟨Z19x1.heap.size, 1, none⟩ (.int .i64 (S - q))).frozen? ⟨Z19x6.heap.size, 0, none⟩ = false := by simp [go_sem, Df0]
              replace Df1 : ((Z19x8.setCell ⟨Z19x1.heap.size, 0, none⟩ (.int .i64 (A - (1 + part.tmod (A + S) - q)))).setCell ⟨Z19x1.heap.size, 1, none⟩ (.int .i64 (S - q))).frozen? ⟨Z19x6.heap.size, 1, none⟩ = false := by simp [go_sem, Df1]
              replace D0 : ((Z19x8.setCell ⟨Z19x1.heap.size, 0, none⟩ (.int .i64 (A - (1 + part.tmod (A + S) - q)))).setCell ⟨Z19x1.heap.size, 1, none⟩ (.int .i64 (S - q))).cell? ⟨Z19x6.heap.size, 0, none⟩ = some (.int .i64 (1 + part.tmod (A + S) - q)) := ((World.cell?_setCell_other _ _ _ _ (by intro e; injection e with e1 e2; omega)).trans ((World.cell?_setCell_other _ _ _ _ (by intro e; injection e with e1 e2; omega)).trans D0))
              replace D1 : ((Z19x8.setCell ⟨Z19x1.heap.size, 0, none⟩ (.int .i64 (A - (1 + part.tmod (A + S) - q)))).setCell ⟨Z19x1.heap.size, 1, none⟩ (.int .i64 (S - q))).cell? ⟨Z19x6.heap.size, 1, none⟩ = some (.int .i64 q) := ((World.cell?_setCell_other _ _ _ _ (by intro e; injection e with e1 e2; omega)).trans ((World.cell?_setCell_other _ _ _ _ (by intro e; injection e with e1 e2; omega)).trans D1))
              replace nK : q2 < ((Z19x8.setCell ⟨Z19x1.heap.size, 0, none⟩ (.int .i64 (A - (1 + part.tmod (A + S) - q)))).setCell ⟨Z19x1.heap.size, 1, none⟩ (.int .i64 (S - q))).heap.size := by simpa [World.setCell] using nK
              replace nM : q3 < ((Z19x8.setCell ⟨Z19x1.heap.size, 0, none⟩ (.int .i64 (A - (1 + part.tmod (A + S) - q)))).setCell ⟨Z19x1.heap.size, 1, none⟩ (.int .i64 (S - q))).heap.size := by simpa [World.setCell] using nM
              replace nE : Z19x1.heap.size < ((Z19x8.setCell ⟨Z19x1.heap.size, 0, none⟩ (.int .i64 (A - (1 + part.tmod (A + S) - q)))).setCell ⟨Z19x1.heap.size, 1, none⟩ (.int .i64 (S - q))).heap.size := by simpa [World.setCell] using nE
              replace nD : Z19x6.heap.size < ((Z19x8.setCell ⟨Z19x1.heap.size, 0, none⟩ (.int .i64 (A - (1 + part.tmod (A + S) - q)))).setCell ⟨Z19x1.heap.size, 1, none⟩ (.int .i64 (S - q))).heap.size := by simpa [World.setCell] using nD
              replace hL := hL.setCell (p := ⟨Z19x1.heap.size, 0, none⟩) (by show wr.heap.size ≤ Z19x1.heap.size; omega) (.int .i64 (A - (1 + part.tmod (A + S) - q)))
              replace hL := hL.setCell (p := ⟨Z19x1.heap.size, 1, none⟩) (by show wr.heap.size ≤ Z19x1.heap.size; omega) (.int .i64 (S - q))
              refine hK.out _ _ ⟨K0, K1, M0, M1, trivial⟩ (fun hHeld => ?_)
              clear hK K
              generalize ((Z19x8.setCell ⟨Z19x1.heap.size, 0, none⟩ (.int .i64 (A - (1 + part.tmod (A + S) - q)))).setCell ⟨Z19x1.heap.size, 1, none⟩ (.int .i64 (S - q))) = Z19x9 at *
              try simp only [Act.put, List.setIfInBounds_toArray, List.set_cons_zero, List.set_cons_succ]
              refine take_slot (i := 20) (d := 13) (v := ?_) rfl rfl (by kernel_rfl) (by kernel_rfl) (by kernel_rfl) (fun _ _ _ h => h) (Or.inl ⟨by rfl, ?_⟩) (by assumption) ?_
              rotate_left 1
              focus (intro wS hSw; (try dsimp only at hSw); go_simp; try with_reducible rfl)
              try simp only [List.setIfInBounds_toArray, List.set_cons_zero, List.set_cons_succ]
              refine wpAnyH_done (by kernel_rfl) ?_ _
              have hB2 := hB.trans hL
              clear hHeld hL
              generalize Z19x6.heap.size = gd at *
              generalize Z19x1.heap.size = ge at *
              exact key gd ge Z19x9 ⟨nD, nE, D0, D1, E0, E1, K0, K1, K2, K3, nK, hB2⟩
          · go_simp
            have hb := (Below.refl wd19.heap.size wd19).alloc (Nat.le_refl _) (Obj.cells #[.int .i64 0, .int .i64 0] 30)
            have szZ19x10 := hL.size
            have ord10nK := nK
            have ord10nM := nM
            replace K0 := cell_next hb nK K0
            replace K1 := cell_next hb nK K1
            replace K2 := cell_next hb nK K2
            replace K3 := cell_next hb nK K3
            replace M0 := cell_next hb nM M0
            replace M1 := cell_next hb nM M1
            replace nK := Nat.lt_of_lt_of_le nK hb.size
            replace nM := Nat.lt_of_lt_of_le nM hb.size
            replace hL := hL.trans (hb.mono (Nat.le_trans hBW hL.size))
            have Df0 : (wd19.alloc (Obj.cells #[.int .i64 0, .int .i64 0] 30)).frozen? ⟨wd19.heap.size, 0, none⟩ = false := by simp [go_sem]
            have Df1 : (wd19.alloc (Obj.cells #[.int .i64 0, .int .i64 0] 30)).frozen? ⟨wd19.heap.size, 1, none⟩ = false := by simp [go_sem]
            have D0 : (wd19.alloc (Obj.cells #[.int .i64 0, .int .i64 0] 30)).cell? ⟨wd19.heap.size, 0, none⟩ = some (.int .i64 0) := cell_new _ _ _ 0
            have D1 : (wd19.alloc (Obj.cells #[.int .i64 0, .int .i64 0] 30)).cell? ⟨wd19.heap.size, 1, none⟩ = some (.int .i64 0) := cell_new _ _ _ 1
            have nD : wd19.heap.size < (wd19.alloc (Obj.cells #[.int .i64 0, .int .i64 0] 30)).heap.size := by simp
            refine hK.out _ _ ⟨K0, K1, M0, M1, trivial⟩ (fun hHeld => ?_)
            clear hK K hb
            generalize wd19.alloc (Obj.cells #[.int .i64 0, .int .i64 0] 30) = Z19x10 at *
            try simp only [Act.put, List.setIfInBounds_toArray, List.set_cons_zero, List.set_cons_succ]
            refine wpAnyH_ready (rs := [11, 17]) (by kernel_rfl) (by simp) ?_
            refine AllReadyH.cons rfl (fun K hK => ?_) (AllReadyH.cons rfl (fun K hK => ?_) AllReadyH.nil)
            · go_simp
              refine (CD.out _).mono ?_
              rintro e Z19x11 ⟨rfl, hb⟩
              replace K0 := cell_next hb nK K0
              replace K1 := cell_next hb nK K1
              replace K2 := cell_next hb nK K2
              replace K3 := cell_next hb nK K3
              replace M0 := cell_next hb nM M0
              replace M1 := cell_next hb nM M1
              replace Df0 := frozen_next hb nD Df0
              replace Df1 := frozen_next hb nD Df1
              replace D0 := cell_next hb nD D0
              replace D1 := cell_next hb nD D1
              replace nK := Nat.lt_of_lt_of_le nK hb.size
              replace nM := Nat.lt_of_lt_of_le nM hb.size
              replace nD := Nat.lt_of_lt_of_le nD hb.size
              replace hL := hL.trans (hb.mono (Nat.le_trans hBW hL.size))
              refine hK.out _ _ ⟨K0, K1, M0, M1, trivial⟩ (fun hHeld => ?_)
              clear hK K hb
              try simp only [Act.put, List.setIfInBounds_toArray, List.set_cons_zero, List.set_cons_succ]
              refine take_slot (i := 12) (d := 155) (v := ?_) rfl rfl (by kernel_rfl) (by kernel_rfl) (by kernel_rfl) (fun _ _ _ h => h) (Or.inl ⟨by rfl, ?_⟩) (by assumption) ?_
              rotate_left 1
              focus (intro wS hSw; (try dsimp only at hSw); go_simp; try with_reducible rfl)
              try simp only [List.setIfInBounds_toArray, List.set_cons_zero, List.set_cons_succ]
              refine take_slot (i := 13) (d := 168) (v := ?_) rfl rfl (by kernel_rfl) (by kernel_rfl) (by kernel_rfl) (fun _ _ _ h => h) (Or.inl ⟨by rfl, ?_⟩) (by assumption) ?_
              rotate_left 1
              focus (intro wS hSw; (try dsimp only at hSw); go_simp; try with_reducible rfl)
              try simp only [List.setIfInBounds_toArray, List.set_cons_zero, List.set_cons_succ]
              refine take_slot (i := 14) (d := 169) (v := ?_) rfl rfl (by kernel_rfl) (by kernel_rfl) (by kernel_rfl) (fun _ _ _ h => h) (Or.inl ⟨by rfl, ?_⟩) (by assumption) ?_
              rotate_left 1
              focus (intro wS hSw; (try dsimp only at hSw); go_simp; try with_reducible rfl)
              try simp only [List.setIfInBounds_toArray, List.set_cons_zero, List.set_cons_succ]
              refine take_slot (i := 15) (d := 170) (v := ?_) rfl rfl (by kernel_rfl) (by kernel_rfl) (by kernel_rfl) (fun _ _ _ h => h) (Or.inl ⟨by rfl, ?_⟩) (by assumption) ?_
              rotate_left 1
              focus (intro wS hSw; (try dsimp only at hSw); go_simp; try with_reducible rfl)
              try simp only [List.setIfInBounds_toArray, List.set_cons_zero, List.set_cons_succ]
              refine wpAnyH_ready (rs := [17]) (by kernel_rfl) (by simp) ?_
              refine AllReadyH.cons rfl (fun K hK => ?_) AllReadyH.nil
              go_simp
              have hb := (Below.refl Z19x11.heap.size Z19x11).alloc (Nat.le_refl _) (Obj.cells #[.int .i64 0, .int .i64 0] 30)
              have szZ19x12 := hL.size
              have ord12nK := nK
              have ord12nM := nM
              have ord12nD := nD
              replace K0 := cell_next hb nK K0
              replace K1 := cell_next hb nK K1
              replace K2 := cell_next hb nK K2
              replace K3 := cell_next hb nK K3
              replace M0 := cell_next hb nM M0
              replace M1 := cell_next hb nM M1
              replace Df0 := frozen_next hb nD Df0
              replace Df1 := frozen_next hb nD Df1
              replace D0 := cell_next hb nD D0
              replace D1 := cell_next hb nD D1
              replace nK := Nat.lt_of_lt_of_le nK hb.size
              replace nM := Nat.lt_of_lt_of_le nM hb.size
              replace nD := Nat.lt_of_lt_of_le nD hb.size
              replace hL := hL.trans (hb.mono (Nat.le_trans hBW hL.size))
              have Ef0 : (Z19x11.alloc (Obj.cells #[.int .i64 0, .int .i64 0] 30)).frozen? ⟨Z19x11.heap.size, 0, none⟩ = false := by simp [go_sem]
              have Ef1 : (Z19x11.alloc (Obj.cells #[.int .i64 0, .int .i64 0] 30)).frozen? ⟨Z19x11.heap.size, 1, none⟩ = false := by simp [go_sem]
              have E0 : (Z19x11.alloc (Obj.cells #[.int .i64 0, .int .i64 0] 30)).cell? ⟨Z19x11.heap.size, 0, none⟩ = some (.int .i64 0) := cell_new _ _ _ 0
              have E1 : (Z19x11.alloc (Obj.cells #[.int .i64 0, .int .i64 0] 30)).cell? ⟨Z19x11.heap.size, 1, none⟩ = some (.int .i64 0) := cell_new _ _ _ 1
              have nE : Z19x11.heap.size < (Z19x11.alloc (Obj.cells #[.int .i64 0, .int .i64 0] 30)).heap.size := by simp
              refine hK.out _ _ ⟨K0, K1, M0, M1, trivial⟩ (fun hHeld => ?_)
              clear hK K hb
              generalize Z19x11.alloc (Obj.cells #[.int .i64 0, .int .i64 0] 30) = Z19x12 at *
              try simp only [Act.put, List.setIfInBounds_toArray, List.set_cons_zero, List.set_cons_succ]
              refine wpAnyH_ready (rs := [18]) (by kernel_rfl) (by simp) ?_
              refine AllReadyH.cons rfl (fun K hK => ?_) AllReadyH.nil
              go_simp
              have hsL := hL.size
              replace K0 : ((Z19x12.setCell ⟨wd19.heap.size, 0, none⟩ (.int .i64 (1 + part.tmod (A + S) - q))).setCell ⟨wd19.heap.size, 1, none⟩ (.int .i64 q)).cell? ⟨q2, 0, none⟩ = some (.int .i64 A) := ((World.cell?_setCell_other _ _ _ _ (by intro e; injection e with e1 e2; omega)).trans ((World.cell?_setCell_other _ _ _ _ (by intro e; injection e with e1 e2; omega)).trans K0))
              replace K1 : ((Z19x12.setCell ⟨wd19.heap.size, 0, none⟩ (.int .i64 (1 + part.tmod (A + S) - q))).setCell ⟨wd19.heap.size, 1, none⟩ (.int .i64 q)).cell? ⟨q2, 1, none⟩ = some (.int .i64 S) := ((World.cell?_setCell_other _ _ _ _ (by intro e; injection e with e1 e2; omega)).trans ((World.cell?_setCell_other _ _ _ _ (by intro e; injection e with e1 e2; omega)).trans K1))
              replace K2 : ((Z19x12.setCell ⟨wd19.heap.size, 0, none⟩ (.int .i64 (1 + part.tmod (A + S) - q))).setCell ⟨wd19.heap.size, 1, none⟩ (.int .i64 q)).cell? ⟨q2, 2, none⟩ = some (.int .i64 L) := ((World.cell?_setCell_other _ _ _ _ (by intro e; injection e with e1 e2; omega)).trans ((World.cell?_setCell_other _ _ _ _ (by intro e; injection e with e1 e2; omega)).trans K2))
              replace K3 : ((Z19x12.setCell ⟨wd19.heap.size, 0, none⟩ (.int .i64 (1 + part.tmod (A + S) - q))).setCell ⟨wd19.heap.size, 1, none⟩ (.int .i64 q)).cell? ⟨q2, 3, none⟩ = some (.int .i64 Fl) := ((World.cell?_setCell_other _ _ _ _ (by intro e; injection e with e1 e2; omega)).trans ((World.cell?_setCell_other _ _ _ _ (by intro e; injection e with e1 e2; omega)).trans K3))
              replace M0 : ((Z19x12.setCell ⟨wd19.heap.size, 0, none⟩ (.int .i64 (1 + part.tmod (A + S) - q))).setCell ⟨wd19.heap.size, 1, none⟩ (.int .i64 q)).cell? ⟨q3, 0, none⟩ = some (.int .i64 A) := ((World.cell?_setCell_other _ _ _ _ (by intro e; injection e with e1 e2; omega)).trans ((World.cell?_setCell_other _ _ _ _ (by intro e; injection e with e1 e2; omega)).trans M0))
              replace M1 : ((Z19x12.setCell ⟨wd19.heap.size, 0, none⟩ (.int .i64 (1 + part.tmod (A + S) - q))).setCell ⟨wd19.heap.size, 1, none⟩ (.int .i64 q)).cell? ⟨q3, 1, none⟩ = some (.int .i64 S) := ((World.cell?_setCell_other _ _ _ _ (by intro e; injection e with e1 e2; omega)).trans ((World.cell?_setCell_other _ _ _ _ (by intro e; injection e with e1 e2; omega)).trans M1))
              replace Df0 : ((Z19x12.setCell ⟨wd19.heap.size, 0, none⟩ (.int .i64 (1 + part.tmod (A + S) - q))).setCell ⟨wd19.heap.size, 1, none⟩ (.int .i64 q)).frozen? ⟨wd19.heap.size, 0, none⟩ = false := by simp [go_sem, Df0]
              replace Df1 : ((Z19x12.setCell ⟨wd19.heap.size, 0, none⟩ (.int .i64 (1 + part.tmod (A + S) - q))).setCell ⟨wd19.heap.size, 1, none⟩ (.int .i64 q)).frozen? ⟨wd19.heap.size, 1, none⟩ = false := by simp [go_sem, Df1]
              replace D0 : ((Z19x12.setCell ⟨wd19.heap.size, 0, none⟩ (.int .i64 (1 + part.tmod (A + S) - q))).setCell ⟨wd19.heap.size, 1, none⟩ (.int .i64 q)).cell? ⟨wd19.heap.size, 0, none⟩ = some (.int .i64 (1 + part.tmod (A + S) - q)) := by simp [go_sem, D0]
              replace D1 : ((Z19x12.setCell ⟨wd19.heap.size, 0, none⟩ (.int .i64 (1 + part.tmod (A + S) - q))).setCell ⟨wd19.heap.size, 1, none⟩ (.int .i64 q)).cell? ⟨wd19.heap.size, 1, none⟩ = some (.int .i64 q) := by simp [go_sem, D1]
              replace Ef0 : ((Z19x12.setCell ⟨wd19.heap.size, 0, none⟩ (.int .i64 (1 + part.tmod (A + S) - q))).setCell ⟨wd19.heap.size, 1, none⟩ (.int .i64 q)).frozen? ⟨Z19x11.heap.size, 0, none⟩ = false := by simp [go_sem, Ef0]
              replace Ef1 : ((Z19x12.setCell ⟨wd19.heap.size, 0, none⟩ (.int .i64 (1 + part.tmod (A + S) - q))).setCell ⟨wd19.heap.size, 1, none⟩ (.int .i64 q)).frozen? ⟨Z19x11.heap.size, 1, none⟩ = false := by simp [go_sem, Ef1]
              replace E0 : ((Z19x12.setCell ⟨wd19.heap.size, 0, none⟩ (.int .i64 (1 + part.tmod (A + S) - q))).setCell ⟨wd19.heap.size, 1, none⟩ (.int .i64 q)).cell? ⟨Z19x11.heap.size, 0, none⟩ = some (.int .i64 0) := ((World.cell?_setCell_other _ _ _ _ (by intro e; injection e with e1 e2; omega)).trans ((World.cell?_setCell_other _ _ _ _ (by intro e; injection e with e1 e2; omega)).trans E0))
              replace E1 : ((Z19x12.setCell ⟨wd19.heap.size, 0, none⟩ (.int .i64 (1 + part.tmod (A + S) - q))).setCell ⟨wd19.heap.size, 1, none⟩ (.int .i64 q)).cell? ⟨Z19x11.heap.size, 1, none⟩ = some (.int .i64 0) := ((World.cell?_setCell_other _ _ _ _ (by intro e; injection e with e1 e2; omega)).trans ((World.cell?_setCell_other _ _ _ _ (by intro e; injection e with e1 e2; omega)).trans E1))
              replace nK : q2 < ((Z19x12.setCell ⟨wd19.heap.size, 0, none⟩ (.int .i64 (1 + part.tmod (A + S) - q))).setCell ⟨wd19.heap.size, 1, none⟩ (.int .i64 q)).heap.size := by simpa [World.setCell] using nK
              replace nM : q3 < ((Z19x12.setCell ⟨wd19.heap.size, 0, none⟩ (.int .i64 (1 + part.tmod (A + S) - q))).setCell ⟨wd19.heap.size, 1, none⟩ (.int .i64 q)).heap.size := by simpa [World.setCell] using nM
              replace nD : wd19.heap.size < ((Z19x12.setCell ⟨wd19.heap.size, 0, none⟩ (.int .i64 (1 + part.tmod (A + S) - q))).setCell ⟨wd19.heap.size, 1, none⟩ (.int .i64 q)).heap.size := by simpa [World.setCell] using nD
              replace nE : Z19x11.heap.size < ((Z19x12.setCell ⟨wd19.heap.size, 0, none⟩ (.int .i64 (1 + part.tmod (A + S) - q))).setCell ⟨wd19.heap.size, 1, none⟩ (.int .i64 q)).heap.size := by simpa [World.setCell] using nE
              replace hL := hL.setCell (p := ⟨wd19.heap.size, 0, none⟩) (by show wr.heap.size ≤ wd19.heap.size; omega) (.int .i64 (1 + part.tmod (A + S) - q))
              replace hL := hL.setCell (p := ⟨wd19.heap.size, 1, none⟩) (by show wr.heap.size ≤ wd19.heap.size; omega) (.int .i64 q)
              refine hK.out _ _ ⟨K0, K1, M0, M1, trivial⟩ (fun hHeld => ?_)
              clear hK K
              generalize ((Z19x12.setCell ⟨wd19.heap.size, 0, none⟩ (.int .i64 (1 + part.tmod (A + S) - q))).setCell ⟨wd19.heap.size, 1, none⟩ (.int .i64 q)) = Z19x13 at *
              try simp only [Act.put, List.setIfInBounds_toArray, List.set_cons_zero, List.set_cons_succ]
              refine wpAnyH_ready (rs := [19]) (by kernel_rfl) (by simp) ?_
              refine AllReadyH.cons rfl (fun K hK => ?_) AllReadyH.nil
              go_simp
              have hsM := hL.size
              replace K0 : ((Z19x13.setCell ⟨Z19x11.heap.size, 0, none⟩ (.int .i64 (A - (1 + part.tmod (A + S) - q)))).setCell ⟨Z19x11.heap.size, 1, none⟩ (.int .i64 (S - q))).cell? ⟨q2, 0, none⟩ = some (.int .i64 A) := ((World.cell?_setCell_other _ _ _ _ (by intro e; injection e with e1 e2; omega)).trans ((World.cell?_setCell_other _ _ _ _ (by intro e; injection e with e1 e2; omega)).trans K0))
              replace K1 : ((Z19x13.setCell ⟨Z19x11.heap.size, 0, none⟩ (.int .i64 (A - (1 + part.tmod (A + S) - q)))).setCell ⟨Z19x11.heap.size, 1, none⟩ (.int .i64 (S - q))).cell? ⟨q2, 1, none⟩ = some (.int .i64 S) := ((World.cell?_setCell_other _ _ _ _ (by intro e; injection e with e1 e2; omega)).trans ((World.cell?_setCell_other _ _ _ _ (by intro e; injection e with e1 e2; omega)).trans K1))
              replace K2 : ((Z19x13.setCell ⟨Z19x11.heap.size, 0, none⟩ (.int .i64 (A - (1 + part.tmod (A + S) - q)))).setCell ⟨Z19x11.heap.size, 1, none⟩ (.int .i64 (S - q))).cell? ⟨q2, 2, none⟩ = some (.int .i64 L) := ((World.cell?_setCell_other _ _ _ _ (by intro e; injection e with e1 e2; omega)).trans ((World.cell?_setCell_other _ _ _ _ (by intro e; injection e with e1 e2; omega)).trans K2))
              replace K3 : ((Z19x13.setCell ⟨Z19x11.heap.size, 0, none⟩ (.int .i64 (A - (1 + part.tmod (A + S) - q)))).setCell ⟨Z19x11.heap.size, 1, none⟩ (.int .i64 (S - q))).cell? ⟨q2, 3, none⟩ = some (.int .i64 Fl) := ((World.cell?_setCell_other _ _ _ _ (by intro e; injection e with e1 e2; omega)).trans ((World.cell?_setCell_other _ _ _ _ (by intro e; injection e with e1 e2; omega)).trans K3))
              replace M0 : ((Z19x13.setCell ⟨Z19x11.heap.size, 0, none⟩ (.int .i64 (A - (1 + part.tmod (A + S) - q)))).setCell ⟨Z19x11.heap.size, 1, none⟩ (.int .i64 (S - q))).cell? ⟨q3, 0, none⟩ = some (.int .i64 A) := ((World.cell?_setCell_other _ _ _ _ (by intro e; injection e with e1 e2; omega)).trans ((World.cell?_setCell_other _ _ _ _ (by intro e; injection e with e1 e2; omega)).trans M0))
              replace M1 : ((Z19x13.setCell ⟨Z19x11.heap.size, 0, none⟩ (.int .i64 (A - (1 + part.tmod (A + S) - q)))).setCell ⟨Z19x11.heap.size, 1, none⟩ (.int .i64 (S - q))).cell? ⟨q3, 1, none⟩ = some (.int .i64 S) := ((World.cell?_setCell_other _ _ _ _ (by intro e; injection e with e1 e2; omega)).trans ((World.cell?_setCell_other _ _ _ _ (by intro e; injection e with e1 e2; omega)).trans M1))
              replace Df0 : ((Z19x13.setCell ⟨Z19x11.heap.size, 0, none⟩ (.int .i64 (A - (1 + part.tmod (A + S) - q)))).setCell ⟨Z19x11.heap.size, 1, none⟩ (.int .i64 (S - q))).frozen? ⟨wd19.heap.size, 0, none⟩ = false := by simp [go_sem, Df0]
              replace Df1 : ((Z19x13.setCell ⟨Z19x11.heap.size, 0, none⟩ (.int .i64 (A - (1 + part.tmod (A + S) - q)))).setCell ⟨Z19x11.heap.size, 1, none⟩ (.int .i64 (S - q))).frozen? ⟨wd19.heap.size, 1, none⟩ = false := by simp [go_sem, Df1]
              replace D0 : ((Z19x13.setCell ⟨Z19x11.heap.size, 0, none⟩ (.int .i64 (A - (1 + part.tmod (A + S) - q)))).setCell ⟨Z19x11.heap.size, 1, none⟩ (.int .i64 (S - q))).cell? ⟨wd19.heap.size, 0, none⟩ = some (.int .i64 (1 + part.tmod (A + S) - q)) := ((World.cell?_setCell_other _ _ _ _ (by intro e; injection e with e1 e2; omega)).trans ((World.cell?_setCell_other _ _ _ _ (by intro e; injection e with e1 e2; omega)).trans D0))
              replace D1 : ((Z19x13.setCell ⟨Z19x11.heap.size, 0, none⟩ (.int .i64 (A - (1 + part.tmod (A + S) - q)))).setCell ⟨Z19x11.heap.size, 1, none⟩ (.int .i64 (S - q))).cell? ⟨wd19.heap.size, 1, none⟩ = some (.int .i64 q) := ((World.cell?_setCell_other _ _ _ _ (by intro e; injection e with e1 e2; omega)).trans ((World.cell?_setCell_other _ _ _ _ (by intro e; injection e with e1 e2; omega)).trans D1))
              replace Ef0 : ((Z19x13.setCell ⟨Z19x11.heap.size, 0, none⟩ (.int .i64 (A - (1 + part.tmod (A + S) - q)))).setCell ⟨Z19x11.heap.size, 1, none⟩ (.int .i64 (S - q))).frozen? ⟨Z19x11.heap.size, 0, none⟩ = false := by simp [go_sem, Ef0]
              replace Ef1 : ((Z19x13.setCell ⟨Z19x11.heap.size, 0, none⟩ (.int .i64 (A - (1 + part.tmod (A + S) - q)))).setCell ⟨Z19x11.heap.size, 1, none⟩ (.int .i64 (S - q))).frozen? ⟨Z19x11.heap.size, 1, none⟩ = false := by simp [go_sem, Ef1]
              replace E0 : ((Z19x13.setCell ⟨Z19x11.heap.size, 0, none⟩ (.int .i64 (A - (1 + part.tmod (A + S) - q)))).setCell ⟨Z19x11.heap.size, 1, none⟩ (.int .i64 (S - q))).cell? ⟨Z19x11.heap.size, 0, none⟩ = some (.int .i64 (A - (1 + part.tmod (A + S) - q))) := by simp [go_sem, E0]
              replace E1 : ((Z19x13.setCell ⟨Z19x11.heap.size, 0, none⟩ (.int .i64 (A - (1 + part.tmod (A + S) - q)))).setCell ⟨Z19x11.heap.size, 1, none⟩ (.int .i64 (S - q))).cell? ⟨Z19x11.heap.size, 1, none⟩ = some (.int .i64 (S - q)) := by simp [go_sem, E1]
              replace nK : q2 < ((Z19x13.setCell ⟨Z19x11.heap.size, 0, none⟩ (.int .i64 (A - (1 + part.tmod (A + S) - q)))).setCell ⟨Z19x11.heap.size, 1, none⟩ (.int .i64 (S - q))).heap.size := by simpa [World.setCell] using nK
              replace nM : q3 < ((Z19x13.setCell ⟨Z19x11.heap.size, 0, none⟩ (.int .i64 (A - (1 + part.tmod (A + S) - q)))).setCell ⟨Z19x11.heap.size, 1, none⟩ (.int .i64 (S - q))).heap.size := by simpa [World.setCell] using nM
              replace nD : wd19.heap.size < ((Z19x13.setCell ⟨Z19x11.heap.size, 0, none⟩ (.int .i64 (A - (1 + part.tmod (A + S) - q)))).setCell ⟨Z19x11.heap.size, 1, none⟩ (.int .i64 (S - q))).heap.size := by simpa [World.setCell] using nD
              replace nE : Z19x11.heap.size < ((Z19x13.setCell ⟨Z19x11.heap.size, 0, none⟩ (.int .i64 (A - (1 + part.tmod (A + S) - q)))).setCell ⟨Z19x11.heap.size, 1, none⟩ (.int .i64 (S - q))).heap.size := by simpa [World.setCell] using nE
              replace hL := hL.setCell (p := ⟨Z19x11.heap.size, 0, none⟩) (by show wr.heap.size ≤ Z19x11.heap.size; omega) (.int .i64 (A - (1 + part.tmod (A + S) - q)))
              replace hL := hL.setCell (p := ⟨Z19x11.heap.size, 1, none⟩) (by show wr.heap.size ≤ Z19x11.heap.size; omega) (.int .i64 (S - q))
              refine hK.out _ _ ⟨K0, K1, M0, M1, trivial⟩ (fun hHeld => ?_)
              clear hK K
              generalize ((Z19x13.setCell ⟨Z19x11.heap.size, 0, none⟩ (.int .i64 (A - (1 + part.tmod (A + S) - q)))).setCell ⟨Z19x11.heap.size, 1, none⟩ (.int .i64 (S - q))) = Z19x14 at *
              try simp only [Act.put, List.setIfInBounds_toArray, List.set_cons_zero, List.set_cons_succ]
              refine take_slot (i := 20) (d := 13) (v := ?_) rfl rfl (by kernel_rfl) (by kernel_rfl) (by kernel_rfl) (fun _ _ _ h => h) (Or.inl ⟨by rfl, ?_⟩) (by assumption) ?_
              rotate_left 1
              focus (intro wS hSw; (try dsimp only at hSw); go_simp; try with_reducible rfl)
              try simp only [List.setIfInBounds_toArray, List.set_cons_zero, List.set_cons_succ]
              refine wpAnyH_done (by kernel_rfl) ?_ _
              have hB2 := hB.trans hL
              clear hHeld hL
              generalize wd19.heap.size = gd at *
              generalize Z19x11.heap.size = ge at *
              exact key gd ge Z19x14 ⟨nD, nE, D0, D1, E0, E1, K0, K1, K2, K3, nK, hB2⟩
            · go_simp
              have hb := (Below.refl Z19x10.heap.size Z19x10).alloc (Nat.le_refl _) (Obj.cells #[.int .i64 0, .int .i64 0] 30)
              have szZ19x15 := hL.size
              have ord15nK := nK
              have ord15nM := nM
              have ord15nD := nD
              replace K0 := cell_next hb nK K0
              replace K1 := cell_next hb nK K1
              replace K2 := cell_next hb nK K2
              replace K3 := cell_next hb nK K3
              replace M0 := cell_next hb nM M0
              replace M1 := cell_next hb nM M1
              replace Df0 := frozen_next hb nD Df0
              replace Df1 := frozen_next hb nD Df1
              replace D0 := cell_next hb nD D0
              replace D1 := cell_next hb nD D1
              replace nK := Nat.lt_of_lt_of_le nK hb.size
              replace nM := Nat.lt_of_lt_of_le nM hb.size
              replace nD := Nat.lt_of_lt_of_le nD hb.size
              replace hL := hL.trans (hb.mono (Nat.le_trans hBW hL.size))
              have Ef0 : (Z19x10.alloc (Obj.cells #[.int .i64 0, .int .i64 0] 30)).frozen? ⟨Z19x10.heap.size, 0, none⟩ = false := by simp [go_sem]
              have Ef1 : (Z19x10.alloc (Obj.cells #[.int .i64 0, .int .i64 0] 30)).frozen? ⟨Z19x10.heap.size, 1, none⟩ = false := by simp [go_sem]
              have E0 : (Z19x10.alloc (Obj.cells #[.int .i64 0, .int .i64 0] 30)).cell? ⟨Z19x10.heap.size, 0, none⟩ = some (.int .i64 0) := cell_new _ _ _ 0
              have E1 : (Z19x10.alloc (Obj.cells #[.int .i64 0, .int .i64 0] 30)).cell? ⟨Z19x10.heap.size, 1, none⟩ = some (.int .i64 0) := cell_new _ _ _ 1
              have nE : Z19x10.heap.size < (Z19x10.alloc (Obj.cells #[.int .i64 0, .int .i64 0] 30)).heap.size := by simp
              refine hK.out _ _ ⟨K0, K1, M0, M1, trivial⟩ (fun hHeld => ?_)
              clear hK K hb
              generalize Z19x10.alloc (Obj.cells #[.int .i64 0, .int .i64 0] 30) = Z19x15 at *
              try simp only [Act.put, List.setIfInBounds_toArray, List.set_cons_zero, List.set_cons_succ]
              refine wpAnyH_ready (rs := [11]) (by kernel_rfl) (by simp) ?_
              refine AllReadyH.cons rfl (fun K hK => ?_) AllReadyH.nil
              go_simp
              refine (CD.out _).mono ?_
              rintro e Z19x16 ⟨rfl, hb⟩
              replace K0 := cell_next hb nK K0
              replace K1 := cell_next hb nK K1
              replace K2 := cell_next hb nK K2
              replace K3 := cell_next hb nK K3
              replace M0 := cell_next hb nM M0
              replace M1 := cell_next hb nM M1
              replace Df0 := frozen_next hb nD Df0
              replace Df1 := frozen_next hb nD Df1
              replace D0 := cell_next hb nD D0
              replace D1 := cell_next hb nD D1
              replace Ef0 := frozen_next hb nE Ef0
              replace Ef1 := frozen_next hb nE Ef1
              replace E0 := cell_next hb nE E0
              replace E1 := cell_next hb nE E1
              replace nK := Nat.lt_of_lt_of_le nK hb.size
              replace nM := Nat.lt_of_lt_of_le nM hb.size
              replace nD := Nat.lt_of_lt_of_le nD hb.size
              replace nE := Nat.lt_of_lt_of_le nE hb.size
              replace hL := hL.trans (hb.mono (Nat.le_trans hBW hL.size))
              refine hK.out _ _ ⟨K0, K1, M0, M1, trivial⟩ (fun hHeld => ?_)
              clear hK K hb
              try simp only [Act.put, List.setIfInBounds_toArray, List.set_cons_zero, List.set_cons_succ]
              refine take_slot (i := 12) (d := 155) (v := ?_) rfl rfl (by kernel_rfl) (by kernel_rfl) (by kernel_rfl) (fun _ _ _ h => h) (Or.inl ⟨by rfl, ?_⟩) (by assumption) ?_
              rotate_left 1
              focus (intro wS hSw; (try dsimp only at hSw); go_simp; try with_reducible rfl)
              try simp only [List.setIfInBounds_toArray, List.set_cons_zero, List.set_cons_succ]
              refine take_slot (i := 13) (d := 168) (v := ?_) rfl rfl (by kernel_rfl) (by kernel_rfl) (by kernel_rfl) (fun _ _ _ h => h) (Or.inl ⟨by rfl, ?_⟩) (by assumption) ?_
              rotate_left 1
              focus (intro wS hSw; (try dsimp only at hSw); go_simp; try with_reducible rfl)
              try simp only [List.setIfInBounds_toArray, List.set_cons_zero, List.set_cons_succ]
              refine take_slot (i := 14) (d := 169) (v := ?_) rfl rfl (by kernel_rfl) (by kernel_rfl) (by kernel_rfl) (fun _ _ _ h => h) (Or.inl ⟨by rfl, ?_⟩) (by assumption) ?_
              rotate_left 1
              focus (intro wS hSw; (try dsimp only at hSw); go_simp; try with_reducible rfl)
              try simp only [List.setIfInBounds_toArray, List.set_cons_zero, List.set_cons_succ]
              refine take_slot (i := 15) (d := 170) (v := ?_) rfl rfl (by kernel_rfl) (by kernel_rfl) (by kernel_rfl) (fun _ _ _ h => h) (Or.inl ⟨by rfl, ?_⟩) (by assumption) ?_
              rotate_left 1
              focus (intro wS hSw; (try dsimp only at hSw); go_simp; try with_reducible rfl)
              try simp only [List.setIfInBounds_toArray, List.set_cons_zero, List.set_cons_succ]
              refine wpAnyH_ready (rs := [18]) (by kernel_rfl) (by simp) ?_
              refine AllReadyH.cons rfl (fun K hK => ?_) AllReadyH.nil
              go_simp
              have hsL := hL.size
              replace K0 : ((Z19x16.setCell ⟨wd19.heap.size, 0, none⟩ (.int .i64 (1 + part.tmod (A + S) - q))).setCell ⟨wd19.heap.size, 1, none⟩ (.int .i64 q)).cell? ⟨q2, 0, none⟩ = some (.int .i64 A) := ((World.cell?_setCell_other _ _ _ _ (by intro e; injection e with e1 e2; omega)).trans ((World.cell?_setCell_other _ _ _ _ (by intro e; injection e with e1 e2; omega)).trans K0))
              replace K1 : ((Z19x16.setCell ⟨wd19.heap.size, 0, none⟩ (.int .i64 (1 + part.tmod (A + S) - q))).setCell ⟨wd19.heap.size, 1, none⟩ (.int .i64 q)).cell? ⟨q2, 1, none⟩ = some (.int .i64 S) := ((World.cell?_setCell_other _ _ _ _ (by intro e; injection e with e1 e2; omega)).trans ((World.cell?_setCell_other _ _ _ _ (by intro e; injection e with e1 e2; omega)).trans K1))
              replace K2 : ((Z19x16.setCell ⟨wd19.heap.size, 0, none⟩ (.int .i64 (1 + part.tmod (A + S) - q))).setCell ⟨wd19.heap.size, 1, none⟩ (.int .i64 q)).cell? ⟨q2, 2, none⟩ = some (.int .i64 L) := ((World.cell?_setCell_other _ _ _ _ (by intro e; injection e with e1 e2; omega)).trans ((World.cell?_setCell_other _ _ _ _ (by intro e; injection e with e1 e2; omega)).trans K2))
              replace K3 : ((Z19x16.setCell ⟨wd19.heap.size, 0, none⟩ (.int .i64 (1 + part.tmod (A + S) - q))).setCell ⟨wd19.heap.size, 1, none⟩ (.int .i64 q)).cell? ⟨q2, 3, none⟩ = some (.int .i64 Fl) := ((World.cell?_setCell_other _ _ _ _ (by intro e; injection e with e1 e2; omega)).trans ((World.cell?_setCell_other _ _ _ _ (by intro e; injection e with e1 e2; omega)).trans K3))
              replace M0 : ((Z19x16.setCell ⟨wd19.heap.size, 0, none⟩ (.int .i64 (1 + part.tmod (A + S) - q))).setCell ⟨wd19.heap.size, 1, none⟩ (.int .i64 q)).cell? ⟨q3, 0, none⟩ = some (.int .i64 A) := ((World.cell?_setCell_other _ _ _ _ (by intro e; injection e with e1 e2; omega)).trans ((World.cell?_setCell_other _ _ _ _ (by intro e; injection e with e1 e2; omega)).trans M0))
              replace M1 : ((Z19x16.setCell ⟨wd19.heap.size, 0, none⟩ (.int .i64 (1 + part.tmod (A + S) - q))).setCell ⟨wd19.heap.size, 1, none⟩ (.int .i64 q)).cell? ⟨q3, 1, none⟩ = some (.int .i64 S) := ((World.cell?_setCell_other _ _ _ _ (by intro e; injection e with e1 e2; omega)).trans ((World.cell?_setCell_other _ _ _ _ (by intro e; injection e with e1 e2; omega)).trans M1))
              replace Df0 : ((Z19x16.setCell ⟨wd19.heap.size, 0, none⟩ (.int .i64 (1 + part.tmod (A + S) - q))).setCell ⟨wd19.heap.size, 1, none⟩ (.int .i64 q)).frozen? ⟨wd19.heap.size, 0, none⟩ = false := by simp [go_sem, Df0]
              replace Df1 : ((Z19x16.setCell ⟨wd19.heap.size, 0, none⟩ (.int .i64 (1 + part.tmod (A + S) - q))).setCell ⟨wd19.heap.size, 1, none⟩ (.int .i64 q)).frozen? ⟨wd19.heap.size, 1, none⟩ = false := by simp [go_sem, Df1]
              replace D0 : ((Z19x16.setCell ⟨wd19.heap.size, 0, none⟩ (.int .i64 (1 + part.tmod (A + S) - q))).setCell ⟨wd19.heap.size, 1, none⟩ (.int .i64 q)).cell? ⟨wd19.heap.size, 0, none⟩ = some (.int .i64 (1 + part.tmod (A + S) - q)) := by simp [go_sem, D0]
              replace D1 : ((Z19x16.setCell ⟨wd19.heap.size, 0, none⟩ (.int .i64 (1 + part.tmod (A + S) - q))).setCell ⟨wd19.heap.size, 1, none⟩ (.int .i64 q)).cell? ⟨wd19.heap.size, 1, none⟩ = some (.int .i64 q) := by simp [go_sem, D1]
              replace Ef0 : ((Z19x16.setCell ⟨wd19.heap.size, 0, none⟩ (.int .i64 (1 + part.tmod (A + S) - q))).setCell ⟨wd19.heap.size, 1, none⟩ (.int .i64 q)).frozen? ⟨Z19x10.heap.size, 0, none⟩ = false := by simp [go_sem, Ef0]
              replace Ef1 : ((Z19x16.setCell ⟨wd19.heap.size, 0, none⟩ (.int .i64 (1 + part.tmod (A + S) - q))).setCell ⟨wd19.heap.size, 1, none⟩ (.int .i64 q)).frozen? ⟨Z19x10.heap.size, 1, none⟩ = false := by simp [go_sem, Ef1]
              replace E0 : ((Z19x16.setCell ⟨wd19.heap.size, 0, none⟩ (.int .i64 (1 + part.tmod (A + S) - q))).setCell ⟨wd19.heap.size, 1, none⟩ (.int .i64 q)).cell? ⟨Z19x10.heap.size, 0, none⟩ = some (.int .i64 0) := ((World.cell?_setCell_other _ _ _ _ (by intro e; injection e with e1 e2; omega)).trans ((World.cell?_setCell_other _ _ _ _ (by intro e; injection e with e1 e2; omega)).trans E0))
              replace E1 : ((Z19x16.setCell ⟨wd19.heap.size, 0, none⟩ (.int .i64 (1 + part.tmod (A + S) - q))).setCell ⟨wd19.heap.size, 1, none⟩ (.int .i64 q)).cell? ⟨Z19x10.heap.size, 1, none⟩ = some (.int .i64 0) := ((World.cell?_setCell_other _ _ _ _ (by intro e; injection e with e1 e2; omega)).trans ((World.cell?_setCell_other _ _ _ _ (by intro e; injection e with e1 e2; omega)).trans E1))
              replace nK : q2 < ((Z19x16.setCell ⟨wd19.heap.size, 0, none⟩ (.int .i64 (1 + part.tmod (A + S) - q))).setCell ⟨wd19.heap.size, 1, none⟩ (.int .i64 q)).heap.size := by simpa [World.setCell] using nK
              replace nM : q3 < ((Z19x16.setCell ⟨wd19.heap.size, 0, none⟩ (.int .i64 (1 + part.tmod (A + S) - q))).setCell ⟨wd19.heap.size, 1, none⟩ (.int .i64 q)).heap.size := by simpa [World.setCell] using nM
              replace nD : wd19.heap.size < ((Z19x16.setCell ⟨wd19.heap.size, 0, none⟩ (.int .i64 (1 + part.tmod (A + S) - q))).setCell ⟨wd19.heap.size, 1, none⟩ (.int .i64 q)).heap.size := by simpa [World.setCell] using nD
              replace nE : Z19x10.heap.size < ((Z19x16.setCell ⟨wd19.heap.size, 0, none⟩ (.int .i64 (1 + part.tmod (A + S) - q))).setCell ⟨wd19.heap.size, 1, none⟩ (.int .i64 q)).heap.size := by simpa [World.setCell] using nE
              replace hL := hL.setCell (p := ⟨wd19.heap.size, 0, none⟩) (by show wr.heap.size ≤ wd19.heap.size; omega) (.int .i64 (1 + part.tmod (A + S) - q))
              replace hL := hL.setCell (p := ⟨wd19.heap.size, 1, none⟩) (by show wr.heap.size ≤ wd19.heap.size; omega) (.int .i64 q)
              refine hK.out _ _ ⟨K0, K1, M0, M1, trivial⟩ (fun hHeld => ?_)
              clear hK K
              generalize ((Z19x16.setCell ⟨wd19.heap.size, 0, none⟩ (.int .i64 (1 + part.tmod (A + S) - q))).setCell ⟨wd19.heap.size, 1, none⟩ (.int .i64 q)) = Z19x17 at *
              try simp only [Act.put, List.setIfInBounds_toArray, List.set_cons_zero, List.set_cons_succ]
              refine wpAnyH_ready (rs := [19]) (by kernel_rfl) (by simp) ?_
              refine AllReadyH.cons rfl (fun K hK => ?_) AllReadyH.nil
              go_simp
              have hsM := hL.size
              replace K0 : ((Z19x17.setCell ⟨Z19x10.heap.size, 0, none⟩ (.int .i64 (A - (1 + part.tmod (A + S) - q)))).setCell ⟨Z19x10.heap.size, 1, none⟩ (.int .i64 (S - q))).cell? ⟨q2, 0, none⟩ = some (.int .i64 A) := ((World.cell?_setCell_other _ _ _ _ (by intro e; injection e with e1 e2; omega)).trans ((World.cell?_setCell_other _ _ _ _ (by intro e; injection e with e1 e2; omega)).trans K0))
              replace K1 : ((Z19x17.setCell ⟨Z19x10.heap.size, 0, none⟩ (.int .i64 (A - (1 + part.tmod (A + S) - q)))).setCell ⟨Z19x10.heap.size, 1, none⟩ (.int .i64 (S - q))).cell? ⟨q2, 1, none⟩ = some (.int .i64 S) := ((World.cell?_setCell_other _ _ _ _ (by intro e; injection e with e1 e2; omega)).trans ((World.cell?_setCell_other _ _ _ _ (by intro e; injection e with e1 e2; omega)).trans K1))
              replace K2 : ((Z19x17.setCell ⟨Z19x10.heap.size, 0, none⟩ (.int .i64 (A - (1 + part.tmod (A + S) - q)))).setCell ⟨Z19x10.heap.size, 1, none⟩ (.int .i64 (S - q))).cell? ⟨q2, 2, none⟩ = some (.int .i64 L) := ((World.cell?_setCell_other _ _ _ _ (by intro e; injection e with e1 e2; omega)).trans ((World.cell?_setCell_other _ _ _ _ (by intro e; injection e with e1 e2; omega)).trans K2))
              replace K3 : ((Z19x17.setCell ⟨Z19x10.heap.size, 0, none⟩ (.int .i64 (A - (1 + part.tmod (A + S) - q)))).setCell ⟨Z19x10.heap.size, 1, none⟩ (.int .i64 (S - q))).cell? ⟨q2, 3, none⟩ = some (.int .i64 Fl) := ((World.cell?_setCell_other _ _ _ _ (by intro e; injection e with e1 e2; omega)).trans ((World.cell?_setCell_other _ _ _ _ (by intro e; injection e with e1 e2; omega)).trans K3))
              replace M0 : ((Z19x17.setCell ⟨Z19x10.heap.size, 0, none⟩ (.int .i64 (A - (1 + part.tmod (A + S) - q)))).setCell ⟨Z19x10.heap.size, 1, none⟩ (.int .i64 (S - q))).cell? ⟨q3, 0, none⟩ = some (.int .i64 A) := ((World.cell?_setCell_other _ _ _ _ (by intro e; injection e with e1 e2; omega)).trans ((World.cell?_setCell_other _ _ _ _ (by intro e; injection e with e1 e2; omega)).trans M0))
              replace M1 : ((Z19x17.setCell ⟨Z19x10.heap.size, 0, none⟩ (.int .i64 (A - (1 + part.tmod (A + S) - q)))).setCell ⟨Z19x10.heap.size, 1, none⟩ (.int .i64 (S - q))).cell? ⟨q3, 1, none⟩ = some (.int .i64 S) := ((World.cell?_setCell_other _ _ _ _ (by intro e; injection e with e1 e2; omega)).trans ((World.cell?_setCell_other _ _ _ _ (by intro e; injection e with e1 e2; omega)).trans M1))
              replace Df0 : ((Z19x17.setCell ⟨Z19x10.heap.size, 0, none⟩ (.int .i64 (A - (1 + part.tmod (A + S) - q)))).setCell ⟨Z19x10.heap.size, 1, none⟩ (.int .i64 (S - q))).frozen? ⟨wd19.heap.size, 0, none⟩ = false := by simp [go_sem, Df0]
              replace Df1 : ((Z19x17.setCell ⟨Z19x10.heap.size, 0, none⟩ (.int .i64 (A - (1 + part.tmod (A + S) - q)))).setCell ⟨Z19x10.heap.size, 1, none⟩ (.int .i64 (S - q))).frozen? ⟨wd19.heap.size, 1, none⟩ = false := by simp [go_sem, Df1]
              replace D0 : ((Z19x17.setCell ⟨Z19x10.heap.size, 0, none⟩ (.int .i64 (A - (1 + part.tmod (A + S) - q)))).setCell ⟨Z19x10.heap.size, 1, none⟩ (.int .i64 (S - q))).cell? ⟨wd19.heap.size, 0, none⟩ = some (.int .i64 (1 + part.tmod (A + S) - q)) := ((World.cell?_setCell_other _ _ _ _ (by intro e; injection e with e1 e2; omega)).trans ((World.cell?_setCell_other _ _ _ _ (by intro e; injection e with e1 e2; omega)).trans D0))
              replace D1 : ((Z19x17.setCell ⟨Z19x10.heap.size, 0, none⟩ (.int .i64 (A - (1 + part.tmod (A + S) - q)))).setCell ⟨Z19x10.heap.size, 1, none⟩ (.int .i64 (S - q))).cell? ⟨wd19.heap.size, 1, none⟩ = some (.int .i64 q) := ((World.cell?_setCell_other _ _ _ _ (by intro e; injection e with e1 e2; omega)).trans ((World.cell?_setCell_other _ _ _ _ (by intro e; injection e with e1 e2; omega)).trans D1))
              replace Ef0 : ((Z19x17.setCell ⟨Z19x10.heap.size, 0, none⟩ (.int .i64 (A - (1 + part.tmod (A + S) - q)))).setCell ⟨Z19x10.heap.size, 1, none⟩ (.int .i64 (S - q))).frozen? ⟨Z19x10.heap.size, 0, none⟩ = false := by simp [go_sem, Ef0]
              replace Ef1 : ((Z19x17.setCell ⟨Z19x10.heap.size, 0, none⟩ (.int .i64 (A - (1 + part.tmod (A + S) - q)))).setCell ⟨Z19x10.heap.size, 1, none⟩ (.int .i64 (S - q))).frozen? ⟨Z19x10.heap.size, 1, none⟩ = false := by simp [go_sem, Ef1]
              replace E0 : ((Z19x17.setCell ⟨Z19x10.heap.size, 0, none⟩ (.int .i64 (A - (1 + part.tmod (A + S) - q)))).setCell ⟨Z19x10.heap.size, 1, none⟩ (.int .i64 (S - q))).cell? ⟨Z19x10.heap.size, 0, none⟩ = some (.int .i64 (A - (1 + part.tmod (A + S) - q))) := by simp [go_sem, E0]
              replace E1 : ((Z19x17.setCell ⟨Z19x10.heap.size, 0, none⟩ (.int .i64 (A - (1 + part.tmod (A + S) - q)))).setCell ⟨Z19x10.heap.size, 1, none⟩ (.int .i64 (S - q))).cell? ⟨Z19x10.heap.size, 1, none⟩ = some (.int .i64 (S - q)) := by simp [go_sem, E1]
              replace nK : q2 < ((Z19x17.setCell ⟨Z19x10.heap.size, 0, none⟩ (.int .i64 (A - (1 + part.tmod (A + S) - q)))).setCell ⟨Z19x10.heap.size, 1, none⟩ (.int .i64 (S - q))).heap.size := by simpa [World.setCell] using nK
              replace nM : q3 < ((Z19x17.setCell ⟨Z19x10.heap.size, 0, none⟩ (.int .i64 (A - (1 + part.tmod (A + S) - q)))).setCell ⟨Z19x10.heap.size, 1, none⟩ (.int .i64 (S - q))).heap.size := by simpa [World.setCell] using nM
              replace nD : wd19.heap.size < ((Z19x17.setCell ⟨Z19x10.heap.size, 0, none⟩ (.int .i64 (A - (1 + part.tmod (A + S) - q)))).setCell ⟨Z19x10.heap.size, 1, none⟩ (.int .i64 (S - q))).heap.size := by simpa [World.setCell] using nD
              replace nE : Z19x10.heap.size < ((Z19x17.setCell ⟨Z19x10.heap.size, 0, none⟩ (.int .i64 (A - (1 + part.tmod (A + S) - q)))).setCell ⟨Z19x10.heap.size, 1, none⟩ (.int .i64 (S - q))).heap.size := by simpa [World.setCell] using nE
              replace hL := hL.setCell (p := ⟨Z19x10.heap.size, 0, none⟩) (by show wr.heap.size ≤ Z19x10.heap.size; omega) (.int .i64 (A - (1 + part.tmod (A + S) - q)))
              replace hL := hL.setCell (p := ⟨Z19x10.heap.size, 1, none⟩) (by show wr.heap.size ≤ Z19x10.heap.size; omega) (.int .i64 (S - q))
              refine hK.out _ _ ⟨K0, K1, M0, M1, trivial⟩ (fun hHeld => ?_)
              clear hK K
              generalize ((Z19x17.setCell ⟨Z19x10.heap.size, 0, none⟩ (.int .i64 (A - (1 + part.tmod (A + S) - q)))).setCell ⟨Z19x10.heap.size, 1, none⟩ (.int .i64 (S - q))) = Z19x18 at *
              try simp only [Act.put, List.setIfInBounds_toArray, List.set_cons_zero, List.set_cons_succ]
              refine take_slot (i := 20) (d := 13) (v := ?_) rfl rfl (by kernel_rfl) (by kernel_rfl) (by kernel_rfl) (fun _ _ _ h => h) (Or.inl ⟨by rfl, ?_⟩) (by assumption) ?_
              rotate_left 1
              focus (intro wS hSw; (try dsimp only at hSw); go_simp; try with_reducible rfl)
              try simp only [List.setIfInBounds_toArray, List.set_cons_zero, List.set_cons_succ]
              refine wpAnyH_done (by kernel_rfl) ?_ _
              have hB2 := hB.trans hL
              clear hHeld hL
              generalize wd19.heap.size = gd at *
              generalize Z19x10.heap.size = ge at *
              exact key gd ge Z19x18 ⟨nD, nE, D0, D1, E0, E1, K0, K1, K2, K3, nK, hB2⟩
          · go_simp
            have hb := (Below.refl wd19.heap.size wd19).alloc (Nat.le_refl _) (Obj.cells #[.int .i64 0, .int .i64 0] 30)
            have szZ19x19 := hL.size
            have ord19nK := nK
            have ord19nM := nM
            replace K0 := cell_next hb nK K0
            replace K1 := cell_next hb nK K1
            replace K2 := cell_next hb nK K2
            replace K3 := cell_next hb nK K3
            replace M0 := cell_next hb nM M0
            replace M1 := cell_next hb nM M1
            replace nK := Nat.lt_of_lt_of_le nK hb.size
            replace nM := Nat.lt_of_lt_of_le nM hb.size
            replace hL := hL.trans (hb.mono (Nat.le_trans hBW hL.size))
            have Ef0 : (wd19.alloc (Obj.cells #[.int .i64 0, .int .i64 0] 30)).frozen? ⟨wd19.heap.size, 0, none⟩ = false := by simp [go_sem]
            have Ef1 : (wd19.alloc (Obj.cells #[.int .i64 0, .int .i64 0] 30)).frozen? ⟨wd19.heap.size, 1, none⟩ = false := by simp [go_sem]
            have E0 : (wd19.alloc (Obj.cells #[.int .i64 0, .int .i64 0] 30)).cell? ⟨wd19.heap.size, 0, none⟩ = some (.int .i64 0) := cell_new _ _ _ 0
            have E1 : (wd19.alloc (Obj.cells #[.int .i64 0, .int .i64 0] 30)).cell? ⟨wd19.heap.size, 1, none⟩ = some (.int .i64 0) := cell_new _ _ _ 1
            have nE : wd19.heap.size < (wd19.alloc (Obj.cells #[.int .i64 0, .int .i64 0] 30)).heap.size := by simp
            refine hK.out _ _ ⟨K0, K1, M0, M1, trivial⟩ (fun hHeld => ?_)
            clear hK K hb
            generalize wd19.alloc (Obj.cells #[.int .i64 0, .int .i64 0] 30) = Z19x19 at *
            try simp only [Act.put, List.setIfInBounds_toArray, List.set_cons_zero, List.set_cons_succ]
            refine wpAnyH_ready (rs := [11, 16]) (by kernel_rfl) (by simp) ?_
            refine AllReadyH.cons rfl (fun K hK => ?_) (AllReadyH.cons rfl (fun K hK => ?_) AllReadyH.nil)
            · go_simp
              refine (CD.out _).mono ?_
              rintro e Z19x20 ⟨rfl, hb⟩
              replace K0 := cell_next hb nK K0
              replace K1 := cell_next hb nK K1
              replace K2 := cell_next hb nK K2
              replace K3 := cell_next hb nK K3
              replace M0 := cell_next hb nM M0
              replace M1 := cell_next hb nM M1
              replace Ef0 := frozen_next hb nE Ef0
              replace Ef1 := frozen_next hb nE Ef1
              replace E0 := cell_next hb nE E0
              replace E1 := cell_next hb nE E1
              replace nK := Nat.lt_of_lt_of_le nK hb.size
              replace nM := Nat.lt_of_lt_of_le nM hb.size
              replace nE := Nat.lt_of_lt_of_le nE hb.size
              replace hL := hL.trans (hb.mono (Nat.le_trans hBW hL.size))
              refine hK.out _ _ ⟨K0, K1, M0, M1, trivial⟩ (fun hHeld => ?_)
              clear hK K hb
              try simp only [Act.put, List.setIfInBounds_toArray, List.set_cons_zero, List.set_cons_succ]
              refine take_slot (i := 12) (d := 155) (v := ?_) rfl rfl (by kernel_rfl) (by kernel_rfl) (by kernel_rfl) (fun _ _ _ h => h) (Or.inl ⟨by rfl, ?_⟩) (by assumption) ?_
              rotate_left 1
              focus (intro wS hSw; (try dsimp only at hSw); go_simp; try with_reducible rfl)
              try simp only [List.setIfInBounds_toArray, List.set_cons_zero, List.set_cons_succ]
              refine take_slot (i := 13) (d := 168) (v := ?_) rfl rfl (by kernel_rfl) (by kernel_rfl) (by kernel_rfl) (fun _ _ _ h => h) (Or.inl ⟨by rfl, ?_⟩) (by assumption) ?_
              rotate_left 1
              focus (intro wS hSw; (try dsimp only at hSw); go_simp; try with_reducible rfl)
              try simp only [List.setIfInBounds_toArray, List.set_cons_zero, List.set_cons_succ]
              refine take_slot (i := 14) (d := 169) (v := ?_) rfl rfl (by kernel_rfl) (by kernel_rfl) (by kernel_rfl) (fun _ _ _ h => h) (Or.inl ⟨by rfl, ?_⟩) (by assumption) ?_
              rotate_left 1
              focus (intro wS hSw; (try dsimp only at hSw); go_simp; try with_reducible rfl)
              try simp only [List.setIfInBounds_toArray, List.set_cons_zero, List.set_cons_succ]
              refine take_slot (i := 15) (d := 170) (v := ?_) rfl rfl (by kernel_rfl) (by kernel_rfl) (by kernel_rfl) (fun _ _ _ h => h) (Or.inl ⟨by rfl, ?_⟩) (by assumption) ?_
              rotate_left 1
              focus (intro wS hSw; (try dsimp only at hSw); go_simp; try with_reducible rfl)
              try simp only [List.setIfInBounds_toArray, List.set_cons_zero, List.set_cons_succ]
              refine wpAnyH_ready (rs := [16]) (by kernel_rfl) (by simp) ?_
              refine AllReadyH.cons rfl (fun K hK => ?_) AllReadyH.nil
              go_simp
              have hb := (Below.refl Z19x20.heap.size Z19x20).alloc (Nat.le_refl _) (Obj.cells #[.int .i64 0, .int .i64 0] 30)
              have szZ19x21 := hL.size
              have ord21nK := nK
              have ord21nM := nM
              have ord21nE := nE
              replace K0 := cell_next hb nK K0
              replace K1 := cell_next hb nK K1
              replace K2 := cell_next hb nK K2
              replace K3 := cell_next hb nK K3
              replace M0 := cell_next hb nM M0
              replace M1 := cell_next hb nM M1
              replace Ef0 := frozen_next hb nE Ef0
              replace Ef1 := frozen_next hb nE Ef1
              replace E0 := cell_next hb nE E0
              replace E1 := cell_next hb nE E1
              replace nK := Nat.lt_of_lt_of_le nK hb.size
              replace nM := Nat.lt_of_lt_of_le nM hb.size
              replace nE := Nat.lt_of_lt_of_le nE hb.size
              replace hL := hL.trans (hb.mono (Nat.le_trans hBW hL.size))
              have Df0 : (Z19x20.alloc (Obj.cells #[.int .i64 0, .int .i64 0] 30)).frozen? ⟨Z19x20.heap.size, 0, none⟩ = false := by simp [go_sem]
              have Df1 : (Z19x20.alloc (Obj.cells #[.int .i64 0, .int .i64 0] 30)).frozen? ⟨Z19x20.heap.size, 1, none⟩ = false := by simp [go_sem]
              have D0 : (Z19x20.alloc (Obj.cells #[.int .i64 0, .int .i64 0] 30)).cell? ⟨Z19x20.heap.size, 0, none⟩ = some (.int .i64 0) := cell_new _ _ _ 0
              have D1 : (Z19x20.alloc (Obj.cells #[.int .i64 0, .int .i64 0] 30)).cell? ⟨Z19x20.heap.size, 1, none⟩ = some (.int .i64 0) := cell_new _ _ _ 1
              have nD : Z19x20.heap.size < (Z19x20.alloc (Obj.cells #[.int .i64 0, .int .i64 0] 30)).heap.size := by simp
              refine hK.out _ _ ⟨K0, K1, M0, M1, trivial⟩ (fun hHeld => ?_)
              clear hK K hb
              generalize Z19x20.alloc (Obj.cells #[.int .i64 0, .int .i64 0] 30) = Z19x21 at *
              try simp only [Act.put, List.setIfInBounds_toArray, List.set_cons_zero, List.set_cons_succ]
              refine wpAnyH_ready (rs := [18]) (by kernel_rfl) (by simp) ?_
              refine AllReadyH.cons rfl (fun K hK => ?_) AllReadyH.nil
              go_simp
              have hsL := hL.size
              replace K0 : ((Z19x21.setCell ⟨Z19x20.heap.size, 0, none⟩ (.int .i64 (1 + part.tmod (A + S) - q))).setCell ⟨Z19x20.heap.size, 1, none⟩ (.int .i64 q)).cell? ⟨q2, 0, none⟩ = some (.int .i64 A) := ((World.cell?_setCell_other _ _ _ _ (by intro e; injection e with e1 e2; omega)).trans ((World.cell?_setCell_other _ _ _ _ (by intro e; injection e with e1 e2; omega)).trans K0))
              replace K1 : ((Z19x21.setCell ⟨Z19x20.heap.size, 0, none⟩ (.int .i64 (1 + part.tmod (A + S) - q))).setCell ⟨Z19x20.heap.size, 1, none⟩ (.int .i64 q)).cell? ⟨q2, 1, none⟩ = some (.int .i64 S) := ((World.cell?_setCell_other _ _ _ _ (by intro e; injection e with e1 e2; omega)).trans ((World.cell?_setCell_other _ _ _ _ (by intro e; injection e with e1 e2; omega)).trans K1))
              replace K2 : ((Z19x21.setCell ⟨Z19x20.heap.size, 0, none⟩ (.int .i64 (1 + part.tmod (A + S) - q))).setCell ⟨Z19x20.heap.size, 1, none⟩ (.int .i64 q)).cell? ⟨q2, 2, none⟩ = some (.int .i64 L) := ((World.cell?_setCell_other _ _ _ _ (by intro e; injection e with e1 e2; omega)).trans ((World.cell?_setCell_other _ _ _ _ (by intro e; injection e with e1 e2; omega)).trans K2))
              replace K3 : ((Z19x21.setCell ⟨Z19x20.heap.size, 0, none⟩ (.int .i64 (1 + part.tmod (A + S) - q))).setCell ⟨Z19x20.heap.size, 1, none⟩ (.int .i64 q)).cell? ⟨q2, 3, none⟩ = some (.int .i64 Fl) := ((World.cell?_setCell_other _ _ _ _ (by intro e; injection e with e1 e2; omega)).trans ((World.cell?_setCell_other _ _ _ _ (by intro e; injection e with e1 e2; omega)).trans K3))
              replace M0 : ((Z19x21.setCell ⟨Z19x20.heap.size, 0, none⟩ (.int .i64 (1 + part.tmod (A + S) - q))).setCell ⟨Z19x20.heap.size, 1, none⟩ (.int .i64 q)).cell? ⟨q3, 0, none⟩ = some (.int .i64 A) := ((World.cell?_setCell_other _ _ _ _ (by intro e; injection e with e1 e2; omega)).trans ((World.cell?_setCell_other _ _ _ _ (by intro e; injection e with e1 e2; omega)).trans M0))
              replace M1 : ((Z19x21.setCell ⟨Z19x20.heap.size, 0, none⟩ (.int .i64 (1 + part.tmod (A + S) - q))).setCell ⟨Z19x20.heap.size, 1, none⟩ (.int .i64 q)).cell? ⟨q3, 1, none⟩ = some (.int .i64 S) := ((World.cell?_setCell_other _ _ _ _ (by intro e; injection e with e1 e2; omega)).trans ((World.cell?_setCell_other _ _ _ _ (by intro e; injection e with e1 e2; omega)).trans M1))
              replace Ef0 : ((Z19x21.setCell ⟨Z19x20.heap.size, 0, none⟩ (.int .i64 (1 + part.tmod (A + S) - q))).setCell ⟨Z19x20.heap.size, 1, none⟩ (.int .i64 q)).frozen? ⟨wd19.heap.size, 0, none⟩ = false := by simp [go_sem, Ef0]
              replace Ef1 : ((Z19x21.setCell ⟨Z19x20.heap.size, 0, none⟩ (.int .i64 (1 + part.tmod (A + S) - q))).setCell ⟨Z19x20.heap.size, 1, none⟩ (.int .i64 q)).frozen? ⟨wd19.heap.size, 1, none⟩ = false := by simp [go_sem, Ef1]
              replace E0 : ((Z19x21.setCell ⟨Z19x20.heap.size, 0, none⟩ (.int .i64 (1 + part.tmod (A + S) - q))).setCell ⟨Z19x20.heap.size, 1, none⟩ (.int .i64 q)).cell? ⟨wd19.heap.size, 0, none⟩ = some (.int .i64 0) := ((World.cell?_setCell_other _ _ _ _ (by intro e; injection e with e1 e2; omega)).trans ((World.cell?_setCell_other _ _ _ _ (by intro e; injection e with e1 e2; omega)).trans E0))
              replace E1 : ((Z19x21.setCell ⟨Z19x20.heap.size, 0, none⟩ (.int .i64 (1 + part.tmod (A + S) - q))).setCell ⟨Z19x20.heap.size, 1, none⟩ (.int .i64 q)).cell? ⟨wd19.heap.size, 1, none⟩ = some (.int .i64 0) := ((World.cell?_setCell_other _ _ _ _ (by intro e; injection e with e1 e2; omega)).trans ((World.cell?_setCell_other _ _ _ _ (by intro e; injection e with e1 e2; omega)).trans E1))
              replace Df0 : ((Z19x21.setCell ⟨Z19x20.heap.size, 0, none⟩ (.int .i64 (1 + part.tmod (A + S) - q))).setCell ⟨Z19x20.heap.size, 1, none⟩ (.int .i64 q)).frozen? ⟨Z19x20.heap.size, 0, none⟩ = false := by simp [go_sem, Df0]
              replace Df1 : ((Z19x21.setCell ⟨Z19x20.heap.size, 0, none⟩ (.int .i64 (1 + part.tmod (A + S) - q))).setCell ⟨Z19x20.heap.size, 1, none⟩ (.int .i64 q)).frozen? ⟨Z19x20.heap.size, 1, none⟩ = false := by simp [go_sem, Df1]
              replace D0 : ((Z19x21.setCell ⟨Z19x20.heap.size, 0, none⟩ (.int .i64 (1 + part.tmod (A + S) - q))).setCell ⟨Z19x20.heap.size, 1, none⟩ (.int .i64 q)).cell? ⟨Z19x20.heap.size, 0, none⟩ = some (.int .i64 (1 + part.tmod (A + S) - q)) := by simp [go_sem, D0]
              replace D1 : ((Z19x21.setCell ⟨Z19x20.heap.size, 0, none⟩ (.int .i64 (1 + part.tmod (A + S) - q))).setCell ⟨Z19x20.heap.size, 1, none⟩ (.int .i64 q)).cell? ⟨Z19x20.heap.size, 1, none⟩ = some (.int .i64 q) := by simp [go_sem, D1]
              replace nK : q2 < ((Z19x21.setCell ⟨Z19x20.heap.size, 0, none⟩ (.int .i64 (1 + part.tmod (A + S) - q))).setCell ⟨Z19x20.heap.size, 1, none⟩ (.int .i64 q)).heap.size := by simpa [World.setCell] using nK
              replace nM : q3 < ((Z19x21.setCell ⟨Z19x20.heap.size, 0, none⟩ (.int .i64 (1 + part.tmod (A + S) - q))).setCell ⟨Z19x20.heap.size, 1, none⟩ (.int .i64 q)).heap.size := by simpa [World.setCell] using nM
              replace nE : wd19.heap.size < ((Z19x21.setCell ⟨Z19x20.heap.size, 0, none⟩ (.int .i64 (1 + part.tmod (A + S) - q))).setCell ⟨Z19x20.heap.size, 1, none⟩ (.int .i64 q)).heap.size := by simpa [World.setCell] using nE
              replace nD : Z19x20.heap.size < ((Z19x21.setCell ⟨Z19x20.heap.size, 0, none⟩ (.int .i64 (1 + part.tmod (A + S) - q))).setCell ⟨Z19x20.heap.size, 1, none⟩ (.int .i64 q)).heap.size := by simpa [World.setCell] using nD
              replace hL := hL.setCell (p := ⟨Z19x20.heap.size, 0, none⟩) (by show wr.heap.size ≤ Z19x20.heap.size; omega) (.int .i64 (1 + part.tmod (A + S) - q))
              replace hL := hL.setCell (p := ⟨Z19x20.heap.size, 1, none⟩) (by show wr.heap.size ≤ Z19x20.heap.size; omega) (.int .i64 q)
              refine hK.out _ _ ⟨K0, K1, M0, M1, trivial⟩ (fun hHeld => ?_)
              clear hK K
              generalize ((Z19x21.setCell ⟨Z19x20.heap.size, 0, none⟩ (.int .i64 (1 + part.tmod (A + S) - q))).setCell ⟨Z19x20.heap.size, 1, none⟩ (.int .i64 q)) = Z19x22 at *
              try simp only [Act.put, List.setIfInBounds_toArray, List.set_cons_zero, List.set_cons_succ]
              refine wpAnyH_ready (rs := [19]) (by kernel_rfl) (by simp) ?_
              refine AllReadyH.cons rfl (fun K hK => ?_) AllReadyH.nil
              go_simp
              have hsM := hL.size
              replace K0 : ((Z19x22.setCell ⟨wd19.heap.size, 0, none⟩ (.int .i64 (A - (1 + part.tmod (A + S) - q)))).setCell ⟨wd19.heap.size, 1, none⟩ (.int .i64 (S - q))).cell? ⟨q2, 0, none⟩ = some (.int .i64 A) := ((World.cell?_setCell_other _ _ _ _ (by intro e; injection e with e1 e2; omega)).trans ((World.cell?_setCell_other _ _ _ _ (by intro e; injection e with e1 e2; omega)).trans K0))
              replace K1 : ((Z19x22.setCell ⟨wd19.heap.size, 0, none⟩ (.int .i64 (A - (1 + part.tmod (A + S) - q)))).setCell ⟨wd19.heap.size, 1, none⟩ (.int .i64 (S - q))).cell? ⟨q2, 1, none⟩ = some (.int .i64 S) := ((World.cell?_setCell_other _ _ _ _ (by intro e; injection e with e1 e2; omega)).trans ((World.cell?_setCell_other _ _ _ _ (by intro e; injection e with e1 e2; omega)).trans K1))
              replace K2 : ((Z19x22.setCell ⟨wd19.heap.size, 0, none⟩ (.int .i64 (A - (1 + part.tmod (A + S) - q)))).setCell ⟨wd19.heap.size, 1, none⟩ (.int .i64 (S - q))).cell? ⟨q2, 2, none⟩ = some (.int .i64 L) := ((World.cell?_setCell_other _ _ _ _ (by intro e; injection e with e1 e2; omega)).trans ((World.cell?_setCell_other _ _ _ _ (by intro e; injection e with e1 e2; omega)).trans K2))
              replace K3 : ((Z19x22.setCell ⟨wd19.heap.size, 0, none⟩ (.int .i64 (A - (1 + part.tmod (A + S) - q)))).setCell ⟨wd19.heap.size, 1, none⟩ (.int .i64 (S - q))).cell? ⟨q2, 3, none⟩ = some (.int .i64 Fl) := ((World.cell?_setCell_other _ _ _ _ (by intro e; injection e with e1 e2; omega)).trans ((World.cell?_setCell_other _ _ _ _ (by intro e; injection e with e1 e2; omega)).trans K3))
              replace M0 : ((Z19x22.setCell ⟨wd19.heap.size, 0, none⟩ (.int .i64 (A - (1 + part.tmod (A + S) - q)))).setCell ⟨wd19.heap.size, 1, none⟩ (.int .i64 (S - q))).cell? ⟨q3, 0, none⟩ = some (.int .i64 A) := ((World.cell?_setCell_other _ _ _ _ (by intro e; injection e with e1 e2; omega)).trans ((World.cell?_setCell_other _ _ _ _ (by intro e; injection e with e1 e2; omega)).trans M0))
              replace M1 : ((Z19x22.setCell ⟨wd19.heap.size, 0, none⟩ (.int .i64 (A - (1 + part.tmod (A + S) - q)))).setCell ⟨wd19.heap.size, 1, none⟩ (.int .i64 (S - q))).cell? ⟨q3, 1, none⟩ = some (.int .i64 S) := ((World.cell?_setCell_other _ _ _ _ (by intro e; injection e with e1 e2; omega)).trans ((World.cell?_setCell_other _ _ _ _ (by intro e; injection e with e1 e2; omega)).trans M1))
              replace Ef0 : ((Z19x22.setCell ⟨wd19.heap.size, 0, none⟩ (.int .i64 (A - (1 + part.tmod (A + S) - q)))).setCell ⟨wd19.heap.size, 1, none⟩ (.int .i64 (S - q))).frozen? ⟨wd19.heap.size, 0, none⟩ = false := by simp [go_sem, Ef0]
              replace Ef1 : ((Z19x22.setCell ⟨wd19.heap.size, 0, none⟩ (.int .i64 (A - (1 + part.tmod (A + S) - q)))).setCell ⟨wd19.heap.size, 1, none⟩ (.int .i64 (S - q))).frozen? ⟨wd19.heap.size, 1, none⟩ = false := by simp [go_sem, Ef1]
              replace E0 : ((Z19x22.setCell ⟨wd19.heap.size, 0, none⟩ (.int .i64 (A - (1 + part.tmod (A + S) - q)))).setCell ⟨wd19.heap.size, 1, none⟩ (.int .i64 (S - q))).cell? ⟨wd19.heap.size, 0, none⟩ = some (.int .i64 (A - (1 + part.tmod (A + S) - q))) := by simp [go_sem, E0]
              replace E1 : ((Z19x22.setCell ⟨wd19.heap.size, 0, none⟩ (.int .i64 (A - (1 + part.tmod (A + S) - q)))).setCell ⟨wd19.heap.size, 1, none⟩ (.int .i64 (S - q))).cell? ⟨wd19.heap.size, 1, none⟩ = some (.int .i64 (S - q)) := by simp [go_sem, E1]
              replace Df0 : ((Z19x22.setCell ⟨wd19.heap.size, 0, none⟩ (.int .i64 (A - (1 + part.tmod (A + S) - q)))).setCell ⟨wd19.heap.size, 1, none⟩ (.int .i64 (S - q))).frozen? ⟨Z19x20.heap.size, 0, none⟩ = false := by simp [go_sem, Df0]
              replace Df1 : ((Z19x22.setCell ⟨wd19.heap.size, 0, none⟩ (.int .i64 (A - (1 + part.tmod (A + S) - q)))).setCell ⟨wd19.heap.size, 1, none⟩ (.int .i64 (S - q))).frozen? ⟨Z19x20.heap.size, 1, none⟩ = false := by simp [go_sem, Df1]
              replace D0 : ((Z19x22.setCell ⟨wd19.heap.size, 0, none⟩ (.int .i64 (A - (1 + part.tmod (A + S) - q)))).setCell ⟨wd19.heap.size, 1, none⟩ (.int .i64 (S - q))).cell? ⟨Z19x20.heap.size, 0, none⟩ = some (.int .i64 (1 + part.tmod (A + S) - q)) := ((World.cell?_setCell_other _ _ _ _ (by intro e; injection e with e1 e2; omega)).trans ((World.cell?_setCell_other _ _ _ _ (by intro e; injection e with e1 e2; omega)).trans D0))
              replace D1 : ((Z19x22.setCell ⟨wd19.heap.size, 0, none⟩ (.int .i64 (A - (1 + part.tmod (A + S) - q)))).setCell ⟨wd19.heap.size, 1, none⟩ (.int .i64 (S - q))).cell? ⟨Z19x20.heap.size, 1, none⟩ = some (.int .i64 q) := ((World.cell?_setCell_other _ _ _ _ (by intro e; injection e with e1 e2; omega)).trans ((World.cell?_setCell_other _ _ _ _ (by intro e; injection e with e1 e2; omega)).trans D1))
              replace nK : q2 < ((Z19x22.setCell ⟨wd19.heap.size, 0, none⟩ (.int .i64 (A - (1 + part.tmod (A + S) - q)))).setCell ⟨wd19.heap.size, 1, none⟩ (.int .i64 (S - q))).heap.size := by simpa [World.setCell] using nK
              replace nM : q3 < ((Z19x22.setCell ⟨wd19.heap.size, 0, none⟩ (.int .i64 (A - (1 + part.tmod (A + S) - q)))).setCell ⟨wd19.heap.size, 1, none⟩ (.int .i64 (S - q))).heap.size := by simpa [World.setCell] using nM
              replace nE : wd19.heap.size < ((Z19x22.setCell ⟨wd19.heap.size, 0, none⟩ (.int .i64 (A - (1 + part.tmod (A + S) - q)))).setCell ⟨wd19.heap.size, 1, none⟩ (.int .i64 (S - q))).heap.size := by simpa [World.setCell] using nE
              replace nD : Z19x20.heap.size < ((Z19x22.setCell ⟨wd19.heap.size, 0, none⟩ (.int .i64 (A - (1 + part.tmod (A + S) - q)))).setCell ⟨wd19.heap.size, 1, none⟩ (.int .i64 (S - q))).heap.size := by simpa [World.setCell] using nD
              replace hL := hL.setCell (p := ⟨wd19.heap.size, 0, none⟩) (by show wr.heap.size ≤ wd19.heap.size; omega) (.int .i64 (A - (1 + part.tmod (A + S) - q)))
              replace hL := hL.setCell (p := ⟨wd19.heap.size, 1, none⟩) (by show wr.heap.size ≤ wd19.heap.size; omega) (.int .i64 (S - q))
              refine hK.out _ _ ⟨K0, K1, M0, M1, trivial⟩ (fun hHeld => ?_)
              clear hK K
              generalize ((Z19x22.setCell ⟨wd19.heap.size, 0, none⟩ (.int .i64 (A - (1 + part.tmod (A + S) - q)))).setCell ⟨wd19.heap.size, 1, none⟩ (.int .i64 (S - q))) = Z19x23 at *
              try simp only [Act.put, List.setIfInBounds_toArray, List.set_cons_zero, List.set_cons_succ]
              refine take_slot (i := 20) (d := 13) (v := ?_) rfl rfl (by kernel_rfl) (by kernel_rfl) (by kernel_rfl) (fun _ _ _ h => h) (Or.inl ⟨by rfl, ?_⟩) (by assumption) ?_
              rotate_left 1
              focus (intro wS hSw; (try dsimp only at hSw); go_simp; try with_reducible rfl)
              try simp only [List.setIfInBounds_toArray, List.set_cons_zero, List.set_cons_succ]
              refine wpAnyH_done (by kernel_rfl) ?_ _
              have hB2 := hB.trans hL
              clear hHeld hL
              generalize Z19x20.heap.size = gd at *
              generalize wd19.heap.size = ge at *
              exact key gd ge Z19x23 ⟨nD, nE, D0, D1, E0, E1, K0, K1, K2, K3, nK, hB2⟩
            · go_simp
              have hb := (Below.refl Z19x19.heap.size Z19x19).alloc (Nat.le_refl _) (Obj.cells #[.int .i64 0, .int .i64 0] 30)
              have szZ19x24 := hL.size
              have ord24nK := nK
              have ord24nM := nM
              have ord24nE := nE
              replace K0 := cell_next hb nK K0
              replace K1 := cell_next hb nK K1
              replace K2 := cell_next hb nK K2
              replace K3 := cell_next hb nK K3
              replace M0 := cell_next hb nM M0
              replace M1 := cell_next hb nM M1
              replace Ef0 := frozen_next hb nE Ef0
              replace Ef1 := frozen_next hb nE Ef1
              replace E0 := cell_next hb nE E0
              replace E1 := cell_next hb nE E1
              replace nK := Nat.lt_of_lt_of_le nK hb.size
              replace nM := Nat.lt_of_lt_of_le nM hb.size
              replace nE := Nat.lt_of_lt_of_le nE hb.size
              replace hL := hL.trans (hb.mono (Nat.le_trans hBW hL.size))
              have Df0 : (Z19x19.alloc (Obj.cells #[.int .i64 0, .int .i64 0] 30)).frozen? ⟨Z19x19.heap.size, 0, none⟩ = false := by simp [go_sem]
              have Df1 : (Z19x19.alloc (Obj.cells #[.int .i64 0, .int .i64 0] 30)).frozen? ⟨Z19x19.heap.size, 1, none⟩ = false := by simp [go_sem]
              have D0 : (Z19x19.alloc (Obj.cells #[.int .i64 0, .int .i64 0] 30)).cell? ⟨Z19x19.heap.size, 0, none⟩ = some (.int .i64 0) := cell_new _ _ _ 0
              have D1 : (Z19x19.alloc (Obj.cells #[.int .i64 0, .int .i64 0] 30)).cell? ⟨Z19x19.heap.size, 1, none⟩ = some (.int .i64 0) := cell_new _ _ _ 1
              have nD : Z19x19.heap.size < (Z19x19.alloc (Obj.cells #[.int .i64 0, .int .i64 0] 30)).heap.size := by simp
              refine hK.out _ _ ⟨K0, K1, M0, M1, trivial⟩ (fun hHeld => ?_)
              clear hK K hb
              generalize Z19x19.alloc (Obj.cells #[.int .i64 0, .int .i64 0] 30) = Z19x24 at *
              try simp only [Act.put, List.setIfInBounds_toArray, List.set_cons_zero, List.set_cons_succ]
              refine wpAnyH_ready (rs := [11]) (by kernel_rfl) (by simp) ?_
              refine AllReadyH.cons rfl (fun K hK => ?_) AllReadyH.nil
              go_simp
              refine (CD.out _).mono ?_
              rintro e Z19x25 ⟨rfl, hb⟩
              replace K0 := cell_next hb nK K0
              replace K1 := cell_next hb nK K1
              replace K2 := cell_next hb nK K2
              replace K3 := cell_next hb nK K3
              replace M0 := cell_next hb nM M0
              replace M1 := cell_next hb nM M1
              replace Ef0 := frozen_next hb nE Ef0
              replace Ef1 := frozen_next hb nE Ef1
              replace E0 := cell_next hb nE E0
              replace E1 := cell_next hb nE E1
              replace Df0 := frozen_next hb nD Df0
              replace Df1 := frozen_next hb nD Df1
              replace D0 := cell_next hb nD D0
              replace D1 := cell_next hb nD D1
              replace nK := Nat.lt_of_lt_of_le nK hb.size
              replace nM := Nat.lt_of_lt_of_le nM hb.size
              replace nE := Nat.lt_of_lt_of_le nE hb.size
              replace nD := Nat.lt_of_lt_of_le nD hb.size
              replace hL := hL.trans (hb.mono (Nat.le_trans hBW hL.size))
              refine hK.out _ _ ⟨K0, K1, M0, M1, trivial⟩ (fun hHeld => ?_)
              clear hK K hb
              try simp only [Act.put, List.setIfInBounds_toArray, List.set_cons_zero, List.set_cons_succ]
              refine take_slot (i := 12) (d := 155) (v := ?_) rfl rfl (by kernel_rfl) (by kernel_rfl) (by kernel_rfl) (fun _ _ _ h => h) (Or.inl ⟨by rfl, ?_⟩) (by assumption) ?_
              rotate_left 1
              focus (intro wS hSw; (try dsimp only at hSw); go_simp; try with_reducible rfl)
              try simp only [List.setIfInBounds_toArray, List.set_cons_zero, List.set_cons_succ]
              refine take_slot (i := 13) (d := 168) (v := ?_) rfl rfl (by kernel_rfl) (by kernel_rfl) (by kernel_rfl) (fun _ _ _ h => h) (Or.inl ⟨by rfl, ?_⟩) (by assumption) ?_
              rotate_left 1
              focus (intro wS hSw; (try dsimp only at hSw); go_simp; try with_reducible rfl)
              try simp only [List.setIfInBounds_toArray, List.set_cons_zero, List.set_cons_succ]
              refine take_slot (i := 14) (d := 169) (v := ?_) rfl rfl (by kernel_rfl) (by kernel_rfl) (by kernel_rfl) (fun _ _ _ h => h) (Or.inl ⟨by rfl, ?_⟩) (by assumption) ?_
              rotate_left 1
              focus (intro wS hSw; (try dsimp only at hSw); go_simp; try with_reducible rfl)
              try simp only [List.setIfInBounds_toArray, List.set_cons_zero, List.set_cons_succ]
              refine take_slot (i := 15) (d := 170) (v := ?_) rfl rfl (by kernel_rfl) (by kernel_rfl) (by kernel_rfl) (fun _ _ _ h => h) (Or.inl ⟨by rfl, ?_⟩) (by assumption) ?_
              rotate_left 1
              focus (intro wS hSw; (try dsimp only at hSw); go_simp; try with_reducible rfl)
              try simp only [List.setIfInBounds_toArray, List.set_cons_zero, List.set_cons_succ]
              refine wpAnyH_ready (rs := [18]) (by kernel_rfl) (by simp) ?_
              refine AllReadyH.cons rfl (fun K hK => ?_) AllReadyH.nil
              go_simp
              have hsL := hL.size
              replace K0 : ((Z19x25.setCell ⟨Z19x19.heap.size, 0, none⟩ (.int .i64 (1 + part.tmod (A + S) - q))).setCell ⟨Z19x19.heap.size, 1, none⟩ (.int .i64 q)).cell? ⟨q2, 0, none⟩ = some (.int .i64 A) := ((World.cell?_setCell_other _ _ _ _ (by intro e; injection e with e1 e2; omega)).trans ((World.cell?_setCell_other _ _ _ _ (by intro e; injection e with e1 e2; omega)).trans K0))
              replace K1 : ((Z19x25.setCell ⟨Z19x19.heap.size, 0, none⟩ (.int .i64 (1 + part.tmod (A + S) - q))).setCell ⟨Z19x19.heap.size, 1, none⟩ (.int .i64 q)).cell? ⟨q2, 1, none⟩ = some (.int .i64 S) := ((World.cell?_setCell_other _ _ _ _ (by intro e; injection e with e1 e2; omega)).trans ((World.cell?_setCell_other _ _ _ _ (by intro e; injection e with e1 e2; omega)).trans K1))
              replace K2 : ((Z19x25.setCell ⟨Z19x19.heap.size, 0, none⟩ (.int .i64 (1 + part.tmod (A + S) - q))).setCell ⟨Z19x19.heap.size, 1, none⟩ (.int .i64 q)).cell? ⟨q2, 2, none⟩ = some (.int .i64 L) := ((World.cell?_setCell_other _ _ _ _ (by intro e; injection e with e1 e2; omega)).trans ((World.cell?_setCell_other _ _ _ _ (by intro e; injection e with e1 e2; omega)).trans K2))
              replace K3 : ((Z19x25.setCell ⟨Z19x19.heap.size, 0, none⟩ (.int .i64 (1 + part.tmod (A + S) - q))).setCell ⟨Z19x19.heap.size, 1, none⟩ (.int .i64 q)).cell? ⟨q2, 3, none⟩ = some (.int .i64 Fl) := ((World.cell?_setCell_other _ _ _ _ (by intro e; injection e with e1 e2; omega)).trans ((World.cell?_setCell_other _ _ _ _ (by intro e; injection e with e1 e2; omega)).trans K3))
              replace M0 : ((Z19x25.setCell ⟨Z19x19.heap.size, 0, none⟩ (.int .i64 (1 + part.tmod (A + S) - q))).setCell ⟨Z19x19.heap.size, 1, none⟩ (.int .i64 q)).cell? ⟨q3, 0, none⟩ = some (.int .i64 A) := ((World.cell?_setCell_other _ _ _ _ (by intro e; injection e with e1 e2; omega)).trans ((World.cell?_setCell_other _ _ _ _ (by intro e; injection e with e1 e2; omega)).trans M0))
              replace M1 : ((Z19x25.setCell ⟨Z19x19.heap.size, 0, none⟩ (.int .i64 (1 + part.tmod (A + S) - q))).setCell ⟨Z19x19.heap.size, 1, none⟩ (.int .i64 q)).cell? ⟨q3, 1, none⟩ = some (.int .i64 S) := ((World.cell?_setCell_other _ _ _ _ (by intro e; injection e with e1 e2; omega)).trans ((World.cell?_setCell_other _ _ _ _ (by intro e; injection e with e1 e2; omega)).trans M1))
              replace Ef0 : ((Z19x25.setCell ⟨Z19x19.heap.size, 0, none⟩ (.int .i64 (1 + part.tmod (A + S) - q))).setCell ⟨Z19x19.heap.size, 1, none⟩ (.int .i64 q)).frozen? ⟨wd19.heap.size, 0, none⟩ = false := by simp [go_sem, Ef0]
              replace Ef1 : ((Z19x25.setCell ⟨Z19x19.heap.size, 0, none⟩ (.int .i64 (1 + part.tmod (A + S) - q))).setCell ⟨Z19x19.heap.size, 1, none⟩ (.int .i64 q)).frozen? ⟨wd19.heap.size, 1, none⟩ = false := by simp [go_sem, Ef1]
              replace E0 : ((Z19x25.setCell ⟨Z19x19.heap.size, 0, none⟩ (.int .i64 (1 + part.tmod (A + S) - q))).setCell ⟨Z19x19.heap.size, 1, none⟩ (.int .i64 q)).cell? ⟨wd19.heap.size, 0, none⟩ = some (.int .i64 0) := ((World.cell?_setCell_other _ _ _ _ (by intro e; injection e with e1 e2; omega)).trans ((World.cell?_setCell_other _ _ _ _ (by intro e; injection e with e1 e2; omega)).trans E0))
              replace E1 : ((Z19x25.setCell ⟨Z19x19.heap.size, 0, none⟩ (.int .i64 (1 + part.tmod (A + S) - q))).setCell ⟨Z19x19.heap.size, 1, none⟩ (.int .i64 q)).cell? ⟨wd19.heap.size, 1, none⟩ = some (.int .i64 0) := ((World.cell?_setCell_other _ _ _ _ (by intro e; injection e with e1 e2; omega)).trans ((World.cell?_setCell_other _ _ _ _ (by intro e; injection e with e1 e2; omega)).trans E1))
              replace Df0 : ((Z19x25.setCell ⟨Z19x19.heap.size, 0, none⟩ (.int .i64 (1 + part.tmod (A + S) - q))).setCell ⟨Z19x19.heap.size, 1, none⟩ (.int .i64 q)).frozen? ⟨Z19x19.heap.size, 0, none⟩ = false := by simp [go_sem, Df0]
              replace Df1 : ((Z19x25.setCell ⟨Z19x19.heap.size, 0, none⟩ (.int .i64 (1 + part.tmod (A + S) - q))).setCell ⟨Z19x19.heap.size, 1, none⟩ (.int .i64 q)).frozen? ⟨Z19x19.heap.size, 1, none⟩ = false := by simp [go_sem, Df1]
              replace D0 : ((Z19x25.setCell ⟨Z19x19.heap.size, 0, none⟩ (.int .i64 (1 + part.tmod (A + S) - q))).setCell ⟨Z19x19.heap.size, 1, none⟩ (.int .i64 q)).cell? ⟨Z19x19.heap.size, 0, none⟩ = some (.int .i64 (1 + part.tmod (A + S) - q)) := by simp [go_sem, D0]
              replace D1 : ((Z19x25.setCell ⟨Z19x19.heap.size, 0, none⟩ (.int .i64 (1 + part.tmod (A + S) - q))).setCell ⟨Z19x19.heap.size, 1, none⟩ (.int .i64 q)).cell? ⟨Z19x19.heap.size, 1, none⟩ = some (.int .i64 q) := by simp [go_sem, D1]
              replace nK : q2 < ((Z19x25.setCell ⟨Z19x19.heap.size, 0, none⟩ (.int .i64 (1 + part.tmod (A + S) - q))).setCell ⟨Z19x19.heap.size, 1, none⟩ (.int .i64 q)).heap.size := by simpa [World.setCell] using nK
              replace nM : q3 < ((Z19x25.setCell ⟨Z19x19.heap.size, 0, none⟩ (.int .i64 (1 + part.tmod (A + S) - q))).setCell ⟨Z19x19.heap.size, 1, none⟩ (.int .i64 q)).heap.size := by simpa [World.setCell] using nM
              replace nE : wd19.heap.size < ((Z19x25.setCell ⟨Z19x19.heap.size, 0, none⟩ (.int .i64 (1 + part.tmod (A + S) - q))).setCell ⟨Z19x19.heap.size, 1, none⟩ (.int .i64 q)).heap.size := by simpa [World.setCell] using nE
              replace nD : Z19x19.heap.size < ((Z19x25.setCell ⟨Z19x19.heap.size, 0, none⟩ (.int .i64 (1 + part.tmod (A + S) - q))).setCell ⟨Z19x19.heap.size, 1, none⟩ (.int .i64 q)).heap.size := by simpa [World.setCell] using nD
              replace hL := hL.setCell (p := ⟨Z19x19.heap.size, 0, none⟩) (by show wr.heap.size ≤ Z19x19.heap.size; omega) (.int .i64 (1 + part.tmod (A + S) - q))
              replace hL := hL.setCell (p := ⟨Z19x19.heap.size, 1, none⟩) (by show wr.heap.size ≤ Z19x19.heap.size; omega) (.int .i64 q)
              refine hK.out _ _ ⟨K0, K1, M0, M1, trivial⟩ (fun hHeld => ?_)
              clear hK K
              generalize ((Z19x25.setCell ⟨Z19x19.heap.size, 0, none⟩ (.int .i64 (1 + part.tmod (A + S) - q))).setCell ⟨Z19x19.heap.size, 1, none⟩ (.int .i64 q)) = Z19x26 at *
              try simp only [Act.put, List.setIfInBounds_toArray, List.set_cons_zero, List.set_cons_succ]
              refine wpAnyH_ready (rs := [19]) (by kernel_rfl) (by simp) ?_
              refine AllReadyH.cons rfl (fun K hK => ?_) AllReadyH.nil
              go_simp
              have hsM := hL.size
              replace K0 : ((Z19x26.setCell ⟨wd19.heap.size, 0, none⟩ (.int .i64 (A - (1 + part.tmod (A + S) - q)))).setCell ⟨wd19.heap.size, 1, none⟩ (.int .i64 (S - q))).cell? ⟨q2, 0, none⟩ = some (.int .i64 A) := ((World.cell?_setCell_other _ _ _ _ (by intro e; injection e with e1 e2; omega)).trans ((World.cell?_setCell_other _ _ _ _ (by intro e; injection e with e1 e2; omega)).trans K0))
              replace K1 : ((Z19x26.setCell ⟨wd19.heap.size, 0, none⟩ (.int .i64 (A - (1 + part.tmod (A + S) - q)))).setCell ⟨wd19.heap.size, 1, none⟩ (.int .i64 (S - q))).cell? ⟨q2, 1, none⟩ = some (.int .i64 S) := ((World.cell?_setCell_other _ _ _ _ (by intro e; injection e with e1 e2; omega)).trans ((World.cell?_setCell_other _ _ _ _ (by intro e; injection e with e1 e2; omega)).trans K1))
              replace K2 : ((Z19x26.setCell ⟨wd19.heap.size, 0, none⟩ (.int .i64 (A - (1 + part.tmod (A + S) - q)))).setCell ⟨wd19.heap.size, 1, none⟩ (.int .i64 (S - q))).cell? ⟨q2, 2, none⟩ = some (.int .i64 L) := ((World.cell?_setCell_other _ _ _ _ (by intro e; injection e with e1 e2; omega)).trans ((World.cell?_setCell_other _ _ _ _ (by intro e; injection e with e1 e2; omega)).trans K2))
              replace K3 : ((Z19x26.setCell ⟨wd19.heap.size, 0, none⟩ (.int .i64 (A - (1 + part.tmod (A + S) - q)))).setCell ⟨wd19.heap.size, 1, none⟩ (.int .i64 (S - q))).cell? ⟨q2, 3, none⟩ = some (.int .i64 Fl) := ((World.cell?_setCell_other _ _ _ _ (by intro e; injection e with e1 e2; omega)).trans ((World.cell?_setCell_other _ _ _ _ (by intro e; injection e with e1 e2; omega)).trans K3))
              replace M0 : ((Z19x26.setCell ⟨wd19.heap.size, 0, none⟩ (.int .i64 (A - (1 + part.tmod (A + S) - q)))).setCell ⟨wd19.heap.size, 1, none⟩ (.int .i64 (S - q))).cell? ⟨q3, 0, none⟩ = some (.int .i64 A) := ((World.cell?_setCell_other _ _ _ _ (by intro e; injection e with e1 e2; omega)).trans ((World.cell?_setCell_other _ _ _ _ (by intro e; injection e with e1 e2; omega)).trans M0))
              replace M1 : ((Z19x26.setCell ⟨wd19.heap.size, 0, none⟩ (.int .i64 (A - (1 + part.tmod (A + S) - q)))).setCell ⟨wd19.heap.size, 1, none⟩ (.int .i64 (S - q))).cell? ⟨q3, 1, none⟩ = some (.int .i64 S) := ((World.cell?_setCell_other _ _ _ _ (by intro e; injection e with e1 e2; omega)).trans ((World.cell?_setCell_other _ _ _ _ (by intro e; injection e with e1 e2; omega)).trans M1))
              replace Ef0 : ((Z19x26.setCell ⟨wd19.heap.size, 0, none⟩ (.int .i64 (A - (1 + part.tmod (A + S) - q)))).setCell ⟨wd19.heap.size, 1, none⟩ (.int .i64 (S - q))).frozen? ⟨wd19.heap.size, 0, none⟩ = false := by simp [go_sem, Ef0]
              replace Ef1 : ((Z19x26.setCell ⟨wd19.heap.size, 0, none⟩ (.int .i64 (A - (1 + part.tmod (A + S) - q)))).setCell ⟨wd19.heap.size, 1, none⟩ (.int .i64 (S - q))).frozen? ⟨wd19.heap.size, 1, none⟩ = false := by simp [go_sem, Ef1]
              replace E0 : ((Z19x26.setCell ⟨wd19.heap.size, 0, none⟩ (.int .i64 (A - (1 + part.tmod (A + S) - q)))).setCell ⟨wd19.heap.size, 1, none⟩ (.int .i64 (S - q))).cell? ⟨wd19.heap.size, 0, none⟩ = some (.int .i64 (A - (1 + part.tmod (A + S) - q))) := by simp [go_sem, E0]
              replace E1 : ((Z19x26.setCell ⟨wd19.heap.size, 0, none⟩ (.int .i64 (A - (1 + part.tmod (A + S) - q)))).setCell ⟨wd19.heap.size, 1, none⟩ (.int .i64 (S - q))).cell? ⟨wd19.heap.size, 1, none⟩ = some (.int .i64 (S - q)) := by simp [go_sem, E1]
              replace Df0 : ((Z19x26.setCell ⟨wd19.heap.size, 0, none⟩ (.int .i64 (A - (1 + part.tmod (A + S) - q)))).setCell ⟨wd19.heap.size, 1, none⟩ (.int .i64 (S - q))).frozen? ⟨Z19x19.heap.size, 0, none⟩ = false := by simp [go_sem, Df0]
              replace Df1 : ((Z19x26.setCell ⟨wd19.heap.size, 0, none⟩ (.int .i64 (A - (1 + part.tmod (A + S) - q)))).setCell ⟨wd19.heap.size, 1, none⟩ (.int .i64 (S - q))).frozen? ⟨Z19x19.heap.size, 1, none⟩ = false := by simp [go_sem, Df1]
              replace D0 : ((Z19x26.setCell ⟨wd19.heap.size, 0, none⟩ (.int .i64 (A - (1 + part.tmod (A + S) - q)))).setCell ⟨wd19.heap.size, 1, none⟩ (.int .i64 (S - q))).cell? ⟨Z19x19.heap.size, 0, none⟩ = some (.int .i64 (1 + part.tmod (A + S) - q)) := ((World.cell?_setCell_other _ _ _ _ (by intro e; injection e with e1 e2; omega)).trans ((World.cell?_setCell_other _ _ _ _ (by intro e; injection e with e1 e2; omega)).trans D0))
              replace D1 : ((Z19x26.setCell ⟨wd19.heap.size, 0, none⟩ (.int .i64 (A - (1 + part.tmod (A + S) - q)))).setCell ⟨wd19.heap.size, 1, none⟩ (.int .i64 (S - q))).cell? ⟨Z19x19.heap.size, 1, none⟩ = some (.int .i64 q) := ((World.cell?_setCell_other _ _ _ _ (by intro e; injection e with e1 e2; omega)).trans ((World.cell?_setCell_other _ _ _ _ (by intro e; injection e with e1 e2; omega)).trans D1))
              replace nK : q2 < ((Z19x26.setCell ⟨wd19.heap.size, 0, none⟩ (.int .i64 (A - (1 + part.tmod (A + S) - q)))).setCell ⟨wd19.heap.size, 1, none⟩ (.int .i64 (S - q))).heap.size := by simpa [World.setCell] using nK
              replace nM : q3 < ((Z19x26.setCell ⟨wd19.heap.size, 0, none⟩ (.int .i64 (A - (1 + part.tmod (A + S) - q)))).setCell ⟨wd19.heap.size, 1, none⟩ (.int .i64 (S - q))).heap.size := by simpa [World.setCell] using nM
              replace nE : wd19.heap.size < ((Z19x26.setCell ⟨wd19.heap.size, 0, none⟩ (.int .i64 (A - (1 + part.tmod (A + S) - q)))).setCell ⟨wd19.heap.size, 1, none⟩ (.int .i64 (S - q))).heap.size := by simpa [World.setCell] using nE
              replace nD : Z19x19.heap.size < ((Z19x26.setCell ⟨wd19.heap.size, 0, none⟩ (.int .i64 (A - (1 + part.tmod (A + S) - q)))).setCell ⟨wd19.heap.size, 1, none⟩ (.int .i64 (S - q))).heap.size := by simpa [World.setCell] using nD
              replace hL := hL.setCell (p := ⟨wd19.heap.size, 0, none⟩) (by show wr.heap.size ≤ wd19.heap.size; omega) (.int .i64 (A - (1 + part.tmod (A + S) - q)))
              replace hL := hL.setCell (p := ⟨wd19.heap.size, 1, none⟩) (by show wr.heap.size ≤ wd19.heap.size; omega) (.int .i64 (S - q))
              refine hK.out _ _ ⟨K0, K1, M0, M1, trivial⟩ (fun hHeld => ?_)
              clear hK K
              generalize ((Z19x26.setCell ⟨wd19.heap.size, 0, none⟩ (.int .i64 (A - (1 + part.tmod (A + S) - q)))).setCell ⟨wd19.heap.size, 1, none⟩ (.int .i64 (S - q))) = Z19x27 at *
              try simp only [Act.put, List.setIfInBounds_toArray, List.set_cons_zero, List.set_cons_succ]
              refine take_slot (i := 20) (d := 13) (v := ?_) rfl rfl (by kernel_rfl) (by kernel_rfl) (by kernel_rfl) (fun _ _ _ h => h) (Or.inl ⟨by rfl, ?_⟩) (by assumption) ?_
              rotate_left 1
              focus (intro wS hSw; (try dsimp only at hSw); go_simp; try with_reducible rfl)
              try simp only [List.setIfInBounds_toArray, List.set_cons_zero, List.set_cons_succ]
              refine wpAnyH_done (by kernel_rfl) ?_ _
              have hB2 := hB.trans hL
              clear hHeld hL
              generalize Z19x19.heap.size = gd at *
              generalize wd19.heap.size = ge at *
              exact key gd ge Z19x27 ⟨nD, nE, D0, D1, E0, E1, K0, K1, K2, K3, nK, hB2⟩
        case key =>
          intro gd ge W ⟨nD, nE, D0, D1, E0, E1, K0, K1, K2, K3, nK, hB⟩
          obtain ⟨h1, h2, h3⟩ := HSUM.out
          obtain ⟨h4, h5, h6, h7⟩ := HQ.out
          obtain ⟨⟨h8, h9⟩, h10, h11⟩ := HLF.out
          obtain ⟨⟨h12, h13⟩, h14, h15⟩ := HAS.out
          generalize 1 + part.tmod (A + S) = m at *
          have hkd : ([⟨m - q, q, L, Fl⟩] : List Kg).all kgB = true := by simp [kgB, spB, inB]; omega
          by_cases hz : A - (m - q) = 0 ∧ S - q = 0
          · obtain ⟨ha, hs⟩ := hz
            rw [ha] at E0
            rw [hs] at E1
            have CM : Hid (∀ W v', KsAt W.heap.size W v' [⟨m - q, q, L, Fl⟩] → Calls Try.prog 7 #[v'] W fun e w' => e = .returned (.tuple #[.agg #[.int .i64 A, .int .i64 S, .int .i64 L, .int .i64 Fl], .int .i64 0]) ∧ Below W.heap.size W w') := Lib.hid (fun W v' h => by
              have c := mixed_ok v' [⟨m - q, q, L, Fl⟩] W hkd (by simp) (by simp) h
              rw [again_one (by omega) h10, show m - q = A from by omega, show q = S from by omega] at c
              exact c)
            clear h1 h2 h3 h4 h5 h6 h7 h8 h9 h10 h11 h12 h13 h14 h15 hkd ha hs
            go_wp2_with fail
            refine (CM.out _ _ ((ks_one ⟨m - q, q, L, Fl⟩ (Nat.le_refl _) (fun j hj => ?_)).mono (by simp))).mono ?_
            · rcases (by omega : j = 0 ∨ j = 1 ∨ j = 2 ∨ j = 3) with rfl | rfl | rfl | rfl <;> simp [go_sem, cKg]
            rintro e w9 ⟨rfl, hb⟩
            replace hb := below1 hb
            replace K0 := cell_next hb nK K0
            replace K1 := cell_next hb nK K1
            replace K2 := cell_next hb nK K2
            replace K3 := cell_next hb nK K3
            replace hB := hB.trans (hb.mono hB.size)
            replace nK := Nat.lt_of_lt_of_le nK hb.size
            clear hb CM D0 D1 E0 E1 nD nE
            go_wp2_with fail
            refine (CN.out _).mono ?_
            rintro e w10 ⟨rfl, hb⟩
            go_wp2_with fail
            go_ret
            exact ⟨rfl, hbr.trans ((hB.trans ((below1 hb).mono hB.size)).mono hbr.size)⟩
          · have he1 : 0 ≤ A - (m - q) := by omega
            have he2 : 0 ≤ S - q := by omega
            have he3 : 1 ≤ (A - (m - q)) + (S - q) := by omega
            have hke : ([⟨m - q, q, L, Fl⟩, ⟨A - (m - q), S - q, L, Fl⟩] : List Kg).all kgB = true := by simp [kgB, spB, inB]; omega
            have CM : Hid (∀ W v', KsAt W.heap.size W v' [⟨m - q, q, L, Fl⟩, ⟨A - (m - q), S - q, L, Fl⟩] → Calls Try.prog 7 #[v'] W fun e w' => e = .returned (.tuple #[.agg #[.int .i64 A, .int .i64 S, .int .i64 L, .int .i64 Fl], .int .i64 0]) ∧ Below W.heap.size W w') := Lib.hid (fun W v' h => by
              have c := mixed_ok v' [⟨m - q, q, L, Fl⟩, ⟨A - (m - q), S - q, L, Fl⟩] W hke (by simp) (by simp) h
              rw [again_two (by omega) he3 h10, show m - q + (A - (m - q)) = A from by omega, show q + (S - q) = S from by omega] at c
              exact c)
            generalize A - (m - q) = e1 at *
            generalize S - q = e2 at *
            generalize m - q = d1 at *
            have hne : ¬ (e1 = 0 ∧ e2 = 0) := by omega
            clear h1 h2 h3 h4 h5 h6 h7 h8 h9 h10 h11 h12 h13 h14 h15 hkd hke he1 he2 he3
            by_cases h0 : e1 = 0
            · subst h0
              have n2 : ¬ e2 = 0 := fun h => hne ⟨rfl, h⟩
              have n3 : (e2 == 0) = false := by simpa using n2
              clear hne
              go_wp2_with (at_builtin; refine wpList_append_own_at _ rfl (.tmp 183) (.tmp 190) 25 rfl W.heap.size 37 i0 (.agg #[.int .i64 0, .int .i64 0, .int .i64 0, .int .i64 0]) 4 32 Try.underlying25 hi0 hiz0 hiz1 hiz2 rfl (by decide) (.slice (some ⟨W.heap.size, 0, none⟩) 1 1) 1 (flatK [⟨d1, q, L, Fl⟩]) rfl (World.ownsRow.alloc (own_keg1 ⟨d1, q, L, Fl⟩ W) _) ⟨W.heap.size + 1, 0, none⟩ 1 1 [.int .i64 0, .int .i64 e2, .int .i64 L, .int .i64 Fl] rfl rfl ?_ ?_ ?_ ?_ ?_ ?_)
              case refine_6 =>
                intro v2 w9 hown' hgrow _ hat
                have hb : Below W.heap.size W w9 := (below_al2 W _ _).grown hgrow (by simp; omega) (fun j hj => by simp [Value.ownBlock] at hj; omega)
                have hKs := own_kegs [⟨d1, q, L, Fl⟩, ⟨0, e2, L, Fl⟩] 2 rfl v2 w9 hown'
                replace CM := Lib.hid (CM.out _ _ hKs)
                clear hown' hgrow hat hKs
                replace K0 := cell_next hb nK K0
                replace K1 := cell_next hb nK K1
                replace K2 := cell_next hb nK K2
                replace K3 := cell_next hb nK K3
                replace hB := hB.trans (hb.mono hB.size)
                replace nK := Nat.lt_of_lt_of_le nK hb.size
                clear hb D0 D1 E0 E1 nD nE
                go_wp2_with fail
                refine CM.out.mono ?_
                rintro e w11 ⟨rfl, hb⟩
                replace K0 := cell_next hb nK K0
                replace K1 := cell_next hb nK K1
                replace K2 := cell_next hb nK K2
                replace K3 := cell_next hb nK K3
                replace hB := hB.trans (hb.mono hB.size)
                replace nK := Nat.lt_of_lt_of_le nK hb.size
                clear hb CM
                go_wp2_with fail
                refine (CN.out _).mono ?_
                rintro e w10 ⟨rfl, hb⟩
                go_wp2_with fail
                go_ret
                exact ⟨rfl, hbr.trans ((hB.trans ((below1 hb).mono hB.size)).mono hbr.size)⟩
              all_goals first
                | (intro j u hj; rcases j with _ | _ | _ | _ | j <;> simp at hj <;> subst hj <;> exact (cell_at _ _ _ _ _ (by simp)))
                | (simp [Value.oneCell']; done)
                | (unfold maxLen; omega)
                | omega
                | (simp; omega)
            · have n3 : (e1 == 0) = false := by simpa using h0
              clear hne
              go_wp2_with (at_builtin; refine wpList_append_own_at _ rfl (.tmp 183) (.tmp 190) 25 rfl W.heap.size 37 i0 (.agg #[.int .i64 0, .int .i64 0, .int .i64 0, .int .i64 0]) 4 32 Try.underlying25 hi0 hiz0 hiz1 hiz2 rfl (by decide) (.slice (some ⟨W.heap.size, 0, none⟩) 1 1) 1 (flatK [⟨d1, q, L, Fl⟩]) rfl (World.ownsRow.alloc (own_keg1 ⟨d1, q, L, Fl⟩ W) _) ⟨W.heap.size + 1, 0, none⟩ 1 1 [.int .i64 e1, .int .i64 e2, .int .i64 L, .int .i64 Fl] rfl rfl ?_ ?_ ?_ ?_ ?_ ?_)
              case refine_6 =>
                intro v2 w9 hown' hgrow _ hat
                have hb : Below W.heap.size W w9 := (below_al2 W _ _).grown hgrow (by simp; omega) (fun j hj => by simp [Value.ownBlock] at hj; omega)
                have hKs := own_kegs [⟨d1, q, L, Fl⟩, ⟨e1, e2, L, Fl⟩] 2 rfl v2 w9 hown'
                replace CM := Lib.hid (CM.out _ _ hKs)
                clear hown' hgrow hat hKs
                replace K0 := cell_next hb nK K0
                replace K1 := cell_next hb nK K1
                replace K2 := cell_next hb nK K2
                replace K3 := cell_next hb nK K3
                replace hB := hB.trans (hb.mono hB.size)
                replace nK := Nat.lt_of_lt_of_le nK hb.size
                clear hb D0 D1 E0 E1 nD nE
                go_wp2_with fail
                refine CM.out.mono ?_
                rintro e w11 ⟨rfl, hb⟩
                replace K0 := cell_next hb nK K0
                replace K1 := cell_next hb nK K1
                replace K2 := cell_next hb nK K2
                replace K3 := cell_next hb nK K3
                replace hB := hB.trans (hb.mono hB.size)
                replace nK := Nat.lt_of_lt_of_le nK hb.size
                clear hb CM
                go_wp2_with fail
                refine (CN.out _).mono ?_
                rintro e w10 ⟨rfl, hb⟩
                go_wp2_with fail
                go_ret
                exact ⟨rfl, hbr.trans ((hB.trans ((below1 hb).mono hB.size)).mono hbr.size)⟩
              all_goals first
                | (intro j u hj; rcases j with _ | _ | _ | _ | j <;> simp at hj <;> subst hj <;> exact (cell_at _ _ _ _ _ (by simp)))
                | (simp [Value.oneCell']; done)
                | (unfold maxLen; omega)
                | omega
                | (simp; omega)
end Go.Proofs.Ytloddjjmoaljhaa
