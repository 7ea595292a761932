/- Contract of package candy: Make. -/
import Derived.Test.YtgklpbgdimkhaaaGreatJ6
import Derived.OwnWalk
namespace Go.Proofs.YtgklpbgdimkhaaaGreat
open Go.RowKit Go.Lib Go.Shelf
set_option linter.unusedVariables false
set_option linter.unusedSimpArgs false
attribute [local go_sem ↓] Go.wp_at_zero Go.wp_at_succ


theorem infoSt : (Tryz.prog.info? 52).map (fun i => (i.zero, i.size, i.bytes)) = some (some (.agg #[.int .i64 0, .int .i64 0, .int .i64 0, .int .i64 0, .int .i64 0, .int .i64 0, .int .i64 0, .int .i64 0, .bool false, .int .i64 0]), 10, 80) := by kernel_rfl
theorem acS_ok {R : Cr} {x : St} {a : Ac} (h : StOk x) : StOk (acS R x a) := by
 obtain ⟨ht, hs⟩ := h
 unfold acS
 split
 ·split
  ·unfold ckS; split
   ·exact ⟨ht, hs⟩
   ·exact ⟨ht, hs⟩
  ·exact ⟨ht, hs⟩
 ·split
  ·split
   ·unfold coS; split
    ·exact ⟨ht, hs⟩
    ·exact ⟨ht, hs⟩
   ·exact ⟨ht, hs⟩
  ·split
   ·split
    ·unfold siS; split
     ·rename_i h0
      unfold siE at h0
      split at h0
      ·rename_i h1
       have h2 := rgB_of h1
       split at h0
       ·omega
       ·refine ⟨?_, hs⟩
        show 0 ≤ x.tl + a.lo ∧ x.tl + a.lo ≤ x.th + a.hi ∧ x.th + a.hi ≤ 1000
        omega
      ·omega
     ·exact ⟨ht, hs⟩
    ·exact ⟨ht, hs⟩
   ·split
    ·split
     ·unfold seS; split
      ·rename_i h0
       unfold seE at h0
       split at h0
       ·rename_i h1
        simp [inB] at h1
        split at h0
        ·omega
        ·refine ⟨ht, ?_⟩
         show 0 ≤ x.se + a.m ∧ x.se + a.m ≤ 1000000
         omega
       ·omega
      ·exact ⟨ht, hs⟩
     ·exact ⟨ht, hs⟩
    ·exact ⟨ht, hs⟩
/-- the state behind some acts -/
noncomputable def stN (R : Cr) (x : St) (l : List Ac) : St := l.foldl (acS R) x
theorem stN_snoc (R : Cr) (x : St) (l : List Ac) (a : Ac) : stN R x (l ++ [a]) = acS R (stN R x l) a := by simp [stN, List.foldl_append]
theorem stN_ok {R : Cr} {x : St} (h : StOk x) : ∀ l, StOk (stN R x l) := by
 intro l
 induction l generalizing x with
 | nil => exact h
 | cons a l ih => exact ih (acS_ok h)
theorem st0_ok (a s : Int) : StOk (st0 a s) := ⟨by simp [st0], by simp [st0]⟩
noncomputable def stL (R : Cr) (x : St) (acts : List Ac) (k : Nat) : List St := (List.range k).map fun j => stN R x (acts.take (j + 1))
theorem stL_succ (R : Cr) (x : St) (acts : List Ac) (k : Nat) : stL R x acts (k + 1) = stL R x acts k ++ [stN R x (acts.take (k + 1))] := by simp [stL, List.range_succ]
def flatS (l : List St) : List Value := l.flatMap cSt
theorem flatS_snoc (l : List St) (x : St) : flatS (l ++ [x]) = flatS l ++ cSt x := by simp [flatS]
/-- the first k acts have no error -/
def okTo (R : Cr) (x : St) (acts : List Ac) (k : Nat) : Prop := ∀ j a, j < k → acts[j]? = some a → acE R (stN R x (acts.take j)) a = 0
theorem okTo_succ {R : Cr} {x : St} {acts : List Ac} {k : Nat} {a : Ac} (h : okTo R x acts k) (ha : acts[k]? = some a) (h0 : acE R (stN R x (acts.take k)) a = 0) : okTo R x acts (k + 1) := by
 intro j b hj hb
 by_cases e : j = k
 ·subst e; rw [ha] at hb; injection hb with hb; subst hb; exact h0
 ·exact h j b (by omega) hb
/-- which act is wrong, and its error -/
def MkRes (R : Cr) (a s : Int) (acts : List Ac) (at' er : Int) : Prop :=
 (nbE R a s ≠ 0 ∧ at' = 0 ∧ er = nbE R a s) ∨ (nbE R a s = 0 ∧ 30 < acts.length ∧ at' = 0 ∧ er = 5) ∨
 (nbE R a s = 0 ∧ acts.length ≤ 30 ∧ ((∃ (j : Nat) (x : Ac), acts[j]? = some x ∧ okTo R (st0 a s) acts j ∧ er = acE R (stN R (st0 a s) (acts.take j)) x ∧ er ≠ 0 ∧ at' = j) ∨ (okTo R (st0 a s) acts acts.length ∧ at' = 0 ∧ er = 0)))
theorem mkRes_one {R : Cr} {a s : Int} {acts : List Ac} {p q p' q' : Int} (h : MkRes R a s acts p q) (h' : MkRes R a s acts p' q') : p = p' ∧ q = q' := by
 rcases h with ⟨h1, h2, h3⟩ | ⟨h1, h2, h3, h4⟩ | ⟨h1, h2, h3⟩ <;> rcases h' with ⟨g1, g2, g3⟩ | ⟨g1, g2, g3, g4⟩ | ⟨g1, g2, g3⟩
 all_goals first | omega | exact ⟨by omega, by omega⟩ | (exfalso; omega) | skip
 rcases h3 with ⟨j, x, hj, ho, he, hn, ha⟩ | ⟨ho, ha, he⟩ <;> rcases g3 with ⟨j', x', hj', ho', he', hn', ha'⟩ | ⟨ho', ha', he'⟩
 ·rcases Nat.lt_trichotomy j j' with hl | hl | hl
  ·exact absurd (he.trans (ho' j x hl hj)) hn
  ·subst hl; rw [hj] at hj'; injection hj' with hj'; subst hj'; exact ⟨by omega, by omega⟩
  ·exact absurd (he'.trans (ho j' x' hl hj')) hn'
 ·exact absurd (he.trans (ho' j x (List.getElem?_eq_some_iff.1 hj).1 hj)) hn
 ·exact absurd (he'.trans (ho j' x' (List.getElem?_eq_some_iff.1 hj').1 hj')) hn'
 ·omega
def MkPost (w : World) (R : Cr) (a s : Int) (acts : List Ac) (e : Ending) (w' : World) : Prop :=
 ∃ sv at' er, e = .returned (.tuple #[sv, .int .i64 at', .int .i64 er]) ∧ Below w.heap.size w w' ∧ MkRes R a s acts at' er ∧ (er = 0 → w'.ownsRow w.heap.size 52 10 sv acts.length (flatS (stL R (st0 a s) acts acts.length))) ∧ (er ≠ 0 → sv = .slice none 0 0)
theorem mk_post {w w' : World} {R : Cr} {a s : Int} {acts : List Ac} (sv : Value) (at' er : Int) (hB : Below w.heap.size w w') (hm : MkRes R a s acts at' er) (h0 : er = 0 → w'.ownsRow w.heap.size 52 10 sv acts.length (flatS (stL R (st0 a s) acts acts.length))) (h1 : er ≠ 0 → sv = .slice none 0 0) : MkPost w R a s acts (.returned (.tuple #[sv, .int .i64 at', .int .i64 er])) w' := ⟨sv, at', er, rfl, hB, hm, h0, h1⟩
theorem own_monoJ {w : World} {base base' : Nat} {e : TypeId} {size : Nat} {v : Value} {n : Nat} {xs : List Value} (h : w.ownsRow base' e size v n xs) (hb : base ≤ base') : w.ownsRow base e size v n xs := by
 refine ⟨h.1, ?_⟩
 rcases h.2 with h0 | ⟨g, cap, cur, e, hg, r⟩
 ·exact .inl h0
 ·exact .inr ⟨g, cap, cur, e, by omega, r⟩
theorem own_grownJ {w w' : World} {b base e size n : Nat} {v : Value} {xs : List Value} (h : w.ownsRow base e size v n xs) (hg : w.grownBy w' (some b)) (hb : b < base) : w'.ownsRow base e size v n xs :=
 ownsRow_kept h (Kept.of_grown hg) (fun g hg' e => by injection e with e; subst e; have := (World.ownsRow.lt h _ hg').1; omega)
theorem bt_grown {b : Nat} {w w' : World} {x : St} {v1 v2 v3 : Value} {R : Cr} {row : Option Nat} (h : BtAt b w x v1 v2 v3 R) (hg : w.grownBy w' row) (hne : ∀ r, row = some r → b ≠ r) : BtAt b w' x v1 v2 v3 R :=
 ⟨Nat.lt_of_lt_of_le h.n hg.size, fun j u hj => grown_cell' hg h.n hne (h.c j u hj), fun j hj => by
  have := h.f j hj
  rw [← this]
  exact World.frozen?_of_block (hg.block b h.n (fun e => hne b e.symm rfl))⟩

set_option maxRecDepth 20000 in
set_option maxHeartbeats 4000000 in
theorem make_any (v1 v2 v3 va : Value) (R : Cr) (a s : Int) (acts : List Ac) (w : World) (hv : CrAt w.heap.size w v1 v2 v3 R) (ha : RsAt 4 cAc w.heap.size w va acts) (hl : acts.length ≤ 1000000000000) (hk : ∀ x ∈ acts, -9223372036854775808 ≤ x.k ∧ x.k ≤ 9223372036854775807) :
  Calls Tryz.prog 20 #[.agg (cCr v1 v2 v3 R).toArray, .agg #[.int .i64 a, .int .i64 s], va] w (MkPost w R a s acts) := by
 obtain ⟨i0, hi0, hz0, hz1, hz2⟩ := info_parts infoSt
 have C1 := Lib.hid (fun (W : World) (h : Below w.heap.size w W) => newBatch_any v1 v2 v3 R a s W (hv.next h))
 have HV := Lib.hid (fun (W : World) (h : Below w.heap.size w W) => hv.below h (Nat.le_refl _))
 have HC := Lib.hid (fun (hr : crB R = true) (b : Nat) (x : Ac) (l : List Ac) (W : World) (h : Below w.heap.size w W) (hb : BtAt b W (stN R (st0 a s) l) v1 v2 v3 R) (hx : x ∈ acts) => carry_any b (stN R (st0 a s) l) v1 v2 v3 R x w.heap.size W (stN_ok (st0_ok a s) l) hb (HV.out W h) hr h.size (hk x hx))
 have HP := Lib.hid (fun (sv : Value) (at' er : Int) (w' : World) => @mk_post w w' R a s acts sv at' er)
 obtain ⟨Q, hQ⟩ : ∃ Q, MkPost w R a s acts = Q := ⟨_, rfl⟩
 rw [hQ] at HP ⊢
 clear hQ
 have hcr : Hid (nbE R a s = 0 → crB R = true) := Lib.hid (fun h => by unfold nbE at h; split at h; assumption; omega)
 obtain ⟨A1, c1, A2, c2, A3, c3, rfl, rfl, rfl⟩ := hv.slices
 obtain ⟨A4, c4, rfl, hra⟩ := ha
 clear hv
 obtain ⟨E0, hE0⟩ : ∃ E, nbE R a s = E := ⟨_, rfl⟩
 obtain ⟨n, hn⟩ : ∃ n, acts.length = n := ⟨_, rfl⟩
 have HRes := Lib.hid (And.intro hE0 hn)
 rw [hn] at HP hra ⊢
 unfold NbPost at C1
 rw [hE0] at hcr C1
 have HRA := Lib.hid hra
 have hnl : n ≤ 1000000000000 := by omega
 clear hn hra hE0 hk hl
 by_cases h0 : E0 = 0
 ·subst h0
  have hcrt := hcr.out rfl
  replace HC := Lib.hid (HC.out hcrt)
  clear hcr
  obtain ⟨xs, ys, bl, bh, ps⟩ := R
  dsimp only [cCr] at *
  go_enter Tryz.func20, Tryz.ntmps20
  go_wp2_with fail
  refine (C1.out _ (((Below.refl _ _).alloc (Nat.le_refl _) _).alloc (by simp) _)).mono ?_
  rintro e W1 ⟨p, rfl, hb1, hg1, _⟩
  obtain ⟨b, rfl, hwb, hbt⟩ := hg1 (by simp)
  have hB := below2 hb1
  replace hwb : w.heap.size ≤ b := by simp at hwb; omega
  clear hb1 hg1 C1
  by_cases h30 : (30 : Int) < (n : Int)
  ·have hm := Lib.hid (show MkRes ⟨xs, ys, bl, bh, ps⟩ a s acts 0 5 from .inr (.inl ⟨HRes.out.1, by have := HRes.out.2; omega, rfl, rfl⟩))
   clear hbt
   go_wp2_with fail
   go_ret3
   exact HP.out _ _ _ _ hB hm.out (by simp) (fun _ => rfl)
  ·have hn30 : n ≤ 30 := by omega
   have hbl := hbt.n
   go_wp2_with fail
   go_loopw [6, 27] (fun sv i wr => ∃ k : Nat, k ≤ n ∧ i = .int .i64 k ∧ Hid (wr.ownsRow (b + 1) 52 10 sv k (flatS (stL ⟨xs, ys, bl, bh, ps⟩ (st0 a s) acts k))) ∧ Hid (BtAt b wr (stN ⟨xs, ys, bl, bh, ps⟩ (st0 a s) (acts.take k)) (.slice A1 xs.length c1) (.slice A2 ys.length c2) (.slice A3 ps.length c3) ⟨xs, ys, bl, bh, ps⟩) ∧ Hid (okTo ⟨xs, ys, bl, bh, ps⟩ (st0 a s) acts k) ∧ Below w.heap.size w wr ∧ b < wr.heap.size) (fun _ i _ => n - (RowKit.intOf i).toNat)
   case atStart => exact ⟨0, Nat.zero_le _, rfl, Lib.hid (World.ownsRow_nil _ _ _ _), Lib.hid hbt, Lib.hid (fun j x hj => absurd hj (by omega)), hB, hbl⟩
   case round =>
    clear hbt
    obtain ⟨k, hk, rfl, ho, hbt, hok, hbr, hbn⟩ := hrel
    by_cases hlt : (k : Int) < (n : Int)
    ·obtain ⟨x, hp⟩ : ∃ x, acts[k]? = some x := ⟨_, List.getElem?_eq_getElem (by have := HRes.out.2; omega)⟩
     obtain ⟨g, off, rfl, hg, hc⟩ := HRA.out (by omega)
     have HCk := Lib.hid (fun (W : World) (h : Below w.heap.size w W) (hb : BtAt b W _ _ _ _ _) => HC.out b x (acts.take k) W h hb (List.mem_of_getElem? hp))
     have HK := Lib.hid (fun (h : acE ⟨xs, ys, bl, bh, ps⟩ (stN ⟨xs, ys, bl, bh, ps⟩ (st0 a s) (acts.take k)) x = 0) => okTo_succ hok.out hp h)
     have hbad := Lib.hid (fun (h : acE ⟨xs, ys, bl, bh, ps⟩ (stN ⟨xs, ys, bl, bh, ps⟩ (st0 a s) (acts.take k)) x ≠ 0) => (.inr (.inr ⟨HRes.out.1, by have := HRes.out.2; omega, .inl ⟨k, x, hp, hok.out, rfl, h, rfl⟩⟩) : MkRes ⟨xs, ys, bl, bh, ps⟩ a s acts k _))
     have hsn : Hid (acS ⟨xs, ys, bl, bh, ps⟩ (stN ⟨xs, ys, bl, bh, ps⟩ (st0 a s) (acts.take k)) x = stN ⟨xs, ys, bl, bh, ps⟩ (st0 a s) (acts.take (k + 1))) := Lib.hid (by rw [← stN_snoc, List.take_add_one, hp]; rfl)
     have hsl : Hid (flatS (stL ⟨xs, ys, bl, bh, ps⟩ (st0 a s) acts (k + 1)) = flatS (stL ⟨xs, ys, bl, bh, ps⟩ (st0 a s) acts k) ++ cSt (stN ⟨xs, ys, bl, bh, ps⟩ (st0 a s) (acts.take (k + 1)))) := Lib.hid (by rw [stL_succ, flatS_snoc])
     generalize acE ⟨xs, ys, bl, bh, ps⟩ (stN ⟨xs, ys, bl, bh, ps⟩ (st0 a s) (acts.take k)) x = E at *
     have q0 : wr.cell? ⟨g, off + k * 4, none⟩ = some (.int .i64 x.k) := cell_next hbr hg (hc k x hp 0 _ rfl)
     have q1 : wr.cell? ⟨g, off + k * 4 + 1, none⟩ = some (.int .i64 x.lo) := cell_next hbr hg (hc k x hp 1 _ rfl)
     have q2 : wr.cell? ⟨g, off + k * 4 + 2, none⟩ = some (.int .i64 x.hi) := cell_next hbr hg (hc k x hp 2 _ rfl)
     have q3 : wr.cell? ⟨g, off + k * 4 + 3, none⟩ = some (.int .i64 x.m) := cell_next hbr hg (hc k x hp 3 _ rfl)
     clear hc hp hok
     dsimp only [cAc] at HCk
     go_wp2_with fail
     have hal := (Below.refl wr.heap.size wr).alloc (Nat.le_refl _) (Obj.cells #[.int .i64 x.k, .int .i64 x.lo, .int .i64 x.hi, .int .i64 x.m] 50)
     refine (HCk.out _ (hbr.alloc hbr.size _) (hbt.out.next hal)).mono ?_
     rintro e W2 ⟨rfl, hbt2, hgr⟩
     have hB2 := (hbr.alloc hbr.size (Obj.cells #[.int .i64 x.k, .int .i64 x.lo, .int .i64 x.hi, .int .i64 x.m] 50)).grown hgr (by have := hbr.size; simp; omega) (fun r hr => by injection hr with hr; omega)
     have HO2 := Lib.hid (own_grownJ (own_below ho.out hal) hgr (by omega))
     have hbn2 := hbt2.n
     clear hgr hal ho hbt HCk q0 q1 q2 q3
     by_cases hE : E = 0
     ·subst hE
      have hok' := Lib.hid (HK.out rfl)
      rw [hsn.out] at hbt2
      obtain ⟨X, hX⟩ : ∃ X, stN ⟨xs, ys, bl, bh, ps⟩ (st0 a s) (acts.take (k + 1)) = X := ⟨_, rfl⟩
      rw [hX] at hbt2 hsl
      have HX := Lib.hid hX
      clear hX
      obtain ⟨dl, dh, hl, hh, sl, sh, tl, th, bg, se⟩ := X
      have HBT := Lib.hid hbt2
      have p0 : W2.cell? ⟨b, 0, none⟩ = some (.int .i64 dl) := hbt2.c 0 _ rfl
      have p1 : W2.cell? ⟨b, 1, none⟩ = some (.int .i64 dh) := hbt2.c 1 _ rfl
      have p2 : W2.cell? ⟨b, 2, none⟩ = some (.int .i64 hl) := hbt2.c 2 _ rfl
      have p3 : W2.cell? ⟨b, 3, none⟩ = some (.int .i64 hh) := hbt2.c 3 _ rfl
      have p4 : W2.cell? ⟨b, 4, none⟩ = some (.int .i64 sl) := hbt2.c 4 _ rfl
      have p5 : W2.cell? ⟨b, 5, none⟩ = some (.int .i64 sh) := hbt2.c 5 _ rfl
      have p6 : W2.cell? ⟨b, 6, none⟩ = some (.int .i64 tl) := hbt2.c 6 _ rfl
      have p7 : W2.cell? ⟨b, 7, none⟩ = some (.int .i64 th) := hbt2.c 7 _ rfl
      have p8 : W2.cell? ⟨b, 8, none⟩ = some (.bool bg) := hbt2.c 8 _ rfl
      have p9 : W2.cell? ⟨b, 9, none⟩ = some (.int .i64 se) := hbt2.c 9 _ rfl
      clear hbt2 HK hbad hsn
      go_wp2_with (at_builtin; refine wpList_append_own_at _ rfl (.tmp 39) (.tmp 44) 45 rfl (b + 1) 52 i0 (.agg #[.int .i64 0, .int .i64 0, .int .i64 0, .int .i64 0, .int .i64 0, .int .i64 0, .int .i64 0, .int .i64 0, .bool false, .int .i64 0]) 10 80 Tryz.underlying45 hi0 hz0 hz1 hz2 rfl (by decide) _ k (flatS (stL ⟨xs, ys, bl, bh, ps⟩ (st0 a s) acts k)) rfl (HO2.out.alloc _) ⟨W2.heap.size, 0, none⟩ 1 1 (cSt ⟨dl, dh, hl, hh, sl, sh, tl, th, bg, se⟩) rfl rfl ?_ ?_ ?_ ?_ ?_ ?_)
      case refine_1 =>
       intro j u hj
       rcases j with _ | j
       ·simp [cSt] at hj; subst hj; exact cell_new _ _ _ 0
       rcases j with _ | j
       ·simp [cSt] at hj; subst hj; exact cell_new _ _ _ 1
       rcases j with _ | j
       ·simp [cSt] at hj; subst hj; exact cell_new _ _ _ 2
       rcases j with _ | j
       ·simp [cSt] at hj; subst hj; exact cell_new _ _ _ 3
       rcases j with _ | j
       ·simp [cSt] at hj; subst hj; exact cell_new _ _ _ 4
       rcases j with _ | j
       ·simp [cSt] at hj; subst hj; exact cell_new _ _ _ 5
       rcases j with _ | j
       ·simp [cSt] at hj; subst hj; exact cell_new _ _ _ 6
       rcases j with _ | j
       ·simp [cSt] at hj; subst hj; exact cell_new _ _ _ 7
       rcases j with _ | j
       ·simp [cSt] at hj; subst hj; exact cell_new _ _ _ 8
       rcases j with _ | j
       ·simp [cSt] at hj; subst hj; exact cell_new _ _ _ 9
       ·simp [cSt] at hj
      case refine_2 => simp [cSt, Value.oneCell']
      case refine_3 => unfold maxLen; omega
      case refine_4 => omega
      case refine_5 => simp; omega
      case refine_6 =>
       intro sv' W3 hown' hgrow _ hat
       have hrow : ∀ r, Value.ownBlock _ = some r → b + 1 ≤ r := fun r hr => (World.ownsRow.lt HO2.out r hr).1
       have hal3 := (Below.refl W2.heap.size W2).alloc (Nat.le_refl _) (Obj.cells #[.int .i64 dl, .int .i64 dh, .int .i64 hl, .int .i64 hh, .int .i64 sl, .int .i64 sh, .int .i64 tl, .int .i64 th, .bool bg, .int .i64 se] 52)
       have hbt3 := Lib.hid (bt_grown (HBT.out.next hal3) hgrow (fun r hr => by have := hrow r hr; omega))
       have hB3 := (hB2.alloc hB2.size (Obj.cells #[.int .i64 dl, .int .i64 dh, .int .i64 hl, .int .i64 hh, .int .i64 sl, .int .i64 sh, .int .i64 tl, .int .i64 th, .bool bg, .int .i64 se] 52)).grown hgrow (by have := hB2.size; simp; omega) (fun r hr => by have := hrow r hr; omega)
       have hbn3 := hbt3.out.n
       have HO3 : Hid (W3.ownsRow (b + 1) 52 10 sv' (k + 1) (flatS (stL ⟨xs, ys, bl, bh, ps⟩ (st0 a s) acts (k + 1)))) := Lib.hid (by rw [hsl.out]; exact hown')
       clear hown' hgrow hat hrow hal3 HBT hsl HO2 p0 p1 p2 p3 p4 p5 p6 p7 p8 p9
       go_wp2_with fail
       go_roundw
       case rel => exact ⟨k + 1, by omega, by go_num, HO3, Lib.hid (by rw [HX.out]; exact hbt3.out), hok', hB3, hbn3⟩
       case measure => simp [RowKit.intOf]; omega
     ·have hEb : (E == 0) = false := by simpa using hE
      have hEc : (E != 0) = true := by simpa using hE
      have hm := Lib.hid (hbad.out hE)
      clear hbt2 HK hbad hsn hsl HO2
      go_wp2_with fail
      go_ret3
      exact HP.out _ _ _ _ hB2 hm.out (fun h => absurd h hE) (fun _ => rfl)
    ·obtain rfl : k = n := by omega
     have hm := Lib.hid (show MkRes ⟨xs, ys, bl, bh, ps⟩ a s acts 0 0 from .inr (.inr ⟨HRes.out.1, by have := HRes.out.2; omega, .inr ⟨by have := hok.out; rw [HRes.out.2]; exact this, rfl, rfl⟩⟩))
     have HO := Lib.hid (own_monoJ ho.out (show w.heap.size ≤ b + 1 by omega))
     clear hbt ho hok
     go_wp2_with fail
     go_ret3
     exact HP.out _ _ _ _ hbr hm.out (fun _ => HO.out) (fun h => absurd rfl h)
 ·have h0b : (E0 == 0) = false := by simpa using h0
  have h0c : (E0 != 0) = true := by simpa using h0
  have hm := Lib.hid (show MkRes R a s acts 0 E0 from .inl ⟨by rw [HRes.out.1]; exact h0, rfl, HRes.out.1.symm⟩)
  clear HC hcr
  obtain ⟨xs, ys, bl, bh, ps⟩ := R
  dsimp only [cCr] at *
  go_enter Tryz.func20, Tryz.ntmps20
  go_wp2_with fail
  refine (C1.out _ (((Below.refl _ _).alloc (Nat.le_refl _) _).alloc (by simp) _)).mono ?_
  rintro e W1 ⟨p, rfl, hb1, _, hp1⟩
  obtain rfl := hp1 h0
  have hB := below2 hb1
  clear hb1 hp1 C1
  go_wp2_with fail
  go_ret3
  exact HP.out _ _ _ _ hB hm.out (fun h => absurd h h0) (fun _ => rfl)
end Go.Proofs.YtgklpbgdimkhaaaGreat
